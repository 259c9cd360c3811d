/- What the library answers package token, in chapter 14's words: run, quotes, parsed numbers, copies; and what its variables hold. -/
import Derived.Shelf.Strings.SlTrimAscii
import Derived.Test.YthcompcjphaahaaGreatDoorh02
import Derived.Test.YthcompcjphaahaaGreatDoorh06
import Derived.Test.YthcompcjphaahaaGreatDoorh07
set_option maxRecDepth 100000
set_option maxHeartbeats 8000000
set_option linter.unusedVariables false
namespace Go.Proofs.YthcompcjphaahaaGreatDoor
open Go.RowKit
structure LibAt (w:World):Prop where
 mx:∃ m,w.cell? ⟨2,0,none⟩=some (.int .i64 m)
 er:∃ ev,w.cell? ⟨4,0,none⟩=some ev∧(ev=.nilIface∨∃ te pe,ev=.iface te pe)
theorem LibAt.held {w w1:World} (h:LibAt w) (hb:Below w.heap.size w w1):LibAt w1:=by
 obtain ⟨⟨m,hm⟩,ev,hv,hev⟩:=h;exact ⟨⟨m,keepL hb hm⟩,ev,keepL hb hv,hev⟩
theorem jh9 {p q:UInt8→Bool} (h:∀ n:Fin 256,p (UInt8.ofNat n.val)=q (UInt8.ofNat n.val)) (b:UInt8):p b=q b:=by
 have:=h ⟨b.toNat,UInt8.toNat_lt b⟩
 rwa [UInt8.ofNat_toNat] at this
theorem js6 (b:UInt8):([32,9,10,13]:List UInt8).contains b=blk b:=jh9 (by decide) b
theorem jti (b:UInt8):([48,49,50,51,52,53,54,55,56,57]:List UInt8).contains b=dig b:=jh9 (by decide) b
theorem jny (p:UInt8→Bool) (l:List UInt8):l.length - (l.dropWhile p).length=(l.takeWhile p).length:=by
 have:=congrArg List.length (List.takeWhile_append_dropWhile (p:=p) (l:=l))
 simp only [List.length_append] at this;omega
theorem jqq (s cs:ByteArray) (w:World) (hcs:cs.size<4294967281) (hascii:∀ (j:Nat) b,cs.data.toList[j]?=some b→b.toNat<128):
  Calls Tryz.prog 113 #[.string s,.string cs] w fun e w'=>e=.returned (.string ⟨(Lib.trimLeftS s.data.toList cs.data.toList).toArray⟩)∧Below w.heap.size w w':=
 Any.strings_TrimLeft_laid Tryz.lays161 (by kernel_rfl) s cs w hcs hascii
theorem jlu (s cs:ByteArray) (p:UInt8→Bool) (hp:∀ b,cs.data.toList.contains b=p b) (hs:s.size≤281474976710656) (hcs:cs.size<4294967281) (hascii:∀ (j:Nat) b,cs.data.toList[j]?=some b→b.toNat<128) (w:World):
  Calls Tryz.prog 79 #[.string s,.string cs] w fun e w'=>e=.returned (.int .i64 ((s.data.toList.takeWhile p).length:Nat))∧Below w.heap.size w w':=by
 have hT:=fun wx=>jqq s cs wx hcs hascii
 have hl:Lib.trimLeftS s.data.toList cs.data.toList=s.data.toList.dropWhile p:=by
  unfold Lib.trimLeftS;congr 1;funext b;exact hp b
 rw [hl] at hT;have hd:=jny p s.data.toList;have hle:(s.data.toList.dropWhile p).length≤s.data.toList.length:=(List.dropWhile_sublist p).length_le;have hsz:s.size=s.data.toList.length:=Lib.size_eq s
 have hz:(⟨(s.data.toList.dropWhile p).toArray⟩:ByteArray).size=(s.data.toList.dropWhile p).length:=by simp [ByteArray.size]
 generalize (⟨(s.data.toList.dropWhile p).toArray⟩:ByteArray)=t at hT hz;have HT:=lh hT;clear hT;generalize hm:(s.data.toList.takeWhile p).length=m at hd
 have hn:((s.size:Nat):Int) - ((t.size:Nat):Int)=((m:Nat):Int):=by omega
 have ht:t.size≤281474976710656:=by omega
 clear hsz hz hd hle hl hm;go_enter Tryz.func79,Tryz.ntmps79;go_wp2_with (go_at_call 113;refine (HT.out _).mono ?_;rintro e w1 ⟨rfl,hb⟩);go_ret;exact ⟨by rw [←hn];rfl,by assumption⟩
end Go.Proofs.YthcompcjphaahaaGreatDoor
