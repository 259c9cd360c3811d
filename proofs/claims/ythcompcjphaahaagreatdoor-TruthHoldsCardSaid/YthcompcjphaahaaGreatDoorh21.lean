/- Chapter 12's small functions of a text: digits, numbers, the step with which a text begins; for every text of at most a million bytes. -/
import Derived.StillTailTactics
import Derived.Test.YthcompcjphaahaaGreatDoorh07
import Derived.Test.YthcompcjphaahaaGreatDoorh11
import Derived.Test.YthcompcjphaahaaGreatDoorh20
import Derived.Test.YthcompcjphaahaaGreatDoorh23
set_option maxRecDepth 100000
set_option maxHeartbeats 8000000
set_option linter.unusedVariables false
namespace Go.Proofs.YthcompcjphaahaaGreatDoor.Pa
open Go Go.RowKit
def isDg (c:Nat):Bool:=decide (48≤c)&&decide (c≤57)
def qx (s:ByteArray):Bool:=
 if s.size=1 then isDg (charAt s 0) else if s.size=2 then isDg (charAt s 0)&&isDg (charAt s 1)&&decide (charAt s 0≠48) else false
def Xm (s:ByteArray):Int:=
 if s.size=1 then (charAt s 0:Int) - 48 else ((charAt s 0:Int) - 48)*10+((charAt s 1:Int) - 48)
structure PieceV where
 elem:Bool
 n:Int
 name:ByteArray
def pieceV (x:PieceV):Value:=.agg #[.bool x.elem,.int .i64 x.n,.string x.name]
def zg:PieceV:=⟨false,0,⟨#[]⟩⟩
def closeZ (s:ByteArray):Int:=Lib.indexByte (s.extract 1 s.size).data.toList 93
def digS (s:ByteArray):ByteArray:=(s.extract 1 s.size).extract 0 (closeZ s).toNat
def elemP (s:ByteArray):PieceV × Nat:=
 if closeZ s<0 then (zg,0) else if qx (digS s) then (⟨true,Xm (digS s),⟨#[]⟩⟩,(digS s).size+2) else (zg,0)
def itemR (s dot:ByteArray):ByteArray:=⟨(Lib.trimPrefix s.data.toList dot.data.toList).toArray⟩
def itemP (s dot:ByteArray):PieceV × Nat:=
 if Lib.hasPrefix s.data.toList dot.data.toList&&decide (leadN (itemR s dot)≠0) then (⟨false,0,(itemR s dot).extract 0 (leadN (itemR s dot))⟩,dot.size+leadN (itemR s dot)) else (zg,0)
def dotS:ByteArray:=⟨#[46]⟩
def leadP (s:ByteArray) (first:Bool):PieceV × Nat:=
 if charAt s 0=91 then elemP s else if first then itemP s ⟨#[]⟩ else itemP s dotS
theorem Xj (c:Nat) (hc:c<256) (w:World):Calls Tryz.prog 227 #[.int .u8 (c:Int)] w fun e w'=>e=.returned (.bool (isDg c))∧w'=w:=by
 have hw:IntKind.u8.wrap (c:Int)=(c:Int):=IntWalk.u8_in _ (by omega)
 by_cases h1:48≤c
 · by_cases h2:c≤57
   · have e:isDg c=true:=by simp [isDg,h1,h2]
     have k1:decide ((48:Int)≤c)=true:=by simp;omega
     have k2:decide ((c:Int)≤57)=true:=by simp;omega
     rw [e];clear e;go_enter Tryz.func227,Tryz.ntmps227;go_wp2;go_ret;exact ⟨rfl,rfl⟩
   · have e:isDg c=false:=by simp [isDg,h2]
     have k1:decide ((48:Int)≤c)=true:=by simp;omega
     have k2:decide ((c:Int)≤57)=false:=by simp;omega
     rw [e];clear e;go_enter Tryz.func227,Tryz.ntmps227;go_wp2;go_ret;exact ⟨rfl,rfl⟩
 · have e:isDg c=false:=by simp [isDg,h1]
   have k1:decide ((48:Int)≤c)=false:=by simp;omega
   rw [e];clear e;go_enter Tryz.func227,Tryz.ntmps227;go_wp2;go_ret;exact ⟨rfl,rfl⟩
theorem jeb (s:ByteArray) (w:World):Calls Tryz.prog 198 #[.string s] w fun e w'=>e=.returned (.bool (qx s))∧w'=w:=by
 by_cases h1:s.size=1
 · have e:qx s=isDg (charAt s 0):=by simp [qx,h1]
   have hg:=ya s 0 (by omega);have HD:=lh (fun wx=>Xj (charAt s 0) (jbo s 0) wx);rw [hg] at HD e;rw [e];clear e hg
   have k1:((s.size:Int)==1)=true:=by simp;omega
   have hx:∀ wx:World,(Instr.index 9 (.string s) (.int .i64 0)).run Tryz.prog wx=.ok (.int .u8 (s[0]'(by omega)).toNat) wx:=fun wx=>by
    rw [run_index_string wx 9 s .i64 0 Tryz.underlying9,dif_pos ⟨by omega,by omega⟩];rfl
   go_enter Tryz.func198,Tryz.ntmps198;go_wp2_with (go_at_call 227;refine (HD.out _).mono ?_;rintro e w1 ⟨rfl,rfl⟩);go_ret;exact ⟨rfl,rfl⟩
 · have k1:((s.size:Int)==1)=false:=by simp;omega
   by_cases h2:s.size=2
   · have e:qx s=(isDg (charAt s 0)&&isDg (charAt s 1)&&decide (charAt s 0≠48)):=by simp [qx,h2]
     have k2:((s.size:Int)==2)=true:=by simp;omega
     have hg:=ya s 0 (by omega);have hg1:=ya s 1 (by omega);have HD:=lh (fun wx=>Xj (charAt s 0) (jbo s 0) wx);have HD1:=lh (fun wx=>Xj (charAt s 1) (jbo s 1) wx)
     have hx:∀ wx:World,(Instr.index 9 (.string s) (.int .i64 0)).run Tryz.prog wx=.ok (.int .u8 (charAt s 0:Nat)) wx:=fun wx=>by
      rw [run_index_string wx 9 s .i64 0 Tryz.underlying9,dif_pos ⟨by omega,by omega⟩,hg];rfl
     have hx1:∀ wx:World,(Instr.index 9 (.string s) (.int .i64 1)).run Tryz.prog wx=.ok (.int .u8 (charAt s 1:Nat)) wx:=fun wx=>by
      rw [run_index_string wx 9 s .i64 1 Tryz.underlying9,dif_pos ⟨by omega,by omega⟩,hg1];rfl
     obtain ⟨c0,hc0⟩:∃ c,charAt s 0=c:=⟨_,rfl⟩;obtain ⟨c1,hc1⟩:∃ c,charAt s 1=c:=⟨_,rfl⟩;rw [hc0] at HD hx e;rw [hc1] at HD1 hx1 e;obtain ⟨q0,hq0⟩:∃ q,isDg c0=q:=⟨_,rfl⟩;obtain ⟨q1,hq1⟩:∃ q,isDg c1=q:=⟨_,rfl⟩;rw [hq0,hq1] at e;rw [hq0] at HD;rw [hq1] at HD1;clear hg hg1 hc0 hc1;obtain ⟨q2,hq2⟩:∃ q,(!((c0:Int)==48))=q:=⟨_,rfl⟩
     have e2:decide (c0≠48)=q2:=by rw [←hq2];rw [Bool.eq_iff_iff];simp;omega
     rw [e2] at e;rw [e];clear e e2 hq0 hq1
     cases q0
     · go_enter Tryz.func198,Tryz.ntmps198;go_wp2_with (go_at_call 227;refine (HD.out _).mono ?_;rintro e w1 ⟨rfl,rfl⟩);go_ret;exact ⟨rfl,rfl⟩
     · cases q1
       · go_enter Tryz.func198,Tryz.ntmps198;go_wp2_with (first|(go_at_call 227;(with_reducible refine (HD.out _).mono ?_);rintro e w1 ⟨rfl,rfl⟩)|(go_at_call 227;(with_reducible refine (HD1.out _).mono ?_);rintro e w1 ⟨rfl,rfl⟩));go_ret;exact ⟨rfl,rfl⟩
       · go_enter Tryz.func198,Tryz.ntmps198;go_wp2_with (first|(go_at_call 227;(with_reducible refine (HD.out _).mono ?_);rintro e w1 ⟨rfl,rfl⟩)|(go_at_call 227;(with_reducible refine (HD1.out _).mono ?_);rintro e w1 ⟨rfl,rfl⟩));go_ret;exact ⟨(by simp;exact hq2),rfl⟩
   · have e:qx s=false:=by simp [qx,h1,h2]
     have k2:((s.size:Int)==2)=false:=by simp;omega
     rw [e];clear e;go_enter Tryz.func198,Tryz.ntmps198;go_wp2;go_ret;exact ⟨rfl,rfl⟩
def cutV (s:ByteArray) (z:Int):Value:=
 if z<0 then .tuple #[.string s,.string ⟨#[]⟩,.bool false] else .tuple #[.string (s.extract 0 z.toNat),.string (s.extract (z.toNat+1) s.size),.bool true]
theorem jsy (s:ByteArray) (hs:s.size≤1000000) (z:Int) (hz:Lib.indexByte s.data.toList 93=z) (w:World):Calls Tryz.prog 226 #[.string s,.string ⟨#[93]⟩] w fun e w'=>
  e=.returned (cutV s z)∧Below w.heap.size w w':=by
 have HI:=lh (fun wx=>Tryz.stringslite_Index_one s 93 wx);rw [hz] at HI;have hb0:=Below.refl w.heap.size w
 by_cases h:z<0
 · rw [show cutV s z=.tuple #[.string s,.string ⟨#[]⟩,.bool false] from if_pos h]
   have hd:decide (0≤z)=false:=by simp;omega
   go_enter Tryz.func226,Tryz.ntmps226;go_wp2_with (go_at_call 243;refine (HI.out _).mono ?_;rintro e w1 ⟨rfl,rfl⟩)
   go_ret3
   exact ⟨rfl,hb0⟩
 · rw [show cutV s z=.tuple #[.string (s.extract 0 z.toNat),.string (s.extract (z.toNat+1) s.size),.bool true] from if_neg h]
   have hlt:z.toNat<s.size:=by
    rcases Lib.indexByte_piece s 0 s.size 93 with h1|⟨o,h1,h2⟩
    · rw [show s.extract 0 s.size=s by simp] at h1;omega
    · rw [show s.extract 0 s.size=s by simp] at h1;omega
   obtain ⟨m,rfl⟩:∃ m:Nat,z=m:=⟨z.toNat,by omega⟩
   have hd:decide (0≤(m:Int))=true:=by simp
   have hwr:IntKind.i64.wrap ((m:Int)+1)=((m+1:Nat):Int):=by rw [IntWalk.i64_in _ (by omega)];omega
   have hm:(m:Int).toNat=m:=by omega
   rw [hm] at hlt ⊢;have hsl:∀ wx,(Instr.slice 9 (.string s) none (some (.int .i64 (m:Nat))) none).run Tryz.prog wx=.ok (.string (s.extract 0 m)) wx:=fun wx=>run_slice_string_h wx 9 s Tryz.underlying9 .i64 (m:Nat) (by omega) (by omega);have hsr:∀ wx,(Instr.slice 9 (.string s) (some (.int .i64 ((m+1:Nat):Int))) none none).run Tryz.prog wx=.ok (.string (s.extract (m+1) s.size)) wx:=fun wx=>run_slice_string_l wx 9 s Tryz.underlying9 .i64 ((m+1:Nat):Int) (by omega) (by omega);go_enter Tryz.func226,Tryz.ntmps226;go_wp2_with (go_at_call 243;refine (HI.out _).mono ?_;rintro e w1 ⟨rfl,rfl⟩)
   go_quiet (fail)
   go_wp2
   go_ret3
   exact ⟨rfl,jf hb0 _⟩
theorem jvm (s:ByteArray) (hs:s.size≤1000000) (z:Int) (hz:Lib.indexByte s.data.toList 93=z) (w:World):Calls Tryz.prog 197 #[.string s,.string ⟨#[93]⟩] w fun e w'=>e=.returned (cutV s z)∧Below w.heap.size w w':=by
 have HC:=lh (fun wx=>jsy s hs z hz wx);clear hz
 by_cases h:z<0
 · have e0:cutV s z=.tuple #[.string s,.string ⟨#[]⟩,.bool false]:=if_pos h;rw [e0] at HC ⊢;go_enter Tryz.func197,Tryz.ntmps197;go_wp2_with (go_at_call 226;refine (HC.out _).mono ?_;rintro e w1 ⟨rfl,hb⟩)
   go_ret3
   exact ⟨rfl,hb⟩
 · have e0:cutV s z=.tuple #[.string (s.extract 0 z.toNat),.string (s.extract (z.toNat+1) s.size),.bool true]:=if_neg h;rw [e0] at HC ⊢;go_enter Tryz.func197,Tryz.ntmps197;go_wp2_with (go_at_call 226;refine (HC.out _).mono ?_;rintro e w1 ⟨rfl,hb⟩)
   go_ret3
   exact ⟨rfl,hb⟩
theorem ju1 (s:ByteArray) (hn:qx s=true):Lib.atoi s.data.toList=some (Xm s)∧s.size≤2:=by
 have dg:∀ c,isDg c=true→48≤c∧c≤57:=fun c h=>by simpa [isDg] using h
 obtain ⟨l,hl⟩:∃ l,s.data.toList=l:=⟨_,rfl⟩
 have hz:s.size=l.length:=by rw [←hl];simp
 have hc:∀ i,charAt s i=(l.getD i 0).toNat:=fun i=>by unfold charAt;rw [hl]
 have hv:∀ a:UInt8,48≤a.toNat∧a.toNat≤57→Lib.digitVal a=some (a.toNat - 48):=fun a h=>if_pos h;rw [hl];unfold qx at hn;unfold Xm;simp only [hc] at hn ⊢;rw [hz] at hn ⊢
 match l,hn with
 | [a],hn=>
   have h:=dg _ (by simpa using hn)
   have h1:(a==45)=false:=by rw [beq_eq_false_iff_ne];rintro rfl;exact absurd h.1 (by decide)
   have h2:(a==43)=false:=by rw [beq_eq_false_iff_ne];rintro rfl;exact absurd h.1 (by decide)
   refine ⟨?_,by simp⟩;simp [Lib.atoi,h1,h2,Lib.decNat,Lib.decFrom,hv a h];omega
 | [a,b],hn=>
   have hh:(isDg a.toNat=true∧isDg b.toNat=true)∧a.toNat≠48:=by simpa using hn
   have h:=dg _ hh.1.1;have h':=dg _ hh.1.2
   have h1:(a==45)=false:=by rw [beq_eq_false_iff_ne];rintro rfl;exact absurd h.1 (by decide)
   have h2:(a==43)=false:=by rw [beq_eq_false_iff_ne];rintro rfl;exact absurd h.1 (by decide)
   refine ⟨?_,by simp⟩;simp [Lib.atoi,h1,h2,Lib.decNat,Lib.decFrom,hv a h,hv b h'];omega
 | [],hn=>simp at hn
 |a::b::c::r,hn=>simp at hn
theorem jc {w w1:World} {b:Nat} {o:Obj} (h:w.heap[b]?=some o) (hb:Below w.heap.size w w1):w1.heap[b]?=some o:=by
 rw [hb.block b (Array.getElem?_eq_some_iff.1 h).1,h]
def pieceO:Obj:=.cells #[.bool false,.int .i64 0,.string ⟨#[]⟩] 142
theorem jdy (s d:ByteArray):(itemR s d).size≤s.size:=by
 unfold itemR Lib.trimPrefix
 split
 · show (List.drop _ s.data.toList).toArray.size≤s.data.size
   simp
 · show s.data.toList.toArray.size≤s.data.size
   simp
theorem jd6 (s d:ByteArray) (hs:s.size≤1000000) (hd:d.size≤1) (w:World):Calls Tryz.prog 165 #[.string s,.string d] w fun e w'=>e=.returned (.tuple #[pieceV (itemP s d).1,.int .i64 ((itemP s d).2:Nat)])∧Below w.heap.size w w':=by
 have HC:=lh (fun wx=>Tryz.strings_CutPrefix s d wx);have hz:=jdy s d;obtain ⟨r,hr⟩:∃ r,itemR s d=r:=⟨_,rfl⟩;obtain ⟨q,hq⟩:∃ q,Lib.hasPrefix s.data.toList d.data.toList=q:=⟨_,rfl⟩
 have e1:itemP s d=if q&&decide (leadN r≠0) then (⟨false,0,r.extract 0 (leadN r)⟩,d.size+leadN r) else (zg,0):=by unfold itemP;rw [hr,hq]
 rw [show (⟨(Lib.trimPrefix s.data.toList d.data.toList).toArray⟩:ByteArray)=r from hr,hq] at HC;rw [hr] at hz;have hln:=X7 r;have HL:=lh (fun wx=>jd3 r (by omega) wx);obtain ⟨n,hn⟩:∃ n,leadN r=n:=⟨_,rfl⟩;rw [hn] at HL hln e1;have hb0:=(Below.refl w.heap.size w).alloc (Nat.le_refl _) pieceO;have hq0:=jd w pieceO;unfold pieceO at hb0 hq0;obtain ⟨k,hk⟩:∃ k,d.size=k:=⟨_,rfl⟩;rw [hk] at e1 hd;clear hr hq hn
 cases q
 · have e2:itemP s d=(zg,0):=e1;rw [e2];unfold pieceV zg;clear e1 e2;go_enter Tryz.func165,Tryz.ntmps165
   go_wp2_with (first
    |(go_at_call 200;refine (HC.out _).mono ?_;rintro e w1 ⟨rfl,rfl⟩)
    |(go_at_call 145;refine (HL.out _).mono ?_;rintro e w1 ⟨rfl,hb⟩;have HB1:=lh (hb0.trans (hb.mono (by simp)));have HQ1:=lh (jc hq0 hb);clear hb)
    |(refine wpList_store_rowTo rfl 142 _ _ rfl rfl w.heap.size #[.bool false,.int .i64 0,.string ⟨#[]⟩] rfl rfl _ _ HQ1.out (by kernel_rfl) (by kernel_rfl) (by kernel_rfl) ?_))
   refine bodyPost_ret (v:=.tuple #[.agg #[.bool false,.int .i64 0,.string ⟨#[]⟩],.int .i64 0]) ?_ rfl ⟨rfl,below_setRow HB1.out (Nat.le_refl _) _⟩;have hl:=run_loadVar_row (P:=Tryz.prog) _ w.heap.size _ 142 _ _ _ (setRow_heap _ _ _ #[.bool false,.int .i64 0,.string ⟨#[]⟩] _ _ HQ1.out) Tryz.underlying142 rfl (by kernel_rfl);simp [results,Tryz.results165,asAddr,hl]
 · by_cases h0:n=0
   · subst h0
     have e2:itemP s d=(zg,0):=by rw [e1];rfl
     rw [e2];unfold pieceV zg;clear e1 e2;go_enter Tryz.func165,Tryz.ntmps165
     go_wp2_with (first
     |(go_at_call 200;refine (HC.out _).mono ?_;rintro e w1 ⟨rfl,rfl⟩)
     |(go_at_call 145;refine (HL.out _).mono ?_;rintro e w1 ⟨rfl,hb⟩;have HB1:=lh (hb0.trans (hb.mono (by simp)));have HQ1:=lh (jc hq0 hb);clear hb)
     |(refine wpList_store_rowTo rfl 142 _ _ rfl rfl w.heap.size #[.bool false,.int .i64 0,.string ⟨#[]⟩] rfl rfl _ _ HQ1.out (by kernel_rfl) (by kernel_rfl) (by kernel_rfl) ?_))
     refine bodyPost_ret (v:=.tuple #[.agg #[.bool false,.int .i64 0,.string ⟨#[]⟩],.int .i64 0]) ?_ rfl ⟨rfl,below_setRow HB1.out (Nat.le_refl _) _⟩;have hl:=run_loadVar_row (P:=Tryz.prog) _ w.heap.size _ 142 _ _ _ (setRow_heap _ _ _ #[.bool false,.int .i64 0,.string ⟨#[]⟩] _ _ HQ1.out) Tryz.underlying142 rfl (by kernel_rfl);simp [results,Tryz.results165,asAddr,hl]
   · have e2:itemP s d=(⟨false,0,r.extract 0 n⟩,k+n):=by rw [e1,if_pos (by simp [h0])]
     rw [e2];unfold pieceV;clear e1 e2
     have hn0:((n:Int)==0)=false:=by simp;omega
     have hwr:IntKind.i64.wrap ((k:Int)+n)=((k+n:Nat):Int):=by rw [IntWalk.i64_in _ (by omega)];omega
     have hsl:∀ wx,(Instr.slice 9 (.string r) none (some (.int .i64 (n:Nat))) none).run Tryz.prog wx=.ok (.string (r.extract 0 n)) wx:=fun wx=>run_slice_string_h wx 9 r Tryz.underlying9 .i64 (n:Nat) (by omega) (by omega);go_enter Tryz.func165,Tryz.ntmps165
     go_wp2_with (first
     |(go_at_call 200;refine (HC.out _).mono ?_;rintro e w1 ⟨rfl,rfl⟩)
     |(go_at_call 145;refine (HL.out _).mono ?_;rintro e w1 ⟨rfl,hb⟩;have HB1:=lh (hb0.trans (hb.mono (by simp)));have HQ1:=lh (jc hq0 hb);clear hb)
     |(refine wpList_store_rowTo rfl 142 _ _ rfl rfl w.heap.size #[.bool false,.int .i64 0,.string (r.extract 0 n)] rfl rfl _ _ HQ1.out (by kernel_rfl) (by kernel_rfl) (by kernel_rfl) ?_))
     refine bodyPost_ret (v:=.tuple #[.agg #[.bool false,.int .i64 0,.string (r.extract 0 n)],.int .i64 ((k+n:Nat):Int)]) ?_ rfl ⟨rfl,below_setRow HB1.out (Nat.le_refl _) _⟩;have hl:=run_loadVar_row (P:=Tryz.prog) _ w.heap.size _ 142 _ _ _ (setRow_heap _ _ _ #[.bool false,.int .i64 0,.string (r.extract 0 n)] _ _ HQ1.out) Tryz.underlying142 rfl (by kernel_rfl);simp [results,Tryz.results165,asAddr,hl]
theorem bytesWorld_below {w0 w:World} {t:TypeId} {s:ByteArray} {n:Nat} (h:Below n w0 w) (hn:n≤w.heap.size):Below n w0 (Lib.bytesWorld w t s):=h.trans ((Lib.below_freeze ((Below.drew (Below.refl _ w)).alloc (Nat.le_refl _) _) (p:=⟨w.heap.size,_,none⟩) (Nat.le_refl _) 1).mono hn)
theorem jer (s:ByteArray) (hs:s.size≤1000000) (h1:1≤s.size) (w:World):Calls Tryz.prog 164 #[.string s] w fun e w'=>e=.returned (.tuple #[pieceV (elemP s).1,.int .i64 ((elemP s).2:Nat)])∧Below w.heap.size w w':=by
 have hsl:∀ wx,(Instr.slice 9 (.string s) (some (.int .i64 1)) none none).run Tryz.prog wx=.ok (.string (s.extract 1 s.size)) wx:=fun wx=>run_slice_string_l wx 9 s Tryz.underlying9 .i64 1 (by omega) (by omega)
 have hxz:(s.extract 1 s.size).size≤1000000:=by simp;omega
 obtain ⟨x,hx⟩:∃ x,s.extract 1 s.size=x:=⟨_,rfl⟩;obtain ⟨z,hz⟩:∃ z,closeZ s=z:=⟨_,rfl⟩
 have hzz:Lib.indexByte x.data.toList 93=z:=by rw [←hx];exact hz
 have hdz:(digS s)=x.extract 0 z.toNat:=by unfold digS;rw [hx,hz]
 have e1:elemP s=if z<0 then (zg,0) else if qx (x.extract 0 z.toNat) then (⟨true,Xm (x.extract 0 z.toNat),⟨#[]⟩⟩,(x.extract 0 z.toNat).size+2) else (zg,0):=by unfold elemP;rw [hz,hdz]
 rw [hx] at hsl hxz;have HC:=lh (fun wx=>jvm x hxz z hzz wx);have hb0:=(Below.refl w.heap.size w).alloc (Nat.le_refl _) pieceO;have hq0:=jd w pieceO;unfold pieceO at hb0 hq0;clear hx hz hzz hdz
 by_cases h0:z<0
 · have e2:elemP s=(zg,0):=by rw [e1,if_pos h0]
   rw [e2];rw [show cutV x z=.tuple #[.string x,.string ⟨#[]⟩,.bool false] from if_pos h0] at HC;unfold pieceV zg;clear e1 e2;go_enter Tryz.func164,Tryz.ntmps164
   go_wp2_with (first
    |(go_at_call 197;refine (HC.out _).mono ?_;rintro e w1 ⟨rfl,hb⟩;have HB1:=lh (hb0.trans (hb.mono (by simp)));have HQ1:=lh (jc hq0 hb);clear hb)
    |(refine wpList_store_rowTo rfl 142 _ _ rfl rfl w.heap.size #[.bool false,.int .i64 0,.string ⟨#[]⟩] rfl rfl _ _ HQ1.out (by kernel_rfl) (by kernel_rfl) (by kernel_rfl) ?_))
   refine bodyPost_ret (v:=.tuple #[.agg #[.bool false,.int .i64 0,.string ⟨#[]⟩],.int .i64 0]) ?_ rfl ⟨rfl,below_setRow HB1.out (Nat.le_refl _) _⟩;have hl:=run_loadVar_row (P:=Tryz.prog) _ w.heap.size _ 142 _ _ _ (setRow_heap _ _ _ #[.bool false,.int .i64 0,.string ⟨#[]⟩] _ _ HQ1.out) Tryz.underlying142 rfl (by kernel_rfl);simp [results,Tryz.results164,asAddr,hl]
 · rw [show cutV x z=.tuple #[.string (x.extract 0 z.toNat),.string (x.extract (z.toNat+1) x.size),.bool true] from if_neg h0] at HC;rw [if_neg h0] at e1
   have hyz:(x.extract 0 z.toNat).size≤1000000:=by simp;omega
   obtain ⟨y,hy⟩:∃ y,x.extract 0 z.toNat=y:=⟨_,rfl⟩;obtain ⟨y2,hy2⟩:∃ y,x.extract (z.toNat+1) x.size=y:=⟨_,rfl⟩;rw [hy] at e1 HC hyz;rw [hy2] at HC;have HN:=lh (fun wx=>jeb y wx);clear hy hy2
   cases hk:qx y
   · have e2:elemP s=(zg,0):=by rw [e1,if_neg (by rw [hk];decide)]
     rw [e2];rw [hk] at HN;unfold pieceV zg;clear e1 e2;go_enter Tryz.func164,Tryz.ntmps164
     go_wp2_with (first
     |(go_at_call 197;refine (HC.out _).mono ?_;rintro e w1 ⟨rfl,hb⟩;have HB1:=lh (hb0.trans (hb.mono (by simp)));have HQ1:=lh (jc hq0 hb);clear hb)
     |(go_at_call 198;refine (HN.out _).mono ?_;rintro e w2 ⟨rfl,rfl⟩)
     |(refine wpList_store_rowTo rfl 142 _ _ rfl rfl w.heap.size #[.bool false,.int .i64 0,.string ⟨#[]⟩] rfl rfl _ _ HQ1.out (by kernel_rfl) (by kernel_rfl) (by kernel_rfl) ?_))
     refine bodyPost_ret (v:=.tuple #[.agg #[.bool false,.int .i64 0,.string ⟨#[]⟩],.int .i64 0]) ?_ rfl ⟨rfl,below_setRow HB1.out (Nat.le_refl _) _⟩;have hl:=run_loadVar_row (P:=Tryz.prog) _ w.heap.size _ 142 _ _ _ (setRow_heap _ _ _ #[.bool false,.int .i64 0,.string ⟨#[]⟩] _ _ HQ1.out) Tryz.underlying142 rfl (by kernel_rfl);simp [results,Tryz.results164,asAddr,hl]
   · have e2:elemP s=(⟨true,Xm y,⟨#[]⟩⟩,y.size+2):=by rw [e1,if_pos hk]
     obtain ⟨ha,hl2⟩:=ju1 y hk;have HA:=lh (fun wx=>Tryz.strconv_Atoi y (Xm y) (by omega) ha wx);rw [e2];rw [hk] at HN;unfold pieceV;obtain ⟨nv,hnv⟩:∃ nv,Xm y=nv:=⟨_,rfl⟩;rw [hnv] at HA ⊢;obtain ⟨k,hkz⟩:∃ k,y.size=k:=⟨_,rfl⟩;rw [hkz] at hl2 ⊢
     have hwr:IntKind.i64.wrap ((k:Int)+2)=((k+2:Nat):Int):=by rw [IntWalk.i64_in _ (by omega)];omega
     clear e1 e2 ha hnv;go_enter Tryz.func164,Tryz.ntmps164
     go_wp2_with (first
     |(go_at_call 197;refine (HC.out _).mono ?_;rintro e w1 ⟨rfl,hb⟩;have HB1:=lh (hb0.trans (hb.mono (by simp)));have HQ1:=lh (jc hq0 hb);clear hb)
     |(go_at_call 198;refine (HN.out _).mono ?_;rintro e w2 ⟨rfl,rfl⟩)
     |(go_at_call 199;refine (HA.out _).mono ?_;rintro e w3 ⟨rfl,t,rfl⟩;have HB2:=lh (bytesWorld_below (t:=5) (s:=t) HB1.out HB1.out.size);have HQ2:=lh (jc HQ1.out (bytesWorld_below (t:=5) (s:=t) (Below.refl _ _) (Nat.le_refl _))))
      |(refine wpList_store_rowTo rfl 142 _ _ rfl rfl w.heap.size #[.bool true,.int .i64 nv,.string ⟨#[]⟩] rfl rfl _ _ HQ2.out (by kernel_rfl) (by kernel_rfl) (by kernel_rfl) ?_))
     refine bodyPost_ret (v:=.tuple #[.agg #[.bool true,.int .i64 nv,.string ⟨#[]⟩],.int .i64 ((k+2:Nat):Int)]) ?_ rfl ⟨rfl,below_setRow HB2.out (Nat.le_refl _) _⟩;have hl:=run_loadVar_row (P:=Tryz.prog) _ w.heap.size _ 142 _ _ _ (setRow_heap _ _ _ #[.bool true,.int .i64 nv,.string ⟨#[]⟩] _ _ HQ2.out) Tryz.underlying142 rfl (by kernel_rfl);simp [results,Tryz.results164,asAddr,hl]
theorem jet (s:ByteArray) (first:Bool) (hs:s.size≤1000000) (h1:1≤s.size) (w:World):Calls Tryz.prog 125 #[.string s,.bool first] w fun e w'=>e=.returned (.tuple #[pieceV (leadP s first).1,.int .i64 ((leadP s first).2:Nat)])∧Below w.heap.size w w':=by
 have hg:=ya s 0 (by omega);have hb0:=(Below.refl w.heap.size w).alloc (Nat.le_refl _) pieceO;have hq0:=jd w pieceO;unfold pieceO at hb0 hq0
 by_cases h0:charAt s 0=91
 · have e1:leadP s first=elemP s:=if_pos h0;have HC:=lh (fun wx=>jer s hs h1 wx);rw [e1];rw [hg] at h0
   have k1:(((s[0]'(by omega)).toNat:Int)==91)=true:=by rw [h0];rfl
   obtain ⟨X,hX⟩:∃ X,elemP s=X:=⟨_,rfl⟩;rw [hX] at HC ⊢;obtain ⟨⟨b,n,nm⟩,m⟩:=X;clear hX;unfold pieceV at HC ⊢;clear e1 hg h0;go_enter Tryz.func125,Tryz.ntmps125
   go_wp2_with (first
    |(go_at_call 164;refine (HC.out _).mono ?_;rintro e w1 ⟨rfl,hb⟩;have HB1:=lh (hb0.trans (hb.mono (by simp)));have HQ1:=lh (jc hq0 hb);clear hb)
    |(refine wpList_store_rowTo rfl 142 _ _ rfl rfl w.heap.size #[.bool b,.int .i64 n,.string nm] rfl rfl _ _ HQ1.out (by kernel_rfl) (by kernel_rfl) (by kernel_rfl) ?_))
   refine bodyPost_ret (v:=.tuple #[.agg #[.bool b,.int .i64 n,.string nm],.int .i64 (m:Nat)]) ?_ rfl ⟨rfl,below_setRow HB1.out (Nat.le_refl _) _⟩;have hl:=run_loadVar_row (P:=Tryz.prog) _ w.heap.size _ 142 _ _ _ (setRow_heap _ _ _ #[.bool b,.int .i64 n,.string nm] _ _ HQ1.out) Tryz.underlying142 rfl (by kernel_rfl);simp [results,Tryz.results125,asAddr,hl]
 · have k0:¬(s[0]'(by omega)).toNat=91:=by rw [←hg];exact h0
   have k1:(((s[0]'(by omega)).toNat:Int)==91)=false:=by simp;omega
   cases first
   · have e1:leadP s false=itemP s dotS:=by unfold leadP;rw [if_neg h0];rfl
     have HC:=lh (fun wx=>jd6 s dotS hs (by decide) wx);rw [e1];obtain ⟨X,hX⟩:∃ X,itemP s dotS=X:=⟨_,rfl⟩;rw [hX] at HC ⊢;obtain ⟨⟨b,n,nm⟩,m⟩:=X;clear hX;unfold pieceV at HC ⊢;unfold dotS at HC;clear e1 hg h0 k0;go_enter Tryz.func125,Tryz.ntmps125
     go_wp2_with (first
      |(go_at_call 165;refine (HC.out _).mono ?_;rintro e w1 ⟨rfl,hb⟩;have HB1:=lh (hb0.trans (hb.mono (by simp)));have HQ1:=lh (jc hq0 hb);clear hb)
      |(refine wpList_store_rowTo rfl 142 _ _ rfl rfl w.heap.size #[.bool b,.int .i64 n,.string nm] rfl rfl _ _ HQ1.out (by kernel_rfl) (by kernel_rfl) (by kernel_rfl) ?_))
     refine bodyPost_ret (v:=.tuple #[.agg #[.bool b,.int .i64 n,.string nm],.int .i64 (m:Nat)]) ?_ rfl ⟨rfl,below_setRow HB1.out (Nat.le_refl _) _⟩;have hl:=run_loadVar_row (P:=Tryz.prog) _ w.heap.size _ 142 _ _ _ (setRow_heap _ _ _ #[.bool b,.int .i64 n,.string nm] _ _ HQ1.out) Tryz.underlying142 rfl (by kernel_rfl);simp [results,Tryz.results125,asAddr,hl]
   · have e1:leadP s true=itemP s ⟨#[]⟩:=by unfold leadP;rw [if_neg h0];rfl
     have HC:=lh (fun wx=>jd6 s ⟨#[]⟩ hs (by decide) wx);rw [e1];obtain ⟨X,hX⟩:∃ X,itemP s ⟨#[]⟩=X:=⟨_,rfl⟩;rw [hX] at HC ⊢;obtain ⟨⟨b,n,nm⟩,m⟩:=X;clear hX;unfold pieceV at HC ⊢;clear e1 hg h0 k0;go_enter Tryz.func125,Tryz.ntmps125
     go_wp2_with (first
      |(go_at_call 165;refine (HC.out _).mono ?_;rintro e w1 ⟨rfl,hb⟩;have HB1:=lh (hb0.trans (hb.mono (by simp)));have HQ1:=lh (jc hq0 hb);clear hb)
      |(refine wpList_store_rowTo rfl 142 _ _ rfl rfl w.heap.size #[.bool b,.int .i64 n,.string nm] rfl rfl _ _ HQ1.out (by kernel_rfl) (by kernel_rfl) (by kernel_rfl) ?_))
     refine bodyPost_ret (v:=.tuple #[.agg #[.bool b,.int .i64 n,.string nm],.int .i64 (m:Nat)]) ?_ rfl ⟨rfl,below_setRow HB1.out (Nat.le_refl _) _⟩;have hl:=run_loadVar_row (P:=Tryz.prog) _ w.heap.size _ 142 _ _ _ (setRow_heap _ _ _ #[.bool b,.int .i64 n,.string nm] _ _ HQ1.out) Tryz.underlying142 rfl (by kernel_rfl);simp [results,Tryz.results125,asAddr,hl]
end Go.Proofs.YthcompcjphaahaaGreatDoor.Pa
namespace Go.Proofs.YthcompcjphaahaaGreatDoor.Pa
open Go Go.RowKit Go.Shelf
attribute [local go_sem] Oper.semAt_some
def piecesF (s:ByteArray):Nat→Nat→List (PieceV × Bool)
 |0,_=>[]
 |f+1,a=>if a<s.size then ((leadP (s.extract a s.size) (a==0)).1,decide (0<(leadP (s.extract a s.size) (a==0)).2))::
   (if (leadP (s.extract a s.size) (a==0)).2=0 then [] else piecesF s f (a+(leadP (s.extract a s.size) (a==0)).2)) else []
theorem jal (s:ByteArray):∀ (f g a:Nat),s.size - a≤f→s.size - a≤g→piecesF s f a=piecesF s g a
 |0,g,a,h,_=>by
  cases g with
  |zero=>rfl
  |succ g=>simp only [piecesF];rw [if_neg (by omega)]
 |f+1,0,a,_,h=>by simp only [piecesF];rw [if_neg (by omega)]
 |f+1,g+1,a,h,h'=>by
  simp only [piecesF]
  split
  · split
    · rfl
    · rename_i hn;rw [jal s f g _ (by omega) (by omega)]
  · rfl
def piecesS (s:ByteArray) (a:Nat):List (PieceV × Bool):=piecesF s (s.size - a) a
theorem Zc {s:ByteArray} {a:Nat} (h:¬a<s.size):piecesS s a=[]:=by
 unfold piecesS;rw [show s.size - a=0 by omega]
 rfl
theorem jah {s:ByteArray} {a:Nat} {x:PieceV} (h:a<s.size) (hl:leadP (s.extract a s.size) (a==0)=(x,0)):piecesS s a=[(x,false)]:=by
 unfold piecesS;obtain ⟨f,hf⟩:∃ f,s.size - a=f+1:=⟨s.size - a - 1,by omega⟩;rw [hf];simp only [piecesF,hl];rw [if_pos h]
 rfl
theorem ja4 {s:ByteArray} {a n:Nat} {x:PieceV} (h:a<s.size) (hl:leadP (s.extract a s.size) (a==0)=(x,n)) (hn:n≠0):piecesS s a=(x,true)::piecesS s (a+n):=by
 unfold piecesS;obtain ⟨f,hf⟩:∃ f,s.size - a=f+1:=⟨s.size - a - 1,by omega⟩;rw [hf];simp only [piecesF,hl];rw [if_pos h,if_neg hn,jal s f (s.size - (a+n)) (a+n) (by omega) (by omega)]
 simp;omega
theorem jru (s:ByteArray) (first:Bool):(leadP s first).2≤s.size+2:=by
 have he:(elemP s).2≤s.size+2:=by
  unfold elemP
  split
  · simp
  · split
    · simp [digS];omega
    · simp
 have hi:∀ d:ByteArray,d.size≤1→(itemP s d).2≤s.size+2:=fun d hd=>by
  unfold itemP;have h1:=X7 (itemR s d);have h2:=jdy s d
  split
  · simp;omega
  · simp
 unfold leadP
 split
 · exact he
 · split
   · exact hi _ (by decide)
   · exact hi _ (by decide)
theorem Xn {w w':World} (h:Below w.heap.size w w'):w.grownBy w' none:=⟨h.os,h.tape,h.output,h.size,fun k hk _=>h.block k hk⟩
theorem jan (s:ByteArray) (w:World):Calls Tryz.prog 89 #[.string s] w fun e w'=>
  e=.returned (.func (.func 124) #[] #[.pointer (some ⟨w.heap.size,0,none⟩)])∧w'=w.alloc (.cells #[.string s] 9):=by
 have hmf':=hmf;go_enter Tryz.func89,Tryz.ntmps89;go_wp2;go_ret;exact ⟨rfl,rfl⟩
theorem jg1 (l m Bn:Nat) (s:ByteArray) (hs:s.size≤1000000) (J Jx:List (PieceV × Bool)→World→Prop) (W:World) (hm:m≤W.heap.size) (hJ:AbidesFrom W.heap.size J)
  (hY:∀ pre x W,J pre W→pre.length<s.size→YieldAt Fence.wide 1 Tryz.prog l #[pieceV x.1,.bool x.2] W fun e W'=>
   (e=.returned (.bool true)∧J (pre++[x]) W'∧KpM m Bn (Bn+1) W W')∨(e=.returned (.bool false)∧Jx (pre++[x]) W'))
  (hBn:W.cell? ⟨Bn,0,none⟩=some (.string s)) (h0:J [] W):
  CallsIn Fence.wide 2 Tryz.prog 124 #[.func (.yield l) #[] #[],.pointer (some ⟨Bn,0,none⟩)] W fun e W'=>(∃ v,e=.returned v)∧
   ((∃ xs,xs=piecesS s 0∧J xs W')∨(∃ pre,(∃ r,piecesS s 0=pre++r)∧Jx pre W')):=by
 refine callsIn_of_wp Tryz.func124 rfl trivial ?_ rfl;simp only [Tryz.ntmps124,List.size_toArray,List.length_cons,List.length_nil,Nat.reduceAdd,Nat.reduceSub,Array.replicate_succ,Array.replicate_zero,List.push_toArray,List.append_toArray,List.nil_append,List.cons_append]
 gi_wp2
 gi_loopw [3] (fun p wr=>∃ (pre:List (PieceV × Bool)) (k:Nat),p=.int .i64 (k:Nat)∧k≤2000010∧pre.length≤k∧piecesS s 0=pre++piecesS s k∧J pre wr∧KpM m Bn (Bn+1) W wr)
  (fun p _=>s.size - (intOf p).toNat)
 case atStart=>exact ⟨[],0,rfl,by omega,by simp,rfl,h0,KpM.refl _ _ _ _⟩
 case round=>
  obtain ⟨pre,k,rfl,hk,hpl,hx,hJs,hbl⟩:=hrel;have hc:=(World.cell?_of_block (a:=⟨Bn,0,none⟩) (hbl.mid Bn (Nat.le_refl _) (Nat.lt_succ_self _))).trans hBn;have hBl:=World.block_lt_of_cell? W _ hBn;simp only at hBl
  by_cases hlt:k<s.size
  · have hd:decide ((k:Int)<s.size)=true:=by simp;omega
    have hsl:∀ wx,(Instr.slice 9 (.string s) (some (.int .i64 (k:Nat))) none none).run Tryz.prog wx=.ok (.string (s.extract k s.size)) wx:=fun wx=>run_slice_string_l wx 9 s Tryz.underlying9 .i64 (k:Nat) (by omega) (by omega)
    have hzr:(s.extract k s.size).size≤1000000:=by simp;omega
    have hz1:1≤(s.extract k s.size).size:=by simp;omega
    have hq:((k:Int)==0)=(k==0):=by rw [Bool.eq_iff_iff];simp
    have HC:=lh (fun wx=>jet (s.extract k s.size) (k==0) hzr hz1 wx);have hle:=jru (s.extract k s.size) (k==0);obtain ⟨X,hX⟩:∃ X,leadP (s.extract k s.size) (k==0)=X:=⟨_,rfl⟩;rw [hX] at HC hle;obtain ⟨⟨b,nn,nm⟩,m⟩:=X;unfold pieceV at HC;have HY:=lh hY;have HJA:=lh hJ;have e1:m=0→piecesS s k=[(⟨b,nn,nm⟩,false)]:=fun h=>jah hlt (by rw [hX,h]);have e2:m≠0→piecesS s k=(⟨b,nn,nm⟩,true)::piecesS s (k+m):=fun h=>ja4 hlt hX h
    have HE3:=lh (show ∃ r,piecesS s k=(⟨b,nn,nm⟩,decide (0<m))::r by
     by_cases h:m=0
     · exact ⟨[],by rw [e1 h];simp [h]⟩
     · exact ⟨_,by rw [e2 h,show decide (0<m)=true by simp;omega]⟩)
    have HE1:=lh e1;have HE2:=lh e2;clear e1 e2 hX hY hJ
    gi_wp2_with (refine ⟨trivial,?_⟩;gi_at_call 125;refine (inWide (HC.out _)).mono ?_;rintro e w1 ⟨rfl,hb⟩;have hb2:=hb.alloc hb.size (.cells #[.bool b,.int .i64 nn,.string nm] 142);obtain ⟨fn,tmps,assign,body,hy,hR⟩:=HY.out pre (⟨b,nn,nm⟩,decide (0<m)) (w1.alloc (.cells #[.bool b,.int .i64 nn,.string nm] 142)) (HJA.out pre wr _ none hJs (Xn hb2) (fun r h=>by cases h)) (by omega);simp only [pieceV] at hy)
    refine hR.mono ?_;rintro e W3 (⟨rfl,hJ3,hk3⟩|⟨rfl,hJx3⟩)
    · by_cases h0:m=0
      · have k0:((m:Int)==0)=true:=by simp;omega
        gi_wp2
        refine bodyPost_ret (results_none rfl _ _ _) rfl ?_
        have eb:decide (0<m)=false:=by simp [h0]
        rw [eb] at hJ3;exact ⟨⟨_,rfl⟩,.inl ⟨_,rfl,by rw [hx,HE1.out h0];exact hJ3⟩⟩
      · have k0:((m:Int)==0)=false:=by simp;omega
        have hwr:IntKind.i64.wrap ((k:Int)+m)=((k+m:Nat):Int):=by rw [IntWalk.i64_in _ (by omega)];omega
        gi_wp2
        go_roundw
        case rel=>
         have h9:m≤(s.extract k s.size).size+2:=hle
         have h8:decide (0<m)=true:=by simp;omega
         rw [h8] at hJ3;exact ⟨pre++[(⟨b,nn,nm⟩,true)],k+m,rfl,by omega,by simp;omega,by rw [hx,HE2.out h0];simp,hJ3,hbl.trans ((KpM.of_below hb2 (Nat.le_trans hm hbl.below.size) (Nat.le_trans hBl hbl.below.size)).trans hk3)⟩
        case measure=>simp [intOf];omega
    · gi_wp2
      refine bodyPost_ret (results_none rfl _ _ _) rfl ?_;obtain ⟨r,hr⟩:=HE3.out;exact ⟨⟨_,rfl⟩,.inr ⟨_,⟨r,by rw [hx,hr];simp⟩,hJx3⟩⟩
  · have hd:decide ((k:Int)<s.size)=false:=by simp;omega
    gi_wp2
    go_end0
    exact ⟨⟨_,rfl⟩,.inl ⟨_,rfl,by rw [hx,Zc hlt,List.append_nil];exact hJs⟩⟩
theorem Zd (m Bn:Nat) (s:ByteArray) (hs:s.size≤1000000) (w:World) (hm:m≤w.heap.size) (hBn:w.cell? ⟨Bn,0,none⟩=some (.string s)):
  SeqStopsK Fence.wide 2 Tryz.prog 124 #[.pointer (some ⟨Bn,0,none⟩)] (fun x:PieceV × Bool=>#[pieceV x.1,.bool x.2]) (KpM m Bn (Bn+1)) (fun xs=>xs=piecesS s 0) (fun pre=>∃ r,piecesS s 0=pre++r) s.size w:=
 fun l J Jx W hW hJ _ hY h0=>jg1 l m Bn s hs J Jx W (Nat.le_trans hm hW.size) hJ hY ((hW.cell (p:=⟨Bn,0,none⟩) (World.block_lt_of_cell? w _ hBn)).trans hBn) h0
theorem Yj (s:ByteArray):s.toList.isEmpty=(s.size==0):=by
 rw [ByteArray.toList_eq,Bool.eq_iff_iff,List.isEmpty_iff_length_eq_zero];simp
theorem je9 (s:ByteArray) (hs:s.size≤1000000) (w:World):Calls Tryz.prog 88 #[.string s] w fun e w'=>
  e=.returned (.bool ((piecesS s 0).all (·.2)&&!(s.size==0)))∧Below w.heap.size w w':=by
 have hpc:=fun wx=>jan s wx;refine qd Tryz.func88 rfl ?_;simp only [Tryz.ntmps88,List.size_toArray,List.length_cons,List.length_nil,Nat.reduceAdd,Nat.reduceSub,Array.replicate_succ,Array.replicate_zero,List.push_toArray,List.append_toArray,List.nil_append,List.cons_append];go_wp2_with (go_at_call 89;refine (hpc _).mono ?_;rintro e w1 ⟨rfl,rfl⟩);have hb0:Below w.heap.size w ((w.alloc (.cells #[.bool false] 4)).alloc (.cells #[.string s] 9)):=((Below.refl _ w).alloc (Nat.le_refl _) _).alloc (by simp) _;have hr0:Boxed ((w.alloc (.cells #[.bool false] 4)).alloc (.cells #[.string s] 9)) w.heap.size 4 (.bool false):=(Boxed.new w _ _).alloc _
 have hc0:((w.alloc (.cells #[.bool false] 4)).alloc (.cells #[.string s] 9)).cell? ⟨w.heap.size+1,0,none⟩=some (.string s):=by
  have:=(Boxed.new (w.alloc (.cells #[.bool false] 4)) 9 (.string s)).cell
  rwa [World.size_alloc] at this
 have hz0:((w.alloc (.cells #[.bool false] 4)).alloc (.cells #[.string s] 9)).heap.size=w.heap.size+2:=by simp
 obtain ⟨W0,hW0⟩:∃ W0,(w.alloc (.cells #[.bool false] 4)).alloc (.cells #[.string s] 9)=W0:=⟨_,rfl⟩;rw [hW0] at hb0 hr0 hc0 hz0 ⊢;clear hW0
 refine ja6 (gf:=124) (lb:=#[.pointer (some ⟨w.heap.size+1,0,none⟩)]) (w0:=W0) rfl (enters_of Tryz.func124 (by kernel_rfl) rfl)
  (Zd w.heap.size (w.heap.size+1) s hs W0 (by omega) hc0) (fun h k=>h.trans k) (KpM.putObj (by omega) (by omega)) (Below.refl _ _) (fun _=>rfl)
  (fun pre W=>Boxed W w.heap.size 4 (.bool false)∧Below w.heap.size w W∧pre.all (·.2)=true)
  (fun pre W=>Boxed W w.heap.size 4 (.bool false)∧Below w.heap.size w W∧pre.all (·.2)=false)
  (fun pre X Y h hst=>⟨hst.same _ _ h.1 (.inl rfl),hst.below h.2.1 (Nat.le_refl _) (by omega),h.2.2⟩)
  (fun pre X Y h hst=>⟨hst.same _ _ h.1 (.inl rfl),hst.below h.2.1 (Nat.le_refl _) (by omega),h.2.2⟩)
  ⟨hr0,hb0,rfl⟩ ?round ?done ?stop
 case round=>
  rintro l ⟨x,ok⟩ W K ⟨pre,hv,hB,ha⟩ hK
  gi_wp2
  refine hK _ _ (KeepsFrom.refl _ _) (KpM.refl _ _ _ _) (Stays.refl _ _) ?_;rintro l2 pre2 W2 hst ⟨hv2,hB2,ha2⟩ hl;have hc2:=hv2.cell;have hf2:=hv2.frozen
  cases ok
  · gi_wp2
    exact ⟨(KeepsOthers.setCell _ _ _).from _,rfl,hv2.set _,hB2.setCell (p:=⟨w.heap.size,0,none⟩) (Nat.le_refl _) _,by simp⟩
  · gi_wp2
    exact ⟨KeepsFrom.refl _ _,KpM.refl _ _ _ _,hv2,hB2,by simpa using ha2⟩
 case done=>
  rintro D xs W hD rfl ⟨hv,hB,ha⟩ hdk;have hc2:=hv.cell;have hf2:=hv.frozen;go_wp2;refine qp (D:=D) (qj hdk (by omega)) ⟨_,?_,rfl,?_⟩
  · have h1:=qn (qj (b:=w.heap.size) (v:=.bool (!s.toList.isEmpty)) hdk (by omega)) (hv.set (.bool (!s.toList.isEmpty))).cell
    have e:((piecesS s 0).all (·.2)&&!(s.size==0))=!s.toList.isEmpty:=by
     rw [ha,Yj];rfl
    rw [e];simp [results,Tryz.results88,asAddr,go_sem,h1]
  · exact yc (qj hdk (by omega)) (hB.setCell (p:=⟨w.heap.size,0,none⟩) (Nat.le_refl _) _) (by omega)
 case stop=>
  rintro D pre W hD ⟨r,hr⟩ ⟨hv,hB,ha⟩ hdk;refine qp (D:=D) hdk ⟨_,?_,rfl,?_⟩
  · have h1:=qn hdk hv.cell;rw [hr,List.all_append,ha];simp [results,Tryz.results88,asAddr,go_sem,h1]
  · exact yc hdk hB (by omega)
end Go.Proofs.YthcompcjphaahaaGreatDoor.Pa
namespace Go.Proofs.YthcompcjphaahaaGreatDoor.Pa
open Go Go.RowKit
structure StepV where
 elem:Bool
 n:Int
instance:Inhabited StepV:=⟨⟨false,0⟩⟩
def stepVal (s:StepV):Value:=.agg #[.bool s.elem,.int .i64 s.n]
def elK (k:Int):Bool:=k==11||k==12
def itK (k:Int):Bool:=k==13||k==14
def nextB (T:TypeV) (s:StepV):Bool:=decide (0≤s.n)&&(if s.elem then elK T.kind&&decide (s.n<T.bound) else itK T.kind&&decide (s.n<T.ilen))
def nextZ (T:TypeV) (s:StepV):Int:=if nextB T s then (if s.elem then T.of else (T.items s.n.toNat).type) else 0
theorem jbv (T:TypeV) (w:World):Calls Tryz.prog 126 #[typV T] w fun e w'=>e=.returned (.bool (elK T.kind))∧Below w.heap.size w w':=by
 unfold typV;have hb0:=(Below.refl w.heap.size w).alloc (Nat.le_refl _) (.cells #[.int .i64 T.kind,.string T.name,.int .i64 T.bound,.int .i64 T.of,.int .i64 T.tag,.slice T.ia T.ilen T.icap] 58);obtain ⟨q1,h1⟩:∃ q,(T.kind==11)=q:=⟨_,rfl⟩;obtain ⟨q2,h2⟩:∃ q,(T.kind==12)=q:=⟨_,rfl⟩;rw [show elK T.kind=(q1||q2) by unfold elK;rw [h1,h2]]
 cases q1
 · go_enter Tryz.func126,Tryz.ntmps126;go_wp2;go_ret;exact ⟨by simp,hb0⟩
 · go_enter Tryz.func126,Tryz.ntmps126;go_wp2;go_ret;exact ⟨rfl,hb0⟩
theorem jbs (T:TypeV) (w:World):Calls Tryz.prog 127 #[typV T] w fun e w'=>e=.returned (.bool (itK T.kind))∧Below w.heap.size w w':=by
 unfold typV;have hb0:=(Below.refl w.heap.size w).alloc (Nat.le_refl _) (.cells #[.int .i64 T.kind,.string T.name,.int .i64 T.bound,.int .i64 T.of,.int .i64 T.tag,.slice T.ia T.ilen T.icap] 58);obtain ⟨q1,h1⟩:∃ q,(T.kind==13)=q:=⟨_,rfl⟩;obtain ⟨q2,h2⟩:∃ q,(T.kind==14)=q:=⟨_,rfl⟩;rw [show itK T.kind=(q1||q2) by unfold itK;rw [h1,h2]]
 cases q1
 · go_enter Tryz.func127,Tryz.ntmps127;go_wp2;go_ret;exact ⟨by simp,hb0⟩
 · go_enter Tryz.func127,Tryz.ntmps127;go_wp2;go_ret;exact ⟨rfl,hb0⟩
theorem Z8 (T:TypeV) (s:StepV) (w:World) (HT:ItemsAt w T):Calls Tryz.prog 91 #[typV T,stepVal s] w fun e w'=>e=.returned (.tuple #[.int .i64 (nextZ T s),.bool (nextB T s)])∧Below w.heap.size w w':=by
 have hE:=lh (fun wx=>jbv T wx);have hI:=lh (fun wx=>jbs T wx);have hn:nextB T s=(decide (0≤s.n)&&(if s.elem then elK T.kind&&decide (s.n<T.bound) else itK T.kind&&decide (s.n<T.ilen))):=rfl;have hz:nextZ T s=if nextB T s then (if s.elem then T.of else (T.items s.n.toNat).type) else 0:=rfl;obtain ⟨q1,h1⟩:∃ q,elK T.kind=q:=⟨_,rfl⟩;obtain ⟨q2,h2⟩:∃ q,itK T.kind=q:=⟨_,rfl⟩;obtain ⟨q3,h3⟩:∃ q,decide (s.n<T.bound)=q:=⟨_,rfl⟩;obtain ⟨q4,h4⟩:∃ q,decide (s.n<(T.ilen:Int))=q:=⟨_,rfl⟩;obtain ⟨el,hel⟩:∃ q,s.elem=q:=⟨_,rfl⟩;rw [h1,h2,h3,h4,hel] at hn;rw [h1] at hE;rw [h2] at hI;rw [hel] at hz;unfold typV at hE hI ⊢;unfold stepVal;rw [hel];have HB0:=lh (((Below.refl w.heap.size w).alloc (Nat.le_refl _) (.cells #[.int .i64 T.kind,.string T.name,.int .i64 T.bound,.int .i64 T.of,.int .i64 T.tag,.slice T.ia T.ilen T.icap] 58)).alloc (by simp) (.cells #[.bool el,.int .i64 s.n] 113));have HR0:=lh (jc (jd w (.cells #[.int .i64 T.kind,.string T.name,.int .i64 T.bound,.int .i64 T.of,.int .i64 T.tag,.slice T.ia T.ilen T.icap] 58)) ((Below.refl _ _).alloc (Nat.le_refl _) (.cells #[.bool el,.int .i64 s.n] 113)));have HR1:=lh (jd (w.alloc (.cells #[.int .i64 T.kind,.string T.name,.int .i64 T.bound,.int .i64 T.of,.int .i64 T.tag,.slice T.ia T.ilen T.icap] 58)) (.cells #[.bool el,.int .i64 s.n] 113));rw [World.size_alloc] at HR1
 have hz0:((w.alloc (.cells #[.int .i64 T.kind,.string T.name,.int .i64 T.bound,.int .i64 T.of,.int .i64 T.tag,.slice T.ia T.ilen T.icap] 58)).alloc (.cells #[.bool el,.int .i64 s.n] 113)).heap.size=w.heap.size+2:=by simp
 by_cases hs:s.n<0
 · have k0:decide (s.n<0)=true:=by simp [hs]
   have e1:nextB T s=false:=by rw [hn,decide_eq_false (by omega)];rfl
   rw [hz,e1];clear hn hz e1 hE hI;go_enter Tryz.func91,Tryz.ntmps91;go_wp2
   go_ret2
   exact ⟨rfl,HB0.out⟩
 · have k0:decide (s.n<0)=false:=by simp;omega
   rw [decide_eq_true (by omega:0≤s.n)] at hn
   cases el
   · cases q2
     · have e1:nextB T s=false:=hn;rw [hz,e1];clear hn hz e1;go_enter Tryz.func91,Tryz.ntmps91;go_wp2_with (go_at_call 127;refine (hI.out _).mono ?_;rintro e w1 ⟨rfl,hb⟩;have r0:=jc HR0.out hb;have r1:=jc HR1.out hb;have c2:=ja (j:=2) r0 rfl;have c3:=ja (j:=3) r0 rfl;have c5:=ja (j:=5) r0 rfl;have s1:=ja (j:=1) r1 rfl;clear r0 r1)
       go_ret2
       exact ⟨rfl,HB0.out.trans (hb.mono (by omega))⟩
     · cases q4
       · have e1:nextB T s=false:=hn;rw [hz,e1];clear hn hz e1;go_enter Tryz.func91,Tryz.ntmps91;go_wp2_with (go_at_call 127;refine (hI.out _).mono ?_;rintro e w1 ⟨rfl,hb⟩;have r0:=jc HR0.out hb;have r1:=jc HR1.out hb;have c2:=ja (j:=2) r0 rfl;have c3:=ja (j:=3) r0 rfl;have c5:=ja (j:=5) r0 rfl;have s1:=ja (j:=1) r1 rfl;clear r0 r1)
         go_ret2
         exact ⟨rfl,HB0.out.trans (hb.mono (by omega))⟩
       · have e1:nextB T s=true:=hn;rw [hz,e1];obtain ⟨j,hj⟩:=Int.eq_ofNat_of_zero_le (by omega:0≤s.n)
         have hjl:j<T.ilen:=by have:=of_decide_eq_true h4;omega
         obtain ⟨b,off,hia,x0,x1,x2,x3,x4,wi⟩:=HT.2 j hjl;have HJ:=lh hj;rw [hj] at HB0 HR0 HR1 hz0 h4 k0 ⊢;rw [hia] at HB0 HR0 HR1 hz0 hI ⊢;have HX:=lh (jk HB0.out x2);rw [show ((j:Nat):Int).toNat=j by omega];clear hn hz e1 x0 x1 x2 x3 x4 hj hia h3 hE HT hs;go_enter Tryz.func91,Tryz.ntmps91;go_wp2_with (go_at_call 127;refine (hI.out _).mono ?_;rintro e w1 ⟨rfl,hb⟩;have r0:=jc HR0.out hb;have r1:=jc HR1.out hb;have c2:=ja (j:=2) r0 rfl;have c3:=ja (j:=3) r0 rfl;have c5:=ja (j:=5) r0 rfl;have s0:=ja (j:=0) r1 rfl;have s1:=ja (j:=1) r1 rfl;clear r0 r1;have cx:=jk hb HX.out)
         go_ret2
         exact ⟨rfl,HB0.out.trans (hb.mono (by omega))⟩
   · cases q1
     · have e1:nextB T s=false:=hn;rw [hz,e1];clear hn hz e1;go_enter Tryz.func91,Tryz.ntmps91;go_wp2_with (go_at_call 126;refine (hE.out _).mono ?_;rintro e w1 ⟨rfl,hb⟩;have r0:=jc HR0.out hb;have r1:=jc HR1.out hb;have c2:=ja (j:=2) r0 rfl;have c3:=ja (j:=3) r0 rfl;have c5:=ja (j:=5) r0 rfl;have s0:=ja (j:=0) r1 rfl;have s1:=ja (j:=1) r1 rfl;clear r0 r1)
       go_ret2
       exact ⟨rfl,HB0.out.trans (hb.mono (by omega))⟩
     · cases q3
       · have e1:nextB T s=false:=hn;rw [hz,e1];clear hn hz e1;go_enter Tryz.func91,Tryz.ntmps91;go_wp2_with (go_at_call 126;refine (hE.out _).mono ?_;rintro e w1 ⟨rfl,hb⟩;have r0:=jc HR0.out hb;have r1:=jc HR1.out hb;have c2:=ja (j:=2) r0 rfl;have c3:=ja (j:=3) r0 rfl;have c5:=ja (j:=5) r0 rfl;have s0:=ja (j:=0) r1 rfl;have s1:=ja (j:=1) r1 rfl;clear r0 r1)
         go_ret2
         exact ⟨rfl,HB0.out.trans (hb.mono (by omega))⟩
       · have e1:nextB T s=true:=hn;rw [hz,e1];clear hn hz e1;go_enter Tryz.func91,Tryz.ntmps91;go_wp2_with (go_at_call 126;refine (hE.out _).mono ?_;rintro e w1 ⟨rfl,hb⟩;have r0:=jc HR0.out hb;have r1:=jc HR1.out hb;have c2:=ja (j:=2) r0 rfl;have c3:=ja (j:=3) r0 rfl;have c5:=ja (j:=5) r0 rfl;have s0:=ja (j:=0) r1 rfl;have s1:=ja (j:=1) r1 rfl;clear r0 r1)
         go_ret2
         exact ⟨rfl,HB0.out.trans (hb.mono (by omega))⟩
end Go.Proofs.YthcompcjphaahaaGreatDoor.Pa
namespace Go.Proofs.YthcompcjphaahaaGreatDoor.Pa
open Go Go.RowKit Go.Shelf
attribute [local go_sem] Oper.semAt_some
theorem jfn (ao:Option Addr) (len cap:Nat) (L:Nat→TypeV) (t:Int) (hlen:len≤1000000) (hcap:len≤cap) (w:World) (H:∀ i,i<len→TypeAt w ao i (L i)):
  Calls Tryz.prog 87 #[.slice ao len cap,.int .i64 t] w fun e w'=>e=.returned (.bool (hasT L len t))∧Below w.heap.size w w':=by
 by_cases ht:0≤t∧t<len
 · obtain ⟨h0,h1⟩:=ht
   have hT:hasT L len t=((fErr (oneR L len) len==0)&&(fAt (oneR L len) len==0)):=by unfold hasT inL;rw [decide_eq_true h0,decide_eq_true h1];rfl
   rw [hT];have hc:=jkl ao len cap L hlen hcap w H;rw [jkw] at hc;unfold faultV at hc;obtain ⟨E,hE⟩:∃ E,fErr (oneR L len) len=E:=⟨_,rfl⟩;obtain ⟨A,hA⟩:∃ A,fAt (oneR L len) len=A:=⟨_,rfl⟩;rw [hE,hA] at hc ⊢;have hfe:=fun w=>jic E A w;obtain ⟨q,hq⟩:∃ q,((E==0)&&(A==0))=q:=⟨_,rfl⟩;rw [hq] at hfe ⊢;have HC:=lh hc;clear hc hE hA hT hq H;go_enter Tryz.func87,Tryz.ntmps87;go_wp2_with (go_at_call 123;refine HC.out.mono ?_;rintro e w1 ⟨rfl,hb1⟩;have HB1:=lh hb1;clear hb1);go_ret;exact ⟨rfl,HB1.out⟩
 · have hT:hasT L len t=false:=by unfold hasT;rw [za ht];rfl
   rw [hT];clear hT H
   by_cases h0:0≤t
   · have h1:¬t<len:=fun h=>ht ⟨h0,h⟩;clear ht;go_enter Tryz.func87,Tryz.ntmps87;go_wp2;go_ret;exact ⟨rfl,Below.refl _ _⟩
   · clear ht;go_enter Tryz.func87,Tryz.ntmps87;go_wp2;go_ret;exact ⟨rfl,Below.refl _ _⟩
def StepAt (w:World) (pa:Option Addr) (i:Nat) (s:StepV):Prop:=
 ∃ b off,pa=some ⟨b,off,none⟩∧w.cell? ⟨b,off+i*2,none⟩=some (.bool s.elem)∧w.cell? ⟨b,off+i*2+1,none⟩=some (.int .i64 s.n)
theorem StepAt.held {w w1:World} {pa:Option Addr} {i:Nat} {s:StepV} (h:StepAt w pa i s) (hb:Below w.heap.size w w1):StepAt w1 pa i s:=by
 obtain ⟨b,off,e,h0,h1⟩:=h;exact ⟨b,off,e,jk hb h0,jk hb h1⟩
theorem holdP {w:World} {pa:Option Addr} {n:Nat} {P:Nat→StepV} (H:∀ i,i<n→StepAt w pa i (P i)) {wx:World} (hb:Below w.heap.size w wx):∀ i,i<n→StepAt wx pa i (P i):=fun i hi=>(H i hi).held hb
def nextN (L:Nat→TypeV) (t:Nat) (s:StepV):Nat:=(nextZ (L t) s).toNat
def alongL (L:Nat→TypeV):Nat→List StepV→List (Nat × StepV)
 |_,[]=>[]
 |t,s::r=>(t,s)::alongL L (nextN L t s) r
def stepsL (P:Nat→StepV) (n:Nat):List StepV:=(List.range n).map P
theorem jd1 (P:Nat→StepV) (n:Nat):(stepsL P n).length=n:=by simp [stepsL]
theorem jh6 (P:Nat→StepV) {k n:Nat} (h:k<n):(stepsL P n).drop k=P k::(stepsL P n).drop (k+1):=by
 rw [List.drop_eq_getElem_cons (by rw [jd1];exact h)];simp [stepsL]
theorem yq {L:Nat→TypeV} {len t:Nat} {s:StepV} (hv:∀ i,i<len→OkT L i) (ht:t<len):0≤nextZ (L t) s∧nextN L t s<len:=by
 unfold nextN nextZ;have ok:=hv t ht
 split
 · rename_i hb;unfold nextB at hb
   split
   · rename_i he;rw [if_pos he] at hb;simp only [elK,Bool.and_eq_true,Bool.or_eq_true,beq_iff_eq] at hb
     have:=ok.of hb.2.1
     omega
   · rename_i he;rw [if_neg he] at hb;simp only [itK,Bool.and_eq_true,Bool.or_eq_true,beq_iff_eq,decide_eq_true_eq] at hb
     have:=ok.items hb.2.1 s.n.toNat (by omega)
     omega
 · omega
theorem jb0 (ao:Option Addr) (len cap:Nat) (t:Int) (pa:Option Addr) (n pc:Nat) (w:World):Calls Tryz.prog 93 #[.slice ao len cap,.int .i64 t,.slice pa n pc] w fun e w'=>
  e=.returned (.func (.func 129) #[] #[.pointer (some ⟨w.heap.size+1,0,none⟩),.pointer (some ⟨w.heap.size+2,0,none⟩),.pointer (some ⟨w.heap.size,0,none⟩)])∧
  w'=((w.alloc (.cells #[.slice ao len cap] 22)).alloc (.cells #[.int .i64 t] 3)).alloc (.cells #[.slice pa n pc] 70):=by
 have hmf':=hmf;go_enter Tryz.func93,Tryz.ntmps93;go_wp2;go_ret;exact ⟨rfl,rfl⟩
theorem KpM.cell {m b1 b2 b j:Nat} {X Y:World} {v:Value} (h:KpM m b1 b2 X Y) (h1:b1≤b) (h2:b<b2) (hc:X.cell? ⟨b,j,none⟩=some v):Y.cell? ⟨b,j,none⟩=some v:=
 (World.cell?_of_block (a:=⟨b,j,none⟩) (h.mid b h1 h2)).trans hc
theorem jh3 (l b1 b2 tB pB lB:Nat) (ao:Option Addr) (len cap:Nat) (L:Nat→TypeV) (hlen:len≤1000000) (hv:∀ i,i<len→OkT L i) (t:Nat) (ht:t<len) (pa:Option Addr) (n pc:Nat) (P:Nat→StepV) (hn:n≤1000000)
  (G:Nat × StepV→Prop) (hG:∀ x,x∈alongL L t (stepsL P n)→G x) (wb:World) (H:∀ i,i<len→TypeAt wb ao i (L i)) (HP:∀ i,i<n→StepAt wb pa i (P i))
  (J Jx:List {x:Nat × StepV // G x}→World→Prop) (W:World) (hbW:Below wb.heap.size wb W) (hb1:wb.heap.size≤b1) (hbt:b1≤tB∧tB<b2) (hbp:b1≤pB∧pB<b2) (hbl:b1≤lB∧lB<b2) (hbs:b2≤W.heap.size) (hJ:AbidesFrom W.heap.size J)
  (hY:∀ pre x W,J pre W→pre.length<n→YieldAt Fence.wide 1 Tryz.prog l #[.int .i64 (x.1.1:Nat),stepVal x.1.2] W fun e W'=>
   (e=.returned (.bool true)∧J (pre++[x]) W'∧KpS wb.heap.size b1 b2 W W')∨(e=.returned (.bool false)∧Jx (pre++[x]) W'))
  (hT:W.cell? ⟨tB,0,none⟩=some (.int .i64 (t:Nat))) (hP:W.cell? ⟨pB,0,none⟩=some (.slice pa n pc)) (hL:W.cell? ⟨lB,0,none⟩=some (.slice ao len cap)) (h0:J [] W):
  CallsIn Fence.wide 2 Tryz.prog 129 #[.func (.yield l) #[] #[],.pointer (some ⟨tB,0,none⟩),.pointer (some ⟨pB,0,none⟩),.pointer (some ⟨lB,0,none⟩)] W fun e W'=>(∃ v,e=.returned v)∧
   ((∃ xs:List {x:Nat × StepV // G x},xs.map (·.1)=alongL L t (stepsL P n)∧J xs W')∨(∃ pre:List {x:Nat × StepV // G x},(∃ r,alongL L t (stepsL P n)=pre.map (·.1)++r)∧Jx pre W')):=by
 have hmix:Tryz.prog.follows .mixedOrders=true:=by kernel_rfl
 have HH:=lh H;have HPP:=lh HP;have HJA:=lh hJ;have HY:=lh hY;have HG:=lh hG;clear H HP hJ hY hG;refine callsIn_of_wp Tryz.func129 rfl trivial ?_ rfl;simp only [Tryz.ntmps129,List.size_toArray,List.length_cons,List.length_nil,Nat.reduceAdd,Nat.reduceSub,Array.replicate_succ,Array.replicate_zero,List.push_toArray,List.append_toArray,List.nil_append,List.cons_append]
 gi_wp2
 gi_loopw [5,11] (fun a p wr=>∃ (pre:List {x:Nat × StepV // G x}) (k tk:Nat),a=.int .i64 (tk:Nat)∧p=.int .i64 (k:Nat)∧k≤n∧tk<len∧pre.length=k∧alongL L t (stepsL P n)=pre.map (·.1)++alongL L tk ((stepsL P n).drop k)∧J pre wr∧KpS wb.heap.size b1 b2 W wr)
  (fun _ p _=>n - (intOf p).toNat)
 case atStart=>exact ⟨[],0,t,rfl,rfl,by omega,ht,rfl,rfl,h0,KpS.refl _ _ _ _⟩
 case round=>
  obtain ⟨pre,k,tk,rfl,rfl,hk,htk,hpl,hx,hJs,hks⟩:=hrel
  by_cases hlt:k<n
  · have hd:decide ((k:Int)<n)=true:=by simp;omega
    have hbr:Below wb.heap.size wb wr:=hbW.trans hks.kept.below;obtain ⟨pb,po,rfl,s0,s1⟩:=holdP HPP.out hbr k hlt;rw [jh6 P hlt] at hx;have hg:G (tk,P k):=HG.out _ (by rw [hx];exact List.mem_append_right _ (List.mem_cons_self ..));have HX:=lh hx;have hb2:Below wr.heap.size wr (wr.alloc (.cells #[.bool (P k).elem,.int .i64 (P k).n] 113)):=(Below.refl _ _).alloc (Nat.le_refl _) _;obtain ⟨fn,tmps,assign,body,hy,hR⟩:=HY.out pre ⟨(tk,P k),hg⟩ (wr.alloc (.cells #[.bool (P k).elem,.int .i64 (P k).n] 113)) (HJA.out pre wr _ none hJs (Xn hb2) (fun r h=>by cases h)) (by omega);simp only [stepVal] at hy;clear hx
    gi_wp2
    refine hR.mono ?_;clear hR hy;rintro e W3 (⟨rfl,hJ3,hk3⟩|⟨rfl,hJx3⟩)
    · have hk03:KpS wb.heap.size b1 b2 W W3:=hks.trans ((KpS.of_below hb2 (by have:=hbr.size;omega) (by have:=hks.kept.below.size;omega)).trans hk3);have cL:=KpM.cell hk03.kept hbl.1 hbl.2 hL;obtain ⟨tb,tf,rfl,x0,x1,x2,x3,x4,x5,wf,hit⟩:=hold HH.out (hbW.trans hk03.kept.below) tk htk;have hrow:=hk3.row wr.heap.size _ _ (by have:=hks.kept.below.size;omega) (jd wr (.cells #[.bool (P k).elem,.int .i64 (P k).n] 113));have r0:=ja (j:=0) hrow rfl;have r1:=ja (j:=1) hrow rfl;have HN:=lh (Z8 (L tk) (P k) W3.drew (hit.held ((Below.refl _ _).drew)));obtain ⟨hz0,hz1⟩:=yq (s:=P k) hv htk
      have hz2:nextZ (L tk) (P k)=((nextN L tk (P k):Nat):Int):=by unfold nextN;omega
      rw [hz2] at HN;unfold typV stepVal at HN;clear hrow
      gi_wp2
      gi_region_with_o (refine ⟨trivial,?_⟩;gi_at_call 91;refine (inWide HN.out).mono ?_;rintro e w4 ⟨rfl,hb4⟩)
      all_goals
       have hb5:Below W3.heap.size W3 w4:=((Below.refl _ W3).drew).trans hb4;have hk5:KpS wb.heap.size b1 b2 W w4:=hk03.trans (KpS.of_below hb5 (by have:=hbW.size;have:=hk03.kept.below.size;omega) (by have:=hk03.kept.below.size;omega))
       gi_wp2
       go_roundw
       case rel=>exact ⟨pre++[⟨(tk,P k),hg⟩],k+1,nextN L tk (P k),rfl,by go_num,by omega,hz1,by simp [hpl],by rw [HX.out];simp [alongL],HJA.out _ _ _ none hJ3 (Xn hb5) (fun r h=>by cases h),hk5⟩
       case measure=>simp [intOf];omega
    · gi_wp2
      refine bodyPost_ret (results_none rfl _ _ _) rfl ?_;exact ⟨⟨_,rfl⟩,.inr ⟨_,⟨alongL L (nextN L tk (P k)) ((stepsL P n).drop (k+1)),by rw [HX.out];simp [alongL]⟩,hJx3⟩⟩
  · have hd:decide ((k:Int)<n)=false:=by simp;omega
    gi_wp2
    go_end0
    exact ⟨⟨_,rfl⟩,.inl ⟨_,by rw [hx,List.drop_eq_nil_of_le (by rw [jd1];omega)];simp [alongL],hJs⟩⟩
theorem Zx (b1 b2 tB pB lB:Nat) (ao:Option Addr) (len cap:Nat) (L:Nat→TypeV) (hlen:len≤1000000) (hv:∀ i,i<len→OkT L i) (t:Nat) (ht:t<len) (pa:Option Addr) (n pc:Nat) (P:Nat→StepV) (hn:n≤1000000)
  (G:Nat × StepV→Prop) (hG:∀ x,x∈alongL L t (stepsL P n)→G x) (wb:World) (H:∀ i,i<len→TypeAt wb ao i (L i)) (HP:∀ i,i<n→StepAt wb pa i (P i))
  (w:World) (hbw:Below wb.heap.size wb w) (hb1:wb.heap.size≤b1) (hbt:b1≤tB∧tB<b2) (hbp:b1≤pB∧pB<b2) (hbl:b1≤lB∧lB<b2) (hbs:b2≤w.heap.size)
  (hT:w.cell? ⟨tB,0,none⟩=some (.int .i64 (t:Nat))) (hP:w.cell? ⟨pB,0,none⟩=some (.slice pa n pc)) (hL:w.cell? ⟨lB,0,none⟩=some (.slice ao len cap)):
  SeqStopsK Fence.wide 2 Tryz.prog 129 #[.pointer (some ⟨tB,0,none⟩),.pointer (some ⟨pB,0,none⟩),.pointer (some ⟨lB,0,none⟩)] (fun x:{x:Nat × StepV // G x}=>#[.int .i64 (x.1.1:Nat),stepVal x.1.2]) (KpS wb.heap.size b1 b2)
   (fun xs=>xs.map (·.1)=alongL L t (stepsL P n)) (fun pre=>∃ r,alongL L t (stepsL P n)=pre.map (·.1)++r) n w:=
 fun l J Jx W hW hJ _ hY h0=>jh3 l b1 b2 tB pB lB ao len cap L hlen hv t ht pa n pc P hn G hG wb H HP J Jx W (hbw.trans (hW.mono hbw.size)) hb1 hbt hbp hbl (Nat.le_trans hbs hW.size) hJ hY
  ((hW.cell (p:=⟨tB,0,none⟩) (World.block_lt_of_cell? w _ hT)).trans hT) ((hW.cell (p:=⟨pB,0,none⟩) (World.block_lt_of_cell? w _ hP)).trans hP) ((hW.cell (p:=⟨lB,0,none⟩) (World.block_lt_of_cell? w _ hL)).trans hL) h0
end Go.Proofs.YthcompcjphaahaaGreatDoor.Pa
namespace Go.Proofs.YthcompcjphaahaaGreatDoor.Pa
open Go Go.RowKit Go.Shelf
attribute [local go_sem] Oper.semAt_some
def endL (L:Nat→TypeV):Nat→List StepV→Option Nat
 |t,[]=>some t
 |t,s::r=>if nextB (L t) s then endL L (nextN L t s) r else none
def endG (L:Nat→TypeV):List (Nat × StepV)→Nat→Option Nat
 | [],u=>some u
 |x::r,u=>if nextB (L x.1) x.2 then endG L r (nextN L x.1 x.2) else none
theorem jaa (L:Nat→TypeV):∀ (ps:List StepV) (t:Nat),endG L (alongL L t ps) t=endL L t ps
 | [],t=>rfl
 |s::r,t=>by
  simp only [alongL,endG,endL];rw [jaa L r]
def endA (L:Nat→TypeV) (len:Nat) (t:Int) (ps:List StepV):Option Nat:=if hasT L len t then endL L t.toNat ps else none
def endV:Option Nat→Value
 |some u=>.tuple #[.int .i64 (u:Nat),.bool true]
 |none=>.tuple #[.int .i64 0,.bool false]
theorem jiq {L:Nat→TypeV} {len:Nat} (hv:∀ i,i<len→OkT L i):∀ (ps:List StepV) (t:Nat),t<len→∀ x,x∈alongL L t ps→x.1<len
 | [],t,_,x,hx=>by simp [alongL] at hx
 |s::r,t,ht,x,hx=>by
  simp only [alongL,List.mem_cons] at hx
  rcases hx with rfl|hx
  · exact ht
  · exact jiq hv r _ (yq hv ht).2 x hx
theorem jhr (w1:World) (o:Obj) (ao:Option Addr) (len cap:Nat) (t:Int) (pa:Option Addr) (n pc:Nat):
  ∃ W0,(((w1.alloc o).alloc (.cells #[.slice ao len cap] 22)).alloc (.cells #[.int .i64 t] 3)).alloc (.cells #[.slice pa n pc] 70)=W0∧W0.heap.size=w1.heap.size+4∧Below w1.heap.size w1 W0∧W0.heap[w1.heap.size]?=some o∧
    W0.cell? ⟨w1.heap.size+1,0,none⟩=some (.slice ao len cap)∧W0.cell? ⟨w1.heap.size+2,0,none⟩=some (.int .i64 t)∧W0.cell? ⟨w1.heap.size+3,0,none⟩=some (.slice pa n pc):=by
 refine ⟨_,rfl,by simp,(((((Below.refl _ w1).alloc (Nat.le_refl _) _).alloc (by simp) _).alloc (by simp;omega) _).alloc (by simp;omega) _),?_,?_,?_,?_⟩
 · exact jc (jc (jc (jd w1 o) ((Below.refl _ _).alloc (Nat.le_refl _) _)) ((Below.refl _ _).alloc (Nat.le_refl _) _)) ((Below.refl _ _).alloc (Nat.le_refl _) _)
 · have h:=jc (jc (jd (w1.alloc o) (.cells #[.slice ao len cap] 22)) ((Below.refl _ _).alloc (Nat.le_refl _) (.cells #[.int .i64 t] 3))) ((Below.refl _ _).alloc (Nat.le_refl _) (.cells #[.slice pa n pc] 70));rw [World.size_alloc] at h;exact ja (j:=0) h rfl
 · have h:=jc (jd ((w1.alloc o).alloc (.cells #[.slice ao len cap] 22)) (.cells #[.int .i64 t] 3)) ((Below.refl _ _).alloc (Nat.le_refl _) (.cells #[.slice pa n pc] 70));rw [World.size_alloc,World.size_alloc] at h;exact ja (j:=0) h rfl
 · have h:=jd (((w1.alloc o).alloc (.cells #[.slice ao len cap] 22)).alloc (.cells #[.int .i64 t] 3)) (.cells #[.slice pa n pc] 70);rw [World.size_alloc,World.size_alloc,World.size_alloc] at h;exact ja (j:=0) h rfl
theorem jr {W:World} {b b' j:Nat} {v:Value} {o:Obj} (h:W.heap[b]?=some o) (hne:b≠b'):(W.setCell ⟨b',j,none⟩ v).heap[b]?=some o:=(Below.heap_setCell W ⟨b',j,none⟩ v b hne).trans h
theorem jnz (ao:Option Addr) (len cap:Nat) (L:Nat→TypeV) (hlen:len≤1000000) (hcap:len≤cap) (t:Int) (pa:Option Addr) (n pc:Nat) (P:Nat→StepV) (hn:n≤1000000) (w:World) (H:∀ i,i<len→TypeAt w ao i (L i)) (HP:∀ i,i<n→StepAt w pa i (P i)):
  Calls Tryz.prog 92 #[.slice ao len cap,.int .i64 t,.slice pa n pc] w fun e w'=>e=.returned (endV (endA L len t (stepsL P n)))∧Below w.heap.size w w':=by
 have hmix:Tryz.prog.follows .mixedOrders=true:=by kernel_rfl
 have HHas:=lh (fun wx (hb:Below w.heap.size w wx)=>jfn ao len cap L t hlen hcap wx (hold H hb));have HAL:=lh (fun wx=>jb0 ao len cap t pa n pc wx);have HB0:=lh ((((Below.refl w.heap.size w).alloc (Nat.le_refl _) (.cells #[.slice ao len cap] 22)).alloc (by simp) (.cells #[.int .i64 0] 3)).alloc (by simp;omega) (.cells #[.bool false] 4));have HR0:=lh (jc (jc (jd w (.cells #[.slice ao len cap] 22)) ((Below.refl _ _).alloc (Nat.le_refl _) (.cells #[.int .i64 0] 3))) ((Below.refl _ _).alloc (Nat.le_refl _) (.cells #[.bool false] 4)));have HR1:=lh (jc (jd (w.alloc (.cells #[.slice ao len cap] 22)) (.cells #[.int .i64 0] 3)) ((Below.refl _ _).alloc (Nat.le_refl _) (.cells #[.bool false] 4)));have HR2:=lh (jd ((w.alloc (.cells #[.slice ao len cap] 22)).alloc (.cells #[.int .i64 0] 3)) (.cells #[.bool false] 4));rw [World.size_alloc] at HR1;rw [World.size_alloc,World.size_alloc] at HR2
 have hz3:(((w.alloc (.cells #[.slice ao len cap] 22)).alloc (.cells #[.int .i64 0] 3)).alloc (.cells #[.bool false] 4)).heap.size=w.heap.size+3:=by simp
 have hea:endA L len t (stepsL P n)=if hasT L len t then endL L t.toNat (stepsL P n) else none:=rfl;have HH:=lh H;have HPP:=lh HP;clear H HP
 cases hT:hasT L len t with
 |false=>
  rw [hT] at HHas hea;rw [hea];refine qd Tryz.func92 rfl ?_;simp only [Tryz.ntmps92,List.size_toArray,List.length_cons,List.length_nil,Nat.reduceAdd,Nat.reduceSub,Array.replicate_succ,Array.replicate_zero,List.push_toArray,List.append_toArray,List.nil_append,List.cons_append];go_wp2_with (go_at_call 87;refine (HHas.out _ HB0.out).mono ?_;rintro e w1 ⟨rfl,hb⟩;have q1:=jc HR1.out hb;have q2:=jc HR2.out hb;have c1:=ja (j:=0) (v:=.int .i64 0) q1 rfl;have c2:=ja (j:=0) (v:=.bool false) q2 rfl;have f1:=jg (j:=0) q1;have f2:=jg (j:=0) q2);refine Xh (v:=.tuple #[.int .i64 0,.bool false]) ?_ ⟨rfl,?_⟩
  · simp [results,Tryz.results92,asAddr,go_sem,c1,c2]
  · exact ((HB0.out.trans (hb.mono (by omega))).setCell (p:=⟨w.heap.size+1,0,none⟩) (by simp) _).setCell (p:=⟨w.heap.size+1+1,0,none⟩) (by simp;omega) _
 |true=>
  rw [hT] at HHas hea;rw [hea];obtain ⟨k,rfl,hk,hok⟩:=Yc hT;have hv:=Z9 hok;rw [if_pos rfl,Int.toNat_natCast];refine qd Tryz.func92 rfl ?_;simp only [Tryz.ntmps92,List.size_toArray,List.length_cons,List.length_nil,Nat.reduceAdd,Nat.reduceSub,Array.replicate_succ,Array.replicate_zero,List.push_toArray,List.append_toArray,List.nil_append,List.cons_append]
  go_wp2_with (first
   |(go_at_call 87;refine (HHas.out _ HB0.out).mono ?_;rintro e w1 ⟨rfl,hb⟩;have q0:=jc HR0.out hb;have q1:=jc HR1.out hb;have q2:=jc HR2.out hb;have c0:=ja (j:=0) (v:=.slice ao len cap) q0 rfl;have hz:=hb.size;rw [hz3] at hz;have hne0:¬w.heap.size=w1.heap.size:=(by omega);have hlt0:w.heap.size<w1.heap.size:=(by omega))
   |(go_at_call 93;refine (HAL.out _).mono ?_;rintro e w2 ⟨rfl,rfl⟩))
  obtain ⟨W0,hW0,hz0,hb0,ht0,hl0,hk0,hp0⟩:=jhr w1 (.cells #[.int .i64 (k:Nat)] 3) ao len cap (k:Nat) pa n pc;rw [hW0];have g0:=jc q0 hb0;have g1:=jc q1 hb0;have g2:=jc q2 hb0;have hbw:Below w.heap.size w W0:=(HB0.out.trans (hb.mono (by omega))).trans (hb0.mono (by omega));clear hW0 q0 q1 q2 c0;have hG:∀ x,x∈alongL L k (stepsL P n)→x.1<len:=jiq hv (stepsL P n) k hk;have HHO:=lh (fun wx (hb:Below w.heap.size w wx)=>hold HH.out hb)
  refine ja6 (gf:=129) (w0:=W0) rfl (enters_of Tryz.func129 (by kernel_rfl) rfl)
   (Zx (w1.heap.size+1) (w1.heap.size+4) (w1.heap.size+2) (w1.heap.size+3) (w1.heap.size+1) ao len cap L hlen hv k hk pa n pc P hn (fun x=>x.1<len) hG w HH.out HPP.out W0 hbw (by omega) (by omega) (by omega) (by omega) (by omega) hk0 hp0 hl0)
   (fun h k=>h.trans k) (KpS.putObj (by omega) (by omega)) (Below.refl _ _) (fun _=>rfl)
   (fun pre W=>(∃ u:Nat,W.heap[w1.heap.size]?=some (.cells #[.int .i64 (u:Nat)] 3)∧∀ r,endG L (pre.map (·.1)++r) k=endG L r u)∧W.heap[w.heap.size]?=some (.cells #[.slice ao len cap] 22)∧
    W.heap[w.heap.size+1]?=some (.cells #[.int .i64 0] 3)∧W.heap[w.heap.size+1+1]?=some (.cells #[.bool false] 4)∧Below w.heap.size w W∧W0.heap.size≤W.heap.size)
   (fun pre W=>(∀ r,endG L (pre.map (·.1)++r) k=none)∧W.heap[w.heap.size+1]?=some (.cells #[.int .i64 0] 3)∧W.heap[w.heap.size+1+1]?=some (.cells #[.bool false] 4)∧Below w.heap.size w W)
   (fun pre X Y ⟨⟨u,h1,h2⟩,h3,h4,h5,h6,h8⟩ hst=>⟨⟨u,hst.same _ _ h1 (.inl rfl),h2⟩,hst.same _ _ h3 (.inl rfl),hst.same _ _ h4 (.inl rfl),hst.same _ _ h5 (.inl rfl),hst.below h6 (Nat.le_refl _) (by omega),Nat.le_trans h8 hst.size⟩)
   (fun pre X Y ⟨h2,h4,h5,h6⟩ hst=>⟨h2,hst.same _ _ h4 (.inl rfl),hst.same _ _ h5 (.inl rfl),hst.below h6 (Nat.le_refl _) (by omega)⟩)
   ⟨⟨k,ht0,fun r=>rfl⟩,g0,g1,g2,hbw,Nat.le_refl _⟩ ?round ?done ?stop
  case round=>
   rintro l ⟨⟨a,s⟩,hx⟩ W K ⟨pre,⟨u,h1,h2⟩,h3,h4,h5,h6,h8⟩ hK;simp only [stepVal]
   gi_wp2
   refine hK _ _ ((KeepsOthers.alloc _ _).from _) (KpS.of_below ((Below.refl _ _).alloc (Nat.le_refl _) _) (by omega) (by omega)) (Stays.alloc _ _) ?_;have hs0:=jd W (.cells #[.bool s.elem,.int .i64 s.n] 113);clear h1 h2 h3 h4 h5;rintro l2 pre2 W2 hst ⟨⟨u,h1,h2⟩,h3,h4,h5,h7,h9⟩ hl;have hs1:=hst.same _ _ hs0 (.inl rfl);have c0:=ja (j:=0) (v:=.slice ao len cap) h3 rfl;have c1:=ja (j:=0) (v:=.int .i64 0) h4 rfl;have c2:=ja (j:=0) (v:=.bool false) h5 rfl;have c3:=ja (j:=0) (v:=.int .i64 (u:Nat)) h1 rfl;have s0:=ja (j:=0) (v:=.bool s.elem) hs1 rfl;have s1:=ja (j:=1) (v:=.int .i64 s.n) hs1 rfl;have f1:=jg (j:=0) h4;have f2:=jg (j:=0) h5;have f3:=jg (j:=0) h1;obtain ⟨tb,tf,rfl,x0,x1,x2,x3,x4,x5,wf,hit⟩:=HHO.out _ h7 a hx;have HN:=lh (Z8 (L a) s W2.drew (hit.held ((Below.refl _ _).drew)));obtain ⟨hp0,hp1⟩:=yq (s:=s) hv hx
   have hp2:nextZ (L a) s=((nextN L a s:Nat):Int):=by unfold nextN;simp only at hp0;omega
   obtain ⟨q,hq⟩:∃ q,nextB (L a) s=q:=⟨_,rfl⟩
   have hen:∀ r,endG L ((pre2.map (·.1)++[(a,s)])++r) k=if q then endG L r (nextN L a s) else none:=fun r=>by
    rw [List.append_assoc,h2,←hq];rfl
   rw [hp2,hq] at HN;obtain ⟨v,hv2⟩:∃ v,nextN L a s=v:=⟨_,rfl⟩;rw [hv2] at HN hen;have HEN:=lh hen;unfold typV stepVal at HN;clear hen hq hv2 hp2 hp1 hp0 h2
   gi_wp2
   gi_region_with_o (refine ⟨trivial,?_⟩;gi_at_call 91;refine (inRnd HN.out).mono ?_;rintro e w4 ⟨rfl,hb4⟩;have p1:=jc (w:=W2.drew) h1 hb4;have p4:=jc (w:=W2.drew) h4 hb4;have p5:=jc (w:=W2.drew) h5 hb4;have p3:=jc (w:=W2.drew) h3 hb4;have d3:=ja (j:=0) (v:=.int .i64 (u:Nat)) p1 rfl;have d1:=ja (j:=0) (v:=.int .i64 0) p4 rfl;have d2:=ja (j:=0) (v:=.bool false) p5 rfl;have k3:=jg (j:=0) p1;have k1:=jg (j:=0) p4;have k2:=jg (j:=0) p5)
   all_goals
    have hb5:Below W2.heap.size W2 w4:=((Below.refl _ W2).drew).trans hb4;have hkf:KeepsFrom W0.heap.size W2 w4:=KeepsFrom.of_below hb5;have hb6:Below w.heap.size w w4:=h7.trans (hb5.mono (by omega))
    cases q
    · gi_wp2
      exact ⟨(by first|exact ((hkf.trans ((KeepsOthers.setCell _ _ _).from _)).trans ((KeepsOthers.setCell _ _ _).from _)).trans ((KeepsOthers.setCell _ _ _).from _)|(rw [←hz0];exact ((hkf.trans ((KeepsOthers.setCell _ _ _).from _)).trans ((KeepsOthers.setCell _ _ _).from _)).trans ((KeepsOthers.setCell _ _ _).from _))),rfl,
       fun r=>by have:=HEN.out r;simpa using this,jr (jn (j:=0) (u:=.int .i64 0) (jr p4 (by omega))) (by omega),jn (j:=0) (u:=.bool false) (jr (jr p5 (by omega)) (by omega)),
       ((hb6.setCell (p:=⟨w1.heap.size,0,none⟩) (by simp;omega) _).setCell (p:=⟨w.heap.size+1,0,none⟩) (by simp) _).setCell (p:=⟨w.heap.size+1+1,0,none⟩) (by simp;omega) _⟩
    · gi_wp2
      exact ⟨(by first|exact hkf.trans ((KeepsOthers.setCell _ _ _).from _)|(rw [←hz0];exact hkf.trans ((KeepsOthers.setCell _ _ _).from _))),(KpS.of_below hb5 (by omega) (by omega)).trans (KpS.setCell _ _ (by omega) (by omega) (by omega)),
       ⟨v,jn (j:=0) (u:=.int .i64 (v:Nat)) p1,fun r=>by have:=HEN.out r;simpa using this⟩,jr p3 (by omega),jr p4 (by omega),jr p5 (by omega),hb6.setCell (p:=⟨w1.heap.size,0,none⟩) (by simp;omega) _,by have:=hb5.size;simp;omega⟩
  case done=>
   rintro D xs W hD hxs ⟨⟨u,h1,h2⟩,h3,h4,h5,h6,_⟩ hdk;have c1:=ja (j:=0) (v:=.int .i64 0) h4 rfl;have c2:=ja (j:=0) (v:=.bool false) h5 rfl;have c3:=ja (j:=0) (v:=.int .i64 (u:Nat)) h1 rfl;have f1:=jg (j:=0) h4;have f2:=jg (j:=0) h5
   have he:endL L k (stepsL P n)=some u:=by
    have:=h2 []
    rw [List.append_nil,hxs,jaa] at this;exact this
   have HE:=lh he;have HS1:=lh (jn (j:=0) (u:=.int .i64 (u:Nat)) h4);clear he;go_wp2;refine qp (D:=D) (qj (qj hdk (by omega)) (by omega)) ⟨.tuple #[.int .i64 (u:Nat),.bool true],?_,?_⟩
   · have d1:=qn (qj (b:=w.heap.size+1+1) (v:=.bool true) (qj (b:=w.heap.size+1) (v:=.int .i64 (u:Nat)) hdk (by omega)) (by omega)) (ja (j:=0) (v:=.int .i64 (u:Nat)) ((Below.heap_setCell _ ⟨w.heap.size+1+1,0,none⟩ (.bool true) (w.heap.size+1) (by simp)).trans HS1.out) rfl);have d2:=qn (qj (b:=w.heap.size+1+1) (v:=.bool true) (qj (b:=w.heap.size+1) (v:=.int .i64 (u:Nat)) hdk (by omega)) (by omega)) (ja (j:=0) (v:=.bool true) (jn (j:=0) (u:=.bool true) ((Below.heap_setCell _ ⟨w.heap.size+1,0,none⟩ (.int .i64 (u:Nat)) (w.heap.size+1+1) (by simp)).trans h5)) rfl);simp [results,Tryz.results92,asAddr,go_sem,d1,d2]
   · exact ⟨by rw [HE.out];rfl,yc (qj (qj hdk (by omega)) (by omega)) ((h6.setCell (p:=⟨w.heap.size+1,0,none⟩) (by simp) _).setCell (p:=⟨w.heap.size+1+1,0,none⟩) (by simp;omega) _) (by omega)⟩
  case stop=>
   rintro D pre W hD ⟨r,hr⟩ ⟨h2,h4,h5,h6⟩ hdk
   have he:endL L k (stepsL P n)=none:=by
    rw [←jaa,hr];exact h2 r
   refine qp (D:=D) hdk ⟨.tuple #[.int .i64 0,.bool false],?_,by rw [he];rfl,yc hdk h6 (by omega)⟩;have c1:=qn hdk (ja (j:=0) (v:=.int .i64 0) h4 rfl);have c2:=qn hdk (ja (j:=0) (v:=.bool false) h5 rfl);simp [results,Tryz.results92,asAddr,go_sem,c1,c2]
end Go.Proofs.YthcompcjphaahaaGreatDoor.Pa
namespace Go.Proofs.YthcompcjphaahaaGreatDoor.Pa
open Go Go.RowKit
def pstE (L:Nat→TypeV) (len t:Nat) (x:PieceV):Int:=
 if x.elem then (if elK (L t).kind then (if (L t).bound≤x.n then 7 else 0) else 4)
 else (if itK (L t).kind then (if itemL L len (t:Nat) x.name<0 then 5 else 0) else 4)
def pstS (L:Nat→TypeV) (len t:Nat) (x:PieceV):StepV:=
 if pstE L len t x=0 then (if x.elem then ⟨true,x.n⟩ else ⟨false,itemL L len (t:Nat) x.name⟩) else ⟨false,0⟩
theorem jgn (ao:Option Addr) (len cap:Nat) (L:Nat→TypeV) (hlen:len≤1000000) (t:Nat) (ht:t<len) (x:PieceV) (w:World) (H:∀ i,i<len→TypeAt w ao i (L i)):
  Calls Tryz.prog 90 #[.slice ao len cap,.int .i64 (t:Nat),pieceV x] w fun e w'=>e=.returned (.tuple #[stepVal (pstS L len t x),.int .i64 (pstE L len t x)])∧Below w.heap.size w w':=by
 have hE:=lh (fun wx=>jbv (L t) wx);have hI:=lh (fun wx=>jbs (L t) wx);have HIT:=lh (fun wx (hb:Below w.heap.size w wx)=>jbh ao len cap L (t:Nat) x.name (by omega) wx (hold H hb));have es:pstE L len t x=if x.elem then (if elK (L t).kind then (if (L t).bound≤x.n then 7 else 0) else 4) else (if itK (L t).kind then (if itemL L len (t:Nat) x.name<0 then 5 else 0) else 4):=rfl;have ss:pstS L len t x=if pstE L len t x=0 then (if x.elem then ⟨true,x.n⟩ else ⟨false,itemL L len (t:Nat) x.name⟩) else ⟨false,0⟩:=rfl;obtain ⟨b,off,hao,x0,x1,x2,x3,x4,x5,wf,hit⟩:=H t ht;have hbl:b<w.heap.size:=World.block_lt_of_cell? w _ x0
 have hne:¬b=w.heap.size:=by omega
 have hne1:¬b=w.heap.size+1:=by omega
 clear H;subst hao;obtain ⟨q1,h1⟩:∃ q,elK (L t).kind=q:=⟨_,rfl⟩;obtain ⟨q2,h2⟩:∃ q,itK (L t).kind=q:=⟨_,rfl⟩;obtain ⟨z,hz⟩:∃ z,itemL L len (t:Nat) x.name=z:=⟨_,rfl⟩;obtain ⟨el,nn,nm⟩:=x;simp only at es ss hz HIT;rw [hz] at es ss HIT;rw [h1] at hE es;rw [h2] at hI es;unfold typV at hE hI;have HB0:=lh (((Below.refl w.heap.size w).alloc (Nat.le_refl _) (.cells #[.bool el,.int .i64 nn,.string nm] 142)).alloc (by simp) (.cells #[.bool false,.int .i64 0] 113));have HR0:=lh (jc (jd w (.cells #[.bool el,.int .i64 nn,.string nm] 142)) ((Below.refl _ _).alloc (Nat.le_refl _) (.cells #[.bool false,.int .i64 0] 113)));have HR1:=lh (jd (w.alloc (.cells #[.bool el,.int .i64 nn,.string nm] 142)) (.cells #[.bool false,.int .i64 0] 113));rw [World.size_alloc] at HR1
 have hz0:((w.alloc (.cells #[.bool el,.int .i64 nn,.string nm] 142)).alloc (.cells #[.bool false,.int .i64 0] 113)).heap.size=w.heap.size+2:=by simp
 unfold pieceV stepVal;clear h1 h2 hz
 cases el
 · rw [if_neg (by decide)] at es
   cases q2
   · have e1:pstE L len t ⟨false,nn,nm⟩=4:=es;rw [ss,e1];rw [if_neg (by decide)];clear es ss e1 hE HIT;go_enter Tryz.func90,Tryz.ntmps90
     go_wp2_with (first
      |(go_at_call 127;refine (hI.out _).mono ?_;rintro e w1 ⟨rfl,hb⟩;have r0:=jc HR0.out hb;have HQ1:=lh (jc HR1.out hb);have HB1:=lh (HB0.out.trans (hb.mono (by omega)));have d0:=ja (j:=0) (v:=.bool false) r0 rfl;have d1:=ja (j:=1) (v:=.int .i64 nn) r0 rfl;have d2:=ja (j:=2) (v:=.string nm) r0 rfl;have y2:=jk HB1.out x2;have hz1:=hb.size;clear r0)
      |(refine wpList_store_rowTo rfl 113 _ _ rfl rfl (w.heap.size+1) #[.bool false,.int .i64 0] rfl rfl _ _ HQ1.out (by kernel_rfl) (by kernel_rfl) (by kernel_rfl) ?_))
     refine bodyPost_ret (v:=.tuple #[.agg #[.bool false,.int .i64 0],.int .i64 4]) ?_ rfl ⟨rfl,below_setRow HB1.out (by omega) _⟩;have hl:=run_loadVar_row (P:=Tryz.prog) _ (w.heap.size+1) _ 113 _ _ _ (setRow_heap _ _ _ #[.bool false,.int .i64 0] _ _ HQ1.out) Tryz.underlying113 rfl (by kernel_rfl);simp [results,Tryz.results90,asAddr,hl]
   · by_cases hzz:z<0
     · have e1:pstE L len t ⟨false,nn,nm⟩=5:=by rw [es,if_pos rfl,if_pos hzz]
       rw [ss,e1];rw [if_neg (by decide)];rw [show foundV z=.tuple #[.int .i64 0,.bool false] from by unfold foundV posZ okZ;simp;omega] at HIT;clear es ss e1 hE;go_enter Tryz.func90,Tryz.ntmps90
       go_wp2_with (first
        |(go_at_call 127;refine (hI.out _).mono ?_;rintro e w1 ⟨rfl,hb⟩;have r0:=jc HR0.out hb;have HQ1:=lh (jc HR1.out hb);have HB1:=lh (HB0.out.trans (hb.mono (by omega)));have d0:=ja (j:=0) (v:=.bool false) r0 rfl;have d1:=ja (j:=1) (v:=.int .i64 nn) r0 rfl;have d2:=ja (j:=2) (v:=.string nm) r0 rfl;have y2:=jk HB1.out x2;have hz1:=hb.size;clear r0)
        |(refine wpList_store_rowTo rfl 113 _ _ rfl rfl (w.heap.size+1) #[.bool false,.int .i64 0] rfl rfl _ _ HQ2.out (by kernel_rfl) (by kernel_rfl) (by kernel_rfl) ?_))
       go_quiet (fail)
       go_wp2_with (first
        |(go_at_call 128;refine (HIT.out _ (jf HB1.out _)).mono ?_;rintro e w2 ⟨rfl,hb2⟩;have HB2:=lh ((jf HB1.out _).trans (hb2.mono (jf HB1.out _).size));have HQ2:=lh (jc (jc HQ1.out (jf (Below.refl _ _) _)) hb2))
        |(refine wpList_store_rowTo rfl 113 _ _ rfl rfl (w.heap.size+1) #[.bool false,.int .i64 0] rfl rfl _ _ HQ2.out (by kernel_rfl) (by kernel_rfl) (by kernel_rfl) ?_))
       refine bodyPost_ret (v:=.tuple #[.agg #[.bool false,.int .i64 0],.int .i64 5]) ?_ rfl ⟨rfl,below_setRow HB2.out (by omega) _⟩;have hl:=run_loadVar_row (P:=Tryz.prog) _ (w.heap.size+1) _ 113 _ _ _ (setRow_heap _ _ _ #[.bool false,.int .i64 0] _ _ HQ2.out) Tryz.underlying113 rfl (by kernel_rfl);simp [results,Tryz.results90,asAddr,hl]
     · have e1:pstE L len t ⟨false,nn,nm⟩=0:=by rw [es,if_pos rfl,if_neg hzz]
       rw [ss,e1];rw [if_pos rfl,if_neg (by decide)];rw [show foundV z=.tuple #[.int .i64 z,.bool true] from by unfold foundV posZ okZ;simp;omega] at HIT;clear es ss e1 hE;go_enter Tryz.func90,Tryz.ntmps90
       go_wp2_with (first
        |(go_at_call 127;refine (hI.out _).mono ?_;rintro e w1 ⟨rfl,hb⟩;have r0:=jc HR0.out hb;have HQ1:=lh (jc HR1.out hb);have HB1:=lh (HB0.out.trans (hb.mono (by omega)));have d0:=ja (j:=0) (v:=.bool false) r0 rfl;have d1:=ja (j:=1) (v:=.int .i64 nn) r0 rfl;have d2:=ja (j:=2) (v:=.string nm) r0 rfl;have y2:=jk HB1.out x2;have hz1:=hb.size;clear r0)
        |(refine wpList_store_rowTo rfl 113 _ _ rfl rfl (w.heap.size+1) #[.bool false,.int .i64 0] rfl rfl _ _ HQ2.out (by kernel_rfl) (by kernel_rfl) (by kernel_rfl) ?_))
       go_quiet (fail)
       go_wp2_with (first
        |(go_at_call 128;refine (HIT.out _ (jf HB1.out _)).mono ?_;rintro e w2 ⟨rfl,hb2⟩;have HB2:=lh ((jf HB1.out _).trans (hb2.mono (jf HB1.out _).size));have HQ2:=lh (jc (jc HQ1.out (jf (Below.refl _ _) _)) hb2))
        |(refine wpList_store_rowTo rfl 113 _ _ rfl rfl (w.heap.size+1) #[.bool false,.int .i64 z] rfl rfl _ _ HQ2.out (by kernel_rfl) (by kernel_rfl) (by kernel_rfl) ?_))
       refine bodyPost_ret (v:=.tuple #[.agg #[.bool false,.int .i64 z],.int .i64 0]) ?_ rfl ⟨rfl,below_setRow HB2.out (by omega) _⟩;have hl:=run_loadVar_row (P:=Tryz.prog) _ (w.heap.size+1) _ 113 _ _ _ (setRow_heap _ _ _ #[.bool false,.int .i64 z] _ _ HQ2.out) Tryz.underlying113 rfl (by kernel_rfl);simp [results,Tryz.results90,asAddr,hl]
 · rw [if_pos rfl] at es
   cases q1
   · have e1:pstE L len t ⟨true,nn,nm⟩=4:=es;rw [ss,e1];rw [if_neg (by decide)];clear es ss e1 hI HIT;go_enter Tryz.func90,Tryz.ntmps90
     go_wp2_with (first
      |(go_at_call 126;refine (hE.out _).mono ?_;rintro e w1 ⟨rfl,hb⟩;have r0:=jc HR0.out hb;have HQ1:=lh (jc HR1.out hb);have HB1:=lh (HB0.out.trans (hb.mono (by omega)));have d0:=ja (j:=0) (v:=.bool true) r0 rfl;have d1:=ja (j:=1) (v:=.int .i64 nn) r0 rfl;have d2:=ja (j:=2) (v:=.string nm) r0 rfl;have y2:=jk HB1.out x2;have hz1:=hb.size;clear r0)
      |(refine wpList_store_rowTo rfl 113 _ _ rfl rfl (w.heap.size+1) #[.bool false,.int .i64 0] rfl rfl _ _ HQ1.out (by kernel_rfl) (by kernel_rfl) (by kernel_rfl) ?_))
     refine bodyPost_ret (v:=.tuple #[.agg #[.bool false,.int .i64 0],.int .i64 4]) ?_ rfl ⟨rfl,below_setRow HB1.out (by omega) _⟩;have hl:=run_loadVar_row (P:=Tryz.prog) _ (w.heap.size+1) _ 113 _ _ _ (setRow_heap _ _ _ #[.bool false,.int .i64 0] _ _ HQ1.out) Tryz.underlying113 rfl (by kernel_rfl);simp [results,Tryz.results90,asAddr,hl]
   · by_cases hzz:(L t).bound≤nn
     · have e1:pstE L len t ⟨true,nn,nm⟩=7:=by rw [es,if_pos rfl,if_pos hzz]
       have k7:decide ((L t).bound≤nn)=true:=decide_eq_true hzz;rw [ss,e1];rw [if_neg (by decide)];clear es ss e1 hI HIT;go_enter Tryz.func90,Tryz.ntmps90
       go_wp2_with (first
        |(go_at_call 126;refine (hE.out _).mono ?_;rintro e w1 ⟨rfl,hb⟩;have r0:=jc HR0.out hb;have HQ1:=lh (jc HR1.out hb);have HB1:=lh (HB0.out.trans (hb.mono (by omega)));have d0:=ja (j:=0) (v:=.bool true) r0 rfl;have d1:=ja (j:=1) (v:=.int .i64 nn) r0 rfl;have d2:=ja (j:=2) (v:=.string nm) r0 rfl;have y2:=jk HB1.out x2;have hz1:=hb.size;clear r0)
        |(refine wpList_store_rowTo rfl 113 _ _ rfl rfl (w.heap.size+1) #[.bool false,.int .i64 0] rfl rfl _ _ HQ1.out (by kernel_rfl) (by kernel_rfl) (by kernel_rfl) ?_))
       go_quiet (fail)
       have HQ2:=lh (fun m=>jc HQ1.out (jf (Below.refl _ _) m));have HB2:=lh (fun m=>jf HB1.out m);go_wp2_with ((refine wpList_store_rowTo rfl 113 _ _ rfl rfl (w.heap.size+1) #[.bool false,.int .i64 0] rfl rfl _ _ (HQ2.out _) (by kernel_rfl) (by kernel_rfl) (by kernel_rfl) ?_));refine bodyPost_ret (v:=.tuple #[.agg #[.bool false,.int .i64 0],.int .i64 7]) ?_ rfl ⟨rfl,below_setRow (HB2.out _) (by omega) _⟩;have hl:=fun m=>run_loadVar_row (P:=Tryz.prog) _ (w.heap.size+1) _ 113 _ _ _ (setRow_heap _ _ _ #[.bool false,.int .i64 0] _ _ (HQ2.out m)) Tryz.underlying113 rfl (by kernel_rfl);simp [results,Tryz.results90,asAddr,hl]
     · have e1:pstE L len t ⟨true,nn,nm⟩=0:=by rw [es,if_pos rfl,if_neg hzz]
       have k7:decide ((L t).bound≤nn)=false:=decide_eq_false hzz;rw [ss,e1];rw [if_pos rfl,if_pos rfl];clear es ss e1 hI HIT;go_enter Tryz.func90,Tryz.ntmps90
       go_wp2_with (first
        |(go_at_call 126;refine (hE.out _).mono ?_;rintro e w1 ⟨rfl,hb⟩;have r0:=jc HR0.out hb;have HQ1:=lh (jc HR1.out hb);have HB1:=lh (HB0.out.trans (hb.mono (by omega)));have d0:=ja (j:=0) (v:=.bool true) r0 rfl;have d1:=ja (j:=1) (v:=.int .i64 nn) r0 rfl;have d2:=ja (j:=2) (v:=.string nm) r0 rfl;have y2:=jk HB1.out x2;have hz1:=hb.size;clear r0)
        |(refine wpList_store_rowTo rfl 113 _ _ rfl rfl (w.heap.size+1) #[.bool false,.int .i64 0] rfl rfl _ _ HQ1.out (by kernel_rfl) (by kernel_rfl) (by kernel_rfl) ?_))
       go_quiet (fail)
       have HQ2:=lh (fun m=>jc HQ1.out (jf (Below.refl _ _) m));have HB2:=lh (fun m=>jf HB1.out m);go_wp2_with ((refine wpList_store_rowTo rfl 113 _ _ rfl rfl (w.heap.size+1) #[.bool true,.int .i64 nn] rfl rfl _ _ (HQ2.out _) (by kernel_rfl) (by kernel_rfl) (by kernel_rfl) ?_));refine bodyPost_ret (v:=.tuple #[.agg #[.bool true,.int .i64 nn],.int .i64 0]) ?_ rfl ⟨rfl,below_setRow (HB2.out _) (by omega) _⟩;have hl:=fun m=>run_loadVar_row (P:=Tryz.prog) _ (w.heap.size+1) _ 113 _ _ _ (setRow_heap _ _ _ #[.bool true,.int .i64 nn] _ _ (HQ2.out m)) Tryz.underlying113 rfl (by kernel_rfl);simp [results,Tryz.results90,asAddr,hl]
theorem jia (ao:Option Addr) (len cap:Nat) (L:Nat→TypeV) (t:Int) (hlen:len≤1000000) (w:World) (H:∀ i,i<len→TypeAt w ao i (L i)):
  Calls Tryz.prog 57 #[.slice ao len cap,.int .i64 t] w fun e w'=>e=.returned (.bool (hasT L len t))∧Below w.heap.size w w':=by
 by_cases ht:0≤t∧t<len
 · obtain ⟨h0,h1⟩:=ht
   have hT:hasT L len t=(fErr (oneR L len) len==0):=by
    unfold hasT inL;rw [decide_eq_true h0,decide_eq_true h1]
    by_cases hE:fErr (oneR L len) len=0
    · rw [hE,jrx hE];rfl
    · simp [hE]
   rw [hT];have hc:=jao ao len cap L hlen w H;have hfe:=jfk;unfold faultV at hc;obtain ⟨E,hE⟩:∃ E,fErr (oneR L len) len=E:=⟨_,rfl⟩;obtain ⟨A,hA⟩:∃ A,fAt (oneR L len) len=A:=⟨_,rfl⟩;rw [hE,hA] at hc;rw [hE];obtain ⟨q,hq⟩:∃ q,(E==0)=q:=⟨_,rfl⟩;rw [hq];have HC:=lh hc;clear hc hE hA hT H;go_enter Tryz.func57,Tryz.ntmps57;go_wp2_with (go_at_call 23;refine HC.out.mono ?_;rintro e w1 ⟨rfl,hb1⟩;have HB1:=lh hb1;clear hb1);go_ret;exact ⟨rfl,HB1.out⟩
 · have hT:hasT L len t=false:=by unfold hasT;rw [za ht];rfl
   rw [hT];clear hT H
   by_cases h0:0≤t
   · have h1:¬t<len:=fun h=>ht ⟨h0,h⟩;clear ht;go_enter Tryz.func57,Tryz.ntmps57;go_wp2;go_ret;exact ⟨rfl,Below.refl _ _⟩
   · clear ht;go_enter Tryz.func57,Tryz.ntmps57;go_wp2;go_ret;exact ⟨rfl,Below.refl _ _⟩
def rnextZ (T:TypeV) (s:StepV):Int:=if nextB T s then nextZ T s else -1
theorem je1 (ao:Option Addr) (len cap:Nat) (L:Nat→TypeV) (hlen:len≤1000000) (t:Nat) (ht:t<len) (s:StepV) (w:World) (H:∀ i,i<len→TypeAt w ao i (L i)):
  Calls Tryz.prog 59 #[.slice ao len cap,.int .i64 (t:Nat),stepVal s] w fun e w'=>e=.returned (.int .i64 (rnextZ (L t) s))∧Below w.heap.size w w':=by
 obtain ⟨b,off,hao,x0,x1,x2,x3,x4,x5,wf,hit⟩:=H t ht;have hbl:b<w.heap.size:=World.block_lt_of_cell? w _ x0
 have hne:¬b=w.heap.size:=by omega
 have hne1:¬b=w.heap.size+1:=by omega
 clear H;subst hao;obtain ⟨T,hT⟩:∃ T,L t=T:=⟨_,rfl⟩;rw [hT] at x0 x1 x2 x3 x4 x5 hit ⊢;obtain ⟨el,sn⟩:=s;have hr:rnextZ T ⟨el,sn⟩=if nextB T ⟨el,sn⟩ then nextZ T ⟨el,sn⟩ else -1:=rfl;have hn:nextB T ⟨el,sn⟩=(decide (0≤sn)&&(if el then elK T.kind&&decide (sn<T.bound) else itK T.kind&&decide (sn<T.ilen))):=rfl
 have hz:nextB T ⟨el,sn⟩=true→nextZ T ⟨el,sn⟩=if el then T.of else (T.items sn.toNat).type:=fun h=>by unfold nextZ;rw [if_pos h]
 unfold stepVal;have HB0:=lh (((Below.refl w.heap.size w).alloc (Nat.le_refl _) (.cells #[.bool el,.int .i64 sn] 113)).alloc (by simp) (.cells #[.int .i64 T.kind,.string T.name,.int .i64 T.bound,.int .i64 T.of,.int .i64 T.tag,.slice T.ia T.ilen T.icap] 58));obtain ⟨q11,h11⟩:∃ q,(T.kind==11)=q:=⟨_,rfl⟩;obtain ⟨q12,h12⟩:∃ q,(T.kind==12)=q:=⟨_,rfl⟩;obtain ⟨q13,h13⟩:∃ q,(T.kind==13)=q:=⟨_,rfl⟩;obtain ⟨q14,h14⟩:∃ q,(T.kind==14)=q:=⟨_,rfl⟩;obtain ⟨qb,hqb⟩:∃ q,decide (sn<T.bound)=q:=⟨_,rfl⟩;obtain ⟨qi,hqi⟩:∃ q,decide (sn<(T.ilen:Int))=q:=⟨_,rfl⟩;unfold elK itK at hn;rw [h11,h12,h13,h14,hqb,hqi] at hn
 by_cases hs:sn<0
 · have k0:decide (sn<0)=true:=by simp [hs]
   have e1:rnextZ T ⟨el,sn⟩=-1:=by rw [hr,hn,decide_eq_false (by omega)];rfl
   rw [e1];clear hr hn hz e1;go_enter Tryz.func59,Tryz.ntmps59;go_wp2;go_ret;exact ⟨rfl,HB0.out⟩
 · have k0:decide (sn<0)=false:=by simp;omega
   rw [decide_eq_true (by omega:0≤sn)] at hn;obtain ⟨j,rfl⟩:=Int.eq_ofNat_of_zero_le (by omega:0≤sn)
   cases el
   · have hcs:(q13||q14)=false∨qi=false∨((q13||q14)=true∧qi=true):=by cases (q13||q14) <;> cases qi <;> simp
     rcases hcs with h|h|⟨h,hi⟩
     · have e1:rnextZ T ⟨false,j⟩=-1:=by rw [hr,hn];simp [h]
       obtain ⟨rfl,rfl⟩:q13=false∧q14=false:=by simpa using h
       rw [e1];clear hr hn hz e1 h;go_enter Tryz.func59,Tryz.ntmps59;go_wp2;go_ret;exact ⟨rfl,HB0.out⟩
     · have e1:rnextZ T ⟨false,j⟩=-1:=by rw [hr,hn];simp [h]
       subst h
       have hqn:¬j<T.ilen:=by have:=of_decide_eq_false hqi;omega
       rw [e1];clear hr hn hz e1
       cases q13
       · cases q14
         · go_enter Tryz.func59,Tryz.ntmps59;go_wp2;go_ret;exact ⟨rfl,HB0.out⟩
         · go_enter Tryz.func59,Tryz.ntmps59;go_wp2;go_ret;exact ⟨rfl,HB0.out⟩
       · go_enter Tryz.func59,Tryz.ntmps59;go_wp2;go_ret;exact ⟨rfl,HB0.out⟩
     · have hb:nextB T ⟨false,j⟩=true:=by rw [hn];simp [h,hi]
       have e1:rnextZ T ⟨false,j⟩=(T.items j).type:=by rw [hr,if_pos hb,hz hb];simp
       have hjl:j<T.ilen:=by have h9:=hqi.trans hi;have:=of_decide_eq_true h9;omega
       obtain ⟨ib,io,hia,y0,y1,y2,y3,y4,wi⟩:=hit.2 j hjl;have hbl2:ib<w.heap.size:=World.block_lt_of_cell? w _ y0
       have hne2:¬ib=w.heap.size:=by omega
       have hne3:¬ib=w.heap.size+1:=by omega
       rw [hia] at x5 HB0
       have hjl2:((j:Nat):Int)<((T.ilen:Nat):Int):=by exact_mod_cast hjl
       have hj0:(0:Int)≤((j:Nat):Int):=by omega
       have y9:=jk HB0.out y2;subst hi;rw [e1];clear hr hn hz e1 hb
       cases q13
       · obtain rfl:q14=true:=by simpa using h
         go_enter Tryz.func59,Tryz.ntmps59;go_wp2;go_ret;exact ⟨rfl,HB0.out⟩
       · go_enter Tryz.func59,Tryz.ntmps59;go_wp2;go_ret;exact ⟨rfl,HB0.out⟩
   · have hcs:(q11||q12)=false∨qb=false∨((q11||q12)=true∧qb=true):=by cases (q11||q12) <;> cases qb <;> simp
     rcases hcs with h|h|⟨h,hi⟩
     · have e1:rnextZ T ⟨true,j⟩=-1:=by rw [hr,hn];simp [h]
       obtain ⟨rfl,rfl⟩:q11=false∧q12=false:=by simpa using h
       rw [e1];clear hr hn hz e1 h;go_enter Tryz.func59,Tryz.ntmps59;go_wp2;go_ret;exact ⟨rfl,HB0.out⟩
     · have e1:rnextZ T ⟨true,j⟩=-1:=by rw [hr,hn];simp [h]
       subst h;rw [e1];clear hr hn hz e1
       cases q11
       · cases q12
         · go_enter Tryz.func59,Tryz.ntmps59;go_wp2;go_ret;exact ⟨rfl,HB0.out⟩
         · go_enter Tryz.func59,Tryz.ntmps59;go_wp2;go_ret;exact ⟨rfl,HB0.out⟩
       · go_enter Tryz.func59,Tryz.ntmps59;go_wp2;go_ret;exact ⟨rfl,HB0.out⟩
     · have hb:nextB T ⟨true,j⟩=true:=by rw [hn];simp [h,hi]
       have e1:rnextZ T ⟨true,j⟩=T.of:=by rw [hr,if_pos hb,hz hb];rfl
       subst hi;rw [e1];clear hr hn hz e1 hb
       cases q11
       · obtain rfl:q12=true:=by simpa using h
         go_enter Tryz.func59,Tryz.ntmps59;go_wp2;go_ret;exact ⟨rfl,HB0.out⟩
       · go_enter Tryz.func59,Tryz.ntmps59;go_wp2;go_ret;exact ⟨rfl,HB0.out⟩
end Go.Proofs.YthcompcjphaahaaGreatDoor.Pa
