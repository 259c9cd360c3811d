/- strings.Builder, as package token uses it: in a block of its own type: copyCheck, WriteString, WriteByte, String. -/
import Derived.Lib.Builder
import Derived.Lib.OthersKept
import Derived.Lib.UnsafeStr
import Derived.Laws.Externs
import Derived.Lib.AppendIntMem
import Derived.Laws.IdiomStrings
import Derived.Shelf.Abstract
import Derived.Test.YthcompcjphaahaaGreatDoorh05
set_option maxRecDepth 100000
set_option maxHeartbeats 8000000
set_option linter.unusedVariables false
namespace Go.Proofs.YthcompcjphaahaaGreatDoor
open Go.RowKit
structure LiesB (T:TypeId):Prop where
 lies:liesAt Tryz.prog Tryz.prog.depth T (2 / Tryz.prog.cellsOf T) 0 249 1=true
 ne:T≠5
theorem liesBuilder:LiesB 249:=⟨by kernel_rfl,by decide⟩
theorem sizeBuilder:(Tryz.prog.info? 249).map (·.size)=some 2:=by kernel_rfl
theorem jn2:(Tryz.prog.info? 5).map (fun i=>(i.zero,i.size,i.bytes))=some (some (.int .u8 0),1,1):=by kernel_rfl
abbrev Kept (b:Nat) (w w':World):Prop:=Lib.OthersKept 5 (some b) w w'
theorem copyFresh (T:TypeId) (hT:LiesB T) (b:Nat) (w:World) (h0:w.cell? ⟨b,0,none⟩=some (.pointer none)) (hsh:w.shape? b=some (T,2)) (hfz:w.frozen? ⟨b,0,none⟩=false):
  Calls Tryz.prog 256 #[.pointer (some ⟨b,0,none⟩)] w fun e w'=>e=.returned (.tuple #[])∧w'=w.setCell ⟨b,0,none⟩ (.pointer (some ⟨b,0,none⟩)):=by
 obtain ⟨j,hj,hjs⟩:=Option.map_eq_some_iff.1 sizeBuilder;have hto:=Lib.run_to_unsafe (P:=Tryz.prog) w ⟨b,0,none⟩ Tryz.underlying247 Tryz.underlying277 hj (by rw [hjs];decide) hsh (Nat.zero_lt_succ 1);have hfrom:=Lib.run_from_unsafe (P:=Tryz.prog) w ⟨b,0,none⟩ Tryz.underlying277 Tryz.underlying247 hj hsh hT.lies;clear hj hjs;go_enter Tryz.func256,Tryz.ntmps256;go_wp2;rw [run_callFunc_extern Tryz.func264 (by kernel_rfl) (by kernel_rfl) (e:=Extern.AbiNoEscape.same) (by kernel_rfl),Lib.run_noEscape];simp only [Result.andThen];rw [Oper.upon_value]
 · go_wp2
   go_end0
   exact ⟨rfl,rfl⟩
 · kernel_rfl
theorem copyUsed (b:Nat) (w:World) (h0:w.cell? ⟨b,0,none⟩=some (.pointer (some ⟨b,0,none⟩))):
  Calls Tryz.prog 256 #[.pointer (some ⟨b,0,none⟩)] w fun e w'=>e=.returned (.tuple #[])∧w'=w:=by
 obtain ⟨j,hj,_⟩:=Option.map_eq_some_iff.1 sizeBuilder;have hn:=Lib.run_neq_ptr_same (P:=Tryz.prog) w ⟨b,0,none⟩ Tryz.underlying247 hj;clear hj;go_enter Tryz.func256,Tryz.ntmps256;go_wp2
 go_end0
 exact ⟨rfl,rfl⟩
def TxtAt (T:TypeId) (B b:Nat) (l:List UInt8) (w:World):Prop:=Lib.IsBuilder T 5 B b (Lib.byteCells l) w
theorem jj0 (T:TypeId) (hT:LiesB T) (B b:Nat) (l:List UInt8) (w:World) (h:TxtAt T B b l w):
  Calls Tryz.prog 256 #[.pointer (some ⟨b,0,none⟩)] w fun e w'=>e=.returned (.tuple #[])∧Lib.BuilderAt T 5 B b (.pointer (some ⟨b,0,none⟩)) (Lib.byteCells l) w'∧Below B w w'∧Kept b w w':=by
 rcases h with h|h
 · refine (copyFresh T hT b w h.cell0 h.shape h.frozen0).mono ?_;rintro e w' ⟨rfl,rfl⟩;exact ⟨rfl,h.used _,(Below.refl B w).setCell (p:=⟨b,0,none⟩) h.1 _,(Lib.OthersKept.refl _ _ w).setCell ⟨b,0,none⟩ rfl _⟩
 · refine (copyUsed b w h.cell0).mono ?_;rintro e w' ⟨rfl,rfl⟩;exact ⟨rfl,h,Below.refl B _,Lib.OthersKept.refl _ _ _⟩
theorem jp9 {w:World} {B:Nat} {e:TypeId} {v:Value} {n:Nat} {xs:List Value} (h:w.ownsRow B e 1 v n xs):∀ g,v.ownBlock=some g→∃ c fz,w.heap[g]?=some (.cells c e fz):=by
 intro g hg
 rcases h.2 with ⟨rfl,_⟩|⟨g',cap,cur,rfl,_,hgg,_⟩
 · simp [Value.ownBlock] at hg
 · simp [Value.ownBlock] at hg;subst hg;exact ⟨cur,_,hgg⟩
theorem jke {w:World} {B:Nat} {e:TypeId} {v:Value} {n:Nat} {xs:List Value} (h:w.ownsRow B e 1 v n xs):∃ ao cap,v=.slice ao n cap:=by
 rcases h.2 with ⟨hv,h0⟩|⟨g,cap,cur,hv,_⟩
 · exact ⟨none,0,by rw [hv,h0]⟩
 · exact ⟨_,cap,hv⟩
theorem jat (T:TypeId) (hT:LiesB T) (B b:Nat) (l:List UInt8) (s:ByteArray) (w:World) (h:TxtAt T B b l w) (hlen:l.length+s.size≤140737488355328) (hBw:B≤w.heap.size):
  Calls Tryz.prog 245 #[.pointer (some ⟨b,0,none⟩),.string s] w fun e w'=>e=.returned (.tuple #[.int .i64 s.size,.nilIface])∧TxtAt T B b (l++s.data.toList) w'∧Below B w w'∧Kept b w w':=by
 obtain ⟨i0,hi,hz0,hz1,hz2⟩:=info_parts jn2
 have hml:s.size≤maxLen:=by unfold maxLen;omega
 have HC:=lh (jj0 T hT B b l w h);clear h;go_enter Tryz.func245,Tryz.ntmps245
 go_wp2_with (first
  |(go_at_call 256;refine (HC.out).mono ?_;rintro e w1 ⟨rfl,h1,hb1,hk1⟩;obtain ⟨hB,v,hbk,hown,hne⟩:=h1;have c1:w1.cell? ⟨b,1,none⟩=some v:=ja (j:=1) hbk rfl;have HO:=lh hown;have HK:=lh hbk;have HB:=lh hb1;have HT:=lh hk1;have HNE:=lh hne;clear hown hbk hb1 hk1 hne)
  |(at_builtin;refine X3 rfl _ _ 230 9 rfl B 5 i0 Tryz.underlying230 Tryz.underlying9 hi hz0 hz1 hz2 _ _ _ rfl HO.out s rfl (by rw [Lib.byteCells_length];unfold maxLen;omega) (by rw [Lib.byteCells_length];omega) (by have:=HB.out.size;omega) ?_;intro v2 w2 hown2 hg2 hf2;obtain ⟨ao2,cap2,rfl⟩:=jke hown2;have hb2:=(hg2.block b (lt_of_block HK.out) (fun e=>HNE.out e.symm)).trans HK.out;have d1:w2.cell? ⟨b,1,none⟩=some v:=ja (j:=1) hb2 rfl;have f1:=jg (j:=1) hb2;have HO2:=lh hown2;have HG2:=lh hg2;have HK2:=lh hb2;clear hown2 hg2 hf2 hb2 c1))
 go_ret2
 have hbs:(Lib.byteCells (l++s.data.toList)).length=(Lib.byteCells l).length+s.size:=by rw [Lib.byteCells_append,List.length_append,←Lib.strCells_eq,Lib.strCells_length]
 refine ⟨rfl,.inr ?_,?_,?_⟩
 · exact Lib.BuilderAt.put (T:=T) (e:=5) hB HK2.out (bs':=Lib.byteCells (l++s.data.toList)) (by rw [hbs,Lib.byteCells_append,←Lib.strCells_eq];exact HO2.out) hT.ne
 · exact (HB.out.grown HG2.out (by have:=HB.out.size;omega) (fun k hk=>(HO.out.lt k hk).1)).setCell (p:=⟨b,1,none⟩) hB _
 · exact (HT.out.grown HG2.out (jp9 HO.out)).setCell ⟨b,1,none⟩ rfl _
def bs (l:List UInt8):ByteArray:=⟨l.toArray⟩
theorem jy (l:List UInt8):(bs l).size=l.length:=by simp [bs,ByteArray.size]
theorem keepL {w w1:World} {p:Addr} {v:Value} (hb:Below w.heap.size w w1) (h:w.cell? p=some v):w1.cell? p=some v:=(hb.cell (World.block_lt_of_cell? w p h)).trans h
theorem rowKeep {w w1:World} {b:Nat} {o:Obj} (hb:Below w.heap.size w w1) (h:w.heap[b]?=some o):w1.heap[b]?=some o:=(hb.block b (lt_of_block h)).trans h
theorem TxtAt.next {T:TypeId} {B b:Nat} {l:List UInt8} {w w':World} (h:TxtAt T B b l w) (hb:Below w.heap.size w w'):TxtAt T B b l w':=by
 have hk:∀ p,Lib.BuilderAt T 5 B b p (Lib.byteCells l) w→Lib.BuilderAt T 5 B b p (Lib.byteCells l) w':=by
  rintro p ⟨hB,v,hbk,hown,hne⟩;exact ⟨hB,v,rowKeep hb hbk,(Only.of_below (S:=fun _=>False) hb).row hown (fun _ _ f=>f),hne⟩
 exact h.elim (fun h=>.inl (hk _ h)) (fun h=>.inr (hk _ h))
theorem TxtAt.lt {T:TypeId} {B b:Nat} {l:List UInt8} {w:World} (h:TxtAt T B b l w):b<w.heap.size:=by
 rcases h with h|h
 · exact h.lt
 · exact h.lt
theorem Kept.box {b k:Nat} {w w':World} {cs:Array Value} {t:TypeId} {fz:Nat × Nat} (h:Kept b w w') (hk:w.heap[k]?=some (.cells cs t fz)) (hne:k≠b) (ht:t≠5):w'.heap[k]?=some (.cells cs t fz):=
 h k _ hk (fun e=>hne (Option.some.inj e)) (fun c f e=>by injection e with _ e2 _;exact ht e2)
end Go.Proofs.YthcompcjphaahaaGreatDoor
