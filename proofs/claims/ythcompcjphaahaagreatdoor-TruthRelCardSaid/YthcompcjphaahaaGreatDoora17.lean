/- Contract of chapter 6's reference: Parts. -/
import Derived.Laws.OwnMore
import Derived.Lib.SmallJoins
import Derived.Deep.DeepCutAuto
import Derived.Test.YthcompcjphaahaaGreatDoora13
import Derived.Test.YthcompcjphaahaaGreatDoora16
namespace Go.Proofs.YthcompcjphaahaaGreatDoor.Pa
open Go.RowKit
set_option linter.unusedVariables false
theorem infoInt:(Tryz.prog.info? 3).map (fun i=>(i.zero,i.size,i.bytes))=some (some (.int .i64 0),1,8):=by kernel_rfl
def partsL (T:TypeV):List Int:=
 (if T.kind=11∨T.kind=12 then [T.of] else [])++(if T.kind=14 then [T.tag] else [])++(if T.kind=13∨T.kind=14 then (List.range T.ilen).map fun j=>(T.items j).type else [])
theorem partsL_one {T:TypeV} (h:T.kind=11∨T.kind=12):partsL T=[T.of]:=by
 unfold partsL;rw [if_pos h,if_neg (by omega),if_neg (by omega)];simp
theorem partsL_struct {T:TypeV} (h:T.kind=13):partsL T=(List.range T.ilen).map fun j=>(T.items j).type:=by
 unfold partsL;rw [if_neg (by omega),if_neg (by omega),if_pos (by omega)];simp
theorem partsL_union {T:TypeV} (h:T.kind=14):partsL T=T.tag::(List.range T.ilen).map fun j=>(T.items j).type:=by
 unfold partsL;rw [if_neg (by omega),if_pos h,if_pos (by omega)];simp
theorem partsL_none {T:TypeV} (h1:¬(T.kind=11∨T.kind=12)) (h2:T.kind≠13) (h3:T.kind≠14):partsL T=[]:=by
 unfold partsL;rw [if_neg h1,if_neg h3,if_neg (by omega)];simp
def typO (T:TypeV):Obj:=.cells #[.int .i64 T.kind,.string T.name,.int .i64 T.bound,.int .i64 T.of,.int .i64 T.tag,.slice T.ia T.ilen T.icap] 58
def PSt (g:Nat) (T:TypeV) (w0:World) (v:Value) (l:List Int) (w:World):Prop:=w.ownsRow (g+1) 3 1 v l.length (l.map (Value.int .i64))∧w.heap[g]?=some (typO T)∧Below g w0 w
theorem PSt.cells {g:Nat} {T:TypeV} {w0:World} {v:Value} {l:List Int} {w:World} (h:PSt g T w0 v l w):w.cell? ⟨g,0,none⟩=some (.int .i64 T.kind)∧w.cell? ⟨g,3,none⟩=some (.int .i64 T.of)∧w.cell? ⟨g,4,none⟩=some (.int .i64 T.tag)∧w.cell? ⟨g,5,none⟩=some (.slice T.ia T.ilen T.icap)∧g<w.heap.size:=
 ⟨cell_at h.2.1 rfl,cell_at h.2.1 rfl,cell_at h.2.1 rfl,cell_at h.2.1 rfl,lt_of_block h.2.1⟩
theorem PSt.next {g:Nat} {T:TypeV} {w0:World} {v v2:Value} {l:List Int} {x:Int} {o:Obj} {w w2:World} (h:PSt g T w0 v l w) (h2:w2.ownsRow (g+1) 3 1 v2 (l.length+1) (l.map (Value.int .i64)++[.int .i64 x])) (hg:(w.alloc o).grownBy w2 v.ownBlock):PSt g T w0 v2 (l++[x]) w2:=by
 have hlt:=lt_of_block h.2.1
 have hb:Below g w0 w2:=(h.2.2.alloc (Nat.le_of_lt hlt) o).grown hg (by simp;omega) (fun k hk=>by have:=(h.1.lt k hk).1;omega)
 refine ⟨by simpa using h2,?_,hb⟩
 have h3:=alloc_old (o:=o) h.2.1
 exact (hg.block g (lt_of_block h3) (fun e=>by have:=(h.1.lt g e.symm).1;omega)).trans h3
theorem PSt.out {g:Nat} {T:TypeV} {w0:World} {v:Value} {l:List Int} {w:World} (h:PSt g T w0 v l w) (hg:w0.heap.size=g):w.ownsRow w0.heap.size 3 1 v l.length (l.map (Value.int .i64))∧Below w0.heap.size w0 w:=by
 subst hg
 exact ⟨Joins.ownsRow_le h.1 (Nat.le_succ _),h.2.2⟩
theorem PSt.start (T:TypeV) (w:World):PSt w.heap.size T w (.slice none 0 0) [] (w.alloc (typO T)):=⟨World.ownsRow_nil _ _ _ _,alloc_at w _,(Below.refl _ _).alloc (Nat.le_refl _) _⟩
theorem items_take (T:TypeV) (k:Nat):(List.range (k+1)).map (fun j=>(T.items j).type)=(List.range k).map (fun j=>(T.items j).type)++[(T.items k).type]:=by rw [List.range_succ,List.map_append];rfl
end Go.Proofs.YthcompcjphaahaaGreatDoor.Pa
namespace Go.Proofs.YthcompcjphaahaaGreatDoor.Pa
open Go.RowKit
set_option linter.unusedVariables false
def deepStep (D:Nat→Nat) (t:Nat) (acc:Nat) (p:Int):Nat:=if 0≤p∧p<t then max acc (D p.toNat+1) else acc
def deepF (L:Nat→TypeV):Nat→Nat→Nat
 |0,_=>0
 |f+1,t=>(partsL (L t)).foldl (deepStep (deepF L f) t) 1
theorem fold_congr {t:Nat} {D E:Nat→Nat} (h:∀ k,k<t→D k=E k):∀ (l:List Int) (a:Nat),l.foldl (deepStep D t) a=l.foldl (deepStep E t) a
 | [],_=>rfl
 |p::l,a=>by
  rw [List.foldl_cons,List.foldl_cons]
  have:deepStep D t a p=deepStep E t a p:=by
   unfold deepStep
   by_cases c:0≤p∧p<t
   · rw [if_pos c,if_pos c,h p.toNat (by omega)]
   · rw [if_neg c,if_neg c]
  rw [this]
  exact fold_congr h l _
theorem deepF_eq (L:Nat→TypeV):∀ (n t f g:Nat),t<n→t<f→t<g→deepF L f t=deepF L g t
 |0,_,_,_,h,_,_=>by omega
 |n+1,t,f+1,g+1,h,hf,hg=>fold_congr (fun k hk=>deepF_eq L n k f g (by omega) (by omega) (by omega)) _ _
def deepN (L:Nat→TypeV) (t:Nat):Nat:=deepF L (t+1) t
theorem deepN_eq (L:Nat→TypeV) (t:Nat):deepN L t=(partsL (L t)).foldl (deepStep (deepN L) t) 1:=
 fold_congr (fun k hk=>deepF_eq L (k+1) k t (k+1) (by omega) hk (by omega)) _ _
theorem fold_le {t m:Nat} {D:Nat→Nat} (h:∀ k,k<t→D k+1≤m):∀ (l:List Int) (a:Nat),a≤m→l.foldl (deepStep D t) a≤m
 | [],_,ha=>ha
 |p::l,a,ha=>by
  rw [List.foldl_cons]
  refine fold_le h l _ ?_
  unfold deepStep
  split
  · rename_i c;have:=h p.toNat (by omega);omega
  · exact ha
theorem deepN_le (L:Nat→TypeV):∀ (n t:Nat),t<n→deepN L t≤t+1
 |0,_,h=>by omega
 |n+1,t,h=>by
  rw [deepN_eq]
  exact fold_le (fun k hk=>by have:=deepN_le L n k (by omega);omega) _ _ (by omega)
theorem fold_ge {t:Nat} {D:Nat→Nat}:∀ (l:List Int) (a:Nat),a≤l.foldl (deepStep D t) a
 | [],_=>Nat.le_refl _
 |p::l,a=>by
  rw [List.foldl_cons]
  refine Nat.le_trans ?_ (fold_ge l _)
  unfold deepStep;split <;> omega
theorem deepN_pos (L:Nat→TypeV) (t:Nat):1≤deepN L t:=by rw [deepN_eq];exact fold_ge _ _
def deepL (L:Nat→TypeV) (len:Nat) (t:Int):Int:=if inL len t then (deepN L t.toNat:Nat) else 0
theorem row_keep {w w1:World} {base:Nat} {e:TypeId} {size:Nat} {v:Value} {n:Nat} {xs:List Value} (h:w.ownsRow base e size v n xs) (hb:Below w.heap.size w w1):w1.ownsRow base e size v n xs:=(Only.of_below (S:=fun _=>False) hb).row h (fun _ _ f=>f)
theorem cell_int {w:World} {base g n cap:Nat} {l:List Int} (h:w.ownsRow base 3 1 (.slice (some ⟨g,0,none⟩) n cap) n (l.map (Value.int .i64))) (j:Nat) (hj:j<n):w.cell? ⟨g,j,none⟩=some (.int .i64 (l.getD j 0)):=by
 have hl:l.length=n:=by have:=h.1;simpa using this
 rw [h.cellAt j (by omega),List.getElem?_map,List.getElem?_eq_getElem (by omega),List.getD_eq_getElem?_getD,List.getElem?_eq_getElem (by omega)]
 rfl
theorem row_form {w:World} {base n:Nat} {e:TypeId} {size:Nat} {v:Value} {xs:List Value} (h:w.ownsRow base e size v n xs):∃ (a:Option Addr) (cap:Nat),v=.slice a n cap∧(0<n→∃ g,a=some ⟨g,0,none⟩):=by
 rcases h.2 with ⟨rfl,rfl⟩|⟨g,cap,cur,rfl,_⟩
 · exact ⟨none,0,rfl,fun h=>by omega⟩
 · exact ⟨_,cap,rfl,fun _=>⟨g,rfl⟩⟩
theorem partsL_len {T:TypeV} (h:T.ilen≤3518437208780):(partsL T).length≤3518437208782:=by
 unfold partsL
 simp only [List.length_append]
 split <;> split <;> split <;> simp <;> omega
end Go.Proofs.YthcompcjphaahaaGreatDoor.Pa
namespace Go.Proofs.YthcompcjphaahaaGreatDoor.Pa
open Go.RowKit
set_option linter.unusedVariables false
def c1B (T:TypeV):Bool:=(!T.name.toList.isEmpty&&!namedK T.kind)||(decide (0<T.ilen)&&!namedK T.kind)
def c3B (T:TypeV):Bool:=(T.bound !=0&&(decide (T.kind<10)||decide (12<T.kind)))||(T.of !=0&&(T.kind !=11&&T.kind !=12))||(T.tag !=0&&T.kind !=14)
def itemMore (k:Int) (x:ItemV):Bool:=(x.num !=0&&(k==13||x.rest))||(x.type !=0&&k==9)||(x.key&&k !=13)||(x.rest&&k !=14)
def moreB (T:TypeV):Bool:=c1B T||c3B T||decide (firstN (fun j=>itemMore T.kind (T.items j)) T.ilen<T.ilen)
end Go.Proofs.YthcompcjphaahaaGreatDoor.Pa
namespace Go.Proofs.YthcompcjphaahaaGreatDoor.Pa
open Go.RowKit
set_option linter.unusedVariables false
def numberB (L:Nat→TypeV) (T:TypeV) (n:Int):Bool:=if T.kind=9 then mayK 9 n else if (L T.tag.toNat).kind=9 then decide (0≤valueZ (L T.tag.toNat) n) else mayK (L T.tag.toNat).kind n
end Go.Proofs.YthcompcjphaahaaGreatDoor.Pa
namespace Go.Proofs.YthcompcjphaahaaGreatDoor.Pa
open Go.RowKit
set_option linter.unusedVariables false
def itmO (x:ItemV):Obj:=.cells #[.string x.name,.int .u64 x.num,.int .i64 x.type,.bool x.key,.bool x.rest] 60
def nameEq (T:TypeV) (x:ItemV) (k:Nat):Bool:=(T.items k).name.toList==x.name.toList
def numEq (T:TypeV) (x:ItemV) (k:Nat):Bool:=(T.items k).num==x.num
def hasB (p:Nat→Bool) (n:Nat):Bool:=decide (firstN p n<n)
theorem hasB_next (p:Nat→Bool) (k:Nat):hasB p (k+1)=(hasB p k||p k):=by
 obtain ⟨h1,h2,h3⟩:=firstN_is p k
 unfold hasB
 by_cases c:firstN p k<k
 · rw [first_at h2 (by omega:firstN p k<k+1) (h3 c),decide_eq_true c,decide_eq_true (by omega)];rfl
 · have hn:∀ i,i<k→p i=false:=fun i hi=>h2 i (by omega)
   rw [decide_eq_false c]
   cases hp:p k with
   |true=>rw [first_at hn (Nat.lt_succ_self k) hp];simp
   |false=>rw [first_none (none_next hn hp)];simp
theorem hasB_zero (p:Nat→Bool):hasB p 0=false:=by unfold hasB;simp
theorem hasB_none {p:Nat→Bool} {n:Nat} (h:∀ i,i<n→p i=false):hasB p n=false:=by unfold hasB;rw [first_none h];simp
theorem hasB_some {p:Nat→Bool} {n k:Nat} (hk:k<n) (hp:p k=true):hasB p n=true:=by
 cases h:hasB p n with
 |true=>rfl
 |false=>
  unfold hasB at h
  have h1:=firstN_is p n
  have h2:¬firstN p n<n:=by simpa using h
  rw [h1.2.1 k (by omega)] at hp;cases hp
def itemE (L:Nat→TypeV) (T:TypeV) (i:Nat):Int:=
 if nameS (T.items i).name=false then 5 else if hasB (nameEq T (T.items i)) i then 6
 else if T.kind=13 then (if (T.items i).key&&!numK (L (T.items i).type.toNat).kind&&(L (T.items i).type.toNat).kind !=10 then 17 else 0)
 else if (T.items i).rest then (if i+1<T.ilen then 14 else 0)
 else if numberB L T (T.items i).num=false then 7 else if hasB (numEq T (T.items i)) i then 6 else 0
end Go.Proofs.YthcompcjphaahaaGreatDoor.Pa
