/- What a law's proof has in common: arguments read behind the call as before where nothing below the old heap has turned; arguments of small shapes, opened. -/
import Derived.Test.YthcompcjphaahaaGreatDoorRows
import Derived.WalkKit
import Derived.ProofKit
import Derived.OpenShut
import Derived.ShutString
import Derived.ChangeOld
import Derived.Below
import Derived.SizedLaws
import Derived.Deep.Slices
namespace Go.Proofs.YthcompcjphaahaaGreatDoor
open Go.ChangeShapes Go.WideShapes Go.ChangeAt Go.RowKit
theorem own:ownKnob Tryz.prog.godebug=none:=by kernel_rfl
theorem laidOut:laidOutB Tryz.prog=true:=by kernel_rfl
theorem keep {w w1:World} {p:Addr} {v:Value} (hb:Below w.heap.size w w1) (h:w.cell? p=some v):w1.cell? p=some v:=by
 have hl:p.block<w.heap.size:=by
  unfold World.cell? at h
  split at h
  · rename_i c t f hc
    exact (Array.getElem?_eq_some_iff.1 hc).1
  · cases h
 obtain ⟨b,o,sp⟩:=p
 unfold World.cell? at *
 rw [hb.block b hl]
 exact h
section
variable {H:Type} {enc:TypeId × Value→H} {P:Program}
theorem trodAll_below (hl:laidOutB P=true) {W W':World} (hb:Below W.heap.size W W'):
  ∀ (ts:List TypeId) (vs:List Value) (ds:List (DataW H)) (ps:List MemPlace),ts.all (fun t=>P.readableRec t&&decide (t<P.types.size))=true→
    DataW.TrodAll enc P W 0 (fun _=>true) true ts vs ds ps→(∀ x∈ps,x.block<W.heap.size)→DataW.TrodAll enc P W' 0 (fun b=>decide (b<W.heap.size)) true ts vs ds ps
 | [],vs,ds,ps,_,h,_=>by
   obtain ⟨rfl,rfl,rfl⟩:=trodAll_nil h
   exact trodAll_mk0
 |t::ts,vs,ds,ps,hr,h,hlt=>by
  obtain ⟨v,vs',d,ds',p,q,rfl,rfl,rfl,h1,h2⟩:=trodAll_cons h
  simp only [List.all_cons,Bool.and_eq_true,decide_eq_true_eq] at hr
  refine trodAll_cons_mk (Below.trod hl hr.1.1 hr.1.2 h1 hb (fun x hx=>hlt x (by simp [hx]))) (trodAll_below hl hb ts vs' ds' q (by simpa using hr.2) h2 (fun x hx=>hlt x (by simp [hx])))
variable {w:World} {base:Nat} {spare:Nat→Bool} {held:Bool} {r:Reach} {b0:Nat}
end
end Go.Proofs.YthcompcjphaahaaGreatDoor
namespace Go.Proofs.YthcompcjphaahaaGreatDoor
open Go.ChangeShapes Go.WideShapes Go.ChangeAt Go.RowKit
section
variable {H:Type} (enc:TypeId × Value→H) (P:Program) (w:World)
def Rdg (t:TypeId) (cs:List Value):Prop:=
 ∃ (fuel:Nat) (d:DataW H) (p:List MemPlace),DataW.trod enc P w 0 (fun _=>true) true fuel t cs=some (d,p)∧∀ n∈d.weights P t,n≤reachBytes
variable {enc P w}
theorem rdg_all:∀ (ts:List TypeId) (vs:List Value) (ds:List (DataW H)) (ps:List MemPlace),DataW.TrodAll enc P w 0 (fun _=>true) true ts vs ds ps→
  (∀ n∈DataW.weightsEach P ts ds,n≤reachBytes)→∀ (j:Nat) (t:TypeId) (v:Value),ts[j]?=some t→vs[j]?=some v→Rdg enc P w t v.cells.toList
 | [],_,_,_,_,_,_,_,_,ht,_=>by simp at ht
 |t0::ts,vs,ds,ps,h,hs,j,t,v,ht,hv=>by
  obtain ⟨v0,vs',d,ds',p,q,rfl,rfl,rfl,h1,h2⟩:=trodAll_cons h
  cases j with
  |zero=>
   simp at ht hv
   subst ht hv
   obtain ⟨fuel,hf⟩:=h1
   exact ⟨fuel,d,p,hf,fun n hn=>hs n (by simp only [DataW.weightsEach,List.mem_append];exact .inl hn)⟩
  |succ j=>
   exact rdg_all ts vs' ds' q h2 (fun n hn=>hs n (by simp only [DataW.weightsEach,List.mem_append];exact .inr hn)) j t v (by simpa using ht) (by simpa using hv)
theorem rdg_int {t:TypeId} {k:IntKind} {cs:List Value} (ht:P.underlying t=some (.int k)) (h:Rdg enc P w t cs):∃ n,cs=[.int k n]∧(Lit.int k n).wf=true:=by
 obtain ⟨_,_,_,hf,_⟩:=h
 obtain ⟨n,h1,_,h2⟩:=DataW.trod_int ht hf
 exact ⟨n,h1,h2⟩
theorem rdg_bool {t:TypeId} {cs:List Value} (ht:P.underlying t=some .bool) (h:Rdg enc P w t cs):∃ b,cs=[.bool b]:=by
 obtain ⟨_,_,_,hf,_⟩:=h
 obtain ⟨b,h1,_⟩:=DataW.trod_bool ht hf
 exact ⟨b,h1⟩
theorem rdg_string {t:TypeId} {cs:List Value} (ht:P.underlying t=some .string) (h:Rdg enc P w t cs):∃ s:ByteArray,cs=[.string s]∧s.size≤140737488351232:=by
 obtain ⟨_,d,p,hf,hw⟩:=h
 obtain ⟨s,h1,h2,_⟩:=DataW.trod_string ht hf
 refine ⟨s,h1,?_⟩
 obtain ⟨rfl,_⟩:=Prod.mk.inj h2
 have:=hw s.data.toList.length (by simp [DataW.weights])
 have e:reachBytes=140737488351232:=by decide
 rw [e] at this
 simpa using this
theorem rdg_field {t:TypeId} {fs:Array Field} {cs:List Value} (ht:P.underlying t=some (.struct fs)) (h:Rdg enc P w t cs)
  (i:Nat) (ty:TypeId) (off n:Nat) (hf:fs[i]?.map (fun f=>(f.type,f.offset))=some (ty,off)) (hc:P.cellsOf ty=n):Rdg enc P w ty ((cs.drop off).take n):=by
 obtain ⟨fuel,d,p,h,hw⟩:=h
 obtain ⟨xs,m,_,hx,_,hl,hfl⟩:=DataW.trod_struct ht h
 obtain ⟨rfl,_⟩:=Prod.mk.inj hx
 cases hq:fs[i]? with
 |none=>rw [hq] at hf;cases hf
 |some f=>
  rw [hq] at hf
  simp at hf
  obtain ⟨rfl,rfl⟩:=hf
  subst hc
  have hi:i<xs.length:=by
   have:=(Array.getElem?_eq_some_iff.1 hq).1
   omega
  refine ⟨m,xs[i].1,xs[i].2,by rw [hfl i f hq,List.getElem?_eq_getElem hi],fun k hk=>hw k ?_⟩
  simp only [DataW.weights,ht]
  refine DataW.weights_mem_each (j:=i) (t:=f.type) (d:=xs[i].1) ?_ ?_ k hk
  · have:=Array.getElem?_toList (xs:=fs) (i:=i)
    rw [List.getElem?_map,this,hq];rfl
  · rw [List.getElem?_map,List.getElem?_eq_getElem hi];rfl
end
section
variable {P:Program} {w:World} {r:Reach} {b0:Nat}
theorem ok_agg {t:TypeId} {v:Value} (ht:(∃ fs,P.underlying t=some (.struct fs))∨∃ n e,P.underlying t=some (.array n e)) (hv:Value.okWide P w r b0 t v):∃ cs:Array Value,v=.agg cs∧cs.size=P.cellsOf t:=by
 rcases ht with ⟨fs,ht⟩|⟨n,e,ht⟩
 · exact okWide_struct ht hv
 · simp only [Value.okWide,ht] at hv
   obtain ⟨cs,h1,h2,_⟩:=hv
   exact ⟨cs,h1,h2⟩
variable {H:Type} {enc:TypeId × Value→H}
theorem rop_int {t:TypeId} {k:IntKind} {v:Value} (ht:P.underlying t=some (.int k)) (hv:Value.okWide P w r b0 t v) (h:Rdg enc P w t v.cells.toList):∃ n,v=.int k n∧(Lit.int k n).wf=true:=by
 obtain ⟨n,rfl⟩:=okWide_int ht hv
 obtain ⟨n',e,hw⟩:=rdg_int ht h
 simp [Value.cells] at e
 exact ⟨n,rfl,e ▸ hw⟩
end
end Go.Proofs.YthcompcjphaahaaGreatDoor
namespace Go.Proofs.YthcompcjphaahaaGreatDoor
open Go.ChangeShapes Go.WideShapes Go.ChangeAt Go.RowKit
section
variable {H:Type} {enc:TypeId × Value→H} {P:Program} {w:World}
theorem add_plain (b off k:Nat):(Addr.add ⟨b,off,none⟩ k)=⟨b,off+k,none⟩:=by
 unfold Addr.add;split
 · subst_vars;rfl
 · rfl
end
end Go.Proofs.YthcompcjphaahaaGreatDoor
