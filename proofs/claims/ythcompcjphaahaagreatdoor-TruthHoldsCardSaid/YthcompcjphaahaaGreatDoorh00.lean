/- What a law's proof has in common: arguments read behind the call as before where nothing below the old heap has turned; arguments of small shapes, opened. -/
import Derived.Test.YthcompcjphaahaaGreatDoorhzz
import Derived.Test.YthcompcjphaahaaGreatDoorRows
import Derived.WalkKit
import Derived.ProofKit
import Derived.OpenShut
import Derived.ShutString
import Derived.ChangeOld
import Derived.Below
import Derived.SizedLaws
import Derived.Deep.Slices
set_option maxRecDepth 100000
set_option maxHeartbeats 8000000
namespace Go.Proofs.YthcompcjphaahaaGreatDoor
open Go.ChangeShapes Go.WideShapes Go.ChangeAt Go.RowKit
theorem own:ownKnob Tryz.prog.godebug=none:=by kernel_rfl
theorem laidOut:laidOutB Tryz.prog=true:=by kernel_rfl
theorem keep {w w1:World} {p:Addr} {v:Value} (hb:Below w.heap.size w w1) (h:w.cell? p=some v):w1.cell? p=some v:=by
 have hl:p.block<w.heap.size:=by
  unfold World.cell? at h
  split at h
  · rename_i c t f hc;exact (Array.getElem?_eq_some_iff.1 hc).1
  · cases h
 obtain ⟨b,o,sp⟩:=p;unfold World.cell? at *;rw [hb.block b hl];exact h
section
variable {H:Type} {enc:TypeId × Value→H} {P:Program}
theorem Z1 (hl:laidOutB P=true) {W W':World} (hb:Below W.heap.size W W'):
  ∀ (ts:List TypeId) (vs:List Value) (ds:List (DataW H)) (ps:List MemPlace),ts.all (fun t=>P.readableRec t&&decide (t<P.types.size))=true→
    DataW.TrodAll enc P W 0 (fun _=>true) true ts vs ds ps→(∀ x∈ps,x.block<W.heap.size)→DataW.TrodAll enc P W' 0 (fun b=>decide (b<W.heap.size)) true ts vs ds ps
 | [],vs,ds,ps,_,h,_=>by
   obtain ⟨rfl,rfl,rfl⟩:=trodAll_nil h;exact trodAll_mk0
 |t::ts,vs,ds,ps,hr,h,hlt=>by
  obtain ⟨v,vs',d,ds',p,q,rfl,rfl,rfl,h1,h2⟩:=trodAll_cons h;simp only [List.all_cons,Bool.and_eq_true,decide_eq_true_eq] at hr;refine trodAll_cons_mk (Below.trod hl hr.1.1 hr.1.2 h1 hb (fun x hx=>hlt x (by simp [hx]))) (Z1 hl hb ts vs' ds' q (by simpa using hr.2) h2 (fun x hx=>hlt x (by simp [hx])))
variable {w:World} {base:Nat} {spare:Nat→Bool} {held:Bool} {r:Reach} {b0:Nat}
end
section
variable {H:Type} (enc:TypeId × Value→H) (P:Program) (w:World)
def Rdg (t:TypeId) (cs:List Value):Prop:=
 ∃ (fuel:Nat) (d:DataW H) (p:List MemPlace),DataW.trod enc P w 0 (fun _=>true) true fuel t cs=some (d,p)∧∀ n∈d.weights P t,n≤reachBytes
variable {enc P w}
theorem jl8:∀ (ts:List TypeId) (vs:List Value) (ds:List (DataW H)) (ps:List MemPlace),DataW.TrodAll enc P w 0 (fun _=>true) true ts vs ds ps→
  (∀ n∈DataW.weightsEach P ts ds,n≤reachBytes)→∀ (j:Nat) (t:TypeId) (v:Value),ts[j]?=some t→vs[j]?=some v→Rdg enc P w t v.cells.toList
 | [],_,_,_,_,_,_,_,_,ht,_=>by simp at ht
 |t0::ts,vs,ds,ps,h,hs,j,t,v,ht,hv=>by
  obtain ⟨v0,vs',d,ds',p,q,rfl,rfl,rfl,h1,h2⟩:=trodAll_cons h
  cases j with
  |zero=>
   simp at ht hv;subst ht hv;obtain ⟨fuel,hf⟩:=h1;exact ⟨fuel,d,p,hf,fun n hn=>hs n (by simp only [DataW.weightsEach,List.mem_append];exact .inl hn)⟩
  |succ j=>
   exact jl8 ts vs' ds' q h2 (fun n hn=>hs n (by simp only [DataW.weightsEach,List.mem_append];exact .inr hn)) j t v (by simpa using ht) (by simpa using hv)
theorem yl {t:TypeId} {k:IntKind} {cs:List Value} (ht:P.underlying t=some (.int k)) (h:Rdg enc P w t cs):∃ n,cs=[.int k n]∧(Lit.int k n).wf=true:=by
 obtain ⟨_,_,_,hf,_⟩:=h;obtain ⟨n,h1,_,h2⟩:=DataW.trod_int ht hf;exact ⟨n,h1,h2⟩
theorem jea {t:TypeId} {cs:List Value} (ht:P.underlying t=some .bool) (h:Rdg enc P w t cs):∃ b,cs=[.bool b]:=by
 obtain ⟨_,_,_,hf,_⟩:=h;obtain ⟨b,h1,_⟩:=DataW.trod_bool ht hf;exact ⟨b,h1⟩
theorem Yq {t:TypeId} {cs:List Value} (ht:P.underlying t=some .string) (h:Rdg enc P w t cs):∃ s:ByteArray,cs=[.string s]∧s.size≤140737488351232:=by
 obtain ⟨_,d,p,hf,hw⟩:=h;obtain ⟨s,h1,h2,_⟩:=DataW.trod_string ht hf;refine ⟨s,h1,?_⟩;obtain ⟨rfl,_⟩:=Prod.mk.inj h2
 have:=hw s.data.toList.length (by simp [DataW.weights])
 have e:reachBytes=140737488351232:=by decide
 rw [e] at this
 simpa using this
theorem qe {t:TypeId} {fs:Array Field} {cs:List Value} (ht:P.underlying t=some (.struct fs)) (h:Rdg enc P w t cs)
  (i:Nat) (ty:TypeId) (off n:Nat) (hf:fs[i]?.map (fun f=>(f.type,f.offset))=some (ty,off)) (hc:P.cellsOf ty=n):Rdg enc P w ty ((cs.drop off).take n):=by
 obtain ⟨fuel,d,p,h,hw⟩:=h;obtain ⟨xs,m,_,hx,_,hl,hfl⟩:=DataW.trod_struct ht h;obtain ⟨rfl,_⟩:=Prod.mk.inj hx
 cases hq:fs[i]? with
 |none=>rw [hq] at hf;cases hf
 |some f=>
  rw [hq] at hf;simp at hf;obtain ⟨rfl,rfl⟩:=hf;subst hc
  have hi:i<xs.length:=by
   have:=(Array.getElem?_eq_some_iff.1 hq).1
   omega
  refine ⟨m,xs[i].1,xs[i].2,by rw [hfl i f hq,List.getElem?_eq_getElem hi],fun k hk=>hw k ?_⟩;simp only [DataW.weights,ht];refine DataW.weights_mem_each (j:=i) (t:=f.type) (d:=xs[i].1) ?_ ?_ k hk
  · have:=Array.getElem?_toList (xs:=fs) (i:=i)
    rw [List.getElem?_map,this,hq];rfl
  · rw [List.getElem?_map,List.getElem?_eq_getElem hi];rfl
theorem qm {e:TypeId}:∀ {ds:List (DataW H)} {j:Nat} {d:DataW H},ds[j]?=some d→∀ n∈d.weights P e,n∈DataW.weightsAll P e ds
 |d0::ds,0,d,hd,n,hn=>by
  simp only [List.getElem?_cons_zero,Option.some.injEq] at hd;subst hd;simp only [DataW.weightsAll,List.mem_append];exact .inl hn
 |d0::ds,j+1,d,hd,n,hn=>by
  simp only [List.getElem?_cons_succ] at hd;simp only [DataW.weightsAll,List.mem_append];exact .inr (qm hd n hn)
 | [],_,_,hd,_,_=>by simp at hd
theorem jir {t e:TypeId} {k:Nat} {cs:List Value} (ht:P.underlying t=some (.array k e)) (h:Rdg enc P w t cs) (i n:Nat) (hi:i<k) (hc:P.cellsOf e=n):Rdg enc P w e ((cs.drop (i*n)).take n):=by
 obtain ⟨fuel,d,p,h,hw⟩:=h;obtain ⟨xs,m,_,hx,_,hl,hfl⟩:=DataW.trod_array ht h;obtain ⟨rfl,_⟩:=Prod.mk.inj hx;subst hc
 have hi':i<xs.length:=by omega
 refine ⟨m,xs[i].1,xs[i].2,by rw [hfl i hi,List.getElem?_eq_getElem hi'],fun k hk=>hw k ?_⟩;simp only [DataW.weights,ht];refine qm (j:=i) (d:=xs[i].1) ?_ k hk;rw [List.getElem?_map,List.getElem?_eq_getElem hi'];rfl
theorem jfv {t e:TypeId} {cs:List Value} (n:Nat) (ht:P.underlying t=some (.slice e)) (hc:P.cellsOf e=n) (h:Rdg enc P w t cs):
  cs=[.slice none 0 0]∨∃ (a:Addr) (len cap:Nat),cs=[.slice (some a) len cap]∧len≤cap∧cap≤maxLen∧cap*P.bytesOf e≤140737488351232∧
   ∀ i,i<cap→∃ c:List Value,w.cells? 0 (a.add (i*n)) n=some c∧Rdg enc P w e c:=by
 obtain ⟨fuel,d,p,h,hw⟩:=h;subst hc
 rcases DataW.trod_slice ht h with ⟨h0,_⟩|⟨a,len,cap,elems,rest,m,_,h1,h2,_,hl,hm,hlen,hel,hsp,_⟩
 · exact .inl h0
 · obtain ⟨hr,hrj⟩:=hsp rfl;obtain ⟨rfl,_⟩:=Prod.mk.inj h2
   have e0:reachBytes=140737488351232:=by decide
   refine .inr ⟨a,len,cap,h1,hl,hm,?_,?_⟩
   · have:=hw ((elems.length+rest.length)*P.bytesOf e) (by simp [DataW.weights,ht])
     rw [e0,hlen,hr] at this
     rwa [Nat.add_sub_cancel' hl] at this
   · intro i hi
     by_cases c:i<len
     · have hq:=hel i c
       have hi':i<elems.length:=by omega
       rw [List.getElem?_eq_getElem hi'] at hq;obtain ⟨cs',hcs,hx⟩:=Option.bind_eq_some_iff.1 hq;refine ⟨cs',hcs,m,elems[i].1,elems[i].2,hx,fun k hk=>hw k ?_⟩;simp only [DataW.weights,ht,List.mem_cons,List.mem_append];exact .inr (.inl (qm (j:=i) (d:=elems[i].1) (by rw [List.getElem?_map,List.getElem?_eq_getElem hi'];rfl) k hk))
     · have hq:=hrj (i - len) (by omega);rw [show len+(i - len)=i by omega] at hq
       have hi':i - len<rest.length:=by omega
       rw [List.getElem?_eq_getElem hi'] at hq;obtain ⟨cs',hcs,hx⟩:=Option.bind_eq_some_iff.1 hq;refine ⟨cs',hcs,m,rest[i - len].1,rest[i - len].2,hx,fun k hk=>hw k ?_⟩;simp only [DataW.weights,ht,List.mem_cons,List.mem_append];exact .inr (.inr (qm (j:=i - len) (d:=rest[i - len].1) (by rw [List.getElem?_map,List.getElem?_eq_getElem hi'];rfl) k hk))
end
section
variable {P:Program} {w:World} {r:Reach} {b0:Nat}
theorem jph {t:TypeId} {v:Value} (ht:(∃ fs,P.underlying t=some (.struct fs))∨∃ n e,P.underlying t=some (.array n e)) (hv:Value.okWide P w r b0 t v):∃ cs:Array Value,v=.agg cs∧cs.size=P.cellsOf t:=by
 rcases ht with ⟨fs,ht⟩|⟨n,e,ht⟩
 · exact okWide_struct ht hv
 · simp only [Value.okWide,ht] at hv;obtain ⟨cs,h1,h2,_⟩:=hv;exact ⟨cs,h1,h2⟩
variable {H:Type} {enc:TypeId × Value→H}
theorem jms {t e:TypeId} {v:Value} (n:Nat) (ht:P.underlying t=some (.slice e)) (hc:P.cellsOf e=n) (hv:Value.okWide P w r b0 t v) (h:Rdg enc P w t v.cells.toList):
  v=.slice none 0 0∨∃ (a:Addr) (len cap:Nat),v=.slice (some a) len cap∧len≤cap∧cap≤maxLen∧cap*P.bytesOf e≤140737488351232∧
   ∀ i,i<cap→∃ c:List Value,w.cells? 0 (a.add (i*n)) n=some c∧Rdg enc P w e c:=by
 obtain ⟨a0,len0,cap0,rfl⟩:=okWide_slice ht hv
 rcases jfv n ht hc h with e|⟨a,len,cap,e,h1,h2,h3,h4⟩
 · simp [Value.cells] at e;obtain ⟨rfl,rfl,rfl⟩:=e;exact .inl rfl
 · simp [Value.cells] at e;obtain ⟨rfl,rfl,rfl⟩:=e;exact .inr ⟨a,len0,cap0,rfl,h1,h2,h3,h4⟩
end
section
variable {H:Type} {enc:TypeId × Value→H} {P:Program} {w:World}
theorem Xr (b off k:Nat):(Addr.add ⟨b,off,none⟩ k)=⟨b,off+k,none⟩:=by
 unfold Addr.add;split
 · subst_vars;rfl
 · rfl
theorem Yd {a:Addr} {v:Value} (h:w.cell? a=some v):a=⟨a.block,a.off,none⟩:=by
 unfold World.cell? at h
 split at h
 · split at h
   · cases h
   · rename_i hs;obtain ⟨b,o,sp⟩:=a
     cases sp with
     |none=>rfl
     |some x=>simp at hs
 · cases h
theorem jij {e:TypeId} {a:Addr} {n cap:Nat} (hn:0<n) (hc:0<cap) (h:∀ i,i<cap→∃ c:List Value,w.cells? 0 (a.add (i*n)) n=some c∧Rdg enc P w e c):
  ∃ b off,a=⟨b,off,none⟩∧∀ i,i<cap→∃ c:List Value,c.length=n∧(∀ j,j<n→w.cell? ⟨b,off+i*n+j,none⟩=c[j]?)∧Rdg enc P w e c:=by
 have h0:a=⟨a.block,a.off,none⟩:=by
  obtain ⟨c,hcc,_⟩:=h 0 hc;obtain ⟨_,hl,hat⟩:=World.cells?_some hcc;have h1:=hat 0 hn
  have hl0:0<c.length:=by omega
  rw [List.getElem?_eq_getElem hl0,Nat.zero_mul] at h1
  have e2:(a.add 0).add 0=a:=by unfold Addr.add;simp
  rw [e2] at h1;exact Yd h1
 refine ⟨a.block,a.off,h0,fun i hi=>?_⟩;obtain ⟨c,hcc,hr⟩:=h i hi;obtain ⟨_,hl,hat⟩:=World.cells?_some hcc;refine ⟨c,hl,fun j hj=>?_,hr⟩;have h1:=hat j hj;rw [Go.Deep.add_add,h0,Xr,←Nat.add_assoc] at h1;exact h1
end
theorem zj {w:World} {b o:Nat} {v:Value} (h:w.cell? ⟨b,o,none⟩=some v):b<w.heap.size:=World.block_lt_of_cell? w _ h
theorem skolem {α:Type} [Inhabited α] {n:Nat} {Q:Nat→α→Prop} (h:∀ i,i<n→∃ x,Q i x):∃ L:Nat→α,∀ i,i<n→Q i (L i):=by
 classical
 refine ⟨fun i=>if hi:i<n then (h i hi).choose else default,fun i hi=>?_⟩
 show Q i (if hi:i<n then (h i hi).choose else default)
 rw [dif_pos hi];exact (h i hi).choose_spec
end Go.Proofs.YthcompcjphaahaaGreatDoor
