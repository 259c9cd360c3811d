/- A region that draws its order of evaluation, whatever the order: its first N operations only lay new blocks and leave values that are told; all others wait for all of them. General: no dump is imported. -/
import Derived.Test.YthcompcjphaahaaGreatDoorhzz
import Derived.OrdersHeld
import Derived.RowKit
import Derived.Below
set_option maxRecDepth 100000
set_option maxHeartbeats 8000000
set_option linter.unusedVariables false
namespace Go.Proofs.YthcompcjphaahaaGreatDoor
open Go Go.RowKit
section
variable {P:Program} {ops:Array Oper} {Q:Exit→Act→World→Prop}
def restL (l:List Bool):Nat:=(l.filter (!·)).length
def restN (l:Array Bool):Nat:=restL l.toList
theorem jfo:∀ (l:List Bool) (i:Nat),l.getD i true=false→restL (l.set i true)+1=restL l
 | [],i,h=>by simp at h
 |b::l,0,h=>by
  have:b=false:=by simpa using h
  subst this;simp [restL]
 |b::l,i+1,h=>by
  have ih:=jfo l i (by simpa using h);unfold restL at *;rw [List.set_cons_succ]
  cases b <;> simp_all <;> omega
theorem jmp (l:Array Bool) (i:Nat) (d:Bool):l.getD i d=l.toList.getD i d:=by
 rw [List.getD_eq_getElem?_getD,←Array.getElem?_toList.symm,Array.getD_eq_getD_getElem?]
theorem jf8 (l:Array Bool) (i:Nat) (h:l.getD i true=false):restN (l.setIfInBounds i true)+1=restN l:=by
 rw [jmp] at h
 have:=jfo l.toList i h
 unfold restN;rw [Array.toList_setIfInBounds];exact this
theorem jo9 (l:Array Bool) (i:Nat) (h:l.getD i true=false):0<restN l:=by have:=jf8 l i h;omega
theorem jbf {md:Region.Mode} {I:Array Bool→Act→World→Prop} {D:Array Bool→Prop}
  (hstep:∀ l a w,I l a w→¬D l→(∃ i,i∈Region.ready md ops l)∧∀ i∈Region.ready md ops l,wpOp P ops Q i (I (l.setIfInBounds i true)) a w)
  (hend:∀ l a w,I l a w→D l→wpAny P md ops Q (restN l) l a w):∀ n l a w,restN l=n→I l a w→wpAny P md ops Q n l a w
 |0,l,a,w,hn,h=>by
  by_cases d:D l
  · have:=hend l a w h d;rwa [hn] at this
  · obtain ⟨⟨i,hi⟩,_⟩:=hstep l a w h d
    have:=jo9 l i (mem_ready.1 hi).1
    omega
 |n+1,l,a,w,hn,h=>by
  by_cases d:D l
  · have:=hend l a w h d;rwa [hn] at this
  · obtain ⟨⟨i0,hi0⟩,hs⟩:=hstep l a w h d;refine ⟨fun h0=>absurd hi0 (by rw [h0];simp),fun i hi=>?_⟩;have hr:=jf8 l i (mem_ready.1 hi).1;exact wpOp_mono (fun a' w' h'=>jbf hstep hend n _ a' w' (by omega) h') (hs i hi)
def depsOf (ops:Array Oper) (j:Nat):List Nat:=((ops[j]?).map fun o=>(o.after.toList.filter fun e=>Region.binds .any e).map (·.on)).getD []
def more (ops:Array Oper) (N:Nat) (c:List Nat):List Nat:=c++(c.filter fun k=>decide (k<N)).flatMap (depsOf ops)
def preB (ops:Array Oper) (N:Nat):Bool:=(List.range ops.size).all fun j=>if j<N then (depsOf ops j).all fun k=>decide (k<j) else ((depsOf ops j).any fun k=>decide (N≤k))||(List.range N).all fun k=>(more ops N (more ops N (more ops N (more ops N (depsOf ops j))))).contains k
theorem jax {N:Nat} {c:List Nat} {L:Nat→Prop} (h:∀ k∈c,L k) (hc:∀ j,j<N→L j→∀ k∈depsOf ops j,L k):∀ k∈more ops N c,L k:=by
 intro k hk;unfold more at hk
 rcases List.mem_append.1 hk with h1|h1
 · exact h k h1
 · obtain ⟨m,hm,hkm⟩:=List.mem_flatMap.1 h1;rw [List.mem_filter] at hm;exact hc m (by simpa using hm.2) (h m hm.1) k hkm
def upd (v:Nat→Value) (j:Nat) (x:Value):Nat→Value:=fun k=>if k=j then x else v k
def Okay (base:Nat) (al:Nat→Option Obj) (c:Nat→Value) (k:Nat) (x:Value) (w:World):Prop:=
 match al k with
 |none=>x=c k
 |some o=>∃ p,x=.pointer (some ⟨p,0,none⟩)∧w.heap[p]?=some o∧base≤p
theorem jqb {w:World} {b:Nat} {o:Obj} (h:w.heap[b]?=some o):b<w.heap.size:=by
 rcases Nat.lt_or_ge b w.heap.size with c|c
 · exact c
 · rw [Array.getElem?_eq_none c] at h;cases h
theorem Okay.keep {base:Nat} {al:Nat→Option Obj} {c:Nat→Value} {k:Nat} {x:Value} {w w1:World} (h:Okay base al c k x w) (hb:Below w.heap.size w w1):Okay base al c k x w1:=by
 unfold Okay at *
 split
 · rename_i e;rw [e] at h;exact h
 · rename_i o e;rw [e] at h;obtain ⟨p,h1,h2,h3⟩:=h;exact ⟨p,h1,(hb.block p (jqb h2)).trans h2,h3⟩
def listN (N M:Nat):Array Bool:=(List.replicate N true++List.replicate (M - N) false).toArray
theorem jjf {l:Array Bool} {N M:Nat} (hs:l.size=M) (hN:N≤M) (h1:∀ j,j<N→l.getD j false=true) (h2:∀ j,N≤j→j<M→l.getD j false=false):l=listN N M:=by
 unfold listN
 apply Array.ext
 · simp;omega
 · intro i hi hi2
   have hg:l.getD i false=l[i]:=by simp [Array.getD,hi]
   rw [←hg];simp only [List.getElem_toArray]
   by_cases c:i<N
   · rw [h1 i c,List.getElem_append_left (by simpa using c)];simp
   · rw [h2 i (by omega) (by omega),List.getElem_append_right (by simpa using c)];simp
theorem jb3 (N M:Nat):restN (listN N M)=M - N:=by
 unfold restN restL listN;simp
theorem jq {id:Nat} {w:World} (hm:P.follows .mixedOrders=true) (N:Nat) (frame:(Nat→Value)→Array Value) (v0:Nat→Value) (al:Nat→Option Obj) (c:Nat→Value) (B:World→Prop)
  (hN:N≤ops.size) (hpre:preB ops N=true) (hB:∀ w w',B w→Below w.heap.size w w'→B w') (hB0:B w)
  (hop:∀ j,j<N→∀ (v:Nat→Value) (w1:World),B w1→w.heap.size≤w1.heap.size→(∀ k,k∈depsOf ops j→Okay w.heap.size al c k (v k) w1)→
   wpOp P ops Q j (fun a' w'=>∃ x,a'=⟨frame (upd v j x),[]⟩∧Below w1.heap.size w1 w'∧(al j=none→x=c j)∧(∀ o,al j=some o→x=.pointer (some ⟨w1.heap.size,0,none⟩)∧w'.heap[w1.heap.size]?=some o)) ⟨frame v,[]⟩ w1)
  (hend:∀ v w',(∀ j,j<N→Okay w.heap.size al c j (v j) w')→(∀ j k,j<N→k<N→j≠k→al j≠none→al k≠none→v j≠v k)→B w'→Below w.heap.size w w'→wpAny P .any ops Q (ops.size - N) (listN N ops.size) ⟨frame v,[]⟩ w'):
  (Code.region id ops true).wp P Q ⟨frame v0,[]⟩ w:=by
 refine wp_region_any hm ?_
 have hpre2:∀ j,j<ops.size→if j<N then ∀ k∈depsOf ops j,k<j else (∃ m,m∈depsOf ops j∧N≤m)∨∀ k,k<N→k∈more ops N (more ops N (more ops N (more ops N (depsOf ops j)))):=by
  intro j hj;have h:=List.all_eq_true.1 hpre j (List.mem_range.2 hj)
  split
  · rename_i hc;rw [if_pos hc] at h;intro k hk
    simpa using List.all_eq_true.1 h k hk
  · rename_i hc;rw [if_neg hc,Bool.or_eq_true] at h
    rcases h with h|h
    · obtain ⟨m,hm,hmN⟩:=List.any_eq_true.1 h;exact .inl ⟨m,hm,by simpa using hmN⟩
    · exact .inr fun k hk=>by simpa using List.all_eq_true.1 h k (List.mem_range.2 hk)
 have hdeps:∀ {j:Nat} {o:Oper} {l:Array Bool},ops[j]?=some o→(∀ e∈o.after,Region.binds .any e=true→l.getD e.on false=true)→∀ k∈depsOf ops j,l.getD k false=true:=by
  intro j o l ho h k hk;unfold depsOf at hk;rw [ho] at hk;simp only [Option.map_some,Option.getD_some,List.mem_map,List.mem_filter] at hk;obtain ⟨e,⟨he,hb⟩,rfl⟩:=hk;exact h e (Array.mem_toList_iff.1 he) hb
 have hconv:∀ {j:Nat} {l:Array Bool},j<ops.size→(∀ k∈depsOf ops j,l.getD k false=true)→∃ o,ops[j]?=some o∧∀ e∈o.after,Region.binds .any e=true→l.getD e.on false=true:=by
  intro j l hj h;refine ⟨ops[j],Array.getElem?_eq_getElem hj,fun e he hb=>h _ ?_⟩;unfold depsOf;rw [Array.getElem?_eq_getElem hj];simp only [Option.map_some,Option.getD_some,List.mem_map,List.mem_filter];exact ⟨e,⟨Array.mem_toList_iff.2 he,hb⟩,rfl⟩
 have hdt:∀ {l:Array Bool} {j:Nat},l.size=ops.size→j<ops.size→(l.getD j true=l.getD j false):=by
  intro l j hl hj
  have:j<l.size:=by omega
  simp [Array.getD,this]
 refine jbf
  (I:=fun l a w'=>l.size=ops.size∧(∀ j,j<N→l.getD j false=true→∀ k∈depsOf ops j,l.getD k false=true)∧(∀ j,N≤j→j<ops.size→l.getD j false=false)∧∃ v,a=⟨frame v,[]⟩∧(∀ j,j<N→l.getD j false=true→Okay w.heap.size al c j (v j) w')∧
   (∀ j k,j<N→k<N→j≠k→l.getD j false=true→l.getD k false=true→al j≠none→al k≠none→v j≠v k)∧B w'∧Below w.heap.size w w')
  (D:=fun l=>∀ j,j<N→l.getD j false=true) ?_ ?_ ops.size _ _ _ ?_ ?_
 · rintro l a w1 ⟨hl,hcl,hlo,v,rfl,hv,hd,hb1,hbw⟩ hD
   constructor
   ·
    have hex:∃ j,j<N∧l.getD j false=false:=by
     apply Classical.byContradiction
     intro hno;refine hD fun j hj=>?_
     cases hc:l.getD j false with
     |true=>rfl
     |false=>exact absurd ⟨j,hj,hc⟩ hno
    have hleast:∀ n,(∃ j,j<n∧j<N∧l.getD j false=false)→∃ j,j<N∧l.getD j false=false∧∀ k,k<j→l.getD k false=true:=by
     intro n
     induction n with
     |zero=>rintro ⟨j,h,_⟩;omega
     |succ n ih=>
      rintro ⟨j,h,hjN,hj⟩
      by_cases c:∃ k,k<n∧k<N∧l.getD k false=false
      · exact ih c
      · refine ⟨j,hjN,hj,fun k hk=>?_⟩
        cases hc:l.getD k false with
        |true=>rfl
        |false=>exact absurd ⟨k,by omega,by omega,hc⟩ c
    obtain ⟨j,hjN,hj⟩:=hex;obtain ⟨j,hjN,hj,hall⟩:=hleast (j+1) ⟨j,by omega,hjN,hj⟩
    have hjs:j<ops.size:=by omega
    refine ⟨j,mem_ready.2 ⟨by rw [hdt hl hjs];exact hj,hconv hjs fun k hk=>?_⟩⟩;have h2:=hpre2 j hjs;rw [if_pos hjN] at h2;exact hall k (h2 k hk)
   · intro i hi;obtain ⟨hun,o,ho,haft⟩:=mem_ready.1 hi;have his:i<ops.size:=(Array.getElem?_eq_some_iff.1 ho).1;have hdp:=hdeps ho haft;have h2:=hpre2 i his
     by_cases hiN:i<N
     · rw [if_pos hiN] at h2;refine wpOp_mono ?_ (hop i hiN v w1 hb1 hbw.size (fun k hk=>hv k (by have:=h2 k hk;omega) (hdp k hk)));rintro a' w' ⟨x,rfl,hbx,hx1,hx2⟩
       have hsame:∀ j,j≠i→(l.setIfInBounds i true).getD j false=l.getD j false:=fun j hj=>by
        simp [Array.getD_eq_getD_getElem?,Ne.symm hj]
       have hmono:∀ k,l.getD k false=true→(l.setIfInBounds i true).getD k false=true:=fun k hk=>by
        by_cases e:k=i
        · subst e
          have:k<l.size:=by omega
          simp [Array.getD,this]
        · rw [hsame k e];exact hk
       have hcl2:∀ j,j<N→(l.setIfInBounds i true).getD j false=true→∀ k∈depsOf ops j,(l.setIfInBounds i true).getD k false=true:=fun j hj hlj k hk=>by
        by_cases e:j=i
        · subst e;exact hmono k (hdp k hk)
        · rw [hsame j e] at hlj;exact hmono k (hcl j hj hlj k hk)
       refine ⟨by simp [hl],hcl2,fun j hj hjs=>by rw [hsame j (by omega)];exact hlo j hj hjs,upd v i x,rfl,?_,?_,hB _ _ hb1 hbx,hbw.trans (hbx.mono hbw.size)⟩
       · intro j hj hlj
         by_cases e:j=i
         · subst e
           show Okay _ al c j (if j=j then x else v j) w'
           rw [if_pos rfl];unfold Okay
           split
           · rename_i e2;exact hx1 e2
           · rename_i o2 e2;obtain ⟨hp,hq⟩:=hx2 o2 e2;exact ⟨_,hp,hq,hbw.size⟩
         · rw [hsame j e] at hlj
           show Okay _ al c j (if j=i then x else v j) w'
           rw [if_neg e];exact (hv j hj hlj).keep hbx
       · have hnew:∀ k,k<N→k≠i→l.getD k false=true→al i≠none→al k≠none→x≠v k:=by
          intro k hk hki hlk ha hak
          cases ha1:al i with
          |none=>exact absurd ha1 ha
          |some oi=>
           obtain ⟨hp,_⟩:=hx2 oi ha1;have hok:=hv k hk hlk;unfold Okay at hok
           cases ha2:al k with
           |none=>exact absurd ha2 hak
           |some ok=>
            rw [ha2] at hok;obtain ⟨p,hp2,hq2,_⟩:=hok
            have:=jqb hq2
            rw [hp,hp2];intro e
            injection e with e
            injection e with e
            injection e with e
            omega
         intro j k hj hk hjk hlj hlk haj hak
         show (if j=i then x else v j)≠(if k=i then x else v k)
         by_cases e:j=i
         · subst e;have e2:k≠j:=Ne.symm hjk;rw [if_pos rfl,if_neg e2];rw [hsame k e2] at hlk;exact hnew k hk e2 hlk haj hak
         · rw [if_neg e];rw [hsame j e] at hlj
           by_cases e2:k=i
           · subst e2;rw [if_pos rfl];exact Ne.symm (hnew j hj e hlj hak haj)
           · rw [if_neg e2];rw [hsame k e2] at hlk;exact hd j k hj hk hjk hlj hlk haj hak
     · rw [if_neg hiN] at h2
       rcases h2 with ⟨m,hm,hmN⟩|h2
       · have hm1:=hdp m hm
         by_cases c:m<ops.size
         · rw [hlo m hmN c] at hm1;cases hm1
         · have:¬m<l.size:=by omega
           simp [Array.getD,this] at hm1
       · have L1:=jax (L:=fun k=>l.getD k false=true) hdp hcl;have L2:=jax (L:=fun k=>l.getD k false=true) L1 hcl;have L3:=jax (L:=fun k=>l.getD k false=true) L2 hcl;have L4:=jax (L:=fun k=>l.getD k false=true) L3 hcl;exact absurd (fun j hj=>L4 j (h2 j hj)) hD
 · rintro l a w1 ⟨hl,hcl,hlo,v,rfl,hv,hd,hb1,hbw⟩ hD;have e:=jjf hl hN hD hlo;rw [e,jb3];exact hend v w1 (fun j hj=>hv j hj (hD j hj)) (fun j k hj hk hjk haj hak=>hd j k hj hk hjk (hD j hj) (hD k hk) haj hak) hb1 hbw
 · unfold restN restL;simp
 · have hrep:∀ j,(Array.replicate ops.size false).getD j false=false:=fun j=>by simp [Array.getD]
   refine ⟨by simp,fun j _ h=>absurd h (by rw [hrep j];decide),fun j _ _=>hrep j,v0,rfl,fun j _ h=>?_,fun j k _ _ _ h=>?_,hB _ _ hB0 (Below.refl _ _).drew,(Below.refl _ _).drew⟩
   · rw [hrep j] at h;cases h
   · rw [hrep j] at h;cases h
end
section
variable {P:Program} {ops:Array Oper} {Q:Exit→Act→World→Prop}
theorem je0 {id:Nat} {w:World} (hm:P.follows .mixedOrders=true) (N m:Nat) (frame:(Nat→Value)→Array Value) (v0:Nat→Value) (Ok:Nat→Value→World→Prop) (B Pre:World→Prop)
  (hN:N≤ops.size) (hpre:preB ops N=true) (hB0:B w.drew) (hP0:Pre w.drew)
  (hop:∀ j,j<N→∀ (v:Nat→Value) (w1:World),B w1→(j=m→Pre w1)→(∀ k,k∈depsOf ops j→Ok k (v k) w1)→
   wpOp P ops Q j (fun a' w'=>∃ x,a'=⟨frame (upd v j x),[]⟩∧Ok j x w'∧B w'∧(j≠m→Pre w1→Pre w')∧∀ k y,k≠j→Ok k y w1→Ok k y w') ⟨frame v,[]⟩ w1)
  (hend:∀ v w',(∀ j,j<N→Ok j (v j) w')→B w'→wpAny P .any ops Q (ops.size - N) (listN N ops.size) ⟨frame v,[]⟩ w'):
  (Code.region id ops true).wp P Q ⟨frame v0,[]⟩ w:=by
 refine wp_region_any hm ?_
 have hpre2:∀ j,j<ops.size→if j<N then ∀ k∈depsOf ops j,k<j else (∃ m,m∈depsOf ops j∧N≤m)∨∀ k,k<N→k∈more ops N (more ops N (more ops N (more ops N (depsOf ops j)))):=by
  intro j hj;have h:=List.all_eq_true.1 hpre j (List.mem_range.2 hj)
  split
  · rename_i hc;rw [if_pos hc] at h;intro k hk
    simpa using List.all_eq_true.1 h k hk
  · rename_i hc;rw [if_neg hc,Bool.or_eq_true] at h
    rcases h with h|h
    · obtain ⟨m,hm,hmN⟩:=List.any_eq_true.1 h;exact .inl ⟨m,hm,by simpa using hmN⟩
    · exact .inr fun k hk=>by simpa using List.all_eq_true.1 h k (List.mem_range.2 hk)
 have hdeps:∀ {j:Nat} {o:Oper} {l:Array Bool},ops[j]?=some o→(∀ e∈o.after,Region.binds .any e=true→l.getD e.on false=true)→∀ k∈depsOf ops j,l.getD k false=true:=by
  intro j o l ho h k hk;unfold depsOf at hk;rw [ho] at hk;simp only [Option.map_some,Option.getD_some,List.mem_map,List.mem_filter] at hk;obtain ⟨e,⟨he,hb⟩,rfl⟩:=hk;exact h e (Array.mem_toList_iff.1 he) hb
 have hconv:∀ {j:Nat} {l:Array Bool},j<ops.size→(∀ k∈depsOf ops j,l.getD k false=true)→∃ o,ops[j]?=some o∧∀ e∈o.after,Region.binds .any e=true→l.getD e.on false=true:=by
  intro j l hj h;refine ⟨ops[j],Array.getElem?_eq_getElem hj,fun e he hb=>h _ ?_⟩;unfold depsOf;rw [Array.getElem?_eq_getElem hj];simp only [Option.map_some,Option.getD_some,List.mem_map,List.mem_filter];exact ⟨e,⟨Array.mem_toList_iff.2 he,hb⟩,rfl⟩
 have hdt:∀ {l:Array Bool} {j:Nat},l.size=ops.size→j<ops.size→(l.getD j true=l.getD j false):=by
  intro l j hl hj
  have:j<l.size:=by omega
  simp [Array.getD,this]
 refine jbf
  (I:=fun l a w'=>l.size=ops.size∧(∀ j,j<N→l.getD j false=true→∀ k∈depsOf ops j,l.getD k false=true)∧(∀ j,N≤j→j<ops.size→l.getD j false=false)∧∃ v,a=⟨frame v,[]⟩∧(∀ j,j<N→l.getD j false=true→Ok j (v j) w')∧
   B w'∧(l.getD m false=false→Pre w'))
  (D:=fun l=>∀ j,j<N→l.getD j false=true) ?_ ?_ ops.size _ _ _ ?_ ?_
 · rintro l a w1 ⟨hl,hcl,hlo,v,rfl,hv,hb1,hP1⟩ hD
   constructor
   ·
    have hex:∃ j,j<N∧l.getD j false=false:=by
     apply Classical.byContradiction
     intro hno;refine hD fun j hj=>?_
     cases hc:l.getD j false with
     |true=>rfl
     |false=>exact absurd ⟨j,hj,hc⟩ hno
    have hleast:∀ n,(∃ j,j<n∧j<N∧l.getD j false=false)→∃ j,j<N∧l.getD j false=false∧∀ k,k<j→l.getD k false=true:=by
     intro n
     induction n with
     |zero=>rintro ⟨j,h,_⟩;omega
     |succ n ih=>
      rintro ⟨j,h,hjN,hj⟩
      by_cases c:∃ k,k<n∧k<N∧l.getD k false=false
      · exact ih c
      · refine ⟨j,hjN,hj,fun k hk=>?_⟩
        cases hc:l.getD k false with
        |true=>rfl
        |false=>exact absurd ⟨k,by omega,by omega,hc⟩ c
    obtain ⟨j,hjN,hj⟩:=hex;obtain ⟨j,hjN,hj,hall⟩:=hleast (j+1) ⟨j,by omega,hjN,hj⟩
    have hjs:j<ops.size:=by omega
    refine ⟨j,mem_ready.2 ⟨by rw [hdt hl hjs];exact hj,hconv hjs fun k hk=>?_⟩⟩;have h2:=hpre2 j hjs;rw [if_pos hjN] at h2;exact hall k (h2 k hk)
   · intro i hi;obtain ⟨hun,o,ho,haft⟩:=mem_ready.1 hi;have his:i<ops.size:=(Array.getElem?_eq_some_iff.1 ho).1;have hdp:=hdeps ho haft;have h2:=hpre2 i his
     have hun2:l.getD i false=false:=by rw [←hdt hl his];exact hun
     by_cases hiN:i<N
     · rw [if_pos hiN] at h2;refine wpOp_mono ?_ (hop i hiN v w1 hb1 (fun e=>hP1 (by rw [←e];exact hun2)) (fun k hk=>hv k (by have:=h2 k hk;omega) (hdp k hk)));rintro a' w' ⟨x,rfl,hx,hb2,hp2,hkeep⟩
       have hsame:∀ j,j≠i→(l.setIfInBounds i true).getD j false=l.getD j false:=fun j hj=>by
        simp [Array.getD_eq_getD_getElem?,Ne.symm hj]
       have hself:(l.setIfInBounds i true).getD i false=true:=by
        have:i<l.size:=by omega
        simp [Array.getD,this]
       have hmono:∀ k,l.getD k false=true→(l.setIfInBounds i true).getD k false=true:=fun k hk=>by
        by_cases e:k=i
        · subst e;exact hself
        · rw [hsame k e];exact hk
       have hcl2:∀ j,j<N→(l.setIfInBounds i true).getD j false=true→∀ k∈depsOf ops j,(l.setIfInBounds i true).getD k false=true:=fun j hj hlj k hk=>by
        by_cases e:j=i
        · subst e;exact hmono k (hdp k hk)
        · rw [hsame j e] at hlj;exact hmono k (hcl j hj hlj k hk)
       refine ⟨by simp [hl],hcl2,fun j hj hjs=>by rw [hsame j (by omega)];exact hlo j hj hjs,upd v i x,rfl,?_,hb2,?_⟩
       · intro j hj hlj
         by_cases e:j=i
         · subst e
           show Ok j (if j=j then x else v j) w'
           rw [if_pos rfl];exact hx
         · rw [hsame j e] at hlj
           show Ok j (if j=i then x else v j) w'
           rw [if_neg e];exact hkeep j _ e (hv j hj hlj)
       · intro hmf
         by_cases e:m=i
         · subst e;rw [hself] at hmf;cases hmf
         · rw [hsame m e] at hmf;exact hp2 (Ne.symm e) (hP1 hmf)
     · exfalso
       rw [if_neg hiN] at h2
       rcases h2 with ⟨k,hk,hkN⟩|hall
       · have h3:=hdp k hk
         have hks:k<ops.size:=by
          by_cases c:k<l.size
          · omega
          · simp [Array.getD,c] at h3
         rw [hlo k hkN hks] at h3;cases h3
       · refine hD fun k hk=>?_;have h4:=fun c h=>jax (ops:=ops) (N:=N) (c:=c) (L:=fun k=>l.getD k false=true) h (fun j hj hlj k hk=>hcl j hj hlj k hk);exact h4 _ (h4 _ (h4 _ (h4 _ hdp))) k (hall k hk)
 · rintro l a w' ⟨hl,hcl,hlo,v,rfl,hv,hb1,_⟩ hD;have e:l=listN N ops.size:=jjf hl hN hD hlo;subst e;rw [jb3];exact hend v w' (fun j hj=>hv j hj (hD j hj)) hb1
 · unfold restN restL;simp
 · refine ⟨by simp,fun j hj hlj=>?_,fun j hj hjs=>by simp [Array.getD,hjs],v0,rfl,fun j hj hlj=>?_,hB0,fun _=>hP0⟩
   · exfalso
     by_cases c:j<ops.size <;> simp [Array.getD,c] at hlj
   · exfalso
     by_cases c:j<ops.size <;> simp [Array.getD,c] at hlj
end
end Go.Proofs.YthcompcjphaahaaGreatDoor
