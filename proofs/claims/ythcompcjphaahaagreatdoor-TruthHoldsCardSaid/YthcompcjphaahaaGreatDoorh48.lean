/- A text's tokens, as the parser wants them: each is one, the end is the last; and what is wrong is an error. -/
import Derived.Test.YthcompcjphaahaaGreatDoorh26
import Derived.Test.YthcompcjphaahaaGreatDoorh47
set_option maxRecDepth 100000
set_option maxHeartbeats 8000000
set_option linter.unusedVariables false
namespace Go.Proofs.YthcompcjphaahaaGreatDoor
open Go.RowKit
def WOk:Got→Prop
 |.err _ _=>True
 |.tok k t _ _=>k=1→t≠[]
theorem jq2 (l:List UInt8):WOk (fstG l):=by
 unfold fstG
 by_cases h:wl l≠0
 · rw [if_pos h];intro _ e;have h1:=jrh l
   have:=congrArg List.length e
   rw [List.length_take,List.length_nil] at this;omega
 rw [if_neg h]
 by_cases h:nl l≠0
 · rw [if_pos h];unfold rdNum
   split
   · trivial
   split
   · intro e;cases e
   · trivial
 rw [if_neg h]
 by_cases h:tl l≠0
 · rw [if_pos h];unfold rdText
   split
   · trivial
   split
   · trivial
   · intro e;cases e
 rw [if_neg h]
 by_cases h:pl l≠0
 · rw [if_pos h];intro e;cases e
 rw [if_neg h]
 by_cases h:sl l≠0
 · rw [if_pos h];intro e;cases e
 rw [if_neg h];trivial
theorem Vd.snoc {out:List Tk} {t:Tk} (h:∀ x∈out,TkOk x) (ht:t.k=6) (h0:t.t=[]):Vd (out++[t]):=by
 induction out with
 |nil=>exact .one ht h0
 |cons x r ih=>exact .cons (h x (by simp)) (ih (fun y hy=>h y (by simp [hy])))
theorem jr5:∀ (f:Nat) (l:List UInt8) (a:Nat) (out:List Tk),l.length<f→l.length≤256→(∀ x∈out,TkOk x)→match TA f l a out with
  |.bad e _=>e≠0
  |.good r=>Vd r
 |0,l,a,out,hf,_,_=>by omega
 |f+1,[],a,out,hf,_,ho=>Vd.snoc ho rfl rfl
 |f+1,c::q,a,out,hf,h256,ho=>by
  rw [jci]
  by_cases hc:blk c=true
  · rw [if_pos hc];exact jr5 f q (a+1) out (by simpa using hf) (by simp at h256;omega) ho
  · rw [if_neg hc];have hb:=jc1 (c::q) (by simp);have hw:=jq2 (c::q)
    cases hg:fstG (c::q) with
    |err e b=>rw [hg] at hb;exact hb.1
    |tok k t n len=>
     rw [hg] at hb hw;obtain ⟨b1,b2,b3,b4,b5⟩:=hb
     show match (if out.length=64 then Ans.bad 3 a else TA f ((c::q).drop len) (a+len) (out++[⟨k,t,n,a⟩])) with|.bad e _=>e≠0|.good r=>Vd r
     by_cases h64:out.length=64
     · rw [if_pos h64];show (3:Nat)≠0;decide
     · rw [if_neg h64];refine jr5 f _ _ _ ?_ ?_ ?_
       · rw [List.length_drop];omega
       · rw [List.length_drop];omega
       · intro x hx
         rcases List.mem_append.1 hx with hx|hx
         · exact ho x hx
         · simp at hx;subst hx;exact ⟨by show k<6;omega,hw,by show t.length≤256;omega⟩
theorem jma (l:List UInt8):match tokA l with
  |.bad e _=>e≠0
  |.good r=>Vd r:=by
 unfold tokA
 by_cases h:256<l.length
 · rw [if_pos h];show (3:Nat)≠0;decide
 · rw [if_neg h];exact jr5 _ l 0 [] (by omega) (by omega) (fun x hx=>by simp at hx)
theorem jpm {l:List UInt8} {e a:Nat} (h:tokA l=.bad e a):e≠0:=by have:=jma l;rw [h] at this;exact this
theorem jpb {l:List UInt8} {r:List Tk} (h:tokA l=.good r):Vd r∧r.length≤65:=by
 have h1:=jma l;have h2:=jr6 l;rw [h] at h1 h2;exact ⟨h1,h2⟩
theorem jpj {w:World} {ao:Option Addr} {L:List Tk} (hn:0<L.length) (h:∀ i,i<L.length→TkAt w ao i (atV L i)):∃ tb off,ao=some ⟨tb,off,none⟩∧tb<w.heap.size∧TksAt w tb off L:=by
 obtain ⟨b,off,rfl,c0,_⟩:=h 0 hn;refine ⟨b,off,rfl,World.block_lt_of_cell? w _ c0,fun i hi r u hu=>?_⟩;obtain ⟨b',off',e,d0,d1,d2,d3⟩:=h i hi
 injection e with e
 injection e with e1 e2 _
 subst e1 e2
 have hd:L.getD i tk0=L.getD i default:=by simp [List.getD_eq_getElem?_getD,List.getElem?_eq_getElem hi]
 rw [hd] at hu
 match r,hu with
 |0,hu=>simp at hu;subst hu;exact d0
 |1,hu=>simp at hu;subst hu;exact d1
 |2,hu=>simp at hu;subst hu;exact d2
 |3,hu=>simp at hu;subst hu;exact d3
 |r+4,hu=>simp at hu
end Go.Proofs.YthcompcjphaahaaGreatDoor
