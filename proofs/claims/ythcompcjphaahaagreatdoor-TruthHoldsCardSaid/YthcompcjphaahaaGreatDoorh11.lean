/- A range over a function, for callers that know the outer world: one law with its round walked in one piece, and the way out over the mark. -/
import Derived.RangeFuncNested
import Derived.RangeFuncBound
import Derived.RangeFuncLeaves
import Derived.Shelf.Abstract
import Derived.OwnWalkIn
import Derived.TacticsInMore
import Derived.LoopNIn
import Derived.LoopIn
import Derived.Shelf.RegionOpen
import Derived.Test.YthcompcjphaahaaGreatDoorh03
set_option maxRecDepth 100000
set_option maxHeartbeats 8000000
namespace Go.Proofs.YthcompcjphaahaaGreatDoor
open Go Go.RowKit
structure Stays (B:Nat) (X Y:World):Prop where
 os:Y.os=X.os
 tape:Y.tape=X.tape
 output:Y.output=X.output
 size:X.heap.size≤Y.heap.size
 same:∀ (k:Nat) (o:Obj),X.heap[k]?=some o→(o.isCells=true∨k<B)→Y.heap[k]?=some o
theorem Stays.refl (B:Nat) (X:World):Stays B X X:=⟨rfl,rfl,rfl,Nat.le_refl _,fun _ _ h _=>h⟩
theorem Stays.trans {B:Nat} {X Y Z:World} (h:Stays B X Y) (k:Stays B Y Z):Stays B X Z:=⟨k.os.trans h.os,k.tape.trans h.tape,k.output.trans h.output,Nat.le_trans h.size k.size,fun i o hi ho=>k.same i o (h.same i o hi ho) ho⟩
theorem Stays.alloc {B:Nat} (X:World) (o:Obj):Stays B X (X.alloc o):=
 ⟨rfl,rfl,rfl,by simp,fun k o' hk _=>(Below.heap_alloc X o k (Array.getElem?_eq_some_iff.1 hk).1).trans hk⟩
theorem Stays.of_grown {B:Nat} {X Y:World} {row:Option Nat} (hg:X.grownBy Y row) (hr:∀ r,row=some r→B≤r∧∃ o:Obj,X.heap[r]?=some o∧o.isCells=false):Stays B X Y:=
 ⟨hg.os,hg.tape,hg.output,hg.size,fun k o hk hc=>(hg.block k (Array.getElem?_eq_some_iff.1 hk).1 (fun e=>by
  obtain ⟨h1,o',h2,h3⟩:=hr k e.symm;rw [hk] at h2
  cases h2
  rcases hc with hc|hc
  · rw [hc] at h3;cases h3
  · omega)).trans hk⟩
theorem Stays.below {B n:Nat} {w X Y:World} (h:Stays B X Y) (hb:Below n w X) (hn:n≤w.heap.size) (hB:n≤B):Below n w Y:=
 ⟨h.os.trans hb.os,h.tape.trans hb.tape,h.output.trans hb.output,Nat.le_trans hb.size h.size,fun k hk=>by
  have h1:=hb.block k hk
  have hlt:k<X.heap.size:=by have:=hb.size;omega
  have h2:X.heap[k]?=some X.heap[k]:=Array.getElem?_eq_getElem hlt
  rw [h.same k _ h2 (.inr (by omega)),←h2,h1]⟩
theorem Stays.cell {B:Nat} {X Y:World} (h:Stays B X Y) {a:Addr} {v:Value} (hc:X.cell? a=some v):Y.cell? a=some v:=by
 obtain ⟨o,ho,hcl⟩:=cells_of_cell hc;unfold World.cell? at hc ⊢;rw [h.same _ o ho (.inl hcl),←ho];exact hc
theorem Stays.putObj {B:Nat} {X:World} {l:Nat} {o:Obj} (o':Obj) (hl:X.heap[l]?=some o) (ho:o.isCells=false) (hB:B≤l):Stays B X (X.putObj l o'):=
 Stays.of_grown (grownBy_putObj' X l o') (fun r e=>by cases e;exact ⟨hB,o,hl,ho⟩)
def StayI {α:Type} (B:Nat) (I:List α→World→Prop):Prop:=∀ s X Y,I s X→Stays B X Y→I s Y
theorem StayI.own {α:Type} {B:Nat} {I:List α→World→Prop} (h:StayI B I):OwnFrom B I:=fun s X Y _ hs hg hr=>h s X Y hs (Stays.of_grown hg hr)
theorem KeepsFrom.of_below {B:Nat} {X Y:World} (h:Below X.heap.size X Y):KeepsFrom B X Y:=
 ⟨h.size,fun k _ _ hk _=>(h.block k (Array.getElem?_eq_some_iff.1 hk).1).trans hk⟩
structure KpM (m b1 b2:Nat) (X Y:World):Prop where
 below:Below m X Y
 mid:∀ k,b1≤k→k<b2→Y.heap[k]?=X.heap[k]?
theorem KpM.refl (m b1 b2:Nat) (X:World):KpM m b1 b2 X X:=⟨Below.refl _ _,fun _ _ _=>rfl⟩
theorem KpM.trans {m b1 b2:Nat} {A B C:World} (h:KpM m b1 b2 A B) (k:KpM m b1 b2 B C):KpM m b1 b2 A C:=⟨h.below.trans k.below,fun i h1 h2=>(k.mid i h1 h2).trans (h.mid i h1 h2)⟩
theorem KpM.putObj {m b1 b2:Nat} {w:World} (hm:m≤w.heap.size) (hb:b2≤w.heap.size) (W:World) (l:Nat) (o o':Obj) (hl:w.heap.size≤l) (h:W.heap[l]?=some o) (h1:o.isCells=false) (h2:o.isWalk=false):KpM m b1 b2 W (W.putObj l o'):=
 ⟨belowK_b hm W l o o' hl h h1 h2,fun _ _ _=>World.putObj_heap_other (by omega)⟩
theorem KpM.of_below {m b1 b2:Nat} {X Y:World} (h:Below X.heap.size X Y) (hm:m≤X.heap.size) (hb:b2≤X.heap.size):KpM m b1 b2 X Y:=⟨h.mono hm,fun k _ hk=>h.block k (by omega)⟩
theorem KpM.setCell {m b1 b2 b j:Nat} (X:World) (v:Value) (h1:m≤b) (h2:b<b1):KpM m b1 b2 X (X.setCell ⟨b,j,none⟩ v):=
 ⟨(Below.refl m X).setCell (p:=⟨b,j,none⟩) h1 v,fun k hk _=>Below.heap_setCell X _ v k (show k≠b by omega)⟩
structure KpS (m b1 b2:Nat) (X Y:World):Prop where
 kept:KpM m b1 b2 X Y
 row:∀ (k:Nat) (cs:Array Value) (fr:Nat × Nat),b2≤k→X.heap[k]?=some (.cells cs 113 fr)→Y.heap[k]?=some (.cells cs 113 fr)
theorem KpS.refl (m b1 b2:Nat) (X:World):KpS m b1 b2 X X:=⟨KpM.refl _ _ _ _,fun _ _ _ _ h=>h⟩
theorem KpS.trans {m b1 b2:Nat} {A B C:World} (h:KpS m b1 b2 A B) (k:KpS m b1 b2 B C):KpS m b1 b2 A C:=⟨h.kept.trans k.kept,fun i cs fr h1 h2=>k.row i cs fr h1 (h.row i cs fr h1 h2)⟩
theorem KpS.putObj {m b1 b2:Nat} {w:World} (hm:m≤w.heap.size) (hb:b2≤w.heap.size) (W:World) (l:Nat) (o o':Obj) (hl:w.heap.size≤l) (h:W.heap[l]?=some o) (h1:o.isCells=false) (h2:o.isWalk=false):KpS m b1 b2 W (W.putObj l o'):=
 ⟨KpM.putObj hm hb W l o o' hl h h1 h2,fun _ _ _ _ hk=>by
  refine (World.putObj_heap_other ?_).trans hk;rintro rfl;rw [h] at hk
  cases hk
  cases h1⟩
theorem KpS.of_below {m b1 b2:Nat} {X Y:World} (h:Below X.heap.size X Y) (hm:m≤X.heap.size) (hb:b2≤X.heap.size):KpS m b1 b2 X Y:=
 ⟨KpM.of_below h hm hb,fun k _ _ _ hk=>(h.block k (Array.getElem?_eq_some_iff.1 hk).1).trans hk⟩
theorem KpS.setCell {m b1 b2 b j:Nat} (X:World) (v:Value) (h1:m≤b) (h2:b<b1) (h3:b1≤b2):KpS m b1 b2 X (X.setCell ⟨b,j,none⟩ v):=
 ⟨KpM.setCell X v h1 h2,fun k _ _ hb hk=>(Below.heap_setCell X _ v k (show k≠b by omega)).trans hk⟩
abbrev RPost {α:Type} (B:Nat) (Kp:World→World→Prop) (I Ix:List α→World→Prop) (xs:List α) (W:World):Exit→Act→World→Prop:=
 ownPostG B Kp I (fun c pre X=>c=.ret∧Ix pre X) xs W
theorem ja6 {α:Type} {P:Program} {g:Operand} {ps:Array Tmp} {assign body:Code} {Q:Exit→Act→World→Prop} {a:Act} {w:World} {gf:Nat} {lb:Array Value}
  (hg:a.eval g=.func (.func gf) #[] lb) (eg:∀ args w,(callFunc gf args).run P w=.ok (.enter gf args) w) {encs:α→Array Value} {Kp:World→World→Prop} {S Sp:List α→Prop} {N:Nat} {w0:World}
  (hseq:SeqStopsK Fence.wide 2 P gf lb encs Kp S Sp N w0) (hKt:∀ {A B C:World},Kp A B→Kp B C→Kp A C)
  (hKb:∀ (W:World) (l:Nat) (o o':Obj),w.heap.size≤l→W.heap[l]?=some o→o.isCells=false→o.isWalk=false→Kp W (W.putObj l o')) (hb0:Below w0.heap.size w0 w) (hps:∀ x,(encs x).size=ps.size)
  (I Ix:List α→World→Prop) (hI:StayI w.heap.size I) (hIx:StayI w.heap.size Ix) (h0:I [] w)
  (hround:∀ (l:Nat) (x:α) (W:World) (K:Act→World→Prop),(∃ pre,I pre W)→
   (∀ a' W',KeepsFrom w.heap.size W W'→Kp W W'→Stays w.heap.size W W'→
    (∀ l2 pre2 W2,Stays w.heap.size W' W2→I pre2 W2→pre2.length<N→body.wpIn (Fence.wide.inRound l2) 1 P (RPost w.heap.size Kp I Ix (pre2++[x]) W2) a' W2)→K a' W')→
   assign.wpIn (Fence.wide.inRound l) 1 P (Exit.then K (fun _ _ _=>False)) { tmps:=(ps.zip (encs x)).foldl (fun t (p,v)=>t.setIfInBounds p v) a.tmps,defers:=[] } W)
  (hdone:∀ (D:Nat) (xs:List α) (W:World),w.heap.size≤D→S xs→I xs W→W.heap[D]?=some (.deferred (some []))→Q .normal { a with defers:={ target:=.collected D,args:=#[] }::a.defers } W)
  (hstop:∀ (D:Nat) (pre:List α) (W:World),w.heap.size≤D→Sp pre→Ix pre W→W.heap[D]?=some (.deferred (some []))→Q .ret { a with defers:={ target:=.collected D,args:=#[] }::a.defers } W):
  (Code.rangeFunc g ps assign body).wp P Q a w:=by
 refine (wpIn_wide (n:=3)).1 ?_
 refine wpIn_rangeFunc_ownH (F:=Fence.wide) (n:=3) rfl (by omega) hg trivial eg hseq (fun h k=>hKt h k) hKb hb0 hps I (fun c pre W=>c=.ret∧Ix pre W) hI.own
  (fun c s X Y _ hs hgr hr=>⟨hs.1,hIx s X Y hs.2 (Stays.of_grown hgr hr)⟩) h0
  (fun x a' W'=>∀ l2 pre2 W2,Stays w.heap.size W' W2→I pre2 W2→pre2.length<N→body.wpIn (Fence.wide.inRound l2) 1 P (RPost w.heap.size Kp I Ix (pre2++[x]) W2) a' W2)
  (fun x a' s X Y _ hs hgr hr l2 pre2 W2 hst hi hl=>hs l2 pre2 W2 ((Stays.of_grown hgr hr).trans hst) hi hl) ?_ ?_ hdone ?_
 · intro l pre x W K hi hK;exact hround l x W K ⟨pre,hi⟩ (fun a' W' h1 h2 h3 h4=>hK a' W' h1 h2 (hI _ _ _ hi h3) h4)
 · intro l pre x a' W _ _ hi hax hlen;exact hax l pre W (Stays.refl _ _) hi hlen
 · rintro D c pre W hD hsp ⟨rfl,hx⟩ hk;exact wpIn_ret (hstop D pre W hD hsp hx hk)
theorem Xh {P:Program} {fn:Func} {tmps:Array Value} {R:Ending→World→Prop} {w:World} {v:Value} (h:(results fn tmps).run P w=.ok v w) (hR:R (.returned v) w):
 LeavesInM Fence.wide 3 P fn tmps R [] .returning w:=⟨v,h,hR⟩
theorem qp {P:Program} {fn:Func} {tmps:Array Value} {R:Ending→World→Prop} {w:World} {D:Nat} (hD:w.heap[D]?=some (.deferred (some [])))
  (h:∃ v,(results fn tmps).run P (w.putObj D (.deferred none))=.ok v (w.putObj D (.deferred none))∧R (.returned v) (w.putObj D (.deferred none))):
  LeavesInM Fence.wide 3 P fn tmps R [{ target:=.collected D,args:=#[] }] .returning w:=
 ⟨by simp,.inl ⟨_,_,rfl,run_takeDeferred hD,h⟩⟩
theorem qn {W:World} {D:Nat} {a:Addr} {v:Value} (hD:W.heap[D]?=some (.deferred (some []))) (h:W.cell? a=some v):(W.putObj D (.deferred none)).cell? a=some v:=
 (Stays.putObj (B:=0) _ hD rfl (Nat.zero_le _)).cell h
theorem Zw {W:World} {D b:Nat} {cs:Array Value} {t:TypeId} {fr:Nat × Nat} (hD:W.heap[D]?=some (.deferred (some []))) (h:W.heap[b]?=some (.cells cs t fr)):(W.putObj D (.deferred none)).heap[b]?=some (.cells cs t fr):=
 (Stays.putObj (B:=0) _ hD rfl (Nat.zero_le _)).same _ _ h (.inl rfl)
theorem yc {W w:World} {D n:Nat} (hD:W.heap[D]?=some (.deferred (some []))) (h:Below n w W) (hn:n≤D):Below n w (W.putObj D (.deferred none)):=
 h.grown (grownBy_putObj' W D _) (by have:=(Array.getElem?_eq_some_iff.1 hD).1;omega) (fun k e=>by cases e;exact hn)
theorem qj {W:World} {D b:Nat} {v:Value} {o:Obj} (hD:W.heap[D]?=some o) (h:D≠b):(W.setCell ⟨b,0,none⟩ v).heap[D]?=some o:=(Below.heap_setCell W _ v D h).trans hD
theorem qd {P:Program} {f:FuncId} {fn:Func} {c:Code} {args:Array Value} {w:World} {R:Ending→World→Prop} (hf:P.funcs[f]?=some fn) (hb:fn.body=some c)
  (h:c.wp P (bodyPostM Fence.wide 3 P fn R) { tmps:=args++Array.replicate (fn.ntmps - args.size) undef,defers:=[] } w):Calls P f args w R:=
 (callsIn_wide (n:=3)).1 (callsIn_of_wp_marks (F:=Fence.wide) (n:=3) hf hb trivial (wpIn_wide.2 h))
theorem inWide {P:Program} {f:FuncId} {args:Array Value} {w:World} {R:Ending→World→Prop} {n:Nat} (h:Calls P f args w R):CallsIn Fence.wide n P f args w R:=callsIn_wide.2 h
theorem inRnd {P:Program} {f:FuncId} {args:Array Value} {w:World} {R:Ending→World→Prop} {n l:Nat} (h:Calls P f args w R):CallsIn (Fence.wide.inRound l) n P f args w R:=CallsIn.inRound l (callsIn_wide.2 h)
end Go.Proofs.YthcompcjphaahaaGreatDoor
