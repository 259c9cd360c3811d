/- Find: the path of a text. -/
import Derived.Maps.AppendAt
import Derived.Test.YthcompcjphaahaaGreatDoorh21
set_option maxRecDepth 100000
set_option maxHeartbeats 8000000
set_option linter.unusedVariables false
namespace Go.Proofs.YthcompcjphaahaaGreatDoor.Pa
open Go Go.RowKit Go.Shelf
attribute [local go_sem] Oper.semAt_some
def flatS:List StepV→List Value
 | []=>[]
 |s::r=>.bool s.elem::.int .i64 s.n::flatS r
theorem Xd (l:List StepV) (s:StepV):flatS (l++[s])=flatS l++[.bool s.elem,.int .i64 s.n]:=by
 induction l with
 |nil=>rfl
 |cons a l ih=>simp only [List.cons_append,flatS,ih]
structure FindR where
 steps:List StepV
 at':Nat
 err:Int
def findG (L:Nat→TypeV) (len:Nat):List (PieceV × Bool)→Nat→List StepV→FindR
 | [],u,st=>⟨st,u,0⟩
 |x::r,u,st=>if pstE L len u x.1=0 then findG L len r (nextN L u (pstS L len u x.1)) (st++[pstS L len u x.1]) else ⟨[],0,pstE L len u x.1⟩
def formS (s:ByteArray):Bool:=(piecesS s 0).all (·.2)&&!(s.size==0)
def findA (L:Nat→TypeV) (len:Nat) (t:Int) (s:ByteArray):FindR:=
 if hasT L len t then (if formS s then findG L len (piecesS s 0) t.toNat [] else ⟨[],0,1⟩) else ⟨[],0,8⟩
def FindTo (R:FindR) (w:World) (e:Ending) (w':World):Prop:=
 ∃ v,e=.returned (.tuple #[v,.int .i64 (R.at':Nat),.int .i64 R.err])∧w'.ownsRow w.heap.size 113 2 v R.steps.length (flatS R.steps)∧Below w.heap.size w w'
theorem infoStep:(Tryz.prog.info? 113).map (fun i=>(i.zero,i.size,i.bytes))=some (some (.agg #[.bool false,.int .i64 0]),2,16):=by kernel_rfl
theorem Xq {W W':World} {base k n:Nat} {e:TypeId} {size:Nat} {v:Value} {xs:List Value} {o:Obj} (hown:W.ownsRow base e size v n xs) (hg:W.grownBy W' v.ownBlock) (h:W.heap[k]?=some o) (hk:k<base):W'.heap[k]?=some o:=
 (hg.block k (Array.getElem?_eq_some_iff.1 h).1 (fun e=>by have:=(hown.lt k e.symm).1;omega)).trans h
theorem jn9 {W W':World} {base n B:Nat} {e:TypeId} {size:Nat} {v:Value} {xs:List Value} (hown:W.ownsRow base e size v n xs) (hg:W.grownBy W' v.ownBlock):KeepsFrom B W W':=
 (KeepsOthers.of_grownBy hg fun j o ej hj=>by
  rcases hown.2 with ⟨rfl,_⟩|⟨g,cap,cur,rfl,_,hgb,_⟩
  · simp [Value.ownBlock] at ej
  · obtain rfl:g=j:=by simpa [Value.ownBlock] using ej
    rw [hgb] at hj;cases hj;rfl).from _
theorem yj {w0 W W':World} {base n m:Nat} {e:TypeId} {size:Nat} {v:Value} {xs:List Value} (hown:W.ownsRow base e size v n xs) (hg:W.grownBy W' v.ownBlock) (hb:Below m w0 W) (hm:m≤base) (hs:m≤W.heap.size):Below m w0 W':=
 hb.grown hg hs (fun k e=>by have:=(hown.lt k e).1;omega)
theorem jsp {W W':World} {base n m b1 b2:Nat} {e:TypeId} {size:Nat} {v:Value} {xs:List Value} (hown:W.ownsRow base e size v n xs) (hg:W.grownBy W' v.ownBlock) (hm:m≤base) (hb:b2≤base) (hs:m≤W.heap.size) (hs2:b2≤W.heap.size):KpM m b1 b2 W W':=
 ⟨yj hown hg (Below.refl _ _) hm hs,fun k _ h2=>hg.block k (by omega) (fun e=>by have:=(hown.lt k e.symm).1;omega)⟩
theorem ja2 {W:World} {base n b:Nat} {e:TypeId} {size:Nat} {v u:Value} {xs:List Value} (h:W.ownsRow base e size v n xs) (hb:b<base):(W.setCell ⟨b,0,none⟩ u).ownsRow base e size v n xs:=
 h.kept (grownBy_setCell' W b u) (by
  rcases h.2 with ⟨rfl,_⟩|⟨g,cap,cur,rfl,hgb,_⟩
  · exact .inl rfl
  · exact .inr (by simp [Value.ownBlock];omega))
theorem jn0 {B:Nat} {X Y:World} {base n:Nat} {e:TypeId} {size:Nat} {v:Value} {xs:List Value} (h:X.ownsRow base e size v n xs) (hst:Stays B X Y):Y.ownsRow base e size v n xs:=by
 refine ⟨h.1,?_⟩
 rcases h.2 with h2|⟨g,cap,cur,h3,h4,h5,h6⟩
 · exact .inl h2
 · exact .inr ⟨g,cap,cur,h3,h4,hst.same _ _ h5 (.inl rfl),h6⟩
theorem jjg {X:World} {base base' n:Nat} {e:TypeId} {size:Nat} {v:Value} {xs:List Value} (h:X.ownsRow base e size v n xs) (hb:base'≤base):X.ownsRow base' e size v n xs:=by
 refine ⟨h.1,?_⟩
 rcases h.2 with h2|⟨g,cap,cur,h3,h4,h5⟩
 · exact .inl h2
 · exact .inr ⟨g,cap,cur,h3,by omega,h5⟩
theorem zw (W:World) (a b:Value) (t:TypeId) (g:Nat) (hg:g=W.heap.size):∀ j u,[a,b][j]?=some u→(W.alloc (.cells #[a,b] t)).cell? ((⟨g,0,none⟩:Addr).add j)=some u:=by
 subst hg;intro j u hj;have h:=jd W (.cells #[a,b] t)
 match j with
 |0=>simp at hj;subst hj;exact ja (j:=0) h rfl
 |1=>simp at hj;subst hj;exact ja (j:=1) h rfl
 |j+2=>simp at hj
theorem jk7 (w1:World) (t:Nat) (s:ByteArray):
  ∃ W0,((w1.alloc (.cells #[.slice none 0 0] 70)).alloc (.cells #[.int .i64 (t:Nat)] 3)).alloc (.cells #[.string s] 9)=W0∧W0.heap.size=w1.heap.size+3∧Below w1.heap.size w1 W0∧W0.heap[w1.heap.size]?=some (.cells #[.slice none 0 0] 70)∧
    W0.heap[w1.heap.size+1]?=some (.cells #[.int .i64 (t:Nat)] 3)∧W0.cell? ⟨w1.heap.size+2,0,none⟩=some (.string s):=by
 refine ⟨_,rfl,by simp,((((Below.refl _ w1).alloc (Nat.le_refl _) _).alloc (by simp) _).alloc (by simp;omega) _),?_,?_,?_⟩
 · exact jc (jc (jd w1 _) ((Below.refl _ _).alloc (Nat.le_refl _) _)) ((Below.refl _ _).alloc (Nat.le_refl _) _)
 · have h:=jc (jd (w1.alloc (.cells #[.slice none 0 0] 70)) (.cells #[.int .i64 (t:Nat)] 3)) ((Below.refl _ _).alloc (Nat.le_refl _) (.cells #[.string s] 9));rw [World.size_alloc] at h;exact h
 · have h:=jd ((w1.alloc (.cells #[.slice none 0 0] 70)).alloc (.cells #[.int .i64 (t:Nat)] 3)) (.cells #[.string s] 9);rw [World.size_alloc,World.size_alloc] at h;exact ja (j:=0) h rfl
theorem jdu (ao:Option Addr) (len cap:Nat) (L:Nat→TypeV) (hlen:len≤1000000) (hcap:len≤cap) (t:Int) (s:ByteArray) (hs:s.size≤1000000) (w:World) (H:∀ i,i<len→TypeAt w ao i (L i)):
  Calls Tryz.prog 48 #[.slice ao len cap,.int .i64 t,.string s] w (FindTo (findA L len t s) w):=by
 have hmix:Tryz.prog.follows .mixedOrders=true:=by kernel_rfl
 obtain ⟨i0,hi,iz0,iz1,iz2⟩:=info_parts infoStep;have HHas:=lh (fun wx (hb:Below w.heap.size w wx)=>jfn ao len cap L t hlen hcap wx (hold H hb));have HF:=lh (fun wx=>je9 s hs wx);have HPC:=lh (fun wx=>jan s wx);have HB0:=lh (((((Below.refl w.heap.size w).alloc (Nat.le_refl _) (.cells #[.slice ao len cap] 22)).alloc (by simp) (.cells #[.slice none 0 0] 70)).alloc (by simp;omega) (.cells #[.int .i64 0] 3)).alloc (by simp;omega) (.cells #[.int .i64 0] 37));have HR0:=lh (jc (jc (jc (jd w (.cells #[.slice ao len cap] 22)) ((Below.refl _ _).alloc (Nat.le_refl _) (.cells #[.slice none 0 0] 70))) ((Below.refl _ _).alloc (Nat.le_refl _) (.cells #[.int .i64 0] 3))) ((Below.refl _ _).alloc (Nat.le_refl _) (.cells #[.int .i64 0] 37)));have HR1:=lh (jc (jc (jd (w.alloc (.cells #[.slice ao len cap] 22)) (.cells #[.slice none 0 0] 70)) ((Below.refl _ _).alloc (Nat.le_refl _) (.cells #[.int .i64 0] 3))) ((Below.refl _ _).alloc (Nat.le_refl _) (.cells #[.int .i64 0] 37)));have HR2:=lh (jc (jd ((w.alloc (.cells #[.slice ao len cap] 22)).alloc (.cells #[.slice none 0 0] 70)) (.cells #[.int .i64 0] 3)) ((Below.refl _ _).alloc (Nat.le_refl _) (.cells #[.int .i64 0] 37)));have HR3:=lh (jd (((w.alloc (.cells #[.slice ao len cap] 22)).alloc (.cells #[.slice none 0 0] 70)).alloc (.cells #[.int .i64 0] 3)) (.cells #[.int .i64 0] 37));rw [World.size_alloc] at HR1;rw [World.size_alloc,World.size_alloc] at HR2;rw [World.size_alloc,World.size_alloc,World.size_alloc] at HR3
 have hz4:((((w.alloc (.cells #[.slice ao len cap] 22)).alloc (.cells #[.slice none 0 0] 70)).alloc (.cells #[.int .i64 0] 3)).alloc (.cells #[.int .i64 0] 37)).heap.size=w.heap.size+4:=by simp
 have hfa:findA L len t s=if hasT L len t then (if formS s then findG L len (piecesS s 0) t.toNat [] else ⟨[],0,1⟩) else ⟨[],0,8⟩:=rfl;rw [show ((piecesS s 0).all (·.2)&&!(s.size==0))=formS s from rfl] at HF;have HH:=lh H;clear H
 cases hT:hasT L len t with
 |false=>
  rw [hT] at HHas hfa;rw [hfa];refine qd Tryz.func48 rfl ?_;simp only [Tryz.ntmps48,List.size_toArray,List.length_cons,List.length_nil,Nat.reduceAdd,Nat.reduceSub,Array.replicate_succ,Array.replicate_zero,List.push_toArray,List.append_toArray,List.nil_append,List.cons_append];go_wp2_with (go_at_call 87;refine (HHas.out _ HB0.out).mono ?_;rintro e w1 ⟨rfl,hb⟩;have q1:=jc HR1.out hb;have q2:=jc HR2.out hb;have q3:=jc HR3.out hb;have c1:=ja (j:=0) (v:=.slice none 0 0) q1 rfl;have c2:=ja (j:=0) (v:=.int .i64 0) q2 rfl;have c3:=ja (j:=0) (v:=.int .i64 0) q3 rfl;have f1:=jg (j:=0) q1;have f2:=jg (j:=0) q2;have f3:=jg (j:=0) q3);refine Xh (v:=.tuple #[.slice none 0 0,.int .i64 0,.int .i64 8]) ?_ ⟨_,rfl,World.ownsRow_nil _ _ _ _,?_⟩
  · simp [results,Tryz.results48,asAddr,go_sem,c1,c2,c3]
  · exact (((HB0.out.trans (hb.mono (by omega))).setCell (p:=⟨w.heap.size+1,0,none⟩) (by simp) _).setCell (p:=⟨w.heap.size+1+1,0,none⟩) (by simp;omega) _).setCell (p:=⟨w.heap.size+1+1+1,0,none⟩) (by simp;omega) _
 |true=>
  rw [hT] at HHas hfa;obtain ⟨k,rfl,hk,hok⟩:=Yc hT;have hv:=Z9 hok;rw [if_pos rfl,Int.toNat_natCast] at hfa
  cases hF:formS s with
  |false=>
   rw [hF] at HF hfa;rw [hfa];refine qd Tryz.func48 rfl ?_;simp only [Tryz.ntmps48,List.size_toArray,List.length_cons,List.length_nil,Nat.reduceAdd,Nat.reduceSub,Array.replicate_succ,Array.replicate_zero,List.push_toArray,List.append_toArray,List.nil_append,List.cons_append]
   go_wp2_with (first
    |(go_at_call 87;refine (HHas.out _ HB0.out).mono ?_;rintro e w1 ⟨rfl,hb⟩;have hb1:=HB0.out.trans (hb.mono (by omega));have q1:=jc HR1.out hb;have q2:=jc HR2.out hb;have q3:=jc HR3.out hb;clear hb)
    |(go_at_call 88;refine (HF.out _).mono ?_;rintro e w2 ⟨rfl,hb⟩;have hb2:=hb1.trans (hb.mono hb1.size);replace q1:=jc q1 hb;replace q2:=jc q2 hb;replace q3:=jc q3 hb;have c1:=ja (j:=0) (v:=.slice none 0 0) q1 rfl;have c2:=ja (j:=0) (v:=.int .i64 0) q2 rfl;have c3:=ja (j:=0) (v:=.int .i64 0) q3 rfl;have f1:=jg (j:=0) q1;have f2:=jg (j:=0) q2;have f3:=jg (j:=0) q3))
   refine Xh (v:=.tuple #[.slice none 0 0,.int .i64 0,.int .i64 1]) ?_ ⟨_,rfl,World.ownsRow_nil _ _ _ _,?_⟩
   · simp [results,Tryz.results48,asAddr,go_sem,c1,c2,c3]
   · exact ((hb2.setCell (p:=⟨w.heap.size+1,0,none⟩) (by simp) _).setCell (p:=⟨w.heap.size+1+1,0,none⟩) (by simp;omega) _).setCell (p:=⟨w.heap.size+1+1+1,0,none⟩) (by simp;omega) _
  |true=>
   rw [hF] at HF hfa;rw [if_pos rfl] at hfa;rw [hfa];clear hfa;refine qd Tryz.func48 rfl ?_;simp only [Tryz.ntmps48,List.size_toArray,List.length_cons,List.length_nil,Nat.reduceAdd,Nat.reduceSub,Array.replicate_succ,Array.replicate_zero,List.push_toArray,List.append_toArray,List.nil_append,List.cons_append]
   go_wp2_with (first
    |(go_at_call 87;refine (HHas.out _ HB0.out).mono ?_;rintro e w1 ⟨rfl,hb⟩;have hb1:=HB0.out.trans (hb.mono (by omega));have hz1:=hb.size;rw [hz4] at hz1;have q0:=jc HR0.out hb;have q1:=jc HR1.out hb;have q2:=jc HR2.out hb;have q3:=jc HR3.out hb;clear hb)
    |(go_at_call 88;refine (HF.out _).mono ?_;rintro e w2 ⟨rfl,hb⟩;have hb2:=hb1.trans (hb.mono hb1.size);have hz2':=hb.size;replace q0:=jc q0 hb;replace q1:=jc q1 hb;replace q2:=jc q2 hb;replace q3:=jc q3 hb;clear hb)
    |(go_at_call 89;refine (HPC.out _).mono ?_;rintro e w3 ⟨rfl,rfl⟩))
   obtain ⟨W0,hW0,hz0',hb0,hp0,ht0,hs0⟩:=jk7 w2 k s;rw [hW0];have g0:=jc q0 hb0;have g1:=jc q1 hb0;have g2:=jc q2 hb0;have g3:=jc q3 hb0;have hbw:Below w.heap.size w W0:=hb2.trans (hb0.mono (by omega));clear hW0 q0 q1 q2 q3;have HSO:=lh (fun u (hu:u<len) x wx (hb:Below w.heap.size w wx)=>jgn ao len cap L hlen u hu x wx (hold HH.out hb));have HHO:=lh (fun wx (hb:Below w.heap.size w wx)=>hold HH.out hb)
   refine ja6 (gf:=124) (w0:=W0) rfl (enters_of Tryz.func124 (by kernel_rfl) rfl)
    (Zd w.heap.size (w2.heap.size+2) s hs W0 (by omega) hs0)
    (fun h k=>h.trans k) (KpM.putObj (by omega) (by omega)) (Below.refl _ _) (fun _=>rfl)
    (fun pre W=>(∃ (u:Nat) (st:List StepV) (v:Value),u<len∧st.length=pre.length∧W.heap[w2.heap.size+1]?=some (.cells #[.int .i64 (u:Nat)] 3)∧W.heap[w2.heap.size]?=some (.cells #[v] 70)∧
      W.ownsRow (w2.heap.size+3) 113 2 v st.length (flatS st)∧∀ r,findG L len (pre++r) k []=findG L len r u st)∧W.heap[w.heap.size]?=some (.cells #[.slice ao len cap] 22)∧
     W.heap[w.heap.size+1]?=some (.cells #[.slice none 0 0] 70)∧W.heap[w.heap.size+1+1]?=some (.cells #[.int .i64 0] 3)∧W.heap[w.heap.size+1+1+1]?=some (.cells #[.int .i64 0] 37)∧Below w.heap.size w W∧w2.heap.size+3≤W.heap.size)
    (fun pre W=>∃ ee,(∀ r,findG L len (pre++r) k []=⟨[],0,ee⟩)∧W.heap[w.heap.size+1]?=some (.cells #[.slice none 0 0] 70)∧W.heap[w.heap.size+1+1]?=some (.cells #[.int .i64 0] 3)∧W.heap[w.heap.size+1+1+1]?=some (.cells #[.int .i64 ee] 37)∧Below w.heap.size w W)
    (fun pre X Y ⟨⟨u,st,v,h0,h00,h1,h2,h3,h4⟩,h5,h6,h7,h8,h9,h10⟩ hst=>⟨⟨u,st,v,h0,h00,hst.same _ _ h1 (.inl rfl),hst.same _ _ h2 (.inl rfl),jn0 h3 hst,h4⟩,hst.same _ _ h5 (.inl rfl),hst.same _ _ h6 (.inl rfl),hst.same _ _ h7 (.inl rfl),hst.same _ _ h8 (.inl rfl),hst.below h9 (Nat.le_refl _) (by omega),Nat.le_trans h10 hst.size⟩)
    (fun pre X Y ⟨ee,h4,h6,h7,h8,h9⟩ hst=>⟨ee,h4,hst.same _ _ h6 (.inl rfl),hst.same _ _ h7 (.inl rfl),hst.same _ _ h8 (.inl rfl),hst.below h9 (Nat.le_refl _) (by omega)⟩)
    ⟨⟨k,[],_,hk,rfl,ht0,hp0,World.ownsRow_nil _ _ _ _,fun r=>rfl⟩,g0,g1,g2,g3,hbw,by omega⟩ ?round ?done ?stop
   case round=>
    rintro l ⟨⟨be,nn,nm⟩,ok⟩ W K ⟨pre,-,-,-,-,-,hBW,hSW⟩ hK;simp only [pieceV]
    gi_wp2
    refine hK _ _ ((KeepsOthers.alloc _ _).from _) (KpM.of_below ((Below.refl _ _).alloc (Nat.le_refl _) _) (by omega) (by omega)) (Stays.alloc _ _) ?_;have hx0:=jd W (.cells #[.bool be,.int .i64 nn,.string nm] 142);clear hBW;rintro l2 pre2 W2 hst ⟨⟨u,st,v,hu,hsl,h1,h2,h3,h4⟩,h5,h6,h7,h8,h9,h10⟩ hl;have hx1:=hst.same _ _ hx0 (.inl rfl);have c0:=ja (j:=0) (v:=.slice ao len cap) h5 rfl;have c1:=ja (j:=0) (v:=.slice none 0 0) h6 rfl;have c2:=ja (j:=0) (v:=.int .i64 0) h7 rfl;have c3:=ja (j:=0) (v:=.int .i64 0) h8 rfl;have c4:=ja (j:=0) (v:=.int .i64 (u:Nat)) h1 rfl;have c5:=ja (j:=0) (v:=v) h2 rfl;have s0:=ja (j:=0) (v:=.bool be) hx1 rfl;have s1:=ja (j:=1) (v:=.int .i64 nn) hx1 rfl;have s2:=ja (j:=2) (v:=.string nm) hx1 rfl;have hC:=HSO.out u hu ⟨be,nn,nm⟩ W2 h9
    have hfg:∀ r,findG L len ((pre2++[((⟨be,nn,nm⟩:PieceV),ok)])++r) k []=if pstE L len u ⟨be,nn,nm⟩=0 then findG L len r (nextN L u (pstS L len u ⟨be,nn,nm⟩)) (st++[pstS L len u ⟨be,nn,nm⟩]) else ⟨[],0,pstE L len u ⟨be,nn,nm⟩⟩:=fun r=>by
     rw [List.append_assoc,h4];rfl
    obtain ⟨ee,hee⟩:∃ ee,pstE L len u ⟨be,nn,nm⟩=ee:=⟨_,rfl⟩;obtain ⟨sv,hsv⟩:∃ sv,pstS L len u ⟨be,nn,nm⟩=sv:=⟨_,rfl⟩;rw [hee,hsv] at hC hfg;unfold pieceV stepVal at hC;have HC:=lh hC;have HFG:=lh hfg;clear hC hfg h4 hee hsv HSO
    by_cases he0:ee=0
    · subst he0;have k9:((0:Int) !=0)=false:=rfl
      have hpl:st.length≤1000000:=by omega
      have HSL:=lh hsl;clear hsl
      have hmx:(1000001:Nat)≤maxLen:=by decide
      gi_wp2_with (first
       |(gi_at_builtin;refine Hid.out ?_)
       |(refine ⟨trivial,?_⟩;gi_at_call 90;refine (inRnd HC.out).mono ?_;rintro e w4 ⟨rfl,hb4⟩;have hb5:=hb4.alloc hb4.size (.cells #[.bool sv.elem,.int .i64 sv.n] 113);have hz5:=hb4.size;have hr4:=ki h3 hb4;have p2:=jc h2 hb4;have d5:=ja (j:=0) (v:=v) p2 rfl;have n1:w2.heap.size<w4.heap.size:=(by omega);have m1:¬w2.heap.size=w4.heap.size:=(by omega)))
      refine lh ?_;have hb6:=hb5.alloc hb5.size (.cells #[.bool sv.elem,.int .i64 sv.n] 113);refine wpListIn_append_own _ rfl _ _ 70 rfl (w2.heap.size+3) 113 i0 (.agg #[.bool false,.int .i64 0]) 2 16 Tryz.underlying70 hi iz0 iz1 iz2 rfl (by decide) v st.length (flatS st) rfl ((hr4.alloc _).alloc _) ⟨w4.heap.size+1,0,none⟩ 1 1 [.bool sv.elem,.int .i64 sv.n] rfl rfl (zw _ _ _ _ _ (by simp)) (by simp [Value.oneCell']) (by omega) (by omega) (by simp;omega) ?_;intro v' w6 hown' hgrow hnil';obtain ⟨g',cap',rfl⟩:=ownsRow_succ hown';have hrt:=(hr4.alloc (.cells #[.bool sv.elem,.int .i64 sv.n] 113)).alloc (.cells #[.bool sv.elem,.int .i64 sv.n] 113);have a1:=Xq hrt hgrow (jc h1 hb6) (by omega);have a2:=Xq hrt hgrow (jc h2 hb6) (by omega);have a5:=Xq hrt hgrow (jc h5 hb6) (by omega);have a6:=Xq hrt hgrow (jc h6 hb6) (by omega);have a7:=Xq hrt hgrow (jc h7 hb6) (by omega);have a8:=Xq hrt hgrow (jc h8 hb6) (by omega)
      have aS:w6.heap[w4.heap.size]?=some (.cells #[.bool sv.elem,.int .i64 sv.n] 113):=
       (hgrow.block _ (by simp;omega) (fun e=>by have:=(hr4.lt _ e.symm).2;omega)).trans (jc (jd w4 _) ((Below.refl _ _).alloc (Nat.le_refl _) _))
      have hkf:KeepsFrom W0.heap.size W2 w6:=(KeepsFrom.of_below hb6).trans (jn9 hrt hgrow);have hkm:KpM w.heap.size (w2.heap.size+2) (w2.heap.size+3) W2 w6:=(KpM.of_below hb6 (by omega) (by omega)).trans (jsp hrt hgrow (by omega) (by omega) (by simp;omega) (by simp;omega));have hbw6:Below w.heap.size w w6:=h9.trans hkm.below;have hz6:=hbw6.size
      have hz66:w2.heap.size+3≤w6.heap.size:=by have:=hgrow.size;simp at this;omega
      have e2:=ja (j:=0) (v:=v) a2 rfl;have k2:=jg (j:=0) a2;clear hgrow hrt hr4 hb4 hb5 hb6 p2 d5 h1 h2 h5 h6 h7 h8 c0 c1 c2 c3 c4 c5 s0 s1 s2 hx1 hx0 hst
      gi_wp2
      obtain ⟨W7,hW7⟩:∃ W7,w6.setCell ⟨w2.heap.size,0,none⟩ (.slice (some ⟨g',0,none⟩) (st.length+1) cap')=W7:=⟨_,rfl⟩;rw [hW7]
      have b1:W7.heap[w2.heap.size+1]?=some (.cells #[.int .i64 (u:Nat)] 3):=by rw [←hW7];exact jr a1 (by omega)
      have b2:W7.heap[w2.heap.size]?=some (.cells #[.slice (some ⟨g',0,none⟩) (st.length+1) cap'] 70):=by rw [←hW7];exact jn (j:=0) (u:=.slice (some ⟨g',0,none⟩) (st.length+1) cap') a2
      have b5:W7.heap[w.heap.size]?=some (.cells #[.slice ao len cap] 22):=by rw [←hW7];exact jr a5 (by omega)
      have b6:W7.heap[w.heap.size+1]?=some (.cells #[.slice none 0 0] 70):=by rw [←hW7];exact jr a6 (by omega)
      have b7:W7.heap[w.heap.size+1+1]?=some (.cells #[.int .i64 0] 3):=by rw [←hW7];exact jr a7 (by omega)
      have b8:W7.heap[w.heap.size+1+1+1]?=some (.cells #[.int .i64 0] 37):=by rw [←hW7];exact jr a8 (by omega)
      have bS:W7.heap[w4.heap.size]?=some (.cells #[.bool sv.elem,.int .i64 sv.n] 113):=by rw [←hW7];exact jr aS (by omega)
      have hown7:W7.ownsRow (w2.heap.size+3) 113 2 (.slice (some ⟨g',0,none⟩) (st.length+1) cap') (st.length+1) (flatS st++[.bool sv.elem,.int .i64 sv.n]):=by rw [←hW7];exact ja2 hown' (by omega)
      have hkf7:KeepsFrom W0.heap.size W2 W7:=by rw [←hW7];exact hkf.trans ((KeepsOthers.setCell _ _ _).from _)
      have hkm7:KpM w.heap.size (w2.heap.size+2) (w2.heap.size+3) W2 W7:=by rw [←hW7];exact hkm.trans (KpM.setCell _ _ (by omega) (by omega))
      have hbw7:Below w.heap.size w W7:=h9.trans hkm7.below
      have hz7:w2.heap.size+3≤W7.heap.size:=by rw [←hW7];simp;omega
      clear hW7 hkf hkm hbw6 hown' a1 a2 a5 a6 a7 a8 aS e2 k2 hz6 hz66;have c0:=ja (j:=0) (v:=.slice ao len cap) b5 rfl;have c4:=ja (j:=0) (v:=.int .i64 (u:Nat)) b1 rfl;have s0:=ja (j:=0) (v:=.bool sv.elem) bS rfl;have s1:=ja (j:=1) (v:=.int .i64 sv.n) bS rfl;obtain ⟨tb,tf,rfl,x0,x1,x2,x3,x4,x5,wf,hit⟩:=HHO.out _ hbw7 u hu;have HN:=lh (Z8 (L u) sv W7.drew (hit.held ((Below.refl _ _).drew)));obtain ⟨hp0,hp1⟩:=yq (s:=sv) hv hu
      have hp2:nextZ (L u) sv=((nextN L u sv:Nat):Int):=by unfold nextN;omega
      rw [hp2] at HN;obtain ⟨u2,hu2⟩:∃ u2,nextN L u sv=u2:=⟨_,rfl⟩;rw [hu2] at HN HFG hp1;unfold typV stepVal at HN;clear bS hp2 hu2 hp0
      gi_region_with_o (refine ⟨trivial,?_⟩;gi_at_call 91;refine (inRnd HN.out).mono ?_;rintro e w8 ⟨rfl,hb8⟩;have e1:=jc (w:=W7.drew) b1 hb8;have e3:=ja (j:=0) (v:=.int .i64 (u:Nat)) e1 rfl;have e4:=jg (j:=0) e1)
      all_goals
       have hb9:Below W7.heap.size W7 w8:=((Below.refl _ W7).drew).trans hb8;have hz9:=hb9.size
       gi_wp2
       exact ⟨(by first|exact (hkf7.trans (KeepsFrom.of_below hb9)).trans ((KeepsOthers.setCell _ _ _).from _)|(rw [←hz0'];exact (hkf7.trans (KeepsFrom.of_below hb9)).trans ((KeepsOthers.setCell _ _ _).from _))),
        (hkm7.trans (KpM.of_below hb9 (by omega) (by omega))).trans (KpM.setCell _ _ (by omega) (by omega)),
        ⟨u2,st++[sv],.slice (some ⟨g',0,none⟩) (st.length+1) cap',hp1,by have:=HSL.out;simp;omega,jn (j:=0) (u:=.int .i64 (u2:Nat)) e1,jr (jc b2 hb9) (by omega),
         by rw [Xd];simpa using ja2 (ki hown7 hb9) (by omega),fun r=>by have:=HFG.out r;simpa using this⟩,
        jr (jc b5 hb9) (by omega),jr (jc b6 hb9) (by omega),jr (jc b7 hb9) (by omega),jr (jc b8 hb9) (by omega),
        (hbw7.trans (hb9.mono (by omega))).setCell (p:=⟨w2.heap.size+1,0,none⟩) (by simp;omega) _,by simp;omega⟩
    · have k9:(ee !=0)=true:=by simpa using he0
      gi_wp2_with (refine ⟨trivial,?_⟩;gi_at_call 90;refine (inRnd HC.out).mono ?_;rintro e w4 ⟨rfl,hb4⟩;have p6:=jc h6 hb4;have p7:=jc h7 hb4;have p8:=jc h8 hb4;have hb5:=hb4.alloc hb4.size (.cells #[.bool sv.elem,.int .i64 sv.n] 113);have hz5:=hb4.size;have d1:=ja (j:=0) (v:=.slice none 0 0) p6 rfl;have d2:=ja (j:=0) (v:=.int .i64 0) p7 rfl;have d3:=ja (j:=0) (v:=.int .i64 0) p8 rfl;have k1:=jg (j:=0) p6;have k2:=jg (j:=0) p7;have k3:=jg (j:=0) p8;have n1:w.heap.size+1<w4.heap.size:=(by omega);have n2:w.heap.size+1+1<w4.heap.size:=(by omega);have n3:w.heap.size+1+1+1<w4.heap.size:=(by omega);have m1:¬w.heap.size+1=w4.heap.size:=(by omega);have m2:¬w.heap.size+1+1=w4.heap.size:=(by omega);have m3:¬w.heap.size+1+1+1=w4.heap.size:=(by omega))
      have hb9:Below w.heap.size w w4:=h9.trans (hb4.mono (by omega));have hz9:=hb9.size
      exact ⟨((((KeepsFrom.of_below hb4).trans ((KeepsOthers.setCell _ _ _).from _)).trans ((KeepsOthers.setCell _ _ _).from _)).trans ((KeepsOthers.setCell _ _ _).from _)).trans ((KeepsOthers.alloc _ _).from _),rfl,ee,
       fun r=>by have:=HFG.out r;rw [if_neg he0] at this;exact this,
       jc (jr (jr (jn (j:=0) (u:=.slice none 0 0) p6) (by omega)) (by omega)) ((Below.refl _ _).alloc (Nat.le_refl _) _),
       jc (jr (jn (j:=0) (u:=.int .i64 0) (jr p7 (by omega))) (by omega)) ((Below.refl _ _).alloc (Nat.le_refl _) _),
       jc (jn (j:=0) (u:=.int .i64 ee) (jr (jr p8 (by omega)) (by omega))) ((Below.refl _ _).alloc (Nat.le_refl _) _),
       (((hb9.setCell (p:=⟨w.heap.size+1,0,none⟩) (by simp) _).setCell (p:=⟨w.heap.size+1+1,0,none⟩) (by simp;omega) _).setCell (p:=⟨w.heap.size+1+1+1,0,none⟩) (by simp;omega) _).alloc (by simp;omega) _⟩
   case done=>
    rintro D xs W hD rfl ⟨⟨u,st,v,hu,hsl,h1,h2,h3,h4⟩,h5,h6,h7,h8,h9,h10⟩ hdk;have c1:=ja (j:=0) (v:=.slice none 0 0) h6 rfl;have c2:=ja (j:=0) (v:=.int .i64 0) h7 rfl;have c3:=ja (j:=0) (v:=.int .i64 0) h8 rfl;have c4:=ja (j:=0) (v:=.int .i64 (u:Nat)) h1 rfl;have f1:=jg (j:=0) h6;have f2:=jg (j:=0) h7;have f3:=jg (j:=0) h8
    have he:findG L len (piecesS s 0) k []=⟨st,u,0⟩:=by
     have:=h4 []
     rw [List.append_nil] at this;exact this
    have HE:=lh he;clear he h4 hsl
    obtain ⟨ia,cp,n,rfl,hnn⟩:∃ ia cp n,v=.slice ia n cp∧n=st.length:=by
     rcases h3.2 with ⟨rfl,h0⟩|⟨g,cap,cur,rfl,_⟩
     · exact ⟨none,0,0,rfl,h0.symm⟩
     · exact ⟨_,_,_,rfl,rfl⟩
    have HNN:=lh hnn;clear hnn;have c5:=ja (j:=0) (v:=.slice ia n cp) h2 rfl;have H6:=lh h6;have H7:=lh h7;have H8:=lh h8;have H3:=lh h3;clear h6 h7 h8 h3 h5 h1 h2;go_wp2
    go_region
    all_goals
     go_wp2;have z6:=jr (j:=0) (v:=.int .i64 0) (b':=w.heap.size+1+1+1) (jr (j:=0) (v:=.int .i64 (u:Nat)) (b':=w.heap.size+1+1) (jn (j:=0) (u:=.slice ia n cp) H6.out) (by omega)) (by omega);have z7:=jr (j:=0) (v:=.int .i64 0) (b':=w.heap.size+1+1+1) (jn (j:=0) (u:=.int .i64 (u:Nat)) (jr (j:=0) (v:=.slice ia n cp) (b':=w.heap.size+1) H7.out (by omega))) (by omega);have z8:=jn (j:=0) (u:=.int .i64 0) (jr (j:=0) (v:=.int .i64 (u:Nat)) (b':=w.heap.size+1+1) (jr (j:=0) (v:=.slice ia n cp) (b':=w.heap.size+1) H8.out (by omega)) (by omega));have zD:=qj (b:=w.heap.size+1+1+1) (v:=.int .i64 0) (qj (b:=w.heap.size+1+1) (v:=.int .i64 (u:Nat)) (qj (b:=w.heap.size+1) (v:=.slice ia n cp) hdk (by omega)) (by omega)) (by omega);have zB:=(((h9.setCell (p:=⟨w.heap.size+1,0,none⟩) (by simp) (.slice ia n cp)).setCell (p:=⟨w.heap.size+1+1,0,none⟩) (by simp;omega) (.int .i64 (u:Nat))).setCell (p:=⟨w.heap.size+1+1+1,0,none⟩) (by simp;omega) (.int .i64 0)).drew;have zO:=ja2 (b:=w.heap.size+1+1+1) (u:=.int .i64 0) (ja2 (b:=w.heap.size+1+1) (u:=.int .i64 (u:Nat)) (ja2 (b:=w.heap.size+1) (u:=.slice ia n cp) H3.out (by omega)) (by omega)) (by omega);obtain ⟨Z,hZ⟩:∃ Z,(((W.setCell ⟨w.heap.size+1,0,none⟩ (.slice ia n cp)).setCell ⟨w.heap.size+1+1,0,none⟩ (.int .i64 (u:Nat))).setCell ⟨w.heap.size+1+1+1,0,none⟩ (.int .i64 0)).drew=Z:=⟨_,rfl⟩;rw [hZ] at zB ⊢
     have y6:Z.heap[w.heap.size+1]?=some (.cells #[.slice ia n cp] 70):=by rw [←hZ];exact z6
     have y7:Z.heap[w.heap.size+1+1]?=some (.cells #[.int .i64 (u:Nat)] 3):=by rw [←hZ];exact z7
     have y8:Z.heap[w.heap.size+1+1+1]?=some (.cells #[.int .i64 0] 37):=by rw [←hZ];exact z8
     have yD:Z.heap[D]?=some (.deferred (some [])):=by rw [←hZ];exact zD
     have yO:Z.ownsRow (w2.heap.size+3) 113 2 (.slice ia n cp) st.length (flatS st):=by rw [←hZ];exact zO
     clear z6 z7 z8 zD zO hZ;refine qp (D:=D) yD ⟨.tuple #[.slice ia n cp,.int .i64 (u:Nat),.int .i64 0],?_,by rw [HE.out];exact ⟨_,rfl,ownsRow_putObj (jjg yO (by omega)) _ yD rfl,yc yD zB (by omega)⟩⟩;have d1:=qn yD (ja (j:=0) (v:=.slice ia n cp) y6 rfl);have d2:=qn yD (ja (j:=0) (v:=.int .i64 (u:Nat)) y7 rfl);have d3:=qn yD (ja (j:=0) (v:=.int .i64 0) y8 rfl);simp [results,Tryz.results48,asAddr,go_sem,d1,d2,d3]
   case stop=>
    rintro D pre W hD ⟨r,hr⟩ ⟨ee,h4,h6,h7,h8,h9⟩ hdk
    have he:findG L len (piecesS s 0) k []=⟨[],0,ee⟩:=by rw [hr];exact h4 r
    refine qp (D:=D) hdk ⟨.tuple #[.slice none 0 0,.int .i64 0,.int .i64 ee],?_,by rw [he];exact ⟨_,rfl,World.ownsRow_nil _ _ _ _,yc hdk h9 (by omega)⟩⟩;have c1:=qn hdk (ja (j:=0) (v:=.slice none 0 0) h6 rfl);have c2:=qn hdk (ja (j:=0) (v:=.int .i64 0) h7 rfl);have c3:=qn hdk (ja (j:=0) (v:=.int .i64 ee) h8 rfl);simp [results,Tryz.results48,asAddr,go_sem,c1,c2,c3]
end Go.Proofs.YthcompcjphaahaaGreatDoor.Pa
