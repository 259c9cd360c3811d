/- Where, among a value's Items, what is at a step stands. -/
import Derived.Test.YthcompcjphaahaaGreatDoorh28
import Derived.Test.YthcompcjphaahaaGreatDoorh34
set_option maxRecDepth 100000
set_option maxHeartbeats 8000000
set_option linter.unusedVariables false
namespace Go.Proofs.YthcompcjphaahaaGreatDoor.Pa
open Go Go.RowKit
def plcO (L:Nat→TypeV) (len t:Nat) (s:StepV) (V:VT):Option Nat:=
 if (L t).kind=14 then (if branchL L len (t:Nat) V.num=s.n∧0<V.len then some 0 else none)
 else (if s.n<(V.len:Int) then some s.n.toNat else none)
def PlaceTo (o:Option Nat) (w:World) (e:Ending) (w':World):Prop:=
 ∃ i:Int,e=.returned (.tuple #[.int .i64 i,.bool o.isSome])∧(∀ m:Nat,o=some m→i=m)∧Below w.heap.size w w'
theorem jrv {z:Int} {j:Nat}:(okZ z&&(posZ z==(j:Int)))=decide (z=(j:Int)):=by
 unfold okZ posZ
 by_cases h:z<0
 · rw [decide_eq_false (show ¬0≤z by omega),decide_eq_false (show ¬z=(j:Int) by omega)]
   rfl
 · rw [if_neg h,decide_eq_true (show 0≤z by omega),Bool.true_and]
   rfl
theorem jit (ao:Option Addr) (len cap:Nat) (L:Nat→TypeV) (hlen:len≤1000000) (t:Nat) (ht:t<len) (be:Bool) (j:Nat) (T:VT) (w:World) (H:∀ i,i<len→TypeAt w ao i (L i)):
  Calls Tryz.prog 94 #[.slice ao len cap,.int .i64 (t:Nat),.agg #[.bool be,.int .i64 (j:Nat)],.agg #[.int .i64 T.kind,.int .u64 T.num,.string T.text,.slice T.ia T.len T.cap]] w (PlaceTo (plcO L len t ⟨be,(j:Nat)⟩ T) w):=by
 obtain ⟨tb,tf,rfl,x0,x1,x2,x3,x4,x5,wf,hit⟩:=H t ht;have hbl:tb<w.heap.size:=World.block_lt_of_cell? w _ x0
 have hne:¬tb=w.heap.size:=by omega
 have hne1:¬tb=w.heap.size+1:=by omega
 have HBR:=lh (fun wx (hb:Below w.heap.size w wx)=>jb7 (some ⟨tb,tf,none⟩) len cap L (t:Nat) T.num (by omega) wx (hold H hb));obtain ⟨z,hz⟩:∃ z,branchL L len (t:Nat) T.num=z:=⟨_,rfl⟩;obtain ⟨K,hK⟩:∃ K,(L t).kind=K:=⟨_,rfl⟩
 have hpl:plcO L len t ⟨be,(j:Nat)⟩ T=if K=14 then (if z=(j:Int)∧0<T.len then some 0 else none) else (if (j:Int)<(T.len:Int) then some j else none):=by
  unfold plcO;rw [hK,hz];simp
 have hfe:=jrv (z:=z) (j:=j);rw [hz] at HBR;unfold foundV at HBR;rw [hK] at x0;have HB0:=lh (((Below.refl w.heap.size w).alloc (Nat.le_refl _) (.cells #[.bool be,.int .i64 (j:Nat)] 113)).alloc (by simp) (.cells #[.int .i64 T.kind,.int .u64 T.num,.string T.text,.slice T.ia T.len T.cap] 30));have HS0:=lh (show ((w.alloc (.cells #[.bool be,.int .i64 (j:Nat)] 113)).alloc (.cells #[.int .i64 T.kind,.int .u64 T.num,.string T.text,.slice T.ia T.len T.cap] 30)).heap[w.heap.size]?=some (.cells #[.bool be,.int .i64 (j:Nat)] 113) from je (jd w _));have HV0:=lh (show ((w.alloc (.cells #[.bool be,.int .i64 (j:Nat)] 113)).alloc (.cells #[.int .i64 T.kind,.int .u64 T.num,.string T.text,.slice T.ia T.len T.cap] 30)).heap[w.heap.size+1]?=some (.cells #[.int .i64 T.kind,.int .u64 T.num,.string T.text,.slice T.ia T.len T.cap] 30) by have:=jd (w.alloc (.cells #[.bool be,.int .i64 (j:Nat)] 113)) (.cells #[.int .i64 T.kind,.int .u64 T.num,.string T.text,.slice T.ia T.len T.cap] 30);rwa [show (w.alloc (.cells #[.bool be,.int .i64 (j:Nat)] 113)).heap.size=w.heap.size+1 by simp] at this);obtain ⟨o,ho⟩:∃ o,plcO L len t ⟨be,(j:Nat)⟩ T=o:=⟨_,rfl⟩;rw [ho];rw [ho] at hpl;clear ho hz hK H hit wf x1 x2 x3 x4 x5
 by_cases hk:K=14
 · rw [if_pos hk] at hpl
   have kk:(K==14)=true:=by simpa using hk
   obtain ⟨qo,hqo⟩:∃ q,okZ z=q:=⟨_,rfl⟩;obtain ⟨zp,hzp⟩:∃ p,posZ z=p:=⟨_,rfl⟩;rw [hqo,hzp] at hfe HBR
   by_cases hzj:z=(j:Int)
   · rw [decide_eq_true hzj] at hfe;simp only [Bool.and_eq_true,beq_iff_eq] at hfe;obtain ⟨rfl,rfl⟩:=hfe;clear hqo hzp
     have kne:((j:Int) !=(j:Int))=false:=by simp
     obtain ⟨ql,hql⟩:∃ q,decide ((0:Int)<(T.len:Int))=q:=⟨_,rfl⟩
     have HO:=lh (show (o.isSome=ql)∧∀ m:Nat,o=some m→(0:Int)=m by
      rw [←hql]
      by_cases h:0<T.len
      · rw [if_pos ⟨hzj,h⟩] at hpl;rw [hpl,decide_eq_true (by omega:(0:Int)<(T.len:Int))];exact ⟨rfl,fun m hm=>by injection hm with hm;rw [←hm];rfl⟩
      · rw [if_neg (fun c=>h c.2)] at hpl;rw [hpl,decide_eq_false (by omega:¬(0:Int)<(T.len:Int))]
        exact ⟨rfl,fun m hm=>by cases hm⟩)
     have hqn:decide (0<T.len)=ql:=by rw [←hql];simp
     clear hzj hk hpl hql;go_enter Tryz.func94,Tryz.ntmps94;go_wp2_with (go_at_call 130;refine (HBR.out _ HB0.out).mono ?_;rintro e w1 ⟨rfl,hb1⟩;have hs1:=jw HS0.out hb1;have hv1:=jw HV0.out hb1;have s1:w1.cell? ⟨w.heap.size,1,none⟩=some (.int .i64 (j:Nat)):=ja (j:=1) hs1 rfl;have v3:w1.cell? ⟨w.heap.size+1,3,none⟩=some (.slice T.ia T.len T.cap):=ja (j:=3) hv1 rfl;have HB1:=lh (HB0.out.trans (hb1.mono (by simp;omega)));clear hs1 hv1 hb1)
     go_quiet (fail)
     go_wp2
     go_ret2
     exact ⟨0,by rw [HO.out.1];rfl,HO.out.2,jf HB1.out _⟩
   · rw [decide_eq_false hzj] at hfe;have HO:=lh (show o=none by rw [hpl,if_neg (fun h=>hzj h.1)])
     cases qo with
     |false=>
      clear hqo hzp hzj hk hfe hpl;go_enter Tryz.func94,Tryz.ntmps94;go_wp2_with (go_at_call 130;refine (HBR.out _ HB0.out).mono ?_;rintro e w1 ⟨rfl,hb1⟩;have hs1:=jw HS0.out hb1;have s1:w1.cell? ⟨w.heap.size,1,none⟩=some (.int .i64 (j:Nat)):=ja (j:=1) hs1 rfl;have HB1:=lh (HB0.out.trans (hb1.mono (by simp;omega)));clear hs1 hb1)
      go_ret2
      exact ⟨0,by rw [HO.out];rfl,fun m h=>(by rw [HO.out] at h;cases h),HB1.out⟩
     |true=>
      have kne:(zp !=(j:Int))=true:=by simpa using hfe
      clear hqo hzp hzj hk hfe hpl;go_enter Tryz.func94,Tryz.ntmps94;go_wp2_with (go_at_call 130;refine (HBR.out _ HB0.out).mono ?_;rintro e w1 ⟨rfl,hb1⟩;have hs1:=jw HS0.out hb1;have s1:w1.cell? ⟨w.heap.size,1,none⟩=some (.int .i64 (j:Nat)):=ja (j:=1) hs1 rfl;have HB1:=lh (HB0.out.trans (hb1.mono (by simp;omega)));clear hs1 hb1)
      go_ret2
      exact ⟨0,by rw [HO.out];rfl,fun m h=>(by rw [HO.out] at h;cases h),HB1.out⟩
 · rw [if_neg hk] at hpl
   have kk:(K==14)=false:=by simpa using hk
   obtain ⟨ql,hql⟩:∃ q,decide ((j:Int)<(T.len:Int))=q:=⟨_,rfl⟩
   have HO:=lh (show (o.isSome=ql)∧∀ m:Nat,o=some m→(j:Int)=m by
    rw [←hql,hpl]
    by_cases h:(j:Int)<(T.len:Int)
    · rw [if_pos h,decide_eq_true h];exact ⟨rfl,fun m hm=>by injection hm with hm;rw [hm]⟩
    · rw [if_neg h,decide_eq_false h]
      exact ⟨rfl,fun m hm=>by cases hm⟩)
   have hqn:decide (j<T.len)=ql:=by rw [←hql];simp
   clear hk hfe HBR hpl hql;go_enter Tryz.func94,Tryz.ntmps94;go_wp2
   go_quiet (fail)
   go_wp2
   go_ret2
   exact ⟨j,by rw [HO.out.1];rfl,HO.out.2,jf HB0.out _⟩
end Go.Proofs.YthcompcjphaahaaGreatDoor.Pa
namespace Go.Proofs.YthcompcjphaahaaGreatDoor.Pa
open Go Go.RowKit Go.Shelf
attribute [local go_sem] Oper.semAt_some
def atG (L:Nat→TypeV) (len:Nat):List (Nat × StepV)→VT→Option VT
 | [],V=>some V
 |x::r,V=>match plcO L len x.1 x.2 V with
  |some i=>atG L len r (V.kid i)
  |none=>none
def atA (L:Nat→TypeV) (len:Nat) (t:Int) (ps:List StepV) (V:VT):Option VT:=
 if (endA L len t ps).isSome then atG L len (alongL L t.toNat ps) V else none
theorem jc8 (L:Nat→TypeV) (len:Nat) (x:Nat × StepV) (r:List (Nat × StepV)) (V:VT):atG L len (x::r) V=(plcO L len x.1 x.2 V).elim none (fun i=>atG L len r (V.kid i)):=by
 simp only [atG]
 cases plcO L len x.1 x.2 V <;> rfl
theorem jkp {L:Nat→TypeV} {len t m:Nat} {s:StepV} {V:VT} (h:plcO L len t s V=some m) (hn:0≤s.n):m<V.len:=by
 unfold plcO at h
 split at h
 · split at h
   · rename_i h2
     injection h with h
     omega
   · cases h
 · split at h
   · injection h with h
     omega
   · cases h
def PAtTo (o:Option VT) (N:Nat) (w:World) (e:Ending) (w':World):Prop:=
 ∃ (U:VT) (b:Bool),e=.returned (.tuple #[.agg #[.int .i64 U.kind,.int .u64 U.num,.string U.text,.slice U.ia U.len U.cap],.bool b])∧((∃ V,o=some V∧b=true∧sameT V U=true)∨(o=none∧b=false∧U=.nil))∧ValAt w' (fun c=>N≤c) U∧Below N w w'
theorem jju (w1:World) (ao:Option Addr) (len cap:Nat) (t:Int) (pa:Option Addr) (n pc:Nat):
  ∃ W0,((w1.alloc (.cells #[.slice ao len cap] 22)).alloc (.cells #[.int .i64 t] 3)).alloc (.cells #[.slice pa n pc] 70)=W0∧W0.heap.size=w1.heap.size+3∧Below w1.heap.size w1 W0∧
    W0.cell? ⟨w1.heap.size,0,none⟩=some (.slice ao len cap)∧W0.cell? ⟨w1.heap.size+1,0,none⟩=some (.int .i64 t)∧W0.cell? ⟨w1.heap.size+2,0,none⟩=some (.slice pa n pc):=by
 refine ⟨_,rfl,by simp,((((Below.refl _ w1).alloc (Nat.le_refl _) _).alloc (by simp) _).alloc (by simp;omega) _),?_,?_,?_⟩
 · have h:=jc (jc (jd w1 (.cells #[.slice ao len cap] 22)) ((Below.refl _ _).alloc (Nat.le_refl _) (.cells #[.int .i64 t] 3))) ((Below.refl _ _).alloc (Nat.le_refl _) (.cells #[.slice pa n pc] 70));exact ja (j:=0) h rfl
 · have h:=jc (jd (w1.alloc (.cells #[.slice ao len cap] 22)) (.cells #[.int .i64 t] 3)) ((Below.refl _ _).alloc (Nat.le_refl _) (.cells #[.slice pa n pc] 70));rw [World.size_alloc] at h;exact ja (j:=0) h rfl
 · have h:=jd ((w1.alloc (.cells #[.slice ao len cap] 22)).alloc (.cells #[.int .i64 t] 3)) (.cells #[.slice pa n pc] 70);rw [World.size_alloc,World.size_alloc] at h;exact ja (j:=0) h rfl
theorem zb {w:World} {b:Nat} {a0 a1 a2 a3 x0 x1 x2 x3:Value} {t:TypeId} (h:w.heap[b]?=some (.cells #[a0,a1,a2,a3] t)):
  ((((w.setCell ⟨b,0,none⟩ x0).setCell ⟨b,1,none⟩ x1).setCell ⟨b,2,none⟩ x2).setCell ⟨b,3,none⟩ x3).heap[b]?=some (.cells #[x0,x1,x2,x3] t):=by
 have:=jn (j:=3) (u:=x3) (jn (j:=2) (u:=x2) (jn (j:=1) (u:=x1) (jn (j:=0) (u:=x0) h)))
 simpa using this
theorem yb {w:World} {k b:Nat} {o:Obj} {x0 x1 x2 x3:Value} (h:w.heap[k]?=some o) (hn:k≠b):((((w.setCell ⟨b,0,none⟩ x0).setCell ⟨b,1,none⟩ x1).setCell ⟨b,2,none⟩ x2).setCell ⟨b,3,none⟩ x3).heap[k]?=some o:=jr (jr (jr (jr h hn) hn) hn) hn
theorem yy {a w:World} {B g:Nat} {x0 x1 x2 x3:Value} (h:Below B a w) (hg:B≤g):Below B a ((((w.setCell ⟨g,0,none⟩ x0).setCell ⟨g,1,none⟩ x1).setCell ⟨g,2,none⟩ x2).setCell ⟨g,3,none⟩ x3):=(((h.setCell (show B≤g from hg) _).setCell (show B≤g from hg) _).setCell (show B≤g from hg) _).setCell (show B≤g from hg) _
theorem jbg {W:World} {b:Nat} {q:Bool} (h:W.heap[b]?=some (.cells #[.bool q] 4)):(loadVar 4 ⟨b,0,none⟩).run Tryz.prog W=.ok (.bool q) W:=by
 have hr:=ja (j:=0) (v:=.bool q) h rfl;simp [go_sem,hr]
theorem zh {W:World} {b:Nat} {x0 x1 x2 x3:Value} (h:W.heap[b]?=some (.cells #[x0,x1,x2,x3] 30)):(loadVar 30 ⟨b,0,none⟩).run Tryz.prog W=.ok (.agg #[x0,x1,x2,x3]) W:=
 run_loadVar_row (P:=Tryz.prog) W b 30 30 #[x0,x1,x2,x3] _ _ h Tryz.underlying30 rfl (by kernel_rfl)
theorem jqx (ao:Option Addr) (len cap:Nat) (L:Nat→TypeV) (hlen:len≤1000000) (hcap:len≤cap) (t:Int) (pa:Option Addr) (n pc:Nat) (P:Nat→StepV) (hn:n≤1000000) (S:Nat→Prop) (T:VT) (w:World) (HT:ValAt w S T) (H:∀ i,i<len→TypeAt w ao i (L i)) (HP:∀ i,i<n→StepAt w pa i (P i)):
  Calls Tryz.prog 49 #[.slice ao len cap,.int .i64 t,.slice pa n pc,.agg #[.int .i64 T.kind,.int .u64 T.num,.string T.text,.slice T.ia T.len T.cap]] w (PAtTo (atA L len t (stepsL P n) T) w.heap.size w):=by
 obtain ⟨B0,hB0⟩:∃ B0,(((w.alloc (.cells #[.slice ao len cap] 22)).alloc (.cells #[.int .i64 T.kind,.int .u64 T.num,.string T.text,.slice T.ia T.len T.cap] 30)).alloc (.cells #[.int .i64 0,.int .u64 0,.string ⟨#[]⟩,.slice none 0 0] 30)).alloc (.cells #[.bool false] 4)=B0:=⟨_,rfl⟩;have HEND:=lh (fun wx (hb:Below w.heap.size w wx)=>jnz ao len cap L hlen hcap t pa n pc P hn wx (hold H hb) (holdP HP hb));have HAL:=lh (fun wx=>jb0 ao len cap t pa n pc wx)
 have hb0:Below w.heap.size w B0:=by
  rw [←hB0];exact (((((Below.refl w.heap.size w).alloc (Nat.le_refl _) _).alloc (by simp) _).alloc (by simp;omega) _).alloc (by simp;omega) _)
 have hq0:B0.heap[w.heap.size]?=some (.cells #[.slice ao len cap] 22):=by
  rw [←hB0];exact je (je (je (jd w _)))
 have hq1:B0.heap[w.heap.size+1]?=some (.cells #[.int .i64 T.kind,.int .u64 T.num,.string T.text,.slice T.ia T.len T.cap] 30):=by
  rw [←hB0];have h:=jd (w.alloc (.cells #[.slice ao len cap] 22)) (.cells #[.int .i64 T.kind,.int .u64 T.num,.string T.text,.slice T.ia T.len T.cap] 30);rw [World.size_alloc] at h;exact je (je h)
 have hq2:B0.heap[w.heap.size+1+1]?=some (.cells #[.int .i64 0,.int .u64 0,.string ⟨#[]⟩,.slice none 0 0] 30):=by
  rw [←hB0];have h:=jd ((w.alloc (.cells #[.slice ao len cap] 22)).alloc (.cells #[.int .i64 T.kind,.int .u64 T.num,.string T.text,.slice T.ia T.len T.cap] 30)) (.cells #[.int .i64 0,.int .u64 0,.string ⟨#[]⟩,.slice none 0 0] 30);rw [World.size_alloc,World.size_alloc] at h;exact je h
 have hq3:B0.heap[w.heap.size+1+1+1]?=some (.cells #[.bool false] 4):=by
  rw [←hB0];have h:=jd (((w.alloc (.cells #[.slice ao len cap] 22)).alloc (.cells #[.int .i64 T.kind,.int .u64 T.num,.string T.text,.slice T.ia T.len T.cap] 30)).alloc (.cells #[.int .i64 0,.int .u64 0,.string ⟨#[]⟩,.slice none 0 0] 30)) (.cells #[.bool false] 4);rw [World.size_alloc,World.size_alloc,World.size_alloc] at h;exact h
 have hz0:B0.heap.size=w.heap.size+4:=by rw [←hB0];simp
 have haa:atA L len t (stepsL P n) T=if (endA L len t (stepsL P n)).isSome then atG L len (alongL L t.toNat (stepsL P n)) T else none:=rfl;have HH:=lh H;have HPP:=lh HP;have HVT:=lh HT;have HB0:=lh hb0;clear H HP HT
 cases hE:endA L len t (stepsL P n) with
 |none=>
  have e1:atA L len t (stepsL P n) T=none:=by rw [haa,hE];rfl
  rw [e1];rw [hE] at HEND;unfold endV at HEND;have HQ0:=lh hq0;have HQ2:=lh hq2;have HQ3:=lh hq3;clear haa e1 hq0 hq1 hq2 hq3;refine qd Tryz.func49 rfl ?_;simp only [Tryz.ntmps49,List.size_toArray,List.length_cons,List.length_nil,Nat.reduceAdd,Nat.reduceSub,Array.replicate_succ,Array.replicate_zero,List.push_toArray,List.append_toArray,List.nil_append,List.cons_append]
  go_upto_region 1 with (fail)
  clear hB0;have c0:=ja (j:=0) (v:=.slice ao len cap) HQ0.out rfl
  go_wp2_with (first
   |(go_at_call 92;refine (HEND.out _ HB0.out).mono ?_;rintro e w1 ⟨rfl,hb⟩;have HQ2':=lh (jc HQ2.out hb);have HQ3':=lh (jc HQ3.out hb))
   |(refine wpList_store_rowTo rfl 30 _ _ rfl rfl (w.heap.size+1+1) #[.int .i64 0,.int .u64 0,.string ⟨#[]⟩,.slice none 0 0] rfl rfl _ _ HQ2'.out (by kernel_rfl) (by kernel_rfl) (by kernel_rfl) ?_;have HQ3s:=lh ((setRow_other w1 (w.heap.size+1+1) (w.heap.size+1+1+1) #[.int .i64 0,.int .u64 0,.string ⟨#[]⟩,.slice none 0 0] (by omega)).trans HQ3'.out);have c9:=ja (j:=0) (v:=.bool false) HQ3s.out rfl;have f9:=jg (j:=0) HQ3s.out))
  have hl:=zh (jr (b':=w.heap.size+1+1+1) (j:=0) (v:=.bool false) (setRow_heap w1 (w.heap.size+1+1) _ #[.int .i64 0,.int .u64 0,.string ⟨#[]⟩,.slice none 0 0] _ _ HQ2'.out) (by omega));have hr:=jbg (jn (j:=0) (u:=.bool false) HQ3s.out);refine Xh (v:=.tuple #[.agg #[.int .i64 0,.int .u64 0,.string ⟨#[]⟩,.slice none 0 0],.bool false]) (by simp [results,Tryz.results49,asAddr,hl,hr]) ?_;exact ⟨.nil,false,rfl,.inr ⟨rfl,rfl,rfl⟩,trivial,(below_setRow (HB0.out.trans (hb.mono (by omega))) (by omega) _).setCell (p:=⟨w.heap.size+1+1+1,0,none⟩) (by simp;omega) _⟩
 |some u=>
  have hT:hasT L len t=true:=by
   unfold endA at hE
   split at hE
   · assumption
   · cases hE
  obtain ⟨k,rfl,hk,hok⟩:=Yc hT;have hv:=Z9 hok
  have hE2:endL L k (stepsL P n)=some u:=by unfold endA at hE;rw [hT] at hE;simpa using hE
  have hG:=jp8 hv _ _ _ hk hE2
  have e1:atA L len (k:Nat) (stepsL P n) T=atG L len (alongL L k (stepsL P n)) T:=by rw [haa,hE];rfl
  rw [hE] at HEND;unfold endV at HEND;have HE1:=lh e1;have HQ0:=lh hq0;have HQ1:=lh hq1;have HQ2:=lh hq2;have HQ3:=lh hq3;clear haa e1 hE hE2 hq0 hq1 hq2 hq3;refine qd Tryz.func49 rfl ?_;simp only [Tryz.ntmps49,List.size_toArray,List.length_cons,List.length_nil,Nat.reduceAdd,Nat.reduceSub,Array.replicate_succ,Array.replicate_zero,List.push_toArray,List.append_toArray,List.nil_append,List.cons_append]
  go_upto_region 1 with (fail)
  clear hB0;have c0:=ja (j:=0) (v:=.slice ao len cap) HQ0.out rfl
  go_wp2_with (first
   |(go_at_call 92;refine (HEND.out _ HB0.out).mono ?_;rintro e w1 ⟨rfl,hb⟩;have HQ0':=lh (jc HQ0.out hb);have HQ1':=lh (jc HQ1.out hb);have HQ2':=lh (jc HQ2.out hb);have HQ3':=lh (jc HQ3.out hb);clear c0;have c0:=ja (j:=0) (v:=.slice ao len cap) HQ0'.out rfl;have hz:=hb.size)
   |(go_at_call 93;refine (HAL.out _).mono ?_;rintro e w2 ⟨rfl,rfl⟩))
  obtain ⟨W0,hW0,hz1,hb1,hl0,ht0,hp0⟩:=jju w1 ao len cap (k:Nat) pa n pc;rw [hW0];have g0:=jc HQ0'.out hb1;have g1:=jc HQ1'.out hb1;have g2:=jc HQ2'.out hb1;have g3:=jc HQ3'.out hb1;have hbw:Below w.heap.size w W0:=(HB0.out.trans (hb.mono (by omega))).trans (hb1.mono (by omega));have HHO:=lh (fun wx (hb:Below w.heap.size w wx)=>hold HH.out hb);clear hW0 c0
  refine ja6 (gf:=129) (w0:=W0) rfl (enters_of Tryz.func129 (by kernel_rfl) rfl)
   (Zx w1.heap.size (w1.heap.size+3) (w1.heap.size+1) (w1.heap.size+2) w1.heap.size ao len cap L hlen hv k hk pa n pc P hn (okStep L len) hG w HH.out HPP.out W0 hbw (by omega) (by omega) (by omega) (by omega) (by omega) ht0 hp0 hl0)
   (fun h k=>h.trans k) (KpS.putObj (by omega) (by omega)) (Below.refl _ _) (fun _=>rfl)
   (fun pre W=>(∃ V:VT,W.heap[w.heap.size+1]?=some (.cells #[.int .i64 V.kind,.int .u64 V.num,.string V.text,.slice V.ia V.len V.cap] 30)∧ValAt w S V∧∀ r,atG L len (pre.map (·.1)++r) T=atG L len r V)∧W.heap[w.heap.size]?=some (.cells #[.slice ao len cap] 22)∧W.heap[w.heap.size+1+1]?=some (.cells #[.int .i64 0,.int .u64 0,.string ⟨#[]⟩,.slice none 0 0] 30)∧W.heap[w.heap.size+1+1+1]?=some (.cells #[.bool false] 4)∧Below w.heap.size w W∧W0.heap.size≤W.heap.size)
   (fun pre W=>(∀ r,atG L len (pre.map (·.1)++r) T=none)∧W.heap[w.heap.size+1+1]?=some (.cells #[.int .i64 0,.int .u64 0,.string ⟨#[]⟩,.slice none 0 0] 30)∧W.heap[w.heap.size+1+1+1]?=some (.cells #[.bool false] 4)∧Below w.heap.size w W)
   (fun pre X Y ⟨⟨V,h1,h1v,h2⟩,h3,h4,h5,h6,h8⟩ hst=>⟨⟨V,hst.same _ _ h1 (.inl rfl),h1v,h2⟩,hst.same _ _ h3 (.inl rfl),hst.same _ _ h4 (.inl rfl),hst.same _ _ h5 (.inl rfl),hst.below h6 (Nat.le_refl _) (by omega),Nat.le_trans h8 hst.size⟩)
   (fun pre X Y ⟨h2,h4,h5,h6⟩ hst=>⟨h2,hst.same _ _ h4 (.inl rfl),hst.same _ _ h5 (.inl rfl),hst.below h6 (Nat.le_refl _) (by omega)⟩)
   ⟨⟨T,g1,HVT.out,fun r=>rfl⟩,g0,g2,g3,hbw,Nat.le_refl _⟩ ?round ?done ?stop
  case round=>
   rintro l ⟨⟨a,s⟩,hx⟩ W K ⟨pre,⟨V,h1,h1v,h2⟩,h3,h4,h5,h6,h8⟩ hK;simp only [stepVal]
   gi_wp2
   refine hK _ _ ((KeepsOthers.alloc _ _).from _) (KpS.of_below ((Below.refl _ _).alloc (Nat.le_refl _) _) (by omega) (by omega)) (Stays.alloc _ _) ?_;have hs0:=jd W (.cells #[.bool s.elem,.int .i64 s.n] 113);clear h1 h1v h2 h3 h4 h5 V;rintro l2 pre2 W2 hst ⟨⟨V,h1,h1v,h2⟩,h3,h4,h5,h7,h9⟩ hl;have hs1:=hst.same _ _ hs0 (.inl rfl);obtain ⟨hxa,hxb⟩:=hx
   have hn0:0≤s.n:=by unfold nextB at hxb;simp only [Bool.and_eq_true,decide_eq_true_eq] at hxb;exact hxb.1
   obtain ⟨j,hj⟩:=Int.eq_ofNat_of_zero_le hn0;obtain ⟨o,ho⟩:∃ o,plcO L len a s V=o:=⟨_,rfl⟩
   have hsj:(⟨s.elem,(j:Nat)⟩:StepV)=s:=by rw [←hj]
   have HPL:=jit ao len cap L hlen a hxa s.elem j V W2 (HHO.out _ h7);rw [hsj,ho] at HPL;unfold PlaceTo at HPL;have HPL:=lh HPL
   have hen:∀ r,atG L len ((pre2.map (·.1)++[(a,s)])++r) T=o.elim none (fun i=>atG L len r (V.kid i)):=fun r=>by
    rw [List.append_assoc,h2,←ho];exact jc8 _ _ _ _ _
   have HEN:=lh hen;have HVV:=lh h1v;have c0:=ja (j:=0) (v:=.slice ao len cap) h3 rfl;have s0:=ja (j:=0) (v:=.bool s.elem) hs1 rfl;have s1:W2.cell? ⟨_,1,none⟩=some (.int .i64 (j:Nat)):=ja (j:=1) hs1 (by rw [←hj];rfl);obtain ⟨d0,d1,d2,d3⟩:=bx4 h1;have hWs:=hbw.size
   cases o with
   |none=>
    clear hen h2 hst hs0 hs1 ho hsj h1v hj hn0
    gi_wp2_with (first
     |(refine ⟨trivial,?_⟩;gi_at_call 94;refine (inRnd HPL.out).mono ?_;rintro e w4 ⟨i,rfl,hio,hb4⟩;have p2:=jc h4 hb4;have p3:=jc h5 hb4;obtain ⟨z0,f0,z1,f1,z2,f2,z3,f3⟩:=bf4 p2;have z9:=ja (j:=0) (v:=.bool false) p3 rfl;have f9:=jg (j:=0) p3;clear d0 d1 d2 d3 c0 s0 s1))
    have hb6:Below w.heap.size w w4:=h7.trans (hb4.mono (by omega));have hkf:KeepsFrom W0.heap.size W2 w4:=KeepsFrom.of_below hb4
    exact ⟨((((hkf.trans ((KeepsOthers.setCell _ _ _).from _)).trans ((KeepsOthers.setCell _ _ _).from _)).trans ((KeepsOthers.setCell _ _ _).from _)).trans ((KeepsOthers.setCell _ _ _).from _)).trans ((KeepsOthers.setCell _ _ _).from _),rfl,
     fun r=>by have:=HEN.out r;simpa using this,jr (zb p2) (by omega),jn (j:=0) (u:=.bool false) (yb p3 (by omega)),
     (yy hb6 (by omega)).setCell (p:=⟨w.heap.size+1+1+1,0,none⟩) (by simp;omega) _⟩
   |some m=>
    have hm:m<V.len:=jkp ho hn0
    have hm2:decide (V.len≤m)=false:=by simp;omega
    clear hen h2 hst hs0 hs1 ho hsj h1v hj hn0
    gi_wp2_with (first
     |(refine ⟨trivial,?_⟩;gi_at_call 94;refine (inRnd HPL.out).mono ?_;rintro e w4 ⟨i,rfl,hio,hb4⟩;obtain rfl:=hio m rfl;have p1:=jc h1 hb4;have p0:=jc h3 hb4;have p2:=jc h4 hb4;have p3:=jc h5 hb4;have hb6:Below w.heap.size w w4:=h7.trans (hb4.mono (by omega));obtain ⟨⟨b',off',hia,_,_,y0,y1,y2,y3⟩,_⟩:=ze HVV.out hb6 hm;clear d0 d1 d2 d3 c0 s0 s1;obtain ⟨d0,f0,d1,f1,d2,f2,d3,f3⟩:=bf4 p1;rw [hia] at d3;have HIA:=lh hia;clear hia hio))
    have hkf:KeepsFrom W0.heap.size W2 w4:=KeepsFrom.of_below hb4
    exact ⟨(((hkf.trans ((KeepsOthers.setCell _ _ _).from _)).trans ((KeepsOthers.setCell _ _ _).from _)).trans ((KeepsOthers.setCell _ _ _).from _)).trans ((KeepsOthers.setCell _ _ _).from _),
     ((((KpS.of_below hb4 (by omega) (by omega)).trans (KpS.setCell _ _ (by omega) (by omega) (by omega))).trans (KpS.setCell _ _ (by omega) (by omega) (by omega))).trans (KpS.setCell _ _ (by omega) (by omega) (by omega))).trans (KpS.setCell _ _ (by omega) (by omega) (by omega)),
     ⟨V.kid m,zb p1,(((kg V).1 HVV.out).2 m hm).2,fun r=>by have:=HEN.out r;simpa using this⟩,yb p0 (by omega),yb p2 (by omega),yb p3 (by omega),yy hb6 (by omega),by have:=hb4.size;simp;omega⟩
  case done=>
   rintro D xs W hD hxs ⟨⟨V,h1,h1v,h2⟩,h3,h4,h5,h6,h9⟩ hdk
   have he:atG L len (alongL L k (stepsL P n)) T=some V:=by
    have:=h2 []
    rw [List.append_nil,hxs] at this;exact this
   have HE:=lh he;have HC:=jgx S V W (h1v.next h6);unfold PCopyTo at HC;have HC:=lh HC;obtain ⟨d0,d1,d2,d3⟩:=bx4 h1;have HZ4:=lh h4;have HZ5:=lh h5;have HDK:=lh hdk;have hWs:=hbw.size;have hdlt:D<W.heap.size:=(Array.getElem?_eq_some_iff.1 hdk).1;clear he h2 h1v h1 h4 h5 hdk h3
   go_wp2_with (first
    |(go_at_call 95;refine (HC.out).mono ?_;rintro e w4 ⟨U,rfl,hsm,hvu,hb4⟩;have HS:=lh hsm;have HVU:=lh hvu;have HB4:=lh hb4;have HY4:=lh (jc HZ4.out hb4);have HY5:=lh (jc HZ5.out hb4);have HD4:=lh (jc HDK.out hb4);clear hsm hvu hb4)
    |(refine wpList_store_rowTo rfl 30 _ _ rfl rfl (w.heap.size+1+1) #[.int .i64 U.kind,.int .u64 U.num,.string U.text,.slice U.ia U.len U.cap] rfl rfl _ _ HY4.out (by kernel_rfl) (by kernel_rfl) (by kernel_rfl) ?_;have HQ3s:=lh ((setRow_other w4 (w.heap.size+1+1) (w.heap.size+1+1+1) #[.int .i64 U.kind,.int .u64 U.num,.string U.text,.slice U.ia U.len U.cap] (by omega)).trans HY5.out);have c9:=ja (j:=0) (v:=.bool false) HQ3s.out rfl;have f9:=jg (j:=0) HQ3s.out))
   have hd4:((w4.setRow (w.heap.size+1+1) #[.int .i64 U.kind,.int .u64 U.num,.string U.text,.slice U.ia U.len U.cap]).setCell ⟨w.heap.size+1+1+1,0,none⟩ (.bool true)).heap[D]?=some (.deferred (some [])):=qj ((setRow_other w4 (w.heap.size+1+1) D #[.int .i64 U.kind,.int .u64 U.num,.string U.text,.slice U.ia U.len U.cap] (by omega)).trans HD4.out) (by omega);have hl:=zh (Zw hd4 (jr (b':=w.heap.size+1+1+1) (j:=0) (v:=.bool true) (setRow_heap w4 (w.heap.size+1+1) _ #[.int .i64 U.kind,.int .u64 U.num,.string U.text,.slice U.ia U.len U.cap] _ _ HY4.out) (by omega)));have hr:=jbg (Zw hd4 (jn (j:=0) (u:=.bool true) HQ3s.out));refine qp (D:=D) hd4 ⟨.tuple #[.agg #[.int .i64 U.kind,.int .u64 U.num,.string U.text,.slice U.ia U.len U.cap],.bool true],by simp [results,Tryz.results49,asAddr,hl,hr],?_⟩;refine ⟨U,true,rfl,.inl ⟨V,by rw [HE1.out,HE.out],rfl,HS.out⟩,?_,?_⟩
   · refine ValAt.held_of (fun b h=>by omega) (by simp [World.setRow]) (fun b h _=>?_) _ HVU.out;rw [World.putObj_heap_other (by omega),Below.heap_setCell _ _ _ _ (by show b≠w.heap.size+1+1+1;omega),setRow_other _ _ _ _ (by omega)]
   · exact yc hd4 ((below_setRow (h6.trans (HB4.out.mono (by omega))) (by omega) _).setCell (p:=⟨w.heap.size+1+1+1,0,none⟩) (by simp;omega) _) (by omega)
  case stop=>
   rintro D pre W hD ⟨r,hr⟩ ⟨h2,h4,h5,h6⟩ hdk
   have he:atA L len (k:Nat) (stepsL P n) T=none:=by
    rw [HE1.out,hr];exact h2 r
   have hWs:=hbw.size;have hl:=zh (Zw hdk h4);have hrb:=jbg (Zw hdk h5);refine qp (D:=D) hdk ⟨.tuple #[.agg #[.int .i64 0,.int .u64 0,.string ⟨#[]⟩,.slice none 0 0],.bool false],by simp [results,Tryz.results49,asAddr,hl,hrb],?_⟩;exact ⟨.nil,false,rfl,.inr ⟨he,rfl,rfl⟩,trivial,yc hdk h6 (by omega)⟩
end Go.Proofs.YthcompcjphaahaaGreatDoor.Pa
namespace Go.Proofs.YthcompcjphaahaaGreatDoor.Pa
open Go Go.RowKit
def ratL (L:Nat→TypeV) (len:Nat):Nat→List StepV→VT→Option VT
 |_,[],V=>some V
 |t,s::r,V=>if nextB (L t) s then (plcO L len t s V).elim none (fun i=>ratL L len (nextN L t s) r (V.kid i)) else none
theorem jh8 {L:Nat→TypeV} {len:Nat}:∀ (ps:List StepV) (t:Nat) (V:VT),ratL L len t ps V=if (endL L t ps).isSome then atG L len (alongL L t ps) V else none
 | [],t,V=>rfl
 |s::r,t,V=>by
  by_cases hb:nextB (L t) s=true
  · have e1:endL L t (s::r)=endL L (nextN L t s) r:=by simp only [endL];rw [if_pos hb]
    have e2:ratL L len t (s::r) V=(plcO L len t s V).elim none (fun i=>ratL L len (nextN L t s) r (V.kid i)):=by simp only [ratL];rw [if_pos hb]
    have e3:alongL L t (s::r)=(t,s)::alongL L (nextN L t s) r:=rfl;rw [e1,e2,e3,jc8]
    show _=if (endL L (nextN L t s) r).isSome then ((plcO L len t s V).elim none (fun i=>atG L len (alongL L (nextN L t s) r) (V.kid i))) else none
    cases plcO L len t s V with
    |none=>simp
    |some i=>exact jh8 r _ _
  · have e1:endL L t (s::r)=none:=by simp only [endL];rw [if_neg hb]
    have e2:ratL L len t (s::r) V=none:=by simp only [ratL];rw [if_neg hb]
    rw [e1,e2]
    rfl
theorem jql {L:Nat→TypeV} {len:Nat} {w:World} {S:Nat→Prop}:∀ (ps:List StepV) (t:Nat) (V U:VT),ValAt w S V→ratL L len t ps V=some U→ValAt w S U
 | [],t,V,U,H,h=>by
   obtain rfl:=Option.some.inj h;exact H
 |s::r,t,V,U,H,h=>by
  simp only [ratL] at h
  split at h
  · rename_i hb
    have hn:0≤s.n:=by unfold nextB at hb;simp only [Bool.and_eq_true,decide_eq_true_eq] at hb;exact hb.1
    cases ho:plcO L len t s V with
    |none=>rw [ho] at h;cases h
    |some i=>
     rw [ho] at h;exact jql r _ _ U (((kg V).1 H).2 i (jkp ho hn)).2 h
  · cases h
theorem jfh (b off n cap:Nat) (hc:n+1≤cap) (w:World):(Instr.slice 70 (.slice (some ⟨b,off,none⟩) (n+1) cap) (some (.int .i64 1)) none none).run Tryz.prog w=.ok (.slice (if cap=1 then some ⟨b,off,none⟩ else some ⟨b,off+2,none⟩) n (cap - 1)) w:=by
 have he:Tryz.prog.elem 70=113:=by kernel_rfl
 have hu:Tryz.prog.underlying 70=some (.slice (Tryz.prog.elem 70)):=by rw [he];exact Tryz.underlying70
 have hs:(sizeOf (Tryz.prog.elem 70)).run Tryz.prog w=.ok 2 w:=by rw [he];kernel_rfl
 rw [run_slice_l (P:=Tryz.prog) w 70 (some ⟨b,off,none⟩) (n+1) cap hu .i64 1 (by omega) (by omega),hs];simp only [Result.andThen,sliced]
 congr 1
abbrev ja0 (U:VT):Value:=.agg #[.int .i64 U.kind,.int .u64 U.num,.string U.text,.slice U.ia U.len U.cap]
def RPAtTo (o:Option VT) (w:World) (e:Ending) (w':World):Prop:=e=.returned (.tuple #[ja0 (o.getD .nil),.bool o.isSome])∧Below w.heap.size w w'
theorem jtk (ao:Option Addr) (len cap:Nat) (t:Int) (pa:Option Addr) (pc:Nat) (T:VT) (w:World):Calls Tryz.prog 32 #[.slice ao len cap,.int .i64 t,.slice pa 0 pc,ja0 T] w (RPAtTo (some T) w):=by
 have HB:=lh (((Below.refl w.heap.size w).alloc (Nat.le_refl _) (valO T)).alloc (by simp) zeroO);have HZ:=lh (show ((w.alloc (valO T)).alloc zeroO).heap[w.heap.size+1]?=some (.cells #[.int .i64 0,.int .u64 0,.string ⟨#[]⟩,.slice none 0 0] 30) by have:=jd (w.alloc (valO T)) zeroO;simpa [zeroO] using this);unfold valO zeroO at HB HZ;go_enter Tryz.func32,Tryz.ntmps32;go_wp2_with (refine wpList_store_rowTo rfl 30 _ _ rfl rfl (w.heap.size+1) #[.int .i64 T.kind,.int .u64 T.num,.string T.text,.slice T.ia T.len T.cap] rfl rfl _ _ HZ.out (by kernel_rfl) (by kernel_rfl) (by kernel_rfl) ?_);refine bodyPost_ret (v:=.tuple #[.agg #[.int .i64 T.kind,.int .u64 T.num,.string T.text,.slice T.ia T.len T.cap],.bool true]) ?_ rfl ⟨rfl,below_setRow HB.out (by omega) _⟩;have hl:=run_loadVar_row (P:=Tryz.prog) _ (w.heap.size+1) _ 30 _ _ _ (setRow_heap _ _ _ #[.int .i64 T.kind,.int .u64 T.num,.string T.text,.slice T.ia T.len T.cap] _ _ HZ.out) Tryz.underlying30 rfl (by kernel_rfl);simp [results,Tryz.results32,asAddr,hl]
theorem jq9 (ao:Option Addr) (len cap:Nat) (L:Nat→TypeV) (hlen:len≤1000000) (hv:∀ i,i<len→OkT L i) (t:Nat) (ht:t<len) (pb pf n pc:Nat) (s:StepV) (r:List StepV) (hn:n+1≤pc) (S:Nat→Prop) (T:VT) (w:World) (HT:ValAt w S T) (H:∀ i,i<len→TypeAt w ao i (L i))
  (q0:w.cell? ⟨pb,pf,none⟩=some (.bool s.elem)) (q1:w.cell? ⟨pb,pf+1,none⟩=some (.int .i64 s.n))
  (ih:∀ (i:Nat) pa',i<T.len→(0<n→pa'=some ⟨pb,pf+2,none⟩)→nextN L t s<len→∀ wx,Below w.heap.size w wx→Calls Tryz.prog 32 #[.slice ao len cap,.int .i64 (nextN L t s:Nat),.slice pa' n (pc - 1),ja0 (T.kid i)] wx (RPAtTo (ratL L len (nextN L t s) r (T.kid i)) wx)):
  Calls Tryz.prog 32 #[.slice ao len cap,.int .i64 (t:Nat),.slice (some ⟨pb,pf,none⟩) (n+1) pc,ja0 T] w (RPAtTo (ratL L len t (s::r) T) w):=by
 have hTl:=Zr HT;have HB:=lh (((Below.refl w.heap.size w).alloc (Nat.le_refl _) (valO T)).alloc (by simp) zeroO);have HQ:=lh (show ((w.alloc (valO T)).alloc zeroO).heap[w.heap.size]?=some (valO T) from je (jd w _));have HZ:=lh (show ((w.alloc (valO T)).alloc zeroO).heap[w.heap.size+1]?=some (.cells #[.int .i64 0,.int .u64 0,.string ⟨#[]⟩,.slice none 0 0] 30) by have:=jd (w.alloc (valO T)) zeroO;simpa [zeroO] using this)
 have hsz0:((w.alloc (valO T)).alloc zeroO).heap.size=w.heap.size+2:=by simp
 obtain ⟨tb,tf,rfl,x0,x1,x2,x3,x4,x5,wf,hit⟩:=H t ht;obtain ⟨be,sn⟩:=s;simp only at q0 q1;have HNE:=lh (fun wx (hb:Below w.heap.size w wx)=>je1 (some ⟨tb,tf,none⟩) len cap L hlen t ht ⟨be,sn⟩ wx (hold H hb));have HBR:=lh (fun wx (hb:Below w.heap.size w wx)=>Zz (some ⟨tb,tf,none⟩) len cap L (t:Nat) T.num (by omega) wx (hold H hb));have HKI:=lh (fun i (hi:i<T.len) wx (hb:Below w.heap.size w wx)=>(ze HT hb hi).1);obtain ⟨W0,hW0⟩:∃ W0,(w.alloc (valO T)).alloc zeroO=W0:=⟨_,rfl⟩;have z0:=jk HB.out x0;have p0:=jk HB.out q0;have p1:=jk HB.out q1;have hrat:ratL L len t (⟨be,sn⟩::r) T=if nextB (L t) ⟨be,sn⟩ then (plcO L len t ⟨be,sn⟩ T).elim none (fun i=>ratL L len (nextN L t ⟨be,sn⟩) r (T.kid i)) else none:=rfl;have hnp:=yq (s:=⟨be,sn⟩) hv ht;obtain ⟨u2,hu2⟩:=Int.eq_ofNat_of_zero_le hnp.1
 have hnn:nextN L t ⟨be,sn⟩=u2:=by unfold nextN;rw [hu2,Int.toNat_natCast]
 have hu2l:u2<len:=by have:=hnp.2;omega
 rw [hnn] at ih hrat
 have tn:((n:Int)+1==0)=false:=by simp;omega
 have tn':(n+1==0)=false:=by simp
 unfold stepVal at HNE;unfold valO zeroO at hW0;rw [show valO T=.cells #[.int .i64 T.kind,.int .u64 T.num,.string T.text,.slice T.ia T.len T.cap] 30 from rfl,show zeroO=.cells #[.int .i64 0,.int .u64 0,.string ⟨#[]⟩,.slice none 0 0] 30 from rfl,hW0] at HB HQ HZ hsz0 z0 p0 p1;have htb:tb<W0.heap.size:=World.block_lt_of_cell? W0 _ z0;obtain ⟨o,ho⟩:∃ o,ratL L len t (⟨be,sn⟩::r) T=o:=⟨_,rfl⟩;rw [ho] at hrat ⊢;clear ho H x0 x1 x2 x3 x4 x5 wf hit q0 q1
 cases hnb:nextB (L t) ⟨be,sn⟩ with
 |false=>
  rw [hnb,if_neg (by decide)] at hrat;rw [show rnextZ (L t) ⟨be,sn⟩=-1 by unfold rnextZ;rw [hnb];rfl] at HNE;subst hrat;clear ih hnp hu2 hnn hnb;go_enter Tryz.func32,Tryz.ntmps32
  go_wp2_with (first
   |(go_at_call 59;refine (HNE.out _ HB.out).mono ?_;rintro e w1 ⟨rfl,hb1⟩;have HZ1:=lh (jc HZ.out hb1);have HB1:=lh (jj HB.out hb1);clear hb1)
   |(refine wpList_store_rowTo rfl 30 _ _ rfl rfl (w.heap.size+1) #[.int .i64 0,.int .u64 0,.string ⟨#[]⟩,.slice none 0 0] rfl rfl _ _ HZ1.out (by kernel_rfl) (by kernel_rfl) (by kernel_rfl) ?_))
  have hl:=zh (setRow_heap w1 (w.heap.size+1) _ #[.int .i64 0,.int .u64 0,.string ⟨#[]⟩,.slice none 0 0] _ _ HZ1.out);refine bodyPost_ret (v:=.tuple #[.agg #[.int .i64 0,.int .u64 0,.string ⟨#[]⟩,.slice none 0 0],.bool false]) ?_ rfl ⟨rfl,below_setRow HB1.out (by omega) _⟩;simp [results,Tryz.results32,asAddr,hl]
 |true=>
  rw [hnb,if_pos rfl] at hrat;rw [show rnextZ (L t) ⟨be,sn⟩=(u2:Nat) by unfold rnextZ;rw [hnb,if_pos rfl,hu2]] at HNE
  have hn0:0≤sn:=by unfold nextB at hnb;simp only [Bool.and_eq_true,decide_eq_true_eq] at hnb;exact hnb.1
  obtain ⟨j,rfl⟩:=Int.eq_ofNat_of_zero_le hn0;have ku:decide (((u2:Nat):Int)<0)=false:=decide_eq_false (by omega);obtain ⟨z,hz⟩:∃ z,branchL L len (t:Nat) T.num=z:=⟨_,rfl⟩;obtain ⟨K,hK⟩:∃ K,(L t).kind=K:=⟨_,rfl⟩
  have hpl:plcO L len t ⟨be,(j:Nat)⟩ T=if K=14 then (if z=(j:Int)∧0<T.len then some 0 else none) else (if (j:Int)<(T.len:Int) then some j else none):=by
   unfold plcO;rw [hK,hz];simp
  rw [hz] at HBR;rw [hK] at z0;clear hnp hu2 hnn hnb hn0 hz hK
  by_cases hB:K=14∧z≠(j:Int)
  · obtain ⟨hk,hzj⟩:=hB;rw [hpl,if_pos hk,if_neg (fun h=>hzj h.1)] at hrat;replace hrat:o=none:=hrat;subst hrat
    have kk:(K==14)=true:=by simpa using hk
    have kz:(z !=(j:Int))=true:=by simpa using hzj
    clear ih hpl hk hzj;go_enter Tryz.func32,Tryz.ntmps32
    go_wp2_with (first
     |(go_at_call 59;refine (HNE.out _ HB.out).mono ?_;rintro e w1 ⟨rfl,hb1⟩;have HZ1:=lh (jc HZ.out hb1);have HQ1:=lh (jc HQ.out hb1);have HB1:=lh (jj HB.out hb1);have z0:=jk hb1 z0;have p0:=jk hb1 p0;have p1:=jk hb1 p1;have t1:w1.cell? ⟨w.heap.size,1,none⟩=some (.int .u64 T.num):=ja (j:=1) HQ1.out rfl;clear hb1)
     |(go_at_call 60;refine (HBR.out _ HB1.out).mono ?_;rintro e w9 ⟨rfl,hw9⟩;subst hw9)
     |(refine wpList_store_rowTo rfl 30 _ _ rfl rfl (w.heap.size+1) #[.int .i64 0,.int .u64 0,.string ⟨#[]⟩,.slice none 0 0] rfl rfl _ _ HZ1.out (by kernel_rfl) (by kernel_rfl) (by kernel_rfl) ?_))
    have hl:=zh (setRow_heap w1 (w.heap.size+1) _ #[.int .i64 0,.int .u64 0,.string ⟨#[]⟩,.slice none 0 0] _ _ HZ1.out);refine bodyPost_ret (v:=.tuple #[.agg #[.int .i64 0,.int .u64 0,.string ⟨#[]⟩,.slice none 0 0],.bool false]) ?_ rfl ⟨rfl,below_setRow HB1.out (by omega) _⟩;simp [results,Tryz.results32,asAddr,hl]
  · obtain ⟨i,hC,hi⟩:∃ i:Nat,((K=14∧z=(j:Int)∧i=0)∨(K≠14∧i=j))∧plcO L len t ⟨be,(j:Nat)⟩ T=if i<T.len then some i else none:=by
     by_cases hk:K=14
     · have hzj:z=(j:Int):=Decidable.not_not.1 (fun h=>hB ⟨hk,h⟩);refine ⟨0,.inl ⟨hk,hzj,rfl⟩,?_⟩;rw [hpl,if_pos hk]
       by_cases h:0<T.len
       · rw [if_pos ⟨hzj,h⟩,if_pos h]
       · rw [if_neg (fun c=>h c.2),if_neg h]
     · refine ⟨j,.inr ⟨hk,rfl⟩,?_⟩;rw [hpl,if_neg hk]
       by_cases h:j<T.len
       · rw [if_pos (by omega),if_pos h]
       · rw [if_neg (by omega),if_neg h]
    rw [hi] at hrat;have HC:=lh hC;clear hpl hB hi hC;have hC:=HC.out
    rcases hC with ⟨hk,hzj,rfl⟩|⟨hk,rfl⟩
    · have kk:(K==14)=true:=by simpa using hk
      have kz:(z !=(j:Int))=false:=by simpa using hzj
      clear hk hzj HC
      by_cases hil:0<T.len
      · rw [if_pos hil] at hrat;have d1:decide ((T.len:Int)≤(0:Nat))=false:=decide_eq_false (by omega);have d2:decide (T.len≤0)=false:=decide_eq_false (by omega);obtain ⟨pa',hpa⟩:∃ a,(if pc=1 then some (⟨pb,pf,none⟩:Addr) else some ⟨pb,pf+2,none⟩)=a:=⟨_,rfl⟩;have hsl:=fun wx=>jfh pb pf n pc hn wx;rw [hpa] at hsl;have HA:=lh (ih (0) pa' hil (fun h=>by rw [←hpa,if_neg (by omega)]) hu2l);replace hrat:o=ratL L len u2 r (T.kid 0):=hrat;obtain ⟨R,hR⟩:∃ R,o.getD .nil=R:=⟨_,rfl⟩;obtain ⟨q,hq⟩:∃ q,o.isSome=q:=⟨_,rfl⟩;unfold RPAtTo at HA;rw [←hrat,hR,hq] at HA;have HE:=lh (show Ending.returned (.tuple #[.agg #[.int .i64 R.kind,.int .u64 R.num,.string R.text,.slice R.ia R.len R.cap],.bool q])=.returned (.tuple #[ja0 (o.getD .nil),.bool o.isSome]) by rw [←hR,←hq]);unfold ja0 at HA;clear hR hq hrat hpa ih;go_enter Tryz.func32,Tryz.ntmps32
        go_upto_region 11 with (first
         |(go_at_call 59;refine (HNE.out _ HB.out).mono ?_;rintro e w1 ⟨rfl,hb1⟩;have HZ1:=lh (jc HZ.out hb1);have HQ1:=lh (jc HQ.out hb1);have HB1:=lh (jj HB.out hb1);have z0:=jk hb1 z0;have p0:=jk hb1 p0;have p1:=jk hb1 p1;have t1:w1.cell? ⟨w.heap.size,1,none⟩=some (.int .u64 T.num):=ja (j:=1) HQ1.out rfl;clear hb1)
         |(go_at_call 60;refine (HBR.out _ HB1.out).mono ?_;rintro e w9 ⟨rfl,hw9⟩;subst hw9)
         )
        obtain ⟨b',off',hia,_,_,c0,c1,c2,c3⟩:=HKI.out (0) hil _ HB1.out;rw [Nat.zero_mul,Nat.add_zero] at c0 c1 c2 c3
        have d3:w1.cell? ⟨w.heap.size,3,none⟩=some (.slice (some ⟨b',off',none⟩) T.len T.cap):=by rw [←hia];exact ja (j:=3) HQ1.out rfl
        have HIA:=lh hia;clear hia t1 p0 p1 z0
        go_upto_region 13 with (fail)
        go_region_with (first
         |(go_at_call 32;refine (HA.out _ HB1.out.drew).mono ?_;rintro e w3 ⟨rfl,hb3⟩;have hq3:=jc (w:=w1.drew) HZ1.out hb3;obtain ⟨s0,f0,s1,f1,s2,f2,s3,f3⟩:=bf4 hq3;have HB3:=lh (jj HB1.out.drew hb3)))
        go_wp2;have hl:=zh (zb (x0:=.int .i64 R.kind) (x1:=.int .u64 R.num) (x2:=.string R.text) (x3:=.slice R.ia R.len R.cap) hq3);refine bodyPost_ret (v:=.tuple #[.agg #[.int .i64 R.kind,.int .u64 R.num,.string R.text,.slice R.ia R.len R.cap],.bool q]) ?_ rfl ⟨HE.out,yy HB3.out (by omega)⟩;simp [results,Tryz.results32,asAddr,Act.put,hl]
      · rw [if_neg hil] at hrat;replace hrat:o=none:=hrat;subst hrat;have d1:decide ((T.len:Int)≤(0:Nat))=true:=decide_eq_true (by omega);have d2:decide (T.len≤0)=true:=decide_eq_true (by omega);clear ih;go_enter Tryz.func32,Tryz.ntmps32
        go_upto_region 11 with (first
         |(go_at_call 59;refine (HNE.out _ HB.out).mono ?_;rintro e w1 ⟨rfl,hb1⟩;have HZ1:=lh (jc HZ.out hb1);have HQ1:=lh (jc HQ.out hb1);have HB1:=lh (jj HB.out hb1);have z0:=jk hb1 z0;have p0:=jk hb1 p0;have p1:=jk hb1 p1;have t1:w1.cell? ⟨w.heap.size,1,none⟩=some (.int .u64 T.num):=ja (j:=1) HQ1.out rfl;clear hb1)
         |(go_at_call 60;refine (HBR.out _ HB1.out).mono ?_;rintro e w9 ⟨rfl,hw9⟩;subst hw9)
         )
        have d3:w1.cell? ⟨w.heap.size,3,none⟩=some (.slice T.ia T.len T.cap):=ja (j:=3) HQ1.out rfl
        go_wp2_with (first
         |(refine wpList_store_rowTo rfl 30 _ _ rfl rfl (w.heap.size+1) #[.int .i64 0,.int .u64 0,.string ⟨#[]⟩,.slice none 0 0] rfl rfl _ _ HZ1.out (by kernel_rfl) (by kernel_rfl) (by kernel_rfl) ?_))
        have hl:=zh (setRow_heap w1 (w.heap.size+1) _ #[.int .i64 0,.int .u64 0,.string ⟨#[]⟩,.slice none 0 0] _ _ HZ1.out);refine bodyPost_ret (v:=.tuple #[.agg #[.int .i64 0,.int .u64 0,.string ⟨#[]⟩,.slice none 0 0],.bool false]) ?_ rfl ⟨rfl,below_setRow HB1.out (by omega) _⟩;simp [results,Tryz.results32,asAddr,hl]
    · have kk:(K==14)=false:=by simpa using hk
      clear hk HC
      by_cases hil:i<T.len
      · rw [if_pos hil] at hrat;have d1:decide ((T.len:Int)≤(i:Nat))=false:=decide_eq_false (by omega);have d2:decide (T.len≤i)=false:=decide_eq_false (by omega);obtain ⟨pa',hpa⟩:∃ a,(if pc=1 then some (⟨pb,pf,none⟩:Addr) else some ⟨pb,pf+2,none⟩)=a:=⟨_,rfl⟩;have hsl:=fun wx=>jfh pb pf n pc hn wx;rw [hpa] at hsl;have HA:=lh (ih (i) pa' hil (fun h=>by rw [←hpa,if_neg (by omega)]) hu2l);replace hrat:o=ratL L len u2 r (T.kid i):=hrat;obtain ⟨R,hR⟩:∃ R,o.getD .nil=R:=⟨_,rfl⟩;obtain ⟨q,hq⟩:∃ q,o.isSome=q:=⟨_,rfl⟩;unfold RPAtTo at HA;rw [←hrat,hR,hq] at HA;have HE:=lh (show Ending.returned (.tuple #[.agg #[.int .i64 R.kind,.int .u64 R.num,.string R.text,.slice R.ia R.len R.cap],.bool q])=.returned (.tuple #[ja0 (o.getD .nil),.bool o.isSome]) by rw [←hR,←hq]);unfold ja0 at HA;clear hR hq hrat hpa ih;go_enter Tryz.func32,Tryz.ntmps32
        go_upto_region 11 with (first
         |(go_at_call 59;refine (HNE.out _ HB.out).mono ?_;rintro e w1 ⟨rfl,hb1⟩;have HZ1:=lh (jc HZ.out hb1);have HQ1:=lh (jc HQ.out hb1);have HB1:=lh (jj HB.out hb1);have z0:=jk hb1 z0;have p0:=jk hb1 p0;have p1:=jk hb1 p1;have t1:w1.cell? ⟨w.heap.size,1,none⟩=some (.int .u64 T.num):=ja (j:=1) HQ1.out rfl;clear hb1)
         )
        obtain ⟨b',off',hia,_,_,c0,c1,c2,c3⟩:=HKI.out (i) hil _ HB1.out;skip
        have d3:w1.cell? ⟨w.heap.size,3,none⟩=some (.slice (some ⟨b',off',none⟩) T.len T.cap):=by rw [←hia];exact ja (j:=3) HQ1.out rfl
        have HIA:=lh hia;clear hia t1 p0 p1 z0
        go_upto_region 13 with (fail)
        go_region_with (first
         |(go_at_call 32;refine (HA.out _ HB1.out.drew).mono ?_;rintro e w3 ⟨rfl,hb3⟩;have hq3:=jc (w:=w1.drew) HZ1.out hb3;obtain ⟨s0,f0,s1,f1,s2,f2,s3,f3⟩:=bf4 hq3;have HB3:=lh (jj HB1.out.drew hb3)))
        go_wp2;have hl:=zh (zb (x0:=.int .i64 R.kind) (x1:=.int .u64 R.num) (x2:=.string R.text) (x3:=.slice R.ia R.len R.cap) hq3);refine bodyPost_ret (v:=.tuple #[.agg #[.int .i64 R.kind,.int .u64 R.num,.string R.text,.slice R.ia R.len R.cap],.bool q]) ?_ rfl ⟨HE.out,yy HB3.out (by omega)⟩;simp [results,Tryz.results32,asAddr,Act.put,hl]
      · rw [if_neg hil] at hrat;replace hrat:o=none:=hrat;subst hrat;have d1:decide ((T.len:Int)≤(i:Nat))=true:=decide_eq_true (by omega);have d2:decide (T.len≤i)=true:=decide_eq_true (by omega);clear ih;go_enter Tryz.func32,Tryz.ntmps32
        go_upto_region 11 with (first
         |(go_at_call 59;refine (HNE.out _ HB.out).mono ?_;rintro e w1 ⟨rfl,hb1⟩;have HZ1:=lh (jc HZ.out hb1);have HQ1:=lh (jc HQ.out hb1);have HB1:=lh (jj HB.out hb1);have z0:=jk hb1 z0;have p0:=jk hb1 p0;have p1:=jk hb1 p1;have t1:w1.cell? ⟨w.heap.size,1,none⟩=some (.int .u64 T.num):=ja (j:=1) HQ1.out rfl;clear hb1)
         )
        have d3:w1.cell? ⟨w.heap.size,3,none⟩=some (.slice T.ia T.len T.cap):=ja (j:=3) HQ1.out rfl
        go_wp2_with (first
         |(refine wpList_store_rowTo rfl 30 _ _ rfl rfl (w.heap.size+1) #[.int .i64 0,.int .u64 0,.string ⟨#[]⟩,.slice none 0 0] rfl rfl _ _ HZ1.out (by kernel_rfl) (by kernel_rfl) (by kernel_rfl) ?_))
        have hl:=zh (setRow_heap w1 (w.heap.size+1) _ #[.int .i64 0,.int .u64 0,.string ⟨#[]⟩,.slice none 0 0] _ _ HZ1.out);refine bodyPost_ret (v:=.tuple #[.agg #[.int .i64 0,.int .u64 0,.string ⟨#[]⟩,.slice none 0 0],.bool false]) ?_ rfl ⟨rfl,below_setRow HB1.out (by omega) _⟩;simp [results,Tryz.results32,asAddr,hl]
theorem jgg (ao:Option Addr) (len cap:Nat) (L:Nat→TypeV) (hlen:len≤1000000) (hv:∀ i,i<len→OkT L i) (S:Nat→Prop):∀ (n:Nat) (t:Nat) (pa:Option Addr) (pc:Nat) (P:Nat→StepV) (T:VT) (w:World),t<len→n≤pc→ValAt w S T→(∀ i,i<len→TypeAt w ao i (L i))→(∀ i,i<n→StepC w pa i (P i))→
  Calls Tryz.prog 32 #[.slice ao len cap,.int .i64 (t:Nat),.slice pa n pc,ja0 T] w (RPAtTo (ratL L len t (stepsL P n) T) w)
 |0,t,pa,pc,P,T,w,ht,hn,HT,H,HP=>jtk ao len cap (t:Nat) pa pc T w
 |n+1,t,pa,pc,P,T,w,ht,hn,HT,H,HP=>by
  obtain ⟨pb,pf,rfl,q0,q1⟩:=HP 0 (by omega)
  have hs:stepsL P (n+1)=P 0::stepsL (fun i=>P (i+1)) n:=by
   unfold stepsL;rw [List.range_succ_eq_map];simp [Function.comp_def]
  rw [hs];refine jq9 ao len cap L hlen hv t ht pb pf n pc (P 0) _ hn S T w HT H (by simpa using q0) (by simpa using q1) (fun i pa' hi hpa hnx wx hb=>?_);refine jgg ao len cap L hlen hv S n (nextN L t (P 0)) pa' (pc - 1) (fun i=>P (i+1)) (T.kid i) wx hnx (by omega) (ze HT hb hi).2 (hold H hb) (fun k hk=>?_);obtain ⟨b2,f2,e,c0,c1⟩:=(HP (k+1) (by omega)).held hb
  obtain ⟨rfl,rfl⟩:pb=b2∧pf=f2:=by injection e with e;injection e with e1 e2 e3;exact ⟨e1,e2⟩
  rw [hpa (by omega)];exact ⟨pb,pf+2,rfl,by rw [show pf+2+k*2=pf+(k+1)*2 by omega];exact c0,by rw [show pf+2+k*2+1=pf+(k+1)*2+1 by omega];exact c1⟩
end Go.Proofs.YthcompcjphaahaaGreatDoor.Pa
