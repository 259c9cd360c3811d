/- Where, among a value's Items, what is at a step stands. -/
import Derived.Test.YthcompcjphaahaaGreatDoora28
import Derived.Test.YthcompcjphaahaaGreatDoora29
namespace Go.Proofs.YthcompcjphaahaaGreatDoor.Pa
open Go Go.RowKit
set_option linter.unusedVariables false
def plcO (L:Nat→TypeV) (len t:Nat) (s:StepV) (V:VT):Option Nat:=
 if (L t).kind=14 then (if branchL L len (t:Nat) V.num=s.n∧0<V.len then some 0 else none)
 else (if s.n<(V.len:Int) then some s.n.toNat else none)
def PlaceTo (o:Option Nat) (w:World) (e:Ending) (w':World):Prop:=
 ∃ i:Int,e=.returned (.tuple #[.int .i64 i,.bool o.isSome])∧(∀ m:Nat,o=some m→i=m)∧Below w.heap.size w w'
theorem found_eq {z:Int} {j:Nat}:(okZ z&&(posZ z==(j:Int)))=decide (z=(j:Int)):=by
 unfold okZ posZ
 by_cases h:z<0
 · rw [decide_eq_false (show ¬0≤z by omega),decide_eq_false (show ¬z=(j:Int) by omega)]
   rfl
 · rw [if_neg h,decide_eq_true (show 0≤z by omega),Bool.true_and]
   rfl
set_option maxRecDepth 100000 in
set_option maxHeartbeats 4000000 in
theorem place12_any (ao:Option Addr) (len cap:Nat) (L:Nat→TypeV) (hlen:len≤1000000) (t:Nat) (ht:t<len) (be:Bool) (j:Nat) (T:VT) (w:World) (H:∀ i,i<len→TypeAt w ao i (L i)):
  Calls Tryz.prog 94 #[.slice ao len cap,.int .i64 (t:Nat),.agg #[.bool be,.int .i64 (j:Nat)],.agg #[.int .i64 T.kind,.int .u64 T.num,.string T.text,.slice T.ia T.len T.cap]] w (PlaceTo (plcO L len t ⟨be,(j:Nat)⟩ T) w):=by
 obtain ⟨tb,tf,rfl,x0,x1,x2,x3,x4,x5,wf,hit⟩:=H t ht
 have hbl:tb<w.heap.size:=World.block_lt_of_cell? w _ x0
 have hne:¬tb=w.heap.size:=by omega
 have hne1:¬tb=w.heap.size+1:=by omega
 have HBR:=Lib.hid (fun wx (hb:Below w.heap.size w wx)=>branch6_any (some ⟨tb,tf,none⟩) len cap L (t:Nat) T.num (by omega) wx (hold H hb))
 obtain ⟨z,hz⟩:∃ z,branchL L len (t:Nat) T.num=z:=⟨_,rfl⟩
 obtain ⟨K,hK⟩:∃ K,(L t).kind=K:=⟨_,rfl⟩
 have hpl:plcO L len t ⟨be,(j:Nat)⟩ T=if K=14 then (if z=(j:Int)∧0<T.len then some 0 else none) else (if (j:Int)<(T.len:Int) then some j else none):=by
  unfold plcO
  rw [hK,hz]
  simp
 have hfe:=found_eq (z:=z) (j:=j)
 rw [hz] at HBR
 unfold foundV at HBR
 rw [hK] at x0
 have HB0:=Lib.hid (((Below.refl w.heap.size w).alloc (Nat.le_refl _) (.cells #[.bool be,.int .i64 (j:Nat)] 113)).alloc (by simp) (.cells #[.int .i64 T.kind,.int .u64 T.num,.string T.text,.slice T.ia T.len T.cap] 30))
 have HS0:=Lib.hid (show ((w.alloc (.cells #[.bool be,.int .i64 (j:Nat)] 113)).alloc (.cells #[.int .i64 T.kind,.int .u64 T.num,.string T.text,.slice T.ia T.len T.cap] 30)).heap[w.heap.size]?=some (.cells #[.bool be,.int .i64 (j:Nat)] 113) from alloc_old (alloc_at w _))
 have HV0:=Lib.hid (show ((w.alloc (.cells #[.bool be,.int .i64 (j:Nat)] 113)).alloc (.cells #[.int .i64 T.kind,.int .u64 T.num,.string T.text,.slice T.ia T.len T.cap] 30)).heap[w.heap.size+1]?=some (.cells #[.int .i64 T.kind,.int .u64 T.num,.string T.text,.slice T.ia T.len T.cap] 30) by have:=alloc_at (w.alloc (.cells #[.bool be,.int .i64 (j:Nat)] 113)) (.cells #[.int .i64 T.kind,.int .u64 T.num,.string T.text,.slice T.ia T.len T.cap] 30);rwa [show (w.alloc (.cells #[.bool be,.int .i64 (j:Nat)] 113)).heap.size=w.heap.size+1 by simp] at this)
 obtain ⟨o,ho⟩:∃ o,plcO L len t ⟨be,(j:Nat)⟩ T=o:=⟨_,rfl⟩
 rw [ho]
 rw [ho] at hpl
 clear ho hz hK H hit wf x1 x2 x3 x4 x5
 by_cases hk:K=14
 · rw [if_pos hk] at hpl
   have kk:(K==14)=true:=by simpa using hk
   obtain ⟨qo,hqo⟩:∃ q,okZ z=q:=⟨_,rfl⟩
   obtain ⟨zp,hzp⟩:∃ p,posZ z=p:=⟨_,rfl⟩
   rw [hqo,hzp] at hfe HBR
   by_cases hzj:z=(j:Int)
   · rw [decide_eq_true hzj] at hfe
     simp only [Bool.and_eq_true,beq_iff_eq] at hfe
     obtain ⟨rfl,rfl⟩:=hfe
     clear hqo hzp
     have kne:((j:Int) !=(j:Int))=false:=by simp
     obtain ⟨ql,hql⟩:∃ q,decide ((0:Int)<(T.len:Int))=q:=⟨_,rfl⟩
     have HO:=Lib.hid (show (o.isSome=ql)∧∀ m:Nat,o=some m→(0:Int)=m by
      rw [←hql]
      by_cases h:0<T.len
      · rw [if_pos ⟨hzj,h⟩] at hpl
        rw [hpl,decide_eq_true (by omega:(0:Int)<(T.len:Int))]
        exact ⟨rfl,fun m hm=>by injection hm with hm;rw [←hm];rfl⟩
      · rw [if_neg (fun c=>h c.2)] at hpl
        rw [hpl,decide_eq_false (by omega:¬(0:Int)<(T.len:Int))]
        exact ⟨rfl,fun m hm=>by cases hm⟩)
     have hqn:decide (0<T.len)=ql:=by rw [←hql];simp
     clear hzj hk hpl hql
     go_enter Tryz.func94,Tryz.ntmps94
     go_wp2_with (go_at_call 130;refine (HBR.out _ HB0.out).mono ?_;rintro e w1 ⟨rfl,hb1⟩;have hs1:=box_keep HS0.out hb1;have hv1:=box_keep HV0.out hb1;have s1:w1.cell? ⟨w.heap.size,1,none⟩=some (.int .i64 (j:Nat)):=cell_at (j:=1) hs1 rfl;have v3:w1.cell? ⟨w.heap.size+1,3,none⟩=some (.slice T.ia T.len T.cap):=cell_at (j:=3) hv1 rfl;have HB1:=Lib.hid (HB0.out.trans (hb1.mono (by simp;omega)));clear hs1 hv1 hb1)
     go_quiet (fail)
     go_wp2
     go_ret2
     exact ⟨0,by rw [HO.out.1];rfl,HO.out.2,drewN_below HB1.out _⟩
   · rw [decide_eq_false hzj] at hfe
     have HO:=Lib.hid (show o=none by rw [hpl,if_neg (fun h=>hzj h.1)])
     cases qo with
     |false=>
      clear hqo hzp hzj hk hfe hpl
      go_enter Tryz.func94,Tryz.ntmps94
      go_wp2_with (go_at_call 130;refine (HBR.out _ HB0.out).mono ?_;rintro e w1 ⟨rfl,hb1⟩;have hs1:=box_keep HS0.out hb1;have s1:w1.cell? ⟨w.heap.size,1,none⟩=some (.int .i64 (j:Nat)):=cell_at (j:=1) hs1 rfl;have HB1:=Lib.hid (HB0.out.trans (hb1.mono (by simp;omega)));clear hs1 hb1)
      go_ret2
      exact ⟨0,by rw [HO.out];rfl,fun m h=>(by rw [HO.out] at h;cases h),HB1.out⟩
     |true=>
      have kne:(zp !=(j:Int))=true:=by simpa using hfe
      clear hqo hzp hzj hk hfe hpl
      go_enter Tryz.func94,Tryz.ntmps94
      go_wp2_with (go_at_call 130;refine (HBR.out _ HB0.out).mono ?_;rintro e w1 ⟨rfl,hb1⟩;have hs1:=box_keep HS0.out hb1;have s1:w1.cell? ⟨w.heap.size,1,none⟩=some (.int .i64 (j:Nat)):=cell_at (j:=1) hs1 rfl;have HB1:=Lib.hid (HB0.out.trans (hb1.mono (by simp;omega)));clear hs1 hb1)
      go_ret2
      exact ⟨0,by rw [HO.out];rfl,fun m h=>(by rw [HO.out] at h;cases h),HB1.out⟩
 · rw [if_neg hk] at hpl
   have kk:(K==14)=false:=by simpa using hk
   obtain ⟨ql,hql⟩:∃ q,decide ((j:Int)<(T.len:Int))=q:=⟨_,rfl⟩
   have HO:=Lib.hid (show (o.isSome=ql)∧∀ m:Nat,o=some m→(j:Int)=m by
    rw [←hql,hpl]
    by_cases h:(j:Int)<(T.len:Int)
    · rw [if_pos h,decide_eq_true h]
      exact ⟨rfl,fun m hm=>by injection hm with hm;rw [hm]⟩
    · rw [if_neg h,decide_eq_false h]
      exact ⟨rfl,fun m hm=>by cases hm⟩)
   have hqn:decide (j<T.len)=ql:=by rw [←hql];simp
   clear hk hfe HBR hpl hql
   go_enter Tryz.func94,Tryz.ntmps94
   go_wp2
   go_quiet (fail)
   go_wp2
   go_ret2
   exact ⟨j,by rw [HO.out.1];rfl,HO.out.2,drewN_below HB0.out _⟩
end Go.Proofs.YthcompcjphaahaaGreatDoor.Pa
namespace Go.Proofs.YthcompcjphaahaaGreatDoor.Pa
open Go Go.RowKit Go.Shelf
set_option linter.unusedVariables false
attribute [local go_sem] Oper.semAt_some
def atG (L:Nat→TypeV) (len:Nat):List (Nat × StepV)→VT→Option VT
 | [],V=>some V
 |x::r,V=>match plcO L len x.1 x.2 V with
  |some i=>atG L len r (V.kid i)
  |none=>none
def atA (L:Nat→TypeV) (len:Nat) (t:Int) (ps:List StepV) (V:VT):Option VT:=
 if (endA L len t ps).isSome then atG L len (alongL L t.toNat ps) V else none
theorem atG_cons (L:Nat→TypeV) (len:Nat) (x:Nat × StepV) (r:List (Nat × StepV)) (V:VT):atG L len (x::r) V=(plcO L len x.1 x.2 V).elim none (fun i=>atG L len r (V.kid i)):=by
 simp only [atG]
 cases plcO L len x.1 x.2 V <;> rfl
theorem plc_lt {L:Nat→TypeV} {len t m:Nat} {s:StepV} {V:VT} (h:plcO L len t s V=some m) (hn:0≤s.n):m<V.len:=by
 unfold plcO at h
 split at h
 · split at h
   · rename_i h2
     injection h with h
     omega
   · cases h
 · split at h
   · injection h with h
     omega
   · cases h
def PAtTo (o:Option VT) (N:Nat) (w:World) (e:Ending) (w':World):Prop:=
 ∃ (U:VT) (b:Bool),e=.returned (.tuple #[.agg #[.int .i64 U.kind,.int .u64 U.num,.string U.text,.slice U.ia U.len U.cap],.bool b])∧((∃ V,o=some V∧b=true∧sameT V U=true)∨(o=none∧b=false∧U=.nil))∧ValAt w' (fun c=>N≤c) U∧Below N w w'
theorem walk_boxes (w1:World) (ao:Option Addr) (len cap:Nat) (t:Int) (pa:Option Addr) (n pc:Nat):
  ∃ W0,((w1.alloc (.cells #[.slice ao len cap] 22)).alloc (.cells #[.int .i64 t] 3)).alloc (.cells #[.slice pa n pc] 70)=W0∧W0.heap.size=w1.heap.size+3∧Below w1.heap.size w1 W0∧
    W0.cell? ⟨w1.heap.size,0,none⟩=some (.slice ao len cap)∧W0.cell? ⟨w1.heap.size+1,0,none⟩=some (.int .i64 t)∧W0.cell? ⟨w1.heap.size+2,0,none⟩=some (.slice pa n pc):=by
 refine ⟨_,rfl,by simp,((((Below.refl _ w1).alloc (Nat.le_refl _) _).alloc (by simp) _).alloc (by simp;omega) _),?_,?_,?_⟩
 · have h:=heap_keep (heap_keep (alloc_at w1 (.cells #[.slice ao len cap] 22)) ((Below.refl _ _).alloc (Nat.le_refl _) (.cells #[.int .i64 t] 3))) ((Below.refl _ _).alloc (Nat.le_refl _) (.cells #[.slice pa n pc] 70))
   exact cell_at (j:=0) h rfl
 · have h:=heap_keep (alloc_at (w1.alloc (.cells #[.slice ao len cap] 22)) (.cells #[.int .i64 t] 3)) ((Below.refl _ _).alloc (Nat.le_refl _) (.cells #[.slice pa n pc] 70))
   rw [World.size_alloc] at h
   exact cell_at (j:=0) h rfl
 · have h:=alloc_at ((w1.alloc (.cells #[.slice ao len cap] 22)).alloc (.cells #[.int .i64 t] 3)) (.cells #[.slice pa n pc] 70)
   rw [World.size_alloc,World.size_alloc] at h
   exact cell_at (j:=0) h rfl
theorem set4_row {w:World} {b:Nat} {a0 a1 a2 a3 x0 x1 x2 x3:Value} {t:TypeId} (h:w.heap[b]?=some (.cells #[a0,a1,a2,a3] t)):
  ((((w.setCell ⟨b,0,none⟩ x0).setCell ⟨b,1,none⟩ x1).setCell ⟨b,2,none⟩ x2).setCell ⟨b,3,none⟩ x3).heap[b]?=some (.cells #[x0,x1,x2,x3] t):=by
 have:=set_at (j:=3) (u:=x3) (set_at (j:=2) (u:=x2) (set_at (j:=1) (u:=x1) (set_at (j:=0) (u:=x0) h)))
 simpa using this
theorem set4_oth {w:World} {k b:Nat} {o:Obj} {x0 x1 x2 x3:Value} (h:w.heap[k]?=some o) (hn:k≠b):((((w.setCell ⟨b,0,none⟩ x0).setCell ⟨b,1,none⟩ x1).setCell ⟨b,2,none⟩ x2).setCell ⟨b,3,none⟩ x3).heap[k]?=some o:=row_set (row_set (row_set (row_set h hn) hn) hn) hn
theorem set4_bel {a w:World} {B g:Nat} {x0 x1 x2 x3:Value} (h:Below B a w) (hg:B≤g):Below B a ((((w.setCell ⟨g,0,none⟩ x0).setCell ⟨g,1,none⟩ x1).setCell ⟨g,2,none⟩ x2).setCell ⟨g,3,none⟩ x3):=(((h.setCell (show B≤g from hg) _).setCell (show B≤g from hg) _).setCell (show B≤g from hg) _).setCell (show B≤g from hg) _
theorem load_bool {W:World} {b:Nat} {q:Bool} (h:W.heap[b]?=some (.cells #[.bool q] 4)):(loadVar 4 ⟨b,0,none⟩).run Tryz.prog W=.ok (.bool q) W:=by
 have hr:=cell_at (j:=0) (v:=.bool q) h rfl
 simp [go_sem,hr]
theorem load_val {W:World} {b:Nat} {x0 x1 x2 x3:Value} (h:W.heap[b]?=some (.cells #[x0,x1,x2,x3] 30)):(loadVar 30 ⟨b,0,none⟩).run Tryz.prog W=.ok (.agg #[x0,x1,x2,x3]) W:=
 run_loadVar_row (P:=Tryz.prog) W b 30 30 #[x0,x1,x2,x3] _ _ h Tryz.underlying30 rfl (by kernel_rfl)
set_option maxRecDepth 100000 in
set_option maxHeartbeats 8000000 in
theorem at12_any (ao:Option Addr) (len cap:Nat) (L:Nat→TypeV) (hlen:len≤1000000) (hcap:len≤cap) (t:Int) (pa:Option Addr) (n pc:Nat) (P:Nat→StepV) (hn:n≤1000000) (S:Nat→Prop) (T:VT) (w:World) (HT:ValAt w S T) (H:∀ i,i<len→TypeAt w ao i (L i)) (HP:∀ i,i<n→StepAt w pa i (P i)):
  Calls Tryz.prog 49 #[.slice ao len cap,.int .i64 t,.slice pa n pc,.agg #[.int .i64 T.kind,.int .u64 T.num,.string T.text,.slice T.ia T.len T.cap]] w (PAtTo (atA L len t (stepsL P n) T) w.heap.size w):=by
 obtain ⟨B0,hB0⟩:∃ B0,(((w.alloc (.cells #[.slice ao len cap] 22)).alloc (.cells #[.int .i64 T.kind,.int .u64 T.num,.string T.text,.slice T.ia T.len T.cap] 30)).alloc (.cells #[.int .i64 0,.int .u64 0,.string ⟨#[]⟩,.slice none 0 0] 30)).alloc (.cells #[.bool false] 4)=B0:=⟨_,rfl⟩
 have HEND:=Lib.hid (fun wx (hb:Below w.heap.size w wx)=>end12_any ao len cap L hlen hcap t pa n pc P hn wx (hold H hb) (holdP HP hb))
 have HAL:=Lib.hid (fun wx=>along12_any ao len cap t pa n pc wx)
 have hb0:Below w.heap.size w B0:=by
  rw [←hB0]
  exact (((((Below.refl w.heap.size w).alloc (Nat.le_refl _) _).alloc (by simp) _).alloc (by simp;omega) _).alloc (by simp;omega) _)
 have hq0:B0.heap[w.heap.size]?=some (.cells #[.slice ao len cap] 22):=by
  rw [←hB0]
  exact alloc_old (alloc_old (alloc_old (alloc_at w _)))
 have hq1:B0.heap[w.heap.size+1]?=some (.cells #[.int .i64 T.kind,.int .u64 T.num,.string T.text,.slice T.ia T.len T.cap] 30):=by
  rw [←hB0]
  have h:=alloc_at (w.alloc (.cells #[.slice ao len cap] 22)) (.cells #[.int .i64 T.kind,.int .u64 T.num,.string T.text,.slice T.ia T.len T.cap] 30)
  rw [World.size_alloc] at h
  exact alloc_old (alloc_old h)
 have hq2:B0.heap[w.heap.size+1+1]?=some (.cells #[.int .i64 0,.int .u64 0,.string ⟨#[]⟩,.slice none 0 0] 30):=by
  rw [←hB0]
  have h:=alloc_at ((w.alloc (.cells #[.slice ao len cap] 22)).alloc (.cells #[.int .i64 T.kind,.int .u64 T.num,.string T.text,.slice T.ia T.len T.cap] 30)) (.cells #[.int .i64 0,.int .u64 0,.string ⟨#[]⟩,.slice none 0 0] 30)
  rw [World.size_alloc,World.size_alloc] at h
  exact alloc_old h
 have hq3:B0.heap[w.heap.size+1+1+1]?=some (.cells #[.bool false] 4):=by
  rw [←hB0]
  have h:=alloc_at (((w.alloc (.cells #[.slice ao len cap] 22)).alloc (.cells #[.int .i64 T.kind,.int .u64 T.num,.string T.text,.slice T.ia T.len T.cap] 30)).alloc (.cells #[.int .i64 0,.int .u64 0,.string ⟨#[]⟩,.slice none 0 0] 30)) (.cells #[.bool false] 4)
  rw [World.size_alloc,World.size_alloc,World.size_alloc] at h
  exact h
 have hz0:B0.heap.size=w.heap.size+4:=by rw [←hB0];simp
 have haa:atA L len t (stepsL P n) T=if (endA L len t (stepsL P n)).isSome then atG L len (alongL L t.toNat (stepsL P n)) T else none:=rfl
 have HH:=Lib.hid H
 have HPP:=Lib.hid HP
 have HVT:=Lib.hid HT
 have HB0:=Lib.hid hb0
 clear H HP HT
 cases hE:endA L len t (stepsL P n) with
 |none=>
  have e1:atA L len t (stepsL P n) T=none:=by rw [haa,hE];rfl
  rw [e1]
  rw [hE] at HEND
  unfold endV at HEND
  have HQ0:=Lib.hid hq0
  have HQ2:=Lib.hid hq2
  have HQ3:=Lib.hid hq3
  clear haa e1 hq0 hq1 hq2 hq3
  refine calls_of_marks Tryz.func49 rfl ?_
  simp only [Tryz.ntmps49,List.size_toArray,List.length_cons,List.length_nil,Nat.reduceAdd,Nat.reduceSub,Array.replicate_succ,Array.replicate_zero,List.push_toArray,List.append_toArray,List.nil_append,List.cons_append]
  go_upto_region 1 with (fail)
  clear hB0
  have c0:=cell_at (j:=0) (v:=.slice ao len cap) HQ0.out rfl
  go_wp2_with (first
   |(go_at_call 92;refine (HEND.out _ HB0.out).mono ?_;rintro e w1 ⟨rfl,hb⟩;have HQ2':=Lib.hid (heap_keep HQ2.out hb);have HQ3':=Lib.hid (heap_keep HQ3.out hb))
   |(refine wpList_store_rowTo rfl 30 _ _ rfl rfl (w.heap.size+1+1) #[.int .i64 0,.int .u64 0,.string ⟨#[]⟩,.slice none 0 0] rfl rfl _ _ HQ2'.out (by kernel_rfl) (by kernel_rfl) (by kernel_rfl) ?_;have HQ3s:=Lib.hid ((setRow_other w1 (w.heap.size+1+1) (w.heap.size+1+1+1) #[.int .i64 0,.int .u64 0,.string ⟨#[]⟩,.slice none 0 0] (by omega)).trans HQ3'.out);have c9:=cell_at (j:=0) (v:=.bool false) HQ3s.out rfl;have f9:=free_at (j:=0) HQ3s.out))
  have hl:=load_val (row_set (b':=w.heap.size+1+1+1) (j:=0) (v:=.bool false) (setRow_heap w1 (w.heap.size+1+1) _ #[.int .i64 0,.int .u64 0,.string ⟨#[]⟩,.slice none 0 0] _ _ HQ2'.out) (by omega))
  have hr:=load_bool (set_at (j:=0) (u:=.bool false) HQ3s.out)
  refine leavesM_nil (v:=.tuple #[.agg #[.int .i64 0,.int .u64 0,.string ⟨#[]⟩,.slice none 0 0],.bool false]) (by simp [results,Tryz.results49,asAddr,hl,hr]) ?_
  exact ⟨.nil,false,rfl,.inr ⟨rfl,rfl,rfl⟩,trivial,(below_setRow (HB0.out.trans (hb.mono (by omega))) (by omega) _).setCell (p:=⟨w.heap.size+1+1+1,0,none⟩) (by simp;omega) _⟩
 |some u=>
  have hT:hasT L len t=true:=by
   unfold endA at hE
   split at hE
   · assumption
   · cases hE
  obtain ⟨k,rfl,hk,hok⟩:=hasT_in hT
  have hv:=ok_all hok
  have hE2:endL L k (stepsL P n)=some u:=by unfold endA at hE;rw [hT] at hE;simpa using hE
  have hG:=end_ok hv _ _ _ hk hE2
  have e1:atA L len (k:Nat) (stepsL P n) T=atG L len (alongL L k (stepsL P n)) T:=by rw [haa,hE];rfl
  rw [hE] at HEND
  unfold endV at HEND
  have HE1:=Lib.hid e1
  have HQ0:=Lib.hid hq0
  have HQ1:=Lib.hid hq1
  have HQ2:=Lib.hid hq2
  have HQ3:=Lib.hid hq3
  clear haa e1 hE hE2 hq0 hq1 hq2 hq3
  refine calls_of_marks Tryz.func49 rfl ?_
  simp only [Tryz.ntmps49,List.size_toArray,List.length_cons,List.length_nil,Nat.reduceAdd,Nat.reduceSub,Array.replicate_succ,Array.replicate_zero,List.push_toArray,List.append_toArray,List.nil_append,List.cons_append]
  go_upto_region 1 with (fail)
  clear hB0
  have c0:=cell_at (j:=0) (v:=.slice ao len cap) HQ0.out rfl
  go_wp2_with (first
   |(go_at_call 92;refine (HEND.out _ HB0.out).mono ?_;rintro e w1 ⟨rfl,hb⟩;have HQ0':=Lib.hid (heap_keep HQ0.out hb);have HQ1':=Lib.hid (heap_keep HQ1.out hb);have HQ2':=Lib.hid (heap_keep HQ2.out hb);have HQ3':=Lib.hid (heap_keep HQ3.out hb);clear c0;have c0:=cell_at (j:=0) (v:=.slice ao len cap) HQ0'.out rfl;have hz:=hb.size)
   |(go_at_call 93;refine (HAL.out _).mono ?_;rintro e w2 ⟨rfl,rfl⟩))
  obtain ⟨W0,hW0,hz1,hb1,hl0,ht0,hp0⟩:=walk_boxes w1 ao len cap (k:Nat) pa n pc
  rw [hW0]
  have g0:=heap_keep HQ0'.out hb1
  have g1:=heap_keep HQ1'.out hb1
  have g2:=heap_keep HQ2'.out hb1
  have g3:=heap_keep HQ3'.out hb1
  have hbw:Below w.heap.size w W0:=(HB0.out.trans (hb.mono (by omega))).trans (hb1.mono (by omega))
  have HHO:=Lib.hid (fun wx (hb:Below w.heap.size w wx)=>hold HH.out hb)
  clear hW0 c0
  refine wp_range (gf:=129) (w0:=W0) rfl (enters_of Tryz.func129 (by kernel_rfl) rfl)
   (along12_stops w1.heap.size (w1.heap.size+3) (w1.heap.size+1) (w1.heap.size+2) w1.heap.size ao len cap L hlen hv k hk pa n pc P hn (okStep L len) hG w HH.out HPP.out W0 hbw (by omega) (by omega) (by omega) (by omega) (by omega) ht0 hp0 hl0)
   (fun h k=>h.trans k) (KpS.putObj (by omega) (by omega)) (Below.refl _ _) (fun _=>rfl)
   (fun pre W=>(∃ V:VT,W.heap[w.heap.size+1]?=some (.cells #[.int .i64 V.kind,.int .u64 V.num,.string V.text,.slice V.ia V.len V.cap] 30)∧ValAt w S V∧∀ r,atG L len (pre.map (·.1)++r) T=atG L len r V)∧W.heap[w.heap.size]?=some (.cells #[.slice ao len cap] 22)∧W.heap[w.heap.size+1+1]?=some (.cells #[.int .i64 0,.int .u64 0,.string ⟨#[]⟩,.slice none 0 0] 30)∧W.heap[w.heap.size+1+1+1]?=some (.cells #[.bool false] 4)∧Below w.heap.size w W∧W0.heap.size≤W.heap.size)
   (fun pre W=>(∀ r,atG L len (pre.map (·.1)++r) T=none)∧W.heap[w.heap.size+1+1]?=some (.cells #[.int .i64 0,.int .u64 0,.string ⟨#[]⟩,.slice none 0 0] 30)∧W.heap[w.heap.size+1+1+1]?=some (.cells #[.bool false] 4)∧Below w.heap.size w W)
   (fun pre X Y ⟨⟨V,h1,h1v,h2⟩,h3,h4,h5,h6,h8⟩ hst=>⟨⟨V,hst.same _ _ h1 (.inl rfl),h1v,h2⟩,hst.same _ _ h3 (.inl rfl),hst.same _ _ h4 (.inl rfl),hst.same _ _ h5 (.inl rfl),hst.below h6 (Nat.le_refl _) (by omega),Nat.le_trans h8 hst.size⟩)
   (fun pre X Y ⟨h2,h4,h5,h6⟩ hst=>⟨h2,hst.same _ _ h4 (.inl rfl),hst.same _ _ h5 (.inl rfl),hst.below h6 (Nat.le_refl _) (by omega)⟩)
   ⟨⟨T,g1,HVT.out,fun r=>rfl⟩,g0,g2,g3,hbw,Nat.le_refl _⟩ ?round ?done ?stop
  case round=>
   rintro l ⟨⟨a,s⟩,hx⟩ W K ⟨pre,⟨V,h1,h1v,h2⟩,h3,h4,h5,h6,h8⟩ hK
   simp only [stepVal]
   gi_wp2
   refine hK _ _ ((KeepsOthers.alloc _ _).from _) (KpS.of_below ((Below.refl _ _).alloc (Nat.le_refl _) _) (by omega) (by omega)) (Stays.alloc _ _) ?_
   have hs0:=alloc_at W (.cells #[.bool s.elem,.int .i64 s.n] 113)
   clear h1 h1v h2 h3 h4 h5 V
   rintro l2 pre2 W2 hst ⟨⟨V,h1,h1v,h2⟩,h3,h4,h5,h7,h9⟩ hl
   have hs1:=hst.same _ _ hs0 (.inl rfl)
   obtain ⟨hxa,hxb⟩:=hx
   have hn0:0≤s.n:=by unfold nextB at hxb;simp only [Bool.and_eq_true,decide_eq_true_eq] at hxb;exact hxb.1
   obtain ⟨j,hj⟩:=Int.eq_ofNat_of_zero_le hn0
   obtain ⟨o,ho⟩:∃ o,plcO L len a s V=o:=⟨_,rfl⟩
   have hsj:(⟨s.elem,(j:Nat)⟩:StepV)=s:=by rw [←hj]
   have HPL:=place12_any ao len cap L hlen a hxa s.elem j V W2 (HHO.out _ h7)
   rw [hsj,ho] at HPL
   unfold PlaceTo at HPL
   have HPL:=Lib.hid HPL
   have hen:∀ r,atG L len ((pre2.map (·.1)++[(a,s)])++r) T=o.elim none (fun i=>atG L len r (V.kid i)):=fun r=>by
    rw [List.append_assoc,h2,←ho];exact atG_cons _ _ _ _ _
   have HEN:=Lib.hid hen
   have HVV:=Lib.hid h1v
   have c0:=cell_at (j:=0) (v:=.slice ao len cap) h3 rfl
   have s0:=cell_at (j:=0) (v:=.bool s.elem) hs1 rfl
   have s1:W2.cell? ⟨_,1,none⟩=some (.int .i64 (j:Nat)):=cell_at (j:=1) hs1 (by rw [←hj];rfl)
   obtain ⟨d0,d1,d2,d3⟩:=bx4 h1
   have hWs:=hbw.size
   cases o with
   |none=>
    clear hen h2 hst hs0 hs1 ho hsj h1v hj hn0
    gi_wp2_with (first
     |(refine ⟨trivial,?_⟩;gi_at_call 94;refine (inRnd HPL.out).mono ?_;rintro e w4 ⟨i,rfl,hio,hb4⟩;have p2:=heap_keep h4 hb4;have p3:=heap_keep h5 hb4;obtain ⟨z0,f0,z1,f1,z2,f2,z3,f3⟩:=bf4 p2;have z9:=cell_at (j:=0) (v:=.bool false) p3 rfl;have f9:=free_at (j:=0) p3;clear d0 d1 d2 d3 c0 s0 s1))
    have hb6:Below w.heap.size w w4:=h7.trans (hb4.mono (by omega))
    have hkf:KeepsFrom W0.heap.size W2 w4:=KeepsFrom.of_below hb4
    exact ⟨((((hkf.trans ((KeepsOthers.setCell _ _ _).from _)).trans ((KeepsOthers.setCell _ _ _).from _)).trans ((KeepsOthers.setCell _ _ _).from _)).trans ((KeepsOthers.setCell _ _ _).from _)).trans ((KeepsOthers.setCell _ _ _).from _),rfl,
     fun r=>by have:=HEN.out r;simpa using this,row_set (set4_row p2) (by omega),set_at (j:=0) (u:=.bool false) (set4_oth p3 (by omega)),
     (set4_bel hb6 (by omega)).setCell (p:=⟨w.heap.size+1+1+1,0,none⟩) (by simp;omega) _⟩
   |some m=>
    have hm:m<V.len:=plc_lt ho hn0
    have hm2:decide (V.len≤m)=false:=by simp;omega
    clear hen h2 hst hs0 hs1 ho hsj h1v hj hn0
    gi_wp2_with (first
     |(refine ⟨trivial,?_⟩;gi_at_call 94;refine (inRnd HPL.out).mono ?_;rintro e w4 ⟨i,rfl,hio,hb4⟩;obtain rfl:=hio m rfl;have p1:=heap_keep h1 hb4;have p0:=heap_keep h3 hb4;have p2:=heap_keep h4 hb4;have p3:=heap_keep h5 hb4;have hb6:Below w.heap.size w w4:=h7.trans (hb4.mono (by omega));obtain ⟨⟨b',off',hia,_,_,y0,y1,y2,y3⟩,_⟩:=kids_at HVV.out hb6 hm;clear d0 d1 d2 d3 c0 s0 s1;obtain ⟨d0,f0,d1,f1,d2,f2,d3,f3⟩:=bf4 p1;rw [hia] at d3;have HIA:=Lib.hid hia;clear hia hio))
    have hkf:KeepsFrom W0.heap.size W2 w4:=KeepsFrom.of_below hb4
    exact ⟨(((hkf.trans ((KeepsOthers.setCell _ _ _).from _)).trans ((KeepsOthers.setCell _ _ _).from _)).trans ((KeepsOthers.setCell _ _ _).from _)).trans ((KeepsOthers.setCell _ _ _).from _),
     ((((KpS.of_below hb4 (by omega) (by omega)).trans (KpS.setCell _ _ (by omega) (by omega) (by omega))).trans (KpS.setCell _ _ (by omega) (by omega) (by omega))).trans (KpS.setCell _ _ (by omega) (by omega) (by omega))).trans (KpS.setCell _ _ (by omega) (by omega) (by omega)),
     ⟨V.kid m,set4_row p1,(((valAt_iff V).1 HVV.out).2 m hm).2,fun r=>by have:=HEN.out r;simpa using this⟩,set4_oth p0 (by omega),set4_oth p2 (by omega),set4_oth p3 (by omega),set4_bel hb6 (by omega),by have:=hb4.size;simp;omega⟩
  case done=>
   rintro D xs W hD hxs ⟨⟨V,h1,h1v,h2⟩,h3,h4,h5,h6,h9⟩ hdk
   have he:atG L len (alongL L k (stepsL P n)) T=some V:=by
    have:=h2 []
    rw [List.append_nil,hxs] at this
    exact this
   have HE:=Lib.hid he
   have HC:=copied12_any S V W (h1v.next h6)
   unfold PCopyTo at HC
   have HC:=Lib.hid HC
   obtain ⟨d0,d1,d2,d3⟩:=bx4 h1
   have HZ4:=Lib.hid h4
   have HZ5:=Lib.hid h5
   have HDK:=Lib.hid hdk
   have hWs:=hbw.size
   have hdlt:D<W.heap.size:=(Array.getElem?_eq_some_iff.1 hdk).1
   clear he h2 h1v h1 h4 h5 hdk h3
   go_wp2_with (first
    |(go_at_call 95;refine (HC.out).mono ?_;rintro e w4 ⟨U,rfl,hsm,hvu,hb4⟩;have HS:=Lib.hid hsm;have HVU:=Lib.hid hvu;have HB4:=Lib.hid hb4;have HY4:=Lib.hid (heap_keep HZ4.out hb4);have HY5:=Lib.hid (heap_keep HZ5.out hb4);have HD4:=Lib.hid (heap_keep HDK.out hb4);clear hsm hvu hb4)
    |(refine wpList_store_rowTo rfl 30 _ _ rfl rfl (w.heap.size+1+1) #[.int .i64 U.kind,.int .u64 U.num,.string U.text,.slice U.ia U.len U.cap] rfl rfl _ _ HY4.out (by kernel_rfl) (by kernel_rfl) (by kernel_rfl) ?_;have HQ3s:=Lib.hid ((setRow_other w4 (w.heap.size+1+1) (w.heap.size+1+1+1) #[.int .i64 U.kind,.int .u64 U.num,.string U.text,.slice U.ia U.len U.cap] (by omega)).trans HY5.out);have c9:=cell_at (j:=0) (v:=.bool false) HQ3s.out rfl;have f9:=free_at (j:=0) HQ3s.out))
   have hd4:((w4.setRow (w.heap.size+1+1) #[.int .i64 U.kind,.int .u64 U.num,.string U.text,.slice U.ia U.len U.cap]).setCell ⟨w.heap.size+1+1+1,0,none⟩ (.bool true)).heap[D]?=some (.deferred (some [])):=setC_def ((setRow_other w4 (w.heap.size+1+1) D #[.int .i64 U.kind,.int .u64 U.num,.string U.text,.slice U.ia U.len U.cap] (by omega)).trans HD4.out) (by omega)
   have hl:=load_val (putD_heap hd4 (row_set (b':=w.heap.size+1+1+1) (j:=0) (v:=.bool true) (setRow_heap w4 (w.heap.size+1+1) _ #[.int .i64 U.kind,.int .u64 U.num,.string U.text,.slice U.ia U.len U.cap] _ _ HY4.out) (by omega)))
   have hr:=load_bool (putD_heap hd4 (set_at (j:=0) (u:=.bool true) HQ3s.out))
   refine leavesM_mark (D:=D) hd4 ⟨.tuple #[.agg #[.int .i64 U.kind,.int .u64 U.num,.string U.text,.slice U.ia U.len U.cap],.bool true],by simp [results,Tryz.results49,asAddr,hl,hr],?_⟩
   refine ⟨U,true,rfl,.inl ⟨V,by rw [HE1.out,HE.out],rfl,HS.out⟩,?_,?_⟩
   · refine ValAt.held_of (fun b h=>by omega) (by simp [World.setRow]) (fun b h _=>?_) _ HVU.out
     rw [World.putObj_heap_other (by omega),Below.heap_setCell _ _ _ _ (by show b≠w.heap.size+1+1+1;omega),setRow_other _ _ _ _ (by omega)]
   · exact putD_below hd4 ((below_setRow (h6.trans (HB4.out.mono (by omega))) (by omega) _).setCell (p:=⟨w.heap.size+1+1+1,0,none⟩) (by simp;omega) _) (by omega)
  case stop=>
   rintro D pre W hD ⟨r,hr⟩ ⟨h2,h4,h5,h6⟩ hdk
   have he:atA L len (k:Nat) (stepsL P n) T=none:=by
    rw [HE1.out,hr];exact h2 r
   have hWs:=hbw.size
   have hl:=load_val (putD_heap hdk h4)
   have hrb:=load_bool (putD_heap hdk h5)
   refine leavesM_mark (D:=D) hdk ⟨.tuple #[.agg #[.int .i64 0,.int .u64 0,.string ⟨#[]⟩,.slice none 0 0],.bool false],by simp [results,Tryz.results49,asAddr,hl,hrb],?_⟩
   exact ⟨.nil,false,rfl,.inr ⟨he,rfl,rfl⟩,trivial,putD_below hdk h6 (by omega)⟩
end Go.Proofs.YthcompcjphaahaaGreatDoor.Pa
