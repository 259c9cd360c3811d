/- The steps of a path, passed on one by one with the types that they are steps of. -/
import Derived.Test.YtcpjbimojliogaaGreatDoorPathPieces
import Derived.Test.YtcpjbimojliogaaGreatDoorPathSteps
namespace Go.Proofs.YtcpjbimojliogaaGreatDoor
open Go Go.RowKit Go.Shelf
set_option linter.unusedVariables false
attribute [local go_sem] Oper.semAt_some

theorem has12_any (ao : Option Addr) (len cap : Nat) (L : Nat → TypeV) (t : Int) (hlen : len ≤ 1000000) (hcap : len ≤ cap) (w : World) (H : ∀ i, i < len → TypeAt w ao i (L i)) :
    Calls Tryz.prog 20 #[.slice ao len cap, .int .i64 t] w fun e w' => e = .returned (.bool (hasT L len t)) ∧ Below w.heap.size w w' := by
  by_cases ht : 0 ≤ t ∧ t < len
  · obtain ⟨h0, h1⟩ := ht
    have hT : hasT L len t = ((fErr (oneR L len) len == 0) && (fAt (oneR L len) len == 0)) := by unfold hasT inL; rw [decide_eq_true h0, decide_eq_true h1]; rfl
    rw [hT]
    have hc := check6_any ao len cap L hlen hcap w H
    rw [fault_same] at hc
    unfold faultV at hc
    obtain ⟨E, hE⟩ : ∃ E, fErr (oneR L len) len = E := ⟨_, rfl⟩
    obtain ⟨A, hA⟩ : ∃ A, fAt (oneR L len) len = A := ⟨_, rfl⟩
    rw [hE, hA] at hc ⊢
    have hfe := fun w => fault_zero9 E A w
    obtain ⟨q, hq⟩ : ∃ q, ((E == 0) && (A == 0)) = q := ⟨_, rfl⟩
    rw [hq] at hfe ⊢
    have HC := Lib.hid hc
    clear hc hE hA hT hq H
    go_enter Tryz.func20, Tryz.ntmps20
    go_wp2_with (go_at_call 17; refine HC.out.mono ?_; rintro e w1 ⟨rfl, hb1⟩; have HB1 := Lib.hid hb1; clear hb1)
    go_ret
    exact ⟨rfl, HB1.out⟩
  · have hT : hasT L len t = false := by unfold hasT; rw [inL_no ht]; rfl
    rw [hT]
    clear hT H
    by_cases h0 : 0 ≤ t
    · have h1 : ¬ t < len := fun h => ht ⟨h0, h⟩
      clear ht
      go_enter Tryz.func20, Tryz.ntmps20
      go_wp2
      go_ret
      exact ⟨rfl, Below.refl _ _⟩
    · clear ht
      go_enter Tryz.func20, Tryz.ntmps20
      go_wp2
      go_ret
      exact ⟨rfl, Below.refl _ _⟩

def StepAt (w : World) (pa : Option Addr) (i : Nat) (s : StepV) : Prop :=
  ∃ b off, pa = some ⟨b, off, none⟩ ∧ w.cell? ⟨b, off + i * 2, none⟩ = some (.bool s.elem) ∧ w.cell? ⟨b, off + i * 2 + 1, none⟩ = some (.int .i64 s.n) ∧ (Lit.int .i64 s.n).wf = true
theorem StepAt.held {w w1 : World} {pa : Option Addr} {i : Nat} {s : StepV} (h : StepAt w pa i s) (hb : Below w.heap.size w w1) : StepAt w1 pa i s := by
  obtain ⟨b, off, e, h0, h1, r⟩ := h
  exact ⟨b, off, e, keep6 hb h0, keep6 hb h1, r⟩
theorem holdP {w : World} {pa : Option Addr} {n : Nat} {P : Nat → StepV} (H : ∀ i, i < n → StepAt w pa i (P i)) {wx : World} (hb : Below w.heap.size w wx) : ∀ i, i < n → StepAt wx pa i (P i) := fun i hi => (H i hi).held hb

def nextN (L : Nat → TypeV) (t : Nat) (s : StepV) : Nat := (nextZ (L t) s).toNat
def alongL (L : Nat → TypeV) : Nat → List StepV → List (Nat × StepV)
  | _, [] => []
  | t, s :: r => (t, s) :: alongL L (nextN L t s) r
def stepsL (P : Nat → StepV) (n : Nat) : List StepV := (List.range n).map P
theorem stepsL_len (P : Nat → StepV) (n : Nat) : (stepsL P n).length = n := by simp [stepsL]
theorem stepsL_drop (P : Nat → StepV) {k n : Nat} (h : k < n) : (stepsL P n).drop k = P k :: (stepsL P n).drop (k + 1) := by
  rw [List.drop_eq_getElem_cons (by rw [stepsL_len]; exact h)]
  simp [stepsL]
theorem next_part {L : Nat → TypeV} {len t : Nat} {s : StepV} (hv : ∀ i, i < len → OkT L i) (ht : t < len) : 0 ≤ nextZ (L t) s ∧ nextN L t s < len := by
  unfold nextN nextZ
  have ok := hv t ht
  split
  · rename_i hb
    unfold nextB at hb
    split
    · rename_i he
      rw [if_pos he] at hb
      simp only [elK, Bool.and_eq_true, Bool.or_eq_true, beq_iff_eq] at hb
      have := ok.of hb.2.1
      omega
    · rename_i he
      rw [if_neg he] at hb
      simp only [itK, Bool.and_eq_true, Bool.or_eq_true, beq_iff_eq, decide_eq_true_eq] at hb
      have := ok.items hb.2.1 s.n.toNat (by omega)
      omega
  · omega

theorem along12_any (ao : Option Addr) (len cap : Nat) (t : Int) (pa : Option Addr) (n pc : Nat) (w : World) : Calls Tryz.prog 29 #[.slice ao len cap, .int .i64 t, .slice pa n pc] w fun e w' =>
    e = .returned (.func (.func 55) #[] #[.pointer (some ⟨w.heap.size + 1, 0, none⟩), .pointer (some ⟨w.heap.size + 2, 0, none⟩), .pointer (some ⟨w.heap.size, 0, none⟩)]) ∧
    w' = ((w.alloc (.cells #[.slice ao len cap] 22)).alloc (.cells #[.int .i64 t] 3)).alloc (.cells #[.slice pa n pc] 25) := by
  have hmf' := hmf
  go_enter Tryz.func29, Tryz.ntmps29
  go_wp2
  go_ret
  exact ⟨rfl, rfl⟩

theorem KpM.cell {m b1 b2 b j : Nat} {X Y : World} {v : Value} (h : KpM m b1 b2 X Y) (h1 : b1 ≤ b) (h2 : b < b2) (hc : X.cell? ⟨b, j, none⟩ = some v) : Y.cell? ⟨b, j, none⟩ = some v :=
  (World.cell?_of_block (a := ⟨b, j, none⟩) (h.mid b h1 h2)).trans hc
set_option maxRecDepth 100000 in
set_option maxHeartbeats 4000000 in
theorem along12_run (l b1 b2 tB pB lB : Nat) (ao : Option Addr) (len cap : Nat) (L : Nat → TypeV) (hlen : len ≤ 1000000) (hv : ∀ i, i < len → OkT L i) (t : Nat) (ht : t < len) (pa : Option Addr) (n pc : Nat) (P : Nat → StepV) (hn : n ≤ 1000000)
    (G : Nat × StepV → Prop) (hG : ∀ x, x ∈ alongL L t (stepsL P n) → G x) (wb : World) (H : ∀ i, i < len → TypeAt wb ao i (L i)) (HP : ∀ i, i < n → StepAt wb pa i (P i))
    (J Jx : List {x : Nat × StepV // G x} → World → Prop) (W : World) (hbW : Below wb.heap.size wb W) (hb1 : wb.heap.size ≤ b1) (hbt : b1 ≤ tB ∧ tB < b2) (hbp : b1 ≤ pB ∧ pB < b2) (hbl : b1 ≤ lB ∧ lB < b2) (hbs : b2 ≤ W.heap.size) (hJ : AbidesFrom W.heap.size J)
    (hY : ∀ pre x W, J pre W → pre.length < n → YieldAt Fence.wide 1 Tryz.prog l #[.int .i64 (x.1.1 : Nat), stepVal x.1.2] W fun e W' =>
      (e = .returned (.bool true) ∧ J (pre ++ [x]) W' ∧ KpS wb.heap.size b1 b2 W W') ∨ (e = .returned (.bool false) ∧ Jx (pre ++ [x]) W'))
    (hT : W.cell? ⟨tB, 0, none⟩ = some (.int .i64 (t : Nat))) (hP : W.cell? ⟨pB, 0, none⟩ = some (.slice pa n pc)) (hL : W.cell? ⟨lB, 0, none⟩ = some (.slice ao len cap)) (h0 : J [] W) :
    CallsIn Fence.wide 2 Tryz.prog 55 #[.func (.yield l) #[] #[], .pointer (some ⟨tB, 0, none⟩), .pointer (some ⟨pB, 0, none⟩), .pointer (some ⟨lB, 0, none⟩)] W fun e W' => (∃ v, e = .returned v) ∧
      ((∃ xs : List {x : Nat × StepV // G x}, xs.map (·.1) = alongL L t (stepsL P n) ∧ J xs W') ∨ (∃ pre : List {x : Nat × StepV // G x}, (∃ r, alongL L t (stepsL P n) = pre.map (·.1) ++ r) ∧ Jx pre W')) := by
  have hmix : Tryz.prog.follows .mixedOrders = true := by kernel_rfl
  have HH := Lib.hid H
  have HPP := Lib.hid HP
  have HJA := Lib.hid hJ
  have HY := Lib.hid hY
  have HG := Lib.hid hG
  clear H HP hJ hY hG
  refine callsIn_of_wp Tryz.func55 rfl trivial ?_ rfl
  simp only [Tryz.ntmps55, List.size_toArray, List.length_cons, List.length_nil, Nat.reduceAdd, Nat.reduceSub, Array.replicate_succ, Array.replicate_zero, List.push_toArray, List.append_toArray, List.nil_append, List.cons_append]
  gi_wp2
  gi_loopw [5, 11] (fun a p wr => ∃ (pre : List {x : Nat × StepV // G x}) (k tk : Nat), a = .int .i64 (tk : Nat) ∧ p = .int .i64 (k : Nat) ∧ k ≤ n ∧ tk < len ∧ pre.length = k ∧ alongL L t (stepsL P n) = pre.map (·.1) ++ alongL L tk ((stepsL P n).drop k) ∧ J pre wr ∧ KpS wb.heap.size b1 b2 W wr)
    (fun _ p _ => n - (intOf p).toNat)
  case atStart => exact ⟨[], 0, t, rfl, rfl, by omega, ht, rfl, rfl, h0, KpS.refl _ _ _ _⟩
  case round =>
    obtain ⟨pre, k, tk, rfl, rfl, hk, htk, hpl, hx, hJs, hks⟩ := hrel
    by_cases hlt : k < n
    · have hd : decide ((k : Int) < n) = true := by simp; omega
      have hbr : Below wb.heap.size wb wr := hbW.trans hks.kept.below
      obtain ⟨pb, po, rfl, s0, s1, swf⟩ := holdP HPP.out hbr k hlt
      rw [stepsL_drop P hlt] at hx
      have hg : G (tk, P k) := HG.out _ (by rw [hx]; exact List.mem_append_right _ (List.mem_cons_self ..))
      have HX := Lib.hid hx
      have hb2 : Below wr.heap.size wr (wr.alloc (.cells #[.bool (P k).elem, .int .i64 (P k).n] 56)) := (Below.refl _ _).alloc (Nat.le_refl _) _
      obtain ⟨fn, tmps, assign, body, hy, hR⟩ := HY.out pre ⟨(tk, P k), hg⟩ (wr.alloc (.cells #[.bool (P k).elem, .int .i64 (P k).n] 56)) (HJA.out pre wr _ none hJs (grown_below12 hb2) (fun r h => by cases h)) (by omega)
      simp only [stepVal] at hy
      clear hx
      gi_wp2
      refine hR.mono ?_
      clear hR hy
      rintro e W3 (⟨rfl, hJ3, hk3⟩ | ⟨rfl, hJx3⟩)
      · have hk03 : KpS wb.heap.size b1 b2 W W3 := hks.trans ((KpS.of_below hb2 (by have := hbr.size; omega) (by have := hks.kept.below.size; omega)).trans hk3)
        have cL := hk03.kept.cell hbl.1 hbl.2 hL
        obtain ⟨tb, tf, rfl, x0, x1, x2, x3, x4, x5, wf, hit⟩ := hold HH.out (hbW.trans hk03.kept.below) tk htk
        have hrow := hk3.row wr.heap.size _ _ (by have := hks.kept.below.size; omega) (alloc_at wr (.cells #[.bool (P k).elem, .int .i64 (P k).n] 56))
        have r0 := cell_at (j := 0) hrow rfl
        have r1 := cell_at (j := 1) hrow rfl
        have HN := Lib.hid (next12_any (L tk) (P k) W3.drew (hit.held ((Below.refl _ _).drew)))
        obtain ⟨hz0, hz1⟩ := next_part (s := P k) hv htk
        have hz2 : nextZ (L tk) (P k) = ((nextN L tk (P k) : Nat) : Int) := by unfold nextN; omega
        rw [hz2] at HN
        unfold typV stepVal at HN
        clear hrow
        gi_wp2
        gi_region_with_o (refine ⟨trivial, ?_⟩; gi_at_call 24; refine (inWide HN.out).mono ?_; rintro e w4 ⟨rfl, hb4⟩)
        all_goals
          have hb5 : Below W3.heap.size W3 w4 := ((Below.refl _ W3).drew).trans hb4
          have hk5 : KpS wb.heap.size b1 b2 W w4 := hk03.trans (KpS.of_below hb5 (by have := hbW.size; have := hk03.kept.below.size; omega) (by have := hk03.kept.below.size; omega))
          gi_wp2
          go_roundw
          case rel => exact ⟨pre ++ [⟨(tk, P k), hg⟩], k + 1, nextN L tk (P k), rfl, by go_num, by omega, hz1, by simp [hpl], by rw [HX.out]; simp [alongL], HJA.out _ _ _ none hJ3 (grown_below12 hb5) (fun r h => by cases h), hk5⟩
          case measure => simp [intOf]; omega
      · gi_wp2
        refine bodyPost_ret (results_none rfl _ _ _) rfl ?_
        exact ⟨⟨_, rfl⟩, .inr ⟨_, ⟨alongL L (nextN L tk (P k)) ((stepsL P n).drop (k + 1)), by rw [HX.out]; simp [alongL]⟩, hJx3⟩⟩
    · have hd : decide ((k : Int) < n) = false := by simp; omega
      gi_wp2
      go_end0
      exact ⟨⟨_, rfl⟩, .inl ⟨_, by rw [hx, List.drop_eq_nil_of_le (by rw [stepsL_len]; omega)]; simp [alongL], hJs⟩⟩
theorem along12_stops (b1 b2 tB pB lB : Nat) (ao : Option Addr) (len cap : Nat) (L : Nat → TypeV) (hlen : len ≤ 1000000) (hv : ∀ i, i < len → OkT L i) (t : Nat) (ht : t < len) (pa : Option Addr) (n pc : Nat) (P : Nat → StepV) (hn : n ≤ 1000000)
    (G : Nat × StepV → Prop) (hG : ∀ x, x ∈ alongL L t (stepsL P n) → G x) (wb : World) (H : ∀ i, i < len → TypeAt wb ao i (L i)) (HP : ∀ i, i < n → StepAt wb pa i (P i))
    (w : World) (hbw : Below wb.heap.size wb w) (hb1 : wb.heap.size ≤ b1) (hbt : b1 ≤ tB ∧ tB < b2) (hbp : b1 ≤ pB ∧ pB < b2) (hbl : b1 ≤ lB ∧ lB < b2) (hbs : b2 ≤ w.heap.size)
    (hT : w.cell? ⟨tB, 0, none⟩ = some (.int .i64 (t : Nat))) (hP : w.cell? ⟨pB, 0, none⟩ = some (.slice pa n pc)) (hL : w.cell? ⟨lB, 0, none⟩ = some (.slice ao len cap)) :
    SeqStopsK Fence.wide 2 Tryz.prog 55 #[.pointer (some ⟨tB, 0, none⟩), .pointer (some ⟨pB, 0, none⟩), .pointer (some ⟨lB, 0, none⟩)] (fun x : {x : Nat × StepV // G x} => #[.int .i64 (x.1.1 : Nat), stepVal x.1.2]) (KpS wb.heap.size b1 b2)
      (fun xs => xs.map (·.1) = alongL L t (stepsL P n)) (fun pre => ∃ r, alongL L t (stepsL P n) = pre.map (·.1) ++ r) n w :=
  fun l J Jx W hW hJ _ hY h0 => along12_run l b1 b2 tB pB lB ao len cap L hlen hv t ht pa n pc P hn G hG wb H HP J Jx W (hbw.trans (hW.mono hbw.size)) hb1 hbt hbp hbl (Nat.le_trans hbs hW.size) hJ hY
    ((hW.cell (p := ⟨tB, 0, none⟩) (World.block_lt_of_cell? w _ hT)).trans hT) ((hW.cell (p := ⟨pB, 0, none⟩) (World.block_lt_of_cell? w _ hP)).trans hP) ((hW.cell (p := ⟨lB, 0, none⟩) (World.block_lt_of_cell? w _ hL)).trans hL) h0
end Go.Proofs.YtcpjbimojliogaaGreatDoor
