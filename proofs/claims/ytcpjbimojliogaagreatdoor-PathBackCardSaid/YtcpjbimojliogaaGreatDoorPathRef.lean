/- Chapter 12's reference: the small parts. -/
import Derived.Test.YtcpjbimojliogaaGreatDoorPathOf
import Derived.Test.YtcpjbimojliogaaGreatDoorNameRef
import Derived.BigQuiet
namespace Go.Proofs.YtcpjbimojliogaaGreatDoor
open Go Go.RowKit
set_option linter.unusedVariables false

theorem known12_any (ao : Option Addr) (len cap : Nat) (L : Nat → TypeV) (t : Int) (hlen : len ≤ 1000000) (w : World) (H : ∀ i, i < len → TypeAt w ao i (L i)) :
    Calls Tryz.prog 25 #[.slice ao len cap, .int .i64 t] w fun e w' => e = .returned (.bool (hasT L len t)) ∧ Below w.heap.size w w' := by
  by_cases ht : 0 ≤ t ∧ t < len
  · obtain ⟨h0, h1⟩ := ht
    have hT : hasT L len t = (fErr (oneR L len) len == 0) := by
      unfold hasT inL
      rw [decide_eq_true h0, decide_eq_true h1]
      by_cases hE : fErr (oneR L len) len = 0
      · rw [hE, fAt_ok hE]; rfl
      · simp [hE]
    rw [hT]
    have hc := refCheck_any ao len cap L hlen w H
    have hfe := fault_err
    unfold faultV at hc
    obtain ⟨E, hE⟩ : ∃ E, fErr (oneR L len) len = E := ⟨_, rfl⟩
    obtain ⟨A, hA⟩ : ∃ A, fAt (oneR L len) len = A := ⟨_, rfl⟩
    rw [hE, hA] at hc
    rw [hE]
    obtain ⟨q, hq⟩ : ∃ q, (E == 0) = q := ⟨_, rfl⟩
    rw [hq]
    have HC := Lib.hid hc
    clear hc hE hA hT H
    go_enter Tryz.func25, Tryz.ntmps25
    go_wp2_with (go_at_call 40; refine HC.out.mono ?_; rintro e w1 ⟨rfl, hb1⟩; have HB1 := Lib.hid hb1; clear hb1)
    go_ret
    exact ⟨rfl, HB1.out⟩
  · have hT : hasT L len t = false := by unfold hasT; rw [inL_no ht]; rfl
    rw [hT]
    clear hT H
    by_cases h0 : 0 ≤ t
    · have h1 : ¬ t < len := fun h => ht ⟨h0, h⟩
      clear ht
      go_enter Tryz.func25, Tryz.ntmps25
      go_wp2
      go_ret
      exact ⟨rfl, Below.refl _ _⟩
    · clear ht
      go_enter Tryz.func25, Tryz.ntmps25
      go_wp2
      go_ret
      exact ⟨rfl, Below.refl _ _⟩

def sameS (a b : StepV) : Bool := (a.elem == b.elem) && (a.n == b.n)
theorem step_neq (a c : Bool) (b d : Int) (w : World) : (binOp .neq 56 (.agg #[.bool a, .int .i64 b]) (.agg #[.bool c, .int .i64 d])).run Tryz.prog w = .ok (.bool (!sameS ⟨a, b⟩ ⟨c, d⟩)) w := by
  have hu := Tryz.underlying56
  have hi := Tryz.underlying3
  have hb := Tryz.underlying4
  have p0 := fun a b w => run_equalIn_bool' (P := Tryz.prog) w 9998 4 a b hb
  have p1 := fun a c w => run_equalIn_int (P := Tryz.prog) w 9998 3 .i64 .i64 a c hi
  rw [run_neq_struct, run_equalIn_agg _ 9999 _ _ _ (by kernel_rfl) (by kernel_rfl)]
  simp only [Program.fieldsOf, hu]
  simp [Op.eqFields, go_sem, p0, p1]
  unfold sameS
  by_cases h1 : a = c <;> by_cases h2 : b = d <;> simp [h1, h2]
def samePB (A B : Nat → StepV) (n m : Nat) : Bool := n == m && !hasB (fun i => !sameS (A i) (B i)) n
set_option maxHeartbeats 1000000 in
theorem refSame12_any (aa ba : Option Addr) (n m ac bc : Nat) (A B : Nat → StepV) (hn : n ≤ 1000000) (w : World) (HA : ∀ i, i < n → StepAt w aa i (A i)) (HB : ∀ i, i < m → StepAt w ba i (B i)) :
    Calls Tryz.prog 12 #[.slice aa n ac, .slice ba m bc] w fun e w' => e = .returned (.bool (samePB A B n m)) ∧ Below w.heap.size w w' := by
  have hneq := step_neq
  by_cases hnm : n = m
  · subst hnm
    have kq : ((n : Int) != n) = false := by simp
    have e0 : samePB A B n n = !hasB (fun i => !sameS (A i) (B i)) n := by unfold samePB; simp
    rw [e0]
    have HAA := Lib.hid HA
    have HBB := Lib.hid HB
    clear HA HB e0
    go_enter Tryz.func12, Tryz.ntmps12
    go_wp2
    go_loopw [5] (fun i wr => ∃ k : Nat, k ≤ n ∧ i = .int .i64 k ∧ Hid (∀ j, j < k → (!sameS (A j) (B j)) = false) ∧ Below w.heap.size w wr) (fun i _ => n - (intOf i).toNat)
    case atStart => exact ⟨0, by omega, rfl, Lib.hid fun j hj => by omega, Below.refl _ _⟩
    case round =>
      obtain ⟨k, hk, rfl, H, hbl⟩ := hrel
      by_cases hlt : k < n
      · obtain ⟨ab, aof, rfl, a0, a1, -⟩ := (HAA.out k hlt).held hbl
        obtain ⟨bb, bof, rfl, b0, b1, -⟩ := (HBB.out k hlt).held hbl
        have hsm : sameS ⟨(A k).elem, (A k).n⟩ ⟨(B k).elem, (B k).n⟩ = sameS (A k) (B k) := rfl
        cases hq : sameS (A k) (B k)
        · rw [hq] at hsm
          go_wp2_with fail
          go_quiet (fail)
          go_wp2
          go_ret
          exact ⟨ret_b (by rw [hasB_some hlt (by rw [hq]; rfl)]; rfl), drewN_below hbl _⟩
        · rw [hq] at hsm
          go_wp2_with fail
          go_quiet (fail)
          go_wp2
          go_roundw
          case measure => simp [intOf]; omega
          case rel => exact ⟨k + 1, by omega, by go_num, Lib.hid (none_next H.out (by rw [hq]; rfl)), drewN_below hbl _⟩
      · obtain rfl : k = n := by omega
        go_wp2
        go_ret
        exact ⟨ret_b (by rw [hasB_none H.out]; rfl), hbl⟩
  · have kq : ((n : Int) != m) = true := by simp; omega
    have e0 : samePB A B n m = false := by unfold samePB; simp [hnm]
    rw [e0]
    clear e0 hnm
    go_enter Tryz.func12, Tryz.ntmps12
    go_wp2
    go_ret
    exact ⟨rfl, Below.refl _ _⟩

def rnextZ (T : TypeV) (s : StepV) : Int := if nextB T s then nextZ T s else -1
set_option maxRecDepth 100000 in
set_option maxHeartbeats 2000000 in
theorem refNext12_any (ao : Option Addr) (len cap : Nat) (L : Nat → TypeV) (hlen : len ≤ 1000000) (t : Nat) (ht : t < len) (s : StepV) (w : World) (H : ∀ i, i < len → TypeAt w ao i (L i)) :
    Calls Tryz.prog 35 #[.slice ao len cap, .int .i64 (t : Nat), stepVal s] w fun e w' => e = .returned (.int .i64 (rnextZ (L t) s)) ∧ Below w.heap.size w w' := by
  obtain ⟨b, off, hao, x0, x1, x2, x3, x4, x5, wf, hit⟩ := H t ht
  have hbl : b < w.heap.size := World.block_lt_of_cell? w _ x0
  have hne : ¬ b = w.heap.size := by omega
  have hne1 : ¬ b = w.heap.size + 1 := by omega
  clear H
  subst hao
  obtain ⟨T, hT⟩ : ∃ T, L t = T := ⟨_, rfl⟩
  rw [hT] at x0 x1 x2 x3 x4 x5 hit ⊢
  obtain ⟨el, sn⟩ := s
  have hr : rnextZ T ⟨el, sn⟩ = if nextB T ⟨el, sn⟩ then nextZ T ⟨el, sn⟩ else -1 := rfl
  have hn : nextB T ⟨el, sn⟩ = (decide (0 ≤ sn) && (if el then elK T.kind && decide (sn < T.bound) else itK T.kind && decide (sn < T.ilen))) := rfl
  have hz : nextB T ⟨el, sn⟩ = true → nextZ T ⟨el, sn⟩ = if el then T.of else (T.items sn.toNat).type := fun h => by unfold nextZ; rw [if_pos h]
  unfold stepVal
  have HB0 := Lib.hid (((Below.refl w.heap.size w).alloc (Nat.le_refl _) (.cells #[.bool el, .int .i64 sn] 56)).alloc (by simp) (.cells #[.int .i64 T.kind, .string T.name, .int .i64 T.bound, .int .i64 T.of, .int .i64 T.tag, .slice T.ia T.ilen T.icap] 52))
  obtain ⟨q11, h11⟩ : ∃ q, (T.kind == 11) = q := ⟨_, rfl⟩
  obtain ⟨q12, h12⟩ : ∃ q, (T.kind == 12) = q := ⟨_, rfl⟩
  obtain ⟨q13, h13⟩ : ∃ q, (T.kind == 13) = q := ⟨_, rfl⟩
  obtain ⟨q14, h14⟩ : ∃ q, (T.kind == 14) = q := ⟨_, rfl⟩
  obtain ⟨qb, hqb⟩ : ∃ q, decide (sn < T.bound) = q := ⟨_, rfl⟩
  obtain ⟨qi, hqi⟩ : ∃ q, decide (sn < (T.ilen : Int)) = q := ⟨_, rfl⟩
  unfold elK itK at hn
  rw [h11, h12, h13, h14, hqb, hqi] at hn
  by_cases hs : sn < 0
  · have k0 : decide (sn < 0) = true := by simp [hs]
    have e1 : rnextZ T ⟨el, sn⟩ = -1 := by rw [hr, hn, decide_eq_false (by omega)]; rfl
    rw [e1]
    clear hr hn hz e1
    go_enter Tryz.func35, Tryz.ntmps35
    go_wp2
    go_ret
    exact ⟨rfl, HB0.out⟩
  · have k0 : decide (sn < 0) = false := by simp; omega
    rw [decide_eq_true (by omega : 0 ≤ sn)] at hn
    obtain ⟨j, rfl⟩ := Int.eq_ofNat_of_zero_le (by omega : 0 ≤ sn)
    cases el
    · have hcs : (q13 || q14) = false ∨ qi = false ∨ ((q13 || q14) = true ∧ qi = true) := by cases (q13 || q14) <;> cases qi <;> simp
      rcases hcs with h | h | ⟨h, hi⟩
      · have e1 : rnextZ T ⟨false, j⟩ = -1 := by rw [hr, hn]; simp [h]
        obtain ⟨rfl, rfl⟩ : q13 = false ∧ q14 = false := by simpa using h
        rw [e1]
        clear hr hn hz e1 h
        go_enter Tryz.func35, Tryz.ntmps35
        go_wp2
        go_ret
        exact ⟨rfl, HB0.out⟩
      · have e1 : rnextZ T ⟨false, j⟩ = -1 := by rw [hr, hn]; simp [h]
        subst h
        have hqn : ¬ j < T.ilen := by have := of_decide_eq_false hqi; omega
        rw [e1]
        clear hr hn hz e1
        cases q13
        · cases q14
          · go_enter Tryz.func35, Tryz.ntmps35
            go_wp2
            go_ret
            exact ⟨rfl, HB0.out⟩
          · go_enter Tryz.func35, Tryz.ntmps35
            go_wp2
            go_ret
            exact ⟨rfl, HB0.out⟩
        · go_enter Tryz.func35, Tryz.ntmps35
          go_wp2
          go_ret
          exact ⟨rfl, HB0.out⟩
      · have hb : nextB T ⟨false, j⟩ = true := by rw [hn]; simp [h, hi]
        have e1 : rnextZ T ⟨false, j⟩ = (T.items j).type := by rw [hr, if_pos hb, hz hb]; simp
        have hjl : j < T.ilen := by have h9 := hqi.trans hi; have := of_decide_eq_true h9; omega
        obtain ⟨ib, io, hia, y0, y1, y2, y3, y4, wi⟩ := hit.2 j hjl
        have hbl2 : ib < w.heap.size := World.block_lt_of_cell? w _ y0
        have hne2 : ¬ ib = w.heap.size := by omega
        have hne3 : ¬ ib = w.heap.size + 1 := by omega
        rw [hia] at x5 HB0
        have hjl2 : ((j : Nat) : Int) < ((T.ilen : Nat) : Int) := by exact_mod_cast hjl
        have hj0 : (0 : Int) ≤ ((j : Nat) : Int) := by omega
        have y9 := keep6 HB0.out y2
        subst hi
        rw [e1]
        clear hr hn hz e1 hb
        cases q13
        · obtain rfl : q14 = true := by simpa using h
          go_enter Tryz.func35, Tryz.ntmps35
          go_wp2
          go_ret
          exact ⟨rfl, HB0.out⟩
        · go_enter Tryz.func35, Tryz.ntmps35
          go_wp2
          go_ret
          exact ⟨rfl, HB0.out⟩
    · have hcs : (q11 || q12) = false ∨ qb = false ∨ ((q11 || q12) = true ∧ qb = true) := by cases (q11 || q12) <;> cases qb <;> simp
      rcases hcs with h | h | ⟨h, hi⟩
      · have e1 : rnextZ T ⟨true, j⟩ = -1 := by rw [hr, hn]; simp [h]
        obtain ⟨rfl, rfl⟩ : q11 = false ∧ q12 = false := by simpa using h
        rw [e1]
        clear hr hn hz e1 h
        go_enter Tryz.func35, Tryz.ntmps35
        go_wp2
        go_ret
        exact ⟨rfl, HB0.out⟩
      · have e1 : rnextZ T ⟨true, j⟩ = -1 := by rw [hr, hn]; simp [h]
        subst h
        rw [e1]
        clear hr hn hz e1
        cases q11
        · cases q12
          · go_enter Tryz.func35, Tryz.ntmps35
            go_wp2
            go_ret
            exact ⟨rfl, HB0.out⟩
          · go_enter Tryz.func35, Tryz.ntmps35
            go_wp2
            go_ret
            exact ⟨rfl, HB0.out⟩
        · go_enter Tryz.func35, Tryz.ntmps35
          go_wp2
          go_ret
          exact ⟨rfl, HB0.out⟩
      · have hb : nextB T ⟨true, j⟩ = true := by rw [hn]; simp [h, hi]
        have e1 : rnextZ T ⟨true, j⟩ = T.of := by rw [hr, if_pos hb, hz hb]; rfl
        subst hi
        rw [e1]
        clear hr hn hz e1 hb
        cases q11
        · obtain rfl : q12 = true := by simpa using h
          go_enter Tryz.func35, Tryz.ntmps35
          go_wp2
          go_ret
          exact ⟨rfl, HB0.out⟩
        · go_enter Tryz.func35, Tryz.ntmps35
          go_wp2
          go_ret
          exact ⟨rfl, HB0.out⟩
end Go.Proofs.YtcpjbimojliogaaGreatDoor
