/- Contracts of word.Put and of the reference's Put. -/
import Derived.Test.YtficmdomnilhnaaGreatWordRef
import Derived.Test.YtficmdomnilhnaaGreatAlignMath
import Derived.LoopN
import Derived.Handy
import Derived.OpenShut
namespace Go.Proofs.YtficmdomnilhnaaGreat
open Go.RowKit
theorem below_step {B : Nat} {w w1 w2 : World} (h : Below B w w1) (k : Below w1.heap.size w1 w2) (hB : B ≤ w.heap.size := by exact Nat.le_refl _) : Below B w w2 := h.trans (k.mono (Nat.le_trans hB h.size))
theorem put_1 (n : Int) (hn : (Lit.int .u64 n).wf = true) (hz : (lowZ n 1 != n) = false) (w : World) : Calls Tryz.prog 140 #[.int .u64 n, .int .i64 1] w fun e w' => e = .returned (.tuple #[.string (putS n 1), .int .i64 0]) ∧ Below w.heap.size w w' := by
  obtain ⟨hn0, hn1⟩ := bounds_u64 hn
  clear hn
  have hmk := mk1
  have hcv := conv1
  go_enter Tryz.func140, Tryz.ntmps140
  go_wp2_with (first | (go_at_call 144; refine (isSize_any _ _).mono ?_; rintro e w' ⟨rfl, rfl⟩) | (go_at_call 145; refine (lowest_any _ _ (by rfl) _).mono ?_; rintro e w1 ⟨rfl, hq⟩; have hb1 := below_quiet hq; clear hq))
  go_rounds 2
  go_ret2
  exact ⟨ret_si (putS1 n) rfl, hb1.alloc hb1.size _⟩
theorem put_2 (n : Int) (hn : (Lit.int .u64 n).wf = true) (hz : (lowZ n 2 != n) = false) (w : World) : Calls Tryz.prog 140 #[.int .u64 n, .int .i64 2] w fun e w' => e = .returned (.tuple #[.string (putS n 2), .int .i64 0]) ∧ Below w.heap.size w w' := by
  obtain ⟨hn0, hn1⟩ := bounds_u64 hn
  clear hn
  have hmk := mk2
  have hcv := conv2
  go_enter Tryz.func140, Tryz.ntmps140
  go_wp2_with (first | (go_at_call 144; refine (isSize_any _ _).mono ?_; rintro e w' ⟨rfl, rfl⟩) | (go_at_call 145; refine (lowest_any _ _ (by rfl) _).mono ?_; rintro e w1 ⟨rfl, hq⟩; have hb1 := below_quiet hq; clear hq))
  go_rounds 3
  go_ret2
  exact ⟨ret_si (putS2 n) rfl, hb1.alloc hb1.size _⟩
theorem put_4 (n : Int) (hn : (Lit.int .u64 n).wf = true) (hz : (lowZ n 4 != n) = false) (w : World) : Calls Tryz.prog 140 #[.int .u64 n, .int .i64 4] w fun e w' => e = .returned (.tuple #[.string (putS n 4), .int .i64 0]) ∧ Below w.heap.size w w' := by
  obtain ⟨hn0, hn1⟩ := bounds_u64 hn
  clear hn
  have hmk := mk4
  have hcv := conv4
  go_enter Tryz.func140, Tryz.ntmps140
  go_wp2_with (first | (go_at_call 144; refine (isSize_any _ _).mono ?_; rintro e w' ⟨rfl, rfl⟩) | (go_at_call 145; refine (lowest_any _ _ (by rfl) _).mono ?_; rintro e w1 ⟨rfl, hq⟩; have hb1 := below_quiet hq; clear hq))
  go_rounds 5
  go_ret2
  exact ⟨ret_si (putS4 n) rfl, hb1.alloc hb1.size _⟩
theorem put_8 (n : Int) (hn : (Lit.int .u64 n).wf = true) (hz : (lowZ n 8 != n) = false) (w : World) : Calls Tryz.prog 140 #[.int .u64 n, .int .i64 8] w fun e w' => e = .returned (.tuple #[.string (putS n 8), .int .i64 0]) ∧ Below w.heap.size w w' := by
  obtain ⟨hn0, hn1⟩ := bounds_u64 hn
  clear hn
  have hmk := mk8
  have hcv := conv8
  go_enter Tryz.func140, Tryz.ntmps140
  go_wp2_with (first | (go_at_call 144; refine (isSize_any _ _).mono ?_; rintro e w' ⟨rfl, rfl⟩) | (go_at_call 145; refine (lowest_any _ _ (by rfl) _).mono ?_; rintro e w1 ⟨rfl, hq⟩; have hb1 := below_quiet hq; clear hq))
  go_rounds 9
  go_ret2
  exact ⟨ret_si (putS8' n hn0 hn1) rfl, hb1.alloc hb1.size _⟩
theorem put_any (n z : Int) (hn : (Lit.int .u64 n).wf = true) (w : World) : Calls Tryz.prog 140 #[.int .u64 n, .int .i64 z] w fun e w' => e = .returned (.tuple #[.string (putB n z), .int .i64 (putE n z)]) ∧ Below w.heap.size w w' := by
  cases hz : isSz z with
  | false =>
    rw [(put_no hz).1, (put_no hz).2]
    go_enter Tryz.func140, Tryz.ntmps140
    go_wp2_with (go_at_call 144; refine (isSize_any _ _).mono ?_; rintro e w' ⟨rfl, rfl⟩)
    go_ret2
    exact ⟨rfl, Below.refl _ _⟩
  | true =>
    have hlow := fits_low hz (bounds_u64 hn).1
    cases hf : fits n z with
    | false =>
      rw [hf] at hlow
      rw [(put_out hz hf).1, (put_out hz hf).2]
      go_enter Tryz.func140, Tryz.ntmps140
      go_wp2_with (first | (go_at_call 144; refine (isSize_any _ _).mono ?_; rintro e w' ⟨rfl, rfl⟩) | (go_at_call 145; refine (lowest_any _ _ hz _).mono ?_; rintro e w1 ⟨rfl, hq⟩; have hb1 := below_quiet hq; clear hq))
      go_ret2
      exact ⟨rfl, hb1⟩
    | true =>
      rw [hf] at hlow
      rw [(put_in hz hf).1, (put_in hz hf).2]
      rcases isSz_cases hz with rfl | rfl | rfl | rfl
      · exact put_1 n hn hlow w
      · exact put_2 n hn hlow w
      · exact put_4 n hn hlow w
      · exact put_8 n hn hlow w
theorem refByte (n : Int) (w : World) (h0 : 0 ≤ n) (h1 : n ≤ 255) : Calls Tryz.prog 30 #[.int .i64 n] w fun e w' => e = .returned (.string (bytesOf [n])) ∧ Below w.heap.size w w' := by
  have hcv := conv1
  go_enter Tryz.func30, Tryz.ntmps30
  go_wp2
  go_ret
  exact ⟨rfl, (Below.refl _ _).alloc (Nat.le_refl _) _⟩
theorem refPut_1 (n : Int) (hn : (Lit.int .u64 n).wf = true) (w : World) : Calls Tryz.prog 62 #[.int .u64 n, .int .i64 1] w fun e w' => e = .returned (.tuple #[.string (putB n 1), .int .i64 (putE n 1)]) ∧ Below w.heap.size w w' := by
  obtain ⟨hn0, hn1⟩ := bounds_u64 hn
  clear hn
  have hrefl := Below.refl w.heap.size w
  go_enter Tryz.func62, Tryz.ntmps62
  go_wp2_with (first | (go_at_call 47; refine (refSized_any _ _).mono ?_; rintro e w' ⟨rfl, rfl⟩))
  refine wp_loop_rounds 2 ?_
  repeat any_goals (rw [rounds_succ]; go_wp2_with (first | (go_at_call 30; refine (refByte _ _ (by omega) (by omega)).mono ?_; rintro e w1 ⟨rfl, hb⟩; have hrefl := below_step hrefl hb; clear hb)))
  · have hc : (n / 256 != 0) = true := by assumption
    go_ret2
    exact ⟨ret_si (refputE1 n hn0 hc).1.symm (refputE1 n hn0 hc).2.symm, hrefl⟩
  · have hc : (n / 256 != 0) = false := by assumption
    go_ret2
    exact ⟨ret_si (refputB1 n hn0 hc).1 (refputB1 n hn0 hc).2.symm, hrefl⟩
theorem refPut_2 (n : Int) (hn : (Lit.int .u64 n).wf = true) (w : World) : Calls Tryz.prog 62 #[.int .u64 n, .int .i64 2] w fun e w' => e = .returned (.tuple #[.string (putB n 2), .int .i64 (putE n 2)]) ∧ Below w.heap.size w w' := by
  obtain ⟨hn0, hn1⟩ := bounds_u64 hn
  clear hn
  have hrefl := Below.refl w.heap.size w
  go_enter Tryz.func62, Tryz.ntmps62
  go_wp2_with (first | (go_at_call 47; refine (refSized_any _ _).mono ?_; rintro e w' ⟨rfl, rfl⟩))
  refine wp_loop_rounds 3 ?_
  repeat any_goals (rw [rounds_succ]; go_wp2_with (first | (go_at_call 30; refine (refByte _ _ (by omega) (by omega)).mono ?_; rintro e w1 ⟨rfl, hb⟩; have hrefl := below_step hrefl hb; clear hb)))
  · have hc : (n / 256 / 256 != 0) = true := by assumption
    go_ret2
    exact ⟨ret_si (refputE2 n hn0 hc).1.symm (refputE2 n hn0 hc).2.symm, hrefl⟩
  · have hc : (n / 256 / 256 != 0) = false := by assumption
    go_ret2
    exact ⟨ret_si (refputB2 n hn0 hc).1 (refputB2 n hn0 hc).2.symm, hrefl⟩
theorem refPut_4 (n : Int) (hn : (Lit.int .u64 n).wf = true) (w : World) : Calls Tryz.prog 62 #[.int .u64 n, .int .i64 4] w fun e w' => e = .returned (.tuple #[.string (putB n 4), .int .i64 (putE n 4)]) ∧ Below w.heap.size w w' := by
  obtain ⟨hn0, hn1⟩ := bounds_u64 hn
  clear hn
  have hrefl := Below.refl w.heap.size w
  go_enter Tryz.func62, Tryz.ntmps62
  go_wp2_with (first | (go_at_call 47; refine (refSized_any _ _).mono ?_; rintro e w' ⟨rfl, rfl⟩))
  refine wp_loop_rounds 5 ?_
  repeat any_goals (rw [rounds_succ]; go_wp2_with (first | (go_at_call 30; refine (refByte _ _ (by omega) (by omega)).mono ?_; rintro e w1 ⟨rfl, hb⟩; have hrefl := below_step hrefl hb; clear hb)))
  · have hc : (n / 256 / 256 / 256 / 256 != 0) = true := by assumption
    go_ret2
    exact ⟨ret_si (refputE4 n hn0 hc).1.symm (refputE4 n hn0 hc).2.symm, hrefl⟩
  · have hc : (n / 256 / 256 / 256 / 256 != 0) = false := by assumption
    go_ret2
    exact ⟨ret_si (refputB4 n hn0 hc).1 (refputB4 n hn0 hc).2.symm, hrefl⟩
theorem refPut_8 (n : Int) (hn : (Lit.int .u64 n).wf = true) (w : World) : Calls Tryz.prog 62 #[.int .u64 n, .int .i64 8] w fun e w' => e = .returned (.tuple #[.string (putB n 8), .int .i64 (putE n 8)]) ∧ Below w.heap.size w w' := by
  obtain ⟨hn0, hn1⟩ := bounds_u64 hn
  clear hn
  have hrefl := Below.refl w.heap.size w
  go_enter Tryz.func62, Tryz.ntmps62
  go_wp2_with (first | (go_at_call 47; refine (refSized_any _ _).mono ?_; rintro e w' ⟨rfl, rfl⟩))
  refine wp_loop_rounds 9 ?_
  repeat any_goals (rw [rounds_succ]; go_wp2_with (first | (go_at_call 30; refine (refByte _ _ (by omega) (by omega)).mono ?_; rintro e w1 ⟨rfl, hb⟩; have hrefl := below_step hrefl hb; clear hb)))
  have hc : (n / 256 / 256 / 256 / 256 / 256 / 256 / 256 / 256 != 0) = false := by
    have : n / 256 / 256 / 256 / 256 / 256 / 256 / 256 / 256 = 0 := by omega
    rw [this]; rfl
  go_ret2
  exact ⟨ret_si (refputB8 n hn0 hc).1 (refputB8 n hn0 hc).2.symm, hrefl⟩
theorem refPut_any (n z : Int) (hn : (Lit.int .u64 n).wf = true) (w : World) : Calls Tryz.prog 62 #[.int .u64 n, .int .i64 z] w fun e w' => e = .returned (.tuple #[.string (putB n z), .int .i64 (putE n z)]) ∧ Below w.heap.size w w' := by
  cases hz : isSz z with
  | false =>
    rw [(put_no hz).1, (put_no hz).2]
    go_enter Tryz.func62, Tryz.ntmps62
    go_wp2_with (go_at_call 47; refine (refSized_any _ _).mono ?_; rintro e w' ⟨rfl, rfl⟩)
    go_ret2
    exact ⟨rfl, Below.refl _ _⟩
  | true =>
    rcases isSz_cases hz with rfl | rfl | rfl | rfl
    · exact refPut_1 n hn w
    · exact refPut_2 n hn w
    · exact refPut_4 n hn w
    · exact refPut_8 n hn w
end Go.Proofs.YtficmdomnilhnaaGreat
