/- Contracts of align's isSize and Gap, and of the reference's Gap. -/
import Derived.Test.YtficmdomnilhnaaGreatWordRef
import Derived.Test.YtficmdomnilhnaaGreatAlignMath
import Derived.LoopN
import Derived.Handy
namespace Go.Proofs.YtficmdomnilhnaaGreat
open Go.RowKit
theorem asize_any (z : Int) (w : World) : Calls Tryz.prog 142 #[.int .i64 z] w fun e w' => e = .returned (.bool (isSz z)) ∧ w = w' := by
  go_enter Tryz.func142, Tryz.ntmps142
  go_wp2
  all_goals
    go_ret
    exact ⟨ret_bool (by simp [isSz, *]), rfl⟩
theorem gap_any (a z : Int) (ha : (Lit.int .i64 a).wf = true) (w : World) : Calls Tryz.prog 110 #[.int .i64 a, .int .i64 z] w fun e w' => e = .returned (.int .i64 (gapZ a z)) ∧ w = w' := by
  obtain ⟨ha0, ha1⟩ := bounds_i64 ha
  clear ha
  by_cases h : a < 0
  · rw [gapZ_neg h]
    go_enter Tryz.func110, Tryz.ntmps110
    go_wp2_with (go_at_call 142; refine (asize_any _ _).mono ?_; rintro e w' ⟨rfl, rfl⟩)
    go_ret
    exact ⟨rfl, rfl⟩
  · cases hz : isSz z with
    | false =>
      rw [gapZ_no hz]
      go_enter Tryz.func110, Tryz.ntmps110
      go_wp2_with (go_at_call 142; refine (asize_any _ _).mono ?_; rintro e w' ⟨rfl, rfl⟩)
      go_ret
      exact ⟨rfl, rfl⟩
    | true =>
      rw [gapZ_in (by omega) hz]
      have hnn : 0 ≤ a := by omega
      have hd : decide (a < 0) = false := by simpa using hnn
      rcases isSz_cases hz with rfl | rfl | rfl | rfl
      all_goals
        clear hz h
        go_enter Tryz.func110, Tryz.ntmps110
        go_wp2_with (go_at_call 142; refine (asize_any _ _).mono ?_; rintro e w' ⟨rfl, rfl⟩)
        go_ret
        exact ⟨ret_int (by omega), rfl⟩
theorem refGap_any (a z : Int) (ha : (Lit.int .i64 a).wf = true) (w : World) : Calls Tryz.prog 26 #[.int .i64 a, .int .i64 z] w fun e w' => e = .returned (.int .i64 (gapZ a z)) ∧ w = w' := by
  obtain ⟨ha0, ha1⟩ := bounds_i64 ha
  clear ha
  by_cases h : a < 0
  · rw [gapZ_neg h]
    go_enter Tryz.func26, Tryz.ntmps26
    go_wp2_with (go_at_call 47; refine (refSized_any _ _).mono ?_; rintro e w' ⟨rfl, rfl⟩)
    go_ret
    exact ⟨rfl, rfl⟩
  · cases hz : isSz z with
    | false =>
      rw [gapZ_no hz]
      go_enter Tryz.func26, Tryz.ntmps26
      go_wp2_with (go_at_call 47; refine (refSized_any _ _).mono ?_; rintro e w' ⟨rfl, rfl⟩)
      go_ret
      exact ⟨rfl, rfl⟩
    | true =>
      rw [gapZ_in (by omega) hz]
      have hnn : 0 ≤ a := by omega
      have hd : decide (a < 0) = false := by simpa using hnn
      rcases isSz_cases hz with rfl | rfl | rfl | rfl
      all_goals
        clear hz h
        go_enter Tryz.func26, Tryz.ntmps26
        go_wp2_with (go_at_call 47; refine (refSized_any _ _).mono ?_; rintro e w' ⟨rfl, rfl⟩)
        refine wp_loop_rounds 9 ?_
        repeat any_goals (rw [rounds_succ]; go_wp2)
        all_goals (first | (exfalso; simp at *; omega) | (go_ret; exact ⟨ret_int (by first | omega | (simp at *; done) | (simp at *; omega)), rfl⟩))
end Go.Proofs.YtficmdomnilhnaaGreat
