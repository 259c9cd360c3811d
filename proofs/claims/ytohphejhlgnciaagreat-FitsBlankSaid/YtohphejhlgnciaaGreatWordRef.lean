/- Contracts of the reference's numbers with a sign: Sized, half, Low, Sign, Bits. -/
import Derived.Test.YtohphejhlgnciaaGreatWordBits
import Derived.LoopN
import Derived.Handy
import Derived.OpenShut
namespace Go.Proofs.YtohphejhlgnciaaGreat
open Go.RowKit
theorem refSized_any (z : Int) (w : World) : Calls Tryz.prog 103 #[.int .i64 z] w fun e w' => e = .returned (.bool (isSz z)) ∧ w = w' := by
  go_enter Tryz.func103, Tryz.ntmps103
  go_wp2
  all_goals
    go_ret
    exact ⟨ret_bool (by simp [isSz, *]), rfl⟩
theorem refHalf_1 (w : World) : Calls Tryz.prog 104 #[.int .i64 1] w fun e w' => e = .returned (.int .u64 128) ∧ w = w' := by
  go_enter Tryz.func104, Tryz.ntmps104
  go_wp2
  go_rounds 1
  go_ret
  exact ⟨rfl, rfl⟩
theorem refHalf_2 (w : World) : Calls Tryz.prog 104 #[.int .i64 2] w fun e w' => e = .returned (.int .u64 32768) ∧ w = w' := by
  go_enter Tryz.func104, Tryz.ntmps104
  go_wp2
  go_rounds 2
  go_ret
  exact ⟨rfl, rfl⟩
theorem refHalf_4 (w : World) : Calls Tryz.prog 104 #[.int .i64 4] w fun e w' => e = .returned (.int .u64 2147483648) ∧ w = w' := by
  go_enter Tryz.func104, Tryz.ntmps104
  go_wp2
  go_rounds 4
  go_ret
  exact ⟨rfl, rfl⟩
theorem refHalf_8 (w : World) : Calls Tryz.prog 104 #[.int .i64 8] w fun e w' => e = .returned (.int .u64 9223372036854775808) ∧ w = w' := by
  go_enter Tryz.func104, Tryz.ntmps104
  go_wp2
  go_rounds 8
  go_ret
  exact ⟨rfl, rfl⟩
theorem refLow_1 (n : Int) (hn : (Lit.int .u64 n).wf = true) (w : World) : Calls Tryz.prog 105 #[.int .u64 n, .int .i64 1] w fun e w' => e = .returned (.int .u64 (lowZ n 1)) ∧ ∃ m, w' = w.drewN m := by
  obtain ⟨hn0, hn1⟩ := bounds_u64 hn
  clear hn
  go_enter Tryz.func105, Tryz.ntmps105
  go_wp2_with (go_at_call 104; refine (refHalf_1 _).mono ?_; rintro e w' ⟨rfl, rfl⟩)
  go_quiet (fail)
  go_wp2
  go_ret
  refine ⟨ret_int ?_, _, rfl⟩
  unfold lowZ pw; simp; omega
theorem refLow_2 (n : Int) (hn : (Lit.int .u64 n).wf = true) (w : World) : Calls Tryz.prog 105 #[.int .u64 n, .int .i64 2] w fun e w' => e = .returned (.int .u64 (lowZ n 2)) ∧ ∃ m, w' = w.drewN m := by
  obtain ⟨hn0, hn1⟩ := bounds_u64 hn
  clear hn
  go_enter Tryz.func105, Tryz.ntmps105
  go_wp2_with (go_at_call 104; refine (refHalf_2 _).mono ?_; rintro e w' ⟨rfl, rfl⟩)
  go_quiet (fail)
  go_wp2
  go_ret
  refine ⟨ret_int ?_, _, rfl⟩
  unfold lowZ pw; simp; omega
theorem refLow_4 (n : Int) (hn : (Lit.int .u64 n).wf = true) (w : World) : Calls Tryz.prog 105 #[.int .u64 n, .int .i64 4] w fun e w' => e = .returned (.int .u64 (lowZ n 4)) ∧ ∃ m, w' = w.drewN m := by
  obtain ⟨hn0, hn1⟩ := bounds_u64 hn
  clear hn
  go_enter Tryz.func105, Tryz.ntmps105
  go_wp2_with (go_at_call 104; refine (refHalf_4 _).mono ?_; rintro e w' ⟨rfl, rfl⟩)
  go_quiet (fail)
  go_wp2
  go_ret
  refine ⟨ret_int ?_, _, rfl⟩
  unfold lowZ pw; simp; omega
theorem refLow_8 (n : Int) (hn : (Lit.int .u64 n).wf = true) (w : World) : Calls Tryz.prog 105 #[.int .u64 n, .int .i64 8] w fun e w' => e = .returned (.int .u64 (lowZ n 8)) ∧ ∃ m, w' = w.drewN m := by
  obtain ⟨hn0, hn1⟩ := bounds_u64 hn
  clear hn
  go_enter Tryz.func105, Tryz.ntmps105
  go_wp2_with (go_at_call 104; refine (refHalf_8 _).mono ?_; rintro e w' ⟨rfl, rfl⟩)
  go_quiet (fail)
  go_wp2
  go_ret
  refine ⟨ret_int ?_, _, rfl⟩
  unfold lowZ pw; simp; omega
theorem refBits_no (n z : Int) (hz : isSz z = false) (w : World) : Calls Tryz.prog 79 #[.int .i64 n, .int .i64 z] w fun e w' => e = .returned (.tuple #[.int .u64 (bitsN n z), .int .i64 (bitsE n z)]) ∧ w = w' := by
  rw [bitsN_no hz, bitsE_no hz]
  go_enter Tryz.func79, Tryz.ntmps79
  go_wp2_with (go_at_call 103; refine (refSized_any _ _).mono ?_; rintro e w' ⟨rfl, rfl⟩)
  go_ret2
  exact ⟨rfl, rfl⟩
theorem refBits_1 (n : Int) (hn : (Lit.int .i64 n).wf = true) (w : World) : Calls Tryz.prog 79 #[.int .i64 n, .int .i64 1] w fun e w' => e = .returned (.tuple #[.int .u64 (bitsN n 1), .int .i64 (bitsE n 1)]) ∧ w = w' := by
  obtain ⟨hn0, hn1⟩ := bounds_i64 hn
  clear hn
  by_cases hp : 0 ≤ n
  · by_cases hc : n < 128
    all_goals
      go_enter Tryz.func79, Tryz.ntmps79
      go_wp2_with (first | (go_at_call 103; refine (refSized_any _ _).mono ?_; rintro e w' ⟨rfl, rfl⟩) | (go_at_call 104; refine (refHalf_1 _).mono ?_; rintro e w' ⟨rfl, rfl⟩))
      all_goals
        go_ret2
        exact ⟨ret_ui (by have := bits_spec1 n; omega) (by have := bits_spec1 n; omega), rfl⟩
  · by_cases hc : -n ≤ 128
    all_goals
      go_enter Tryz.func79, Tryz.ntmps79
      go_wp2_with (first | (go_at_call 103; refine (refSized_any _ _).mono ?_; rintro e w' ⟨rfl, rfl⟩) | (go_at_call 104; refine (refHalf_1 _).mono ?_; rintro e w' ⟨rfl, rfl⟩))
      all_goals
        go_ret2
        exact ⟨ret_ui (by have := bits_spec1 n; omega) (by have := bits_spec1 n; omega), rfl⟩
theorem refBits_2 (n : Int) (hn : (Lit.int .i64 n).wf = true) (w : World) : Calls Tryz.prog 79 #[.int .i64 n, .int .i64 2] w fun e w' => e = .returned (.tuple #[.int .u64 (bitsN n 2), .int .i64 (bitsE n 2)]) ∧ w = w' := by
  obtain ⟨hn0, hn1⟩ := bounds_i64 hn
  clear hn
  by_cases hp : 0 ≤ n
  · by_cases hc : n < 32768
    all_goals
      go_enter Tryz.func79, Tryz.ntmps79
      go_wp2_with (first | (go_at_call 103; refine (refSized_any _ _).mono ?_; rintro e w' ⟨rfl, rfl⟩) | (go_at_call 104; refine (refHalf_2 _).mono ?_; rintro e w' ⟨rfl, rfl⟩))
      all_goals
        go_ret2
        exact ⟨ret_ui (by have := bits_spec2 n; omega) (by have := bits_spec2 n; omega), rfl⟩
  · by_cases hc : -n ≤ 32768
    all_goals
      go_enter Tryz.func79, Tryz.ntmps79
      go_wp2_with (first | (go_at_call 103; refine (refSized_any _ _).mono ?_; rintro e w' ⟨rfl, rfl⟩) | (go_at_call 104; refine (refHalf_2 _).mono ?_; rintro e w' ⟨rfl, rfl⟩))
      all_goals
        go_ret2
        exact ⟨ret_ui (by have := bits_spec2 n; omega) (by have := bits_spec2 n; omega), rfl⟩
theorem refBits_4 (n : Int) (hn : (Lit.int .i64 n).wf = true) (w : World) : Calls Tryz.prog 79 #[.int .i64 n, .int .i64 4] w fun e w' => e = .returned (.tuple #[.int .u64 (bitsN n 4), .int .i64 (bitsE n 4)]) ∧ w = w' := by
  obtain ⟨hn0, hn1⟩ := bounds_i64 hn
  clear hn
  by_cases hp : 0 ≤ n
  · by_cases hc : n < 2147483648
    all_goals
      go_enter Tryz.func79, Tryz.ntmps79
      go_wp2_with (first | (go_at_call 103; refine (refSized_any _ _).mono ?_; rintro e w' ⟨rfl, rfl⟩) | (go_at_call 104; refine (refHalf_4 _).mono ?_; rintro e w' ⟨rfl, rfl⟩))
      all_goals
        go_ret2
        exact ⟨ret_ui (by have := bits_spec4 n; omega) (by have := bits_spec4 n; omega), rfl⟩
  · by_cases hc : -n ≤ 2147483648
    all_goals
      go_enter Tryz.func79, Tryz.ntmps79
      go_wp2_with (first | (go_at_call 103; refine (refSized_any _ _).mono ?_; rintro e w' ⟨rfl, rfl⟩) | (go_at_call 104; refine (refHalf_4 _).mono ?_; rintro e w' ⟨rfl, rfl⟩))
      all_goals
        go_ret2
        exact ⟨ret_ui (by have := bits_spec4 n; omega) (by have := bits_spec4 n; omega), rfl⟩
theorem refBits_8 (n : Int) (hn : (Lit.int .i64 n).wf = true) (w : World) : Calls Tryz.prog 79 #[.int .i64 n, .int .i64 8] w fun e w' => e = .returned (.tuple #[.int .u64 (bitsN n 8), .int .i64 (bitsE n 8)]) ∧ w = w' := by
  obtain ⟨hn0, hn1⟩ := bounds_i64 hn
  clear hn
  by_cases hp : 0 ≤ n
  · by_cases hc : n < 9223372036854775808
    all_goals
      go_enter Tryz.func79, Tryz.ntmps79
      go_wp2_with (first | (go_at_call 103; refine (refSized_any _ _).mono ?_; rintro e w' ⟨rfl, rfl⟩) | (go_at_call 104; refine (refHalf_8 _).mono ?_; rintro e w' ⟨rfl, rfl⟩))
      all_goals
        go_ret2
        exact ⟨ret_ui (by have := bits_spec8 n; omega) (by have := bits_spec8 n; omega), rfl⟩
  · by_cases hc : -n ≤ 9223372036854775808
    all_goals
      go_enter Tryz.func79, Tryz.ntmps79
      go_wp2_with (first | (go_at_call 103; refine (refSized_any _ _).mono ?_; rintro e w' ⟨rfl, rfl⟩) | (go_at_call 104; refine (refHalf_8 _).mono ?_; rintro e w' ⟨rfl, rfl⟩))
      all_goals
        go_ret2
        exact ⟨ret_ui (by have := bits_spec8 n; omega) (by have := bits_spec8 n; omega), rfl⟩
theorem refBits_any (n z : Int) (hn : (Lit.int .i64 n).wf = true) (w : World) : Calls Tryz.prog 79 #[.int .i64 n, .int .i64 z] w fun e w' => e = .returned (.tuple #[.int .u64 (bitsN n z), .int .i64 (bitsE n z)]) ∧ w = w' := by
  cases hz : isSz z with
  | false => exact refBits_no n z hz w
  | true =>
    rcases isSz_cases hz with rfl | rfl | rfl | rfl
    · exact refBits_1 n hn w
    · exact refBits_2 n hn w
    · exact refBits_4 n hn w
    · exact refBits_8 n hn w
end Go.Proofs.YtohphejhlgnciaaGreat
