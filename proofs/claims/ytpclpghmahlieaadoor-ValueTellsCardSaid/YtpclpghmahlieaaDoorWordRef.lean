/- Contracts of the reference's numbers with a sign: Sized, half, Low, Sign, Bits. -/
import Derived.Test.YtpclpghmahlieaaDoorWordBits
import Derived.LoopN
import Derived.Handy
import Derived.OpenShut
namespace Go.Proofs.YtpclpghmahlieaaDoor
open Go.RowKit
theorem refSized_any (z : Int) (w : World) : Calls Tryd.prog 48 #[.int .i64 z] w fun e w' => e = .returned (.bool (isSz z)) ∧ w = w' := by
  go_enter Tryd.func48, Tryd.ntmps48
  go_wp2
  all_goals
    go_ret
    exact ⟨ret_bool (by simp [isSz, *]), rfl⟩
theorem refHalf_1 (w : World) : Calls Tryd.prog 49 #[.int .i64 1] w fun e w' => e = .returned (.int .u64 128) ∧ w = w' := by
  go_enter Tryd.func49, Tryd.ntmps49
  go_wp2
  go_rounds 1
  go_ret
  exact ⟨rfl, rfl⟩
theorem refHalf_2 (w : World) : Calls Tryd.prog 49 #[.int .i64 2] w fun e w' => e = .returned (.int .u64 32768) ∧ w = w' := by
  go_enter Tryd.func49, Tryd.ntmps49
  go_wp2
  go_rounds 2
  go_ret
  exact ⟨rfl, rfl⟩
theorem refHalf_4 (w : World) : Calls Tryd.prog 49 #[.int .i64 4] w fun e w' => e = .returned (.int .u64 2147483648) ∧ w = w' := by
  go_enter Tryd.func49, Tryd.ntmps49
  go_wp2
  go_rounds 4
  go_ret
  exact ⟨rfl, rfl⟩
theorem refHalf_8 (w : World) : Calls Tryd.prog 49 #[.int .i64 8] w fun e w' => e = .returned (.int .u64 9223372036854775808) ∧ w = w' := by
  go_enter Tryd.func49, Tryd.ntmps49
  go_wp2
  go_rounds 8
  go_ret
  exact ⟨rfl, rfl⟩
theorem refLow_1 (n : Int) (hn : (Lit.int .u64 n).wf = true) (w : World) : Calls Tryd.prog 47 #[.int .u64 n, .int .i64 1] w fun e w' => e = .returned (.int .u64 (lowZ n 1)) ∧ ∃ m, w' = w.drewN m := by
  obtain ⟨hn0, hn1⟩ := bounds_u64 hn
  clear hn
  go_enter Tryd.func47, Tryd.ntmps47
  go_wp2_with (go_at_call 49; refine (refHalf_1 _).mono ?_; rintro e w' ⟨rfl, rfl⟩)
  go_quiet (fail)
  go_wp2
  go_ret
  refine ⟨ret_int ?_, _, rfl⟩
  unfold lowZ pw; simp; omega
theorem refLow_2 (n : Int) (hn : (Lit.int .u64 n).wf = true) (w : World) : Calls Tryd.prog 47 #[.int .u64 n, .int .i64 2] w fun e w' => e = .returned (.int .u64 (lowZ n 2)) ∧ ∃ m, w' = w.drewN m := by
  obtain ⟨hn0, hn1⟩ := bounds_u64 hn
  clear hn
  go_enter Tryd.func47, Tryd.ntmps47
  go_wp2_with (go_at_call 49; refine (refHalf_2 _).mono ?_; rintro e w' ⟨rfl, rfl⟩)
  go_quiet (fail)
  go_wp2
  go_ret
  refine ⟨ret_int ?_, _, rfl⟩
  unfold lowZ pw; simp; omega
theorem refLow_4 (n : Int) (hn : (Lit.int .u64 n).wf = true) (w : World) : Calls Tryd.prog 47 #[.int .u64 n, .int .i64 4] w fun e w' => e = .returned (.int .u64 (lowZ n 4)) ∧ ∃ m, w' = w.drewN m := by
  obtain ⟨hn0, hn1⟩ := bounds_u64 hn
  clear hn
  go_enter Tryd.func47, Tryd.ntmps47
  go_wp2_with (go_at_call 49; refine (refHalf_4 _).mono ?_; rintro e w' ⟨rfl, rfl⟩)
  go_quiet (fail)
  go_wp2
  go_ret
  refine ⟨ret_int ?_, _, rfl⟩
  unfold lowZ pw; simp; omega
theorem refLow_8 (n : Int) (hn : (Lit.int .u64 n).wf = true) (w : World) : Calls Tryd.prog 47 #[.int .u64 n, .int .i64 8] w fun e w' => e = .returned (.int .u64 (lowZ n 8)) ∧ ∃ m, w' = w.drewN m := by
  obtain ⟨hn0, hn1⟩ := bounds_u64 hn
  clear hn
  go_enter Tryd.func47, Tryd.ntmps47
  go_wp2_with (go_at_call 49; refine (refHalf_8 _).mono ?_; rintro e w' ⟨rfl, rfl⟩)
  go_quiet (fail)
  go_wp2
  go_ret
  refine ⟨ret_int ?_, _, rfl⟩
  unfold lowZ pw; simp; omega
theorem refSign_no (n z : Int) (hz : isSz z = false) (w : World) : Calls Tryd.prog 35 #[.int .u64 n, .int .i64 z] w fun e w' => e = .returned (.int .i64 (signZ n z)) ∧ ∃ m, w' = w.drewN m := by
  rw [signZ_no hz]
  go_enter Tryd.func35, Tryd.ntmps35
  go_wp2_with (go_at_call 48; refine (refSized_any _ _).mono ?_; rintro e w' ⟨rfl, rfl⟩)
  go_ret
  exact ⟨rfl, 0, rfl⟩
theorem refSign_1 (n : Int) (hn : (Lit.int .u64 n).wf = true) (w : World) : Calls Tryd.prog 35 #[.int .u64 n, .int .i64 1] w fun e w' => e = .returned (.int .i64 (signZ n 1)) ∧ ∃ m, w' = w.drewN m := by
  have hb : 0 ≤ lowZ n 1 ∧ lowZ n 1 ≤ 255 := by unfold lowZ pw; simp; omega
  obtain ⟨hb0, hb1⟩ := hb
  by_cases hc : lowZ n 1 < 128
  · go_enter Tryd.func35, Tryd.ntmps35
    go_wp2_with (first | (go_at_call 48; refine (refSized_any _ _).mono ?_; rintro e w' ⟨rfl, rfl⟩) | (go_at_call 47; refine (refLow_1 _ hn _).mono ?_; rintro e w' ⟨rfl, m, rfl⟩) | (go_at_call 49; refine (refHalf_1 _).mono ?_; rintro e w' ⟨rfl, rfl⟩))
    go_ret
    exact ⟨ret_int (sgnlo1 n hc), _, rfl⟩
  · go_enter Tryd.func35, Tryd.ntmps35
    go_wp2_with (first | (go_at_call 48; refine (refSized_any _ _).mono ?_; rintro e w' ⟨rfl, rfl⟩) | (go_at_call 47; refine (refLow_1 _ hn _).mono ?_; rintro e w' ⟨rfl, m, rfl⟩) | (go_at_call 49; refine (refHalf_1 _).mono ?_; rintro e w' ⟨rfl, rfl⟩))
    go_ret
    exact ⟨ret_int (sgnhi1 n (by omega)), _, rfl⟩
theorem refSign_2 (n : Int) (hn : (Lit.int .u64 n).wf = true) (w : World) : Calls Tryd.prog 35 #[.int .u64 n, .int .i64 2] w fun e w' => e = .returned (.int .i64 (signZ n 2)) ∧ ∃ m, w' = w.drewN m := by
  have hb : 0 ≤ lowZ n 2 ∧ lowZ n 2 ≤ 65535 := by unfold lowZ pw; simp; omega
  obtain ⟨hb0, hb1⟩ := hb
  by_cases hc : lowZ n 2 < 32768
  · go_enter Tryd.func35, Tryd.ntmps35
    go_wp2_with (first | (go_at_call 48; refine (refSized_any _ _).mono ?_; rintro e w' ⟨rfl, rfl⟩) | (go_at_call 47; refine (refLow_2 _ hn _).mono ?_; rintro e w' ⟨rfl, m, rfl⟩) | (go_at_call 49; refine (refHalf_2 _).mono ?_; rintro e w' ⟨rfl, rfl⟩))
    go_ret
    exact ⟨ret_int (sgnlo2 n hc), _, rfl⟩
  · go_enter Tryd.func35, Tryd.ntmps35
    go_wp2_with (first | (go_at_call 48; refine (refSized_any _ _).mono ?_; rintro e w' ⟨rfl, rfl⟩) | (go_at_call 47; refine (refLow_2 _ hn _).mono ?_; rintro e w' ⟨rfl, m, rfl⟩) | (go_at_call 49; refine (refHalf_2 _).mono ?_; rintro e w' ⟨rfl, rfl⟩))
    go_ret
    exact ⟨ret_int (sgnhi2 n (by omega)), _, rfl⟩
theorem refSign_4 (n : Int) (hn : (Lit.int .u64 n).wf = true) (w : World) : Calls Tryd.prog 35 #[.int .u64 n, .int .i64 4] w fun e w' => e = .returned (.int .i64 (signZ n 4)) ∧ ∃ m, w' = w.drewN m := by
  have hb : 0 ≤ lowZ n 4 ∧ lowZ n 4 ≤ 4294967295 := by unfold lowZ pw; simp; omega
  obtain ⟨hb0, hb1⟩ := hb
  by_cases hc : lowZ n 4 < 2147483648
  · go_enter Tryd.func35, Tryd.ntmps35
    go_wp2_with (first | (go_at_call 48; refine (refSized_any _ _).mono ?_; rintro e w' ⟨rfl, rfl⟩) | (go_at_call 47; refine (refLow_4 _ hn _).mono ?_; rintro e w' ⟨rfl, m, rfl⟩) | (go_at_call 49; refine (refHalf_4 _).mono ?_; rintro e w' ⟨rfl, rfl⟩))
    go_ret
    exact ⟨ret_int (sgnlo4 n hc), _, rfl⟩
  · go_enter Tryd.func35, Tryd.ntmps35
    go_wp2_with (first | (go_at_call 48; refine (refSized_any _ _).mono ?_; rintro e w' ⟨rfl, rfl⟩) | (go_at_call 47; refine (refLow_4 _ hn _).mono ?_; rintro e w' ⟨rfl, m, rfl⟩) | (go_at_call 49; refine (refHalf_4 _).mono ?_; rintro e w' ⟨rfl, rfl⟩))
    go_ret
    exact ⟨ret_int (sgnhi4 n (by omega)), _, rfl⟩
theorem refSign_8 (n : Int) (hn : (Lit.int .u64 n).wf = true) (w : World) : Calls Tryd.prog 35 #[.int .u64 n, .int .i64 8] w fun e w' => e = .returned (.int .i64 (signZ n 8)) ∧ ∃ m, w' = w.drewN m := by
  have hb : 0 ≤ lowZ n 8 ∧ lowZ n 8 ≤ 18446744073709551615 := by unfold lowZ pw; simp; omega
  obtain ⟨hb0, hb1⟩ := hb
  by_cases hc : lowZ n 8 < 9223372036854775808
  · go_enter Tryd.func35, Tryd.ntmps35
    go_wp2_with (first | (go_at_call 48; refine (refSized_any _ _).mono ?_; rintro e w' ⟨rfl, rfl⟩) | (go_at_call 47; refine (refLow_8 _ hn _).mono ?_; rintro e w' ⟨rfl, m, rfl⟩) | (go_at_call 49; refine (refHalf_8 _).mono ?_; rintro e w' ⟨rfl, rfl⟩))
    go_ret
    exact ⟨ret_int (sgnlo8 n hc), _, rfl⟩
  · go_enter Tryd.func35, Tryd.ntmps35
    go_wp2_with (first | (go_at_call 48; refine (refSized_any _ _).mono ?_; rintro e w' ⟨rfl, rfl⟩) | (go_at_call 47; refine (refLow_8 _ hn _).mono ?_; rintro e w' ⟨rfl, m, rfl⟩) | (go_at_call 49; refine (refHalf_8 _).mono ?_; rintro e w' ⟨rfl, rfl⟩))
    go_ret
    exact ⟨ret_int (sgnhi8 n (by omega)), _, rfl⟩
theorem refSign_any (n z : Int) (hn : (Lit.int .u64 n).wf = true) (w : World) : Calls Tryd.prog 35 #[.int .u64 n, .int .i64 z] w fun e w' => e = .returned (.int .i64 (signZ n z)) ∧ ∃ m, w' = w.drewN m := by
  cases hz : isSz z with
  | false => exact refSign_no n z hz w
  | true =>
    rcases isSz_cases hz with rfl | rfl | rfl | rfl
    · exact refSign_1 n hn w
    · exact refSign_2 n hn w
    · exact refSign_4 n hn w
    · exact refSign_8 n hn w
end Go.Proofs.YtpclpghmahlieaaDoor
