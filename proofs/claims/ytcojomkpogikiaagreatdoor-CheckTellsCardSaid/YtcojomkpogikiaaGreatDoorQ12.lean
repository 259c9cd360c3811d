/- Contracts of package word's small functions. -/
import Derived.Test.YtcojomkpogikiaaGreatDoorRows
import Derived.BigQuiet
import Derived.Deep.QuietTactic
import Derived.BigGuardPart
import Derived.LoopN
import Derived.Handy
import Derived.OpenShut
import Derived.Test.YtcojomkpogikiaaGreatDoorQ01
namespace Go.Proofs.YtcojomkpogikiaaGreatDoor.Pa
open Go.RowKit
theorem ret_bool {a b : Bool} (h : a = b) : Ending.returned (.bool a) = .returned (.bool b) := by rw [h]
theorem ret_int {k : IntKind} {a b : Int} (h : a = b) : Ending.returned (.int k a) = .returned (.int k b) := by rw [h]
theorem isSize_any (z : Int) (w : World) : Calls Tryz.prog 205 #[.int .i64 z] w fun e w' => e = .returned (.bool (isSz z)) ∧ w = w' := by
  go_enter Tryz.func205, Tryz.ntmps205
  go_wp2
  all_goals
    go_ret
    exact ⟨ret_bool (by simp [isSz, *]), rfl⟩
theorem spare_any (z : Int) (w : World) (h : isSz z = true) : Calls Tryz.prog 206 #[.int .i64 z] w fun e w' => e = .returned (.int .i64 (64 - 8 * z)) ∧ w = w' := by
  have h' := isSz_cases h
  clear h
  go_enter Tryz.func206, Tryz.ntmps206
  go_wp2
  go_ret
  exact ⟨rfl, rfl⟩
theorem spare_any' (z : Int) (w : World) (h : isSz z = true) : Calls Tryz.prog 206 #[.int .i64 z] w fun e w' => e = .returned (.int .i64 (64 - 8 * z)) ∧ w' = w :=
  (spare_any z w h).mono fun _ _ ⟨a, b⟩ => ⟨a, b.symm⟩
theorem sign_1 (n : Int) (w : World) : Calls Tryz.prog 181 #[.int .u64 n, .int .i64 1] w fun e w' => e = .returned (.int .i64 (signZ n 1)) ∧ ∃ m, w' = w.drewN m := by
  go_enter Tryz.func181, Tryz.ntmps181
  go_wp2_with (go_at_call 205; refine (isSize_any _ _).mono ?_; rintro e w' ⟨rfl, rfl⟩)
  go_quiet ((go_at_call 206; exact Calls.quiet_of_same (P := Tryz.prog) (spare_any' _ _ rfl)))
  go_wp2
  go_ret
  exact ⟨ret_int (sgn1 n), _, rfl⟩
theorem sign_2 (n : Int) (w : World) : Calls Tryz.prog 181 #[.int .u64 n, .int .i64 2] w fun e w' => e = .returned (.int .i64 (signZ n 2)) ∧ ∃ m, w' = w.drewN m := by
  go_enter Tryz.func181, Tryz.ntmps181
  go_wp2_with (go_at_call 205; refine (isSize_any _ _).mono ?_; rintro e w' ⟨rfl, rfl⟩)
  go_quiet ((go_at_call 206; exact Calls.quiet_of_same (P := Tryz.prog) (spare_any' _ _ rfl)))
  go_wp2
  go_ret
  exact ⟨ret_int (sgn2 n), _, rfl⟩
theorem sign_4 (n : Int) (w : World) : Calls Tryz.prog 181 #[.int .u64 n, .int .i64 4] w fun e w' => e = .returned (.int .i64 (signZ n 4)) ∧ ∃ m, w' = w.drewN m := by
  go_enter Tryz.func181, Tryz.ntmps181
  go_wp2_with (go_at_call 205; refine (isSize_any _ _).mono ?_; rintro e w' ⟨rfl, rfl⟩)
  go_quiet ((go_at_call 206; exact Calls.quiet_of_same (P := Tryz.prog) (spare_any' _ _ rfl)))
  go_wp2
  go_ret
  exact ⟨ret_int (sgn4 n), _, rfl⟩
theorem sign_8 (n : Int) (w : World) : Calls Tryz.prog 181 #[.int .u64 n, .int .i64 8] w fun e w' => e = .returned (.int .i64 (signZ n 8)) ∧ ∃ m, w' = w.drewN m := by
  go_enter Tryz.func181, Tryz.ntmps181
  go_wp2_with (go_at_call 205; refine (isSize_any _ _).mono ?_; rintro e w' ⟨rfl, rfl⟩)
  go_quiet ((go_at_call 206; exact Calls.quiet_of_same (P := Tryz.prog) (spare_any' _ _ rfl)))
  go_wp2
  go_ret
  exact ⟨ret_int (sgn8 n), _, rfl⟩
theorem sign_no (n z : Int) (hz : isSz z = false) (w : World) : Calls Tryz.prog 181 #[.int .u64 n, .int .i64 z] w fun e w' => e = .returned (.int .i64 (signZ n z)) ∧ ∃ m, w' = w.drewN m := by
  rw [signZ_no hz]
  go_enter Tryz.func181, Tryz.ntmps181
  go_wp2_with (go_at_call 205; refine (isSize_any _ _).mono ?_; rintro e w' ⟨rfl, rfl⟩)
  go_ret
  exact ⟨rfl, 0, rfl⟩
theorem sign_any (n z : Int) (w : World) : Calls Tryz.prog 181 #[.int .u64 n, .int .i64 z] w fun e w' => e = .returned (.int .i64 (signZ n z)) ∧ ∃ m, w' = w.drewN m := by
  cases hz : isSz z with
  | false => exact sign_no n z hz w
  | true =>
    rcases isSz_cases hz with rfl | rfl | rfl | rfl
    · exact sign_1 n w
    · exact sign_2 n w
    · exact sign_4 n w
    · exact sign_8 n w
theorem lowest_1 (n : Int) (w : World) : Calls Tryz.prog 207 #[.int .u64 n, .int .i64 1] w fun e w' => e = .returned (.int .u64 (lowZ n 1)) ∧ ∃ m, w' = w.drewN m := by
  go_enter Tryz.func207, Tryz.ntmps207
  go_wp2
  go_quiet ((go_at_call 206; exact Calls.quiet_of_same (P := Tryz.prog) (spare_any' _ _ rfl)))
  go_wp2
  go_ret
  exact ⟨ret_int (low1 n), _, rfl⟩
theorem lowest_2 (n : Int) (w : World) : Calls Tryz.prog 207 #[.int .u64 n, .int .i64 2] w fun e w' => e = .returned (.int .u64 (lowZ n 2)) ∧ ∃ m, w' = w.drewN m := by
  go_enter Tryz.func207, Tryz.ntmps207
  go_wp2
  go_quiet ((go_at_call 206; exact Calls.quiet_of_same (P := Tryz.prog) (spare_any' _ _ rfl)))
  go_wp2
  go_ret
  exact ⟨ret_int (low2 n), _, rfl⟩
theorem lowest_4 (n : Int) (w : World) : Calls Tryz.prog 207 #[.int .u64 n, .int .i64 4] w fun e w' => e = .returned (.int .u64 (lowZ n 4)) ∧ ∃ m, w' = w.drewN m := by
  go_enter Tryz.func207, Tryz.ntmps207
  go_wp2
  go_quiet ((go_at_call 206; exact Calls.quiet_of_same (P := Tryz.prog) (spare_any' _ _ rfl)))
  go_wp2
  go_ret
  exact ⟨ret_int (low4 n), _, rfl⟩
theorem lowest_8 (n : Int) (w : World) : Calls Tryz.prog 207 #[.int .u64 n, .int .i64 8] w fun e w' => e = .returned (.int .u64 (lowZ n 8)) ∧ ∃ m, w' = w.drewN m := by
  go_enter Tryz.func207, Tryz.ntmps207
  go_wp2
  go_quiet ((go_at_call 206; exact Calls.quiet_of_same (P := Tryz.prog) (spare_any' _ _ rfl)))
  go_wp2
  go_ret
  exact ⟨ret_int (low8 n), _, rfl⟩
theorem lowest_any (n z : Int) (hz : isSz z = true) (w : World) : Calls Tryz.prog 207 #[.int .u64 n, .int .i64 z] w fun e w' => e = .returned (.int .u64 (lowZ n z)) ∧ ∃ m, w' = w.drewN m := by
  rcases isSz_cases hz with rfl | rfl | rfl | rfl
  · exact lowest_1 n w
  · exact lowest_2 n w
  · exact lowest_4 n w
  · exact lowest_8 n w
end Go.Proofs.YtcojomkpogikiaaGreatDoor.Pa
namespace Go.Proofs.YtcojomkpogikiaaGreatDoor.Pa
open Go.RowKit
theorem ret_ui {k l : IntKind} {a b c d : Int} (h : a = b) (h' : c = d) : Ending.returned (.tuple #[.int k a, .int l c]) = .returned (.tuple #[.int k b, .int l d]) := by rw [h, h']
theorem bits_any (n z : Int) (w : World) : Calls Tryz.prog 182 #[.int .i64 n, .int .i64 z] w fun e w' => e = .returned (.tuple #[.int .u64 (bitsN n z), .int .i64 (bitsE n z)]) ∧ ∃ m, w' = w.drewN m := by
  cases hz : isSz z with
  | false =>
    rw [bitsN_no hz, bitsE_no hz]
    go_enter Tryz.func182, Tryz.ntmps182
    go_wp2_with (go_at_call 205; refine (isSize_any _ _).mono ?_; rintro e w' ⟨rfl, rfl⟩)
    go_ret2
    exact ⟨rfl, 0, rfl⟩
  | true =>
    cases hr : inR n z with
    | false =>
      rw [bitsN_out hz hr, bitsE_out hz hr]
      have hne : (signZ (IntKind.u64.wrap n) z != n) = true := by
        rw [signZ_u64]; simp; intro h; rw [signZ_eq hz] at h; rw [h] at hr; cases hr
      go_enter Tryz.func182, Tryz.ntmps182
      go_wp2_with (first | (go_at_call 205; refine (isSize_any _ _).mono ?_; rintro e w' ⟨rfl, rfl⟩) | (go_at_call 181; refine (sign_any _ _ _).mono ?_; rintro e w' ⟨rfl, m, rfl⟩))
      go_ret2
      exact ⟨rfl, _, rfl⟩
    | true =>
      have hne : (signZ (IntKind.u64.wrap n) z != n) = false := by
        rw [signZ_u64]; simp; rw [signZ_eq hz]; exact hr
      rw [bitsN_in hz hr, bitsE_in hz hr]
      go_enter Tryz.func182, Tryz.ntmps182
      go_wp2_with (first | (go_at_call 205; refine (isSize_any _ _).mono ?_; rintro e w' ⟨rfl, rfl⟩) | (go_at_call 181; refine (sign_any _ _ _).mono ?_; rintro e w' ⟨rfl, m, rfl⟩) | (go_at_call 207; refine (lowest_any _ _ hz _).mono ?_; rintro e w' ⟨rfl, m, rfl⟩))
      go_ret2
      exact ⟨ret_ui (by unfold lowZ; rw [mod_u64 _ hz]) rfl, _, rfl⟩
theorem wide_any (n z : Int) (w : World) : Calls Tryz.prog 137 #[.int .u64 n, .int .i64 z] w fun e w' => e = .returned (.int .u64 (IntKind.u64.wrap (signZ n z))) ∧ ∃ m, w' = w.drewN m := by
  go_enter Tryz.func137, Tryz.ntmps137
  go_wp2_with (go_at_call 181; refine (sign_any _ _ _).mono ?_; rintro e w' ⟨rfl, m, rfl⟩)
  go_ret
  exact ⟨rfl, _, rfl⟩
end Go.Proofs.YtcojomkpogikiaaGreatDoor.Pa
namespace Go.Proofs.YtcojomkpogikiaaGreatDoor.Pa
open Go.RowKit
theorem refSized_any (z : Int) (w : World) : Calls Tryz.prog 100 #[.int .i64 z] w fun e w' => e = .returned (.bool (isSz z)) ∧ w = w' := by
  go_enter Tryz.func100, Tryz.ntmps100
  go_wp2
  all_goals
    go_ret
    exact ⟨ret_bool (by simp [isSz, *]), rfl⟩
theorem refHalf_1 (w : World) : Calls Tryz.prog 101 #[.int .i64 1] w fun e w' => e = .returned (.int .u64 128) ∧ w = w' := by
  go_enter Tryz.func101, Tryz.ntmps101
  go_wp2
  go_rounds 1
  go_ret
  exact ⟨rfl, rfl⟩
theorem refHalf_2 (w : World) : Calls Tryz.prog 101 #[.int .i64 2] w fun e w' => e = .returned (.int .u64 32768) ∧ w = w' := by
  go_enter Tryz.func101, Tryz.ntmps101
  go_wp2
  go_rounds 2
  go_ret
  exact ⟨rfl, rfl⟩
theorem refHalf_4 (w : World) : Calls Tryz.prog 101 #[.int .i64 4] w fun e w' => e = .returned (.int .u64 2147483648) ∧ w = w' := by
  go_enter Tryz.func101, Tryz.ntmps101
  go_wp2
  go_rounds 4
  go_ret
  exact ⟨rfl, rfl⟩
theorem refHalf_8 (w : World) : Calls Tryz.prog 101 #[.int .i64 8] w fun e w' => e = .returned (.int .u64 9223372036854775808) ∧ w = w' := by
  go_enter Tryz.func101, Tryz.ntmps101
  go_wp2
  go_rounds 8
  go_ret
  exact ⟨rfl, rfl⟩
theorem refLow_1 (n : Int) (hn : (Lit.int .u64 n).wf = true) (w : World) : Calls Tryz.prog 99 #[.int .u64 n, .int .i64 1] w fun e w' => e = .returned (.int .u64 (lowZ n 1)) ∧ ∃ m, w' = w.drewN m := by
  obtain ⟨hn0, hn1⟩ := bounds_u64 hn
  clear hn
  go_enter Tryz.func99, Tryz.ntmps99
  go_wp2_with (go_at_call 101; refine (refHalf_1 _).mono ?_; rintro e w' ⟨rfl, rfl⟩)
  go_quiet (fail)
  go_wp2
  go_ret
  refine ⟨ret_int ?_, _, rfl⟩
  unfold lowZ pw; simp; omega
theorem refLow_2 (n : Int) (hn : (Lit.int .u64 n).wf = true) (w : World) : Calls Tryz.prog 99 #[.int .u64 n, .int .i64 2] w fun e w' => e = .returned (.int .u64 (lowZ n 2)) ∧ ∃ m, w' = w.drewN m := by
  obtain ⟨hn0, hn1⟩ := bounds_u64 hn
  clear hn
  go_enter Tryz.func99, Tryz.ntmps99
  go_wp2_with (go_at_call 101; refine (refHalf_2 _).mono ?_; rintro e w' ⟨rfl, rfl⟩)
  go_quiet (fail)
  go_wp2
  go_ret
  refine ⟨ret_int ?_, _, rfl⟩
  unfold lowZ pw; simp; omega
theorem refLow_4 (n : Int) (hn : (Lit.int .u64 n).wf = true) (w : World) : Calls Tryz.prog 99 #[.int .u64 n, .int .i64 4] w fun e w' => e = .returned (.int .u64 (lowZ n 4)) ∧ ∃ m, w' = w.drewN m := by
  obtain ⟨hn0, hn1⟩ := bounds_u64 hn
  clear hn
  go_enter Tryz.func99, Tryz.ntmps99
  go_wp2_with (go_at_call 101; refine (refHalf_4 _).mono ?_; rintro e w' ⟨rfl, rfl⟩)
  go_quiet (fail)
  go_wp2
  go_ret
  refine ⟨ret_int ?_, _, rfl⟩
  unfold lowZ pw; simp; omega
theorem refLow_8 (n : Int) (hn : (Lit.int .u64 n).wf = true) (w : World) : Calls Tryz.prog 99 #[.int .u64 n, .int .i64 8] w fun e w' => e = .returned (.int .u64 (lowZ n 8)) ∧ ∃ m, w' = w.drewN m := by
  obtain ⟨hn0, hn1⟩ := bounds_u64 hn
  clear hn
  go_enter Tryz.func99, Tryz.ntmps99
  go_wp2_with (go_at_call 101; refine (refHalf_8 _).mono ?_; rintro e w' ⟨rfl, rfl⟩)
  go_quiet (fail)
  go_wp2
  go_ret
  refine ⟨ret_int ?_, _, rfl⟩
  unfold lowZ pw; simp; omega
theorem refSign_1 (n : Int) (hn : (Lit.int .u64 n).wf = true) (w : World) : Calls Tryz.prog 63 #[.int .u64 n, .int .i64 1] w fun e w' => e = .returned (.int .i64 (signZ n 1)) ∧ ∃ m, w' = w.drewN m := by
  have hb : 0 ≤ lowZ n 1 ∧ lowZ n 1 ≤ 255 := by unfold lowZ pw; simp; omega
  obtain ⟨hb0, hb1⟩ := hb
  by_cases hc : lowZ n 1 < 128
  · go_enter Tryz.func63, Tryz.ntmps63
    go_wp2_with (first | (go_at_call 100; refine (refSized_any _ _).mono ?_; rintro e w' ⟨rfl, rfl⟩) | (go_at_call 99; refine (refLow_1 _ hn _).mono ?_; rintro e w' ⟨rfl, m, rfl⟩) | (go_at_call 101; refine (refHalf_1 _).mono ?_; rintro e w' ⟨rfl, rfl⟩))
    go_ret
    exact ⟨ret_int (sgnlo1 n hc), _, rfl⟩
  · go_enter Tryz.func63, Tryz.ntmps63
    go_wp2_with (first | (go_at_call 100; refine (refSized_any _ _).mono ?_; rintro e w' ⟨rfl, rfl⟩) | (go_at_call 99; refine (refLow_1 _ hn _).mono ?_; rintro e w' ⟨rfl, m, rfl⟩) | (go_at_call 101; refine (refHalf_1 _).mono ?_; rintro e w' ⟨rfl, rfl⟩))
    go_ret
    exact ⟨ret_int (sgnhi1 n (by omega)), _, rfl⟩
theorem refSign_2 (n : Int) (hn : (Lit.int .u64 n).wf = true) (w : World) : Calls Tryz.prog 63 #[.int .u64 n, .int .i64 2] w fun e w' => e = .returned (.int .i64 (signZ n 2)) ∧ ∃ m, w' = w.drewN m := by
  have hb : 0 ≤ lowZ n 2 ∧ lowZ n 2 ≤ 65535 := by unfold lowZ pw; simp; omega
  obtain ⟨hb0, hb1⟩ := hb
  by_cases hc : lowZ n 2 < 32768
  · go_enter Tryz.func63, Tryz.ntmps63
    go_wp2_with (first | (go_at_call 100; refine (refSized_any _ _).mono ?_; rintro e w' ⟨rfl, rfl⟩) | (go_at_call 99; refine (refLow_2 _ hn _).mono ?_; rintro e w' ⟨rfl, m, rfl⟩) | (go_at_call 101; refine (refHalf_2 _).mono ?_; rintro e w' ⟨rfl, rfl⟩))
    go_ret
    exact ⟨ret_int (sgnlo2 n hc), _, rfl⟩
  · go_enter Tryz.func63, Tryz.ntmps63
    go_wp2_with (first | (go_at_call 100; refine (refSized_any _ _).mono ?_; rintro e w' ⟨rfl, rfl⟩) | (go_at_call 99; refine (refLow_2 _ hn _).mono ?_; rintro e w' ⟨rfl, m, rfl⟩) | (go_at_call 101; refine (refHalf_2 _).mono ?_; rintro e w' ⟨rfl, rfl⟩))
    go_ret
    exact ⟨ret_int (sgnhi2 n (by omega)), _, rfl⟩
theorem refSign_4 (n : Int) (hn : (Lit.int .u64 n).wf = true) (w : World) : Calls Tryz.prog 63 #[.int .u64 n, .int .i64 4] w fun e w' => e = .returned (.int .i64 (signZ n 4)) ∧ ∃ m, w' = w.drewN m := by
  have hb : 0 ≤ lowZ n 4 ∧ lowZ n 4 ≤ 4294967295 := by unfold lowZ pw; simp; omega
  obtain ⟨hb0, hb1⟩ := hb
  by_cases hc : lowZ n 4 < 2147483648
  · go_enter Tryz.func63, Tryz.ntmps63
    go_wp2_with (first | (go_at_call 100; refine (refSized_any _ _).mono ?_; rintro e w' ⟨rfl, rfl⟩) | (go_at_call 99; refine (refLow_4 _ hn _).mono ?_; rintro e w' ⟨rfl, m, rfl⟩) | (go_at_call 101; refine (refHalf_4 _).mono ?_; rintro e w' ⟨rfl, rfl⟩))
    go_ret
    exact ⟨ret_int (sgnlo4 n hc), _, rfl⟩
  · go_enter Tryz.func63, Tryz.ntmps63
    go_wp2_with (first | (go_at_call 100; refine (refSized_any _ _).mono ?_; rintro e w' ⟨rfl, rfl⟩) | (go_at_call 99; refine (refLow_4 _ hn _).mono ?_; rintro e w' ⟨rfl, m, rfl⟩) | (go_at_call 101; refine (refHalf_4 _).mono ?_; rintro e w' ⟨rfl, rfl⟩))
    go_ret
    exact ⟨ret_int (sgnhi4 n (by omega)), _, rfl⟩
theorem refSign_8 (n : Int) (hn : (Lit.int .u64 n).wf = true) (w : World) : Calls Tryz.prog 63 #[.int .u64 n, .int .i64 8] w fun e w' => e = .returned (.int .i64 (signZ n 8)) ∧ ∃ m, w' = w.drewN m := by
  have hb : 0 ≤ lowZ n 8 ∧ lowZ n 8 ≤ 18446744073709551615 := by unfold lowZ pw; simp; omega
  obtain ⟨hb0, hb1⟩ := hb
  by_cases hc : lowZ n 8 < 9223372036854775808
  · go_enter Tryz.func63, Tryz.ntmps63
    go_wp2_with (first | (go_at_call 100; refine (refSized_any _ _).mono ?_; rintro e w' ⟨rfl, rfl⟩) | (go_at_call 99; refine (refLow_8 _ hn _).mono ?_; rintro e w' ⟨rfl, m, rfl⟩) | (go_at_call 101; refine (refHalf_8 _).mono ?_; rintro e w' ⟨rfl, rfl⟩))
    go_ret
    exact ⟨ret_int (sgnlo8 n hc), _, rfl⟩
  · go_enter Tryz.func63, Tryz.ntmps63
    go_wp2_with (first | (go_at_call 100; refine (refSized_any _ _).mono ?_; rintro e w' ⟨rfl, rfl⟩) | (go_at_call 99; refine (refLow_8 _ hn _).mono ?_; rintro e w' ⟨rfl, m, rfl⟩) | (go_at_call 101; refine (refHalf_8 _).mono ?_; rintro e w' ⟨rfl, rfl⟩))
    go_ret
    exact ⟨ret_int (sgnhi8 n (by omega)), _, rfl⟩
theorem refBits_no (n z : Int) (hz : isSz z = false) (w : World) : Calls Tryz.prog 200 #[.int .i64 n, .int .i64 z] w fun e w' => e = .returned (.tuple #[.int .u64 (bitsN n z), .int .i64 (bitsE n z)]) ∧ w = w' := by
  rw [bitsN_no hz, bitsE_no hz]
  go_enter Tryz.func200, Tryz.ntmps200
  go_wp2_with (go_at_call 100; refine (refSized_any _ _).mono ?_; rintro e w' ⟨rfl, rfl⟩)
  go_ret2
  exact ⟨rfl, rfl⟩
theorem refBits_1 (n : Int) (hn : (Lit.int .i64 n).wf = true) (w : World) : Calls Tryz.prog 200 #[.int .i64 n, .int .i64 1] w fun e w' => e = .returned (.tuple #[.int .u64 (bitsN n 1), .int .i64 (bitsE n 1)]) ∧ w = w' := by
  obtain ⟨hn0, hn1⟩ := bounds_i64 hn
  clear hn
  by_cases hp : 0 ≤ n
  · by_cases hc : n < 128
    all_goals
      go_enter Tryz.func200, Tryz.ntmps200
      go_wp2_with (first | (go_at_call 100; refine (refSized_any _ _).mono ?_; rintro e w' ⟨rfl, rfl⟩) | (go_at_call 101; refine (refHalf_1 _).mono ?_; rintro e w' ⟨rfl, rfl⟩))
      all_goals
        go_ret2
        exact ⟨ret_ui (by have := bits_spec1 n; omega) (by have := bits_spec1 n; omega), rfl⟩
  · by_cases hc : -n ≤ 128
    all_goals
      go_enter Tryz.func200, Tryz.ntmps200
      go_wp2_with (first | (go_at_call 100; refine (refSized_any _ _).mono ?_; rintro e w' ⟨rfl, rfl⟩) | (go_at_call 101; refine (refHalf_1 _).mono ?_; rintro e w' ⟨rfl, rfl⟩))
      all_goals
        go_ret2
        exact ⟨ret_ui (by have := bits_spec1 n; omega) (by have := bits_spec1 n; omega), rfl⟩
theorem refBits_2 (n : Int) (hn : (Lit.int .i64 n).wf = true) (w : World) : Calls Tryz.prog 200 #[.int .i64 n, .int .i64 2] w fun e w' => e = .returned (.tuple #[.int .u64 (bitsN n 2), .int .i64 (bitsE n 2)]) ∧ w = w' := by
  obtain ⟨hn0, hn1⟩ := bounds_i64 hn
  clear hn
  by_cases hp : 0 ≤ n
  · by_cases hc : n < 32768
    all_goals
      go_enter Tryz.func200, Tryz.ntmps200
      go_wp2_with (first | (go_at_call 100; refine (refSized_any _ _).mono ?_; rintro e w' ⟨rfl, rfl⟩) | (go_at_call 101; refine (refHalf_2 _).mono ?_; rintro e w' ⟨rfl, rfl⟩))
      all_goals
        go_ret2
        exact ⟨ret_ui (by have := bits_spec2 n; omega) (by have := bits_spec2 n; omega), rfl⟩
  · by_cases hc : -n ≤ 32768
    all_goals
      go_enter Tryz.func200, Tryz.ntmps200
      go_wp2_with (first | (go_at_call 100; refine (refSized_any _ _).mono ?_; rintro e w' ⟨rfl, rfl⟩) | (go_at_call 101; refine (refHalf_2 _).mono ?_; rintro e w' ⟨rfl, rfl⟩))
      all_goals
        go_ret2
        exact ⟨ret_ui (by have := bits_spec2 n; omega) (by have := bits_spec2 n; omega), rfl⟩
theorem refBits_4 (n : Int) (hn : (Lit.int .i64 n).wf = true) (w : World) : Calls Tryz.prog 200 #[.int .i64 n, .int .i64 4] w fun e w' => e = .returned (.tuple #[.int .u64 (bitsN n 4), .int .i64 (bitsE n 4)]) ∧ w = w' := by
  obtain ⟨hn0, hn1⟩ := bounds_i64 hn
  clear hn
  by_cases hp : 0 ≤ n
  · by_cases hc : n < 2147483648
    all_goals
      go_enter Tryz.func200, Tryz.ntmps200
      go_wp2_with (first | (go_at_call 100; refine (refSized_any _ _).mono ?_; rintro e w' ⟨rfl, rfl⟩) | (go_at_call 101; refine (refHalf_4 _).mono ?_; rintro e w' ⟨rfl, rfl⟩))
      all_goals
        go_ret2
        exact ⟨ret_ui (by have := bits_spec4 n; omega) (by have := bits_spec4 n; omega), rfl⟩
  · by_cases hc : -n ≤ 2147483648
    all_goals
      go_enter Tryz.func200, Tryz.ntmps200
      go_wp2_with (first | (go_at_call 100; refine (refSized_any _ _).mono ?_; rintro e w' ⟨rfl, rfl⟩) | (go_at_call 101; refine (refHalf_4 _).mono ?_; rintro e w' ⟨rfl, rfl⟩))
      all_goals
        go_ret2
        exact ⟨ret_ui (by have := bits_spec4 n; omega) (by have := bits_spec4 n; omega), rfl⟩
theorem refBits_8 (n : Int) (hn : (Lit.int .i64 n).wf = true) (w : World) : Calls Tryz.prog 200 #[.int .i64 n, .int .i64 8] w fun e w' => e = .returned (.tuple #[.int .u64 (bitsN n 8), .int .i64 (bitsE n 8)]) ∧ w = w' := by
  obtain ⟨hn0, hn1⟩ := bounds_i64 hn
  clear hn
  by_cases hp : 0 ≤ n
  · by_cases hc : n < 9223372036854775808
    all_goals
      go_enter Tryz.func200, Tryz.ntmps200
      go_wp2_with (first | (go_at_call 100; refine (refSized_any _ _).mono ?_; rintro e w' ⟨rfl, rfl⟩) | (go_at_call 101; refine (refHalf_8 _).mono ?_; rintro e w' ⟨rfl, rfl⟩))
      all_goals
        go_ret2
        exact ⟨ret_ui (by have := bits_spec8 n; omega) (by have := bits_spec8 n; omega), rfl⟩
  · by_cases hc : -n ≤ 9223372036854775808
    all_goals
      go_enter Tryz.func200, Tryz.ntmps200
      go_wp2_with (first | (go_at_call 100; refine (refSized_any _ _).mono ?_; rintro e w' ⟨rfl, rfl⟩) | (go_at_call 101; refine (refHalf_8 _).mono ?_; rintro e w' ⟨rfl, rfl⟩))
      all_goals
        go_ret2
        exact ⟨ret_ui (by have := bits_spec8 n; omega) (by have := bits_spec8 n; omega), rfl⟩
theorem refBits_any (n z : Int) (hn : (Lit.int .i64 n).wf = true) (w : World) : Calls Tryz.prog 200 #[.int .i64 n, .int .i64 z] w fun e w' => e = .returned (.tuple #[.int .u64 (bitsN n z), .int .i64 (bitsE n z)]) ∧ w = w' := by
  cases hz : isSz z with
  | false => exact refBits_no n z hz w
  | true =>
    rcases isSz_cases hz with rfl | rfl | rfl | rfl
    · exact refBits_1 n hn w
    · exact refBits_2 n hn w
    · exact refBits_4 n hn w
    · exact refBits_8 n hn w
end Go.Proofs.YtcojomkpogikiaaGreatDoor.Pa
