/- Contracts of package word's small functions. -/
import Derived.Test.YtgiaidoaadjfkaaRows
import Derived.Test.YtgiaidoaadjfkaaWordMath
import Derived.WalkKit
import Derived.BigQuiet
import Derived.Deep.QuietTactic
import Derived.BigGuardPart
namespace Go.Proofs.Ytgiaidoaadjfkaa
open Go.RowKit
theorem ret_bool {a b : Bool} (h : a = b) : Ending.returned (.bool a) = .returned (.bool b) := by rw [h]
theorem ret_int {k : IntKind} {a b : Int} (h : a = b) : Ending.returned (.int k a) = .returned (.int k b) := by rw [h]
theorem isSize_any (z : Int) (w : World) : Calls Try.prog 36 #[.int .i64 z] w fun e w' => e = .returned (.bool (isSz z)) ∧ w = w' := by
  go_enter Try.func36, Try.ntmps36
  go_wp2
  all_goals
    go_ret
    exact ⟨ret_bool (by simp [isSz, *]), rfl⟩
theorem spare_any (z : Int) (w : World) (h : isSz z = true) : Calls Try.prog 41 #[.int .i64 z] w fun e w' => e = .returned (.int .i64 (64 - 8 * z)) ∧ w = w' := by
  have h' := isSz_cases h
  clear h
  go_enter Try.func41, Try.ntmps41
  go_wp2
  go_ret
  exact ⟨rfl, rfl⟩
theorem spare_any' (z : Int) (w : World) (h : isSz z = true) : Calls Try.prog 41 #[.int .i64 z] w fun e w' => e = .returned (.int .i64 (64 - 8 * z)) ∧ w' = w :=
  (spare_any z w h).mono fun _ _ ⟨a, b⟩ => ⟨a, b.symm⟩
theorem lowest_1 (n : Int) (w : World) : Calls Try.prog 37 #[.int .u64 n, .int .i64 1] w fun e w' => e = .returned (.int .u64 (lowZ n 1)) ∧ ∃ m, w' = w.drewN m := by
  go_enter Try.func37, Try.ntmps37
  go_wp2
  go_quiet ((go_at_call 41; exact Calls.quiet_of_same (P := Try.prog) (spare_any' _ _ rfl)))
  go_wp2
  go_ret
  exact ⟨ret_int (low1 n), _, rfl⟩
theorem lowest_2 (n : Int) (w : World) : Calls Try.prog 37 #[.int .u64 n, .int .i64 2] w fun e w' => e = .returned (.int .u64 (lowZ n 2)) ∧ ∃ m, w' = w.drewN m := by
  go_enter Try.func37, Try.ntmps37
  go_wp2
  go_quiet ((go_at_call 41; exact Calls.quiet_of_same (P := Try.prog) (spare_any' _ _ rfl)))
  go_wp2
  go_ret
  exact ⟨ret_int (low2 n), _, rfl⟩
theorem lowest_4 (n : Int) (w : World) : Calls Try.prog 37 #[.int .u64 n, .int .i64 4] w fun e w' => e = .returned (.int .u64 (lowZ n 4)) ∧ ∃ m, w' = w.drewN m := by
  go_enter Try.func37, Try.ntmps37
  go_wp2
  go_quiet ((go_at_call 41; exact Calls.quiet_of_same (P := Try.prog) (spare_any' _ _ rfl)))
  go_wp2
  go_ret
  exact ⟨ret_int (low4 n), _, rfl⟩
theorem lowest_8 (n : Int) (w : World) : Calls Try.prog 37 #[.int .u64 n, .int .i64 8] w fun e w' => e = .returned (.int .u64 (lowZ n 8)) ∧ ∃ m, w' = w.drewN m := by
  go_enter Try.func37, Try.ntmps37
  go_wp2
  go_quiet ((go_at_call 41; exact Calls.quiet_of_same (P := Try.prog) (spare_any' _ _ rfl)))
  go_wp2
  go_ret
  exact ⟨ret_int (low8 n), _, rfl⟩
theorem lowest_any (n z : Int) (hz : isSz z = true) (w : World) : Calls Try.prog 37 #[.int .u64 n, .int .i64 z] w fun e w' => e = .returned (.int .u64 (lowZ n z)) ∧ ∃ m, w' = w.drewN m := by
  rcases isSz_cases hz with rfl | rfl | rfl | rfl
  · exact lowest_1 n w
  · exact lowest_2 n w
  · exact lowest_4 n w
  · exact lowest_8 n w
end Go.Proofs.Ytgiaidoaadjfkaa
