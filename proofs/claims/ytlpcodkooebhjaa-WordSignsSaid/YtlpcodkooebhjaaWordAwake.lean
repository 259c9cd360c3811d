/- Contract of the statements' own examples (awake). -/
import Derived.Test.YtlpcodkooebhjaaWordPut
import Derived.Test.YtlpcodkooebhjaaWordTake
namespace Go.Proofs.Ytlpcodkooebhjaa
open Go.RowKit
theorem put_258 (w : World) : Calls Try.prog 6 #[.int .u64 258, .int .i64 2] w fun e w' => e = .returned (.tuple #[.string ⟨#[2, 1]⟩, .int .i64 0]) ∧ Below w.heap.size w w' :=
  (put_any 258 2 (by decide) w).mono fun _ _ ⟨he, hb⟩ => ⟨he.trans (ret_si (by decide) (by decide)), hb⟩
theorem bits_m2 (w : World) : Calls Try.prog 11 #[.int .i64 (-2), .int .i64 2] w fun e w' => e = .returned (.tuple #[.int .u64 65534, .int .i64 0]) ∧ Below w.heap.size w w' :=
  (bits_any (-2) 2 w).mono fun _ _ ⟨he, hb⟩ => ⟨he.trans (ret_ui (by decide) (by decide)), below_quiet hb⟩
theorem sign_255 (w : World) : Calls Try.prog 13 #[.int .u64 255, .int .i64 1] w fun e w' => e = .returned (.int .i64 (-1)) ∧ Below w.heap.size w w' :=
  (sign_any 255 1 w).mono fun _ _ ⟨he, hb⟩ => ⟨he.trans (ret_int (by decide)), below_quiet hb⟩
theorem awake_any (w : World) : Calls Try.prog 10 #[] w fun e w' => e = .returned (.bool true) ∧ Below w.heap.size w w' := by
  have hr := Below.refl w.heap.size w
  go_enter Try.func10, Try.ntmps10
  go_wp2_with (first | (go_at_call 6; refine (put_258 _).mono ?_; rintro e w1 ⟨rfl, hb⟩; have hr := below_step hr hb; clear hb) | (go_at_call 11; refine (bits_m2 _).mono ?_; rintro e w1 ⟨rfl, hb⟩; have hr := below_step hr hb; clear hb) | (go_at_call 13; refine (sign_255 _).mono ?_; rintro e w1 ⟨rfl, hb⟩; have hr := below_step hr hb; clear hb))
  go_ret
  exact ⟨rfl, hr⟩
end Go.Proofs.Ytlpcodkooebhjaa
