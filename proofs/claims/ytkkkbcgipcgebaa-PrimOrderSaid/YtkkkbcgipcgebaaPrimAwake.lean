/- Chapter 5's examples. -/
import Derived.Test.YtkkkbcgipcgebaaPrimOf
namespace Go.Proofs.Ytkkkbcgipcgebaa
open Go.RowKit
set_option linter.unusedVariables false
theorem below_step5 {w w1 w2 : World} (h : Below w.heap.size w w1) (k : Below w1.heap.size w1 w2) : Below w.heap.size w w2 := h.trans (k.mono h.size)
theorem of_256 (w : World) : Calls Try.prog 20 #[.int .i64 2, .agg #[.int .i64 1, .bool false, .int .u64 256, .string ⟨#[]⟩]] w fun e w' => e = .returned (.tuple #[.int .u64 0, .bool false]) ∧ Below w.heap.size w w' := by
  have h := of_any 2 1 256 false ⟨#[]⟩ (by decide) (by decide) w
  have e1 : ofB 2 ⟨1, false, 256, ⟨#[]⟩⟩ = false := by decide +kernel
  have e2 : ofN 2 ⟨1, false, 256, ⟨#[]⟩⟩ = 0 := by unfold ofN; rw [e1]; rfl
  rwa [e1, e2] at h
theorem datum_65535 (w : World) : Calls Try.prog 22 #[.int .i64 3, .int .u64 65535] w fun e w' => e = .returned (.agg #[.int .i64 1, .bool true, .int .u64 1, .string ⟨#[]⟩]) ∧ Below w.heap.size w w' := by
  have h := datum_any 3 65535 (by decide) w
  have e1 : datK 3 65535 = ⟨1, true, 1, ⟨#[]⟩⟩ := by rw [datK_neg (by decide) (by decide)]; rfl
  rwa [e1] at h
theorem awake5_any (w : World) : Calls Try.prog 19 #[] w fun e w' => e = .returned (.bool true) ∧ Below w.heap.size w w' := by
  have hr := Below.refl w.heap.size w
  go_enter Try.func19, Try.ntmps19
  go_wp2_with (first
    | (go_at_call 20; (with_reducible refine (of_256 _).mono ?_); rintro e w1 ⟨rfl, hb⟩; have hr := below_step5 hr hb; clear hb)
    | (go_at_call 22; (with_reducible refine (datum_65535 _).mono ?_); rintro e w1 ⟨rfl, hb⟩; have hr := below_step5 hr hb; clear hb))
  go_ret
  exact ⟨rfl, hr⟩
end Go.Proofs.Ytkkkbcgipcgebaa
