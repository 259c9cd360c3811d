/- Plain mathematics of chapter 2: the gap at a place for a size. -/
import Derived.Test.YtohphejhlgnciaaGreatWordTakeMath
namespace Go.Proofs.YtohphejhlgnciaaGreat
open Go.RowKit
/-- the gap at a place for a size -/
def gapZ (a z : Int) : Int := if a < 0 then 0 else if isSz z then (z - a % z) % z else 0
theorem gapZ_neg {a z : Int} (h : a < 0) : gapZ a z = 0 := by unfold gapZ; rw [if_pos h]
theorem gapZ_no {a z : Int} (h : isSz z = false) : gapZ a z = 0 := by unfold gapZ; rw [h]; split <;> rfl
theorem gapZ_in {a z : Int} (h : 0 ≤ a) (hz : isSz z = true) : gapZ a z = (z - a % z) % z := by
  unfold gapZ; rw [if_neg (by omega), hz]; rfl
theorem gapZ_lt {a z : Int} (hz : isSz z = true) : 0 ≤ gapZ a z ∧ gapZ a z < z := by
  unfold gapZ; rw [hz]
  rcases isSz_cases hz with rfl | rfl | rfl | rfl <;> split <;> simp <;> omega
theorem gapZ_rng (a z : Int) : 0 ≤ gapZ a z ∧ gapZ a z ≤ 7 := by
  cases hz : isSz z with
  | false => rw [gapZ_no hz]; omega
  | true =>
    have := gapZ_lt (a := a) hz
    rcases isSz_cases hz with rfl | rfl | rfl | rfl <;> omega
theorem gapZ_mod {a z : Int} (h : 0 ≤ a) (hz : isSz z = true) : (a + gapZ a z) % z = 0 := by
  rw [gapZ_in h hz]
  rcases isSz_cases hz with rfl | rfl | rfl | rfl <;> omega
end Go.Proofs.YtohphejhlgnciaaGreat
