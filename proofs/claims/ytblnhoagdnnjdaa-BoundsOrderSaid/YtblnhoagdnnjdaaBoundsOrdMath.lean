/- Plain mathematics of BoundsOrder: the capped ends at a place, and their order. -/
import Derived.Test.YtblnhoagdnnjdaaBoundsAwake
namespace Go.Proofs.Ytblnhoagdnnjdaa
open Go.RowKit
set_option linter.unusedVariables false
/-- the capped end at a place up to 700 -/
def gE (L : Nat → TypeV) (len k : Nat) (most : Bool) (a : Nat) : Nat := min (endE L (openT L len) most k (min a 513)) 513
theorem place_nat (a : Nat) : placeN (a : Nat) = min a 513 := by unfold placeN; omega
theorem bound_gE {L : Nat → TypeV} {len k : Nat} (hk : k < len) (hv : fErr (oneR L len) len = 0) (most : Bool) (a : Nat) : boundA L (openT L len) len (k : Nat) (a : Nat) most = (gE L len k most a : Nat) := by
  unfold boundA gE
  rw [hasT_yes hk hv, place_nat]; rfl
theorem gE_le (L : Nat → TypeV) (len k : Nat) (most : Bool) (a : Nat) : gE L len k most a ≤ 513 := by unfold gE; omega
theorem gE_inc {L : Nat → TypeV} {len k : Nat} (hk : k < len) (hok : ∀ i, i < len → OkT L i) (most : Bool) (a : Nat) (ha : a ≤ 512) : a < gE L len k most a := by
  have := (end_good (op := openT L len) (most := most) hok hk).inc (min a 513)
  unfold gE; omega
theorem gE_mono {L : Nat → TypeV} {len k : Nat} (hk : k < len) (hok : ∀ i, i < len → OkT L i) (most : Bool) (a b : Nat) (h : a ≤ b) : gE L len k most a ≤ gE L len k most b := by
  have := (end_good (op := openT L len) (most := most) hok hk).mono (min a 513) (min b 513) (by omega)
  unfold gE; omega
theorem gE_two {L : Nat → TypeV} {len k : Nat} (hk : k < len) (hok : ∀ i, i < len → OkT L i) (a : Nat) : gE L len k false a ≤ gE L len k true a := by
  have := least_most (op := openT L len) hok hk (min a 513)
  unfold gE; omega
theorem gE_shift {L : Nat → TypeV} {len k : Nat} (hk : k < len) (hok : ∀ i, i < len → OkT L i) (most : Bool) (a : Nat) : gE L len k most (a + 8) = min (gE L len k most a + 8) 513 := by
  have g := end_good (op := openT L len) (most := most) hok hk
  unfold gE
  by_cases h : a + 8 ≤ 513
  · rw [Nat.min_eq_left h, Nat.min_eq_left (show a ≤ 513 by omega), g.shift]; omega
  · have h1 := g.inc 513
    have h2 := g.inc (min a 513)
    rw [Nat.min_eq_right (show 513 ≤ a + 8 by omega)]
    omega
def clampN (k : Int) : Nat := (max 0 (min k 600)).toNat
theorem clamp_cases (k : Int) : (k < 0 ∧ clampN k = 0) ∨ (0 ≤ k ∧ k ≤ 600 ∧ k = (clampN k : Nat)) ∨ (600 < k ∧ clampN k = 600) := by unfold clampN; omega
end Go.Proofs.Ytblnhoagdnnjdaa
