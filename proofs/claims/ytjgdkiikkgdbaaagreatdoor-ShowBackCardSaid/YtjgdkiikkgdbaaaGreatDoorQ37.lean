/- Chapter 15 in plain Lean: trees, and the tree of a list of tokens. No run of the program. -/
import Derived.Test.YtjgdkiikkgdbaaaGreatDoorQ04
namespace Go.Proofs.YtjgdkiikkgdbaaaGreatDoor
open Go
set_option linter.unusedVariables false
namespace XT
end XT
theorem sameX_refl : ∀ T : XT, SameX T T := XT.ind fun T ih => (sameX_iff T T).2 ⟨rfl, rfl, rfl, fun _ _ => rfl, rfl, ih⟩
theorem sameX_trans : ∀ T U V : XT, SameX T U → SameX U V → SameX T V := by
  refine XT.ind fun T ih U V h k => ?_
  obtain ⟨h1, h2, h3, h4, h5, h6⟩ := (sameX_iff T U).1 h
  obtain ⟨k1, k2, k3, k4, k5, k6⟩ := (sameX_iff U V).1 k
  exact (sameX_iff T V).2 ⟨h1.trans k1, h2.trans k2, h3.trans k3, fun i hi => (h4 i hi).trans (k4 i (by omega)), h5.trans k5, fun i hi => ih i hi _ _ (h6 i hi) (k6 i (by omega))⟩
end Go.Proofs.YtjgdkiikkgdbaaaGreatDoor
/- The same tokens with other ones behind them are parsed as the same; in plain Lean. No run of the program. -/
namespace Go.Proofs.YtjgdkiikkgdbaaaGreatDoor
open Go
set_option linter.unusedVariables false
def kt (x : Tk) : Nat × List UInt8 × Nat := (x.k, x.t, x.n)
end Go.Proofs.YtjgdkiikkgdbaaaGreatDoor
