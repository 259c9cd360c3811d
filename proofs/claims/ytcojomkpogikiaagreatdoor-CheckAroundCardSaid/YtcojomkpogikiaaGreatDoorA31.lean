/- The reference of chapter 18: tree, Check, Datum. -/
import Derived.Deep.CutBlock
import Derived.Test.YtcojomkpogikiaaGreatDoorA28
namespace Go.Proofs.YtcojomkpogikiaaGreatDoor
open Go.RowKit
set_option linter.unusedVariables false
set_option linter.unusedSimpArgs false
/-- its texts are not too long -/
def XSm : XT → Prop
  | .nil => True
  | .node _ _ _ n _ g _ m _ f => (∀ i, i < n → (g i).text.size ≤ 1000000) ∧ ∀ i, i < m → XSm (f i)
theorem xsm_iff (T : XT) : XSm T ↔ (∀ i, i < T.an → (T.arg i).text.size ≤ 1000000) ∧ ∀ i, i < T.kn → XSm (T.kid i) := by
  cases T with
  | nil => exact ⟨fun _ => ⟨fun i hi => absurd hi (Nat.not_lt_zero i), fun i hi => absurd hi (Nat.not_lt_zero i)⟩, fun _ => trivial⟩
  | node => exact Iff.rfl
end Go.Proofs.YtcojomkpogikiaaGreatDoor
