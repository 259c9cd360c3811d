/- Values as trees: their depth, size, text and sameness, and when one is too great to be asked; in plain words. -/
import Derived.Test.YtcojomkpogikiaaGreatDoorQ23
import Derived.Test.YtcojomkpogikiaaGreatDoorQ52
namespace Go.Proofs.YtcojomkpogikiaaGreatDoor.Pa
set_option linter.unusedVariables false
namespace VT
end VT
def anyTo (f : Nat → Bool) : Nat → Bool | 0 => false | n + 1 => anyTo f n || f n
theorem anyTo_iff {f : Nat → Bool} : ∀ n, anyTo f n = true ↔ ∃ i, i < n ∧ f i = true
  | 0 => by simp [anyTo]
  | n + 1 => by
    rw [anyTo, Bool.or_eq_true, anyTo_iff n]
    constructor
    · rintro (⟨i, hi, h⟩ | h)
      · exact ⟨i, by omega, h⟩
      · exact ⟨n, by omega, h⟩
    · rintro ⟨i, hi, h⟩
      rcases Nat.lt_succ_iff_lt_or_eq.1 hi with h' | rfl
      · exact .inl ⟨i, h', h⟩
      · exact .inr h
theorem anyTo_false {f : Nat → Bool} {n : Nat} (h : anyTo f n = false) (i : Nat) (hi : i < n) : f i = false := by
  cases hx : f i with
  | false => rfl
  | true => rw [(anyTo_iff n).2 ⟨i, hi, hx⟩] at h; cases h
end Go.Proofs.YtcojomkpogikiaaGreatDoor.Pa
namespace Go.Proofs.YtcojomkpogikiaaGreatDoor.Pa
open Go.ChangeShapes Go.WideShapes Go.ChangeAt Go.RowKit
set_option linter.unusedVariables false
end Go.Proofs.YtcojomkpogikiaaGreatDoor.Pa
namespace Go.Proofs.YtcojomkpogikiaaGreatDoor.Pa
open Go.RowKit
set_option linter.unusedVariables false
end Go.Proofs.YtcojomkpogikiaaGreatDoor.Pa
namespace Go.Proofs.YtcojomkpogikiaaGreatDoor.Pa
open Go.RowKit
set_option linter.unusedVariables false
end Go.Proofs.YtcojomkpogikiaaGreatDoor.Pa
namespace Go.Proofs.YtcojomkpogikiaaGreatDoor.Pa
open Go.RowKit
set_option linter.unusedVariables false
end Go.Proofs.YtcojomkpogikiaaGreatDoor.Pa
