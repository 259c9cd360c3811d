/- Chapter 16 in plain Lean: the text of an operand and of a tree, and whether they may be told, step by step as the reference does. No run of the program. -/
import Derived.Test.YtjgdkiikkgdbaaaGreatDoorQ10
import Derived.Test.YtjgdkiikkgdbaaaGreatDoorQ37
namespace Go.Proofs.YtjgdkiikkgdbaaaGreatDoor
open Go
set_option linter.unusedVariables false
theorem tw_alu : ∀ (l : List UInt8), ∀ x ∈ l.takeWhile alu, alu x = true
  | [], x, h => by simp at h
  | c :: r, x, h => by
    rw [List.takeWhile_cons] at h
    cases hc : alu c with
    | false => rw [hc] at h; simp at h
    | true =>
      rw [hc] at h
      rcases List.mem_cons.1 h with rfl | h
      · exact hc
      · exact tw_alu r x h
end Go.Proofs.YtjgdkiikkgdbaaaGreatDoor
