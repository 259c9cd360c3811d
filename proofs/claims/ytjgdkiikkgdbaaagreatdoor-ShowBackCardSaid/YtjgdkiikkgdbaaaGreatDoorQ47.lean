/- Trees that are the same have the same text, may be told alike, are as great; what Text answers. No run of the program. -/
import Derived.Test.YtjgdkiikkgdbaaaGreatDoorQ24
import Derived.Test.YtjgdkiikkgdbaaaGreatDoorQ43
import Derived.Test.YtjgdkiikkgdbaaaGreatDoorQ45
import Derived.Test.YtjgdkiikkgdbaaaGreatDoorQ46
namespace Go.Proofs.YtjgdkiikkgdbaaaGreatDoor
open Go Go.RowKit
set_option linter.unusedVariables false
/-- the three answers -/
theorem ans_cases (T : XT) (HX : XTx T) : (ansS T = ⟨#[]⟩ ∧ (ansEr T = 1 ∨ ansEr T = 3 ∨ ansEr T = 9)) ∨ (mayB T = true ∧ ansS T = bs (showX T) ∧ ansEr T = 0 ∧ (showX T).length ≤ 256 ∧ ∃ x, parseA (showX T) = .good x ∧ SameX x T) := by
  cases hm : mayB T with
  | false => obtain ⟨h1, h2⟩ := ans_no hm; exact .inl ⟨h1, .inl h2⟩
  | true =>
    obtain ⟨q1, q2⟩ := show_parse T (mayB_ok T HX hm)
    by_cases hl : 256 < (showX T).length ∨ 64 < (toksX T).length
    · obtain ⟨b, hb⟩ := q1 hl
      obtain ⟨h1, h2⟩ := ans_bad hm hb
      exact .inl ⟨h1, .inr (.inl h2)⟩
    · have hl1 : (showX T).length ≤ 256 := by omega
      have hl2 : (toksX T).length ≤ 64 := by omega
      obtain ⟨q3, q4⟩ := q2 hl1 hl2
      by_cases hn : nestX T ≤ 8
      · obtain ⟨x, hx, hs⟩ := q3 hn
        obtain ⟨h1, h2⟩ := ans_ok hm hx
        exact .inr ⟨rfl, h1, h2, hl1, x, hx, hs⟩
      · obtain ⟨b, hb⟩ := q4 (by omega)
        obtain ⟨h1, h2⟩ := ans_bad hm hb
        exact .inl ⟨h1, .inr (.inr h2)⟩
end Go.Proofs.YtjgdkiikkgdbaaaGreatDoor
