/- What the statements of chapter 6 ask, of lists of types as the program sees them. -/
import Derived.Test.YtkaddjmngfpcfaaTypesAwake
namespace Go.Proofs.Ytkaddjmngfpcfaa
open Go.ChangeShapes Go.WideShapes Go.ChangeAt Go.RowKit
set_option linter.unusedVariables false
section
variable {H : Type} {enc : TypeId × Value → H} {w : World}
theorem types_of2 {v : Value} (h : v = .slice none 0 0 ∨ ∃ (a : Addr) (len cap : Nat), v = .slice (some a) len cap ∧ len ≤ cap ∧ cap ≤ maxLen ∧ cap * Try.prog.bytesOf 41 ≤ 140737488351232 ∧
      ∀ i, i < cap → ∃ c : List Value, w.cells? 0 (a.add (i * 6)) 6 = some c ∧ Rdg enc Try.prog w 41 c) :
    ∃ (ao : Option Addr) (len cap : Nat) (L : Nat → TypeV), v = .slice ao len cap ∧ len ≤ cap ∧ cap ≤ 9223372036854775807 ∧ len ≤ 140737488351232 ∧ ∀ i, i < len → TypeAt w ao i (L i) := by
  obtain ⟨ao, len, cap, L, e, hm, H⟩ := types_of h
  rcases h with rfl | ⟨a, len', cap', rfl, hl, hc, _⟩
  · injection e with e1 e2 e3; subst e2 e3; exact ⟨ao, 0, 0, L, by rw [e1], Nat.le_refl _, by omega, hm, H⟩
  · injection e with e1 e2 e3; subst e2 e3; exact ⟨ao, len', cap', L, by rw [e1], hl, hc, hm, H⟩
end
theorem great_lt {L : Nat → TypeV} {len : Nat} (h : greatB L len = false) : len ≤ 100 := by
  unfold greatB at h; simp at h; omega
end Go.Proofs.Ytkaddjmngfpcfaa
