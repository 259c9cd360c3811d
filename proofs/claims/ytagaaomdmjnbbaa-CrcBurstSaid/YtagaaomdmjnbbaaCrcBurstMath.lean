/- Plain mathematics of CrcBurst: a text with up to four bytes side by side changed. -/
import Derived.Test.YtagaaomdmjnbbaaCrcMath
namespace Go.Proofs.Ytagaaomdmjnbbaa
set_option linter.unusedVariables false
/-- the first k of four bytes combined, from place f on, as far as the text goes -/
def xorN (l : List UInt8) (f : Nat) (F : Nat → UInt8) : Nat → List UInt8
  | 0 => l
  | k + 1 => if f + k < l.length then (xorN l f F k).set (f + k) ((xorN l f F k).getD (f + k) 0 ^^^ F k) else xorN l f F k
theorem xorN_length (l : List UInt8) (f : Nat) (F : Nat → UInt8) : ∀ k, (xorN l f F k).length = l.length
  | 0 => rfl
  | k + 1 => by simp only [xorN]; split <;> simp [xorN_length l f F k]
theorem xorN_get (l : List UInt8) (f : Nat) (F : Nat → UInt8) : ∀ (k j : Nat), (j < f ∨ f + k ≤ j) → (xorN l f F k)[j]? = l[j]?
  | 0, j, _ => rfl
  | k + 1, j, h => by
    have ih := xorN_get l f F k j (by omega)
    simp only [xorN]
    split
    · rw [List.getElem?_set, if_neg (by omega)]; exact ih
    · exact ih
theorem split4 (l : List UInt8) (f : Nat) : l = l.take f ++ (l.drop f).take 4 ++ l.drop (f + 4) := by
  rw [List.append_assoc, ← List.drop_drop, List.take_append_drop, List.take_append_drop]
/-- changed within four bytes: the same text exactly where the registers are the same -/
theorem burst_iff (l l' : List UInt8) (f r : Nat) (hr : r < 2 ^ 32) (hl : l'.length = l.length) (h : ∀ j, (j < f ∨ f + 4 ≤ j) → l'[j]? = l[j]?) : crcBytes r l' = crcBytes r l ↔ l' = l := by
  constructor
  · intro e
    have h1 : l'.take f = l.take f := by
      apply List.ext_getElem?
      intro j
      rw [List.getElem?_take, List.getElem?_take]
      split
      · exact h j (.inl (by assumption))
      · rfl
    have h2 : l'.drop (f + 4) = l.drop (f + 4) := by
      apply List.ext_getElem?
      intro j
      rw [List.getElem?_drop, List.getElem?_drop]
      exact h _ (.inr (by omega))
    rw [split4 l' f, split4 l f, h1, h2] at e
    have h3 := crc_burst hr (by simp [hl]) (by simp; omega) e
    rw [split4 l' f, split4 l f, h1, h2, h3]
  · rintro rfl; rfl
theorem xorN_burst (l : List UInt8) (f r : Nat) (F : Nat → UInt8) (k : Nat) (hk : k ≤ 4) (hr : r < 2 ^ 32) : crcBytes r (xorN l f F k) = crcBytes r l ↔ xorN l f F k = l :=
  burst_iff l _ f r hr (xorN_length l f F k) (fun j hj => xorN_get l f F k j (by omega))
end Go.Proofs.Ytagaaomdmjnbbaa
