/- Plain mathematics of chapter 4: the first place with a property; letters, names, words; leading bytes; where a text stands in a list. No dump is imported. -/
import Derived.Test.YtjgdkiikkgdbaaaGreatDoorQ00
namespace Go.Proofs.YtjgdkiikkgdbaaaGreatDoor
open Go.RowKit
set_option linter.unusedVariables false
/-- .. or -1 -/
def firstZ (p : Nat → Bool) (n : Nat) : Int := if firstN p n < n then (firstN p n : Nat) else -1
theorem firstZ_at {p : Nat → Bool} {n k : Nat} (h : ∀ i, i < k → p i = false) (hk : k < n) (hp : p k = true) : firstZ p n = (k : Nat) := by
  unfold firstZ; rw [first_at h hk hp, if_pos hk]
theorem firstZ_none {p : Nat → Bool} {n : Nat} (h : ∀ i, i < n → p i = false) : firstZ p n = -1 := by
  unfold firstZ; rw [first_none h, if_neg (Nat.lt_irrefl _)]
theorem firstZ_cases (p : Nat → Bool) (n : Nat) : (∃ k : Nat, k < n ∧ firstZ p n = k ∧ p k = true ∧ ∀ i, i < k → p i = false) ∨ (firstZ p n = -1 ∧ ∀ i, i < n → p i = false) := by
  obtain ⟨h1, h2, h3⟩ := firstN_is p n
  by_cases c : firstN p n < n
  · exact .inl ⟨_, c, by unfold firstZ; rw [if_pos c], h3 c, h2⟩
  · refine .inr ⟨by unfold firstZ; rw [if_neg c], fun i hi => h2 i (by omega)⟩
def formedS (s : ByteArray) : Bool := decide (0 < s.size) && decide (leadN s = s.size)
def wordAt (k : Nat) : ByteArray := ⟨(wordsL.getD k []).toArray⟩
/-- a text in a list, a text that stood ahead -/
def findZ (L : Nat → ByteArray) (s : ByteArray) (n : Nat) : Int := firstZ (fun k => (L k).toList == s.toList) n
theorem words_find (s : ByteArray) : decide (findZ wordAt s 7 ≥ 0) = wordS s := by
  have hw : ∀ k, (wordAt k).toList = wordsL.getD k [] := fun k => by rw [ByteArray.toList_eq]; simp [wordAt]
  rcases firstZ_cases (fun k => (wordAt k).toList == s.toList) 7 with ⟨k, hk, e, h1, _⟩ | ⟨e, h1⟩
  · have h2 : wordS s = true := by
      unfold wordS
      rw [hw, beq_iff_eq, ByteArray.toList_eq] at h1
      rw [List.contains_iff_mem, ← h1]
      have hl : k < wordsL.length := hk
      rw [List.getD_eq_getElem?_getD, List.getElem?_eq_getElem hl]
      exact List.getElem_mem hl
    rw [h2]; unfold findZ; rw [e]; simp
  · have h2 : wordS s = false := by
      unfold wordS
      cases hc : wordsL.contains s.data.toList with
      | false => rfl
      | true =>
        rw [List.contains_iff_mem] at hc
        obtain ⟨k, hl, hg⟩ := List.getElem_of_mem hc
        have := h1 k hl
        rw [hw, ByteArray.toList_eq, List.getD_eq_getElem?_getD, List.getElem?_eq_getElem hl, hg] at this
        simp at this
    rw [h2]; unfold findZ; rw [e]; decide
end Go.Proofs.YtjgdkiikkgdbaaaGreatDoor
