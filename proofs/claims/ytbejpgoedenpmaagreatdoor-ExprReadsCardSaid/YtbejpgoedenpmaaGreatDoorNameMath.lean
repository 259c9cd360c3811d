/- Plain mathematics of chapter 4: the first place with a property; letters, names, words; leading bytes; where a text stands in a list. No dump is imported. -/
import Derived.WalkKit
import Derived.Laws.Strings
namespace Go.Proofs.YtbejpgoedenpmaaGreatDoor
open Go.RowKit
set_option linter.unusedVariables false
/-- the first of n places with the property, or n -/
def firstN (p : Nat → Bool) (n : Nat) : Nat := ((List.range n).find? p).getD n
def FirstIs (p : Nat → Bool) (n k : Nat) : Prop := k ≤ n ∧ (∀ i, i < k → p i = false) ∧ (k < n → p k = true)
theorem firstN_is (p : Nat → Bool) (n : Nat) : FirstIs p n (firstN p n) := by
  unfold firstN
  cases h : (List.range n).find? p with
  | none =>
    rw [List.find?_range_eq_none] at h
    exact ⟨Nat.le_refl _, fun i hi => by simpa using h i hi, fun h2 => absurd h2 (Nat.lt_irrefl _)⟩
  | some k =>
    rw [List.find?_range_eq_some] at h
    obtain ⟨h1, h2, h3⟩ := h
    rw [List.mem_range] at h2
    exact ⟨Nat.le_of_lt h2, fun i hi => by simpa using h3 i hi, fun _ => h1⟩
theorem FirstIs.eq {p : Nat → Bool} {n k m : Nat} (h : FirstIs p n k) (g : FirstIs p n m) : k = m := by
  rcases Nat.lt_trichotomy k m with c | c | c
  · have := h.2.2 (Nat.lt_of_lt_of_le c g.1); rw [g.2.1 k c] at this; cases this
  · exact c
  · have := g.2.2 (Nat.lt_of_lt_of_le c h.1); rw [h.2.1 m c] at this; cases this
theorem first_at {p : Nat → Bool} {n k : Nat} (h : ∀ i, i < k → p i = false) (hk : k < n) (hp : p k = true) : firstN p n = k := (firstN_is p n).eq ⟨Nat.le_of_lt hk, h, fun _ => hp⟩
theorem first_none {p : Nat → Bool} {n : Nat} (h : ∀ i, i < n → p i = false) : firstN p n = n := (firstN_is p n).eq ⟨Nat.le_refl _, h, fun h2 => absurd h2 (Nat.lt_irrefl _)⟩
theorem firstN_le (p : Nat → Bool) (n : Nat) : firstN p n ≤ n := (firstN_is p n).1
/-- .. or -1 -/
def firstZ (p : Nat → Bool) (n : Nat) : Int := if firstN p n < n then (firstN p n : Nat) else -1
theorem firstZ_at {p : Nat → Bool} {n k : Nat} (h : ∀ i, i < k → p i = false) (hk : k < n) (hp : p k = true) : firstZ p n = (k : Nat) := by
  unfold firstZ; rw [first_at h hk hp, if_pos hk]
theorem firstZ_none {p : Nat → Bool} {n : Nat} (h : ∀ i, i < n → p i = false) : firstZ p n = -1 := by
  unfold firstZ; rw [first_none h, if_neg (Nat.lt_irrefl _)]
theorem firstZ_cases (p : Nat → Bool) (n : Nat) : (∃ k : Nat, k < n ∧ firstZ p n = k ∧ p k = true ∧ ∀ i, i < k → p i = false) ∨ (firstZ p n = -1 ∧ ∀ i, i < n → p i = false) := by
  obtain ⟨h1, h2, h3⟩ := firstN_is p n
  by_cases c : firstN p n < n
  · exact .inl ⟨_, c, by unfold firstZ; rw [if_pos c], h3 c, h2⟩
  · refine .inr ⟨by unfold firstZ; rw [if_neg c], fun i hi => h2 i (by omega)⟩
/-- a property that is not there below k: one place more -/
theorem none_next {p : Nat → Bool} {k : Nat} (h : ∀ i, i < k → p i = false) (hk : p k = false) : ∀ i, i < k + 1 → p i = false := fun i hi => by
  rcases Nat.lt_or_ge i k with c | c
  · exact h i c
  · have : i = k := by omega
    subst this; exact hk
/-- letters and digits -/
def isL (c : Nat) : Bool := (decide (97 ≤ c) && decide (c ≤ 122)) || (decide (65 ≤ c) && decide (c ≤ 90))
def isD (c : Nat) : Bool := decide (48 ≤ c) && decide (c ≤ 57)
/-- what may stand at the first place of a name, and behind it -/
def okAt (i c : Nat) : Bool := if i = 0 then isL c else isL c || isD c || c == 95
def charAt (s : ByteArray) (i : Nat) : Nat := (s.data.toList.getD i 0).toNat
theorem charAt_get (s : ByteArray) (i : Nat) (h : i < s.size) : charAt s i = (s[i]'h).toNat := by
  unfold charAt
  have hl : i < s.data.toList.length := by simpa using h
  rw [List.getD_eq_getElem?_getD, List.getElem?_eq_getElem hl]
  rfl
theorem charAt_lt (s : ByteArray) (i : Nat) : charAt s i < 256 := by unfold charAt; exact UInt8.toNat_lt _
def badAt (s : ByteArray) (i : Nat) : Bool := !okAt i (charAt s i)
/-- how many bytes of a name lead -/
def leadN (s : ByteArray) : Nat := firstN (badAt s) s.size
theorem leadN_le (s : ByteArray) : leadN s ≤ s.size := firstN_le _ _
def formedS (s : ByteArray) : Bool := decide (0 < s.size) && decide (leadN s = s.size)
def wordsL : List (List UInt8) := [[65, 78, 68], [79, 82], [78, 79, 84], [66, 69, 84, 87, 69, 69, 78], [76, 73, 75, 69], [84, 82, 85, 69], [70, 65, 76, 83, 69]]
def wordAt (k : Nat) : ByteArray := ⟨(wordsL.getD k []).toArray⟩
def wordS (s : ByteArray) : Bool := wordsL.contains s.data.toList
def nameS (s : ByteArray) : Bool := formedS s && decide (s.size ≤ 16) && !wordS s
/-- a text in a list, a text that stood ahead -/
def findZ (L : Nat → ByteArray) (s : ByteArray) (n : Nat) : Int := firstZ (fun k => (L k).toList == s.toList) n
def aheadB (L : Nat → ByteArray) (i : Nat) : Bool := decide (findZ L (L i) i ≠ -1)
def twiceZ (L : Nat → ByteArray) (n : Nat) : Int := firstZ (aheadB L) n
theorem words_find (s : ByteArray) : decide (findZ wordAt s 7 ≥ 0) = wordS s := by
  have hw : ∀ k, (wordAt k).toList = wordsL.getD k [] := fun k => by rw [ByteArray.toList_eq]; simp [wordAt]
  rcases firstZ_cases (fun k => (wordAt k).toList == s.toList) 7 with ⟨k, hk, e, h1, _⟩ | ⟨e, h1⟩
  · have h2 : wordS s = true := by
      unfold wordS
      rw [hw, beq_iff_eq, ByteArray.toList_eq] at h1
      rw [List.contains_iff_mem, ← h1]
      have hl : k < wordsL.length := hk
      rw [List.getD_eq_getElem?_getD, List.getElem?_eq_getElem hl]
      exact List.getElem_mem hl
    rw [h2]; unfold findZ; rw [e]; simp
  · have h2 : wordS s = false := by
      unfold wordS
      cases hc : wordsL.contains s.data.toList with
      | false => rfl
      | true =>
        rw [List.contains_iff_mem] at hc
        obtain ⟨k, hl, hg⟩ := List.getElem_of_mem hc
        have := h1 k hl
        rw [hw, ByteArray.toList_eq, List.getD_eq_getElem?_getD, List.getElem?_eq_getElem hl, hg] at this
        simp at this
    rw [h2]; unfold findZ; rw [e]; decide
theorem aheadB_iff (L : Nat → ByteArray) (i : Nat) : aheadB L i = true ↔ ∃ j, j < i ∧ ((L j).toList == (L i).toList) = true := by
  unfold aheadB findZ
  rcases firstZ_cases (fun k => (L k).toList == (L i).toList) i with ⟨k, hk, e, h1, _⟩ | ⟨e, h1⟩
  · rw [e]; simp; exact ⟨k, hk, by simpa using h1⟩
  · rw [e]; simp; intro x hx; simpa using h1 x hx
/-- the reference's Twice asks the whole list -/
theorem find_lt (L : Nat → ByteArray) (i n : Nat) (h : i < n) : decide (findZ L (L i) n < i) = aheadB L i := by
  have hp : ((L i).toList == (L i).toList) = true := by simp
  rcases firstZ_cases (fun k => (L k).toList == (L i).toList) n with ⟨k, hk, e, h1, h2⟩ | ⟨e, h1⟩
  · unfold findZ; rw [e]
    rcases Nat.lt_or_ge k i with c | c
    · have : aheadB L i = true := (aheadB_iff L i).2 ⟨k, c, h1⟩
      rw [this]; simp; exact c
    · have : aheadB L i = false := by
        cases hc : aheadB L i with
        | false => rfl
        | true =>
          obtain ⟨j, hj, hq⟩ := (aheadB_iff L i).1 hc
          have := h2 j (by omega)
          rw [hq] at this; cases this
      rw [this]; simp; exact c
  · have := h1 i h
    rw [hp] at this; cases this
end Go.Proofs.YtbejpgoedenpmaaGreatDoor
