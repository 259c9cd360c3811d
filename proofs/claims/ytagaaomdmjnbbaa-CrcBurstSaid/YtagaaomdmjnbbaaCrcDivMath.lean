/- Plain mathematics of chapter 3: the division of polynomials, a bit a place, leaves the register. -/
import Derived.Test.YtagaaomdmjnbbaaCrcMath
namespace Go.Proofs.Ytagaaomdmjnbbaa
set_option linter.unusedVariables false
/-- which of the 33 places are there, from the highest down -/
def crcP : List Bool := [true, false, false, false, false, false, true, false, false, true, true, false, false, false, false, false, true, false, false, false, true, true, true, false, true, true, false, true, true, false, true, true, true]
theorem crcP_poly : ∀ k, k < 32 → crcP.getD (k + 1) false = crcPoly.testBit k := by decide
theorem crcP_zero : crcP.getD 0 false = true := rfl
/-- the first k places taken off at place i -/
def divAt (l : List Bool) (i : Nat) : Nat → List Bool
  | 0 => l
  | k + 1 => (divAt l i k).set (i + k) ((divAt l i k).getD (i + k) false != crcP.getD k false)
/-- n steps of the division -/
def divN (l : List Bool) : Nat → List Bool
  | 0 => l
  | n + 1 => if (divN l n).getD n false then divAt (divN l n) n 33 else divN l n
/-- the first 32 places turned -/
def flipN (l : List Bool) : Nat → List Bool
  | 0 => l
  | k + 1 => (flipN l k).set k (!(flipN l k).getD k false)
theorem divAt_length (l : List Bool) (i : Nat) : ∀ k, (divAt l i k).length = l.length
  | 0 => rfl
  | k + 1 => by simp [divAt, divAt_length l i k]
theorem divN_length (l : List Bool) : ∀ n, (divN l n).length = l.length
  | 0 => rfl
  | n + 1 => by simp only [divN]; split <;> simp [divAt_length, divN_length l n]
theorem flipN_length (l : List Bool) : ∀ k, (flipN l k).length = l.length
  | 0 => rfl
  | k + 1 => by simp [flipN, flipN_length l k]
theorem getD_set (l : List Bool) (i j : Nat) (b : Bool) (hi : i < l.length) : (l.set i b).getD j false = if i = j then b else l.getD j false := by
  rw [List.getD_eq_getElem?_getD, List.getElem?_set, List.getD_eq_getElem?_getD]
  split
  · subst_vars; rfl
  · rfl
theorem divAt_get (l : List Bool) (i : Nat) : ∀ (k : Nat), i + k ≤ l.length → ∀ j, (divAt l i k).getD j false = if i ≤ j ∧ j < i + k then (l.getD j false != crcP.getD (j - i) false) else l.getD j false
  | 0, _, j => by rw [if_neg (by omega)]; rfl
  | k + 1, h, j => by
    have ih := divAt_get l i k (by omega)
    simp only [divAt]
    rw [getD_set _ _ _ _ (by rw [divAt_length]; omega)]
    by_cases e : i + k = j
    · subst e
      rw [if_pos rfl, ih, if_neg (by omega), if_pos (by omega), Nat.add_sub_cancel_left]
    · rw [if_neg e, ih]
      by_cases c : i ≤ j ∧ j < i + k
      · rw [if_pos c, if_pos (by omega)]
      · rw [if_neg c, if_neg (by omega)]
theorem flipN_get (l : List Bool) : ∀ (k : Nat), k ≤ l.length → ∀ j, (flipN l k).getD j false = if j < k then !l.getD j false else l.getD j false
  | 0, _, j => by rw [if_neg (by omega)]; rfl
  | k + 1, h, j => by
    have ih := flipN_get l k (by omega)
    simp only [flipN]
    rw [getD_set _ _ _ _ (by rw [flipN_length]; omega)]
    by_cases e : k = j
    · subst e
      rw [if_pos rfl, ih, if_neg (by omega), if_pos (by omega)]
    · rw [if_neg e, ih]
      by_cases c : j < k
      · rw [if_pos c, if_pos (by omega)]
      · rw [if_neg c, if_neg (by omega)]
theorem packB_get : ∀ (l : List Bool) (j : Nat), (packB l).testBit j = l.getD j false
  | [], j => by simp [packB]
  | b :: l, 0 => by rw [packB_zero]; rfl
  | b :: l, j + 1 => by rw [packB_succ, packB_get l j]; rfl
theorem getD_append_zeros (M : List Bool) (n j : Nat) : (M ++ List.replicate n false).getD j false = M.getD j false := by
  rw [List.getD_eq_getElem?_getD, List.getD_eq_getElem?_getD]
  by_cases h : j < M.length
  · rw [List.getElem?_append_left h]
  · rw [List.getElem?_append_right (by omega), List.getElem?_eq_none (l := M) (by omega), List.getElem?_replicate]
    split <;> rfl
/-- the message with 32 bits 0 behind, the first 32 turned -/
def crcStart (M : List Bool) : List Bool := flipN (M ++ List.replicate 32 false) 32
theorem crcStart_length (M : List Bool) : (crcStart M).length = M.length + 32 := by simp [crcStart, flipN_length]
theorem div_inv (M : List Bool) : ∀ n, n ≤ M.length → (∀ k, k < 32 → (divN (crcStart M) n).getD (n + k) false = ((crcBits 4294967295 (M.take n)).testBit k != M.getD (n + k) false)) ∧
    (∀ j, n + 32 ≤ j → (divN (crcStart M) n).getD j false = M.getD j false)
  | 0, _ => by
    have hl : 32 ≤ (M ++ List.replicate 32 false).length := by simp
    refine ⟨fun k hk => ?_, fun j hj => ?_⟩
    · simp only [divN, crcStart, Nat.zero_add, List.take_zero]
      rw [flipN_get _ _ hl, if_pos hk, getD_append_zeros]
      have hb : (crcBits 4294967295 []).testBit k = true := by
        show (4294967295 : Nat).testBit k = true
        have := Nat.testBit_two_pow_sub_one 32 k
        rw [show (2 : Nat) ^ 32 - 1 = 4294967295 by decide] at this
        rw [this]; simpa using hk
      rw [hb]; cases M.getD k false <;> rfl
    · simp only [divN, crcStart]
      rw [flipN_get _ _ hl, if_neg (by omega), getD_append_zeros]
  | n + 1, h => by
    obtain ⟨ih1, ih2⟩ := div_inv M n (by omega)
    have hr : crcBits 4294967295 (M.take n) < 2 ^ 32 := crcBits_lt _ (by decide)
    have hlen : (divN (crcStart M) n).length = M.length + 32 := by rw [divN_length, crcStart_length]
    have hb : (divN (crcStart M) n).getD n false = ((crcBits 4294967295 (M.take n)).testBit 0 != M.getD n false) := ih1 0 (by omega)
    have hs : crcBits 4294967295 (M.take (n + 1)) = crcStep (crcBits 4294967295 (M.take n)) (M.getD n false) := by
      rw [List.take_succ_eq_append_getElem (by omega), crcBits_append, List.getD_eq_getElem?_getD, List.getElem?_eq_getElem (by omega)]; rfl
    have h32 : (crcBits 4294967295 (M.take n)).testBit 32 = false := Nat.testBit_lt_two_pow hr
    generalize crcBits 4294967295 (M.take n) = r at ih1 hb hs h32 hr
    rw [hs]
    have hold : ∀ k, k < 32 → (divN (crcStart M) n).getD (n + 1 + k) false = (r.testBit (k + 1) != M.getD (n + 1 + k) false) := by
      intro k hk
      by_cases c : k + 1 < 32
      · have := ih1 (k + 1) c
        rwa [show n + (k + 1) = n + 1 + k by omega] at this
      · obtain rfl : k = 31 := by omega
        rw [ih2 _ (by omega), h32]; cases M.getD (n + 1 + 31) false <;> rfl
    refine ⟨fun k hk => ?_, fun j hj => ?_⟩
    · simp only [divN, crcStep, Nat.testBit_xor, Nat.testBit_shiftRight]
      rw [hb, Nat.add_comm 1 k]
      split
      · rename_i hc
        rw [divAt_get _ _ _ (by omega), if_pos (by omega), hold k hk, show n + 1 + k - n = k + 1 by omega, crcP_poly k hk]
        cases r.testBit (k + 1) <;> cases crcPoly.testBit k <;> cases M.getD (n + 1 + k) false <;> rfl
      · rename_i hc
        rw [hold k hk]; simp
    · simp only [divN]
      split
      · rw [divAt_get _ _ _ (by omega), if_neg (by omega)]; exact ih2 j (by omega)
      · exact ih2 j (by omega)
/-- what the division leaves, turned -/
theorem div_sum (M : List Bool) : packB (((divN (crcStart M) M.length).drop M.length).map (!·)) = 4294967295 - crcBits 4294967295 M := by
  obtain ⟨h1, _⟩ := div_inv M M.length (Nat.le_refl _)
  rw [List.take_length] at h1
  have hr : crcBits 4294967295 M < 2 ^ 32 := crcBits_lt _ (by decide)
  have hlen : (divN (crcStart M) M.length).length = M.length + 32 := by rw [divN_length, crcStart_length]
  apply Nat.eq_of_testBit_eq
  intro k
  have e : 4294967295 - crcBits 4294967295 M = 2 ^ 32 - (crcBits 4294967295 M + 1) := by omega
  rw [e, Nat.testBit_two_pow_sub_succ hr, packB_get]
  by_cases c : k < 32
  · have h2 := h1 k c
    have h0 : M.getD (M.length + k) false = false := by rw [List.getD_eq_getElem?_getD, List.getElem?_eq_none (by omega)]; rfl
    rw [h0] at h2
    rw [List.getD_eq_getElem?_getD, List.getElem?_map, List.getElem?_drop, List.getElem?_eq_getElem (by omega)]
    rw [List.getD_eq_getElem?_getD, List.getElem?_eq_getElem (by omega)] at h2
    simp at h2 ⊢
    rw [h2]; simp [c]
  · rw [List.getD_eq_getElem?_getD, List.getElem?_eq_none (by simp; omega)]
    simp [c]
end Go.Proofs.Ytagaaomdmjnbbaa
