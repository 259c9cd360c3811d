/- Chapter 17 in plain Lean: the reference's rows. No run of the program. -/
import Derived.Test.YtbldhfafflobbaaLikeStep
namespace Go.Proofs.Ytbldhfafflobbaa
open Go
set_option linter.unusedVariables false
theorem take_get {l : List UInt8} {i : Nat} (h : i < l.length) : l.take (i + 1) = l.take i ++ [l.getD i 0] := by
  rw [List.take_add_one, List.getElem?_eq_getElem h]
  simp [List.getD_eq_getElem?_getD, List.getElem?_eq_getElem h]
/-- one cell of the next row -/
theorem row_step {p s : List UInt8} {i k : Nat} (hi : i < p.length) (hk : k ≤ s.length) : likeL (p.take (i + 1)) (s.take k) =
    if p.getD i 0 = 37 then (likeL (p.take i) (s.take k) || (decide (0 < k) && likeL (p.take (i + 1)) (s.take (k - 1)))) else (decide (0 < k) && (likeL (p.take i) (s.take (k - 1)) && (p.getD i 0 == 95 || p.getD i 0 == s.getD (k - 1) 0))) := by
  rw [take_get hi]
  by_cases hc : p.getD i 0 = 37
  · rw [if_pos hc, hc]; exact like_snoc_pct _ _ _ hk
  · rw [if_neg hc]
    cases k with
    | zero => rw [List.take_zero, like_snoc_none hc]; rfl
    | succ k => rw [take_get (show k < s.length by omega), like_snoc_chr hc, Nat.add_sub_cancel, decide_eq_true (Nat.succ_pos k), Bool.true_and]
/-- a row: for which beginnings of the text a beginning of the pattern stands -/
def rowL (p s : List UInt8) (i : Nat) : List Bool := (List.range (s.length + 1)).map (fun j => likeL (p.take i) (s.take j))
/-- a row that is filled up to a place -/
def rowT (p s : List UInt8) (i k : Nat) : List Bool := (List.range (s.length + 1)).map (fun j => decide (j < k) && likeL (p.take i) (s.take j))
theorem rowL_len (p s : List UInt8) (i : Nat) : (rowL p s i).length = s.length + 1 := by simp [rowL]
theorem rowT_len (p s : List UInt8) (i k : Nat) : (rowT p s i k).length = s.length + 1 := by simp [rowT]
theorem rowL_get (p s : List UInt8) (i j : Nat) (hj : j ≤ s.length) : (rowL p s i).getD j false = likeL (p.take i) (s.take j) := by
  simp [rowL, List.getD_eq_getElem?_getD, List.getElem?_map, List.getElem?_range (show j < s.length + 1 by omega)]
theorem rowT_get (p s : List UInt8) (i k j : Nat) (hj : j ≤ s.length) : (rowT p s i k).getD j false = (decide (j < k) && likeL (p.take i) (s.take j)) := by
  simp [rowT, List.getD_eq_getElem?_getD, List.getElem?_map, List.getElem?_range (show j < s.length + 1 by omega)]
theorem rowT_zero (p s : List UInt8) (i : Nat) : rowT p s i 0 = List.replicate (s.length + 1) false := by
  apply List.ext_getElem
  · simp [rowT]
  · intro j h1 h2; simp [rowT]
theorem rowT_full (p s : List UInt8) (i : Nat) : rowT p s i (s.length + 1) = rowL p s i := by
  unfold rowT rowL
  apply List.map_congr_left
  intro j hj
  rw [decide_eq_true (List.mem_range.1 hj), Bool.true_and]
theorem rowT_set (p s : List UInt8) (i k : Nat) (hk : k ≤ s.length) : (rowT p s i k).set k (likeL (p.take i) (s.take k)) = rowT p s i (k + 1) := by
  apply List.ext_getElem
  · simp [rowT]
  · intro j h1 h2
    rw [List.getElem_set]
    simp only [rowT, List.getElem_map, List.getElem_range]
    by_cases h : k = j
    · subst h; rw [if_pos rfl, decide_eq_true (Nat.lt_succ_self k), Bool.true_and]
    · rw [if_neg h]
      by_cases h3 : j < k
      · rw [decide_eq_true h3, decide_eq_true (by omega)]
      · rw [decide_eq_false h3, decide_eq_false (by omega)]
theorem rowT_skip (p s : List UInt8) (i k : Nat) (hk : k ≤ s.length) (h : likeL (p.take i) (s.take k) = false) : rowT p s i k = rowT p s i (k + 1) := by
  unfold rowT
  apply List.map_congr_left
  intro j hj
  by_cases h2 : j = k
  · subst h2; rw [h, Bool.and_false, Bool.and_false]
  · by_cases h3 : j < k
    · rw [decide_eq_true h3, decide_eq_true (by omega)]
    · rw [decide_eq_false h3, decide_eq_false (by omega)]
/-- the first row -/
theorem row_first (p s : List UInt8) : (List.replicate (s.length + 1) false).set 0 true = rowL p s 0 := by
  apply List.ext_getElem
  · simp [rowL]
  · intro j h1 h2
    rw [List.getElem_set]
    simp only [rowL, List.getElem_map, List.getElem_range, List.take_zero]
    by_cases h : 0 = j
    · subst h; rw [if_pos rfl]; rfl
    · rw [if_neg h, List.getElem_replicate]
      have hj : j < s.length + 1 := by rw [List.length_set, List.length_replicate] at h1; exact h1
      cases hq : s.take j with
      | nil =>
        have := congrArg List.length hq
        rw [List.length_take] at this
        have h4 : min j s.length = 0 := this
        omega
      | cons a r => rfl
theorem row_last (p s : List UInt8) : (rowL p s p.length).getD s.length false = likeL p s := by rw [rowL_get p s _ _ (Nat.le_refl _), List.take_length, List.take_length]
end Go.Proofs.Ytbldhfafflobbaa
