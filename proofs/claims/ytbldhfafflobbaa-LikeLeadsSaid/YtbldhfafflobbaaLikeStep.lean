/- Chapter 17 in plain Lean: the search that goes back to the last % alone, step by step. No run of the program. -/
import Derived.Test.YtbldhfafflobbaaLikeMath
namespace Go.Proofs.Ytbldhfafflobbaa
open Go
set_option linter.unusedVariables false
/-- no % so far: the rest of the pattern stands for the rest of the text if the pattern stands for the text -/
structure StN (p s : List UInt8) (V : Bool) (i k : Nat) : Prop where
  hi : i ≤ p.length
  hk : k ≤ s.length
  eq : likeL (p.drop i) (s.drop k) = V
/-- the last % at a, asked from m on: what stands behind it, up to i, stands for the bytes from m to k -/
structure StS (p s : List UInt8) (V : Bool) (a m i k : Nat) : Prop where
  ha : a < i
  hi : i ≤ p.length
  hm : m ≤ k
  hk : k ≤ s.length
  len : k - m = i - (a + 1)
  pct : p.getD a 0 = 37
  no : ∀ c ∈ (p.drop (a + 1)).take (i - (a + 1)), c ≠ 37
  seg : likeL ((p.drop (a + 1)).take (i - (a + 1))) ((s.drop m).take (k - m)) = true
  eq : likeL (p.drop a) (s.drop m) = V
theorem drop_get {l : List UInt8} {i : Nat} (h : i < l.length) : l.drop i = l.getD i 0 :: l.drop (i + 1) := by
  rw [List.drop_eq_getElem_cons h]; simp [List.getD_eq_getElem?_getD, List.getElem?_eq_getElem h]
theorem StN.start (p s : List UInt8) : StN p s (likeL p s) 0 0 := ⟨Nat.zero_le _, Nat.zero_le _, rfl⟩
theorem StN.star {p s : List UInt8} {V : Bool} {i k : Nat} (h : StN p s V i k) (hi : i < p.length) (hc : p.getD i 0 = 37) : StS p s V i k (i + 1) k := by
  refine ⟨by omega, by omega, Nat.le_refl _, h.hk, by omega, hc, fun c hc => ?_, ?_, h.eq⟩
  · rw [Nat.sub_self, List.take_zero] at hc; cases hc
  · rw [Nat.sub_self, Nat.sub_self]; rfl
theorem StN.chr {p s : List UInt8} {V : Bool} {i k : Nat} (h : StN p s V i k) (hi : i < p.length) (hk : k < s.length) (hc : p.getD i 0 ≠ 37) (hd : p.getD i 0 = 95 ∨ p.getD i 0 = s.getD k 0) : StN p s V (i + 1) (k + 1) := by
  refine ⟨by omega, by omega, ?_⟩
  rw [← h.eq, drop_get hi, drop_get hk, like_cons, if_neg hc]
  show _ = ((p.getD i 0 == 95 || p.getD i 0 == s.getD k 0) && likeL (p.drop (i + 1)) (s.drop (k + 1)))
  have : (p.getD i 0 == 95 || p.getD i 0 == s.getD k 0) = true := by rw [Bool.or_eq_true, beq_iff_eq, beq_iff_eq]; exact hd
  rw [this, Bool.true_and]
/-- a rest that does not go on -/
theorem rest_no {p s : List UInt8} {i k : Nat} (hk : k < s.length) (h : p.length ≤ i ∨ (p.getD i 0 ≠ 37 ∧ p.getD i 0 ≠ 95 ∧ p.getD i 0 ≠ s.getD k 0)) : likeL (p.drop i) (s.drop k) = false := by
  rw [drop_get hk]
  by_cases hi : i < p.length
  · have h := h.resolve_left (by omega)
    rw [drop_get hi, like_cons, if_neg h.1]
    show ((p.getD i 0 == 95 || p.getD i 0 == s.getD k 0) && _) = false
    rw [show (p.getD i 0 == 95) = false from beq_eq_false_iff_ne.2 h.2.1, show (p.getD i 0 == s.getD k 0) = false from beq_eq_false_iff_ne.2 h.2.2]; rfl
  · rw [List.drop_eq_nil_of_le (by omega)]; rfl
theorem StN.fail {p s : List UInt8} {V : Bool} {i k : Nat} (h : StN p s V i k) (hk : k < s.length) (hf : p.length ≤ i ∨ (p.getD i 0 ≠ 37 ∧ p.getD i 0 ≠ 95 ∧ p.getD i 0 ≠ s.getD k 0)) : V = false := by
  rw [← h.eq]; exact rest_no hk hf
theorem StN.fin {p s : List UInt8} {V : Bool} {i : Nat} (h : StN p s V i s.length) : V = (p.drop i).all (fun c => c == 37) := by
  rw [← h.eq, List.drop_length, like_end]
/-- the pattern behind the last %: what was read, and the rest -/
theorem StS.split {p s : List UInt8} {V : Bool} {a m i k : Nat} (h : StS p s V a m i k) : p.drop a = 37 :: ((p.drop (a + 1)).take (i - (a + 1)) ++ p.drop i) := by
  have ha := h.ha
  have hi := h.hi
  rw [drop_get (by omega), h.pct]
  congr 1
  have e := List.take_append_drop (i - (a + 1)) (p.drop (a + 1))
  rw [List.drop_drop, show a + 1 + (i - (a + 1)) = i by omega] at e
  exact e.symm
theorem StS.lit {p s : List UInt8} {V : Bool} {a m i k : Nat} (h : StS p s V a m i k) : ((p.drop (a + 1)).take (i - (a + 1))).length = i - (a + 1) := by
  have ha := h.ha
  have hi := h.hi
  rw [List.length_take, List.length_drop]; omega
theorem StS.star {p s : List UInt8} {V : Bool} {a m i k : Nat} (h : StS p s V a m i k) (hi : i < p.length) (hc : p.getD i 0 = 37) : StS p s V i k (i + 1) k := by
  have ha := h.ha
  have hm := h.hm
  have hlen := h.len
  have hl := h.lit
  refine ⟨by omega, by omega, Nat.le_refl _, h.hk, by omega, hc, fun c hc => ?_, ?_, ?_⟩
  · rw [Nat.sub_self, List.take_zero] at hc; cases hc
  · rw [Nat.sub_self, Nat.sub_self]; rfl
  · rw [← h.eq, h.split, drop_get hi, hc]
    rw [Bool.eq_iff_iff]
    constructor
    · intro h2
      refine (like_suf _ _).2 ⟨0, Nat.zero_le _, ?_⟩
      rw [List.drop_zero]
      refine (like_app _ _ _).2 ⟨(s.drop m).take (k - m), s.drop k, ?_, h.seg, h2⟩
      have e := List.take_append_drop (k - m) (s.drop m)
      rw [List.drop_drop, show m + (k - m) = k by omega] at e
      exact e.symm
    · intro h2
      obtain ⟨n, _, h3⟩ := (like_suf _ _).1 h2
      rw [List.drop_drop] at h3
      exact like_back (m := m) (n := m + n) h.no (by rw [hl]; omega) (by omega) h3
theorem StS.chr {p s : List UInt8} {V : Bool} {a m i k : Nat} (h : StS p s V a m i k) (hi : i < p.length) (hk : k < s.length) (hc : p.getD i 0 ≠ 37) (hd : p.getD i 0 = 95 ∨ p.getD i 0 = s.getD k 0) : StS p s V a m (i + 1) (k + 1) := by
  have ha := h.ha
  have hm := h.hm
  have hlen := h.len
  have e1 : (p.drop (a + 1)).take (i + 1 - (a + 1)) = (p.drop (a + 1)).take (i - (a + 1)) ++ [p.getD i 0] := by
    rw [show i + 1 - (a + 1) = i - (a + 1) + 1 by omega, List.take_add_one, List.getElem?_drop, show a + 1 + (i - (a + 1)) = i by omega, List.getElem?_eq_getElem hi]
    simp [List.getD_eq_getElem?_getD, List.getElem?_eq_getElem hi]
  have e2 : (s.drop m).take (k + 1 - m) = (s.drop m).take (k - m) ++ [s.getD k 0] := by
    rw [show k + 1 - m = k - m + 1 by omega, List.take_add_one, List.getElem?_drop, show m + (k - m) = k by omega, List.getElem?_eq_getElem hk]
    simp [List.getD_eq_getElem?_getD, List.getElem?_eq_getElem hk]
  refine ⟨by omega, by omega, by omega, by omega, by omega, h.pct, fun c hx => ?_, ?_, h.eq⟩
  · rw [e1] at hx
    rcases List.mem_append.1 hx with hx | hx
    · exact h.no c hx
    · rw [List.mem_singleton.1 hx]; exact hc
  · rw [e1, e2, like_snoc_chr hc, h.seg, Bool.true_and, Bool.or_eq_true, beq_iff_eq, beq_iff_eq]; exact hd
/-- it does not go on: the last % takes one byte more -/
theorem StS.back {p s : List UInt8} {V : Bool} {a m i k : Nat} (h : StS p s V a m i k) (hk : k < s.length) (hf : p.length ≤ i ∨ (p.getD i 0 ≠ 37 ∧ p.getD i 0 ≠ 95 ∧ p.getD i 0 ≠ s.getD k 0)) : StS p s V a (m + 1) (a + 1) (m + 1) := by
  have ha := h.ha
  have hi := h.hi
  have hm := h.hm
  have hl := h.lit
  have hlen := h.len
  refine ⟨by omega, by omega, Nat.le_refl _, by omega, by omega, h.pct, fun c hc => ?_, ?_, ?_⟩
  · rw [Nat.sub_self, List.take_zero] at hc; cases hc
  · rw [Nat.sub_self, Nat.sub_self]; rfl
  · rw [← h.eq, h.split]
    generalize hL : (p.drop (a + 1)).take (i - (a + 1)) = L
    have hno := h.no
    rw [hL] at hl hno
    rw [Bool.eq_iff_iff, like_suf, like_suf]
    constructor
    · rintro ⟨n, hn, h2⟩
      rw [List.drop_drop] at h2
      exact ⟨n + 1, by rw [List.length_drop] at hn ⊢; omega, by rw [List.drop_drop, show m + (n + 1) = m + 1 + n by omega]; exact h2⟩
    · rintro ⟨n, hn, h2⟩
      cases n with
      | zero =>
        exfalso
        rw [List.drop_zero] at h2
        obtain ⟨x, y, e, hx, hy⟩ := (like_app _ _ _).1 h2
        have hxl := like_len L x hno hx
        have hy2 : y = s.drop k := by
          have := congrArg (List.drop x.length) e
          rw [List.drop_left, List.drop_drop, hxl, hl, show m + (i - (a + 1)) = k by omega] at this
          exact this.symm
        rw [hy2, rest_no hk hf] at hy; cases hy
      | succ n =>
        rw [List.drop_drop] at h2
        exact ⟨n, by rw [List.length_drop] at hn ⊢; omega, by rw [List.drop_drop, show m + 1 + n = m + (n + 1) by omega]; exact h2⟩
/-- at the text's end -/
theorem StS.fin {p s : List UInt8} {V : Bool} {a m i : Nat} (h : StS p s V a m i s.length) : V = (p.drop i).all (fun c => c == 37) := by
  have ha := h.ha
  have hi := h.hi
  have hm := h.hm
  have hl := h.lit
  have hlen := h.len
  rw [← h.eq, h.split, ← like_end, Bool.eq_iff_iff]
  constructor
  · intro h2
    obtain ⟨n, hn, h3⟩ := (like_suf _ _).1 h2
    rw [List.drop_drop] at h3
    obtain ⟨x, y, e, hx, hy⟩ := (like_app _ _ _).1 h3
    have hxl := like_len _ x h.no hx
    have := congrArg List.length e
    rw [List.length_drop, List.length_append, hxl, hl] at this
    rw [List.length_drop] at hn
    have hy0 : y = [] := List.eq_nil_of_length_eq_zero (by omega)
    rw [hy0] at hy; exact hy
  · intro h2
    refine (like_suf _ _).2 ⟨0, Nat.zero_le _, ?_⟩
    rw [List.drop_zero]
    refine (like_app _ _ _).2 ⟨s.drop m, [], by simp, ?_, h2⟩
    have e := h.seg
    have e2 : (s.drop m).take (s.length - m) = s.drop m := List.take_of_length_le (by rw [List.length_drop]; exact Nat.le_refl _)
    rwa [e2] at e
end Go.Proofs.Ytbldhfafflobbaa
