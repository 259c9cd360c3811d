/- Chapter 17 in plain Lean: which texts a pattern stands for, its lead, its least; patterns one behind the other; the search that goes back to the last sign alone. No run of the program. -/
import Derived.Lib.Hide
namespace Go.Proofs.Ytbldhfafflobbaa
open Go
set_option linter.unusedVariables false
/-- a text's ends, the text itself first -/
def sufs : List UInt8 → List (List UInt8)
  | [] => [[]]
  | c :: r => (c :: r) :: sufs r
/-- does a pattern stand for a text? -/
def likeL : List UInt8 → List UInt8 → Bool
  | [], s => s.isEmpty
  | c :: p, s => if c = 37 then (sufs s).any (fun t => likeL p t) else match s with
    | [] => false
    | d :: r => (c == 95 || c == d) && likeL p r
def chrB (c : UInt8) : Bool := c != 37 && c != 95
def leadL (p : List UInt8) : List UInt8 := p.takeWhile chrB
theorem chr_iff {c : UInt8} : chrB c = true ↔ c ≠ 37 ∧ c ≠ 95 := by unfold chrB; rw [Bool.and_eq_true, bne_iff_ne, bne_iff_ne]
def leastL (p : List UInt8) : Nat := (p.filter (fun c => c != 37)).length
theorem mem_sufs : ∀ (s t : List UInt8), t ∈ sufs s ↔ ∃ x, s = x ++ t
  | [], t => by
    constructor
    · intro h; have : t = [] := by simpa [sufs] using h
      exact ⟨[], by rw [this]; rfl⟩
    · rintro ⟨x, h⟩
      have := (List.append_eq_nil_iff.1 h.symm).2
      rw [this]; simp [sufs]
  | c :: r, t => by
    have ih := mem_sufs r t
    rw [sufs, List.mem_cons, ih]
    constructor
    · rintro (rfl | ⟨x, rfl⟩)
      · exact ⟨[], rfl⟩
      · exact ⟨c :: x, rfl⟩
    · rintro ⟨x, h⟩
      cases x with
      | nil => exact .inl h.symm
      | cons a x => injection h with _ h2; exact .inr ⟨x, h2⟩
theorem like_nil (s : List UInt8) : likeL [] s = true ↔ s = [] := by cases s <;> simp [likeL]
theorem like_cons (c : UInt8) (p s : List UInt8) : likeL (c :: p) s = if c = 37 then (sufs s).any (fun t => likeL p t) else match s with
    | [] => false
    | d :: r => (c == 95 || c == d) && likeL p r := by cases s <;> rfl
theorem like_pct (p s : List UInt8) : likeL (37 :: p) s = true ↔ ∃ x t, s = x ++ t ∧ likeL p t = true := by
  rw [like_cons, if_pos rfl, List.any_eq_true]
  constructor
  · rintro ⟨t, ht, hl⟩
    obtain ⟨x, hx⟩ := (mem_sufs s t).1 ht
    exact ⟨x, t, hx, hl⟩
  · rintro ⟨x, t, hx, hl⟩
    exact ⟨t, (mem_sufs s t).2 ⟨x, hx⟩, hl⟩
theorem like_chr {c : UInt8} (hc : c ≠ 37) (p s : List UInt8) : likeL (c :: p) s = true ↔ ∃ d r, s = d :: r ∧ (c = 95 ∨ c = d) ∧ likeL p r = true := by
  rw [like_cons, if_neg hc]
  cases s with
  | nil =>
    constructor
    · intro h; cases h
    · rintro ⟨d, r, h, _⟩; cases h
  | cons d r =>
    show ((c == 95 || c == d) && likeL p r) = true ↔ _
    rw [Bool.and_eq_true, Bool.or_eq_true, beq_iff_eq, beq_iff_eq]
    constructor
    · rintro ⟨h1, h2⟩; exact ⟨d, r, rfl, h1, h2⟩
    · rintro ⟨d', r', h, h1, h2⟩; injection h with e1 e2; subst e1; subst e2; exact ⟨h1, h2⟩
/-- two patterns, one behind the other -/
theorem like_app : ∀ (p q s : List UInt8), likeL (p ++ q) s = true ↔ ∃ a b, s = a ++ b ∧ likeL p a = true ∧ likeL q b = true
  | [], q, s => by
    constructor
    · intro h; exact ⟨[], s, rfl, (like_nil _).2 rfl, h⟩
    · rintro ⟨a, b, rfl, ha, hb⟩
      rw [(like_nil a).1 ha]; exact hb
  | c :: p, q, s => by
    have ih := like_app p q
    rw [List.cons_append]
    by_cases hc : c = 37
    · subst hc
      rw [like_pct]
      constructor
      · rintro ⟨x, t, rfl, ht⟩
        obtain ⟨a, b, rfl, ha, hb⟩ := (ih t).1 ht
        exact ⟨x ++ a, b, by rw [List.append_assoc], (like_pct p _).2 ⟨x, a, rfl, ha⟩, hb⟩
      · rintro ⟨a, b, rfl, ha, hb⟩
        obtain ⟨x, t, rfl, ht⟩ := (like_pct p a).1 ha
        exact ⟨x, t ++ b, by rw [List.append_assoc], (ih _).2 ⟨t, b, rfl, ht, hb⟩⟩
    · rw [like_chr hc]
      constructor
      · rintro ⟨d, r, rfl, h1, h2⟩
        obtain ⟨a, b, rfl, ha, hb⟩ := (ih r).1 h2
        exact ⟨d :: a, b, rfl, (like_chr hc p _).2 ⟨d, a, rfl, h1, ha⟩, hb⟩
      · rintro ⟨a, b, rfl, ha, hb⟩
        obtain ⟨d, r, rfl, h1, h2⟩ := (like_chr hc p a).1 ha
        exact ⟨d, r ++ b, rfl, h1, (ih _).2 ⟨r, b, rfl, h2, hb⟩⟩
/-- the rows of the reference: a pattern's beginning, one byte longer -/
theorem like_snoc_pct (p s : List UInt8) (k : Nat) (hk : k ≤ s.length) : likeL (p ++ [37]) (s.take k) = (likeL p (s.take k) || (decide (0 < k) && likeL (p ++ [37]) (s.take (k - 1)))) := by
  have all : ∀ b, likeL [37] b = true := fun b => (like_pct [] b).2 ⟨b, [], by simp, rfl⟩
  rw [Bool.eq_iff_iff, Bool.or_eq_true, Bool.and_eq_true, decide_eq_true_eq]
  constructor
  · intro h
    obtain ⟨a, b, e, ha, hb⟩ := (like_app p [37] _).1 h
    cases hb0 : b.reverse with
    | nil =>
      have : b = [] := by simpa using hb0
      rw [this, List.append_nil] at e
      exact .inl (by rw [e]; exact ha)
    | cons d r =>
      have hb1 : b = r.reverse ++ [d] := by have := congrArg List.reverse hb0; simpa using this
      have hlen := congrArg List.length e
      rw [hb1, List.length_take, List.length_append, List.length_append] at hlen
      simp at hlen
      have hk0 : 0 < k := by omega
      refine .inr ⟨hk0, (like_app p [37] _).2 ⟨a, r.reverse, ?_, ha, all _⟩⟩
      have e2 : (s.take k).take (k - 1) = (a ++ (r.reverse ++ [d])).take (k - 1) := by rw [e, hb1]
      rw [List.take_take, Nat.min_eq_left (by omega)] at e2
      rw [e2, ← List.append_assoc, List.take_append_of_le_length (by simp; omega), List.take_of_length_le (by simp; omega)]
  · rintro (h | ⟨h0, h⟩)
    · exact (like_app p [37] _).2 ⟨s.take k, [], by simp, h, all _⟩
    · obtain ⟨a, b, e, ha, _⟩ := (like_app p [37] _).1 h
      have : ∃ z, s.take k = s.take (k - 1) ++ z := ⟨(s.take k).drop (k - 1), by
        have := List.take_append_drop (k - 1) (s.take k)
        rw [List.take_take, Nat.min_eq_left (by omega)] at this
        exact this.symm⟩
      obtain ⟨z, hz⟩ := this
      exact (like_app p [37] _).2 ⟨a, b ++ z, by rw [hz, e, List.append_assoc], ha, all _⟩
theorem like_snoc_chr {c : UInt8} (hc : c ≠ 37) (p t : List UInt8) (d : UInt8) : likeL (p ++ [c]) (t ++ [d]) = (likeL p t && (c == 95 || c == d)) := by
  rw [Bool.eq_iff_iff, Bool.and_eq_true, Bool.or_eq_true, beq_iff_eq, beq_iff_eq]
  constructor
  · intro h
    obtain ⟨a, b, e, ha, hb⟩ := (like_app p [c] _).1 h
    obtain ⟨d', r, rfl, h1, h2⟩ := (like_chr hc [] b).1 hb
    rw [(like_nil r).1 h2] at e
    obtain ⟨e1, e2⟩ := List.append_inj' e rfl
    injection e2 with e2 _
    subst e1; subst e2
    exact ⟨ha, h1⟩
  · rintro ⟨h1, h2⟩
    exact (like_app p [c] _).2 ⟨t, [d], rfl, h1, (like_chr hc [] [d]).2 ⟨d, [], rfl, h2, rfl⟩⟩
theorem like_snoc_none {c : UInt8} (hc : c ≠ 37) (p : List UInt8) : likeL (p ++ [c]) [] = false := by
  rw [Bool.eq_false_iff]
  intro h
  obtain ⟨a, b, e, ha, hb⟩ := (like_app p [c] _).1 h
  obtain ⟨d', r, rfl, h1, h2⟩ := (like_chr hc [] b).1 hb
  have := (List.append_eq_nil_iff.1 e.symm).2
  cases this
/-- a pattern without % stands for texts of its own length -/
theorem like_len : ∀ (p s : List UInt8), (∀ c ∈ p, c ≠ 37) → likeL p s = true → s.length = p.length
  | [], s, _, h => by rw [(like_nil s).1 h]
  | c :: p, s, hp, h => by
    obtain ⟨d, r, rfl, _, h2⟩ := (like_chr (hp c (by simp)) p s).1 h
    rw [List.length_cons, List.length_cons, like_len p r (fun x hx => hp x (by simp [hx])) h2]
theorem least_le : ∀ (p s : List UInt8), likeL p s = true → leastL p ≤ s.length
  | [], s, _ => Nat.zero_le _
  | c :: p, s, h => by
    by_cases hc : c = 37
    · subst hc
      obtain ⟨x, t, rfl, ht⟩ := (like_pct p s).1 h
      have := least_le p t ht
      have e : leastL (37 :: p) = leastL p := by unfold leastL; rw [List.filter_cons_of_neg (by decide)]
      rw [e, List.length_append]; omega
    · obtain ⟨d, r, rfl, _, h2⟩ := (like_chr hc p s).1 h
      have := least_le p r h2
      have e : leastL (c :: p) = leastL p + 1 := by unfold leastL; rw [List.filter_cons_of_pos (by simpa using hc), List.length_cons]
      rw [e, List.length_cons]; omega
theorem lead_pre : ∀ (p s : List UInt8), likeL p s = true → s.take (leadL p).length = leadL p
  | [], s, _ => rfl
  | c :: p, s, h => by
    unfold leadL
    by_cases hc : chrB c = true
    · rw [List.takeWhile_cons_of_pos hc, List.length_cons]
      have hc := chr_iff.1 hc
      obtain ⟨d, r, rfl, h1, h2⟩ := (like_chr hc.1 p s).1 h
      have hd : c = d := h1.resolve_left hc.2
      rw [List.take_succ_cons, hd]
      exact congrArg (d :: ·) (lead_pre p r h2)
    · rw [List.takeWhile_cons_of_neg hc]; rfl
theorem lead_take (p : List UInt8) : p.take (leadL p).length = leadL p ∧ (leadL p).length ≤ p.length := by
  unfold leadL
  induction p with
  | nil => exact ⟨rfl, Nat.le_refl _⟩
  | cons c p ih =>
    by_cases hc : chrB c = true
    · rw [List.takeWhile_cons_of_pos hc, List.length_cons, List.take_succ_cons, ih.1, List.length_cons]; exact ⟨rfl, by omega⟩
    · rw [List.takeWhile_cons_of_neg hc]; exact ⟨rfl, Nat.zero_le _⟩
theorem lead_plain (p : List UInt8) : ∀ c ∈ leadL p, c ≠ 37 ∧ c ≠ 95 := by
  unfold leadL
  induction p with
  | nil => intro c h; cases h
  | cons a p ih =>
    intro c h
    by_cases ha : chrB a = true
    · rw [List.takeWhile_cons_of_pos ha] at h
      have ha := chr_iff.1 ha
      rcases List.mem_cons.1 h with rfl | h
      · exact ha
      · exact ih c h
    · rw [List.takeWhile_cons_of_neg ha] at h; cases h
/-- a pattern without signs stands for itself alone -/
theorem like_self : ∀ (l s : List UInt8), (∀ c ∈ l, c ≠ 37 ∧ c ≠ 95) → likeL l s = (l == s)
  | [], s, _ => by cases s <;> rfl
  | c :: l, s, h => by
    have hc := h c (by simp)
    have ih := fun r => like_self l r (fun x hx => h x (by simp [hx]))
    rw [Bool.eq_iff_iff, like_chr hc.1, beq_iff_eq]
    constructor
    · rintro ⟨d, r, rfl, h1, h2⟩
      rw [ih r, beq_iff_eq] at h2
      rw [h1.resolve_left hc.2, h2]
    · rintro rfl
      exact ⟨c, l, rfl, .inr rfl, by rw [ih l, beq_iff_eq]⟩
theorem like_all (s : List UInt8) : likeL [37] s = true := (like_pct [] s).2 ⟨s, [], by simp, rfl⟩
/-- does a pattern stand for some end of a text? -/
theorem like_suf (p s : List UInt8) : likeL (37 :: p) s = true ↔ ∃ i, i ≤ s.length ∧ likeL p (s.drop i) = true := by
  rw [like_pct]
  constructor
  · rintro ⟨x, t, rfl, ht⟩
    exact ⟨x.length, by rw [List.length_append]; omega, by rw [List.drop_left]; exact ht⟩
  · rintro ⟨i, _, h⟩
    exact ⟨s.take i, s.drop i, (List.take_append_drop i s).symm, h⟩
/-- a text, parted -/
theorem like_part (p q s : List UInt8) : likeL (p ++ q) s = true ↔ ∃ i, i ≤ s.length ∧ likeL p (s.take i) = true ∧ likeL q (s.drop i) = true := by
  rw [like_app]
  constructor
  · rintro ⟨a, b, rfl, ha, hb⟩
    exact ⟨a.length, by rw [List.length_append]; omega, by rw [List.take_left]; exact ha, by rw [List.drop_left]; exact hb⟩
  · rintro ⟨i, _, h1, h2⟩
    exact ⟨s.take i, s.drop i, (List.take_append_drop i s).symm, h1, h2⟩
/-- behind a further %, what began at an earlier one need not be asked again: 'lit' (no % in it) stood for the bytes from m to k, and stands for others further on -/
theorem like_back {lit p s : List UInt8} {m k n : Nat} (hl : ∀ c ∈ lit, c ≠ 37) (hk : m + lit.length = k) (hn : m ≤ n) (h : likeL (lit ++ 37 :: p) (s.drop n) = true) : likeL (37 :: p) (s.drop k) = true := by
  obtain ⟨a, b, e, ha, hb⟩ := (like_app lit (37 :: p) _).1 h
  have hla := like_len lit a hl ha
  have hb2 : b = s.drop (n + lit.length) := by
    have := congrArg (List.drop lit.length) e
    rw [List.drop_drop, ← hla, List.drop_left] at this
    rw [← hla]; exact this.symm
  obtain ⟨x, t, e2, ht⟩ := (like_pct p b).1 hb
  have hle : k ≤ n + lit.length := by omega
  obtain ⟨j, hj⟩ : ∃ j, n + lit.length = k + j := ⟨n + lit.length - k, by omega⟩
  refine (like_pct p _).2 ⟨(s.drop k).take j ++ x, t, ?_, ht⟩
  have h3 : (s.drop k).drop j = b := by rw [List.drop_drop, ← hj, hb2]
  rw [List.append_assoc, ← e2, ← h3, List.take_append_drop]
/-- behind the text's end only % is left over -/
theorem like_end (p : List UInt8) : likeL p [] = p.all (fun c => c == 37) := by
  induction p with
  | nil => rfl
  | cons c p ih =>
    by_cases hc : c = 37
    · subst hc
      rw [List.all_cons, ← ih, show ((37 : UInt8) == 37) = true from rfl, Bool.true_and, Bool.eq_iff_iff, like_pct]
      constructor
      · rintro ⟨x, t, e, h⟩
        rw [(List.append_eq_nil_iff.1 e.symm).2] at h; exact h
      · intro h; exact ⟨[], [], rfl, h⟩
    · rw [List.all_cons, show (c == 37) = false from beq_eq_false_iff_ne.2 hc, Bool.false_and, Bool.eq_false_iff]
      intro h
      obtain ⟨d, r, e, _⟩ := (like_chr hc p []).1 h
      cases e
end Go.Proofs.Ytbldhfafflobbaa
