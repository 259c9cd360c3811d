/- The tokens of a text between brackets; in plain Lean. No run of the program. -/
import Derived.Test.YtbejpgoedenpmaaGreatDoorExprBrk
import Derived.Test.YtbejpgoedenpmaaGreatDoorExprTok
namespace Go.Proofs.YtbejpgoedenpmaaGreatDoor
open Go
set_option linter.unusedVariables false
/-- the tokens of a text, without their places and the end -/
inductive Tks : List UInt8 → List (Nat × List UInt8 × Nat) → Prop
  | nil : Tks [] []
  | blank {c : UInt8} {r : List UInt8} {T : List (Nat × List UInt8 × Nat)} (hc : blk c = true) (h : Tks r T) : Tks (c :: r) T
  | tok {c : UInt8} {r : List UInt8} {k n len : Nat} {t : List UInt8} {T : List (Nat × List UInt8 × Nat)} (hc : blk c = false) (hf : fstG (c :: r) = .tok k t n len) (h : Tks ((c :: r).drop len) T) : Tks (c :: r) ((k, t, n) :: T)
theorem tks_of : ∀ (f : Nat) (s : List UInt8) (a : Nat) (out r : List Tk), TA f s a out = .good r → out.length ≤ 64 → ∃ T, Tks s T ∧ r.map kt = out.map kt ++ (T ++ [(6, [], 0)]) ∧ out.length + T.length ≤ 64
  | 0, s, a, out, r, h, _ => by cases h
  | f + 1, [], a, out, r, h, ho => by
    have e : out ++ [⟨6, [], 0, a⟩] = r := by injection h
    exact ⟨[], .nil, by rw [← e]; simp [kt], by simpa using ho⟩
  | f + 1, c :: q, a, out, r, h, ho => by
    rw [TA_step] at h
    by_cases hc : blk c = true
    · rw [if_pos hc] at h
      obtain ⟨T, h1, h2, h3⟩ := tks_of f q (a + 1) out r h ho
      exact ⟨T, .blank hc h1, h2, h3⟩
    · rw [if_neg hc] at h
      cases hg : fstG (c :: q) with
      | err e b => rw [hg] at h; cases h
      | tok k t n len =>
        rw [hg] at h
        have h : (if out.length = 64 then Ans.bad 3 a else TA f ((c :: q).drop len) (a + len) (out ++ [⟨k, t, n, a⟩])) = .good r := h
        by_cases h64 : out.length = 64
        · rw [if_pos h64] at h; cases h
        · rw [if_neg h64] at h
          obtain ⟨T, h1, h2, h3⟩ := tks_of f _ _ _ r h (by simp; omega)
          refine ⟨(k, t, n) :: T, .tok (by simpa using hc) hg h1, ?_, ?_⟩
          · rw [h2]; simp [kt]
          · simp at h3 ⊢; omega
theorem tks_good : ∀ {s : List UInt8} {T : List (Nat × List UInt8 × Nat)}, Tks s T → ∀ (f a : Nat) (out : List Tk), s.length < f → out.length + T.length ≤ 64 → ∃ r, TA f s a out = .good r ∧ r.map kt = out.map kt ++ (T ++ [(6, [], 0)]) := by
  intro s T h
  induction h with
  | nil =>
    intro f a out hf ho
    obtain ⟨g, rfl⟩ : ∃ g, f = g + 1 := ⟨f - 1, by simp at hf; omega⟩
    exact ⟨_, rfl, by simp [kt]⟩
  | @blank c r T hc h ih =>
    intro f a out hf ho
    obtain ⟨g, rfl⟩ : ∃ g, f = g + 1 := ⟨f - 1, by simp at hf; omega⟩
    rw [TA_step, if_pos hc]
    exact ih g (a + 1) out (by simpa using hf) ho
  | @tok c r k n len t T hc hf h ih =>
    intro f a out hlf ho
    obtain ⟨g, rfl⟩ : ∃ g, f = g + 1 := ⟨f - 1, by simp at hlf; omega⟩
    have hb := fst_bounds (c :: r) (by simp)
    rw [hf] at hb
    rw [TA_step, if_neg (by rw [hc]; decide), hf]
    show ∃ x, (if out.length = 64 then Ans.bad 3 a else TA g ((c :: r).drop len) (a + len) (out ++ [⟨k, t, n, a⟩])) = .good x ∧ _
    simp only [List.length_cons] at ho
    rw [if_neg (by omega)]
    obtain ⟨x, h1, h2⟩ := ih g (a + len) (out ++ [⟨k, t, n, a⟩]) (by rw [List.length_drop]; have := hb.1; omega) (by simp; omega)
    exact ⟨x, h1, by rw [h2]; simp [kt]⟩
theorem tks_long : ∀ {s : List UInt8} {T : List (Nat × List UInt8 × Nat)}, Tks s T → ∀ (f a : Nat) (out : List Tk), s.length < f → 64 < out.length + T.length → out.length ≤ 64 → ∃ b, TA f s a out = .bad 3 b := by
  intro s T h
  induction h with
  | nil => intro f a out hf h1 h2; simp at h1; omega
  | @blank c r T hc h ih =>
    intro f a out hf h1 h2
    obtain ⟨g, rfl⟩ : ∃ g, f = g + 1 := ⟨f - 1, by simp at hf; omega⟩
    rw [TA_step, if_pos hc]
    exact ih g (a + 1) out (by simpa using hf) h1 h2
  | @tok c r k n len t T hc hf h ih =>
    intro f a out hlf h1 h2
    obtain ⟨g, rfl⟩ : ∃ g, f = g + 1 := ⟨f - 1, by simp at hlf; omega⟩
    have hb := fst_bounds (c :: r) (by simp)
    rw [hf] at hb
    rw [TA_step, if_neg (by rw [hc]; decide), hf]
    show ∃ b, (if out.length = 64 then Ans.bad 3 a else TA g ((c :: r).drop len) (a + len) (out ++ [⟨k, t, n, a⟩])) = .bad 3 b
    by_cases h64 : out.length = 64
    · rw [if_pos h64]; exact ⟨a, rfl⟩
    · rw [if_neg h64]
      simp only [List.length_cons] at h1
      exact ih g (a + len) (out ++ [⟨k, t, n, a⟩]) (by rw [List.length_drop]; have := hb.1; omega) (by simp; omega) (by simp; omega)
/-- a text's tokens, by its list -/
theorem tokA_tks {s : List UInt8} {r : List Tk} (h : tokA s = .good r) : ∃ T, Tks s T ∧ r.map kt = T ++ [(6, [], 0)] ∧ T.length ≤ 64 := by
  unfold tokA at h
  split at h
  · cases h
  · obtain ⟨T, h1, h2, h3⟩ := tks_of _ s 0 [] r h (by simp)
    exact ⟨T, h1, by simpa using h2, by simpa using h3⟩
theorem tks_tokA {s : List UInt8} {T : List (Nat × List UInt8 × Nat)} (h : Tks s T) (hs : s.length ≤ 256) (hT : T.length ≤ 64) : ∃ r, tokA s = .good r ∧ r.map kt = T ++ [(6, [], 0)] := by
  unfold tokA
  rw [if_neg (by omega)]
  obtain ⟨r, h1, h2⟩ := tks_good h (s.length + 1) 0 [] (by omega) (by simpa using hT)
  exact ⟨r, h1, by simpa using h2⟩
theorem tks_tokA_long {s : List UInt8} {T : List (Nat × List UInt8 × Nat)} (h : Tks s T) (hs : s.length ≤ 256) (hT : 64 < T.length) : ∃ b, tokA s = .bad 3 b := by
  unfold tokA
  rw [if_neg (by omega)]
  exact tks_long h (s.length + 1) 0 [] (by omega) (by simpa using hT) (by simp)
theorem Tks.det : ∀ {s : List UInt8} {T U : List (Nat × List UInt8 × Nat)}, Tks s T → Tks s U → T = U := by
  intro s T U h
  induction h generalizing U with
  | nil => intro h2; cases h2; rfl
  | blank hc h ih =>
    intro h2
    cases h2 with
    | blank _ h3 => exact ih h3
    | tok hc2 _ _ => rw [hc] at hc2; cases hc2
  | tok hc hf h ih =>
    intro h2
    cases h2 with
    | blank hc2 _ => rw [hc] at hc2; cases hc2
    | tok _ hf2 h3 =>
      rw [hf] at hf2
      injection hf2 with e1 e2 e3 e4
      subst e1; subst e2; subst e3; subst e4
      rw [ih h3]
/-- a closing bracket ends every token that stands ahead of it -/
theorem tw_app (p : UInt8 → Bool) (d : UInt8) (v : List UInt8) (hd : p d = false) : ∀ l : List UInt8, (l ++ d :: v).takeWhile p = l.takeWhile p
  | [] => by rw [List.nil_append, List.takeWhile_cons_of_neg (by rw [hd]; decide)]; rfl
  | c :: r => by
    rw [List.cons_append]
    by_cases hc : p c = true
    · rw [List.takeWhile_cons_of_pos hc, List.takeWhile_cons_of_pos hc, tw_app p d v hd r]
    · rw [List.takeWhile_cons_of_neg hc, List.takeWhile_cons_of_neg hc]
theorem wl_app (c : UInt8) (r v : List UInt8) : wl ((c :: r) ++ 41 :: v) = wl (c :: r) := by
  show (if isL c.toNat then ((r ++ 41 :: v).takeWhile alu).length + 1 else 0) = _
  rw [tw_app alu 41 v (by decide) r]; rfl
theorem nl_app (l v : List UInt8) : nl (l ++ 41 :: v) = nl l := by
  unfold nl; rw [tw_app dig 41 v (by decide) l]
theorem ql_app (v : List UInt8) : ∀ (N : Nat) (r : List UInt8) (K : Nat), r.length ≤ N → ql r = some K → ql (r ++ 41 :: v) = some K
  | 0, r, K, hn, h => by
    have : r = [] := List.eq_nil_of_length_eq_zero (by omega)
    subst this; cases h
  | N + 1, [], K, hn, h => by cases h
  | N + 1, [c], K, hn, h => by
    unfold ql at h
    split at h
    · rename_i hc
      subst hc
      injection h with h
      rw [← h]
      show ql (39 :: 41 :: v) = some 1
      rw [ql, if_pos rfl, if_neg (by decide)]
    · cases h
  | N + 1, c :: d :: r, K, hn, h => by
    simp only [List.length_cons] at hn
    rw [ql] at h
    show ql (c :: d :: (r ++ 41 :: v)) = some K
    rw [ql]
    by_cases hc : c = 39
    · rw [if_pos hc] at h ⊢
      by_cases hd : d = 39
      · rw [if_pos hd] at h ⊢
        cases hq : ql r with
        | none => rw [hq] at h; cases h
        | some k => rw [hq] at h; rw [ql_app v N r k (by omega) hq]; exact h
      · rw [if_neg hd] at h ⊢; exact h
    · rw [if_neg hc] at h ⊢
      cases hq : ql (d :: r) with
      | none => rw [hq] at h; cases h
      | some k =>
        rw [hq] at h
        have := ql_app v N (d :: r) k (by simp; omega) hq
        rw [show d :: (r ++ 41 :: v) = (d :: r) ++ 41 :: v from rfl, this]; exact h
theorem ql_none (v : List UInt8) : ∀ (N : Nat) (r : List UInt8), r.length ≤ N → ql r = none → ql (r ++ [41]) = none
  | 0, r, hn, h => by
    have : r = [] := List.eq_nil_of_length_eq_zero (by omega)
    subst this; rfl
  | N + 1, [], hn, h => rfl
  | N + 1, [c], hn, h => by
    unfold ql at h
    split at h
    · cases h
    · rename_i hc
      show ql (c :: 41 :: []) = none
      rw [ql, if_neg hc]; rfl
  | N + 1, c :: d :: r, hn, h => by
    simp only [List.length_cons] at hn
    rw [ql] at h
    show ql (c :: d :: (r ++ [41])) = none
    rw [ql]
    by_cases hc : c = 39
    · rw [if_pos hc] at h ⊢
      by_cases hd : d = 39
      · rw [if_pos hd] at h ⊢
        cases hq : ql r with
        | none => rw [ql_none v N r (by omega) hq]; rfl
        | some k => rw [hq] at h; cases h
      · rw [if_neg hd] at h; cases h
    · rw [if_neg hc] at h ⊢
      cases hq : ql (d :: r) with
      | none =>
        have := ql_none v N (d :: r) (by simp; omega) hq
        rw [show d :: (r ++ [41]) = (d :: r) ++ [41] from rfl, this]; rfl
      | some k => rw [hq] at h; cases h
theorem ql_even : ∀ (N : Nat) (r : List UInt8), r.length ≤ N → ql r = none → r.count 39 % 2 = 0
  | 0, r, hn, h => by
    have : r = [] := List.eq_nil_of_length_eq_zero (by omega)
    subst this; rfl
  | N + 1, [], hn, h => rfl
  | N + 1, [c], hn, h => by
    unfold ql at h
    split at h
    · cases h
    · rename_i hc
      rw [List.count_cons_of_ne hc]; rfl
  | N + 1, c :: d :: r, hn, h => by
    simp only [List.length_cons] at hn
    rw [ql] at h
    by_cases hc : c = 39
    · rw [if_pos hc] at h
      by_cases hd : d = 39
      · rw [if_pos hd] at h
        subst hc; subst hd
        cases hq : ql r with
        | none =>
          have := ql_even N r (by omega) hq
          rw [List.count_cons_self, List.count_cons_self]; omega
        | some k => rw [hq] at h; cases h
      · rw [if_neg hd] at h; cases h
    · rw [if_neg hc] at h
      cases hq : ql (d :: r) with
      | none =>
        have := ql_even N (d :: r) (by simp; omega) hq
        rw [List.count_cons_of_ne hc]; exact this
      | some k => rw [hq] at h; cases h
/-- a text that does not end is no token -/
theorem open_no (r : List UInt8) (h : ql r = none) (k n len : Nat) (t : List UInt8) : fstG (39 :: r) ≠ .tok k t n len := by
  have hw : wl (39 :: r) = 0 := rfl
  have hn : nl (39 :: r) = 0 := rfl
  have ht : tl (39 :: r) = r.length + 1 := by show (if (39 : UInt8) = 39 then (match ql r with | some k => k + 1 | none => r.length + 1) else 0) = _; rw [if_pos rfl, h]
  have hc : (39 :: r).count 39 % 2 ≠ 0 := by rw [List.count_cons_self]; have := ql_even _ r (Nat.le_refl _) h; omega
  intro e
  unfold fstG at e
  rw [hw, if_neg (by simp), hn, if_neg (by simp), ht, if_pos (by simp)] at e
  have hk : (39 :: r).take (r.length + 1) = 39 :: r := List.take_of_length_le (by simp)
  rw [hk] at e
  unfold rdText at e
  split at e
  · cases e
  · rw [if_pos hc] at e; cases e
theorem find_congr {α : Type} {p q : α → Bool} : ∀ {l : List α}, (∀ x ∈ l, p x = q x) → l.find? p = l.find? q
  | [], _ => rfl
  | a :: r, h => by
    rw [List.find?_cons, List.find?_cons, h a (by simp), find_congr (fun x hx => h x (by simp [hx]))]
theorem sl_app (c : UInt8) (r v : List UInt8) : sl ((c :: r) ++ 41 :: v) = sl (c :: r) := by
  unfold sl
  rw [find_congr (l := signs) (q := fun x => x.isPrefixOf (c :: r)) (fun x hx => ?_)]
  simp only [signs, List.mem_cons, List.not_mem_nil, or_false] at hx
  cases r with
  | nil => rcases hx with rfl | rfl | rfl | rfl | rfl | rfl | rfl | rfl | rfl | rfl | rfl | rfl <;> simp [List.isPrefixOf]
  | cons d r => rcases hx with rfl | rfl | rfl | rfl | rfl | rfl | rfl | rfl | rfl | rfl | rfl | rfl <;> simp [List.isPrefixOf]
theorem pl_app (c : UInt8) (r v : List UInt8) : pl ((c :: r) ++ 41 :: v) = pl (c :: r) := by
  cases r with
  | nil =>
    show (if c = 37 ∧ dig 41 = true then 2 else 0) = 0
    rw [if_neg (by intro h; exact absurd h.2 (by decide))]
  | cons d r => rfl
theorem fst_app (c : UInt8) (r v : List UInt8) (h : ¬ (c = 39 ∧ ql r = none)) : fstG ((c :: r) ++ 41 :: v) = fstG (c :: r) := by
  have ht : tl ((c :: r) ++ 41 :: v) = tl (c :: r) := by
    show (if c = 39 then (match ql (r ++ 41 :: v) with | some k => k + 1 | none => (r ++ 41 :: v).length + 1) else 0) = (if c = 39 then (match ql r with | some k => k + 1 | none => r.length + 1) else 0)
    by_cases hc : c = 39
    · rw [if_pos hc, if_pos hc]
      cases hq : ql r with
      | none => exact absurd ⟨hc, hq⟩ h
      | some k => rw [ql_app v _ r k (Nat.le_refl _) hq]
    · rw [if_neg hc, if_neg hc]
  have b0 : wl (c :: r) ≤ (c :: r).length := ld_le (c :: r) 0
  have b1 : nl (c :: r) ≤ (c :: r).length := ld_le (c :: r) 1
  have b2 : tl (c :: r) ≤ (c :: r).length := ld_le (c :: r) 2
  have b3 : pl (c :: r) ≤ (c :: r).length := ld_le (c :: r) 3
  have b4 : sl (c :: r) ≤ (c :: r).length := ld_le (c :: r) 4
  have key : ∀ n, n ≤ (c :: r).length → ((c :: r) ++ 41 :: v).take n = (c :: r).take n := fun n hn => List.take_append_of_le_length hn
  unfold fstG
  rw [wl_app, nl_app, ht, pl_app, sl_app]
  rw [key _ b0, key _ b1, key _ b2, key _ b3, key _ b4]
theorem fst_back (c : UInt8) (r : List UInt8) {k n len : Nat} {t : List UInt8} (h : fstG ((c :: r) ++ [41]) = .tok k t n len) : fstG (c :: r) = .tok k t n len ∧ len ≤ (c :: r).length := by
  by_cases hq : c = 39 ∧ ql r = none
  · obtain ⟨rfl, hq⟩ := hq
    exact absurd h (open_no (r ++ [41]) (ql_none [] _ r (Nat.le_refl _) hq) k n len t)
  · rw [fst_app c r [] hq] at h
    have := fst_bounds (c :: r) (by simp)
    rw [h] at this
    exact ⟨h, this.2.1⟩
theorem Tks.app {v : List UInt8} {U : List (Nat × List UInt8 × Nat)} (hU : Tks (41 :: v) U) : ∀ {s : List UInt8} {T : List (Nat × List UInt8 × Nat)}, Tks s T → Tks (s ++ 41 :: v) (T ++ U) := by
  intro s T h
  induction h with
  | nil => exact hU
  | blank hc h ih => exact .blank hc ih
  | @tok c r k n len t T hc hf h ih =>
    have hq : ¬ (c = 39 ∧ ql r = none) := by
      rintro ⟨rfl, hq⟩
      exact open_no r hq k n len t hf
    have hb := fst_bounds (c :: r) (by simp)
    rw [hf] at hb
    refine .tok hc ((fst_app c r v hq).trans hf) ?_
    show Tks (((c :: r) ++ 41 :: v).drop len) (T ++ U)
    rw [List.drop_append_of_le_length hb.2.1]; exact ih
theorem Tks.back : ∀ (N : Nat) (s : List UInt8) (W : List (Nat × List UInt8 × Nat)), s.length ≤ N → Tks (s ++ [41]) W → ∃ T, Tks s T ∧ W = T ++ [(5, [41], 0)]
  | N, [], W, hn, h => by
    cases h with
    | blank hc _ => exact absurd hc (by decide)
    | tok hc hf h =>
      have e : fstG [41] = .tok 5 [41] 0 1 := by kernel_rfl
      rw [e] at hf
      injection hf with e1 e2 e3 e4
      subst e1; subst e2; subst e3; subst e4
      cases h with
      | nil => exact ⟨[], .nil, rfl⟩
  | 0, c :: r, W, hn, h => by simp at hn
  | N + 1, c :: r, W, hn, h => by
    cases h with
    | blank hc h =>
      obtain ⟨T, h1, h2⟩ := Tks.back N r W (by simpa using hn) h
      exact ⟨T, .blank hc h1, h2⟩
    | @tok _ _ k n len t T hc hf h =>
      obtain ⟨h1, h2⟩ := fst_back c r hf
      have hb := fst_bounds (c :: r) (by simp)
      rw [h1] at hb
      have h : Tks (((c :: r) ++ [41]).drop len) T := h
      rw [List.drop_append_of_le_length h2] at h
      obtain ⟨T2, h3, h4⟩ := Tks.back N ((c :: r).drop len) T (by rw [List.length_drop]; simp at hn ⊢; have := hb.1; omega) h
      exact ⟨(k, t, n) :: T2, .tok hc h1 h3, by rw [h4]; rfl⟩
theorem sign_mem {l t : List UInt8} {n len : Nat} (h : fstG l = .tok 5 t n len) : ∀ x ∈ t, x ∈ l := by
  unfold fstG at h
  split at h
  · injection h with h; cases h
  split at h
  · unfold rdNum at h
    split at h
    · cases h
    split at h
    · injection h with h; cases h
    · cases h
  split at h
  · unfold rdText at h
    split at h
    · cases h
    split at h
    · cases h
    · injection h with h; cases h
  split at h
  · unfold rdPar at h; injection h with h; cases h
  split at h
  · injection h with _ h2
    intro x hx
    rw [← h2] at hx
    exact List.mem_of_mem_take hx
  · cases h
theorem Tks.mem {n : Nat} : ∀ {s : List UInt8} {T : List (Nat × List UInt8 × Nat)}, Tks s T → (5, [41], n) ∈ T → 41 ∈ s := by
  intro s T h
  induction h with
  | nil => intro h; simp at h
  | blank hc h ih => intro h2; exact List.mem_cons_of_mem _ (ih h2)
  | @tok c r k n2 len t T hc hf h ih =>
    intro h2
    rcases List.mem_cons.1 h2 with e | h2
    · injection e with e1 e2
      injection e2 with e2 e3
      subst e1; subst e2
      exact sign_mem hf 41 (by simp)
    · exact List.mem_of_mem_drop (ih h2)
end Go.Proofs.YtbejpgoedenpmaaGreatDoor
