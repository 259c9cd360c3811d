/- Joined tokens are split into the same tokens: the whole text. Plain Lean, but for what TkV is. -/
import Derived.Test.YtcdplpdgokhopaaDoorTokAgain
namespace Go.Proofs.YtcdplpdgokhopaaDoor
open Go
set_option linter.unusedVariables false
theorem TA_bad : ∀ (f : Nat) (l : List UInt8) (a : Nat) (out : List Tk) (e b : Nat), l.length < f → TA f l a out = .bad e b → e ≠ 0 ∧ a ≤ b ∧ b < a + l.length
  | 0, l, a, out, e, b, hf, h => by omega
  | f + 1, [], a, out, e, b, hf, h => by cases h
  | f + 1, c :: q, a, out, e, b, hf, h => by
    rw [TA_step] at h
    rw [List.length_cons] at hf ⊢
    by_cases hc : blk c = true
    · rw [if_pos hc] at h
      have := TA_bad f q (a + 1) out e b (by omega) h
      exact ⟨this.1, by omega, by omega⟩
    · rw [if_neg hc] at h
      have hb := fst_bounds (c :: q) (by simp)
      cases hg : fstG (c :: q) with
      | err e1 b1 =>
        rw [hg] at h hb
        obtain ⟨h1, h2⟩ := hb
        rw [List.length_cons] at h2
        injection h with g1 g2
        subst g1 g2
        exact ⟨h1, by omega, by omega⟩
      | tok k t n len =>
        rw [hg] at h hb
        obtain ⟨b1, b2, b3, b4, b5⟩ := hb
        rw [List.length_cons] at b2
        have h : (if out.length = 64 then Ans.bad 3 a else TA f ((c :: q).drop len) (a + len) (out ++ [⟨k, t, n, a⟩])) = .bad e b := h
        by_cases h64 : out.length = 64
        · rw [if_pos h64] at h
          injection h with g1 g2
          exact ⟨by omega, by omega, by omega⟩
        · rw [if_neg h64] at h
          have hd : ((c :: q).drop len).length = q.length + 1 - len := by simp
          have := TA_bad f _ _ _ e b (by omega) h
          exact ⟨this.1, by omega, by omega⟩
theorem TA_good : ∀ (f : Nat) (l : List UInt8) (a : Nat) (out r : List Tk), TA f l a out = .good r → ∃ xs : List Tk, r = out ++ (xs ++ [⟨6, [], 0, a + l.length⟩]) ∧ (∀ x ∈ xs, Gd x ∧ a ≤ x.a ∧ x.a < a + l.length ∧ x.t.length ≤ l.length) ∧ List.Pairwise (fun x y : Tk => x.a < y.a) (xs ++ [⟨6, [], 0, a + l.length⟩]) ∧ (out.length ≤ 64 → out.length + xs.length ≤ 64)
  | 0, l, a, out, r, h => by cases h
  | f + 1, [], a, out, r, h => by
    have h : out ++ [⟨6, [], 0, a⟩] = r := by injection h
    exact ⟨[], h.symm, fun x hx => by simp at hx, by simp, fun h => h⟩
  | f + 1, c :: q, a, out, r, h => by
    rw [TA_step] at h
    by_cases hc : blk c = true
    · rw [if_pos hc] at h
      obtain ⟨xs, h1, h2, h3, h4⟩ := TA_good f q (a + 1) out r h
      have e1 : a + 1 + q.length = a + (c :: q).length := by rw [List.length_cons]; omega
      rw [e1] at h1 h2 h3
      refine ⟨xs, h1, fun x hx => ?_, h3, h4⟩
      obtain ⟨g1, g2, g3, g4⟩ := h2 x hx
      exact ⟨g1, by omega, g3, by rw [List.length_cons]; omega⟩
    · rw [if_neg hc] at h
      have hb := fst_bounds (c :: q) (by simp)
      cases hg : fstG (c :: q) with
      | err e1 b1 => rw [hg] at h; cases h
      | tok k t n len =>
        rw [hg] at h hb
        obtain ⟨b1, b2, b3, b4, b5⟩ := hb
        have h : (if out.length = 64 then Ans.bad 3 a else TA f ((c :: q).drop len) (a + len) (out ++ [⟨k, t, n, a⟩])) = .good r := h
        by_cases h64 : out.length = 64
        · rw [if_pos h64] at h; cases h
        · rw [if_neg h64] at h
          obtain ⟨xs, h1, h2, h3, h4⟩ := TA_good f _ _ _ r h
          have hd : ((c :: q).drop len).length = (c :: q).length - len := List.length_drop ..
          have e1 : a + len + ((c :: q).drop len).length = a + (c :: q).length := by omega
          rw [e1] at h1 h2 h3
          refine ⟨⟨k, t, n, a⟩ :: xs, by rw [h1, List.append_assoc]; rfl, fun x hx => ?_, ?_, fun ho => ?_⟩
          · rcases List.mem_cons.1 hx with rfl | hx
            · exact ⟨(first_again (c :: q) k t n len a (by simp) hg).2, Nat.le_refl _, by show a < _; omega, by show t.length ≤ _; omega⟩
            · obtain ⟨g1, g2, g3, g4⟩ := h2 x hx
              exact ⟨g1, by omega, g3, by omega⟩
          · rw [List.cons_append]
            refine List.pairwise_cons.2 ⟨fun x hx => ?_, h3⟩
            show a < x.a
            rcases List.mem_append.1 hx with hx | hx
            · have := (h2 x hx).2.1; omega
            · obtain rfl := List.mem_singleton.1 hx
              show a < a + (c :: q).length
              omega
          · have := h4 (by rw [List.length_append]; show out.length + 1 ≤ 64; omega)
            rw [List.length_append] at this
            rw [List.length_cons]
            have e2 : [(⟨k, t, n, a⟩ : Tk)].length = 1 := rfl
            omega
theorem joinL_cons (x : Tk) : ∀ r : List Tk, r ≠ [] → joinL (x :: r) = tkText x ++ 32 :: joinL r
  | [], h => absurd rfl h
  | y :: r, _ => rfl
def ktn (x : Tk) : Nat × List UInt8 × Nat := (x.k, x.t, x.n)
theorem TA_join (z : Nat) : ∀ (xs : List Tk) (f a : Nat) (out : List Tk), (∀ x ∈ xs, Gd x) → (joinL (xs ++ [(⟨6, [], 0, z⟩ : Tk)])).length < f → out.length + xs.length ≤ 64 → ∃ ys, TA f (joinL (xs ++ [⟨6, [], 0, z⟩])) a out = .good (out ++ ys) ∧ ys.map ktn = (xs ++ [(⟨6, [], 0, z⟩ : Tk)]).map ktn
  | [], f, a, out, hx, hf, ho => by
    obtain ⟨g, rfl⟩ : ∃ g, f = g + 1 := ⟨f - 1, by omega⟩
    exact ⟨[⟨6, [], 0, a⟩], rfl, rfl⟩
  | x :: xs, f, a, out, hx, hf, ho => by
    have hg := hx x (by simp)
    obtain ⟨c, q, hcq, hbl⟩ := hg.hd
    rw [List.cons_append, joinL_cons x _ (by simp)] at hf ⊢
    obtain ⟨R, hR⟩ : ∃ R, joinL (xs ++ [⟨6, [], 0, z⟩]) = R := ⟨_, rfl⟩
    have ih := TA_join z xs
    rw [hR] at ih hf ⊢
    rw [List.length_append, List.length_cons, hcq, List.length_cons] at hf
    obtain ⟨g, rfl⟩ : ∃ g, f = g + 2 := ⟨f - 2, by omega⟩
    rw [List.length_cons] at ho
    obtain ⟨ys, h1, h2⟩ := ih g (a + (tkText x).length + 1) (out ++ [⟨x.k, x.t, x.n, a⟩]) (fun y hy => hx y (by simp [hy])) (by omega) (by rw [List.length_append]; show out.length + 1 + _ ≤ 64; omega)
    refine ⟨⟨x.k, x.t, x.n, a⟩ :: ys, ?_, by rw [List.map_cons, h2]; rfl⟩
    have ha := hg.again R
    have e1 : TA (g + 2) (tkText x ++ 32 :: R) a out = TA (g + 1) ((tkText x ++ 32 :: R).drop (tkText x).length) (a + (tkText x).length) (out ++ [⟨x.k, x.t, x.n, a⟩]) := by
      have e2 : TA (g + 2) (c :: (q ++ 32 :: R)) a out = match fstG (c :: (q ++ 32 :: R)) with
        | .err e b => .bad e (a + b)
        | .tok k t n len => if out.length = 64 then .bad 3 a else TA (g + 1) ((c :: (q ++ 32 :: R)).drop len) (a + len) (out ++ [⟨k, t, n, a⟩]) := by
        rw [TA_step, if_neg (by rw [hbl]; decide)]
        cases fstG (c :: (q ++ 32 :: R)) <;> rfl
      have e3 : tkText x ++ 32 :: R = c :: (q ++ 32 :: R) := by rw [hcq]; rfl
      rw [← e3, ha] at e2
      rw [e2]
      exact if_neg (by omega)
    rw [e1, List.drop_left, TA_step, if_pos (by decide), h1, List.append_assoc]; rfl
theorem ktn_get {ys r : List Tk} (h : ys.map ktn = r.map ktn) : ys.length = r.length ∧ ∀ i, (ys.getD i default).k = (r.getD i default).k ∧ (ys.getD i default).t = (r.getD i default).t ∧ (ys.getD i default).n = (r.getD i default).n := by
  have hl : ys.length = r.length := by have := congrArg List.length h; simpa using this
  refine ⟨hl, fun i => ?_⟩
  have hi := congrArg (fun l => l[i]?) h
  simp only [List.getElem?_map] at hi
  simp only [List.getD_eq_getElem?_getD]
  cases hy : ys[i]? with
  | none =>
    rw [hy] at hi
    cases hr : r[i]? with
    | none => exact ⟨rfl, rfl, rfl⟩
    | some v => rw [hr] at hi; cases hi
  | some u =>
    rw [hy] at hi
    cases hr : r[i]? with
    | none => rw [hr] at hi; cases hi
    | some v =>
      rw [hr] at hi
      have hi : ktn u = ktn v := by simpa using hi
      unfold ktn at hi
      simp only [Prod.mk.injEq] at hi
      exact ⟨hi.1, hi.2.1, hi.2.2⟩
theorem joinL_snoc (x : Tk) : ∀ r : List Tk, joinL (r ++ [x]) = joinL r ++ (if r = [] then [] else [32]) ++ tkText x
  | [] => rfl
  | [y] => by simp [joinL]
  | y :: y2 :: r => by
    have := joinL_snoc x (y2 :: r)
    rw [if_neg (by simp)] at this ⊢
    rw [List.cons_append, joinL_cons y _ (by simp), this, joinL_cons y _ (by simp)]
    simp
theorem txV_tk (x : Tk) : txV (tkV x) = tkText x := by
  unfold txV tkText tkV
  have : (bs x.t).data.toList = x.t := by simp [bs]
  simp only [this]
  by_cases h : x.k = 3
  · rw [if_pos h, if_pos (by omega)]
  · rw [if_neg h, if_neg (by omega)]
theorem joinF_take (r : List Tk) : ∀ k, k ≤ r.length → joinF (atV r) k = joinL (r.take k)
  | 0, _ => by simp [joinF, joinL]
  | k + 1, hk => by
    have e : r.take (k + 1) = r.take k ++ [r.getD k default] := by
      rw [List.take_succ_eq_append_getElem (by omega)]
      simp [List.getD_eq_getElem?_getD, List.getElem?_eq_getElem (show k < r.length by omega)]
    rw [e, joinL_snoc, joinF, joinF_take r k (by omega)]
    have e2 : (r.take k = []) ↔ k = 0 := by
      rw [← List.length_eq_zero_iff, List.length_take]; omega
    simp only [e2]
    rw [show txV (atV r k) = tkText (r.getD k default) from txV_tk _]
theorem joinF_all (r : List Tk) : joinF (atV r) r.length = joinL r := by rw [joinF_take r r.length (Nat.le_refl _), List.take_length]
theorem joinF_congr (L M : Nat → TkV) : ∀ n, (∀ i, i < n → (L i).k = (M i).k ∧ (L i).t = (M i).t) → joinF L n = joinF M n
  | 0, _ => rfl
  | n + 1, h => by
    rw [joinF, joinF, joinF_congr L M n (fun i hi => h i (by omega))]
    have := h n (by omega)
    unfold txV
    rw [this.1, this.2]
/-- what the tokens of a text are -/
structure Told (L : Nat → TkV) (n len : Nat) : Prop where
  n1 : 1 ≤ n
  n65 : n ≤ 65
  a0 : ∀ i, i < n → 0 ≤ (L i).a
  ale : ∀ i, i < n → (L i).a ≤ (len : Int)
  inc : ∀ i, i + 1 < n → (L i).a < (L (i + 1)).a
  last : (L (n - 1)).k = 6
  mid : ∀ i, i + 1 < n → (L i).k ≠ 6
  sz : ∀ i, i < n → (L i).t.size ≤ 256
theorem told (l : List UInt8) (r : List Tk) (h : tokA l = .good r) : Told (atV r) r.length l.length ∧ (256 < (joinL r).length ∨ ∃ ys, tokA (joinL r) = .good ys ∧ ys.map ktn = r.map ktn) := by
  have h65 := tokA_len l
  rw [h] at h65
  have h65 : r.length ≤ 65 := h65
  unfold tokA at h
  by_cases h256 : 256 < l.length
  · rw [if_pos h256] at h; cases h
  · rw [if_neg h256] at h
    obtain ⟨xs, h1, h2, h3, h4⟩ := TA_good _ _ _ _ _ h
    rw [List.nil_append] at h1
    rw [Nat.zero_add] at h1 h2 h3
    subst h1
    obtain ⟨e, he⟩ : ∃ e : Tk, e = ⟨6, [], 0, l.length⟩ := ⟨_, rfl⟩
    rw [← he] at h3 h65 ⊢
    have hn : (xs ++ [e]).length = xs.length + 1 := by simp
    have gx : ∀ i (hi : i < xs.length), (xs ++ [e]).getD i default = xs[i] := fun i hi => by
      simp [List.getD_eq_getElem?_getD, List.getElem?_append_left hi, List.getElem?_eq_getElem hi]
    have ge : (xs ++ [e]).getD xs.length default = e := by
      simp [List.getD_eq_getElem?_getD]
    have hmem : ∀ i (hi : i < xs.length), xs[i] ∈ xs := fun i hi => List.getElem_mem hi
    refine ⟨⟨by omega, h65, fun i hi => ?_, fun i hi => ?_, fun i hi => ?_, ?_, fun i hi => ?_, fun i hi => ?_⟩, ?_⟩
    · show (0 : Int) ≤ (((xs ++ [e]).getD i default).a : Nat); omega
    · show ((((xs ++ [e]).getD i default).a : Nat) : Int) ≤ _
      by_cases hx : i < xs.length
      · rw [gx i hx]; have := (h2 _ (hmem i hx)).2.2.1; omega
      · obtain rfl : i = xs.length := (by omega)
        rw [ge, he]; exact Int.le_refl _
    · show ((((xs ++ [e]).getD i default).a : Nat) : Int) < (((xs ++ [e]).getD (i + 1) default).a : Nat)
      have := List.pairwise_iff_getElem.1 h3 i (i + 1) (by omega) (by omega) (by omega)
      rw [List.getD_eq_getElem?_getD, List.getD_eq_getElem?_getD, List.getElem?_eq_getElem (by omega), List.getElem?_eq_getElem (by omega)]
      simp only [Option.getD_some]
      omega
    · show ((((xs ++ [e]).getD ((xs ++ [e]).length - 1) default).k : Nat) : Int) = 6
      rw [hn, Nat.add_sub_cancel, ge, he]; rfl
    · show ((((xs ++ [e]).getD i default).k : Nat) : Int) ≠ 6
      have hx : i < xs.length := (by omega)
      rw [gx i hx]
      have := (h2 _ (hmem i hx)).1.k5
      omega
    · show (bs ((xs ++ [e]).getD i default).t).size ≤ 256
      rw [bs_size]
      by_cases hx : i < xs.length
      · rw [gx i hx]; have := (h2 _ (hmem i hx)).2.2.2; omega
      · obtain rfl : i = xs.length := (by omega)
        rw [ge, he]; exact Nat.zero_le _
    · by_cases hj : 256 < (joinL (xs ++ [e])).length
      · exact .inl hj
      · refine .inr ?_
        rw [he] at hj ⊢
        obtain ⟨ys, g1, g2⟩ := TA_join l.length xs _ 0 [] (fun x hx => (h2 x hx).1) (Nat.lt_succ_self _) (by have := h4 (by simp); simpa using this)
        exact ⟨ys, by unfold tokA; rw [if_neg hj]; exact g1, g2⟩
theorem told_bad (l : List UInt8) (e a : Nat) (hl : l.length ≤ 256) (h : tokA l = .bad e a) : e ≠ 0 ∧ a < l.length := by
  unfold tokA at h
  rw [if_neg (by omega)] at h
  have := TA_bad _ _ _ _ _ _ (Nat.lt_succ_self _) h
  exact ⟨this.1, by omega⟩
end Go.Proofs.YtcdplpdgokhopaaDoor
