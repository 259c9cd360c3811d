/- The reference's num, and when two lists of tokens are the same. -/
import Derived.Test.YtjgdkiikkgdbaaaGreatDoorQ16
namespace Go.Proofs.YtjgdkiikkgdbaaaGreatDoor
open Go.RowKit
set_option linter.unusedVariables false
theorem fold_acc (l : List UInt8) : ∀ a, l.foldl (fun n b => n * 10 + (b.toNat - 48)) a = a * 10 ^ l.length + nval l := by
  induction l with
  | nil => intro a; simp [nval]
  | cons c r ih =>
    intro a
    have h1 := ih (a * 10 + (c.toNat - 48))
    have h2 := ih (0 * 10 + (c.toNat - 48))
    have h3 : nval (c :: r) = r.foldl (fun n b => n * 10 + (b.toNat - 48)) (0 * 10 + (c.toNat - 48)) := rfl
    rw [List.foldl_cons, h1, h3, h2, List.length_cons, Nat.pow_succ]
    generalize 10 ^ r.length = X
    rw [Nat.zero_mul, Nat.zero_add, Nat.add_mul, Nat.mul_comm X 10, ← Nat.mul_assoc, Nat.add_assoc]
theorem nval_cons (c : UInt8) (r : List UInt8) : nval (c :: r) = (c.toNat - 48) * 10 ^ r.length + nval r := by
  have h := fold_acc r (0 * 10 + (c.toNat - 48))
  have e : nval (c :: r) = r.foldl (fun n b => n * 10 + (b.toNat - 48)) (0 * 10 + (c.toNat - 48)) := rfl
  rw [e, h, Nat.zero_mul, Nat.zero_add]
theorem dig_le {c : UInt8} (h : dig c = true) : 48 ≤ c.toNat ∧ c.toNat ≤ 57 := by simpa [dig, isD] using h
theorem nval_lt : ∀ l : List UInt8, l.all dig = true → nval l < 10 ^ l.length
  | [], _ => by decide
  | c :: r, h => by
    simp only [List.all_cons, Bool.and_eq_true] at h
    have h1 := nval_lt r h.2
    have h2 := dig_le h.1
    rw [nval_cons, List.length_cons, Nat.pow_succ]
    have h3 : (c.toNat - 48) * 10 ^ r.length ≤ 9 * 10 ^ r.length := Nat.mul_le_mul_right _ (by omega)
    omega
theorem lex_nval : ∀ a b : List UInt8, a.length = b.length → a.all dig = true → b.all dig = true → ((Op.bytesLess a b || a == b) = true ↔ nval a ≤ nval b)
  | [], [], _, _, _ => by simp [Op.bytesLess]
  | [], _ :: _, h, _, _ => by simp at h
  | _ :: _, [], h, _, _ => by simp at h
  | c :: r, d :: q, h, ha, hb => by
    simp only [List.all_cons, Bool.and_eq_true] at ha hb
    have hlen : r.length = q.length := by simpa using h
    have ih := lex_nval r q hlen ha.2 hb.2
    have l1 := nval_lt r ha.2
    have l2 := nval_lt q hb.2
    have c1 := dig_le ha.1
    have d1 := dig_le hb.1
    rw [nval_cons, nval_cons, ← hlen]
    rw [← hlen] at l2
    have hlt : (c < d) ↔ c.toNat < d.toNat := UInt8.lt_iff_toNat_lt
    have heq : c = d ↔ c.toNat = d.toNat := UInt8.toNat_inj.symm
    generalize hX : 10 ^ r.length = X at *
    rcases Nat.lt_trichotomy c.toNat d.toNat with h1 | h1 | h1
    · have hm : (c.toNat - 48) * X + X ≤ (d.toNat - 48) * X := by
        have := Nat.mul_le_mul_right X (show c.toNat - 48 + 1 ≤ d.toNat - 48 by omega)
        rwa [Nat.add_mul, Nat.one_mul] at this
      constructor
      · intro _; omega
      · intro _
        simp [Op.bytesLess, hlt.2 h1]
    · have e : c = d := heq.2 h1
      subst e
      have hnlt : ¬ c < c := fun h => by have := hlt.1 h; omega
      have e1 : (Op.bytesLess (c :: r) (c :: q) || (c :: r) == (c :: q)) = (Op.bytesLess r q || r == q) := by
        simp [Op.bytesLess, hnlt]
      rw [e1, ih]
      omega
    · have hm : (d.toNat - 48) * X + X ≤ (c.toNat - 48) * X := by
        have := Nat.mul_le_mul_right X (show d.toNat - 48 + 1 ≤ c.toNat - 48 by omega)
        rwa [Nat.add_mul, Nat.one_mul] at this
      have hne : ¬ c = d := fun h => by have := heq.1 h; omega
      have hnlt : ¬ c < d := fun h => by have := hlt.1 h; omega
      have e1 : (Op.bytesLess (c :: r) (d :: q) || (c :: r) == (d :: q)) = false := by
        simp [Op.bytesLess, hnlt, hne]
      rw [e1]
      constructor
      · intro h2; cases h2
      · intro h2; omega
def maxD : List UInt8 := [49, 56, 52, 52, 54, 55, 52, 52, 48, 55, 51, 55, 48, 57, 53, 53, 49, 54, 49, 53]
def numOk (l : List UInt8) : Bool := !(decide (20 < l.length) || (decide (l.length = 20) && !(Op.bytesLess l maxD || l == maxD)))
theorem maxD_val : nval maxD = 18446744073709551615 := by decide
theorem numOk_20 (l : List UInt8) (h : l.length = 20) (hd : l.all dig = true) : numOk l = true ↔ nval l < 18446744073709551616 := by
  have hx := lex_nval l maxD (by rw [h]; rfl) hd (by decide)
  rw [maxD_val] at hx
  have e : numOk l = (Op.bytesLess l maxD || l == maxD) := by
    unfold numOk; rw [decide_eq_false (by omega), decide_eq_true h]; simp
  rw [e, hx]; omega
theorem pow_19 : (10 : Nat) ^ 19 < 18446744073709551616 := by decide
theorem numOk_low (l : List UInt8) (h : l.length < 20) (hd : l.all dig = true) : numOk l = true ∧ nval l < 18446744073709551616 := by
  refine ⟨by unfold numOk; rw [decide_eq_false (by omega), decide_eq_false (by omega)]; rfl, ?_⟩
  have h1 := nval_lt l hd
  have h2 : 10 ^ l.length ≤ 10 ^ 19 := Nat.pow_le_pow_right (by decide) (by omega)
  have := pow_19
  omega
theorem numOk_lt (l : List UInt8) (hd : l.all dig = true) (h : numOk l = true) : nval l < 18446744073709551616 := by
  rcases Nat.lt_trichotomy l.length 20 with h1 | h1 | h1
  · exact (numOk_low l h1 hd).2
  · exact (numOk_20 l h1 hd).1 h
  · unfold numOk at h; rw [decide_eq_true h1] at h; simp at h
theorem numOk_iff (c : UInt8) (r : List UInt8) (hd : (c :: r).all dig = true) (h0 : ¬ (1 < (c :: r).length ∧ c = 48)) : numOk (c :: r) = true ↔ nval (c :: r) < 18446744073709551616 := by
  rcases Nat.lt_trichotomy (c :: r).length 20 with h1 | h1 | h1
  · have := numOk_low _ h1 hd
    exact ⟨fun _ => this.2, fun _ => this.1⟩
  · exact numOk_20 _ h1 hd
  · refine ⟨numOk_lt _ hd, fun h => ?_⟩
    exfalso
    have hc := dig_le ((List.all_eq_true.1 hd) c (by simp))
    have hne : c.toNat ≠ 48 := fun e => h0 ⟨by omega, UInt8.toNat_inj.1 e⟩
    rw [nval_cons] at h
    have h2 : 10 ^ 20 ≤ 10 ^ r.length := Nat.pow_le_pow_right (by decide) (by simp at h1; omega)
    have h3 : 1 * 10 ^ r.length ≤ (c.toNat - 48) * 10 ^ r.length := Nat.mul_le_mul_right _ (by omega)
    have h4 : (18446744073709551616 : Nat) ≤ 10 ^ 20 := by decide
    omega
end Go.Proofs.YtjgdkiikkgdbaaaGreatDoor
/- The reference's path of chapter 16: is a text made of steps? -/
namespace Go.Proofs.YtjgdkiikkgdbaaaGreatDoor
open Go.RowKit
set_option linter.unusedVariables false
theorem bthN {w a b : World} (h : Below w.heap.size w a) (k : Below a.heap.size a b) : Below w.heap.size w b := h.trans (k.mono h.size)
theorem great_ok (d : List UInt8) (hd : d.all dig = true) : greatD d = !numOk d := by
  unfold greatD
  rcases Nat.lt_trichotomy d.length 20 with h | h | h
  · have h1 := (numOk_low d h hd).1
    rw [h1, decide_eq_false (by omega), show (d.length == 20) = false from beq_eq_false_iff_ne.2 (by omega)]; rfl
  · have h1 := numOk_20 d h hd
    rw [decide_eq_false (by omega), h]
    cases hq : numOk d with
    | true => rw [decide_eq_true (h1.1 hq)]; rfl
    | false => rw [decide_eq_false (fun e => by rw [h1.2 e] at hq; cases hq)]; rfl
  · have h1 : numOk d = false := by unfold numOk; rw [decide_eq_true h]; simp
    rw [h1, decide_eq_true h]; rfl
theorem pth_end (f : Nat) : pthB (f + 1) false [] = true := by rw [pthB, if_pos ⟨rfl, rfl⟩]
end Go.Proofs.YtjgdkiikkgdbaaaGreatDoor
/- The steps of a path as the printer's code takes them, in plain Lean: an element, an item, a number; that they are the document's. No run of the program. -/
namespace Go.Proofs.YtjgdkiikkgdbaaaGreatDoor
open Go
set_option linter.unusedVariables false
def elmC (l : List UInt8) : Nat := if l.headD 0 = 91 ∧ badIx (l.tail.takeWhile dig) = false ∧ (l.tail.drop (l.tail.takeWhile dig).length).headD 0 = 93 then (l.tail.takeWhile dig).length + 2 else 0
def nameC (l : List UInt8) : Nat := if wl l = 0 ∨ wordsL.contains (l.take (wl l)) = true then 0 else wl l
def itmC (b : Bool) (l : List UInt8) : Nat := if b = true then nameC l else if l.headD 0 = 46 then (if nameC l.tail = 0 then 0 else nameC l.tail + 1) else 0
def stpC (b : Bool) (l : List UInt8) : Nat := max (elmC l) (itmC b l)
theorem elm_ok {r : List UInt8} (h : badIx (r.takeWhile dig) = false ∧ (r.drop (r.takeWhile dig).length).headD 0 = 93) : elmC (91 :: r) = (r.takeWhile dig).length + 2 := by
  unfold elmC; rw [if_pos ⟨rfl, h⟩]; rfl
theorem elm_no {r : List UInt8} (h : ¬ (badIx (r.takeWhile dig) = false ∧ (r.drop (r.takeWhile dig).length).headD 0 = 93)) : elmC (91 :: r) = 0 := by
  unfold elmC; rw [if_neg (fun x => h x.2)]
theorem elm_far {c : UInt8} {r : List UInt8} (h : c ≠ 91) : elmC (c :: r) = 0 := by unfold elmC; rw [if_neg (fun x => h x.1)]
theorem nm_ok {l : List UInt8} (h : ¬ (wl l = 0 ∨ wordsL.contains (l.take (wl l)) = true)) : nameC l = wl l ∧ nameC l ≠ 0 := by
  unfold nameC; rw [if_neg h]; exact ⟨rfl, fun e => h (.inl e)⟩
theorem nm_no {l : List UInt8} (h : wl l = 0 ∨ wordsL.contains (l.take (wl l)) = true) : nameC l = 0 := by unfold nameC; rw [if_pos h]
theorem itm_91 (b : Bool) (r : List UInt8) : itmC b (91 :: r) = 0 := by
  unfold itmC
  cases b with
  | true => rw [if_pos rfl]; exact nm_no (.inl (by simp [wl, isL]))
  | false => rw [if_neg (by decide), if_neg (by show ¬ ((91 : UInt8) = 46); decide)]
theorem step_pth (f : Nat) (b : Bool) (l : List UInt8) (hl : l ≠ []) : pthB (f + 1) b l = if stpC b l = 0 then false else pthB f false (l.drop (stpC b l)) := by
  cases l with
  | nil => exact absurd rfl hl
  | cons c r =>
  rw [pthB, if_neg (by rintro ⟨_, h⟩; cases h)]
  by_cases h91 : c = 91
  · subst h91
    rw [if_pos ⟨hl, rfl⟩]
    have hs : stpC b (91 :: r) = elmC (91 :: r) := by unfold stpC; rw [itm_91, Nat.max_zero]
    show (if badIx (r.takeWhile dig) = true ∨ (r.drop (r.takeWhile dig).length).headD 0 ≠ 93 then false else pthB f false (r.drop (r.takeWhile dig).length).tail) = _
    by_cases h : badIx (r.takeWhile dig) = false ∧ (r.drop (r.takeWhile dig).length).headD 0 = 93
    · rw [hs, elm_ok h, if_neg (by rintro (h1 | h1); (rw [h.1] at h1; cases h1); (exact h1 h.2)), if_neg (by omega), List.drop_succ_cons, List.tail_drop]
    · rw [hs, elm_no h, if_pos rfl, if_pos (by
        by_cases h1 : badIx (r.takeWhile dig) = true
        · exact .inl h1
        · exact .inr (fun h2 => h ⟨by simpa using h1, h2⟩))]
  · rw [if_neg (by rintro ⟨_, h2⟩; exact h91 h2)]
    have hs : stpC b (c :: r) = itmC b (c :: r) := by unfold stpC; rw [elm_far h91, Nat.zero_max]
    rw [hs]
    cases b with
    | true =>
      have hi : itmC true (c :: r) = nameC (c :: r) := rfl
      rw [if_pos rfl, hi]
      by_cases h : wl (c :: r) = 0 ∨ wordsL.contains ((c :: r).take (wl (c :: r))) = true
      · rw [if_pos h, nm_no h, if_pos rfl]
      · obtain ⟨e1, e2⟩ := nm_ok h
        rw [if_neg h, if_neg e2, e1]
    | false =>
      rw [if_neg (by decide)]
      by_cases h46 : c = 46
      · subst h46
        rw [if_neg (by simp)]
        show (if wl r = 0 ∨ wordsL.contains (r.take (wl r)) = true then false else pthB f false (r.drop (wl r))) = _
        by_cases h : wl r = 0 ∨ wordsL.contains (r.take (wl r)) = true
        · have hi : itmC false (46 :: r) = 0 := by show (if nameC r = 0 then 0 else nameC r + 1) = 0; rw [nm_no h, if_pos rfl]
          rw [if_pos h, hi, if_pos rfl]
        · obtain ⟨e1, e2⟩ := nm_ok h
          have hi : itmC false (46 :: r) = wl r + 1 := by show (if nameC r = 0 then 0 else nameC r + 1) = _; rw [if_neg e2, e1]
          rw [if_neg h, hi, if_neg (by omega), List.drop_succ_cons]
      · have hi : itmC false (c :: r) = 0 := by unfold itmC; rw [if_neg (by decide), if_neg (show ¬ ((c :: r).headD 0 = 46) from h46)]
        rw [hi, if_pos rfl, if_pos (show (c :: r).headD 0 ≠ 46 from h46)]
theorem elmC_le (l : List UInt8) : elmC l ≤ l.length := by
  unfold elmC
  split
  · rename_i h
    cases l with
    | nil => exact absurd h.1 (by decide)
    | cons c r =>
      have h2 := (tw_spec dig r).2.2
      have h3 := h.2.2
      simp only [List.tail_cons] at h3 ⊢
      rw [List.length_cons]
      have : (r.takeWhile dig).length ≠ r.length := fun e => by rw [e, List.drop_length] at h3; exact absurd h3 (by decide)
      omega
  · omega
theorem nameC_le (l : List UInt8) : nameC l ≤ l.length := by unfold nameC; have := wl_le l; split <;> omega
theorem itmC_le (b : Bool) (l : List UInt8) : itmC b l ≤ l.length := by
  unfold itmC
  have h1 := nameC_le l
  have h2 := nameC_le l.tail
  split
  · exact h1
  · split
    · rename_i h
      cases l with
      | nil => exact absurd h (by decide)
      | cons c r =>
        have h2 : nameC r ≤ r.length := h2
        show (if nameC r = 0 then 0 else nameC r + 1) ≤ r.length + 1
        by_cases hz : nameC r = 0
        · rw [if_pos hz]; omega
        · rw [if_neg hz]; omega
    · omega
/-- is a text a number's token, and nothing else? -/
def isNumT (A : Ans) (s : List UInt8) : Bool := match A with
  | .good (t :: _) => t.k == 2 && t.t == s
  | _ => false
def isNumC (s : List UInt8) : Bool := s.all dig && !badIx s
theorem TA_fst : ∀ (f : Nat) (l : List UInt8) (a : Nat) (t : Tk) (L : List Tk), TA f l a [] = .good (t :: L) → t.k = 2 → (∃ c r, l = c :: r ∧ blk c = true ∧ t.t.length ≤ r.length) ∨ (∃ c r n len, l = c :: r ∧ blk c = false ∧ fstG (c :: r) = .tok 2 t.t n len)
  | 0, l, a, t, L, h, _ => by cases h
  | f + 1, [], a, t, L, h, hk => by
    have h : ([] ++ [⟨6, [], 0, a⟩] : List Tk) = t :: L := by injection h
    have : (⟨6, [], 0, a⟩ : Tk) = t := (List.cons.inj h).1
    rw [← this] at hk; have hk : (6 : Nat) = 2 := hk; omega
  | f + 1, c :: r, a, t, L, h, hk => by
    rw [TA_step] at h
    by_cases hc : blk c = true
    · rw [if_pos hc] at h
      left
      refine ⟨c, r, rfl, hc, ?_⟩
      rcases TA_fst f r (a + 1) t L h hk with ⟨c', r', rfl, _, h2⟩ | ⟨c', r', n, len, rfl, _, h2⟩
      · rw [List.length_cons]; omega
      · have hb := fst_bounds (c' :: r') (by simp)
        rw [h2] at hb
        have hb : 1 ≤ len ∧ len ≤ (c' :: r').length ∧ 1 ≤ 2 ∧ 2 ≤ 5 ∧ t.t.length ≤ len := hb
        omega
    · right
      rw [if_neg hc] at h
      refine ⟨c, r, ?_⟩
      cases hg : fstG (c :: r) with
      | err e b => rw [hg] at h; cases h
      | tok k s n len =>
        rw [hg] at h
        have h : TA f ((c :: r).drop len) (a + len) ([] ++ [⟨k, s, n, a⟩]) = .good (t :: L) := h
        obtain ⟨M, hM⟩ := TA_pre f _ _ _ _ h
        have hM : t :: L = ⟨k, s, n, a⟩ :: M := hM
        have ht : t = ⟨k, s, n, a⟩ := (List.cons.inj hM).1
        have hk2 : k = 2 := by rw [ht] at hk; exact hk
        refine ⟨n, len, rfl, by simpa using hc, ?_⟩
        rw [ht, hk2]
  where
  TA_pre : ∀ (f : Nat) (l : List UInt8) (a : Nat) (out R : List Tk), TA f l a out = .good R → ∃ M, R = out ++ M
    | 0, l, a, out, R, h => by cases h
    | f + 1, [], a, out, R, h => by
      have h : out ++ [⟨6, [], 0, a⟩] = R := by injection h
      exact ⟨_, h.symm⟩
    | f + 1, c :: r, a, out, R, h => by
      rw [TA_step] at h
      by_cases hc : blk c = true
      · rw [if_pos hc] at h; exact TA_pre f _ _ _ _ h
      · rw [if_neg hc] at h
        cases hg : fstG (c :: r) with
        | err e b => rw [hg] at h; cases h
        | tok k s n len =>
          rw [hg] at h
          have h : (if out.length = 64 then Ans.bad 3 a else TA f ((c :: r).drop len) (a + len) (out ++ [⟨k, s, n, a⟩])) = .good R := h
          by_cases h64 : out.length = 64
          · rw [if_pos h64] at h; cases h
          · rw [if_neg h64] at h
            obtain ⟨M, hM⟩ := TA_pre f _ _ _ _ h
            exact ⟨⟨k, s, n, a⟩ :: M, by rw [hM]; simp⟩
theorem tw_self16 {p : UInt8 → Bool} : ∀ {l : List UInt8}, (∀ x ∈ l, p x = true) → l.takeWhile p = l
  | [], _ => rfl
  | c :: r, h => by rw [List.takeWhile_cons_of_pos (h c (by simp)), tw_self16 (fun x hx => h x (by simp [hx]))]
theorem dig_wl {c : UInt8} {r : List UInt8} (h : dig c = true) : wl (c :: r) = 0 := by
  have := dig_le h
  rw [wl, if_neg]
  unfold isL; simp; omega
theorem isNum_eq (s : List UInt8) : isNumT (tokA s) s = isNumC s := by
  rw [Bool.eq_iff_iff]
  constructor
  · intro h
    unfold tokA at h
    split at h
    · cases h
    · cases hA : TA (s.length + 1) s 0 [] with
      | bad e a => rw [hA] at h; cases h
      | good L =>
        rw [hA] at h
        cases L with
        | nil => cases h
        | cons t L =>
          have h : (t.k == 2 && t.t == s) = true := h
          rw [Bool.and_eq_true] at h
          have hk : t.k = 2 := eq_of_beq h.1
          have ht : t.t = s := eq_of_beq h.2
          rcases TA_fst _ _ _ _ _ hA hk with ⟨c, r, e, _, h2⟩ | ⟨c, r, n, len, e, _, h2⟩
          · rw [ht, e, List.length_cons] at h2; omega
          · rw [ht, e] at h2
            unfold fstG at h2
            by_cases hw : wl (c :: r) ≠ 0
            · rw [if_pos hw] at h2; cases h2
            · rw [if_neg hw] at h2
              by_cases hn : nl (c :: r) ≠ 0
              · rw [if_pos hn] at h2
                have hrd : ∀ q : List UInt8, rdNum q = .tok 2 (c :: r) n len → q = c :: r ∧ ¬ (1 < q.length ∧ q[0]? = some 48) ∧ nval q < 18446744073709551616 := by
                  intro q hq
                  unfold rdNum at hq
                  by_cases h0 : 1 < q.length ∧ q[0]? = some 48
                  · rw [if_pos h0] at hq; cases hq
                  · rw [if_neg h0] at hq
                    by_cases h1 : nval q < 18446744073709551616
                    · rw [if_pos h1] at hq
                      injection hq with _ h3
                      exact ⟨h3, h0, h1⟩
                    · rw [if_neg h1] at hq; cases hq
                obtain ⟨h3, h0, h1⟩ := hrd _ h2
                have hall : ((c :: r).takeWhile dig) = c :: r := by rw [← sh_take]; exact h3
                rw [h3] at h0 h1
                have hd : (c :: r).all dig = true := by rw [List.all_eq_true, ← hall]; exact tw_dig (c :: r)
                have h48 : ¬ (1 < (c :: r).length ∧ c = 48) := fun hx => h0 ⟨hx.1, by rw [hx.2]; rfl⟩
                have hok := (numOk_iff c r hd h48).2 h1
                rw [e]
                unfold isNumC badIx
                rw [hd, great_ok _ hd, hok]
                by_cases hz : 1 < (c :: r).length
                · have hc : c ≠ 48 := fun x => h48 ⟨hz, x⟩
                  simp [hc]
                · rw [decide_eq_false hz]; simp
              · rw [if_neg hn] at h2
                by_cases h4 : tl (c :: r) ≠ 0
                · rw [if_pos h4] at h2
                  unfold rdText at h2
                  split at h2
                  · cases h2
                  · split at h2 <;> cases h2
                · rw [if_neg h4] at h2
                  by_cases h5 : pl (c :: r) ≠ 0
                  · rw [if_pos h5] at h2; cases h2
                  · rw [if_neg h5] at h2
                    split at h2 <;> cases h2
  · intro h
    unfold isNumC at h
    rw [Bool.and_eq_true] at h
    have hb : badIx s = false := by simpa using h.2
    have hd : ∀ x ∈ s, dig x = true := List.all_eq_true.1 h.1
    obtain ⟨hne, hrd⟩ := ix_ok hd hb
    have hlen : s.length ≤ 20 := by
      unfold badIx greatD at hb
      simp only [Bool.or_eq_false_iff, decide_eq_false_iff_not] at hb
      omega
    have htw : s.takeWhile dig = s := tw_self16 hd
    cases s with
    | nil => exact absurd rfl hne
    | cons c r =>
      have hc := hd c (by simp)
      have hbl : blk c = false := blk_D hc
      have hnl : nl (c :: r) = (c :: r).length := by unfold nl; rw [htw]
      have hf : fstG (c :: r) = .tok 2 (c :: r) (nval (c :: r)) (c :: r).length := by
        unfold fstG
        rw [if_neg (fun e => e (dig_wl hc)), if_pos (by rw [hnl]; simp), hnl, List.take_length, hrd]
      unfold tokA
      rw [if_neg (by omega)]
      have hT : TA ((c :: r).length + 1) (c :: r) 0 [] = .good [⟨2, c :: r, nval (c :: r), 0⟩, ⟨6, [], 0, 0 + (c :: r).length⟩] := by
        rw [TA_step, if_neg (by rw [hbl]; decide), hf]
        show TA (c :: r).length ((c :: r).drop (c :: r).length) (0 + (c :: r).length) [⟨2, c :: r, nval (c :: r), 0⟩] = _
        rw [List.drop_length]; rfl
      rw [hT]
      show ((2 : Nat) == 2 && (c :: r) == (c :: r)) = true
      simp
/-- what stands ahead of a byte -/
theorem index_one (c : UInt8) : ∀ l : List UInt8, Lib.index l [c] = if (l.takeWhile (fun x => x != c)).length = l.length then -1 else ((l.takeWhile (fun x => x != c)).length : Int)
  | [] => rfl
  | b :: r => by
    rw [Lib.index]
    by_cases h : b = c
    · subst h
      rw [if_pos (by simp), List.takeWhile_cons_of_neg (by simp), if_neg (by simp)]; rfl
    · have hp : ([c] : List UInt8).isPrefixOf (b :: r) = false := by simp [List.isPrefixOf]; exact fun e => h e.symm
      rw [hp, if_neg (by decide), index_one c r, List.takeWhile_cons_of_pos (by simpa using h)]
      have hle := (tw_spec (fun x => x != c) r).2.2
      simp only [List.length_cons]
      by_cases h2 : (r.takeWhile (fun x => x != c)).length = r.length
      · rw [if_pos h2, if_pos (show (r.takeWhile (fun x => x != c)).length + 1 = r.length + 1 by omega), if_pos (by rfl)]
      · rw [if_neg h2, if_neg (show ¬ ((r.takeWhile (fun x => x != c)).length + 1 = r.length + 1) by omega), if_neg (by rw [beq_iff_eq]; omega)]
        omega
theorem cut_one (c : UInt8) (l : List UInt8) : Lib.cut l [c] = if (l.takeWhile (fun x => x != c)).length = l.length then (l, [], false) else (l.takeWhile (fun x => x != c), l.drop ((l.takeWhile (fun x => x != c)).length + 1), true) := by
  unfold Lib.cut
  rw [index_one]
  by_cases h : (l.takeWhile (fun x => x != c)).length = l.length
  · rw [if_pos h, if_pos h, if_neg (by decide)]
  · rw [if_neg h, if_neg h, if_pos (by omega)]
    simp only [Int.toNat_natCast, sh_take, List.length_singleton]
/-- the element of the code -/
def elemK (r : List UInt8) : Nat := if (r.takeWhile (fun x => x != 93)).length = r.length then 0 else if isNumC (r.takeWhile (fun x => x != 93)) = true then (r.takeWhile (fun x => x != 93)).length + 2 else 0
theorem tw_stop16 (p q : UInt8 → Bool) (hpq : ∀ x, p x = true → q x = true) : ∀ (l : List UInt8), (∀ x ∈ l.takeWhile q, p x = true) → (l.takeWhile q).length ≠ l.length → (∀ x, q x = false → p x = false) → l.takeWhile p = l.takeWhile q
  | [], _, h, _ => absurd rfl h
  | c :: r, h, hn, hs => by
    by_cases hq : q c = true
    · rw [List.takeWhile_cons_of_pos hq] at h hn ⊢
      have hp : p c = true := h c (by simp)
      rw [List.takeWhile_cons_of_pos hp, tw_stop16 p q hpq r (fun x hx => h x (by simp [hx])) (by simpa using hn) hs]
    · have hq' : q c = false := by simpa using hq
      rw [List.takeWhile_cons_of_neg hq, List.takeWhile_cons_of_neg (by rw [hs c hq']; decide)]
theorem getD_far {l : List UInt8} {n : Nat} (h : l.length ≤ n) : l.getD n 0 = 0 := by rw [List.getD_eq_getElem?_getD, List.getElem?_eq_none h]; rfl
theorem drop_head {l : List UInt8} {n : Nat} : (l.drop n).headD 0 = l.getD n 0 := by rw [List.headD_eq_head?_getD, List.head?_drop, List.getD_eq_getElem?_getD]
theorem elem_eq (r : List UInt8) : elmC (91 :: r) = elemK r := by
  obtain ⟨d, hd⟩ : ∃ d, r.takeWhile dig = d := ⟨_, rfl⟩
  obtain ⟨e, he⟩ : ∃ e, r.takeWhile (fun x => x != 93) = e := ⟨_, rfl⟩
  have hdw : ∀ x, dig x = true → (x != 93) = true := fun x hx => by have := dig_le hx; rw [bne_iff_ne]; intro e; rw [e] at this; exact absurd this (by decide)
  have key : elmC (91 :: r) = if badIx d = false ∧ (r.drop d.length).headD 0 = 93 then d.length + 2 else 0 := by
    rw [← hd]
    by_cases h : badIx (r.takeWhile dig) = false ∧ (r.drop (r.takeWhile dig).length).headD 0 = 93
    · rw [elm_ok h, if_pos h]
    · rw [elm_no h, if_neg h]
  rw [key]
  unfold elemK
  rw [he]
  by_cases hcl : e.length = r.length
  · rw [if_pos hcl, if_neg]
    rintro ⟨h2, h3⟩
    rw [drop_head] at h3
    have hlt : d.length < r.length := by
      rcases Nat.lt_or_ge d.length r.length with h | h
      · exact h
      · rw [getD_far h] at h3; exact absurd h3 (by decide)
    have hx := (tw_spec (fun x => x != 93) r).1 d.length (by rw [he, hcl]; exact hlt)
    rw [h3] at hx; exact absurd hx (by decide)
  · rw [if_neg hcl]
    have hst := (tw_spec (fun x => x != 93) r).2.1 (by have := (tw_spec (fun x => x != 93) r).2.2; rw [he] at this ⊢; omega)
    rw [he] at hst
    have h93 : r.getD e.length 0 = 93 := by simpa using hst
    by_cases hn : isNumC e = true
    · rw [if_pos hn]
      unfold isNumC at hn
      rw [Bool.and_eq_true] at hn
      have hde : d = e := by
        rw [← hd, ← he]
        exact tw_stop16 dig _ hdw r (by rw [he]; exact List.all_eq_true.1 hn.1) (by rw [he]; exact hcl) (fun x hx => by
          have hx2 : x = 93 := (by simpa using hx)
          rw [hx2]; decide)
      rw [hde, if_pos ⟨by simpa using hn.2, by rw [drop_head]; exact h93⟩]
    · rw [if_neg hn, if_neg]
      rintro ⟨h2, h3⟩
      apply hn
      have hde : e = d := by
        have hdl : d.length < r.length := by
          rcases Nat.lt_or_ge d.length r.length with h | h
          · exact h
          · rw [drop_head, getD_far h] at h3; exact absurd h3 (by decide)
        rw [drop_head] at h3
        have hsp : ∀ (l : List UInt8), (l.takeWhile dig).length < l.length → l.getD (l.takeWhile dig).length 0 = 93 → l.takeWhile (fun x => x != 93) = l.takeWhile dig := by
          intro l
          induction l with
          | nil => intro h; simp at h
          | cons c q ih =>
            intro h1 h2
            by_cases hc : dig c = true
            · rw [List.takeWhile_cons_of_pos hc] at h1 h2 ⊢
              rw [List.takeWhile_cons_of_pos (p := fun x => x != 93) (hdw c hc), ih (by simpa using h1) (by simpa using h2)]
            · rw [List.takeWhile_cons_of_neg hc] at h1 h2 ⊢
              have : c = 93 := by simpa using h2
              rw [List.takeWhile_cons_of_neg (by rw [this]; decide)]
        rw [← he, ← hd]
        exact hsp r (by rw [hd]; exact hdl) (by rw [hd]; exact h3)
      unfold isNumC
      rw [hde, h2, ← hd, List.all_eq_true.2 (tw_dig r)]; rfl
end Go.Proofs.YtjgdkiikkgdbaaaGreatDoor
