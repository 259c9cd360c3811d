/- The tokens of a text between brackets; in plain Lean. No run of the program. -/
import Derived.Test.YtjgdkiikkgdbaaaGreatDoorQ25
import Derived.Test.YtjgdkiikkgdbaaaGreatDoorQ37
import Derived.Test.YtjgdkiikkgdbaaaGreatDoorQ38
namespace Go.Proofs.YtjgdkiikkgdbaaaGreatDoor
open Go
set_option linter.unusedVariables false
/-- the tokens of a text, without their places and the end -/
inductive Tks : List UInt8 → List (Nat × List UInt8 × Nat) → Prop
  | nil : Tks [] []
  | blank {c : UInt8} {r : List UInt8} {T : List (Nat × List UInt8 × Nat)} (hc : blk c = true) (h : Tks r T) : Tks (c :: r) T
  | tok {c : UInt8} {r : List UInt8} {k n len : Nat} {t : List UInt8} {T : List (Nat × List UInt8 × Nat)} (hc : blk c = false) (hf : fstG (c :: r) = .tok k t n len) (h : Tks ((c :: r).drop len) T) : Tks (c :: r) ((k, t, n) :: T)
theorem tks_good : ∀ {s : List UInt8} {T : List (Nat × List UInt8 × Nat)}, Tks s T → ∀ (f a : Nat) (out : List Tk), s.length < f → out.length + T.length ≤ 64 → ∃ r, TA f s a out = .good r ∧ r.map kt = out.map kt ++ (T ++ [(6, [], 0)]) := by
  intro s T h
  induction h with
  | nil =>
    intro f a out hf ho
    obtain ⟨g, rfl⟩ : ∃ g, f = g + 1 := ⟨f - 1, by simp at hf; omega⟩
    exact ⟨_, rfl, by simp [kt]⟩
  | @blank c r T hc h ih =>
    intro f a out hf ho
    obtain ⟨g, rfl⟩ : ∃ g, f = g + 1 := ⟨f - 1, by simp at hf; omega⟩
    rw [TA_step, if_pos hc]
    exact ih g (a + 1) out (by simpa using hf) ho
  | @tok c r k n len t T hc hf h ih =>
    intro f a out hlf ho
    obtain ⟨g, rfl⟩ : ∃ g, f = g + 1 := ⟨f - 1, by simp at hlf; omega⟩
    have hb := fst_bounds (c :: r) (by simp)
    rw [hf] at hb
    rw [TA_step, if_neg (by rw [hc]; decide), hf]
    show ∃ x, (if out.length = 64 then Ans.bad 3 a else TA g ((c :: r).drop len) (a + len) (out ++ [⟨k, t, n, a⟩])) = .good x ∧ _
    simp only [List.length_cons] at ho
    rw [if_neg (by omega)]
    obtain ⟨x, h1, h2⟩ := ih g (a + len) (out ++ [⟨k, t, n, a⟩]) (by rw [List.length_drop]; have := hb.1; omega) (by simp; omega)
    exact ⟨x, h1, by rw [h2]; simp [kt]⟩
theorem tks_long : ∀ {s : List UInt8} {T : List (Nat × List UInt8 × Nat)}, Tks s T → ∀ (f a : Nat) (out : List Tk), s.length < f → 64 < out.length + T.length → out.length ≤ 64 → ∃ b, TA f s a out = .bad 3 b := by
  intro s T h
  induction h with
  | nil => intro f a out hf h1 h2; simp at h1; omega
  | @blank c r T hc h ih =>
    intro f a out hf h1 h2
    obtain ⟨g, rfl⟩ : ∃ g, f = g + 1 := ⟨f - 1, by simp at hf; omega⟩
    rw [TA_step, if_pos hc]
    exact ih g (a + 1) out (by simpa using hf) h1 h2
  | @tok c r k n len t T hc hf h ih =>
    intro f a out hlf h1 h2
    obtain ⟨g, rfl⟩ : ∃ g, f = g + 1 := ⟨f - 1, by simp at hlf; omega⟩
    have hb := fst_bounds (c :: r) (by simp)
    rw [hf] at hb
    rw [TA_step, if_neg (by rw [hc]; decide), hf]
    show ∃ b, (if out.length = 64 then Ans.bad 3 a else TA g ((c :: r).drop len) (a + len) (out ++ [⟨k, t, n, a⟩])) = .bad 3 b
    by_cases h64 : out.length = 64
    · rw [if_pos h64]; exact ⟨a, rfl⟩
    · rw [if_neg h64]
      simp only [List.length_cons] at h1
      exact ih g (a + len) (out ++ [⟨k, t, n, a⟩]) (by rw [List.length_drop]; have := hb.1; omega) (by simp; omega) (by simp; omega)
theorem tks_tokA {s : List UInt8} {T : List (Nat × List UInt8 × Nat)} (h : Tks s T) (hs : s.length ≤ 256) (hT : T.length ≤ 64) : ∃ r, tokA s = .good r ∧ r.map kt = T ++ [(6, [], 0)] := by
  unfold tokA
  rw [if_neg (by omega)]
  obtain ⟨r, h1, h2⟩ := tks_good h (s.length + 1) 0 [] (by omega) (by simpa using hT)
  exact ⟨r, h1, by simpa using h2⟩
theorem tks_tokA_long {s : List UInt8} {T : List (Nat × List UInt8 × Nat)} (h : Tks s T) (hs : s.length ≤ 256) (hT : 64 < T.length) : ∃ b, tokA s = .bad 3 b := by
  unfold tokA
  rw [if_neg (by omega)]
  exact tks_long h (s.length + 1) 0 [] (by omega) (by simpa using hT) (by simp)
theorem Tks.det : ∀ {s : List UInt8} {T U : List (Nat × List UInt8 × Nat)}, Tks s T → Tks s U → T = U := by
  intro s T U h
  induction h generalizing U with
  | nil => intro h2; cases h2; rfl
  | blank hc h ih =>
    intro h2
    cases h2 with
    | blank _ h3 => exact ih h3
    | tok hc2 _ _ => rw [hc] at hc2; cases hc2
  | tok hc hf h ih =>
    intro h2
    cases h2 with
    | blank hc2 _ => rw [hc] at hc2; cases hc2
    | tok _ hf2 h3 =>
      rw [hf] at hf2
      injection hf2 with e1 e2 e3 e4
      subst e1; subst e2; subst e3; subst e4
      rw [ih h3]
end Go.Proofs.YtjgdkiikkgdbaaaGreatDoor
/- Chapter 16 in plain Lean: the pieces of a printed text, each the first token of what begins with it. No run of the program. -/
namespace Go.Proofs.YtjgdkiikkgdbaaaGreatDoor
open Go
set_option linter.unusedVariables false
def StopB (p : UInt8 → Bool) (v : List UInt8) : Prop := v = [] ∨ ∃ d r, v = d :: r ∧ p d = false
theorem tw_stop (p : UInt8 → Bool) (v : List UInt8) (hv : StopB p v) : ∀ q : List UInt8, (∀ x ∈ q, p x = true) → (q ++ v).takeWhile p = q
  | [], _ => by
    rcases hv with rfl | ⟨d, r, rfl, hd⟩
    · rfl
    · rw [List.nil_append, List.takeWhile_cons, hd]; rfl
  | c :: q, h => by
    rw [List.cons_append, List.takeWhile_cons, h c (by simp), if_pos rfl, tw_stop p v hv q (fun x hx => h x (by simp [hx]))]
theorem sh_word (c : UInt8) (q v : List UInt8) (hc : isL c.toNat = true) (hq : ∀ x ∈ q, alu x = true) (hv : StopB alu v) : fstG (c :: (q ++ v)) = .tok 1 (c :: q) 0 (q.length + 1) := by
  have hw : wl (c :: (q ++ v)) = q.length + 1 := by
    show (if isL c.toNat then ((q ++ v).takeWhile alu).length + 1 else 0) = _
    rw [hc, if_pos rfl, tw_stop alu v hv q hq]
  unfold fstG
  rw [hw, if_pos (by omega), List.take_succ_cons, List.take_left]
theorem dig_notL {c : UInt8} (h : dig c = true) : isL c.toNat = false := by
  unfold dig isD at h
  unfold isL
  simp at h ⊢
  omega
theorem sh_num (c : UInt8) (q v : List UInt8) (hd : ∀ x ∈ c :: q, dig x = true) (hv : StopB dig v) : fstG (c :: (q ++ v)) = rdNum (c :: q) := by
  have hc := hd c (by simp)
  have hw : wl (c :: (q ++ v)) = 0 := by
    show (if isL c.toNat then ((q ++ v).takeWhile alu).length + 1 else 0) = 0
    rw [dig_notL hc]; rfl
  have hn : nl (c :: (q ++ v)) = q.length + 1 := by
    show ((c :: (q ++ v)).takeWhile dig).length = _
    rw [← List.cons_append, tw_stop dig v hv (c :: q) hd]; rfl
  unfold fstG
  rw [hw, hn, if_neg (by omega), if_pos (by omega), List.take_succ_cons, List.take_left]
/-- a sign of one byte -/
def Sg1 (c : UInt8) : Prop := c = 40 ∨ c = 41 ∨ c = 46 ∨ c = 91 ∨ c = 93 ∨ c = 45
theorem sh_sg1 (c : UInt8) (v : List UInt8) (hc : Sg1 c) : fstG (c :: v) = .tok 5 [c] 0 1 := by
  have key : ∀ c : UInt8, isL c.toNat = false → dig c = false → c ≠ 39 → c ≠ 37 → sl (c :: v) = 1 → fstG (c :: v) = .tok 5 [c] 0 1 := by
    intro c h1 h2 h3 h4 h5
    have hw : wl (c :: v) = 0 := by show (if isL c.toNat then _ else 0) = 0; rw [h1]; rfl
    have hn : nl (c :: v) = 0 := by show ((c :: v).takeWhile dig).length = 0; rw [List.takeWhile_cons, h2]; rfl
    have ht : tl (c :: v) = 0 := if_neg h3
    have hp : pl (c :: v) = 0 := by
      cases v with
      | nil => rfl
      | cons d r => exact if_neg (fun e => h4 e.1)
    unfold fstG
    rw [hw, hn, ht, hp, h5, if_neg (by omega), if_neg (by omega), if_neg (by omega), if_neg (by omega), if_pos (by omega)]
    rfl
  rcases hc with rfl | rfl | rfl | rfl | rfl | rfl <;> exact key _ (by decide) (by decide) (by decide) (by decide) (by simp [sl, signs, List.isPrefixOf])
theorem blk_sg1 {c : UInt8} (hc : Sg1 c) : blk c = false := by rcases hc with rfl | rfl | rfl | rfl | rfl | rfl <;> decide
/-- a text in quotes -/
theorem sh_qne {c : UInt8} (h : c ≠ 39) : ∀ r, ql (c :: r) = (ql r).map (· + 1)
  | [] => if_neg h
  | d :: r => if_neg h
theorem sh_q2 (r : List UInt8) : ql (39 :: 39 :: r) = (ql r).map (· + 2) := by rw [ql, if_pos rfl, if_pos rfl]
theorem sh_q1 (d : UInt8) (r : List UInt8) (h : d ≠ 39) : ql (39 :: d :: r) = some 1 := by rw [ql, if_pos rfl, if_neg h]
theorem sh_dne {c : UInt8} (h : c ≠ 39) (r : List UInt8) : dbl (c :: r) = c :: dbl r := by rw [dbl, if_neg h]
theorem ql_dbl (v : List UInt8) (hv : StopB (fun x => x == 39) v) : ∀ t : List UInt8, ql (dbl t ++ 39 :: v) = some ((dbl t).length + 1)
  | [] => by
    show ql (39 :: v) = some 1
    rcases hv with rfl | ⟨d, r, rfl, hd⟩
    · rfl
    · exact sh_q1 d r (by simpa using hd)
  | c :: t => by
    by_cases hc : c = 39
    · subst hc
      rw [dbl, if_pos rfl]
      show ql (39 :: 39 :: (dbl t ++ 39 :: v)) = _
      rw [sh_q2, ql_dbl v hv t]
      rfl
    · rw [sh_dne hc]
      show ql (c :: (dbl t ++ 39 :: v)) = _
      rw [sh_qne hc, ql_dbl v hv t]
      rfl
theorem unq_dbl : ∀ t : List UInt8, unq (dbl t) = t
  | [] => rfl
  | c :: t => by
    by_cases hc : c = 39
    · subst hc
      rw [dbl, if_pos rfl, unq, if_pos ⟨rfl, rfl⟩, unq_dbl t]
    · rw [sh_dne hc, unq_cons (fun e => hc e.1), unq_dbl t]
theorem dbl_mem {t : List UInt8} {x : UInt8} : x ∈ dbl t → x ∈ t := by
  induction t with
  | nil => intro h; exact h
  | cons c r ih =>
    by_cases hc : c = 39
    · subst hc
      rw [dbl, if_pos rfl]
      intro h
      simp at h
      rcases h with h | h
      · simp [h]
      · simp [ih h]
    · rw [sh_dne hc]
      intro h
      simp at h
      rcases h with h | h
      · simp [h]
      · simp [ih h]
theorem count_dbl (t : List UInt8) : (dbl t).count 39 % 2 = 0 := by
  induction t with
  | nil => rfl
  | cons c r ih =>
    by_cases hc : c = 39
    · subst hc
      rw [dbl, if_pos rfl, List.count_cons_self, List.count_cons_self]; omega
    · rw [sh_dne hc, List.count_cons_of_ne (by simpa using hc)]; exact ih
theorem sh_quote (t v : List UInt8) (ht : ∀ x ∈ t, badB x = false) (hv : StopB (fun x => x == 39) v) : fstG (quoteL t ++ v) = .tok 3 t 0 ((dbl t).length + 2) := by
  have hq : quoteL t ++ v = 39 :: (dbl t ++ 39 :: v) := by unfold quoteL; simp
  rw [hq]
  have hw : wl (39 :: (dbl t ++ 39 :: v)) = 0 := rfl
  have hn : nl (39 :: (dbl t ++ 39 :: v)) = 0 := by show ((39 :: (dbl t ++ 39 :: v)).takeWhile dig).length = 0; rw [List.takeWhile_cons, show dig 39 = false from by decide]; rfl
  have htl : tl (39 :: (dbl t ++ 39 :: v)) = (dbl t).length + 2 := by
    show (if (39 : UInt8) = 39 then (match ql (dbl t ++ 39 :: v) with | some k => k + 1 | none => (dbl t ++ 39 :: v).length + 1) else 0) = _
    rw [if_pos rfl, ql_dbl v hv t]
  unfold fstG
  rw [hw, hn, htl, if_neg (by omega), if_neg (by omega), if_pos (by omega)]
  have htk : (39 :: (dbl t ++ 39 :: v)).take ((dbl t).length + 2) = 39 :: (dbl t ++ [39]) := by
    rw [List.take_succ_cons, List.take_append]
    simp [List.take_of_length_le]
  rw [htk]
  unfold rdText
  have hall : ∀ x ∈ 39 :: (dbl t ++ [39]), badB x = false := by
    intro x hx
    simp at hx
    rcases hx with rfl | hx | rfl
    · decide
    · exact ht x (dbl_mem hx)
    · decide
  rw [List.findIdx?_eq_none_iff.2 (fun x hx => by simpa using hall x hx)]
  have hc : (39 :: (dbl t ++ [39])).count 39 % 2 = 0 := by
    rw [List.count_cons_self, List.count_append, List.count_singleton_self]
    have := count_dbl t
    omega
  show (if (39 :: (dbl t ++ [39])).count 39 % 2 ≠ 0 then _ else _) = _
  rw [if_neg (by rw [hc]; decide)]
  have hl : (39 :: (dbl t ++ [39])).length = (dbl t).length + 2 := by simp
  have hd : ((39 :: (dbl t ++ [39])).drop 1).take ((39 :: (dbl t ++ [39])).length - 2) = dbl t := by
    rw [hl]; simp
  rw [hd, unq_dbl, hl]
theorem sh_par (d : Nat) (v : List UInt8) (hd : d < 10) : fstG (37 :: UInt8.ofNat (48 + d) :: v) = .tok 4 [37, UInt8.ofNat (48 + d)] d 2 := by
  have key : ∀ x : UInt8, dig x = true → fstG (37 :: x :: v) = .tok 4 [37, x] (x.toNat - 48) 2 := by
    intro x hx
    have hw : wl (37 :: x :: v) = 0 := rfl
    have hn : nl (37 :: x :: v) = 0 := by show ((37 :: x :: v).takeWhile dig).length = 0; rw [List.takeWhile_cons, show dig 37 = false from by decide]; rfl
    have ht : tl (37 :: x :: v) = 0 := rfl
    have hp : pl (37 :: x :: v) = 2 := if_pos ⟨rfl, hx⟩
    unfold fstG
    rw [hw, hn, ht, hp, if_neg (by omega), if_neg (by omega), if_neg (by omega), if_pos (by omega)]
    rfl
  rcases (show d = 0 ∨ d = 1 ∨ d = 2 ∨ d = 3 ∨ d = 4 ∨ d = 5 ∨ d = 6 ∨ d = 7 ∨ d = 8 ∨ d = 9 by omega) with rfl | rfl | rfl | rfl | rfl | rfl | rfl | rfl | rfl | rfl <;> exact key _ (by decide)
/-- the digits of a number -/
theorem dec_dig : ∀ (N n : Nat), n ≤ N → ∀ x ∈ Lib.decDigits n, dig x = true
  | 0, n, hn, x, hx => by
    rw [Lib.decDigits_one (by omega)] at hx
    obtain rfl : n = 0 := by omega
    simp at hx; subst hx; decide
  | N + 1, n, hn, x, hx => by
    have one : ∀ m, m < 10 → dig (UInt8.ofNat (48 + m)) = true := by
      intro m hm
      rcases (show m = 0 ∨ m = 1 ∨ m = 2 ∨ m = 3 ∨ m = 4 ∨ m = 5 ∨ m = 6 ∨ m = 7 ∨ m = 8 ∨ m = 9 by omega) with rfl | rfl | rfl | rfl | rfl | rfl | rfl | rfl | rfl | rfl <;> decide
    by_cases h : n < 10
    · rw [Lib.decDigits_one h] at hx
      rw [List.mem_singleton] at hx; subst hx; exact one n h
    · rw [Lib.decDigits, dif_neg h] at hx
      rcases List.mem_append.1 hx with hx | hx
      · exact dec_dig N (n / 10) (by omega) x hx
      · rw [List.mem_singleton] at hx; subst hx; exact one (n % 10) (by omega)
theorem dec_nval : ∀ (N n : Nat), n ≤ N → nval (Lib.decDigits n) = n
  | 0, n, hn => by
    rw [Lib.decDigits_one (by omega)]
    obtain rfl : n = 0 := by omega
    rfl
  | N + 1, n, hn => by
    have one : ∀ m, m < 10 → (UInt8.ofNat (48 + m)).toNat - 48 = m := by
      intro m hm
      rcases (show m = 0 ∨ m = 1 ∨ m = 2 ∨ m = 3 ∨ m = 4 ∨ m = 5 ∨ m = 6 ∨ m = 7 ∨ m = 8 ∨ m = 9 by omega) with rfl | rfl | rfl | rfl | rfl | rfl | rfl | rfl | rfl | rfl <;> decide
    by_cases h : n < 10
    · rw [Lib.decDigits_one h]
      show 0 * 10 + _ = n
      rw [one n h]; omega
    · rw [Lib.decDigits, dif_neg h, sh_nval_snoc, dec_nval N (n / 10) (by omega), one (n % 10) (by omega)]; omega
theorem dec_head : ∀ (N n : Nat), n ≤ N → ∃ c q, Lib.decDigits n = c :: q ∧ (c = 48 → q = [] ∧ n = 0)
  | 0, n, hn => by
    rw [Lib.decDigits_one (by omega)]
    exact ⟨_, _, rfl, fun _ => ⟨rfl, by omega⟩⟩
  | N + 1, n, hn => by
    by_cases h : n < 10
    · rw [Lib.decDigits_one h]
      refine ⟨_, _, rfl, fun hc => ⟨rfl, ?_⟩⟩
      rcases (show n = 0 ∨ n = 1 ∨ n = 2 ∨ n = 3 ∨ n = 4 ∨ n = 5 ∨ n = 6 ∨ n = 7 ∨ n = 8 ∨ n = 9 by omega) with rfl | rfl | rfl | rfl | rfl | rfl | rfl | rfl | rfl | rfl <;> first | rfl | (exact absurd hc (by decide))
    · obtain ⟨c, q, h1, h2⟩ := dec_head N (n / 10) (by omega)
      rw [Lib.decDigits, dif_neg h, h1]
      refine ⟨c, q ++ [_], rfl, fun hc => ?_⟩
      have := (h2 hc).2
      omega
theorem rd_dec (n : Nat) (h : n < 18446744073709551616) : rdNum (Lib.decDigits n) = .tok 2 (Lib.decDigits n) n (Lib.decDigits n).length := by
  obtain ⟨c, q, h1, h2⟩ := dec_head n n (Nat.le_refl _)
  unfold rdNum
  rw [if_neg, if_pos (by rw [dec_nval n n (Nat.le_refl _)]; exact h), dec_nval n n (Nat.le_refl _)]
  rintro ⟨h3, h4⟩
  rw [h1] at h3 h4
  have h5 : c = 48 := by simpa using h4
  have := (h2 h5).1
  subst this
  simp at h3
end Go.Proofs.YtjgdkiikkgdbaaaGreatDoor
