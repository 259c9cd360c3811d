/- Joined tokens are split into the same tokens. Plain Lean. -/
import Derived.Test.YtcdplpdgokhopaaDoorTokAns
namespace Go.Proofs.YtcdplpdgokhopaaDoor
open Go
set_option linter.unusedVariables false
theorem all_stop (p : UInt8 → Bool) (d : UInt8) (r : List UInt8) (hd : p d = false) : ∀ l : List UInt8, (∀ x ∈ l, p x = true) → (l ++ d :: r).takeWhile p = l
  | [], _ => by simp [hd]
  | c :: q, h => by
    rw [List.cons_append, List.takeWhile_cons_of_pos (h c (by simp)), all_stop p d r hd q (fun x hx => h x (by simp [hx]))]
theorem tw_take_eq (p : UInt8 → Bool) : ∀ l : List UInt8, l.take (l.takeWhile p).length = l.takeWhile p
  | [] => rfl
  | c :: q => by
    by_cases hc : p c = true
    · rw [List.takeWhile_cons_of_pos hc, List.length_cons, List.take_succ_cons, tw_take_eq p q]
    · rw [List.takeWhile_cons_of_neg hc]; rfl
theorem tw_mem (p : UInt8 → Bool) : ∀ (l : List UInt8) (x : UInt8), x ∈ l.takeWhile p → p x = true
  | [], x, h => by simp at h
  | c :: q, x, h => by
    by_cases hc : p c = true
    · rw [List.takeWhile_cons_of_pos hc] at h
      rcases List.mem_cons.1 h with rfl | h
      · exact hc
      · exact tw_mem p q x h
    · rw [List.takeWhile_cons_of_neg hc] at h; simp at h
theorem ql_ne {c : UInt8} (h : c ≠ 39) : ∀ r, ql (c :: r) = (ql r).map (· + 1)
  | [] => by simp [ql, h]
  | d :: r => by rw [ql, if_neg h]
theorem ql_q2 (r : List UInt8) : ql (39 :: 39 :: r) = (ql r).map (· + 2) := by rw [ql, if_pos rfl, if_pos rfl]
theorem ql_q1 (d : UInt8) (r : List UInt8) (h : d ≠ 39) : ql (39 :: d :: r) = some 1 := by rw [ql, if_pos rfl, if_neg h]
theorem dbl_ne {c : UInt8} (h : c ≠ 39) (r : List UInt8) : dbl (c :: r) = c :: dbl r := by rw [dbl, if_neg h]
/-- what is quoted, and stays so behind a blank -/
theorem ql_again (z : List UInt8) : ∀ (N : Nat) (r : List UInt8) (K : Nat), r.length ≤ N → ql r = some K → ql (r.take K ++ 32 :: z) = some K ∧ dbl (unq (r.take (K - 1))) ++ [39] = r.take K
  | N, [], K, _, h => by simp [ql] at h
  | N, [c], K, _, h => by
    by_cases hc : c = 39
    · subst hc
      obtain rfl : 1 = K := (by simpa [ql] using h)
      exact ⟨ql_q1 32 z (by decide), rfl⟩
    · simp [ql, hc] at h
  | 0, c :: d :: r, K, hN, _ => by simp at hN
  | N + 1, c :: d :: r, K, hN, h => by
    by_cases hc : c = 39
    · subst hc
      by_cases hd : d = 39
      · subst hd
        rw [ql_q2] at h
        cases hq : ql r with
        | none => rw [hq] at h; cases h
        | some k =>
          rw [hq] at h
          obtain rfl : k + 2 = K := (by simpa using h)
          have hN' : r.length ≤ N := by simp at hN; omega
          obtain ⟨h1, h2⟩ := ql_again z N r k hN' hq
          obtain ⟨hk, _⟩ := ql_le r.length r k (Nat.le_refl _) hq
          constructor
          · rw [List.take_succ_cons, List.take_succ_cons, List.cons_append, List.cons_append, ql_q2, h1]; rfl
          · obtain ⟨m, rfl⟩ : ∃ m, k = m + 1 := ⟨k - 1, by omega⟩
            rw [show m + 1 + 2 - 1 = m + 2 from rfl, List.take_succ_cons, List.take_succ_cons, List.take_succ_cons, List.take_succ_cons]
            rw [show m + 1 - 1 = m from rfl] at h2
            rw [unq, if_pos ⟨rfl, rfl⟩, dbl, if_pos rfl, ← h2]; rfl
      · rw [ql_q1 d r hd] at h
        obtain rfl : 1 = K := (by simpa using h)
        exact ⟨ql_q1 32 z (by decide), rfl⟩
    · rw [ql_ne hc] at h
      cases hq : ql (d :: r) with
      | none => rw [hq] at h; cases h
      | some k =>
        rw [hq] at h
        obtain rfl : k + 1 = K := (by simpa using h)
        have hN' : (d :: r).length ≤ N := by simp at hN ⊢; omega
        obtain ⟨h1, h2⟩ := ql_again z N (d :: r) k hN' hq
        obtain ⟨hk, _⟩ := ql_le (d :: r).length (d :: r) k (Nat.le_refl _) hq
        constructor
        · rw [List.take_succ_cons, List.cons_append, ql_ne hc, h1]; rfl
        · obtain ⟨m, rfl⟩ : ∃ m, k = m + 1 := ⟨k - 1, by omega⟩
          rw [show m + 1 + 1 - 1 = m + 1 from rfl, List.take_succ_cons (i := m), List.take_succ_cons (i := m + 1)]
          rw [show m + 1 - 1 = m from rfl] at h2
          rw [unq_cons (fun e => hc e.1), dbl_ne hc, ← h2]; rfl
structure Gd (x : Tk) : Prop where
  k1 : 1 ≤ x.k
  k5 : x.k ≤ 5
  hd : ∃ c q, tkText x = c :: q ∧ blk c = false
  again : ∀ r, fstG (tkText x ++ 32 :: r) = .tok x.k x.t x.n (tkText x).length
theorem wl_hd (c : UInt8) (q : List UInt8) : wl (c :: q) = 0 ↔ isL c.toNat = false := by
  cases h : isL c.toNat <;> simp [wl, h]
theorem nl_hd (c : UInt8) (q : List UInt8) : nl (c :: q) = 0 ↔ dig c = false := by
  cases h : dig c <;> simp [nl, h]
theorem sign_again : ∀ x ∈ signs, (∀ r, fstG (x ++ 32 :: r) = .tok 5 x 0 x.length) ∧ ∃ c q, x = c :: q ∧ blk c = false := by
  intro x hx
  simp only [signs, List.mem_cons, List.not_mem_nil, or_false] at hx
  rcases hx with rfl | rfl | rfl | rfl | rfl | rfl | rfl | rfl | rfl | rfl | rfl | rfl <;> exact ⟨fun r => rfl, _, _, rfl, by decide⟩
theorem blk_not_L {c : UInt8} (h : isL c.toNat = true) : blk c = false := by
  unfold isL at h; unfold blk
  simp only [Bool.or_eq_true, Bool.and_eq_true, decide_eq_true_eq] at h
  simp only [Bool.or_eq_false_iff, beq_eq_false_iff_ne]
  omega
theorem blk_not_D {c : UInt8} (h : dig c = true) : blk c = false := by
  unfold dig isD at h; unfold blk
  simp only [Bool.and_eq_true, decide_eq_true_eq] at h
  simp only [Bool.or_eq_false_iff, beq_eq_false_iff_ne]
  omega
/-- a token, read again -/
theorem first_again (l : List UInt8) (k : Nat) (t : List UInt8) (n len a : Nat) (hl : l ≠ []) (h : fstG l = .tok k t n len) : tkText ⟨k, t, n, a⟩ = l.take len ∧ Gd ⟨k, t, n, a⟩ := by
  have hb := fst_bounds l hl
  rw [h] at hb
  obtain ⟨b1, b2, b3, b4, b5⟩ := hb
  obtain ⟨c, q, rfl⟩ : ∃ c q, l = c :: q := by cases l with | nil => exact absurd rfl hl | cons c q => exact ⟨c, q, rfl⟩
  unfold fstG at h
  by_cases hw : wl (c :: q) ≠ 0
  · rw [if_pos hw] at h
    injection h with e1 e2 e3 e4
    subst e1 e2 e3
    have hc : isL c.toNat = true := by
      cases hx : isL c.toNat with
      | true => rfl
      | false => exact absurd ((wl_hd c q).2 hx) hw
    have e5 : wl (c :: q) = (q.takeWhile alu).length + 1 := by simp [wl, hc]
    have ht : (c :: q).take (wl (c :: q)) = c :: q.takeWhile alu := by rw [e5, List.take_succ_cons, tw_take_eq]
    rw [← e4, ht]
    refine ⟨rfl, by show 1 ≤ 1; omega, by show 1 ≤ 5; omega, ⟨c, _, rfl, blk_not_L hc⟩, fun r => ?_⟩
    show fstG (c :: (q.takeWhile alu ++ 32 :: r)) = .tok 1 (c :: q.takeWhile alu) 0 (c :: q.takeWhile alu).length
    have h1 : wl (c :: (q.takeWhile alu ++ 32 :: r)) = (q.takeWhile alu).length + 1 := by
      simp only [wl, hc, if_true]
      rw [all_stop alu 32 r (by decide) _ (fun x hx => tw_mem alu q x hx)]
    unfold fstG
    rw [if_pos (by rw [h1]; omega), h1, List.take_succ_cons, List.take_left]; rfl
  · rw [if_neg hw] at h
    have hcL : isL c.toNat = false := (wl_hd c q).1 (by omega)
    by_cases hnn : nl (c :: q) ≠ 0
    · rw [if_pos hnn] at h
      have hc : dig c = true := by
        cases hx : dig c with
        | true => rfl
        | false => exact absurd ((nl_hd c q).2 hx) hnn
      have ht : (c :: q).take (nl (c :: q)) = c :: q.takeWhile dig := by
        unfold nl; rw [tw_take_eq, List.takeWhile_cons_of_pos hc]
      rw [ht] at h
      have hall : ∀ x ∈ c :: q.takeWhile dig, dig x = true := fun x hx => by
        rcases List.mem_cons.1 hx with rfl | hx
        · exact hc
        · exact tw_mem dig q x hx
      have key : ∀ r, fstG ((c :: q.takeWhile dig) ++ 32 :: r) = rdNum (c :: q.takeWhile dig) := fun r => by
        unfold fstG
        have h1 : nl ((c :: q.takeWhile dig) ++ 32 :: r) = (c :: q.takeWhile dig).length := by
          unfold nl; rw [all_stop dig 32 r (by decide) _ hall]
        rw [if_neg (by rw [List.cons_append, (wl_hd _ _).2 hcL]; simp), if_pos (by rw [h1]; simp), h1, List.take_left]
      have hr : rdNum (c :: q.takeWhile dig) = .tok 2 (c :: q.takeWhile dig) n len ∧ k = 2 ∧ t = c :: q.takeWhile dig ∧ len = (c :: q.takeWhile dig).length := by
        rw [h]
        unfold rdNum at h
        split at h
        · cases h
        · split at h
          · injection h with e1 e2 e3 e4; exact ⟨by rw [e1, e2], e1.symm, e2.symm, e4.symm⟩
          · cases h
      obtain ⟨hr, rfl, rfl, rfl⟩ := hr
      refine ⟨?_, by show 1 ≤ 2; omega, by show 2 ≤ 5; omega, ⟨c, _, rfl, blk_not_D hc⟩, fun r => ?_⟩
      · rw [← ht]
        unfold nl; rw [tw_take_eq, tw_take_eq]; rfl
      · exact (key r).trans hr
    · rw [if_neg hnn] at h
      have hcD : dig c = false := (nl_hd c q).1 (by omega)
      by_cases htt : tl (c :: q) ≠ 0
      · rw [if_pos htt] at h
        have hc : c = 39 := by
          by_cases hx : c = 39
          · exact hx
          · exact absurd (by simp [tl, hx]) htt
        subst hc
        have hq0 := ql_count q.length q (Nat.le_refl _)
        cases hq : ql q with
        | none =>
          rw [hq] at hq0
          have e1 : tl (39 :: q) = q.length + 1 := by simp [tl, hq]
          have e2 : ((39 : UInt8) :: q).take (tl (39 :: q)) = 39 :: q := by rw [e1, List.take_succ_cons, List.take_length]
          have hct : ((39 : UInt8) :: q).count 39 = q.count 39 + 1 := by rw [List.count_cons]; simp
          rw [e2] at h
          unfold rdText at h
          split at h
          · cases h
          · rw [if_pos (by rw [hct]; have hq0 : q.count 39 % 2 = 0 := hq0; omega)] at h; cases h
        | some K =>
          have e1 : tl (39 :: q) = K + 1 := by simp [tl, hq]
          obtain ⟨hk1, hk2⟩ := ql_le q.length q K (Nat.le_refl _) hq
          have e2 : ((39 : UInt8) :: q).take (tl (39 :: q)) = 39 :: q.take K := by rw [e1, List.take_succ_cons]
          have e3 : ((39 : UInt8) :: q.take K).length = K + 1 := by rw [List.length_cons, List.length_take]; omega
          rw [e2] at h
          have hr : rdText (39 :: q.take K) = .tok 3 (unq (q.take (K - 1))) 0 (K + 1) ∧ k = 3 ∧ t = unq (q.take (K - 1)) ∧ n = 0 ∧ len = K + 1 := by
            rw [h]
            unfold rdText at h
            split at h
            · cases h
            · split at h
              · cases h
              · injection h with f1 f2 f3 f4
                rw [e3] at f4 f2
                rw [show ((39 : UInt8) :: q.take K).drop 1 = q.take K from rfl, List.take_take, show min (K + 1 - 2) K = K - 1 by omega] at f2
                exact ⟨by rw [f1, f2, f3, f4], f1.symm, f2.symm, f3.symm, f4.symm⟩
          obtain ⟨hr, rfl, rfl, rfl, rfl⟩ := hr
          have hx : tkText ⟨3, unq (q.take (K - 1)), 0, a⟩ = 39 :: q.take K := by
            show 39 :: (dbl (unq (q.take (K - 1))) ++ [39]) = _
            rw [(ql_again [] q.length q K (Nat.le_refl _) hq).2]
          refine ⟨by rw [hx, List.take_succ_cons], by show 1 ≤ 3; omega, by show 3 ≤ 5; omega, ⟨39, _, hx, by decide⟩, fun r => ?_⟩
          rw [hx]
          have hq2 := (ql_again r q.length q K (Nat.le_refl _) hq).1
          have f1 : tl (39 :: (q.take K ++ 32 :: r)) = K + 1 := by simp [tl, hq2]
          show fstG (39 :: (q.take K ++ 32 :: r)) = .tok 3 (unq (q.take (K - 1))) 0 _
          unfold fstG
          rw [if_neg (by rw [(wl_hd _ _).2 (by decide)]; simp), if_neg (by rw [(nl_hd _ _).2 (by decide)]; simp), if_pos (by rw [f1]; omega), f1, List.take_succ_cons]
          rw [show (q.take K ++ 32 :: r).take K = q.take K from by
            have : (q.take K).length = K := by rw [List.length_take]; omega
            conv => lhs; rw [← this]
            rw [this, List.take_append_of_le_length (by omega), List.take_take, Nat.min_self]]
          rw [hr, e3]
      · rw [if_neg htt] at h
        have hcQ : ¬ c = 39 := by
          rintro rfl
          apply htt
          show (if (39 : UInt8) = 39 then (match ql q with | some k => k + 1 | none => q.length + 1) else 0) ≠ 0
          rw [if_pos rfl]; cases ql q <;> exact Nat.succ_ne_zero _
        by_cases hpp : pl (c :: q) ≠ 0
        · rw [if_pos hpp] at h
          match q, hpp, h with
          | [], hpp, h => exact absurd rfl hpp
          | d :: q, hpp, h =>
            have hcd : c = 37 ∧ dig d = true := by
              by_cases hx : c = 37 ∧ dig d = true
              · exact hx
              · exact absurd (by simp only [pl]; rw [if_neg hx]) hpp
            obtain ⟨rfl, hd⟩ := hcd
            have e1 : pl (37 :: d :: q) = 2 := by simp [pl, hd]
            rw [e1] at h
            injection h with f1 f2 f3 f4
            subst f1 f2 f3 f4
            refine ⟨rfl, by show 1 ≤ 4; omega, by show 4 ≤ 5; omega, ⟨37, _, rfl, by decide⟩, fun r => ?_⟩
            show fstG (37 :: d :: 32 :: r) = .tok 4 [37, d] ((([37, d] : List UInt8).getD 1 0).toNat - 48) 2
            unfold fstG
            have f1 : pl (37 :: d :: 32 :: r) = 2 := by simp [pl, hd]
            rw [if_neg (by rw [(wl_hd _ _).2 (by decide)]; simp), if_neg (by rw [(nl_hd _ _).2 (by decide)]; simp), if_neg (by simp [tl]), if_pos (by rw [f1]; omega), f1]
            rfl
        · rw [if_neg hpp] at h
          by_cases hss : sl (c :: q) ≠ 0
          · rw [if_pos hss] at h
            cases hf : signs.find? (fun x => x.isPrefixOf (c :: q)) with
            | none => exact absurd (by simp only [sl]; rw [hf]) hss
            | some x =>
              have hx := List.mem_of_find?_eq_some hf
              have hp := List.find?_some hf
              obtain ⟨z, hz⟩ := List.isPrefixOf_iff_prefix.1 hp
              have e1 : sl (c :: q) = x.length := by simp only [sl]; rw [hf]
              rw [e1, ← hz, List.take_left] at h
              injection h with f1 f2 f3 f4
              subst f1 f2 f3 f4
              obtain ⟨g1, g2⟩ := sign_again _ hx
              exact ⟨by rw [← hz, List.take_left]; rfl, by show 1 ≤ 5; omega, by show 5 ≤ 5; omega, g2, g1⟩
          · rw [if_neg hss] at h; cases h
end Go.Proofs.YtcdplpdgokhopaaDoor
