/- The reference's token at a byte is the code's first token. -/
import Derived.Test.YtjgdkiikkgdbaaaGreatDoorQ59
namespace Go.Proofs.YtjgdkiikkgdbaaaGreatDoor
open Go
set_option linter.unusedVariables false
theorem oneG_of (t : List UInt8) (n k : Nat) (h : lgN t = (n, k)) : oneG t = match (if t.getD 0 0 = 39 then (segOf t n).findIdx? badB else none) with
  | some i => .err 10 i
  | none => if n = 0 then .err (if t.getD 0 0 = 39 then 2 else 11) 0
    else if k = 2 then (if 1 < n ∧ t.getD 0 0 = 48 then .err 1 0 else if numOk (t.take n) = true then .tok 2 (t.take n) (nval (t.take n)) n else .err 7 0)
    else if k = 3 then .tok 3 ((quoD (t.take n)).getD []) 0 n
    else if k = 4 then .tok 4 (t.take n) ((t.getD 1 0).toNat - 48) n
    else .tok k (t.take n) 0 n := by
  unfold oneG
  rw [h]
  rfl
theorem lgOk_of (t : List UInt8) (n k : Nat) (h : lgN t = (n, k)) (le : n ≤ t.length) (d2 : k = 2 → (t.take n).all dig = true) (d4 : k = 4 → n = 2 ∧ dig (t.getD 1 0) = true) (q3 : t.getD 0 0 = 39 → n = 0 ∨ k = 3) (n3 : t.getD 0 0 ≠ 39 → k ≠ 3) : LgOk t := by
  refine ⟨?_, ?_, ?_, ?_, ?_⟩ <;> rw [h] <;> assumption
theorem one_word (c : UInt8) (r : List UInt8) (h : isL c.toNat = true) : LgOk (c :: r) ∧ oneG (c :: r) = fstG (c :: r) := by
  have h39 : c ≠ 39 := by rintro rfl; revert h; decide
  have hlg := lg_run c r alu 1 h39 (by decide) (by decide) (fun q => kind_word c q h)
  have hw : wl (c :: r) = (r.takeWhile alu).length + 1 := by simp [wl, h]
  have hle := (tw_spec alu r).2.2
  refine ⟨lgOk_of _ _ _ hlg (by simp; omega) (fun e => by omega) (fun e => by omega) (fun e => absurd e h39) (fun _ => by decide), ?_⟩
  rw [oneG_of _ _ _ hlg]
  rw [show (if ((c :: r).getD 0 0 = 39) then (segOf (c :: r) ((r.takeWhile alu).length + 1)).findIdx? badB else none) = none from if_neg h39]
  dsimp only
  rw [if_neg (by omega), if_neg (by decide), if_neg (by decide), if_neg (by decide)]
  unfold fstG
  rw [if_pos (by rw [hw]; omega), hw]
theorem nl_cons (c : UInt8) (r : List UInt8) (h : dig c = true) : nl (c :: r) = (r.takeWhile dig).length + 1 := by
  unfold nl; rw [List.takeWhile_cons_of_pos h]; rfl
theorem one_dig (c : UInt8) (r : List UInt8) (h : dig c = true) : LgOk (c :: r) ∧ oneG (c :: r) = fstG (c :: r) := by
  have h2 := dig_le h
  have hl : isL c.toNat = false := by cases hx : isL c.toNat with | false => rfl | true => have := isL_isD hx; rw [show isD c.toNat = dig c from rfl, h] at this; cases this
  have h39 : c ≠ 39 := by rintro rfl; revert h2; decide
  have hlg := lg_run c r dig 2 h39 (by decide) (by decide) (fun q => kind_dig c q h)
  have hle := (tw_spec dig r).2.2
  have hn := nl_cons c r h
  have hw := wl_no c r hl
  have htk : (c :: r).take ((r.takeWhile dig).length + 1) = c :: r.take (r.takeWhile dig).length := rfl
  have hall : (c :: r.take (r.takeWhile dig).length).all dig = true := by
    simp only [List.all_cons, h, Bool.true_and]; exact tw_take dig r _ (Nat.le_refl _)
  have hlen : (c :: r.take (r.takeWhile dig).length).length = (r.takeWhile dig).length + 1 := by
    rw [List.length_cons, List.length_take]; omega
  refine ⟨lgOk_of _ _ _ hlg (by simp; omega) (fun _ => by rw [htk]; exact hall) (fun e => by omega) (fun e => absurd e h39) (fun _ => by decide), ?_⟩
  have hF : fstG (c :: r) = rdNum (c :: r.take (r.takeWhile dig).length) := by
    unfold fstG
    rw [if_neg (by rw [hw]; decide), if_pos (by rw [hn]; omega), hn, htk]
  rw [oneG_of _ _ _ hlg, hF]
  rw [show (if ((c :: r).getD 0 0 = 39) then (segOf (c :: r) ((r.takeWhile dig).length + 1)).findIdx? badB else none) = none from if_neg h39]
  dsimp only
  rw [if_neg (by omega), if_pos rfl, htk]
  unfold rdNum
  rw [hlen]
  have h0 : ((c :: r.take (r.takeWhile dig).length)[0]? = some 48) ↔ c = 48 := by simp
  have hg : (c :: r).getD 0 0 = c := rfl
  rw [hg]
  by_cases hA : 1 < (r.takeWhile dig).length + 1 ∧ c = 48
  · rw [if_pos hA, if_pos ⟨hA.1, h0.2 hA.2⟩]
  · rw [if_neg hA, if_neg (show ¬ (1 < (r.takeWhile dig).length + 1 ∧ (c :: r.take (r.takeWhile dig).length)[0]? = some 48) from fun e => hA ⟨e.1, h0.1 e.2⟩)]
    have hnk := numOk_iff c (r.take (r.takeWhile dig).length) hall (by rw [hlen]; exact hA)
    by_cases hB : nval (c :: r.take (r.takeWhile dig).length) < 18446744073709551616
    · rw [if_pos (hnk.2 hB), if_pos hB]
    · rw [if_neg (fun e => hB (hnk.1 e)), if_neg hB]
theorem one_quo (r : List UInt8) : LgOk (39 :: r) ∧ oneG (39 :: r) = fstG (39 :: r) := by
  have hg : ((39 : UInt8) :: r).getD 0 0 = 39 := rfl
  have hw : wl (39 :: r) = 0 := wl_no 39 r (by decide)
  have hn : nl (39 :: r) = 0 := by unfold nl; rw [List.takeWhile_cons_of_neg (by decide)]; rfl
  have hf : fstG (39 :: r) = rdText ((39 :: r).take (tl (39 :: r))) := by
    unfold fstG
    rw [if_neg (by rw [hw]; decide), if_neg (by rw [hn]; decide), if_pos]
    show (if (39 : UInt8) = 39 then (match ql r with | some k => k + 1 | none => r.length + 1) else 0) ≠ 0
    rw [if_pos rfl]
    cases ql r <;> simp
  have ht : tl (39 :: r) = match ql r with | some k => k + 1 | none => r.length + 1 := by
    show (if (39 : UInt8) = 39 then (match ql r with | some k => k + 1 | none => r.length + 1) else 0) = _
    exact if_pos rfl
  cases hq : ql r with
  | some K =>
    have hK := ql_le r.length r K (Nat.le_refl _) hq
    have hlg : lgN (39 :: r) = (K + 1, 3) := lg_quo r K hq _ 1 0 0 (by simp) (Nat.le_refl _) (by omega)
    refine ⟨lgOk_of _ _ _ hlg (by simp; omega) (fun e => by omega) (fun e => by omega) (fun _ => .inr rfl) (fun e => absurd hg e), ?_⟩
    rw [oneG_of _ _ _ hlg, hf, ht, hq]
    dsimp only
    have hseg : segOf (39 :: r) (K + 1) = (39 :: r).take (K + 1) := if_pos (by omega)
    rw [if_pos hg, hseg]
    unfold rdText
    cases hx : ((39 :: r).take (K + 1)).findIdx? badB with
    | some i => rfl
    | none =>
      dsimp only
      have hlen : ((39 :: r).take (K + 1)).length = K + 1 := take_len (by simp; omega)
      have hc := ql_count r.length r (Nat.le_refl _)
      rw [hq] at hc
      have hc : (r.take K).count 39 % 2 = 1 := hc
      have hct : ((39 :: r).take (K + 1)).count 39 = (r.take K).count 39 + 1 := by rw [List.take_succ_cons, List.count_cons]; simp
      rw [if_neg (by omega), if_neg (by decide), if_pos rfl, if_neg (by rw [hct]; omega), hlen]
      obtain ⟨h6, _⟩ := q2 r.length r [] K (Nat.le_refl _) hq
      have hqd : quoD ((39 :: r).take (K + 1)) = some (unq (r.take (K - 1))) := by
        rw [List.take_succ_cons]
        unfold quoD
        rw [if_pos ⟨by rw [List.length_cons, List.length_take]; omega, rfl⟩]
        exact h6
      rw [hqd]
      have hd : (((39 :: r).take (K + 1)).drop 1).take (K + 1 - 2) = r.take (K - 1) := by
        rw [List.take_succ_cons, List.drop_succ_cons, List.drop_zero, List.take_take]
        congr 1; omega
      rw [hd]; rfl
  | none =>
    have hlg : lgN (39 :: r) = (0, 0) := lg_quo_none r hq _ 1 0 0 (by simp) (Nat.le_refl _) (.inr ⟨rfl, rfl⟩)
    refine ⟨lgOk_of _ _ _ hlg (Nat.zero_le _) (fun e => by omega) (fun e => by omega) (fun _ => .inl rfl) (fun e => absurd hg e), ?_⟩
    rw [oneG_of _ _ _ hlg, hf, ht, hq]
    dsimp only
    have hseg : segOf (39 :: r) 0 = 39 :: r := if_neg (by omega)
    have hta : (39 :: r).take (r.length + 1) = 39 :: r := List.take_of_length_le (by simp)
    rw [if_pos hg, hseg, hta]
    unfold rdText
    cases hx : ((39 : UInt8) :: r).findIdx? badB with
    | some i => rfl
    | none =>
      dsimp only
      have hc := ql_count r.length r (Nat.le_refl _)
      rw [hq] at hc
      have hc : r.count 39 % 2 = 0 := hc
      have hct : ((39 : UInt8) :: r).count 39 = r.count 39 + 1 := by rw [List.count_cons]; simp
      rw [if_pos rfl, if_pos hg, if_pos (by rw [hct]; omega)]
theorem fst_low (c : UInt8) (r : List UInt8) (hl : isL c.toNat = false) (hd : dig c = false) (h39 : c ≠ 39) : fstG (c :: r) = if pl (c :: r) ≠ 0 then rdPar ((c :: r).take (pl (c :: r))) else if sl (c :: r) ≠ 0 then .tok 5 ((c :: r).take (sl (c :: r))) 0 (sl (c :: r)) else .err 11 0 := by
  have hw := wl_no c r hl
  have hn : nl (c :: r) = 0 := by unfold nl; rw [List.takeWhile_cons_of_neg (by simp [hd])]; rfl
  have ht : tl (c :: r) = 0 := if_neg h39
  unfold fstG
  rw [if_neg (by rw [hw]; decide), if_neg (by rw [hn]; decide), if_neg (by rw [ht]; decide)]
theorem one_zero (c : UInt8) (r : List UInt8) (hl : isL c.toNat = false) (hd : dig c = false) (h39 : c ≠ 39) (h1 : kindN ((c :: r).take 1) = 0) (h2 : 2 ≤ (c :: r).length → kindN ((c :: r).take 2) = 0) (hp : pl (c :: r) = 0) (hs : sl (c :: r) = 0) : LgOk (c :: r) ∧ oneG (c :: r) = fstG (c :: r) := by
  have hlg := lg_zero (c :: r) (by simp) h39 h1 h2
  refine ⟨lgOk_of _ _ _ hlg (Nat.zero_le _) (fun e => by omega) (fun e => by omega) (fun _ => .inl rfl) (fun _ => by decide), ?_⟩
  have hF : fstG (c :: r) = .err 11 0 := by rw [fst_low c r hl hd h39, if_neg (by rw [hp]; decide), if_neg (by rw [hs]; decide)]
  rw [oneG_of _ _ _ hlg, hF]
  rw [show (if ((c :: r).getD 0 0 = 39) then (segOf (c :: r) 0).findIdx? badB else none) = none from if_neg h39]
  dsimp only
  rw [if_pos rfl, if_neg (show ¬ (c :: r).getD 0 0 = 39 from h39)]
theorem sl_head (c : UInt8) (r : List UInt8) (h : c.toNat ∉ [61, 60, 62, 40, 41, 46, 91, 93, 45]) : sl (c :: r) = 0 := by
  unfold sl
  have : signs.find? (fun x => x.isPrefixOf (c :: r)) = none := by
    rw [List.find?_eq_none]
    intro x hx hp
    apply h
    simp only [signs, List.mem_cons, List.not_mem_nil, or_false] at hx
    rcases hx with rfl | rfl | rfl | rfl | rfl | rfl | rfl | rfl | rfl | rfl | rfl | rfl <;> (simp [List.isPrefixOf] at hp; first | (obtain ⟨e, _⟩ := hp; subst e; decide) | (subst hp; decide))
  rw [this]
theorem one_par (r : List UInt8) : LgOk (37 :: r) ∧ oneG (37 :: r) = fstG (37 :: r) := by
  have hs := sl_head 37 r (by decide)
  have hk : ∀ q : List UInt8, kindN (37 :: q) = if ((37 : UInt8) :: q).length = 2 ∧ dig (((37 : UInt8) :: q).getD 1 0) = true then 4 else 0 := fun q => by
    have hr : rsigns.contains ((37 : UInt8) :: q) = false := by
      cases hx : rsigns.contains ((37 : UInt8) :: q) with
      | false => rfl
      | true => have := rs_head 37 q hx; exact absurd this (by decide)
    rw [kind_rest 37 q (by decide) (by decide), if_neg (by rw [quo_other 37 q (by decide)]; decide), hr]
    simp
  by_cases hd : ∃ d q, r = d :: q ∧ dig d = true
  · obtain ⟨d, q, rfl, hd⟩ := hd
    have hp : pl (37 :: d :: q) = 2 := if_pos ⟨rfl, hd⟩
    have h1 : kindN (((37 : UInt8) :: d :: q).take 1) = 0 := by show kindN [37] = 0; rw [hk]; rfl
    have h2 : kindN (((37 : UInt8) :: d :: q).take 2) = 4 := by show kindN (37 :: [d]) = 4; rw [hk, if_pos ⟨rfl, hd⟩]
    have hlg : lgN (37 :: d :: q) = (2, 4) := by
      show lgA (37 :: d :: q) (q.length + 1 + 1) 1 0 0 = _
      rw [lgA, if_neg (fun h => by rw [h1] at h; exact absurd h.1 (by decide)), if_neg (fun h => absurd h.2.2 (by omega)), if_pos h1]
      refine lg_go (37 :: d :: q) 2 4 (show (37 : UInt8) ≠ 39 by decide) (by decide) (by decide) (by omega) (by simp) ?_ _ 2 0 0 (by simp) (by omega) (by omega) (fun i i1 i2 => by obtain rfl : i = 2 := (by omega); exact h2) (fun e => by omega)
      cases q with
      | nil => left; rfl
      | cons x y => right; show kindN (37 :: d :: [x]) = 0; rw [hk, if_neg (fun e => by simp at e)]
    refine ⟨lgOk_of _ _ _ hlg (by simp) (fun e => by omega) (fun _ => ⟨rfl, hd⟩) (fun e => absurd e (show (37 : UInt8) ≠ 39 by decide)) (fun _ => by decide), ?_⟩
    have hF : fstG (37 :: d :: q) = rdPar ((37 :: d :: q).take 2) := by rw [fst_low 37 (d :: q) (by decide) (by decide) (by decide), hp, if_pos (by decide)]
    rw [oneG_of _ _ _ hlg, hF]
    rw [show (if (((37 : UInt8) :: d :: q).getD 0 0 = 39) then (segOf (37 :: d :: q) 2).findIdx? badB else none) = none from if_neg (show ¬ (37 : UInt8) = 39 by decide)]
    rfl
  · have hp : pl (37 :: r) = 0 := by
      cases r with
      | nil => rfl
      | cons d q => exact if_neg (fun e => hd ⟨d, q, rfl, e.2⟩)
    refine one_zero 37 r (by decide) (by decide) (by decide) (by show kindN [37] = 0; rw [hk]; rfl) (fun h2 => ?_) hp hs
    cases r with
    | nil => simp at h2
    | cons d q => show kindN (37 :: [d]) = 0; rw [hk, if_neg (fun e => hd ⟨d, q, rfl, e.2⟩)]
theorem kind_sign (c : UInt8) (q : List UInt8) (hl : isL c.toNat = false) (hd : dig c = false) (h39 : c ≠ 39) (h37 : c ≠ 37) : kindN (c :: q) = if rsigns.contains (c :: q) = true then 5 else 0 := by
  rw [kind_rest c q hl hd, if_neg (by rw [quo_other c q h39]; decide), if_neg (fun e => h37 e.2.1)]
theorem one_sign (c : UInt8) (r : List UInt8) (m : Nat) (hl : isL c.toNat = false) (hd : dig c = false) (h39 : c ≠ 39) (h37 : c ≠ 37) (hm1 : 1 ≤ m) (hm : m ≤ (c :: r).length) (hsl : sl (c :: r) = m) (hin : ∀ i, 1 ≤ i → i ≤ m → rsigns.contains ((c :: r).take i) = true) (hend : m = (c :: r).length ∨ rsigns.contains ((c :: r).take (m + 1)) = false) : LgOk (c :: r) ∧ oneG (c :: r) = fstG (c :: r) := by
  have hk : ∀ i, 1 ≤ i → kindN ((c :: r).take i) = if rsigns.contains ((c :: r).take i) = true then 5 else 0 := fun i hi => by
    rw [take_cons' c r i hi]; exact kind_sign c _ hl hd h39 h37
  have hlg : lgN (c :: r) = (m, 5) := lg_go (c :: r) m 5 h39 (by decide) (by decide) hm1 hm (hend.imp id (fun h => by rw [hk _ (by omega), h]; rfl)) _ 1 0 0 rfl (Nat.le_refl _) (by omega) (fun i i1 i2 => by rw [hk i i1, if_pos (hin i i1 i2)]) (fun e => by omega)
  refine ⟨lgOk_of _ _ _ hlg hm (fun e => by omega) (fun e => by omega) (fun e => absurd e h39) (fun _ => by decide), ?_⟩
  have hp : pl (c :: r) = 0 := by
    cases r with
    | nil => rfl
    | cons d q => exact if_neg (fun e => h37 e.1)
  have hF : fstG (c :: r) = .tok 5 ((c :: r).take m) 0 m := by rw [fst_low c r hl hd h39, if_neg (by rw [hp]; decide), if_pos (by rw [hsl]; omega), hsl]
  rw [oneG_of _ _ _ hlg, hF]
  rw [show (if ((c :: r).getD 0 0 = 39) then (segOf (c :: r) m).findIdx? badB else none) = none from if_neg h39]
  dsimp only
  rw [if_neg (by omega), if_neg (by decide), if_neg (by decide), if_neg (by decide)]
theorem rs_two (c d : UInt8) (h1 : ¬ (c = 60 ∧ (d = 62 ∨ d = 61))) (h2 : ¬ (c = 62 ∧ d = 61)) : rsigns.contains [c, d] = false := by
  cases hx : rsigns.contains [c, d] with
  | false => rfl
  | true =>
    rw [List.contains_iff_mem] at hx
    simp only [rsigns, List.mem_cons, List.cons.injEq, List.not_mem_nil, or_false, and_true, reduceCtorEq, and_false, false_or] at hx
    rcases hx with h | h | h
    · exact absurd ⟨h.1, .inl h.2⟩ h1
    · exact absurd ⟨h.1, .inr h.2⟩ h1
    · exact absurd h h2
theorem rs_three (c d e : UInt8) (q : List UInt8) : rsigns.contains (c :: d :: e :: q) = false := by
  cases hx : rsigns.contains (c :: d :: e :: q) with
  | false => rfl
  | true => have := rs_len _ hx; simp at this
theorem one_single (c : UInt8) (r : List UInt8) (hl : isL c.toNat = false) (hd : dig c = false) (h39 : c ≠ 39) (h37 : c ≠ 37) (hc : rsigns.contains [c] = true) (hsl : sl (c :: r) = 1) (h2 : ∀ d q, r = d :: q → rsigns.contains [c, d] = false) : LgOk (c :: r) ∧ oneG (c :: r) = fstG (c :: r) := by
  refine one_sign c r 1 hl hd h39 h37 (Nat.le_refl _) (by simp) hsl (fun i i1 i2 => by obtain rfl : i = 1 := (by omega); exact hc) ?_
  cases r with
  | nil => left; rfl
  | cons d q => right; exact h2 d q rfl
theorem one_double (c d : UInt8) (r : List UInt8) (hl : isL c.toNat = false) (hd : dig c = false) (h39 : c ≠ 39) (h37 : c ≠ 37) (hc : rsigns.contains [c] = true) (hcd : rsigns.contains [c, d] = true) (hsl : sl (c :: d :: r) = 2) : LgOk (c :: d :: r) ∧ oneG (c :: d :: r) = fstG (c :: d :: r) := by
  refine one_sign c (d :: r) 2 hl hd h39 h37 (by omega) (by simp) hsl (fun i i1 i2 => ?_) ?_
  · rcases (show i = 1 ∨ i = 2 by omega) with rfl | rfl
    · exact hc
    · exact hcd
  · cases r with
    | nil => left; rfl
    | cons e q => right; exact rs_three c d e []
theorem one_first : ∀ t : List UInt8, t ≠ [] → LgOk t ∧ oneG t = fstG t
  | [], h => absurd rfl h
  | c :: r, _ => by
    cases hl : isL c.toNat with
    | true => exact one_word c r hl
    | false =>
      cases hd : dig c with
      | true => exact one_dig c r hd
      | false =>
        by_cases h39 : c = 39
        · subst h39; exact one_quo r
        · by_cases h37 : c = 37
          · subst h37; exact one_par r
          · by_cases hin : c.toNat ∈ [61, 60, 62, 40, 41, 46, 91, 93, 45]
            · have hc : c ∈ ([61, 60, 62, 40, 41, 46, 91, 93, 45] : List UInt8) := by
                simp only [List.mem_cons, List.not_mem_nil, or_false] at hin ⊢
                rcases hin with h | h | h | h | h | h | h | h | h
                all_goals (have : c = UInt8.ofNat c.toNat := (UInt8.ofNat_toNat).symm; rw [h] at this; subst this; simp)
              simp only [List.mem_cons, List.not_mem_nil, or_false] at hc
              rcases hc with rfl | rfl | rfl | rfl | rfl | rfl | rfl | rfl | rfl
              · exact one_single 61 r hl hd h39 h37 (by decide) (by simp [sl, signs, List.isPrefixOf]) (fun d q _ => rs_two 61 d (fun e => absurd e.1 (by decide)) (fun e => absurd e.1 (by decide)))
              · match r with
                | [] => exact one_single 60 [] hl hd h39 h37 (by decide) (by decide) (fun d q e => by cases e)
                | d :: q =>
                  by_cases h1 : d = 62
                  · subst h1; exact one_double 60 62 q hl hd h39 h37 (by decide) (by decide) (by simp [sl, signs, List.isPrefixOf])
                  · by_cases h2 : d = 61
                    · subst h2; exact one_double 60 61 q hl hd h39 h37 (by decide) (by decide) (by simp [sl, signs, List.isPrefixOf])
                    · have e1 : ((62 : UInt8) == d) = false := beq_eq_false_iff_ne.2 (fun e => h1 e.symm)
                      have e2 : ((61 : UInt8) == d) = false := beq_eq_false_iff_ne.2 (fun e => h2 e.symm)
                      exact one_single 60 (d :: q) hl hd h39 h37 (by decide) (by simp [sl, signs, List.isPrefixOf, e1, e2]) (fun d' q' e => by injection e with e3 _; subst e3; exact rs_two 60 d (fun e => by rcases e.2 with e | e; exact h1 e; exact h2 e) (fun e => absurd e.1 (by decide)))
              · match r with
                | [] => exact one_single 62 [] hl hd h39 h37 (by decide) (by decide) (fun d q e => by cases e)
                | d :: q =>
                  by_cases h2 : d = 61
                  · subst h2; exact one_double 62 61 q hl hd h39 h37 (by decide) (by decide) (by simp [sl, signs, List.isPrefixOf])
                  · have e2 : ((61 : UInt8) == d) = false := beq_eq_false_iff_ne.2 (fun e => h2 e.symm)
                    exact one_single 62 (d :: q) hl hd h39 h37 (by decide) (by simp [sl, signs, List.isPrefixOf, e2]) (fun d' q' e => by injection e with e3 _; subst e3; exact rs_two 62 d (fun e => absurd e.1 (by decide)) (fun e => h2 e.2))
              all_goals exact one_single _ r hl hd h39 h37 (by decide) (by simp [sl, signs, List.isPrefixOf]) (fun d q _ => rs_two _ d (fun e => absurd e.1 (by decide)) (fun e => absurd e.1 (by decide)))
            · have hr : ∀ q : List UInt8, rsigns.contains (c :: q) = false := fun q => by
                cases hx : rsigns.contains (c :: q) with
                | false => rfl
                | true => exact absurd (rs_head c q hx) hin
              have hk : ∀ q : List UInt8, kindN (c :: q) = 0 := fun q => by rw [kind_sign c q hl hd h39 h37, hr]; rfl
              have hp : pl (c :: r) = 0 := by
                cases r with
                | nil => rfl
                | cons d q => exact if_neg (fun e => h37 e.1)
              refine one_zero c r hl hd h39 (hk []) (fun h2 => ?_) hp (sl_head c r hin)
              cases r with
              | nil => simp at h2
              | cons d q => exact hk [d]
end Go.Proofs.YtjgdkiikkgdbaaaGreatDoor
