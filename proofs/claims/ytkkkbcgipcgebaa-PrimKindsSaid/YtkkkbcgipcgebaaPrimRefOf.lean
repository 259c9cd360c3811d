/- Contract of chapter 5's reference: Of. -/
import Derived.Test.YtkkkbcgipcgebaaPrimRef
import Derived.BigGuardPart
import Derived.Deep.DeepCutAuto
namespace Go.Proofs.Ytkkkbcgipcgebaa
open Go.RowKit
set_option linter.unusedVariables false
theorem ofB_no {k : Int} (d : DatV) (h : numK k = false) : ofB k d = false := by unfold ofB; rw [h]; rfl
theorem ofB_text {k : Int} {d : DatV} (h : d.text.toList.isEmpty = false) : ofB k d = false := by unfold ofB; rw [h]; simp
theorem ofB_kind {k : Int} {d : DatV} (h : (d.kind == dkK k) = false) : ofB k d = false := by unfold ofB; rw [h]; simp
theorem ofB_yes {k : Int} {d : DatV} (hk : numK k = true) (ht : d.text.toList.isEmpty = true) (h : (d.kind == dkK k) = true) : ofB k d = (decide (loK k ≤ dv d) && decide (dv d ≤ hiK k)) := by unfold ofB; rw [h, hk, ht]; simp
theorem of_plain {k kd num : Int} {neg : Bool} {tx : ByteArray} (hk : numK k = true) (h0 : 0 ≤ num) (h1 : num ≤ 18446744073709551615) (hn : ¬ (neg = true ∧ 0 < num)) : (decide (loK k ≤ dv ⟨kd, neg, num, tx⟩) && decide (dv ⟨kd, neg, num, tx⟩ ≤ hiK k)) = decide (num ≤ hiK k) ∧ IntKind.u64.wrap (dv ⟨kd, neg, num, tx⟩) = num := by
  have hd : dv ⟨kd, neg, num, tx⟩ = num := by
    unfold dv
    cases neg with
    | false => rfl
    | true => have : num = 0 := (by simp at hn; omega); subst this; rfl
  have hl : loK k ≤ 0 := by
    cases hs : sgK k with
    | true => have := most_sg hs; have h2 := pw_even (szK_sz hk); omega
    | false => unfold loK; rw [hs]; exact Int.le_refl _
  rw [hd, IntKind.wrap_u64]
  refine ⟨?_, by omega⟩
  rw [decide_eq_true (show loK k ≤ num by omega)]; simp
theorem of_minus {k kd num : Int} {tx : ByteArray} (h0 : 0 ≤ num) (h1 : num ≤ 18446744073709551615) (hp : 0 < num) (hh : 0 ≤ hiK k) : (decide (loK k ≤ dv ⟨kd, true, num, tx⟩) && decide (dv ⟨kd, true, num, tx⟩ ≤ hiK k)) = decide (num ≤ -loK k) ∧ IntKind.u64.wrap (dv ⟨kd, true, num, tx⟩) = IntKind.u64.wrap (-num) := by
  refine ⟨?_, rfl⟩
  show (decide (loK k ≤ -num) && decide (-num ≤ hiK k)) = _
  rw [decide_eq_true (show -num ≤ hiK k by omega), Bool.and_true, Bool.eq_iff_iff]; simp; omega
/-- what Of answers -/
def OfIs (k : Int) (d : DatV) (w : World) (e : Ending) (w' : World) : Prop := ∃ x, e = .returned (.tuple #[.int .u64 x, .bool (ofB k d)]) ∧ (ofB k d = true → x = ofN k d) ∧ Below w.heap.size w w'
theorem of_is {k : Int} {d : DatV} {w w' : World} {x : Int} {b : Bool} (hb : ofB k d = b) (hx : IntKind.u64.wrap (dv d) = x) (bel : Below w.heap.size w w') : OfIs k d w (.returned (.tuple #[.int .u64 x, .bool b])) w' :=
  ⟨x, by rw [hb], fun h => by unfold ofN; rw [h, if_pos rfl, hx], bel⟩
theorem hi_nonneg {k : Int} (hk : numK k = true) : 0 ≤ hiK k := by
  by_cases h1 : k = 1
  · subst h1; decide
  · have h2 := pw_even (szK_sz hk)
    cases hs : sgK k with
    | true => have := most_sg hs; omega
    | false => have := most_un h1 hs; omega
theorem neg_neg64 (num : Int) : IntKind.u64.wrap (-num) = IntKind.u64.wrap (wrap64 (-wrap64 num)) := by
  rw [IntKind.wrap_u64, IntKind.wrap_u64]; unfold wrap64; omega
theorem of_no {k : Int} {d : DatV} {w w' : World} (h : ofB k d = false) (hb : Below w.heap.size w w') : OfIs k d w (.returned (.tuple #[.int .u64 0, .bool false])) w' := ⟨0, by rw [h], fun h2 => by (rw [h] at h2; cases h2), hb⟩
set_option maxHeartbeats 1000000 in
theorem refOf_any (k kd num : Int) (neg : Bool) (tx : ByteArray) (hn : (Lit.int .u64 num).wf = true) (w : World) : Calls Try.prog 21 #[.int .i64 k, .agg #[.int .i64 kd, .bool neg, .int .u64 num, .string tx]] w (OfIs k ⟨kd, neg, num, tx⟩ w) := by
  have hb := bounds_u64 hn
  obtain ⟨hb0, hb1⟩ := hb
  clear hn
  cases hk : numK k with
  | false =>
    have HE := Lib.hid (ofB_no ⟨kd, neg, num, tx⟩ hk)
    go_enter Try.func21, Try.ntmps21
    go_wp2_with (go_at_call 8; refine (refNumber_any _ _).mono ?_; rintro e w' ⟨rfl, rfl⟩)
    go_ret2
    exact of_no HE.out (by go_grown)
  | true =>
    cases ht : tx.toList.isEmpty with
    | false =>
      have HE := Lib.hid (ofB_text (k := k) (d := ⟨kd, neg, num, tx⟩) ht)
      go_enter Try.func21, Try.ntmps21
      go_wp2_with (go_at_call 8; refine (refNumber_any _ _).mono ?_; rintro e w' ⟨rfl, rfl⟩)
      go_ret2
      exact of_no HE.out (by go_grown)
    | true =>
      cases hkd : (kd == dkK k) with
      | false =>
        have HE := Lib.hid (ofB_kind (k := k) (d := ⟨kd, neg, num, tx⟩) hkd)
        by_cases h1 : k = 1
        · subst h1
          have hk3 : (kd != 3) = true := by (unfold dkK at hkd; simpa using hkd)
          clear hkd
          go_enter Try.func21, Try.ntmps21
          go_wp2_with (go_at_call 8; refine (refNumber_any _ _).mono ?_; rintro e w' ⟨rfl, rfl⟩)
          go_ret2
          exact of_no HE.out (by go_grown)
        · have h1b : (k == 1) = false := by simpa using h1
          have h1c : (k != 1) = true := by simpa using h1
          have hk3 : (kd != 1) = true := by (unfold dkK at hkd; rw [if_neg h1] at hkd; simpa using hkd)
          clear hkd h1
          go_enter Try.func21, Try.ntmps21
          go_wp2_with (go_at_call 8; refine (refNumber_any _ _).mono ?_; rintro e w' ⟨rfl, rfl⟩)
          go_ret2
          exact of_no HE.out (by go_grown)
      | true =>
        have HE := Lib.hid (ofB_yes (d := ⟨kd, neg, num, tx⟩) hk ht hkd)
        have HM := Lib.hid (fun w => refMost_any k hk w)
        have HY := Lib.hid (of_plain (k := k) (kd := kd) (num := num) (neg := neg) (tx := tx) hk hb0 hb1)
        have HG := Lib.hid (of_minus (k := k) (kd := kd) (num := num) (tx := tx) hb0 hb1)
        by_cases h1 : k = 1
        · subst h1
          have hk3 : (kd != 3) = false := by (unfold dkK at hkd; simpa using hkd)
          clear hkd
          by_cases hneg : neg = true ∧ 0 < num
          · obtain ⟨rfl, hnp⟩ := hneg
            clear HY
            go_enter Try.func21, Try.ntmps21
            go_upto_region 5 with (first | (go_at_call 8; refine (refNumber_any _ _).mono ?_; rintro e w' ⟨rfl, rfl⟩) | (go_at_call 34; refine (HM.out _).mono ?_; rintro e w' ⟨rfl, rfl⟩))
            go_wp2_with fail
            go_big_quiet (fail)
            go_wp2
            go_ret2
            exact of_is (HE.out.trans ((HG.out hnp (hi_nonneg hk)).1.trans (decide_eq_false (show ¬ num ≤ -loK 1 from fun h => absurd hnp (by have e : -loK 1 = 0 := rfl; rw [e] at h; omega))))) ((HG.out hnp (hi_nonneg hk)).2.trans (neg_neg64 num)) (drewN_below ((Below.refl _ _).alloc (Nat.le_refl _) _) _)
          · have hdz : neg = true → decide (0 < num) = false := fun h => by simp at hneg ⊢; exact hneg h
            have hy := HY.out hneg
            clear HG HY hneg
            cases neg with
            | false =>
              go_enter Try.func21, Try.ntmps21
              go_upto_region 6 with (first | (go_at_call 8; refine (refNumber_any _ _).mono ?_; rintro e w' ⟨rfl, rfl⟩) | (go_at_call 34; refine (HM.out _).mono ?_; rintro e w' ⟨rfl, rfl⟩))
              go_wp2_with fail
              go_big_quiet (fail)
              go_wp2
              go_ret2
              exact of_is (HE.out.trans hy.1) hy.2 (drewN_below ((Below.refl _ _).alloc (Nat.le_refl _) _) _)
            | true =>
              have hd0 := hdz rfl
              have hd1 : ¬ 0 < num := by simpa using hd0
              go_enter Try.func21, Try.ntmps21
              go_upto_region 6 with (first | (go_at_call 8; refine (refNumber_any _ _).mono ?_; rintro e w' ⟨rfl, rfl⟩) | (go_at_call 34; refine (HM.out _).mono ?_; rintro e w' ⟨rfl, rfl⟩))
              go_wp2_with fail
              go_big_quiet (fail)
              go_wp2
              go_ret2
              exact of_is (HE.out.trans hy.1) hy.2 (drewN_below ((Below.refl _ _).alloc (Nat.le_refl _) _) _)
        · have h1b : (k == 1) = false := by simpa using h1
          have h1c : (k != 1) = true := by simpa using h1
          have hk3 : (kd != 1) = false := by (unfold dkK at hkd; rw [if_neg h1] at hkd; simpa using hkd)
          clear hkd h1
          by_cases hneg : neg = true ∧ 0 < num
          · obtain ⟨rfl, hnp⟩ := hneg
            clear HY
            go_enter Try.func21, Try.ntmps21
            go_upto_region 5 with (first | (go_at_call 8; refine (refNumber_any _ _).mono ?_; rintro e w' ⟨rfl, rfl⟩) | (go_at_call 34; refine (HM.out _).mono ?_; rintro e w' ⟨rfl, rfl⟩))
            go_wp2_with fail
            go_big_quiet (fail)
            go_wp2
            go_ret2
            exact of_is (HE.out.trans (HG.out hnp (hi_nonneg hk)).1) ((HG.out hnp (hi_nonneg hk)).2.trans (neg_neg64 num)) (drewN_below ((Below.refl _ _).alloc (Nat.le_refl _) _) _)
          · have hdz : neg = true → decide (0 < num) = false := fun h => by simp at hneg ⊢; exact hneg h
            have hy := HY.out hneg
            clear HG HY hneg
            cases neg with
            | false =>
              go_enter Try.func21, Try.ntmps21
              go_upto_region 6 with (first | (go_at_call 8; refine (refNumber_any _ _).mono ?_; rintro e w' ⟨rfl, rfl⟩) | (go_at_call 34; refine (HM.out _).mono ?_; rintro e w' ⟨rfl, rfl⟩))
              go_wp2_with fail
              go_big_quiet (fail)
              go_wp2
              go_ret2
              exact of_is (HE.out.trans hy.1) hy.2 (drewN_below ((Below.refl _ _).alloc (Nat.le_refl _) _) _)
            | true =>
              have hd0 := hdz rfl
              have hd1 : ¬ 0 < num := by simpa using hd0
              go_enter Try.func21, Try.ntmps21
              go_upto_region 6 with (first | (go_at_call 8; refine (refNumber_any _ _).mono ?_; rintro e w' ⟨rfl, rfl⟩) | (go_at_call 34; refine (HM.out _).mono ?_; rintro e w' ⟨rfl, rfl⟩))
              go_wp2_with fail
              go_big_quiet (fail)
              go_wp2
              go_ret2
              exact of_is (HE.out.trans hy.1) hy.2 (drewN_below ((Below.refl _ _).alloc (Nat.le_refl _) _) _)
end Go.Proofs.Ytkkkbcgipcgebaa
