/- Contracts of chapter 5's reference. -/
import Derived.LoopTactic
import Derived.Test.YtcojomkpogikiaaGreatDoorQ03
import Derived.Test.YtcojomkpogikiaaGreatDoorQ12
namespace Go.Proofs.YtcojomkpogikiaaGreatDoor.Pa
open Go.RowKit
set_option linter.unusedVariables false
theorem refNumber_any (k : Int) (w : World) : Calls Tryz.prog 59 #[.int .i64 k] w fun e w' => e = .returned (.bool (numK k)) ∧ w = w' := by
  go_enter Tryz.func59, Tryz.ntmps59
  go_wp2
  all_goals
    go_ret
    refine ⟨ret_bool ?_, rfl⟩
    rw [Bool.eq_iff_iff]; simp [numK]; try omega
theorem refSize_any (k : Int) (w : World) : Calls Tryz.prog 64 #[.int .i64 k] w fun e w' => e = .returned (.int .i64 (szK k)) ∧ w = w' := by
  go_enter Tryz.func64, Tryz.ntmps64
  go_wp2
  all_goals
    go_ret
    refine ⟨ret_int ?_, rfl⟩
    simp_all [szK]
theorem refSigned_any (k : Int) (w : World) : Calls Tryz.prog 61 #[.int .i64 k] w fun e w' => e = .returned (.bool (sgK k)) ∧ w = w' := by
  go_enter Tryz.func61, Tryz.ntmps61
  go_wp2
  all_goals
    go_ret
    refine ⟨ret_bool ?_, rfl⟩
    rw [Bool.eq_iff_iff]; simp [sgK, *]
theorem refLow_sz (n z : Int) (hn : (Lit.int .u64 n).wf = true) (hz : isSz z = true) (w : World) : Calls Tryz.prog 99 #[.int .u64 n, .int .i64 z] w fun e w' => e = .returned (.int .u64 (lowZ n z)) ∧ ∃ m, w' = w.drewN m := by
  rcases isSz_cases hz with rfl | rfl | rfl | rfl
  · exact refLow_1 n hn w
  · exact refLow_2 n hn w
  · exact refLow_4 n hn w
  · exact refLow_8 n hn w
theorem refKLow_any (k n : Int) (hn : (Lit.int .u64 n).wf = true) (w : World) : Calls Tryz.prog 62 #[.int .i64 k, .int .u64 n] w fun e w' => e = .returned (.int .u64 (lowK k n)) ∧ ∃ m, w' = w.drewN m := by
  unfold lowK
  cases hk : numK k with
  | false =>
    go_enter Tryz.func62, Tryz.ntmps62
    go_wp2_with (go_at_call 59; refine (refNumber_any _ _).mono ?_; rintro e w' ⟨rfl, rfl⟩)
    go_ret
    exact ⟨rfl, 0, rfl⟩
  | true =>
    have HL := Lib.hid (fun w => refLow_sz n (szK k) hn (szK_sz hk) w)
    go_enter Tryz.func62, Tryz.ntmps62
    go_wp2_with (first
      | (go_at_call 59; refine (refNumber_any _ _).mono ?_; rintro e w' ⟨rfl, rfl⟩)
      | (go_at_call 64; refine (refSize_any _ _).mono ?_; rintro e w' ⟨rfl, rfl⟩)
      | (go_at_call 99; refine (HL.out _).mono ?_; rintro e w1 ⟨rfl, m, rfl⟩))
    go_ret
    exact ⟨rfl, m, rfl⟩
theorem refKMay_any (k n : Int) (hn : (Lit.int .u64 n).wf = true) (w : World) : Calls Tryz.prog 171 #[.int .i64 k, .int .u64 n] w fun e w' => e = .returned (.bool (mayK k n)) ∧ ∃ m, w' = w.drewN m := by
  unfold mayK
  by_cases h1 : k = 1
  · subst h1
    go_enter Tryz.func171, Tryz.ntmps171
    go_wp2
    go_ret
    exact ⟨rfl, 0, rfl⟩
  · rw [if_neg h1]
    cases hk : numK k with
    | false =>
      go_enter Tryz.func171, Tryz.ntmps171
      go_wp2_with (go_at_call 59; refine (refNumber_any _ _).mono ?_; rintro e w' ⟨rfl, rfl⟩)
      go_ret
      exact ⟨rfl, 0, rfl⟩
    | true =>
      have hb := bounds_u64 hn
      have HM := Lib.hid (bits_may n (szK k) hb.1 (by omega) (szK_sz hk))
      have HB := Lib.hid (fun w => refBits_any (wrap64 n) (szK k) (wrap64_wf n) w)
      clear hb
      cases hs : sgK k with
      | true =>
        go_enter Tryz.func171, Tryz.ntmps171
        go_wp2_with (first
          | (go_at_call 59; refine (refNumber_any _ _).mono ?_; rintro e w' ⟨rfl, rfl⟩)
          | (go_at_call 61; refine (refSigned_any _ _).mono ?_; rintro e w' ⟨rfl, rfl⟩)
          | (go_at_call 64; refine (refSize_any _ _).mono ?_; rintro e w' ⟨rfl, rfl⟩)
          | (go_at_call 200; refine (HB.out _).mono ?_; rintro e w' ⟨rfl, rfl⟩))
        go_ret
        exact ⟨ret_bool (by rw [HM.out]; simp [upK, hs]), 0, rfl⟩
      | false =>
        go_enter Tryz.func171, Tryz.ntmps171
        go_wp2_with (first
          | (go_at_call 59; refine (refNumber_any _ _).mono ?_; rintro e w' ⟨rfl, rfl⟩)
          | (go_at_call 61; refine (refSigned_any _ _).mono ?_; rintro e w' ⟨rfl, rfl⟩)
          | (go_at_call 62; refine (refKLow_any _ _ hn _).mono ?_; rintro e w1 ⟨rfl, m, rfl⟩))
        go_ret
        refine ⟨ret_bool ?_, m, rfl⟩
        simp [upK, hs]
/-- a datum as a value -/
def datV (d : DatV) : Value := .agg #[.int .i64 d.kind, .bool d.neg, .int .u64 d.num, .string d.text]
theorem drewN_below {B : Nat} {w w1 : World} (h : Below B w w1) : ∀ m, Below B w (w1.drewN m)
  | 0 => h
  | m + 1 => (drewN_below h m).drew
end Go.Proofs.YtcojomkpogikiaaGreatDoor.Pa
