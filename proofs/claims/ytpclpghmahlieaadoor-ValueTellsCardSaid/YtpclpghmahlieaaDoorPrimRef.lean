/- Contracts of chapter 5's reference. -/
import Derived.Test.YtpclpghmahlieaaDoorPrimMath
import Derived.Test.YtpclpghmahlieaaDoorWordRef
import Derived.Test.YtpclpghmahlieaaDoorOwn
import Derived.LoopTactic
import Derived.BigQuiet
import Derived.Handy
namespace Go.Proofs.YtpclpghmahlieaaDoor
open Go.RowKit
set_option linter.unusedVariables false
theorem refNumber_any (k : Int) (w : World) : Calls Tryd.prog 21 #[.int .i64 k] w fun e w' => e = .returned (.bool (numK k)) ∧ w = w' := by
  go_enter Tryd.func21, Tryd.ntmps21
  go_wp2
  all_goals
    go_ret
    refine ⟨ret_bool ?_, rfl⟩
    rw [Bool.eq_iff_iff]; simp [numK]; try omega
theorem refSize_any (k : Int) (w : World) : Calls Tryd.prog 36 #[.int .i64 k] w fun e w' => e = .returned (.int .i64 (szK k)) ∧ w = w' := by
  go_enter Tryd.func36, Tryd.ntmps36
  go_wp2
  all_goals
    go_ret
    refine ⟨ret_int ?_, rfl⟩
    simp_all [szK]
theorem refSigned_any (k : Int) (w : World) : Calls Tryd.prog 33 #[.int .i64 k] w fun e w' => e = .returned (.bool (sgK k)) ∧ w = w' := by
  go_enter Tryd.func33, Tryd.ntmps33
  go_wp2
  all_goals
    go_ret
    refine ⟨ret_bool ?_, rfl⟩
    rw [Bool.eq_iff_iff]; simp [sgK, *]
def threeZ (a b : Bool) : Int := if a then -1 else if b then 1 else 0
theorem refLow_sz (n z : Int) (hn : (Lit.int .u64 n).wf = true) (hz : isSz z = true) (w : World) : Calls Tryd.prog 47 #[.int .u64 n, .int .i64 z] w fun e w' => e = .returned (.int .u64 (lowZ n z)) ∧ ∃ m, w' = w.drewN m := by
  rcases isSz_cases hz with rfl | rfl | rfl | rfl
  · exact refLow_1 n hn w
  · exact refLow_2 n hn w
  · exact refLow_4 n hn w
  · exact refLow_8 n hn w
theorem refKLow_any (k n : Int) (hn : (Lit.int .u64 n).wf = true) (w : World) : Calls Tryd.prog 34 #[.int .i64 k, .int .u64 n] w fun e w' => e = .returned (.int .u64 (lowK k n)) ∧ ∃ m, w' = w.drewN m := by
  unfold lowK
  cases hk : numK k with
  | false =>
    go_enter Tryd.func34, Tryd.ntmps34
    go_wp2_with (go_at_call 21; refine (refNumber_any _ _).mono ?_; rintro e w' ⟨rfl, rfl⟩)
    go_ret
    exact ⟨rfl, 0, rfl⟩
  | true =>
    have HL := Lib.hid (fun w => refLow_sz n (szK k) hn (szK_sz hk) w)
    go_enter Tryd.func34, Tryd.ntmps34
    go_wp2_with (first
      | (go_at_call 21; refine (refNumber_any _ _).mono ?_; rintro e w' ⟨rfl, rfl⟩)
      | (go_at_call 36; refine (refSize_any _ _).mono ?_; rintro e w' ⟨rfl, rfl⟩)
      | (go_at_call 47; refine (HL.out _).mono ?_; rintro e w1 ⟨rfl, m, rfl⟩))
    go_ret
    exact ⟨rfl, m, rfl⟩
/-- a datum as a value -/
def datV (d : DatV) : Value := .agg #[.int .i64 d.kind, .bool d.neg, .int .u64 d.num, .string d.text]
theorem ret_ui' {k l : IntKind} {a b c d : Int} (h : a = b) (h' : c = d) : Ending.returned (.tuple #[.int k a, .int l c]) = .returned (.tuple #[.int k b, .int l d]) := by rw [h, h']
theorem ret_dat {a c c' : Int} {b : Bool} {s t : ByteArray} (h : a = a) (hc : c = c') (hs : s = t) : Ending.returned (.agg #[.int .i64 a, .bool b, .int .u64 c, .string s]) = .returned (datV ⟨a, b, c', t⟩) := by rw [hc, hs]; rfl
theorem drewN_below {B : Nat} {w w1 : World} (h : Below B w w1) : ∀ m, Below B w (w1.drewN m)
  | 0 => h
  | m + 1 => (drewN_below h m).drew
theorem refDatum_any (k n : Int) (hn : (Lit.int .u64 n).wf = true) (w : World) : Calls Tryd.prog 22 #[.int .i64 k, .int .u64 n] w fun e w' => e = .returned (datV (datK k n)) ∧ Below w.heap.size w w' := by
  have hb := bounds_u64 hn
  cases hk : numK k with
  | false =>
    rw [datK_no hk]
    go_enter Tryd.func22, Tryd.ntmps22
    go_wp2_with (go_at_call 21; refine (refNumber_any _ _).mono ?_; rintro e w' ⟨rfl, rfl⟩)
    go_returns
    exact ⟨rfl, by go_grown⟩
  | true =>
    by_cases h1 : k = 1
    · subst h1
      rw [datK_bool]
      go_enter Tryd.func22, Tryd.ntmps22
      go_wp2_with (go_at_call 21; refine (refNumber_any _ _).mono ?_; rintro e w' ⟨rfl, rfl⟩)
      go_returns
      exact ⟨rfl, by go_grown⟩
    · cases hs : sgK k with
      | false =>
        rw [datK_low hk h1 hs]
        go_enter Tryd.func22, Tryd.ntmps22
        go_wp2_with (first
          | (go_at_call 21; refine (refNumber_any _ _).mono ?_; rintro e w' ⟨rfl, rfl⟩)
          | (go_at_call 33; refine (refSigned_any _ _).mono ?_; rintro e w' ⟨rfl, rfl⟩)
          | (go_at_call 34; refine (refKLow_any _ _ hn _).mono ?_; rintro e w1 ⟨rfl, m, rfl⟩))
        go_returns
        exact ⟨rfl, (by go_grown; all_goals exact drewN_below ((Below.refl _ _).alloc (Nat.le_refl _) _) _)⟩
      | true =>
        have hr := signZ_range n (szK k)
        have HL := Lib.hid (fun w => refSign_any n (szK k) hn w)
        by_cases hneg : signZ n (szK k) < 0
        · rw [datK_neg hs hneg]
          go_enter Tryd.func22, Tryd.ntmps22
          go_wp2_with (first
            | (go_at_call 21; refine (refNumber_any _ _).mono ?_; rintro e w' ⟨rfl, rfl⟩)
            | (go_at_call 33; refine (refSigned_any _ _).mono ?_; rintro e w' ⟨rfl, rfl⟩)
            | (go_at_call 36; refine (refSize_any _ _).mono ?_; rintro e w' ⟨rfl, rfl⟩)
            | (go_at_call 35; refine (HL.out _).mono ?_; rintro e w1 ⟨rfl, m, rfl⟩))
          go_returns
          exact ⟨ret_dat rfl (by omega) rfl, (by go_grown; all_goals exact drewN_below ((Below.refl _ _).alloc (Nat.le_refl _) _) _)⟩
        · rw [datK_pos hs hneg]
          go_enter Tryd.func22, Tryd.ntmps22
          go_wp2_with (first
            | (go_at_call 21; refine (refNumber_any _ _).mono ?_; rintro e w' ⟨rfl, rfl⟩)
            | (go_at_call 33; refine (refSigned_any _ _).mono ?_; rintro e w' ⟨rfl, rfl⟩)
            | (go_at_call 36; refine (refSize_any _ _).mono ?_; rintro e w' ⟨rfl, rfl⟩)
            | (go_at_call 35; refine (HL.out _).mono ?_; rintro e w1 ⟨rfl, m, rfl⟩))
          go_returns
          exact ⟨rfl, (by go_grown; all_goals exact drewN_below ((Below.refl _ _).alloc (Nat.le_refl _) _) _)⟩
end Go.Proofs.YtpclpghmahlieaaDoor
