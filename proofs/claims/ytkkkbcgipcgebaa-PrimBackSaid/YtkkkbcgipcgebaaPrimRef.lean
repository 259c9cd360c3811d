/- Contracts of chapter 5's reference. -/
import Derived.Test.YtkkkbcgipcgebaaPrimMath
import Derived.Test.YtkkkbcgipcgebaaWordRef
import Derived.Test.YtkkkbcgipcgebaaOwn
import Derived.LoopTactic
import Derived.BigQuiet
import Derived.Handy
namespace Go.Proofs.Ytkkkbcgipcgebaa
open Go.RowKit
set_option linter.unusedVariables false
theorem refNumber_any (k : Int) (w : World) : Calls Try.prog 8 #[.int .i64 k] w fun e w' => e = .returned (.bool (numK k)) ∧ w = w' := by
  go_enter Try.func8, Try.ntmps8
  go_wp2
  all_goals
    go_ret
    refine ⟨ret_bool ?_, rfl⟩
    rw [Bool.eq_iff_iff]; simp [numK]; try omega
theorem refSize_any (k : Int) (w : World) : Calls Try.prog 10 #[.int .i64 k] w fun e w' => e = .returned (.int .i64 (szK k)) ∧ w = w' := by
  go_enter Try.func10, Try.ntmps10
  go_wp2
  all_goals
    go_ret
    refine ⟨ret_int ?_, rfl⟩
    simp_all [szK]
theorem refSigned_any (k : Int) (w : World) : Calls Try.prog 12 #[.int .i64 k] w fun e w' => e = .returned (.bool (sgK k)) ∧ w = w' := by
  go_enter Try.func12, Try.ntmps12
  go_wp2
  all_goals
    go_ret
    refine ⟨ret_bool ?_, rfl⟩
    rw [Bool.eq_iff_iff]; simp [sgK, *]
def threeZ (a b : Bool) : Int := if a then -1 else if b then 1 else 0
theorem refThree_any (a b : Bool) (w : World) : Calls Try.prog 39 #[.bool a, .bool b] w fun e w' => e = .returned (.int .i64 (threeZ a b)) ∧ w = w' := by
  go_enter Try.func39, Try.ntmps39
  go_wp2
  all_goals
    go_ret
    refine ⟨ret_int ?_, rfl⟩
    simp_all [threeZ]
theorem refLow_sz (n z : Int) (hn : (Lit.int .u64 n).wf = true) (hz : isSz z = true) (w : World) : Calls Try.prog 30 #[.int .u64 n, .int .i64 z] w fun e w' => e = .returned (.int .u64 (lowZ n z)) ∧ ∃ m, w' = w.drewN m := by
  rcases isSz_cases hz with rfl | rfl | rfl | rfl
  · exact refLow_1 n hn w
  · exact refLow_2 n hn w
  · exact refLow_4 n hn w
  · exact refLow_8 n hn w
theorem refKLow_any (k n : Int) (hn : (Lit.int .u64 n).wf = true) (w : World) : Calls Try.prog 16 #[.int .i64 k, .int .u64 n] w fun e w' => e = .returned (.int .u64 (lowK k n)) ∧ ∃ m, w' = w.drewN m := by
  unfold lowK
  cases hk : numK k with
  | false =>
    go_enter Try.func16, Try.ntmps16
    go_wp2_with (go_at_call 8; refine (refNumber_any _ _).mono ?_; rintro e w' ⟨rfl, rfl⟩)
    go_ret
    exact ⟨rfl, 0, rfl⟩
  | true =>
    have HL := Lib.hid (fun w => refLow_sz n (szK k) hn (szK_sz hk) w)
    go_enter Try.func16, Try.ntmps16
    go_wp2_with (first
      | (go_at_call 8; refine (refNumber_any _ _).mono ?_; rintro e w' ⟨rfl, rfl⟩)
      | (go_at_call 10; refine (refSize_any _ _).mono ?_; rintro e w' ⟨rfl, rfl⟩)
      | (go_at_call 30; refine (HL.out _).mono ?_; rintro e w1 ⟨rfl, m, rfl⟩))
    go_ret
    exact ⟨rfl, m, rfl⟩
theorem refKUp_any (k n : Int) (hn : (Lit.int .u64 n).wf = true) (w : World) : Calls Try.prog 18 #[.int .i64 k, .int .u64 n] w fun e w' => e = .returned (.int .u64 (upK k n)) ∧ ∃ m, w' = w.drewN m := by
  unfold upK
  cases hk : sgK k with
  | false =>
    go_enter Try.func18, Try.ntmps18
    go_wp2_with (first
      | (go_at_call 12; refine (refSigned_any _ _).mono ?_; rintro e w' ⟨rfl, rfl⟩)
      | (go_at_call 16; refine (refKLow_any _ _ hn _).mono ?_; rintro e w1 ⟨rfl, m, rfl⟩))
    go_ret
    exact ⟨rfl, m, rfl⟩
  | true =>
    have HL := Lib.hid (fun w => refSign_any n (szK k) hn w)
    go_enter Try.func18, Try.ntmps18
    go_wp2_with (first
      | (go_at_call 12; refine (refSigned_any _ _).mono ?_; rintro e w' ⟨rfl, rfl⟩)
      | (go_at_call 10; refine (refSize_any _ _).mono ?_; rintro e w' ⟨rfl, rfl⟩)
      | (go_at_call 32; refine (HL.out _).mono ?_; rintro e w1 ⟨rfl, m, rfl⟩))
    go_ret
    exact ⟨rfl, m, rfl⟩
theorem refKMay_any (k n : Int) (hn : (Lit.int .u64 n).wf = true) (w : World) : Calls Try.prog 14 #[.int .i64 k, .int .u64 n] w fun e w' => e = .returned (.bool (mayK k n)) ∧ ∃ m, w' = w.drewN m := by
  unfold mayK
  by_cases h1 : k = 1
  · subst h1
    go_enter Try.func14, Try.ntmps14
    go_wp2
    go_ret
    exact ⟨rfl, 0, rfl⟩
  · rw [if_neg h1]
    cases hk : numK k with
    | false =>
      go_enter Try.func14, Try.ntmps14
      go_wp2_with (go_at_call 8; refine (refNumber_any _ _).mono ?_; rintro e w' ⟨rfl, rfl⟩)
      go_ret
      exact ⟨rfl, 0, rfl⟩
    | true =>
      have hb := bounds_u64 hn
      have HM := Lib.hid (bits_may n (szK k) hb.1 (by omega) (szK_sz hk))
      have HB := Lib.hid (fun w => refBits_any (wrap64 n) (szK k) (wrap64_wf n) w)
      clear hb
      cases hs : sgK k with
      | true =>
        go_enter Try.func14, Try.ntmps14
        go_wp2_with (first
          | (go_at_call 8; refine (refNumber_any _ _).mono ?_; rintro e w' ⟨rfl, rfl⟩)
          | (go_at_call 12; refine (refSigned_any _ _).mono ?_; rintro e w' ⟨rfl, rfl⟩)
          | (go_at_call 10; refine (refSize_any _ _).mono ?_; rintro e w' ⟨rfl, rfl⟩)
          | (go_at_call 27; refine (HB.out _).mono ?_; rintro e w' ⟨rfl, rfl⟩))
        go_ret
        exact ⟨ret_bool (by rw [HM.out]; simp [upK, hs]), 0, rfl⟩
      | false =>
        go_enter Try.func14, Try.ntmps14
        go_wp2_with (first
          | (go_at_call 8; refine (refNumber_any _ _).mono ?_; rintro e w' ⟨rfl, rfl⟩)
          | (go_at_call 12; refine (refSigned_any _ _).mono ?_; rintro e w' ⟨rfl, rfl⟩)
          | (go_at_call 16; refine (refKLow_any _ _ hn _).mono ?_; rintro e w1 ⟨rfl, m, rfl⟩))
        go_ret
        refine ⟨ret_bool ?_, m, rfl⟩
        simp [upK, hs]
/-- a datum as a value -/
def datV (d : DatV) : Value := .agg #[.int .i64 d.kind, .bool d.neg, .int .u64 d.num, .string d.text]
theorem ret_ui' {k l : IntKind} {a b c d : Int} (h : a = b) (h' : c = d) : Ending.returned (.tuple #[.int k a, .int l c]) = .returned (.tuple #[.int k b, .int l d]) := by rw [h, h']
theorem ret_dat {a c c' : Int} {b : Bool} {s t : ByteArray} (h : a = a) (hc : c = c') (hs : s = t) : Ending.returned (.agg #[.int .i64 a, .bool b, .int .u64 c, .string s]) = .returned (datV ⟨a, b, c', t⟩) := by rw [hc, hs]; rfl
theorem drewN_below {B : Nat} {w w1 : World} (h : Below B w w1) : ∀ m, Below B w (w1.drewN m)
  | 0 => h
  | m + 1 => (drewN_below h m).drew
theorem refDatum_any (k n : Int) (hn : (Lit.int .u64 n).wf = true) (w : World) : Calls Try.prog 23 #[.int .i64 k, .int .u64 n] w fun e w' => e = .returned (datV (datK k n)) ∧ Below w.heap.size w w' := by
  have hb := bounds_u64 hn
  cases hk : numK k with
  | false =>
    rw [datK_no hk]
    go_enter Try.func23, Try.ntmps23
    go_wp2_with (go_at_call 8; refine (refNumber_any _ _).mono ?_; rintro e w' ⟨rfl, rfl⟩)
    go_returns
    exact ⟨rfl, by go_grown⟩
  | true =>
    by_cases h1 : k = 1
    · subst h1
      rw [datK_bool]
      go_enter Try.func23, Try.ntmps23
      go_wp2_with (go_at_call 8; refine (refNumber_any _ _).mono ?_; rintro e w' ⟨rfl, rfl⟩)
      go_returns
      exact ⟨rfl, by go_grown⟩
    · cases hs : sgK k with
      | false =>
        rw [datK_low hk h1 hs]
        go_enter Try.func23, Try.ntmps23
        go_wp2_with (first
          | (go_at_call 8; refine (refNumber_any _ _).mono ?_; rintro e w' ⟨rfl, rfl⟩)
          | (go_at_call 12; refine (refSigned_any _ _).mono ?_; rintro e w' ⟨rfl, rfl⟩)
          | (go_at_call 16; refine (refKLow_any _ _ hn _).mono ?_; rintro e w1 ⟨rfl, m, rfl⟩))
        go_returns
        exact ⟨rfl, (by go_grown; all_goals exact drewN_below ((Below.refl _ _).alloc (Nat.le_refl _) _) _)⟩
      | true =>
        have hr := signZ_range n (szK k)
        have HL := Lib.hid (fun w => refSign_any n (szK k) hn w)
        by_cases hneg : signZ n (szK k) < 0
        · rw [datK_neg hs hneg]
          go_enter Try.func23, Try.ntmps23
          go_wp2_with (first
            | (go_at_call 8; refine (refNumber_any _ _).mono ?_; rintro e w' ⟨rfl, rfl⟩)
            | (go_at_call 12; refine (refSigned_any _ _).mono ?_; rintro e w' ⟨rfl, rfl⟩)
            | (go_at_call 10; refine (refSize_any _ _).mono ?_; rintro e w' ⟨rfl, rfl⟩)
            | (go_at_call 32; refine (HL.out _).mono ?_; rintro e w1 ⟨rfl, m, rfl⟩))
          go_returns
          exact ⟨ret_dat rfl (by omega) rfl, (by go_grown; all_goals exact drewN_below ((Below.refl _ _).alloc (Nat.le_refl _) _) _)⟩
        · rw [datK_pos hs hneg]
          go_enter Try.func23, Try.ntmps23
          go_wp2_with (first
            | (go_at_call 8; refine (refNumber_any _ _).mono ?_; rintro e w' ⟨rfl, rfl⟩)
            | (go_at_call 12; refine (refSigned_any _ _).mono ?_; rintro e w' ⟨rfl, rfl⟩)
            | (go_at_call 10; refine (refSize_any _ _).mono ?_; rintro e w' ⟨rfl, rfl⟩)
            | (go_at_call 32; refine (HL.out _).mono ?_; rintro e w1 ⟨rfl, m, rfl⟩))
          go_returns
          exact ⟨rfl, (by go_grown; all_goals exact drewN_below ((Below.refl _ _).alloc (Nat.le_refl _) _) _)⟩
theorem refMost_any (k : Int) (hk : numK k = true) (w : World) : Calls Try.prog 34 #[.int .i64 k] w fun e w' => e = .returned (.tuple #[.int .u64 (hiK k), .int .u64 (-loK k)]) ∧ w = w' := by
  by_cases h1 : k = 1
  · subst h1
    go_enter Try.func34, Try.ntmps34
    go_wp2
    go_ret2
    exact ⟨rfl, rfl⟩
  · have hz := szK_sz hk
    obtain ⟨z, hzz⟩ : ∃ z, szK k = z := ⟨_, rfl⟩
    have HZ := Lib.hid hzz
    rw [hzz] at hz
    have hzb := sz_bound hz
    obtain ⟨hz1, hz8⟩ := hzb
    have HP := Lib.hid (@p2_size z hz)
    have HS := Lib.hid (@most_sg k)
    have HU := Lib.hid (@most_un k h1)
    have HE := Lib.hid (pw_even hz)
    have HSize := Lib.hid (fun w => refSize_any k w)
    rw [hzz] at HSize HS HU
    have hm8 : IntKind.i64.wrap (8 * z) = 8 * z := IntWalk.i64_in _ (by omega)
    clear hzz hz
    have h1b : (k == 1) = false := by simpa using h1
    go_enter Try.func34, Try.ntmps34
    go_wp2
    go_loopw [4, 5] (fun p i wr => ∃ q : Nat, (q : Int) + 1 ≤ 8 * z ∧ p = .int .u64 (p2 q) ∧ i = .int .i64 (q + 1) ∧ wr = w) (fun _ i _ => 64 - (intOf i).toNat)
    case atStart => exact ⟨0, by omega, rfl, rfl, rfl⟩
    case round =>
      obtain ⟨q, hq, rfl, rfl, rfl⟩ := hrel
      have hpp := p2_pos q
      have hpl := p2_le q (by omega)
      by_cases hlt : (q : Int) + 1 < 8 * z
      · have hpl2 := p2_le (q + 1) (by omega)
        have hpn := p2_next q
        rw [hpn] at hpl2
        have hw : IntKind.u64.wrap (p2 q * 2) = p2 q * 2 := by rw [IntKind.wrap_u64]; omega
        have hwi : IntKind.i64.wrap ((q : Int) + 1 + 1) = (q : Int) + 1 + 1 := IntWalk.i64_in _ (by omega)
        have HN := Lib.hid hpn
        clear hpn
        go_wp2_with (go_at_call 10; refine (HSize.out _).mono ?_; rintro e w' ⟨rfl, rfl⟩)
        go_roundw
        case rel => exact ⟨q + 1, by omega, by rw [HN.out], by go_num, by first | rfl | trivial⟩
        case measure => simp [intOf]; omega
      · have hp := HP.out q (by omega)
        have hev := HE.out
        cases hs : sgK k with
        | true =>
          obtain ⟨hh, hl⟩ := HS.out hs
          have hw : IntKind.u64.wrap (p2 q - 1) = p2 q - 1 := by rw [IntKind.wrap_u64]; omega
          have HH := Lib.hid hh
          have HL := Lib.hid hl
          have HPP := Lib.hid hp
          clear hh hl hp hev
          go_wp2_with (first
            | (go_at_call 10; refine (HSize.out _).mono ?_; rintro e w' ⟨rfl, rfl⟩)
            | (go_at_call 12; refine (refSigned_any _ _).mono ?_; rintro e w' ⟨rfl, rfl⟩))
          go_ret2
          exact ⟨ret_ui' (by rw [HH.out, HPP.out]) (by rw [HL.out, HPP.out]), by first | rfl | trivial⟩
        | false =>
          obtain ⟨hh, hl⟩ := HU.out hs
          have hw : IntKind.u64.wrap (p2 q - 1) = p2 q - 1 := by rw [IntKind.wrap_u64]; omega
          have hw2 : IntKind.u64.wrap (p2 q - 1 + p2 q) = p2 q - 1 + p2 q := by rw [IntKind.wrap_u64]; omega
          have HH := Lib.hid hh
          have HL := Lib.hid hl
          have HPP := Lib.hid hp
          have HEV := Lib.hid hev.1
          clear hh hl hp hev
          go_wp2_with (first
            | (go_at_call 10; refine (HSize.out _).mono ?_; rintro e w' ⟨rfl, rfl⟩)
            | (go_at_call 12; refine (refSigned_any _ _).mono ?_; rintro e w' ⟨rfl, rfl⟩))
          go_ret2
          exact ⟨ret_ui' (by have := HH.out; have := HPP.out; have := HEV.out; omega) (by rw [HL.out]; rfl), by first | rfl | trivial⟩
end Go.Proofs.Ytkkkbcgipcgebaa
