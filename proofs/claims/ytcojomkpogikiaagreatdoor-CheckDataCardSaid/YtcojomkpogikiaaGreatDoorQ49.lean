/- Contracts of chapter 5's reference. -/
import Derived.Test.YtcojomkpogikiaaGreatDoorQ13
import Derived.Test.YtcojomkpogikiaaGreatDoorQ48
namespace Go.Proofs.YtcojomkpogikiaaGreatDoor.Pa
open Go.RowKit
set_option linter.unusedVariables false
theorem ret_dat {a c c' : Int} {b : Bool} {s t : ByteArray} (h : a = a) (hc : c = c') (hs : s = t) : Ending.returned (.agg #[.int .i64 a, .bool b, .int .u64 c, .string s]) = .returned (datV ⟨a, b, c', t⟩) := by rw [hc, hs]; rfl
theorem refDatum_any (k n : Int) (hn : (Lit.int .u64 n).wf = true) (w : World) : Calls Tryz.prog 32 #[.int .i64 k, .int .u64 n] w fun e w' => e = .returned (datV (datK k n)) ∧ Below w.heap.size w w' := by
  have hb := bounds_u64 hn
  cases hk : numK k with
  | false =>
    rw [datK_no hk]
    go_enter Tryz.func32, Tryz.ntmps32
    go_wp2_with (go_at_call 59; refine (refNumber_any _ _).mono ?_; rintro e w' ⟨rfl, rfl⟩)
    go_returns
    exact ⟨rfl, by go_grown⟩
  | true =>
    by_cases h1 : k = 1
    · subst h1
      rw [datK_bool]
      go_enter Tryz.func32, Tryz.ntmps32
      go_wp2_with (go_at_call 59; refine (refNumber_any _ _).mono ?_; rintro e w' ⟨rfl, rfl⟩)
      go_returns
      exact ⟨rfl, by go_grown⟩
    · cases hs : sgK k with
      | false =>
        rw [datK_low hk h1 hs]
        go_enter Tryz.func32, Tryz.ntmps32
        go_wp2_with (first
          | (go_at_call 59; refine (refNumber_any _ _).mono ?_; rintro e w' ⟨rfl, rfl⟩)
          | (go_at_call 61; refine (refSigned_any _ _).mono ?_; rintro e w' ⟨rfl, rfl⟩)
          | (go_at_call 62; refine (refKLow_any _ _ hn _).mono ?_; rintro e w1 ⟨rfl, m, rfl⟩))
        go_returns
        exact ⟨rfl, (by go_grown; all_goals exact drewN_below ((Below.refl _ _).alloc (Nat.le_refl _) _) _)⟩
      | true =>
        have hr := signZ_range n (szK k)
        have HL := Lib.hid (fun w => refSign_any n (szK k) hn w)
        by_cases hneg : signZ n (szK k) < 0
        · rw [datK_neg hs hneg]
          go_enter Tryz.func32, Tryz.ntmps32
          go_wp2_with (first
            | (go_at_call 59; refine (refNumber_any _ _).mono ?_; rintro e w' ⟨rfl, rfl⟩)
            | (go_at_call 61; refine (refSigned_any _ _).mono ?_; rintro e w' ⟨rfl, rfl⟩)
            | (go_at_call 64; refine (refSize_any _ _).mono ?_; rintro e w' ⟨rfl, rfl⟩)
            | (go_at_call 63; refine (HL.out _).mono ?_; rintro e w1 ⟨rfl, m, rfl⟩))
          go_returns
          exact ⟨ret_dat rfl (by omega) rfl, (by go_grown; all_goals exact drewN_below ((Below.refl _ _).alloc (Nat.le_refl _) _) _)⟩
        · rw [datK_pos hs hneg]
          go_enter Tryz.func32, Tryz.ntmps32
          go_wp2_with (first
            | (go_at_call 59; refine (refNumber_any _ _).mono ?_; rintro e w' ⟨rfl, rfl⟩)
            | (go_at_call 61; refine (refSigned_any _ _).mono ?_; rintro e w' ⟨rfl, rfl⟩)
            | (go_at_call 64; refine (refSize_any _ _).mono ?_; rintro e w' ⟨rfl, rfl⟩)
            | (go_at_call 63; refine (HL.out _).mono ?_; rintro e w1 ⟨rfl, m, rfl⟩))
          go_returns
          exact ⟨rfl, (by go_grown; all_goals exact drewN_below ((Below.refl _ _).alloc (Nat.le_refl _) _) _)⟩
end Go.Proofs.YtcojomkpogikiaaGreatDoor.Pa
