/- Contracts of word.Bits and word.Wide. -/
import Derived.Test.YtohphejhlgnciaaGreatWordWalk
import Derived.Test.YtohphejhlgnciaaGreatPrimMath
namespace Go.Proofs.YtohphejhlgnciaaGreat
open Go.RowKit
theorem ret_ui {k l : IntKind} {a b c d : Int} (h : a = b) (h' : c = d) : Ending.returned (.tuple #[.int k a, .int l c]) = .returned (.tuple #[.int k b, .int l d]) := by rw [h, h']
theorem bits_any (n z : Int) (w : World) : Calls Tryz.prog 115 #[.int .i64 n, .int .i64 z] w fun e w' => e = .returned (.tuple #[.int .u64 (bitsN n z), .int .i64 (bitsE n z)]) ∧ ∃ m, w' = w.drewN m := by
  cases hz : isSz z with
  | false =>
    rw [bitsN_no hz, bitsE_no hz]
    go_enter Tryz.func115, Tryz.ntmps115
    go_wp2_with (go_at_call 120; refine (isSize_any _ _).mono ?_; rintro e w' ⟨rfl, rfl⟩)
    go_ret2
    exact ⟨rfl, 0, rfl⟩
  | true =>
    cases hr : inR n z with
    | false =>
      rw [bitsN_out hz hr, bitsE_out hz hr]
      have hne : (signZ (IntKind.u64.wrap n) z != n) = true := by
        rw [signZ_u64]; simp; intro h; rw [signZ_eq hz] at h; rw [h] at hr; cases hr
      go_enter Tryz.func115, Tryz.ntmps115
      go_wp2_with (first | (go_at_call 120; refine (isSize_any _ _).mono ?_; rintro e w' ⟨rfl, rfl⟩) | (go_at_call 114; refine (sign_any _ _ _).mono ?_; rintro e w' ⟨rfl, m, rfl⟩))
      go_ret2
      exact ⟨rfl, _, rfl⟩
    | true =>
      have hne : (signZ (IntKind.u64.wrap n) z != n) = false := by
        rw [signZ_u64]; simp; rw [signZ_eq hz]; exact hr
      rw [bitsN_in hz hr, bitsE_in hz hr]
      go_enter Tryz.func115, Tryz.ntmps115
      go_wp2_with (first | (go_at_call 120; refine (isSize_any _ _).mono ?_; rintro e w' ⟨rfl, rfl⟩) | (go_at_call 114; refine (sign_any _ _ _).mono ?_; rintro e w' ⟨rfl, m, rfl⟩) | (go_at_call 122; refine (lowest_any _ _ hz _).mono ?_; rintro e w' ⟨rfl, m, rfl⟩))
      go_ret2
      exact ⟨ret_ui (by unfold lowZ; rw [mod_u64 _ hz]) rfl, _, rfl⟩
theorem wide_any (n z : Int) (w : World) : Calls Tryz.prog 96 #[.int .u64 n, .int .i64 z] w fun e w' => e = .returned (.int .u64 (IntKind.u64.wrap (signZ n z))) ∧ ∃ m, w' = w.drewN m := by
  go_enter Tryz.func96, Tryz.ntmps96
  go_wp2_with (go_at_call 114; refine (sign_any _ _ _).mono ?_; rintro e w' ⟨rfl, m, rfl⟩)
  go_ret
  exact ⟨rfl, _, rfl⟩
end Go.Proofs.YtohphejhlgnciaaGreat
