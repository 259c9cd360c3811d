/- Contracts of align's place (skip, pass), and of a buffer's methods: what a buffer is in memory. -/
import Derived.Test.YtficmdomnilhnaaGreatAlignGap
import Derived.Test.YtficmdomnilhnaaGreatWordPut
import Derived.OneCell
import Derived.Lib.AppendStr
import Derived.Lib.UnsafeStr
import Derived.ProofKit
import Derived.Lib.Hide
namespace Go.Proofs.YtficmdomnilhnaaGreat
open Go.RowKit
theorem skip_any (b : Nat) (a z : Int) (w : World) (hc : w.cell? ⟨b, 0, none⟩ = some (.int .i64 a)) (hf : w.frozen? ⟨b, 0, none⟩ = false) (h0 : 0 ≤ a) (h1 : a ≤ 9223372036854775000) :
    Calls Tryz.prog 141 #[.pointer (some ⟨b, 0, none⟩), .int .i64 z] w fun e w' => e = .returned (.int .i64 (gapZ a z)) ∧ w' = w.setCell ⟨b, 0, none⟩ (.int .i64 (a + gapZ a z)) := by
  have hr := gapZ_rng a z
  obtain ⟨hr0, hr1⟩ := hr
  go_enter Tryz.func141, Tryz.ntmps141
  go_wp2_with (go_at_call 110; refine (gap_any _ _ (WalkArith.wf_i64 (by omega)) _).mono ?_; rintro e w' ⟨rfl, rfl⟩)
  go_ret
  exact ⟨rfl, rfl⟩
theorem skip_nat (b g : Nat) (a z : Int) (hg : gapZ a z = (g : Nat)) (w : World) (hc : w.cell? ⟨b, 0, none⟩ = some (.int .i64 a)) (hf : w.frozen? ⟨b, 0, none⟩ = false) (h0 : 0 ≤ a) (h1 : a ≤ 9223372036854775000) :
    Calls Tryz.prog 141 #[.pointer (some ⟨b, 0, none⟩), .int .i64 z] w fun e w' => e = .returned (.int .i64 (g : Nat)) ∧ w' = w.setCell ⟨b, 0, none⟩ (.int .i64 (a + (g : Nat))) := by
  rw [← hg]; exact skip_any b a z w hc hf h0 h1
theorem pass_any (b : Nat) (a n : Int) (w : World) (hc : w.cell? ⟨b, 0, none⟩ = some (.int .i64 a)) (hf : w.frozen? ⟨b, 0, none⟩ = false) :
    Calls Tryz.prog 143 #[.pointer (some ⟨b, 0, none⟩), .int .i64 n] w fun e w' => e = .returned (.tuple #[]) ∧ w' = w.setCell ⟨b, 0, none⟩ (.int .i64 (wrap64 (a + n))) := by
  go_enter Tryz.func143, Tryz.ntmps143
  go_wp2
  go_returns
  exact ⟨rfl, rfl⟩
theorem pass_in (b : Nat) (a n : Int) (w : World) (hc : w.cell? ⟨b, 0, none⟩ = some (.int .i64 a)) (hf : w.frozen? ⟨b, 0, none⟩ = false) (h0 : 0 ≤ a) (h1 : 0 ≤ n) (h2 : a + n ≤ 9223372036854775807) :
    Calls Tryz.prog 143 #[.pointer (some ⟨b, 0, none⟩), .int .i64 n] w fun e w' => e = .returned (.tuple #[]) ∧ w' = w.setCell ⟨b, 0, none⟩ (.int .i64 (a + n)) := by
  refine (pass_any b a n w hc hf).mono ?_
  rintro e w' ⟨rfl, rfl⟩
  rw [IntWalk.wrap64_in _ (by omega)]
  exact ⟨rfl, rfl⟩
end Go.Proofs.YtficmdomnilhnaaGreat
