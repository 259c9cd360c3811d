/- Contracts of package word's small functions. -/
import Derived.Test.YtcojomkpogikiaaGreatDoorQ12
namespace Go.Proofs.YtcojomkpogikiaaGreatDoor.Pa
open Go.RowKit
end Go.Proofs.YtcojomkpogikiaaGreatDoor.Pa
namespace Go.Proofs.YtcojomkpogikiaaGreatDoor.Pa
open Go.RowKit
end Go.Proofs.YtcojomkpogikiaaGreatDoor.Pa
namespace Go.Proofs.YtcojomkpogikiaaGreatDoor.Pa
open Go.RowKit
theorem refSign_no (n z : Int) (hz : isSz z = false) (w : World) : Calls Tryz.prog 63 #[.int .u64 n, .int .i64 z] w fun e w' => e = .returned (.int .i64 (signZ n z)) ∧ ∃ m, w' = w.drewN m := by
  rw [signZ_no hz]
  go_enter Tryz.func63, Tryz.ntmps63
  go_wp2_with (go_at_call 100; refine (refSized_any _ _).mono ?_; rintro e w' ⟨rfl, rfl⟩)
  go_ret
  exact ⟨rfl, 0, rfl⟩
theorem refSign_any (n z : Int) (hn : (Lit.int .u64 n).wf = true) (w : World) : Calls Tryz.prog 63 #[.int .u64 n, .int .i64 z] w fun e w' => e = .returned (.int .i64 (signZ n z)) ∧ ∃ m, w' = w.drewN m := by
  cases hz : isSz z with
  | false => exact refSign_no n z hz w
  | true =>
    rcases isSz_cases hz with rfl | rfl | rfl | rfl
    · exact refSign_1 n hn w
    · exact refSign_2 n hn w
    · exact refSign_4 n hn w
    · exact refSign_8 n hn w
end Go.Proofs.YtcojomkpogikiaaGreatDoor.Pa
