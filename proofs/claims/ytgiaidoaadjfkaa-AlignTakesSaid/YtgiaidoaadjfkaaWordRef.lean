/- Contracts of the reference's numbers with a sign: Sized, half, Low, Sign, Bits. -/
import Derived.Test.YtgiaidoaadjfkaaWordBits
import Derived.LoopN
import Derived.Handy
import Derived.OpenShut
namespace Go.Proofs.Ytgiaidoaadjfkaa
open Go.RowKit
theorem refSized_any (z : Int) (w : World) : Calls Try.prog 31 #[.int .i64 z] w fun e w' => e = .returned (.bool (isSz z)) ∧ w = w' := by
  go_enter Try.func31, Try.ntmps31
  go_wp2
  all_goals
    go_ret
    exact ⟨ret_bool (by simp [isSz, *]), rfl⟩
end Go.Proofs.Ytgiaidoaadjfkaa
