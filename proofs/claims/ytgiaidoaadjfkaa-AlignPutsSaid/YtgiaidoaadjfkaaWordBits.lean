/- Contracts of word.Bits and word.Wide. -/
import Derived.Test.YtgiaidoaadjfkaaWordWalk
import Derived.Test.YtgiaidoaadjfkaaWordRefMath
namespace Go.Proofs.Ytgiaidoaadjfkaa
open Go.RowKit
theorem ret_ui {k l : IntKind} {a b c d : Int} (h : a = b) (h' : c = d) : Ending.returned (.tuple #[.int k a, .int l c]) = .returned (.tuple #[.int k b, .int l d]) := by rw [h, h']
end Go.Proofs.Ytgiaidoaadjfkaa
