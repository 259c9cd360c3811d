/- The reference's num, and when two lists of tokens are the same. -/
import Derived.Test.YtjgdkiikkgdbaaaGreatDoorQ17
import Derived.Test.YtjgdkiikkgdbaaaGreatDoorQ31
namespace Go.Proofs.YtjgdkiikkgdbaaaGreatDoor
open Go.RowKit
set_option linter.unusedVariables false
theorem str_gtr (t : TypeId) (a b : ByteArray) : binOp .gtr t (.string a) (.string b) = pure (.bool !(Op.bytesLess a.toList b.toList || a.toList == b.toList)) := by simp [binOp, Op.stringOp]
end Go.Proofs.YtjgdkiikkgdbaaaGreatDoor
