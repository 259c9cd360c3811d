/- Contracts of the reference's numbers with a sign: Sized, half, Low, Sign, Bits. -/
import Derived.Test.YtohphejhlgnciaaWordBits
import Derived.LoopN
import Derived.Handy
import Derived.OpenShut
namespace Go.Proofs.Ytohphejhlgnciaa
open Go.RowKit
end Go.Proofs.Ytohphejhlgnciaa
