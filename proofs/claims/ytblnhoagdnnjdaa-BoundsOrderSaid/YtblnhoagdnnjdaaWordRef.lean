/- Contracts of the reference's numbers with a sign: Sized, half, Low, Sign, Bits. -/
import Derived.Test.YtblnhoagdnnjdaaWordBits
import Derived.LoopN
import Derived.Handy
import Derived.OpenShut
namespace Go.Proofs.Ytblnhoagdnnjdaa
open Go.RowKit
end Go.Proofs.Ytblnhoagdnnjdaa
