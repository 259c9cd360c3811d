/- Contract of chapter 6's reference: Check. -/
import Derived.Test.YtblnhoagdnnjdaaTypesOne
import Derived.Test.YtblnhoagdnnjdaaTypesCheck2
namespace Go.Proofs.Ytblnhoagdnnjdaa
open Go.RowKit
set_option linter.unusedVariables false
end Go.Proofs.Ytblnhoagdnnjdaa
