/- Contract of chapter 6's reference: Check. -/
import Derived.Test.YtohphejhlgnciaaTypesOne
import Derived.Test.YtohphejhlgnciaaTypesCheck2
namespace Go.Proofs.Ytohphejhlgnciaa
open Go.RowKit
set_option linter.unusedVariables false
end Go.Proofs.Ytohphejhlgnciaa
