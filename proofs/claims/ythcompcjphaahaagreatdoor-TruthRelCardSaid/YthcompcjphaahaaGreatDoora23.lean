/- Chapter 9 in plain words: what is wrong first with a value of a type. -/
import Derived.Lib.Bytealg
import Derived.Lib.IndexLaws
import Derived.Laws.Externs
import Derived.Test.YthcompcjphaahaaGreatDoora19
import Derived.Test.YthcompcjphaahaaGreatDoora22
namespace Go.Proofs.YthcompcjphaahaaGreatDoor.Pa
open Go.RowKit
set_option linter.unusedVariables false
end Go.Proofs.YthcompcjphaahaaGreatDoor.Pa
namespace Go.Proofs.YthcompcjphaahaaGreatDoor.Pa
open Go.RowKit
set_option linter.unusedVariables false
theorem fault_zero9 (E A:Int) (w:World):(binOp .eql 54 (.agg #[.int .i64 E,.int .i64 A]) (.agg #[.int .i64 0,.int .i64 0])).run Tryz.prog w=.ok (.bool ((E==0)&&(A==0))) w:=fault_eql E A 0 0 w
end Go.Proofs.YthcompcjphaahaaGreatDoor.Pa
namespace Go.Proofs.YthcompcjphaahaaGreatDoor.Pa
open Go.RowKit
set_option linter.unusedVariables false
end Go.Proofs.YthcompcjphaahaaGreatDoor.Pa
namespace Go.Proofs.YthcompcjphaahaaGreatDoor.Pa
open Go.RowKit
set_option linter.unusedVariables false
end Go.Proofs.YthcompcjphaahaaGreatDoor.Pa
namespace Go.Proofs.YthcompcjphaahaaGreatDoor.Pa
open Go.RowKit
set_option linter.unusedVariables false
end Go.Proofs.YthcompcjphaahaaGreatDoor.Pa
namespace Go.Proofs.YthcompcjphaahaaGreatDoor.Pa
open Go.ChangeShapes Go.WideShapes Go.ChangeAt Go.RowKit
set_option linter.unusedVariables false
end Go.Proofs.YthcompcjphaahaaGreatDoor.Pa
