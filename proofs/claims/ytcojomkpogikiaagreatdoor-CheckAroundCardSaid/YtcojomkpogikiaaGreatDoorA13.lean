/- Contracts of chapter 5's reference. -/
import Derived.LoopTactic
import Derived.Test.YtcojomkpogikiaaGreatDoorA03
import Derived.Test.YtcojomkpogikiaaGreatDoorA12
namespace Go.Proofs.YtcojomkpogikiaaGreatDoor.Pa
open Go.RowKit
set_option linter.unusedVariables false
/-- a datum as a value -/
def datV (d : DatV) : Value := .agg #[.int .i64 d.kind, .bool d.neg, .int .u64 d.num, .string d.text]
theorem drewN_below {B : Nat} {w w1 : World} (h : Below B w w1) : ∀ m, Below B w (w1.drewN m)
  | 0 => h
  | m + 1 => (drewN_below h m).drew
end Go.Proofs.YtcojomkpogikiaaGreatDoor.Pa
