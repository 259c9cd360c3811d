/- What Tokens answers, bad or good, in one form. -/
import Derived.Test.YtjgdkiikkgdbaaaGreatDoorQ08
namespace Go.Proofs.YtjgdkiikkgdbaaaGreatDoor
open Go.RowKit
set_option linter.unusedVariables false
set_option maxRecDepth 100000 in
theorem flt_eq (E A : Int) (w : World) : (binOp .eql 38 (.agg #[.int .i64 E, .int .i64 A]) (.agg #[.int .i64 E, .int .i64 A])).run Tryz.prog w = .ok (.bool true) w := by
  have hu := Tryz.underlying38
  have he := Tryz.underlying28
  have hi := Tryz.underlying3
  have p0 := fun w => run_equalIn_int (P := Tryz.prog) w 9998 28 .i64 .i64 E E he
  have p1 := fun w => run_equalIn_int (P := Tryz.prog) w 9998 3 .i64 .i64 A A hi
  rw [run_eql_struct, run_equalIn_agg _ 9999 _ _ _ (by kernel_rfl) (by kernel_rfl)]
  simp only [Program.fieldsOf, hu]
  simp [Op.eqFields, go_sem, p0, p1]
end Go.Proofs.YtjgdkiikkgdbaaaGreatDoor
