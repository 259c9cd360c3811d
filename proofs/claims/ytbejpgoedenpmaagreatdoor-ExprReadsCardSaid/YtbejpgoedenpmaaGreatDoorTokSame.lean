/- The reference's Same, where two lists are the same. -/
import Derived.Test.YtbejpgoedenpmaaGreatDoorTokToks
import Derived.Test.YtbejpgoedenpmaaGreatDoorRegionDeep
import Derived.Deep.DeepCutAuto
import Derived.Laws.StructEq
namespace Go.Proofs.YtbejpgoedenpmaaGreatDoor
open Go.RowKit
set_option linter.unusedVariables false
set_option maxRecDepth 100000 in
theorem tok_eq (x : TkV) (w : World) : (binOp .neq 51 (.agg #[.int .i64 x.k, .string x.t, .int .u64 x.n, .int .i64 x.a]) (.agg #[.int .i64 x.k, .string x.t, .int .u64 x.n, .int .i64 x.a])).run Tryz.prog w = .ok (.bool false) w := by
  have hu := Tryz.underlying51
  have hi := Tryz.underlying3
  have hn := Tryz.underlying49
  have hs := Tryz.underlying9
  have p0 := fun w => run_equalIn_int (P := Tryz.prog) w 9998 3 .i64 .i64 x.k x.k hi
  have p1 := fun w => run_equalIn_string (P := Tryz.prog) w 9998 9 x.t x.t hs
  have p2 := fun w => run_equalIn_int (P := Tryz.prog) w 9998 49 .u64 .u64 x.n x.n hn
  have p3 := fun w => run_equalIn_int (P := Tryz.prog) w 9998 3 .i64 .i64 x.a x.a hi
  rw [run_neq_struct, run_equalIn_agg _ 9999 _ _ _ (by kernel_rfl) (by kernel_rfl)]
  simp only [Program.fieldsOf, hu]
  simp [Op.eqFields, go_sem, p0, p1, p2, p3]
theorem lt_of_cellT {w : World} {b o : Nat} {v : Value} (h : w.cell? ⟨b, o, none⟩ = some v) : b < w.heap.size := World.block_lt_of_cell? w _ h
def sameTk (p : Bool) (x y : TkV) : Prop := x.k = y.k ∧ x.t = y.t ∧ x.n = y.n ∧ (p = true → x.a = y.a)
end Go.Proofs.YtbejpgoedenpmaaGreatDoor
