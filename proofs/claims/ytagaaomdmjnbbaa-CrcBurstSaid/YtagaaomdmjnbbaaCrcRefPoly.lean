/- Contract of chapter 3's reference: poly. -/
import Derived.Test.YtagaaomdmjnbbaaCrcRefBits
namespace Go.Proofs.Ytagaaomdmjnbbaa
open Go.RowKit
set_option linter.unusedVariables false
theorem mk33 (w : World) : (Instr.makeSlice 32 (.int .i64 33) (.int .i64 33)).run Try.prog w = .ok (.slice (some ⟨w.heap.size, 0, none⟩) 33 33) (w.alloc (.cells (List.replicate 33 (.bool false)).toArray 4)) := by kernel_rfl
theorem poly_row (w : World) (o : Obj) : ((w.alloc (.cells (crcP.map Value.bool).toArray 4)).alloc o).ownsRow w.heap.size 4 1 (.slice (some ⟨w.heap.size, 0, none⟩) 33 33) crcP.length (crcP.map Value.bool) := by
  refine World.ownsRow.alloc (w := w.alloc (.cells (crcP.map Value.bool).toArray 4)) ⟨rfl, .inr ⟨w.heap.size, 33, _, rfl, Nat.le_refl _, alloc_at w _, by decide, by decide, rfl, rfl⟩⟩ o
set_option maxHeartbeats 2000000 in
theorem refPoly_row (w : World) : Calls Try.prog 11 #[] w (BoolsTo w crcP) := by
  have hmk := mk33
  simp only [List.replicate] at hmk
  go_enter Try.func11, Try.ntmps11
  go_wp2
  clear hmk
  go_rounds 16
  go_ret
  exact ⟨_, rfl, poly_row w _, ((Below.refl _ _).alloc (Nat.le_refl _) _).alloc (by simp) _⟩
end Go.Proofs.Ytagaaomdmjnbbaa
