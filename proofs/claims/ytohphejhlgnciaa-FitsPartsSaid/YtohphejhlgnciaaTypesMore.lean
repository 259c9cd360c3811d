/- Contract of chapter 6's reference: more. -/
import Derived.Test.YtohphejhlgnciaaTypesDeep
import Derived.Deep.DeepCutAuto
namespace Go.Proofs.Ytohphejhlgnciaa
open Go.RowKit
set_option linter.unusedVariables false
/-- a type's own box -/
def BoxT (g : Nat) (T : TypeV) (w0 w : World) : Prop := w.heap[g]? = some (typO T) ∧ Below g w0 w
theorem BoxT.cells {g : Nat} {T : TypeV} {w0 w : World} (h : BoxT g T w0 w) : w.cell? ⟨g, 0, none⟩ = some (.int .i64 T.kind) ∧ w.cell? ⟨g, 1, none⟩ = some (.string T.name) ∧ w.cell? ⟨g, 2, none⟩ = some (.int .i64 T.bound) ∧ w.cell? ⟨g, 3, none⟩ = some (.int .i64 T.of) ∧ w.cell? ⟨g, 4, none⟩ = some (.int .i64 T.tag) ∧ w.cell? ⟨g, 5, none⟩ = some (.slice T.ia T.ilen T.icap) :=
  ⟨cell_at h.1 rfl, cell_at h.1 rfl, cell_at h.1 rfl, cell_at h.1 rfl, cell_at h.1 rfl, cell_at h.1 rfl⟩
theorem BoxT.keep {g : Nat} {T : TypeV} {w0 w w1 : World} (h : BoxT g T w0 w) (hb : Below w.heap.size w w1) : BoxT g T w0 w1 :=
  ⟨(hb.block g (lt_of_block h.1)).trans h.1, h.2.trans (hb.mono (Nat.le_of_lt (lt_of_block h.1)))⟩
theorem BoxT.start (T : TypeV) (w : World) : BoxT w.heap.size T w (w.alloc (typO T)) := ⟨alloc_at w _, (Below.refl _ _).alloc (Nat.le_refl _) _⟩
def c1B (T : TypeV) : Bool := (!T.name.toList.isEmpty && !namedK T.kind) || (decide (0 < T.ilen) && !namedK T.kind)
def c3B (T : TypeV) : Bool := (T.bound != 0 && (decide (T.kind < 10) || decide (12 < T.kind))) || (T.of != 0 && (T.kind != 11 && T.kind != 12)) || (T.tag != 0 && T.kind != 14)
def itemMore (k : Int) (x : ItemV) : Bool := (x.num != 0 && (k == 13 || x.rest)) || (x.type != 0 && k == 9) || (x.key && k != 13) || (x.rest && k != 14)
def moreB (T : TypeV) : Bool := c1B T || c3B T || decide (firstN (fun j => itemMore T.kind (T.items j)) T.ilen < T.ilen)
end Go.Proofs.Ytohphejhlgnciaa
