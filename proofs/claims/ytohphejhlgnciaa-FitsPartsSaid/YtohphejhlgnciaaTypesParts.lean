/- Contract of chapter 6's reference: Parts. -/
import Derived.Test.YtohphejhlgnciaaTypesRef2
import Derived.Laws.OwnMore
import Derived.Lib.Hide
import Derived.Lib.SmallJoins
import Derived.BigGuardPart
import Derived.LoopN
namespace Go.Proofs.Ytohphejhlgnciaa
open Go.RowKit
set_option linter.unusedVariables false
theorem infoInt : (Try.prog.info? 3).map (fun i => (i.zero, i.size, i.bytes)) = some (some (.int .i64 0), 1, 8) := by kernel_rfl
/-- the parts of a type, in order -/
def partsL (T : TypeV) : List Int :=
  (if T.kind = 11 ∨ T.kind = 12 then [T.of] else []) ++ (if T.kind = 14 then [T.tag] else []) ++ (if T.kind = 13 ∨ T.kind = 14 then (List.range T.ilen).map fun j => (T.items j).type else [])
theorem partsL_one {T : TypeV} (h : T.kind = 11 ∨ T.kind = 12) : partsL T = [T.of] := by
  unfold partsL; rw [if_pos h, if_neg (by omega), if_neg (by omega)]; simp
theorem partsL_struct {T : TypeV} (h : T.kind = 13) : partsL T = (List.range T.ilen).map fun j => (T.items j).type := by
  unfold partsL; rw [if_neg (by omega), if_neg (by omega), if_pos (by omega)]; simp
theorem partsL_union {T : TypeV} (h : T.kind = 14) : partsL T = T.tag :: (List.range T.ilen).map fun j => (T.items j).type := by
  unfold partsL; rw [if_neg (by omega), if_pos h, if_pos (by omega)]; simp
theorem partsL_none {T : TypeV} (h1 : ¬ (T.kind = 11 ∨ T.kind = 12)) (h2 : T.kind ≠ 13) (h3 : T.kind ≠ 14) : partsL T = [] := by
  unfold partsL; rw [if_neg h1, if_neg h3, if_neg (by omega)]; simp
def typO (T : TypeV) : Obj := .cells #[.int .i64 T.kind, .string T.name, .int .i64 T.bound, .int .i64 T.of, .int .i64 T.tag, .slice T.ia T.ilen T.icap] 36
/-- the row that is being made, beside the type's box -/
def PSt (g : Nat) (T : TypeV) (w0 : World) (v : Value) (l : List Int) (w : World) : Prop := w.ownsRow (g + 1) 3 1 v l.length (l.map (Value.int .i64)) ∧ w.heap[g]? = some (typO T) ∧ Below g w0 w
theorem PSt.cells {g : Nat} {T : TypeV} {w0 : World} {v : Value} {l : List Int} {w : World} (h : PSt g T w0 v l w) : w.cell? ⟨g, 0, none⟩ = some (.int .i64 T.kind) ∧ w.cell? ⟨g, 3, none⟩ = some (.int .i64 T.of) ∧ w.cell? ⟨g, 4, none⟩ = some (.int .i64 T.tag) ∧ w.cell? ⟨g, 5, none⟩ = some (.slice T.ia T.ilen T.icap) ∧ g < w.heap.size :=
  ⟨cell_at h.2.1 rfl, cell_at h.2.1 rfl, cell_at h.2.1 rfl, cell_at h.2.1 rfl, lt_of_block h.2.1⟩
theorem PSt.next {g : Nat} {T : TypeV} {w0 : World} {v v2 : Value} {l : List Int} {x : Int} {o : Obj} {w w2 : World} (h : PSt g T w0 v l w) (h2 : w2.ownsRow (g + 1) 3 1 v2 (l.length + 1) (l.map (Value.int .i64) ++ [.int .i64 x])) (hg : (w.alloc o).grownBy w2 v.ownBlock) : PSt g T w0 v2 (l ++ [x]) w2 := by
  have hlt := lt_of_block h.2.1
  have hb : Below g w0 w2 := (h.2.2.alloc (Nat.le_of_lt hlt) o).grown hg (by simp; omega) (fun k hk => by have := (h.1.lt k hk).1; omega)
  refine ⟨by simpa using h2, ?_, hb⟩
  have h3 := alloc_old (o := o) h.2.1
  exact (hg.block g (lt_of_block h3) (fun e => by have := (h.1.lt g e.symm).1; omega)).trans h3
theorem PSt.out {g : Nat} {T : TypeV} {w0 : World} {v : Value} {l : List Int} {w : World} (h : PSt g T w0 v l w) (hg : w0.heap.size = g) : w.ownsRow w0.heap.size 3 1 v l.length (l.map (Value.int .i64)) ∧ Below w0.heap.size w0 w := by
  subst hg
  exact ⟨Joins.ownsRow_le h.1 (Nat.le_succ _), h.2.2⟩
theorem PSt.start (T : TypeV) (w : World) : PSt w.heap.size T w (.slice none 0 0) [] (w.alloc (typO T)) := ⟨World.ownsRow_nil _ _ _ _, alloc_at w _, (Below.refl _ _).alloc (Nat.le_refl _) _⟩
theorem items_take (T : TypeV) (k : Nat) : (List.range (k + 1)).map (fun j => (T.items j).type) = (List.range k).map (fun j => (T.items j).type) ++ [(T.items k).type] := by rw [List.range_succ, List.map_append]; rfl
end Go.Proofs.Ytohphejhlgnciaa
