/- Chapter 6's examples; the arguments of its statements. -/
import Derived.Test.YtohphejhlgnciaaGreatTypesSame
namespace Go.Proofs.YtohphejhlgnciaaGreat
open Go.ChangeShapes Go.WideShapes Go.ChangeAt Go.RowKit
set_option linter.unusedVariables false
theorem fault_eql (a b c d : Int) (w : World) : (binOp .eql 46 (.agg #[.int .i64 a, .int .i64 b]) (.agg #[.int .i64 c, .int .i64 d])).run Tryz.prog w = .ok (.bool ((a == c) && (b == d))) w := by
  have hu := Tryz.underlying46
  have hi := Tryz.underlying3
  have he := Tryz.underlying30
  have p0 := fun a c w => run_equalIn_int (P := Tryz.prog) w 9998 3 .i64 .i64 a c hi
  have p1 := fun a c w => run_equalIn_int (P := Tryz.prog) w 9998 30 .i64 .i64 a c he
  rw [run_eql_struct, run_equalIn_agg _ 9999 _ _ _ (by kernel_rfl) (by kernel_rfl)]
  simp only [Program.fieldsOf, hu]
  simp [Op.eqFields, go_sem, p0, p1]
  (repeat' split) <;> simp_all
theorem fault_err (a b : Int) (w : World) : (Instr.field 46 (.agg #[.int .i64 a, .int .i64 b]) 0).run Tryz.prog w = .ok (.int .i64 a) w := by kernel_rfl
theorem below_step6 {w w1 w2 : World} (h : Below w.heap.size w w1) (k : Below w1.heap.size w1 w2) : Below w.heap.size w w2 := h.trans (k.mono h.size)
def noneT (k b o : Int) : TypeV := ⟨k, ⟨#[]⟩, b, o, 0, none, 0, 0, default⟩
def exA : Nat → TypeV := fun i => if i = 0 then noneT 1 0 0 else noneT 11 1 1
def exO : Obj := .cells #[.int .i64 1, .string ⟨#[]⟩, .int .i64 0, .int .i64 0, .int .i64 0, .slice none 0 0, .int .i64 11, .string ⟨#[]⟩, .int .i64 1, .int .i64 1, .int .i64 0, .slice none 0 0] 40
theorem exA_at (w : World) : ∀ i, i < 2 → TypeAt (w.alloc exO) (some ⟨w.heap.size, 0, none⟩) i (exA i) := by
  intro i hi
  have hb := alloc_at w exO
  have hi2 : i = 0 ∨ i = 1 := by omega
  have hit : ∀ k b o, ItemsAt (w.alloc exO) (noneT k b o) := fun k b o => ⟨by simp [noneT], fun j hj => by simp [noneT] at hj⟩
  rcases hi2 with rfl | rfl
  · exact ⟨_, 0, rfl, cell_at hb rfl, cell_at hb rfl, cell_at hb rfl, cell_at hb rfl, cell_at hb rfl, cell_at hb rfl, by unfold TypeWf; decide, hit 1 0 0⟩
  · exact ⟨_, 0, rfl, cell_at hb rfl, cell_at hb rfl, cell_at hb rfl, cell_at hb rfl, cell_at hb rfl, cell_at hb rfl, by unfold TypeWf; decide, hit 11 1 1⟩
theorem exA_fault : faultV (oneC exA 2) 2 = .agg #[.int .i64 14, .int .i64 1] := by
  have h1 : fErr (oneC exA 2) 2 = 14 := by decide +kernel
  have h2 : fAt (oneC exA 2) 2 = 1 := by decide +kernel
  unfold faultV; rw [h1, h2]
def exI : Nat → ItemV := fun i => if i = 0 then ⟨⟨#[97]⟩, 0, 0, false, false⟩ else ⟨⟨#[98]⟩, 0, 0, false, false⟩
def exB (g : Nat) : Nat → TypeV := fun _ => ⟨9, ⟨#[69]⟩, 0, 0, 0, some ⟨g, 0, none⟩, 2, 2, exI⟩
def exIO : Obj := .cells #[.string ⟨#[97]⟩, .int .u64 0, .int .i64 0, .bool false, .bool false, .string ⟨#[98]⟩, .int .u64 0, .int .i64 0, .bool false, .bool false] 42
def exTO (g : Nat) : Obj := .cells #[.int .i64 9, .string ⟨#[69]⟩, .int .i64 0, .int .i64 0, .int .i64 0, .slice (some ⟨g, 0, none⟩) 2 2] 40
theorem exB_at (w : World) : ∀ i, i < 1 → TypeAt ((w.alloc exIO).alloc (exTO w.heap.size)) (some ⟨w.heap.size + 1, 0, none⟩) i (exB w.heap.size i) := by
  intro i hi
  obtain rfl : i = 0 := by omega
  have hq := alloc_at (w.alloc exIO) (exTO w.heap.size)
  rw [show (w.alloc exIO).heap.size = w.heap.size + 1 by simp] at hq
  have hb : ((w.alloc exIO).alloc (exTO w.heap.size)).heap[w.heap.size]? = some exIO := alloc_old (alloc_at w exIO)
  refine ⟨_, 0, rfl, cell_at hq rfl, cell_at hq rfl, cell_at hq rfl, cell_at hq rfl, cell_at hq rfl, cell_at hq rfl, by unfold TypeWf exB; dsimp only; decide, ?_⟩
  refine ⟨by unfold exB; dsimp only; decide, fun j hj => ?_⟩
  have hj2 : j = 0 ∨ j = 1 := by unfold exB at hj; simp at hj; omega
  rcases hj2 with rfl | rfl
  · exact ⟨_, 0, rfl, cell_at hb rfl, cell_at hb rfl, cell_at hb rfl, cell_at hb rfl, cell_at hb rfl, by unfold ItemWf exB exI; dsimp only; decide⟩
  · exact ⟨_, 0, rfl, cell_at hb rfl, cell_at hb rfl, cell_at hb rfl, cell_at hb rfl, cell_at hb rfl, by unfold ItemWf exB exI; dsimp only; decide⟩
theorem exB_fault (g : Nat) : faultV (oneC (exB g) 1) 1 = .agg #[.int .i64 6, .int .i64 0] := by
  have h1 : fErr (oneC (exB 0) 1) 1 = 6 := by decide +kernel
  have h2 : fAt (oneC (exB 0) 1) 1 = 0 := by decide +kernel
  have h3 : fErr (oneC (exB g) 1) 1 = fErr (oneC (exB 0) 1) 1 := rfl
  have h4 : fAt (oneC (exB g) 1) 1 = fAt (oneC (exB 0) 1) 1 := rfl
  unfold faultV; rw [h3, h4, h1, h2]
theorem checkA (w : World) : Calls Tryz.prog 23 #[.slice (some ⟨w.heap.size, 0, none⟩) 2 2] (w.alloc exO) fun e w' => e = .returned (.agg #[.int .i64 14, .int .i64 1]) ∧ Below (w.alloc exO).heap.size (w.alloc exO) w' := by
  have h := check6_any (some ⟨w.heap.size, 0, none⟩) 2 2 exA (by decide) (by decide) _ (exA_at w)
  rwa [exA_fault] at h
theorem checkB (w : World) (g : Nat) (hg : w.heap.size = g) : Calls Tryz.prog 23 #[.slice (some ⟨g + 1, 0, none⟩) 1 1] ((w.alloc exIO).alloc (exTO g)) fun e w' => e = .returned (.agg #[.int .i64 6, .int .i64 0]) ∧ Below ((w.alloc exIO).alloc (exTO g)).heap.size ((w.alloc exIO).alloc (exTO g)) w' := by
  subst hg
  have h := check6_any (some ⟨w.heap.size + 1, 0, none⟩) 1 1 (exB w.heap.size) (by decide) (by decide) _ (exB_at w)
  rwa [exB_fault] at h
theorem awk_keep {w1 w2 : World} {a b : Int} {o p : Obj} (hb : Below (((w1.alloc (.cells #[.int .i64 a, .int .i64 b] 46)).alloc o).alloc p).heap.size (((w1.alloc (.cells #[.int .i64 a, .int .i64 b] 46)).alloc o).alloc p) w2) :
    w2.cell? ⟨w1.heap.size, 0, none⟩ = some (.int .i64 a) ∧ w2.cell? ⟨w1.heap.size, 1, none⟩ = some (.int .i64 b) ∧ w1.heap.size < w2.heap.size ∧ (¬ w1.heap.size = w2.heap.size) ∧ Below w1.heap.size w1 w2 := by
  have hs := hb.size
  simp at hs
  refine ⟨keep6 hb (cell_at (j := 0) (alloc_old (alloc_old (alloc_at w1 _))) rfl), keep6 hb (cell_at (j := 1) (alloc_old (alloc_old (alloc_at w1 _))) rfl), by omega, by omega, ?_⟩
  exact ((((Below.refl w1.heap.size w1).alloc (Nat.le_refl _) _).alloc (by simp) _).alloc (by simp <;> omega) _).trans (hb.mono (by simp <;> omega))
end Go.Proofs.YtohphejhlgnciaaGreat
