/- The state of AlignBack's first loop: a buffer and a slice of parts, apart from each other. -/
import Derived.Test.YtgiaidoaadjfkaaAlignBackMath
namespace Go.Proofs.Ytgiaidoaadjfkaa
open Go.RowKit
set_option linter.unusedVariables false
/-- a part's cells -/
def partCells (p : PartV) : List Value := [.bool p.plain, .int .u64 p.num, .int .i64 p.size, .string p.text]
def PutOk (p : PartV) : Prop := (p.plain = false → putE p.num p.size = 0) ∧ (Lit.int .u64 p.num).wf = true ∧ (Lit.int .i64 p.size).wf = true ∧ p.text.size ≤ 300
structure BackSt (b : Nat) (w0 w : World) (u v : Value) (ps : List PartV) (t : ByteArray) : Prop where
  buf : BufAt b v t w
  row : w.ownsRow (b + 1) 28 4 u ps.length (ps.flatMap partCells)
  apart : ∀ j, v.ownBlock = some j → u.ownBlock ≠ some j
  below : Below b w0 w
theorem BackSt.start (w : World) : BackSt w.heap.size w (w.alloc (.cells #[.int .i64 0, .slice none 0 0] 58 (0, 0))) (.slice none 0 0) (.slice none 0 0) [] ⟨#[]⟩ :=
  ⟨buf_new w, World.ownsRow_nil _ _ _ _, fun j h => by simp [Value.ownBlock] at h, new_below w _⟩
theorem BackSt.ge {b : Nat} {w0 w : World} {u v : Value} {ps : List PartV} {t : ByteArray} (h : BackSt b w0 w u v ps t) : b < w.heap.size := lt_of_block h.buf.1
/-- the buffer does a step -/
theorem BackSt.step {b : Nat} {w0 w w1 : World} {u v v1 : Value} {ps : List PartV} {t t1 : ByteArray} (h : BackSt b w0 w u v ps t) (h1 : BufAt b v1 t1 w1) (o1 : Only (BufFoot b v) w w1) (f1 : ∀ k, v1.ownBlock = some k → v.ownBlock = some k ∨ w.heap.size ≤ k) :
    BackSt b w0 w1 u v1 ps t1 := by
  refine ⟨h1, o1.row h.row ?_, ?_, h.below.trans (h.buf.below o1)⟩
  · rintro k hk (rfl | hv)
    · have := (h.row.lt k hk).1; omega
    · exact h.apart k hv hk
  · intro j hj hu
    rcases f1 j hj with hv | hv
    · exact h.apart j hv hu
    · have := (h.row.lt j hu).2; omega
theorem BackSt.drew {b : Nat} {w0 w : World} {u v : Value} {ps : List PartV} {t : ByteArray} (h : BackSt b w0 w u v ps t) : BackSt b w0 w.drew u v ps t := ⟨h.buf, h.row, h.apart, h.below.drew⟩
theorem BackSt.quiet {b : Nat} {w0 w w1 : World} {u v : Value} {ps : List PartV} {t : ByteArray} (h : BackSt b w0 w u v ps t) (hb : Below w.heap.size w w1) : BackSt b w0 w1 u v ps t :=
  ⟨h.buf.step hb, (Only.of_below (S := fun _ => False) hb).row h.row (fun _ _ f => f), h.apart, h.below.trans (hb.mono (Nat.le_of_lt h.ge))⟩
/-- a part is appended -/
theorem BackSt.push {b : Nat} {w0 w w1 : World} {u v u1 : Value} {ps : List PartV} {t : ByteArray} {p : PartV} (h : BackSt b w0 w u v ps t)
    (hown : w1.ownsRow (b + 1) 28 4 u1 (ps.length + 1) (ps.flatMap partCells ++ partCells p)) (hg : (w.alloc (.cells (partCells p).toArray 28)).grownBy w1 u.ownBlock)
    (hf : ∀ k, u1.ownBlock = some k → u.ownBlock = some k ∨ w.heap.size + 1 ≤ k) : BackSt b w0 w1 u1 v (ps ++ [p]) t := by
  have hq := h.quiet (new_below w (.cells (partCells p).toArray 28))
  have ho : Only (fun k => u.ownBlock = some k) (w.alloc (.cells (partCells p).toArray 28)) w1 := (Only.refl _ _).grown hg (fun k hk => .inl hk)
  refine ⟨hq.buf.only ho ?_, by simpa using hown, ?_, hq.below.trans (ho.below (fun k hk => by have := (h.row.lt k hk).1; omega) (Nat.le_of_lt hq.ge))⟩
  · rintro k (rfl | hv) hu
    · have := (h.row.lt k hu).1; omega
    · exact h.apart k hv hu
  · intro j hj hu
    rcases hf j hu with hv | hv
    · exact h.apart j hj hv
    · have := (h.buf.2.lt j hj).2; omega
theorem infoPart : (Try.prog.info? 28).map (fun i => (i.zero, i.size, i.bytes)) = some (some (.agg #[.bool false, .int .u64 0, .int .i64 0, .string ⟨#[]⟩]), 4, 40) := by kernel_rfl
theorem part_cells_at (w : World) (p : PartV) : ∀ j u, (partCells p)[j]? = some u → (w.alloc (.cells (partCells p).toArray 28)).cell? ((⟨w.heap.size, 0, none⟩ : Addr).add j) = some u := by
  intro j u hj
  have hl : j < (partCells p).length := (List.getElem?_eq_some_iff.1 hj).1
  rw [add0, cell_new w (partCells p) 28 (0, 0) j hl, ← hj, List.getElem?_eq_getElem hl]
theorem part_one (p : PartV) : ∀ u ∈ partCells p, u.oneCell' = true := by
  intro u hu; simp [partCells] at hu; rcases hu with rfl | rfl | rfl | rfl <;> rfl
/-- element k of the slice of parts -/
theorem part_row {w : World} {base : Nat} {u : Value} {ps : List PartV} (h : w.ownsRow base 28 4 u ps.length (ps.flatMap partCells)) (k : Nat) (hk : k < ps.length) :
    ∃ g cap, u = .slice (some ⟨g, 0, none⟩) ps.length cap ∧ base ≤ g ∧ g < w.heap.size ∧ w.cell? ⟨g, k * 4, none⟩ = some (.bool ps[k].plain) ∧ w.cell? ⟨g, k * 4 + 1, none⟩ = some (.int .u64 ps[k].num) ∧
      w.cell? ⟨g, k * 4 + 2, none⟩ = some (.int .i64 ps[k].size) ∧ w.cell? ⟨g, k * 4 + 3, none⟩ = some (.string ps[k].text) := by
  have hx : ∀ (l : List PartV) (i : Nat) (hi : i < l.length) (j : Nat), j < 4 → (l.flatMap partCells)[i * 4 + j]? = (partCells l[i])[j]? := by
    intro l
    induction l with
    | nil => intro i hi; simp at hi
    | cons p l ih =>
      intro i hi j hj
      have hl : (partCells p).length = 4 := rfl
      cases i with
      | zero => simp only [List.flatMap_cons, Nat.zero_mul, Nat.zero_add, List.getElem_cons_zero]; rw [List.getElem?_append_left (by omega)]
      | succ i =>
        rw [List.flatMap_cons, List.getElem?_append_right (by omega), hl, show (i + 1) * 4 + j - 4 = i * 4 + j by omega]
        exact ih i (by simpa using hi) j hj
  have hlt := h.lt
  rcases h.2 with ⟨_, h0⟩ | ⟨g, cap, cur, rfl, hb, hg, _⟩
  · omega
  · have hc := h.cells (g := g) rfl
    have at_j : ∀ j v, j < 4 → (partCells ps[k])[j]? = some v → w.cell? ⟨g, k * 4 + j, none⟩ = some v := fun j v hj hv => by
      have := hc (k * 4 + j) v ((hx ps k hk j hj).trans hv)
      rwa [add0] at this
    exact ⟨g, cap, rfl, hb, (hlt g rfl).2, at_j 0 _ (by omega) rfl, at_j 1 _ (by omega) rfl, at_j 2 _ (by omega) rfl, at_j 3 _ (by omega) rfl⟩
end Go.Proofs.Ytgiaidoaadjfkaa
