/- Chapter 9's example; the arguments of its statements. -/
import Derived.Test.YtficmdomnilhnaaGreatFitsTop
namespace Go.Proofs.YtficmdomnilhnaaGreat
open Go.ChangeShapes Go.WideShapes Go.ChangeAt Go.RowKit
set_option linter.unusedVariables false
section
variable {H : Type} {enc : TypeId × Value → H} {w : World}
theorem items_of2 {v : Value} (h : [v] = [.slice none 0 0] ∨ ∃ (a : Addr) (len cap : Nat), [v] = [.slice (some a) len cap] ∧ len ≤ cap ∧ cap ≤ maxLen ∧ cap * Tryz.prog.bytesOf 93 ≤ 140737488351232 ∧
      ∀ i, i < cap → ∃ c : List Value, w.cells? 0 (a.add (i * 5)) 5 = some c ∧ Rdg enc Tryz.prog w 93 c) :
    ∃ (ao : Option Addr) (len cap : Nat) (L : Nat → ItemV), v = .slice ao len cap ∧ len ≤ cap ∧ len ≤ 3518437208780 ∧ ∀ i, i < len → ItemAt w ao i (L i) := by
  obtain ⟨ao, len, cap, L, e, hm, H⟩ := items_of h
  rcases h with h | ⟨a, len', cap', h, hl, hc, _⟩
  · obtain rfl : v = .slice none 0 0 := by simpa using h
    injection e with e1 e2 e3; subst e2 e3; exact ⟨ao, 0, 0, L, by rw [e1], Nat.le_refl _, hm, H⟩
  · obtain rfl : v = .slice (some a) len' cap' := by simpa using h
    injection e with e1 e2 e3; subst e1 e2 e3; exact ⟨some a, len', cap', L, rfl, hl, hm, H⟩
/-- a list of types, each with room for its items -/
theorem types_of3 {v : Value} (h : v = .slice none 0 0 ∨ ∃ (a : Addr) (len cap : Nat), v = .slice (some a) len cap ∧ len ≤ cap ∧ cap ≤ maxLen ∧ cap * Tryz.prog.bytesOf 47 ≤ 140737488351232 ∧
      ∀ i, i < cap → ∃ c : List Value, w.cells? 0 (a.add (i * 6)) 6 = some c ∧ Rdg enc Tryz.prog w 47 c) :
    ∃ (ao : Option Addr) (len cap : Nat) (L : Nat → TypeV), v = .slice ao len cap ∧ len ≤ cap ∧ len ≤ 140737488351232 ∧ (∀ i, i < len → (L i).ilen ≤ (L i).icap) ∧ ∀ i, i < len → TypeAt w ao i (L i) := by
  rcases h with rfl | ⟨a, len, cap, rfl, hl, hm, hby, hx⟩
  · exact ⟨none, 0, 0, default, rfl, Nat.le_refl _, Nat.zero_le _, fun i hi => by omega, fun i hi => by omega⟩
  · have hq : ∀ i, i < len → ∃ p : TypeV, p.ilen ≤ p.icap ∧ TypeAt w (some a) i p := by
      intro i hi
      obtain ⟨b, off, rfl, hc⟩ := slice_at (by omega) (by omega) hx
      obtain ⟨c, hcl, hat, hr⟩ := hc i (by omega)
      obtain ⟨x0, e0, w0⟩ := rdg_int Tryz.underlying3 (rdg_field Tryz.underlying47 hr 0 3 0 1 rfl (by kernel_rfl))
      obtain ⟨x1, e1, w1⟩ := rdg_string Tryz.underlying9 (rdg_field Tryz.underlying47 hr 1 9 1 1 rfl (by kernel_rfl))
      obtain ⟨x2, e2, w2⟩ := rdg_int Tryz.underlying3 (rdg_field Tryz.underlying47 hr 2 3 2 1 rfl (by kernel_rfl))
      obtain ⟨x3, e3, w3⟩ := rdg_int Tryz.underlying3 (rdg_field Tryz.underlying47 hr 3 3 3 1 rfl (by kernel_rfl))
      obtain ⟨x4, e4, w4⟩ := rdg_int Tryz.underlying3 (rdg_field Tryz.underlying47 hr 4 3 4 1 rfl (by kernel_rfl))
      have hf := rdg_field Tryz.underlying47 hr 5 45 5 1 rfl (by kernel_rfl)
      match c, hcl with
      | [c0, c1, c2, c3, c4, c5], _ =>
        simp at e0 e1 e2 e3 e4
        subst e0 e1 e2 e3 e4
        obtain ⟨ia, il, ic, Li, rfl, hic, hil, hiat⟩ := items_of2 (rdg_slice 5 Tryz.underlying45 (by kernel_rfl) hf)
        exact ⟨⟨x0, x1, x2, x3, x4, ia, il, ic, Li⟩, hic, b, off, rfl, hat 0 (by omega), hat 1 (by omega), hat 2 (by omega), hat 3 (by omega), hat 4 (by omega), hat 5 (by omega), ⟨w0, w2, w3, w4, w1⟩, hil, hiat⟩
    obtain ⟨L, hL⟩ := skolem hq
    refine ⟨some a, len, cap, L, rfl, hl, ?_, fun i hi => (hL i hi).1, fun i hi => (hL i hi).2⟩
    have hz : Tryz.prog.bytesOf 47 = 72 := by kernel_rfl
    rw [hz] at hby
    omega
end
def ex9I : Nat → ItemV := fun i => if i = 0 then ⟨⟨#[97]⟩, 0, 0, false, false⟩ else ⟨⟨#[98]⟩, 1, 0, false, false⟩
def ex9 (g : Nat) : Nat → TypeV := fun _ => ⟨9, ⟨#[69]⟩, 0, 0, 0, some ⟨g, 0, none⟩, 2, 2, ex9I⟩
def ex9IO : Obj := .cells #[.string ⟨#[97]⟩, .int .u64 0, .int .i64 0, .bool false, .bool false, .string ⟨#[98]⟩, .int .u64 1, .int .i64 0, .bool false, .bool false] 93
def ex9TO (g : Nat) : Obj := .cells #[.int .i64 9, .string ⟨#[69]⟩, .int .i64 0, .int .i64 0, .int .i64 0, .slice (some ⟨g, 0, none⟩) 2 2] 47
def ex9V (n : Int) : VT := .node 9 n ⟨#[]⟩ none 0 0 (fun _ => .nil)
theorem ex9_at (w : World) : ∀ i, i < 1 → TypeAt ((w.alloc ex9IO).alloc (ex9TO w.heap.size)) (some ⟨w.heap.size + 1, 0, none⟩) i (ex9 w.heap.size i) := by
  intro i hi
  obtain rfl : i = 0 := by omega
  have hq := alloc_at (w.alloc ex9IO) (ex9TO w.heap.size)
  rw [show (w.alloc ex9IO).heap.size = w.heap.size + 1 by simp] at hq
  have hb : ((w.alloc ex9IO).alloc (ex9TO w.heap.size)).heap[w.heap.size]? = some ex9IO := alloc_old (alloc_at w ex9IO)
  refine ⟨_, 0, rfl, cell_at hq rfl, cell_at hq rfl, cell_at hq rfl, cell_at hq rfl, cell_at hq rfl, cell_at hq rfl, by unfold TypeWf ex9; dsimp only; decide, ?_⟩
  refine ⟨by unfold ex9; dsimp only; decide, fun j hj => ?_⟩
  have hj2 : j = 0 ∨ j = 1 := by unfold ex9 at hj; simp at hj; omega
  rcases hj2 with rfl | rfl
  · exact ⟨_, 0, rfl, cell_at hb rfl, cell_at hb rfl, cell_at hb rfl, cell_at hb rfl, cell_at hb rfl, by unfold ItemWf ex9 ex9I; dsimp only; decide⟩
  · exact ⟨_, 0, rfl, cell_at hb rfl, cell_at hb rfl, cell_at hb rfl, cell_at hb rfl, cell_at hb rfl, by unfold ItemWf ex9 ex9I; dsimp only; decide⟩
theorem ex9_has (g : Nat) : hasT (ex9 g) 1 0 = true := by
  have h1 : fErr (oneR (ex9 0) 1) 1 = 0 := by decide +kernel
  have h3 : fErr (oneR (ex9 g) 1) 1 = fErr (oneR (ex9 0) 1) 1 := rfl
  exact hasT_yes (k := 0) (by decide) (h3.trans h1)
theorem ex9_fits (g : Nat) : fitsA (ex9 g) 1 0 (ex9V 2) = 7 ∧ fitsA (ex9 g) 1 0 (ex9V 1) = 0 := by
  unfold fitsA
  rw [ex9_has, if_pos rfl, if_pos rfl]
  rw [fits_leaf rfl, fits_leaf rfl]
  have h1 : headE (ex9 0) 0 (ex9V 2) = 7 := by decide +kernel
  have h2 : headE (ex9 0) 0 (ex9V 1) = 0 := by decide +kernel
  exact ⟨h1, h2⟩
theorem ex9V_at (w : World) (n : Int) (hn : (Lit.int .u64 n).wf = true) : ValAt w (fun _ => False) (ex9V n) :=
  (valAt_iff _).2 ⟨⟨by kernel_rfl, hn, by show (⟨#[]⟩ : ByteArray).size ≤ _; decide, by show 0 ≤ _; decide⟩, fun i hi => absurd hi (Nat.not_lt_zero i)⟩
end Go.Proofs.YtficmdomnilhnaaGreat
