/- The arguments of chapter 2's statements: slices of parts and of asks, element by element. -/
import Derived.Test.YtgiaidoaadjfkaaRdgSlice
namespace Go.Proofs.Ytgiaidoaadjfkaa
open Go.ChangeShapes Go.WideShapes Go.ChangeAt Go.RowKit
/-- a part, as the argument holds it -/
structure PartV where
  plain : Bool
  num : Int
  size : Int
  text : ByteArray
instance : Inhabited PartV := ⟨⟨false, 0, 0, ⟨#[]⟩⟩⟩
/-- one part's cells, and that they are in range -/
def PartAt (w : World) (ao : Option Addr) (i : Nat) (p : PartV) : Prop :=
  ∃ b off, ao = some ⟨b, off, none⟩ ∧ w.cell? ⟨b, off + i * 4, none⟩ = some (.bool p.plain) ∧ w.cell? ⟨b, off + i * 4 + 1, none⟩ = some (.int .u64 p.num) ∧ w.cell? ⟨b, off + i * 4 + 2, none⟩ = some (.int .i64 p.size) ∧
    w.cell? ⟨b, off + i * 4 + 3, none⟩ = some (.string p.text) ∧ (Lit.int .u64 p.num).wf = true ∧ (Lit.int .i64 p.size).wf = true ∧ p.text.size ≤ 140737488351232
theorem PartAt.held {w w1 : World} {ao : Option Addr} {i : Nat} {p : PartV} (h : PartAt w ao i p) (hb : Below w.heap.size w w1) : PartAt w1 ao i p := by
  obtain ⟨b, off, e, h0, h1, h2, h3, r⟩ := h
  exact ⟨b, off, e, keep hb h0, keep hb h1, keep hb h2, keep hb h3, r⟩
/-- an ask, as the argument holds it -/
structure AskV where
  plain : Bool
  n : Int
instance : Inhabited AskV := ⟨⟨false, 0⟩⟩
def AskAt (w : World) (ao : Option Addr) (i : Nat) (p : AskV) : Prop :=
  ∃ b off, ao = some ⟨b, off, none⟩ ∧ w.cell? ⟨b, off + i * 2, none⟩ = some (.bool p.plain) ∧ w.cell? ⟨b, off + i * 2 + 1, none⟩ = some (.int .i64 p.n) ∧ (Lit.int .i64 p.n).wf = true
theorem AskAt.held {w w1 : World} {ao : Option Addr} {i : Nat} {p : AskV} (h : AskAt w ao i p) (hb : Below w.heap.size w w1) : AskAt w1 ao i p := by
  obtain ⟨b, off, e, h0, h1, r⟩ := h
  exact ⟨b, off, e, keep hb h0, keep hb h1, r⟩
section
variable {H : Type} {enc : TypeId × Value → H} {w : World}
theorem parts_of {v : Value} (h : v = .slice none 0 0 ∨ ∃ (a : Addr) (len cap : Nat), v = .slice (some a) len cap ∧ len ≤ cap ∧ cap ≤ maxLen ∧ cap * Try.prog.bytesOf 28 ≤ 140737488351232 ∧
      ∀ i, i < cap → ∃ c : List Value, w.cells? 0 (a.add (i * 4)) 4 = some c ∧ Rdg enc Try.prog w 28 c) :
    ∃ (ao : Option Addr) (len cap : Nat) (L : Nat → PartV), v = .slice ao len cap ∧ len ≤ maxLen ∧ ∀ i, i < len → PartAt w ao i (L i) := by
  rcases h with rfl | ⟨a, len, cap, rfl, hl, hm, _, hx⟩
  · exact ⟨none, 0, 0, default, rfl, Nat.zero_le _, fun i hi => by omega⟩
  · have hq : ∀ i, i < len → ∃ p, PartAt w (some a) i p := by
      intro i hi
      obtain ⟨b, off, rfl, hc⟩ := slice_at (by omega) (by omega) hx
      obtain ⟨c, hcl, hat, hr⟩ := hc i (by omega)
      obtain ⟨x0, e0⟩ := rdg_bool Try.underlying4 (rdg_field Try.underlying28 hr 0 4 0 1 rfl (by kernel_rfl))
      obtain ⟨x1, e1, w1⟩ := rdg_int Try.underlying26 (rdg_field Try.underlying28 hr 1 26 1 1 rfl (by kernel_rfl))
      obtain ⟨x2, e2, w2⟩ := rdg_int Try.underlying3 (rdg_field Try.underlying28 hr 2 3 2 1 rfl (by kernel_rfl))
      obtain ⟨x3, e3, w3⟩ := rdg_string Try.underlying9 (rdg_field Try.underlying28 hr 3 9 3 1 rfl (by kernel_rfl))
      match c, hcl with
      | [c0, c1, c2, c3], _ =>
        simp at e0 e1 e2 e3
        subst e0 e1 e2 e3
        exact ⟨⟨x0, x1, x2, x3⟩, b, off, rfl, hat 0 (by omega), hat 1 (by omega), hat 2 (by omega), hat 3 (by omega), w1, w2, w3⟩
    obtain ⟨L, hL⟩ := skolem hq
    exact ⟨some a, len, cap, L, rfl, Nat.le_trans hl hm, hL⟩
theorem asks_of {v : Value} (h : v = .slice none 0 0 ∨ ∃ (a : Addr) (len cap : Nat), v = .slice (some a) len cap ∧ len ≤ cap ∧ cap ≤ maxLen ∧ cap * Try.prog.bytesOf 44 ≤ 140737488351232 ∧
      ∀ i, i < cap → ∃ c : List Value, w.cells? 0 (a.add (i * 2)) 2 = some c ∧ Rdg enc Try.prog w 44 c) :
    ∃ (ao : Option Addr) (len cap : Nat) (L : Nat → AskV), v = .slice ao len cap ∧ len ≤ maxLen ∧ ∀ i, i < len → AskAt w ao i (L i) := by
  rcases h with rfl | ⟨a, len, cap, rfl, hl, hm, _, hx⟩
  · exact ⟨none, 0, 0, default, rfl, Nat.zero_le _, fun i hi => by omega⟩
  · have hq : ∀ i, i < len → ∃ p, AskAt w (some a) i p := by
      intro i hi
      obtain ⟨b, off, rfl, hc⟩ := slice_at (by omega) (by omega) hx
      obtain ⟨c, hcl, hat, hr⟩ := hc i (by omega)
      obtain ⟨x0, e0⟩ := rdg_bool Try.underlying4 (rdg_field Try.underlying44 hr 0 4 0 1 rfl (by kernel_rfl))
      obtain ⟨x1, e1, w1⟩ := rdg_int Try.underlying3 (rdg_field Try.underlying44 hr 1 3 1 1 rfl (by kernel_rfl))
      match c, hcl with
      | [c0, c1], _ =>
        simp at e0 e1
        subst e0 e1
        exact ⟨⟨x0, x1⟩, b, off, rfl, hat 0 (by omega), hat 1 (by omega), w1⟩
    obtain ⟨L, hL⟩ := skolem hq
    exact ⟨some a, len, cap, L, rfl, Nat.le_trans hl hm, hL⟩
end
end Go.Proofs.Ytgiaidoaadjfkaa
