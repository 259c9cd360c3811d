/- Lists of types, as the arguments hold them. -/
import Derived.Test.YtohphejhlgnciaaGreatNameRef
import Derived.Test.YtohphejhlgnciaaGreatRdgSlice
namespace Go.Proofs.YtohphejhlgnciaaGreat
open Go.ChangeShapes Go.WideShapes Go.ChangeAt Go.RowKit
set_option linter.unusedVariables false
structure ItemV where
  name : ByteArray
  num : Int
  type : Int
  key : Bool
  rest : Bool
instance : Inhabited ItemV := ⟨⟨⟨#[]⟩, 0, 0, false, false⟩⟩
structure TypeV where
  kind : Int
  name : ByteArray
  bound : Int
  of : Int
  tag : Int
  ia : Option Addr
  ilen : Nat
  icap : Nat
  items : Nat → ItemV
instance : Inhabited TypeV := ⟨⟨0, ⟨#[]⟩, 0, 0, 0, none, 0, 0, default⟩⟩
/-- a type by value -/
def typV (T : TypeV) : Value := .agg #[.int .i64 T.kind, .string T.name, .int .i64 T.bound, .int .i64 T.of, .int .i64 T.tag, .slice T.ia T.ilen T.icap]
def itmV (x : ItemV) : Value := .agg #[.string x.name, .int .u64 x.num, .int .i64 x.type, .bool x.key, .bool x.rest]
def ItemWf (x : ItemV) : Prop := (Lit.int .u64 x.num).wf = true ∧ (Lit.int .i64 x.type).wf = true ∧ x.name.size ≤ 140737488351232
def ItemAt (w : World) (ao : Option Addr) (i : Nat) (x : ItemV) : Prop :=
  ∃ b off, ao = some ⟨b, off, none⟩ ∧ w.cell? ⟨b, off + i * 5, none⟩ = some (.string x.name) ∧ w.cell? ⟨b, off + i * 5 + 1, none⟩ = some (.int .u64 x.num) ∧ w.cell? ⟨b, off + i * 5 + 2, none⟩ = some (.int .i64 x.type) ∧
    w.cell? ⟨b, off + i * 5 + 3, none⟩ = some (.bool x.key) ∧ w.cell? ⟨b, off + i * 5 + 4, none⟩ = some (.bool x.rest) ∧ ItemWf x
theorem keep6 {w w1 : World} {a : Addr} {v : Value} (hb : Below w.heap.size w w1) (h : w.cell? a = some v) : w1.cell? a = some v := (hb.cell (World.block_lt_of_cell? w _ h)).trans h
theorem ItemAt.held {w w1 : World} {ao : Option Addr} {i : Nat} {x : ItemV} (h : ItemAt w ao i x) (hb : Below w.heap.size w w1) : ItemAt w1 ao i x := by
  obtain ⟨b, off, e, h0, h1, h2, h3, h4, r⟩ := h
  exact ⟨b, off, e, keep6 hb h0, keep6 hb h1, keep6 hb h2, keep6 hb h3, keep6 hb h4, r⟩
/-- the items lie where the type says -/
def ItemsAt (w : World) (T : TypeV) : Prop := T.ilen ≤ 3518437208780 ∧ ∀ j, j < T.ilen → ItemAt w T.ia j (T.items j)
theorem ItemsAt.held {w w1 : World} {T : TypeV} (h : ItemsAt w T) (hb : Below w.heap.size w w1) : ItemsAt w1 T := ⟨h.1, fun j hj => (h.2 j hj).held hb⟩
def TypeWf (T : TypeV) : Prop := (Lit.int .i64 T.kind).wf = true ∧ (Lit.int .i64 T.bound).wf = true ∧ (Lit.int .i64 T.of).wf = true ∧ (Lit.int .i64 T.tag).wf = true ∧ T.name.size ≤ 140737488351232
def TypeAt (w : World) (ao : Option Addr) (i : Nat) (T : TypeV) : Prop :=
  ∃ b off, ao = some ⟨b, off, none⟩ ∧ w.cell? ⟨b, off + i * 6, none⟩ = some (.int .i64 T.kind) ∧ w.cell? ⟨b, off + i * 6 + 1, none⟩ = some (.string T.name) ∧ w.cell? ⟨b, off + i * 6 + 2, none⟩ = some (.int .i64 T.bound) ∧ w.cell? ⟨b, off + i * 6 + 3, none⟩ = some (.int .i64 T.of) ∧
    w.cell? ⟨b, off + i * 6 + 4, none⟩ = some (.int .i64 T.tag) ∧ w.cell? ⟨b, off + i * 6 + 5, none⟩ = some (.slice T.ia T.ilen T.icap) ∧ TypeWf T ∧ ItemsAt w T
theorem TypeAt.held {w w1 : World} {ao : Option Addr} {i : Nat} {T : TypeV} (h : TypeAt w ao i T) (hb : Below w.heap.size w w1) : TypeAt w1 ao i T := by
  obtain ⟨b, off, e, h0, h1, h2, h3, h4, h5, r, hi⟩ := h
  exact ⟨b, off, e, keep6 hb h0, keep6 hb h1, keep6 hb h2, keep6 hb h3, keep6 hb h4, keep6 hb h5, r, hi.held hb⟩
section
variable {H : Type} {enc : TypeId × Value → H} {w : World}
theorem items_of {v : Value} (h : [v] = [.slice none 0 0] ∨ ∃ (a : Addr) (len cap : Nat), [v] = [.slice (some a) len cap] ∧ len ≤ cap ∧ cap ≤ maxLen ∧ cap * Tryz.prog.bytesOf 42 ≤ 140737488351232 ∧
      ∀ i, i < cap → ∃ c : List Value, w.cells? 0 (a.add (i * 5)) 5 = some c ∧ Rdg enc Tryz.prog w 42 c) :
    ∃ (ao : Option Addr) (len cap : Nat) (L : Nat → ItemV), v = .slice ao len cap ∧ len ≤ 3518437208780 ∧ ∀ i, i < len → ItemAt w ao i (L i) := by
  rcases h with e | ⟨a, len, cap, e, hl, hm, hby, hx⟩
  · obtain rfl : v = .slice none 0 0 := by simpa using e
    exact ⟨none, 0, 0, default, rfl, Nat.zero_le _, fun i hi => by omega⟩
  · obtain rfl : v = .slice (some a) len cap := by simpa using e
    have hq : ∀ i, i < len → ∃ p, ItemAt w (some a) i p := by
      intro i hi
      obtain ⟨b, off, rfl, hc⟩ := slice_at (by omega) (by omega) hx
      obtain ⟨c, hcl, hat, hr⟩ := hc i (by omega)
      obtain ⟨x0, e0, w0⟩ := rdg_string Tryz.underlying9 (rdg_field Tryz.underlying42 hr 0 9 0 1 rfl (by kernel_rfl))
      obtain ⟨x1, e1, w1⟩ := rdg_int Tryz.underlying23 (rdg_field Tryz.underlying42 hr 1 23 1 1 rfl (by kernel_rfl))
      obtain ⟨x2, e2, w2⟩ := rdg_int Tryz.underlying3 (rdg_field Tryz.underlying42 hr 2 3 2 1 rfl (by kernel_rfl))
      obtain ⟨x3, e3⟩ := rdg_bool Tryz.underlying4 (rdg_field Tryz.underlying42 hr 3 4 3 1 rfl (by kernel_rfl))
      obtain ⟨x4, e4⟩ := rdg_bool Tryz.underlying4 (rdg_field Tryz.underlying42 hr 4 4 4 1 rfl (by kernel_rfl))
      match c, hcl with
      | [c0, c1, c2, c3, c4], _ =>
        simp at e0 e1 e2 e3 e4
        subst e0 e1 e2 e3 e4
        exact ⟨⟨x0, x1, x2, x3, x4⟩, b, off, rfl, hat 0 (by omega), hat 1 (by omega), hat 2 (by omega), hat 3 (by omega), hat 4 (by omega), w1, w2, w0⟩
    obtain ⟨L, hL⟩ := skolem hq
    refine ⟨some a, len, cap, L, rfl, ?_, hL⟩
    have hz : Tryz.prog.bytesOf 42 = 40 := by kernel_rfl
    rw [hz] at hby
    omega
theorem types_of {v : Value} (h : v = .slice none 0 0 ∨ ∃ (a : Addr) (len cap : Nat), v = .slice (some a) len cap ∧ len ≤ cap ∧ cap ≤ maxLen ∧ cap * Tryz.prog.bytesOf 40 ≤ 140737488351232 ∧
      ∀ i, i < cap → ∃ c : List Value, w.cells? 0 (a.add (i * 6)) 6 = some c ∧ Rdg enc Tryz.prog w 40 c) :
    ∃ (ao : Option Addr) (len cap : Nat) (L : Nat → TypeV), v = .slice ao len cap ∧ len ≤ 140737488351232 ∧ ∀ i, i < len → TypeAt w ao i (L i) := by
  rcases h with rfl | ⟨a, len, cap, rfl, hl, hm, hby, hx⟩
  · exact ⟨none, 0, 0, default, rfl, Nat.zero_le _, fun i hi => by omega⟩
  · have hq : ∀ i, i < len → ∃ p, TypeAt w (some a) i p := by
      intro i hi
      obtain ⟨b, off, rfl, hc⟩ := slice_at (by omega) (by omega) hx
      obtain ⟨c, hcl, hat, hr⟩ := hc i (by omega)
      obtain ⟨x0, e0, w0⟩ := rdg_int Tryz.underlying3 (rdg_field Tryz.underlying40 hr 0 3 0 1 rfl (by kernel_rfl))
      obtain ⟨x1, e1, w1⟩ := rdg_string Tryz.underlying9 (rdg_field Tryz.underlying40 hr 1 9 1 1 rfl (by kernel_rfl))
      obtain ⟨x2, e2, w2⟩ := rdg_int Tryz.underlying3 (rdg_field Tryz.underlying40 hr 2 3 2 1 rfl (by kernel_rfl))
      obtain ⟨x3, e3, w3⟩ := rdg_int Tryz.underlying3 (rdg_field Tryz.underlying40 hr 3 3 3 1 rfl (by kernel_rfl))
      obtain ⟨x4, e4, w4⟩ := rdg_int Tryz.underlying3 (rdg_field Tryz.underlying40 hr 4 3 4 1 rfl (by kernel_rfl))
      have hf := rdg_field Tryz.underlying40 hr 5 38 5 1 rfl (by kernel_rfl)
      match c, hcl with
      | [c0, c1, c2, c3, c4, c5], _ =>
        simp at e0 e1 e2 e3 e4
        subst e0 e1 e2 e3 e4
        obtain ⟨ia, il, ic, Li, rfl, hil, hiat⟩ := items_of (rdg_slice 5 Tryz.underlying38 (by kernel_rfl) hf)
        exact ⟨⟨x0, x1, x2, x3, x4, ia, il, ic, Li⟩, b, off, rfl, hat 0 (by omega), hat 1 (by omega), hat 2 (by omega), hat 3 (by omega), hat 4 (by omega), hat 5 (by omega), ⟨w0, w2, w3, w4, w1⟩, hil, hiat⟩
    obtain ⟨L, hL⟩ := skolem hq
    refine ⟨some a, len, cap, L, rfl, ?_, hL⟩
    have hz : Tryz.prog.bytesOf 40 = 72 := by kernel_rfl
    rw [hz] at hby
    omega
end
end Go.Proofs.YtohphejhlgnciaaGreat
