/- The cells that a slice of structs leads to, one by one. -/
import Derived.Test.YtohphejhlgnciaaGreatRdg
import Derived.Deep.Slices
namespace Go.Proofs.YtohphejhlgnciaaGreat
open Go.ChangeShapes Go.WideShapes Go.ChangeAt Go.RowKit
section
variable {H : Type} {enc : TypeId × Value → H} {P : Program} {w : World}
theorem add_plain (b off k : Nat) : (Addr.add ⟨b, off, none⟩ k) = ⟨b, off + k, none⟩ := by
  unfold Addr.add; split
  · subst_vars; rfl
  · rfl
theorem spot_of_cell {a : Addr} {v : Value} (h : w.cell? a = some v) : a = ⟨a.block, a.off, none⟩ := by
  unfold World.cell? at h
  split at h
  · split at h
    · cases h
    · rename_i hs
      obtain ⟨b, o, sp⟩ := a
      cases sp with
      | none => rfl
      | some x => simp at hs
  · cases h
/-- a slice that is not nil and has room for one: its elements lie at n cells each -/
theorem slice_at {e : TypeId} {a : Addr} {n cap : Nat} (hn : 0 < n) (hc : 0 < cap) (h : ∀ i, i < cap → ∃ c : List Value, w.cells? 0 (a.add (i * n)) n = some c ∧ Rdg enc P w e c) :
    ∃ b off, a = ⟨b, off, none⟩ ∧ ∀ i, i < cap → ∃ c : List Value, c.length = n ∧ (∀ j, j < n → w.cell? ⟨b, off + i * n + j, none⟩ = c[j]?) ∧ Rdg enc P w e c := by
  have h0 : a = ⟨a.block, a.off, none⟩ := by
    obtain ⟨c, hcc, _⟩ := h 0 hc
    obtain ⟨_, hl, hat⟩ := World.cells?_some hcc
    have h1 := hat 0 hn
    have hl0 : 0 < c.length := by omega
    rw [List.getElem?_eq_getElem hl0, Nat.zero_mul] at h1
    have e2 : (a.add 0).add 0 = a := by unfold Addr.add; simp
    rw [e2] at h1
    exact spot_of_cell h1
  refine ⟨a.block, a.off, h0, fun i hi => ?_⟩
  obtain ⟨c, hcc, hr⟩ := h i hi
  obtain ⟨_, hl, hat⟩ := World.cells?_some hcc
  refine ⟨c, hl, fun j hj => ?_, hr⟩
  have h1 := hat j hj
  rw [Go.Deep.add_add, h0, add_plain, ← Nat.add_assoc] at h1
  exact h1
end
theorem lt_of_cell {w : World} {b o : Nat} {v : Value} (h : w.cell? ⟨b, o, none⟩ = some v) : b < w.heap.size := World.block_lt_of_cell? w _ h
theorem skolem {α : Type} [Inhabited α] {n : Nat} {Q : Nat → α → Prop} (h : ∀ i, i < n → ∃ x, Q i x) : ∃ L : Nat → α, ∀ i, i < n → Q i (L i) := by
  classical
  refine ⟨fun i => if hi : i < n then (h i hi).choose else default, fun i hi => ?_⟩
  show Q i (if hi : i < n then (h i hi).choose else default)
  rw [dif_pos hi]
  exact (h i hi).choose_spec
end Go.Proofs.YtohphejhlgnciaaGreat
