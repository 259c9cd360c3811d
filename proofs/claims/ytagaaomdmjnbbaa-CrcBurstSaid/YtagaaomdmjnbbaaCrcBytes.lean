/- The bytes of a text in a block that the call has just made of it ([]byte(s)): cells, stores, and back. -/
import Derived.Test.YtagaaomdmjnbbaaOwn
import Derived.Test.YtagaaomdmjnbbaaCrcBurstMath
import Derived.Lib.ConvBytes
import Derived.Laws.IdiomStrings
import Derived.Laws.BitsAllLaws
namespace Go.Proofs.Ytagaaomdmjnbbaa
open Go.RowKit
set_option linter.unusedVariables false
/-- block g holds the bytes l, and maybe more behind; the mark behind its cells is the conversion's -/
def BytesBlk (g : Nat) (l : List UInt8) (w : World) : Prop :=
  ∃ C : Array Value, w.heap[g]? = some (.cells C 5 (C.size, C.size + 1)) ∧ l.length ≤ C.size ∧ C.toList.take l.length = l.map fun b => Value.int .u8 b.toNat
theorem bb_cell {g : Nat} {l : List UInt8} {w : World} (h : BytesBlk g l w) (j : Nat) (hj : j < l.length) : w.cell? ⟨g, j, none⟩ = some (.int .u8 ((l.getD j 0).toNat : Nat)) := by
  obtain ⟨C, hC, hl, ht⟩ := h
  have e : C[j]? = (C.toList.take l.length)[j]? := by rw [List.getElem?_take, if_pos hj]; simp
  simp only [World.cell?, hC]
  rw [if_neg (by simp), e, ht, List.getElem?_map, List.getElem?_eq_getElem hj, List.getD_eq_getElem?_getD, List.getElem?_eq_getElem hj]
  rfl
theorem bb_free {g : Nat} {l : List UInt8} {w : World} (h : BytesBlk g l w) (j : Nat) (hj : j < l.length) : w.frozen? ⟨g, j, none⟩ = false := by
  obtain ⟨C, hC, hl, ht⟩ := h
  simp [World.frozen?, hC]; omega
theorem bb_store {g : Nat} {l : List UInt8} {w : World} (h : BytesBlk g l w) (j : Nat) (x : UInt8) : BytesBlk g (l.set j x) (w.setCell ⟨g, j, none⟩ (.int .u8 (x.toNat : Nat))) := by
  obtain ⟨C, hC, hl, ht⟩ := h
  have hlt := lt_of_block hC
  have h' : w.heap[g] = .cells C 5 (C.size, C.size + 1) := by simpa [Array.getElem?_eq_getElem hlt] using hC
  refine ⟨C.setIfInBounds j (.int .u8 (x.toNat : Nat)), ?_, by simpa using hl, ?_⟩
  · show (w.heap.modify g _)[g]? = _
    rw [Array.getElem?_eq_getElem (by simpa using hlt), Array.getElem_modify_self, h']
    simp
  · rw [List.length_set, Array.toList_setIfInBounds, List.take_set, ht, List.map_set]
theorem bb_back {g cap n : Nat} {l : List UInt8} {w : World} (h : BytesBlk g l w) (hn : l.length = n) : (convert 30 9 (.slice (some ⟨g, 0, none⟩) n cap)).run Try.prog w = .ok (.string ⟨l.toArray⟩) w := by
  subst hn
  refine run_convert_bytes_back (P := Try.prog) w 30 9 5 ⟨g, 0, none⟩ cap l Try.underlying30 Try.underlying5 Try.underlying9 (fun j hj => ?_)
  have e : (Addr.add ⟨g, 0, none⟩ j) = ⟨g, j, none⟩ := by unfold Addr.add; split <;> simp_all
  rw [e, bb_cell h j hj, List.getD_eq_getElem?_getD, List.getElem?_eq_getElem hj]
  rfl
theorem bb_other {g : Nat} {l : List UInt8} {w : World} {p : Addr} {u : Value} (h : BytesBlk g l w) (hne : g ≠ p.block) : BytesBlk g l (w.setCell p u) := by
  obtain ⟨C, hC, r⟩ := h
  exact ⟨C, (set_other hne).trans hC, r⟩
theorem bb_start (w : World) (s : ByteArray) : BytesBlk w.heap.size s.data.toList (Lib.bytesWorld w 5 s) := by
  refine ⟨_, Lib.bytesWorld_at_new w 5 s, ?_, ?_⟩
  · simp [Lib.bytesCells]
  · simp [Lib.bytesCells]
theorem bw_below (w : World) (s : ByteArray) : Below w.heap.size w (Lib.bytesWorld w 5 s) :=
  ⟨rfl, rfl, rfl, by rw [Lib.bytesWorld_size]; omega, fun k hk => Lib.bytesWorld_at_old w _ s k hk⟩
theorem xor_byte (a b : UInt8) : bits .xor .u8 ((a.toNat : Nat) : Int) ((b.toNat : Nat) : Int) = (((a ^^^ b).toNat : Nat) : Int) := by
  rw [u8_xor_nat _ _ a.toNat_lt b.toNat_lt, UInt8.toNat_xor]
end Go.Proofs.Ytagaaomdmjnbbaa
