/- Contracts of chapter 4's reference: Letter, Digit, formed, Lead, Find, Word, Name, Twice. -/
import Derived.Test.YtinmdkhafamibaaNameMath
import Derived.Test.YtinmdkhafamibaaOwn
import Derived.LoopTactic
import Derived.Handy
import Derived.OpenShut
namespace Go.Proofs.Ytinmdkhafamibaa
open Go.RowKit
set_option linter.unusedVariables false
theorem below_stepN {w w1 w2 : World} (h : Below w.heap.size w w1) (k : Below w1.heap.size w1 w2) : Below w.heap.size w w2 := h.trans (k.mono h.size)
/-- a text of a list that came in, or that the call made -/
def StrAt (w : World) (ao : Option Addr) (i : Nat) (s : ByteArray) : Prop := ∃ b off, ao = some ⟨b, off, none⟩ ∧ w.cell? ⟨b, off + i, none⟩ = some (.string s) ∧ s.size ≤ 140737488351232
theorem StrAt.held {w w1 : World} {ao : Option Addr} {i : Nat} {s : ByteArray} (h : StrAt w ao i s) (hb : Below w.heap.size w w1) : StrAt w1 ao i s := by
  obtain ⟨b, off, e, h0, r⟩ := h
  exact ⟨b, off, e, (hb.cell (World.block_lt_of_cell? w _ h0)).trans h0, r⟩
theorem ret_b {a b : Bool} (h : a = b) : Ending.returned (.bool a) = .returned (.bool b) := by rw [h]
theorem empty_of {s : ByteArray} (h : s.size = 0) : s = ⟨#[]⟩ := by
  obtain ⟨a⟩ := s
  have : a.size = 0 := h
  rw [Array.size_eq_zero_iff] at this
  rw [this]
theorem nonempty_of {s : ByteArray} (h : 0 < s.size) : s.toList.isEmpty = false := by
  rw [ByteArray.toList_eq]
  cases he : s.data.toList.isEmpty with
  | false => rfl
  | true =>
    rw [List.isEmpty_iff] at he
    have h2 : s.data.toList.length = 0 := by rw [he]; rfl
    have h3 : s.data.toList.length = s.size := by simp
    omega
theorem ne_byte (c : Nat) : (!((c : Int) != 95)) = (c == 95) := by
  rw [Bool.eq_iff_iff]; simp; omega
theorem bad_first (s : ByteArray) (h : 0 < s.size) : badAt s 0 = !isL (s[0]'h).toNat := by unfold badAt okAt; rw [if_pos rfl, charAt_get s 0 h]
theorem bad_at (s : ByteArray) (k : Nat) (h : k < s.size) (h0 : badAt s 0 = false) : badAt s k = !(isL (s[k]'h).toNat || isD (s[k]'h).toNat || (s[k]'h).toNat == 95) := by
  by_cases hk : k = 0
  · subst hk
    rw [h0]
    rw [bad_first s h] at h0
    simp at h0
    simp [h0]
  · unfold badAt okAt; rw [if_neg hk, charAt_get s k h]
theorem formed_no {s : ByteArray} {k : Nat} (h : ∀ j, j < k → badAt s j = false) (hk : k < s.size) (hb : badAt s k = true) : formedS s = false := by
  unfold formedS leadN; rw [first_at h hk hb]; simp; omega
theorem formed_yes {s : ByteArray} (h0 : 0 < s.size) (h : ∀ j, j < s.size → badAt s j = false) : formedS s = true := by
  unfold formedS leadN; rw [first_none h]; simp [h0]
theorem lead_at {s : ByteArray} {n : Nat} (h : ∀ j, j < n → badAt s j = false) (hn : n < s.size) (hb : badAt s n = true) : leadN s = n := first_at h hn hb
theorem lead_all {s : ByteArray} (h : ∀ j, j < s.size → badAt s j = false) : leadN s = s.size := first_none h
/-- the first n bytes -/
theorem charAt_take (s : ByteArray) (n i : Nat) (hi : i < n) : charAt (s.extract 0 n) i = charAt s i := by
  unfold charAt
  congr 1
  rw [List.getD_eq_getElem?_getD, List.getD_eq_getElem?_getD]
  congr 1
  simp [hi]
theorem formed_take (s : ByteArray) (n : Nat) (hn : n < s.size) (h : ∀ j, j < n → badAt s j = false) : formedS (s.extract 0 (n + 1)) = !badAt s n := by
  have hz : (s.extract 0 (n + 1)).size = n + 1 := by simp; omega
  have hb : ∀ j, j < n + 1 → badAt (s.extract 0 (n + 1)) j = badAt s j := fun j hj => by unfold badAt; rw [charAt_take s (n + 1) j hj]
  cases hc : badAt s n with
  | true => exact formed_no (k := n) (fun j hj => by rw [hb j (by omega)]; exact h j hj) (by omega) (by rw [hb n (by omega)]; exact hc)
  | false => exact formed_yes (by omega) (fun j hj => by rw [hb j (by omega)]; exact none_next h hc j (by omega))
def wordsObj : Obj := .cells #[.string ⟨#[65, 78, 68]⟩, .string ⟨#[79, 82]⟩, .string ⟨#[78, 79, 84]⟩, .string ⟨#[66, 69, 84, 87, 69, 69, 78]⟩, .string ⟨#[76, 73, 75, 69]⟩, .string ⟨#[84, 82, 85, 69]⟩, .string ⟨#[70, 65, 76, 83, 69]⟩] 9
theorem words_at (w : World) (i : Nat) (hi : i < 7) : StrAt (w.alloc wordsObj) (some ⟨w.heap.size, 0, none⟩) i (wordAt i) := by
  have hb := alloc_at w wordsObj
  refine ⟨_, 0, rfl, ?_, ?_⟩
  · rw [Nat.zero_add]
    have hj : i = 0 ∨ i = 1 ∨ i = 2 ∨ i = 3 ∨ i = 4 ∨ i = 5 ∨ i = 6 := by omega
    unfold World.cell?
    rw [hb]
    rcases hj with rfl | rfl | rfl | rfl | rfl | rfl | rfl <;> rfl
  · have hj : i = 0 ∨ i = 1 ∨ i = 2 ∨ i = 3 ∨ i = 4 ∨ i = 5 ∨ i = 6 := by omega
    rcases hj with rfl | rfl | rfl | rfl | rfl | rfl | rfl <;> decide
end Go.Proofs.Ytinmdkhafamibaa
