/- Contract of package value: copied. -/
import Derived.Test.YtpclpghmahlieaaDoorValClone
import Derived.Test.YtpclpghmahlieaaDoorRegionPre
namespace Go.Proofs.YtpclpghmahlieaaDoor
open Go.RowKit
set_option linter.unusedVariables false
def boxO (T : VT) (ao : Option Addr) (cap : Nat) : Obj := .cells #[.int .i64 T.kind, .int .u64 T.num, .string T.text, .slice ao T.len cap] 25
def zeroO : Obj := .cells #[.int .i64 0, .int .u64 0, .string ⟨#[]⟩, .slice none 0 0] 25
/-- the copies so far, behind them the Items -/
def mixK (K : Nat → VT) (T : VT) (j : Nat) : Nat → VT := fun i => if i < j then K i else T.kid i
structure CpSt (T : VT) (N : Nat) (ao : Option Addr) (cap j : Nat) (K : Nat → VT) (w0 w : World) : Prop where
  box : w.heap[N]? = some (boxO T ao cap)
  res : w.heap[N + 1]? = some zeroO
  below : Below N w0 w
  row : 0 < T.len → ∃ g, ao = some ⟨g, 0, none⟩ ∧ N + 2 ≤ g ∧ RowAt w g (mixK K T j) T.len ∧ ∀ i, i < j → sameT (T.kid i) (K i) = true ∧ ValAt w (fun b => g < b) (K i)
theorem RowAt.next {w w' : World} {g n : Nat} {K : Nat → VT} (h : RowAt w g K n) (hb : Below w.heap.size w w') : RowAt w' g K n := by
  obtain ⟨cur, h1, h2⟩ := h
  exact ⟨cur, box_keep h1 hb, h2⟩
theorem RowAt.lt {w : World} {g n : Nat} {K : Nat → VT} (h : RowAt w g K n) : g < w.heap.size := by
  obtain ⟨cur, h1, h2⟩ := h
  exact lt_of_block h1
theorem RowAt.cells {w : World} {g n : Nat} {K : Nat → VT} (h : RowAt w g K n) {i : Nat} (hi : i < n) : w.cell? ⟨g, i * 4, none⟩ = some (.int .i64 (K i).kind) ∧ w.cell? ⟨g, i * 4 + 1, none⟩ = some (.int .u64 (K i).num) ∧ w.cell? ⟨g, i * 4 + 2, none⟩ = some (.string (K i).text) ∧ w.cell? ⟨g, i * 4 + 3, none⟩ = some (.slice (K i).ia (K i).len (K i).cap) ∧ ∀ r, w.frozen? ⟨g, i * 4 + r, none⟩ = false := by
  obtain ⟨cur, h1, h2⟩ := h
  obtain ⟨a, b, c, d⟩ := h2 i hi
  exact ⟨cell_at h1 a, cell_at h1 b, cell_at h1 c, cell_at h1 d, fun r => free_at h1⟩
/-- a value into its place -/
abbrev putV (w : World) (g o : Nat) (U : VT) : World := (((w.setCell ⟨g, o, none⟩ (.int .i64 U.kind)).setCell ⟨g, o + 1, none⟩ (.int .u64 U.num)).setCell ⟨g, o + 2, none⟩ (.string U.text)).setCell ⟨g, o + 3, none⟩ (.slice U.ia U.len U.cap)
theorem RowAt.put {w : World} {g n j : Nat} {K : Nat → VT} {U : VT} (h : RowAt w g K n) (hj : j < n) : RowAt (putV w g (j * 4) U) g (fun i => if i = j then U else K i) n := by
  obtain ⟨cur, h1, h2⟩ := h
  obtain ⟨s0, s1, s2, s3⟩ := h2 j hj
  have l3 := (Array.getElem?_eq_some_iff.1 s3).1
  have a1 := set_at (j := j * 4) (u := .int .i64 U.kind) h1
  have a2 := set_at (j := j * 4 + 1) (u := .int .u64 U.num) a1
  have a3 := set_at (j := j * 4 + 2) (u := .string U.text) a2
  have a4 := set_at (j := j * 4 + 3) (u := .slice U.ia U.len U.cap) a3
  refine ⟨_, a4, fun i hi => ?_⟩
  obtain ⟨t0, t1, t2, t3⟩ := h2 i hi
  by_cases e : i = j
  · subst e
    simp only [if_true]
    refine ⟨?_, ?_, ?_, ?_⟩ <;> simp [Array.getElem?_setIfInBounds] <;> omega
  · simp only [if_neg e]
    refine ⟨?_, ?_, ?_, ?_⟩
    · rw [← t0]; simp only [Array.getElem?_setIfInBounds, Array.size_setIfInBounds]; rw [if_neg (by omega), if_neg (by omega), if_neg (by omega), if_neg (by omega)]
    · rw [← t1]; simp only [Array.getElem?_setIfInBounds, Array.size_setIfInBounds]; rw [if_neg (by omega), if_neg (by omega), if_neg (by omega), if_neg (by omega)]
    · rw [← t2]; simp only [Array.getElem?_setIfInBounds, Array.size_setIfInBounds]; rw [if_neg (by omega), if_neg (by omega), if_neg (by omega), if_neg (by omega)]
    · rw [← t3]; simp only [Array.getElem?_setIfInBounds, Array.size_setIfInBounds]; rw [if_neg (by omega), if_neg (by omega), if_neg (by omega), if_neg (by omega)]
theorem put_other {w : World} {g o b : Nat} {U : VT} (h : b ≠ g) : (putV w g o U).heap[b]? = w.heap[b]? := (set_other h).trans ((set_other h).trans ((set_other h).trans (set_other h)))
theorem put_size (w : World) (g o : Nat) (U : VT) : (putV w g o U).heap.size = w.heap.size := by simp
theorem put_below {w0 w : World} {N g o : Nat} {U : VT} (h : Below N w0 w) (hg : N ≤ g) : Below N w0 (putV w g o U) := (((h.setCell (p := ⟨g, o, none⟩) hg _).setCell (p := ⟨g, o + 1, none⟩) hg _).setCell (p := ⟨g, o + 2, none⟩) hg _).setCell (p := ⟨g, o + 3, none⟩) hg _
theorem ValAt.put {w : World} {g o : Nat} {U K : VT} (h : ValAt w (fun b => g < b) K) : ValAt (putV w g o U) (fun b => g < b) K :=
  ValAt.held_of (fun _ s => s) (by rw [put_size]; exact Nat.le_refl _) (fun b hs _ => put_other (by omega)) K h
theorem CpSt.step {T : VT} {N g cap j : Nat} {K : Nat → VT} {U : VT} {w0 wr w1 : World} (h : CpSt T N (some ⟨g, 0, none⟩) cap j K w0 wr) (hj : j < T.len) (hb : Below wr.heap.size wr w1) (hN : N ≤ w0.heap.size) (hs : sameT (T.kid j) U = true) (hv : ValAt w1 (fun b => g < b) U) :
    CpSt T N (some ⟨g, 0, none⟩) cap (j + 1) (fun i => if i = j then U else K i) w0 (putV w1 g (j * 4) U) := by
  obtain ⟨g', e, hg, hrow, hk⟩ := h.row (by omega)
  cases e
  have hlb := lt_of_block h.box
  have hlr := lt_of_block h.res
  refine ⟨(put_other (by omega)).trans (box_keep h.box hb), (put_other (by omega)).trans (box_keep h.res hb), put_below (h.below.trans (hb.mono (by omega))) (by omega), fun _ => ⟨g, rfl, hg, ?_, fun i hi => ?_⟩⟩
  · have h2 := (hrow.next hb).put (U := U) hj
    obtain ⟨cur, q1, q2⟩ := h2
    refine ⟨cur, q1, fun i hi => ?_⟩
    have e : mixK (fun i => if i = j then U else K i) T (j + 1) i = (fun i => if i = j then U else mixK K T j i) i := by
      unfold mixK
      by_cases e : i = j
      · subst e; simp
      · simp only [if_neg e]
        by_cases c : i < j
        · rw [if_pos (by omega), if_pos c]
        · rw [if_neg (by omega), if_neg c]
    rw [e]; exact q2 i hi
  · by_cases e : i = j
    · subst e
      simp only [if_true]
      exact ⟨hs, hv.put⟩
    · simp only [if_neg e]
      have := hk i (by omega)
      exact ⟨this.1, (this.2.next hb).put⟩
theorem CpSt.done {T : VT} {N cap : Nat} {ao : Option Addr} {K : Nat → VT} {w0 w : World} (h : CpSt T N ao cap T.len K w0 w) (hw : ValWf T) : sameT T (.node T.kind T.num T.text ao T.len cap K) = true ∧ ValAt w (fun b => N + 2 ≤ b) (.node T.kind T.num T.text ao T.len cap K) := by
  rcases Nat.eq_zero_or_pos T.len with h0 | h0
  · exact ⟨sameT_iff.2 ⟨rfl, rfl, rfl, rfl, fun i hi => by omega⟩, (valAt_iff _).2 ⟨hw, fun i hi => absurd (show i < T.len from hi) (by omega)⟩⟩
  · obtain ⟨g, rfl, hg, hrow, hk⟩ := h.row h0
    refine ⟨sameT_iff.2 ⟨rfl, rfl, rfl, rfl, fun i hi => (hk i hi).1⟩, (valAt_iff _).2 ⟨hw, fun i hi => ?_⟩⟩
    have hi' : i < T.len := hi
    obtain ⟨c0, c1, c2, c3, _⟩ := hrow.cells hi'
    have e : mixK K T T.len i = K i := by unfold mixK; rw [if_pos hi']
    rw [e] at c0 c1 c2 c3
    exact ⟨⟨g, 0, rfl, by omega, hrow.lt, by rw [Nat.zero_add]; exact c0, by rw [Nat.zero_add]; exact c1, by rw [Nat.zero_add]; exact c2, by rw [Nat.zero_add]; exact c3⟩, (hk i hi').2.sub (fun b hb => by omega)⟩
end Go.Proofs.YtpclpghmahlieaaDoor
