/- Plain mathematics of chapter 2's cursor: what a Take and a Text give at a place. -/
import Derived.Test.YtmnemddagcfjgaaGreatDoorAlignMath
import Derived.Test.YtmnemddagcfjgaaGreatDoorAlignBuf
import Derived.OwnWalk
import Derived.RegionTactic
import Derived.StillTailTactics
namespace Go.Proofs.YtmnemddagcfjgaaGreatDoor
open Go.RowKit
set_option linter.unusedVariables false
/-- what is wrong with the g bytes of a gap -/
def scanE (s : ByteArray) : Nat → Nat → Int
  | _, 0 => 0
  | a, g + 1 => if s.size ≤ a then 2 else if byteAt s a ≠ 0 then 12 else scanE s (a + 1) g
theorem scan_short {s : ByteArray} {a g : Nat} (h : s.size ≤ a) : scanE s a (g + 1) = 2 := by unfold scanE; rw [if_pos h]
theorem scan_pad {s : ByteArray} {a g : Nat} (h : a < s.size) (k : byteAt s a ≠ 0) : scanE s a (g + 1) = 12 := by unfold scanE; rw [if_neg (by omega), if_pos k]
theorem scan_ok {s : ByteArray} {a g : Nat} (h : a < s.size) (k : byteAt s a = 0) : scanE s a (g + 1) = scanE s (a + 1) g := by
  show (if s.size ≤ a then _ else _) = _
  rw [if_neg (by omega), if_neg (by omega)]
theorem scan_le {s : ByteArray} : ∀ {g a : Nat}, a ≤ s.size → scanE s a g = 0 → a + g ≤ s.size
  | 0, a, h, _ => by omega
  | g + 1, a, h, k => by
    by_cases c : s.size ≤ a
    · rw [scan_short c] at k; omega
    · by_cases d : byteAt s a = 0
      · rw [scan_ok (by omega) d] at k
        have := scan_le (g := g) (a := a + 1) (by omega) k
        omega
      · rw [scan_pad (by omega) d] at k; omega
/-- the bytes of a gap are all 0 -/
theorem scan_zero {s : ByteArray} : ∀ {g a : Nat}, a + g ≤ s.size → (∀ i, i < g → byteAt s (a + i) = 0) → scanE s a g = 0
  | 0, a, h, _ => rfl
  | g + 1, a, h, k => by
    rw [scan_ok (by omega) (by simpa using k 0 (by omega))]
    exact scan_zero (by omega) (fun i hi => by have := k (i + 1) (by omega); rwa [show a + (i + 1) = a + 1 + i by omega] at this)
def gapN (a : Nat) (z : Int) : Nat := (gapZ (a : Nat) z).toNat
theorem gapN_eq (a : Nat) (z : Int) : gapZ (a : Nat) z = (gapN a z : Nat) := (Int.toNat_of_nonneg (gapZ_rng _ _).1).symm
theorem gapN_le (a : Nat) (z : Int) : gapN a z ≤ 7 := by have := gapN_eq a z; have := (gapZ_rng (a : Nat) z).2; omega
theorem gapN_no {a : Nat} {z : Int} (h : isSz z = false) : gapN a z = 0 := by have := gapN_eq a z; rw [gapZ_no h] at this; omega
/-- Take's error, its number, its place behind -/
def tkE (s : ByteArray) (a : Nat) (z : Int) : Int := if scanE s a (gapN a z) = 0 then takeE s ((a + gapN a z : Nat) : Int) z else scanE s a (gapN a z)
def tkN (s : ByteArray) (a : Nat) (z : Int) : Int := if tkE s a z = 0 then takeN s ((a + gapN a z : Nat) : Int) z else 0
def tkA (s : ByteArray) (a : Nat) (z : Int) : Nat := if tkE s a z = 0 then a + gapN a z + z.toNat else a
/-- Text's error, its text, its place behind -/
def txE (s : ByteArray) (a : Nat) (n : Int) : Int := if n < 0 then 7 else if (s.size : Int) - a < n then 2 else 0
def txS (s : ByteArray) (a : Nat) (n : Int) : ByteArray := if txE s a n = 0 then s.extract a (a + n.toNat) else ⟨#[]⟩
def txA (s : ByteArray) (a : Nat) (n : Int) : Nat := if txE s a n = 0 then a + n.toNat else a
theorem takeE_zero {s : ByteArray} {a : Nat} {z : Int} (h : takeE s (a : Nat) z = 0) (ha : a ≤ s.size) : isSz z = true ∧ (a : Int) + z ≤ s.size := by
  cases hz : isSz z with
  | false => rw [(take_no hz).1] at h; omega
  | true =>
    refine ⟨rfl, ?_⟩
    by_cases g : (s.size : Int) - a < z
    · rw [(take_short hz (by omega) (by omega) g).1] at h; omega
    · omega
theorem tkA_le {s : ByteArray} {a : Nat} (z : Int) (h : a ≤ s.size) : tkA s a z ≤ s.size := by
  unfold tkA
  split
  · rename_i e
    unfold tkE at e
    split at e
    · rename_i e2
      have h2 := scan_le h e2
      have h3 := takeE_zero e h2
      rcases isSz_cases h3.1 with rfl | rfl | rfl | rfl <;> simp <;> omega
    · omega
  · exact h
theorem txA_le {s : ByteArray} {a : Nat} (n : Int) (h : a ≤ s.size) : txA s a n ≤ s.size := by
  unfold txA
  split
  · rename_i e
    unfold txE at e
    split at e
    · omega
    · split at e <;> omega
  · exact h
/-- the end of a walk over a gap, in the reference's way: a + g + z bytes are there or not -/
theorem tk_ok {s : ByteArray} {a : Nat} {z : Int} (hz : isSz z = true) (h : scanE s a (gapN a z) = 0) (k : ((a + gapN a z : Nat) : Int) + z ≤ s.size) : tkE s a z = 0 ∧ tkN s a z = takeS s (a + gapN a z) z ∧ tkA s a z = a + gapN a z + z.toNat := by
  obtain ⟨h1, h2⟩ := take_in (s := s) (k := a + gapN a z) hz k
  have e : tkE s a z = 0 := by unfold tkE; rw [if_pos h]; exact h1
  refine ⟨e, ?_, ?_⟩
  · unfold tkN; rw [if_pos e, h2]
  · unfold tkA; rw [if_pos e]
theorem tk_bad {s : ByteArray} {a : Nat} {z : Int} (h : tkE s a z ≠ 0) : tkN s a z = 0 ∧ tkA s a z = a := by
  unfold tkN tkA; rw [if_neg h, if_neg h]; exact ⟨rfl, rfl⟩
theorem tk_no {s : ByteArray} {a : Nat} {z : Int} (hz : isSz z = false) : tkE s a z = 4 := by
  unfold tkE
  rw [gapN_no hz]
  rw [if_pos (by rfl)]
  exact (take_no hz).1
theorem tk_scan {s : ByteArray} {a : Nat} {z : Int} (h : scanE s a (gapN a z) ≠ 0) : tkE s a z = scanE s a (gapN a z) := by unfold tkE; rw [if_neg h]
theorem tk_short {s : ByteArray} {a : Nat} {z : Int} (hz : isSz z = true) (ha : a ≤ s.size) (h : scanE s a (gapN a z) = 0) (k : (s.size : Int) < ((a + gapN a z : Nat) : Int) + z) : tkE s a z = 2 := by
  unfold tkE
  rw [if_pos h]
  have := scan_le ha h
  exact (take_short hz (by omega) (by omega) (by omega)).1
end Go.Proofs.YtmnemddagcfjgaaGreatDoor
namespace Go.Proofs.YtmnemddagcfjgaaGreatDoor
open Go.RowKit
set_option linter.unusedVariables false
end Go.Proofs.YtmnemddagcfjgaaGreatDoor
