/- The bytes of a number, as a string of the model; how a slice of bytes turns into a string. -/
import Derived.Test.YtohphejhlgnciaaGreatRows
import Derived.Test.YtohphejhlgnciaaGreatPrimMath
import Derived.WalkKit
import Derived.WalkSmall
import Derived.Laws.BytesString
import Derived.Laws.BytesArg
import Derived.Laws.IdiomStrings
namespace Go.Proofs.YtohphejhlgnciaaGreat
open Go.RowKit
theorem below_quiet {w w' : World} (h : ∃ m, w' = w.drewN m) : Below w.heap.size w w' := by
  obtain ⟨m, rfl⟩ := h; exact below_drewN (Below.refl _ _) m
/-- the string of some bytes -/
def bytesOf (l : List Int) : ByteArray := ⟨(l.map fun x => UInt8.ofNat x.toNat).toArray⟩
/-- the bytes of a number, the lowest first -/
def putL : Nat → Int → List Int
  | 0, _ => []
  | k + 1, n => n % 256 :: putL k (n / 256)
def putS (n z : Int) : ByteArray := bytesOf (putL z.toNat n)
theorem bytesOf_foldl : ∀ (l : List Int) (r : ByteArray), l.foldl (fun r n => r.push (UInt8.ofNat n.toNat)) r = ⟨r.data ++ (bytesOf l).data⟩
  | [], r => by simp [bytesOf]
  | b :: l, r => by
    simp only [List.foldl_cons]
    rw [bytesOf_foldl l]
    simp [bytesOf, ByteArray.push]
theorem cell_new (w : World) (l : List Value) (t : TypeId) (f : Nat × Nat) (j : Nat) (hj : j < l.length) : (w.alloc (.cells l.toArray t f)).cell? ⟨w.heap.size, j, none⟩ = some l[j] := by
  have h : (w.alloc (.cells l.toArray t f)).heap[w.heap.size]? = some (.cells l.toArray t f) := by
    show (w.heap.push _)[w.heap.size]? = _
    simp
  unfold World.cell?
  rw [h]
  simp [hj]
theorem add0 (b j : Nat) : (Addr.add ⟨b, 0, none⟩ j) = ⟨b, j, none⟩ := by
  unfold Addr.add; split
  · subst_vars; rfl
  · simp
theorem putS1 (n : Int) : bytesOf [n % 256] = putS n 1 := by
  rfl
theorem putS2 (n : Int) : bytesOf [n % 256, n / 256 % 256] = putS n 2 := by
  rfl
theorem putS4 (n : Int) : bytesOf [n % 256, n / 256 % 256, n / 65536 % 256, n / 16777216 % 256] = putS n 4 := by
  have h2 : n / 65536 = n / 256 / 256 := by omega
  have h3 : n / 16777216 = n / 256 / 256 / 256 := by omega
  rw [h2, h3]
  rfl
theorem putS8 (n : Int) : bytesOf [n % 256, n / 256 % 256, n / 65536 % 256, n / 16777216 % 256, n / 4294967296 % 256, n / 1099511627776 % 256, n / 281474976710656 % 256, n / 72057594037927936 % 256] = putS n 8 := by
  have h2 : n / 65536 = n / 256 / 256 := by omega
  have h3 : n / 16777216 = n / 256 / 256 / 256 := by omega
  have h4 : n / 4294967296 = n / 256 / 256 / 256 / 256 := by omega
  have h5 : n / 1099511627776 = n / 256 / 256 / 256 / 256 / 256 := by omega
  have h6 : n / 281474976710656 = n / 256 / 256 / 256 / 256 / 256 / 256 := by omega
  have h7 : n / 72057594037927936 = n / 256 / 256 / 256 / 256 / 256 / 256 / 256 := by omega
  rw [h2, h3, h4, h5, h6, h7]
  rfl
/-- does the number fit its size? -/
def fits (n z : Int) : Bool := decide (n < pw z)
theorem fits_low {n z : Int} (hz : isSz z = true) (h : 0 ≤ n) : (lowZ n z != n) = !fits n z := by
  have hl : (lowZ n z = n) ↔ n < pw z := by
    unfold lowZ
    rcases isSz_cases hz with rfl | rfl | rfl | rfl
    · rw [pw1]; omega
    · rw [pw2]; omega
    · rw [pw4]; omega
    · rw [pw8]; omega
  unfold fits
  by_cases c : n < pw z
  · have e := hl.2 c; simp [e, c]
  · have e : lowZ n z ≠ n := fun h => c (hl.1 h)
    simp [e, c]
def putB (n z : Int) : ByteArray := if isSz z && fits n z then putS n z else ⟨#[]⟩
def putE (n z : Int) : Int := if isSz z then (if fits n z then 0 else 7) else 4
theorem put_no {n z : Int} (h : isSz z = false) : putB n z = ⟨#[]⟩ ∧ putE n z = 4 := by unfold putB putE; rw [h]; exact ⟨rfl, rfl⟩
theorem put_out {n z : Int} (h : isSz z = true) (k : fits n z = false) : putB n z = ⟨#[]⟩ ∧ putE n z = 7 := by unfold putB putE; rw [h, k]; exact ⟨rfl, rfl⟩
theorem put_in {n z : Int} (h : isSz z = true) (k : fits n z = true) : putB n z = putS n z ∧ putE n z = 0 := by unfold putB putE; rw [h, k]; exact ⟨rfl, rfl⟩
theorem ret_si {l : IntKind} {a b : ByteArray} {c d : Int} (h : a = b) (h' : c = d) : Ending.returned (.tuple #[.string a, .int l c]) = .returned (.tuple #[.string b, .int l d]) := by rw [h, h']
theorem bytesOf_append (a b : List Int) : bytesOf a ++ bytesOf b = bytesOf (a ++ b) := by
  apply ByteArray.ext; simp [bytesOf]
theorem putS8' (n : Int) (h0 : 0 ≤ n) (h1 : n ≤ 18446744073709551615) : bytesOf [n % 256, n / 256 % 256, n / 65536 % 256, n / 16777216 % 256, n / 4294967296 % 256, n / 1099511627776 % 256, n / 281474976710656 % 256, n / 72057594037927936] = putS n 8 := by
  rw [← putS8]
  have : n / 72057594037927936 % 256 = n / 72057594037927936 := by omega
  rw [this]
theorem refputE1 (n : Int) (_ : 0 ≤ n) (c : (n / 256 != 0) = true) : putB n 1 = ⟨#[]⟩ ∧ putE n 1 = 7 := by
  refine put_out rfl ?_
  unfold fits; rw [pw1]; simp at c; simp; omega
theorem refputB1 (n : Int) (_ : 0 ≤ n) (c : (n / 256 != 0) = false) : ({ data := #[] } : ByteArray) ++ bytesOf [n % 256] = putB n 1 ∧ putE n 1 = 0 := by
  have k : fits n 1 = true := by unfold fits; rw [pw1]; simp at c; simp; omega
  rw [(put_in rfl k).1, (put_in rfl k).2]
  refine ⟨?_, rfl⟩
  have e : (⟨#[]⟩ : ByteArray) = bytesOf [] := rfl
  rw [e]; simp only [bytesOf_append]; rfl
theorem refputE2 (n : Int) (_ : 0 ≤ n) (c : (n / 256 / 256 != 0) = true) : putB n 2 = ⟨#[]⟩ ∧ putE n 2 = 7 := by
  refine put_out rfl ?_
  unfold fits; rw [pw2]; simp at c; simp; omega
theorem refputB2 (n : Int) (_ : 0 ≤ n) (c : (n / 256 / 256 != 0) = false) : ({ data := #[] } : ByteArray) ++ bytesOf [n % 256] ++ bytesOf [n / 256 % 256] = putB n 2 ∧ putE n 2 = 0 := by
  have k : fits n 2 = true := by unfold fits; rw [pw2]; simp at c; simp; omega
  rw [(put_in rfl k).1, (put_in rfl k).2]
  refine ⟨?_, rfl⟩
  have e : (⟨#[]⟩ : ByteArray) = bytesOf [] := rfl
  rw [e]; simp only [bytesOf_append]; rfl
theorem refputE4 (n : Int) (_ : 0 ≤ n) (c : (n / 256 / 256 / 256 / 256 != 0) = true) : putB n 4 = ⟨#[]⟩ ∧ putE n 4 = 7 := by
  refine put_out rfl ?_
  unfold fits; rw [pw4]; simp at c; simp; omega
theorem refputB4 (n : Int) (_ : 0 ≤ n) (c : (n / 256 / 256 / 256 / 256 != 0) = false) : ({ data := #[] } : ByteArray) ++ bytesOf [n % 256] ++ bytesOf [n / 256 % 256] ++ bytesOf [n / 256 / 256 % 256] ++ bytesOf [n / 256 / 256 / 256 % 256] = putB n 4 ∧ putE n 4 = 0 := by
  have k : fits n 4 = true := by unfold fits; rw [pw4]; simp at c; simp; omega
  rw [(put_in rfl k).1, (put_in rfl k).2]
  refine ⟨?_, rfl⟩
  have e : (⟨#[]⟩ : ByteArray) = bytesOf [] := rfl
  rw [e]; simp only [bytesOf_append]; rfl
theorem refputE8 (n : Int) (_ : 0 ≤ n) (c : (n / 256 / 256 / 256 / 256 / 256 / 256 / 256 / 256 != 0) = true) : putB n 8 = ⟨#[]⟩ ∧ putE n 8 = 7 := by
  refine put_out rfl ?_
  unfold fits; rw [pw8]; simp at c; simp; omega
theorem refputB8 (n : Int) (_ : 0 ≤ n) (c : (n / 256 / 256 / 256 / 256 / 256 / 256 / 256 / 256 != 0) = false) : ({ data := #[] } : ByteArray) ++ bytesOf [n % 256] ++ bytesOf [n / 256 % 256] ++ bytesOf [n / 256 / 256 % 256] ++ bytesOf [n / 256 / 256 / 256 % 256] ++ bytesOf [n / 256 / 256 / 256 / 256 % 256] ++ bytesOf [n / 256 / 256 / 256 / 256 / 256 % 256] ++ bytesOf [n / 256 / 256 / 256 / 256 / 256 / 256 % 256] ++ bytesOf [n / 256 / 256 / 256 / 256 / 256 / 256 / 256 % 256] = putB n 8 ∧ putE n 8 = 0 := by
  have k : fits n 8 = true := by unfold fits; rw [pw8]; simp at c; simp; omega
  rw [(put_in rfl k).1, (put_in rfl k).2]
  refine ⟨?_, rfl⟩
  have e : (⟨#[]⟩ : ByteArray) = bytesOf [] := rfl
  rw [e]; simp only [bytesOf_append]; rfl
end Go.Proofs.YtohphejhlgnciaaGreat
