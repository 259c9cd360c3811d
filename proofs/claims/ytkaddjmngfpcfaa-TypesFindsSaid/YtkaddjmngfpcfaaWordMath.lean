/- Plain mathematics of chapter 1: sizes, powers of 256, lowest bits, the number with a sign. No dump is imported. -/
import Derived.WalkKit
namespace Go.Proofs.Ytkaddjmngfpcfaa
/-- a size -/
def isSz (z : Int) : Bool := z == 1 || z == 2 || z == 4 || z == 8
theorem isSz_cases {z : Int} (h : isSz z = true) : z = 1 ∨ z = 2 ∨ z = 4 ∨ z = 8 := by
  simp [isSz] at h; omega
theorem isSz_not {z : Int} (h : isSz z = false) : z ≠ 1 ∧ z ≠ 2 ∧ z ≠ 4 ∧ z ≠ 8 := by
  simp [isSz] at h; omega
/-- 256 to the power of a size -/
def pw (z : Int) : Int := 256 ^ z.toNat
theorem pw1 : pw 1 = 256 := rfl
theorem pw2 : pw 2 = 65536 := rfl
theorem pw4 : pw 4 = 4294967296 := rfl
theorem pw8 : pw 8 = 18446744073709551616 := rfl
/-- the lowest bits of a size -/
def lowZ (n z : Int) : Int := n % pw z
/-- the number with a sign -/
def signZ (n z : Int) : Int := if isSz z then (if n % pw z < pw z / 2 then n % pw z else n % pw z - pw z) else 0
open Go.RowKit
theorem sgn1 (n : Int) : wrap64 (IntKind.u64.wrap (n * 72057594037927936)) / 72057594037927936 = signZ n 1 := by
  have h : isSz 1 = true := rfl
  unfold signZ; rw [if_pos h, pw1, IntKind.wrap_u64]; unfold wrap64; split <;> omega
theorem sgn2 (n : Int) : wrap64 (IntKind.u64.wrap (n * 281474976710656)) / 281474976710656 = signZ n 2 := by
  have h : isSz 2 = true := rfl
  unfold signZ; rw [if_pos h, pw2, IntKind.wrap_u64]; unfold wrap64; split <;> omega
theorem sgn4 (n : Int) : wrap64 (IntKind.u64.wrap (n * 4294967296)) / 4294967296 = signZ n 4 := by
  have h : isSz 4 = true := rfl
  unfold signZ; rw [if_pos h, pw4, IntKind.wrap_u64]; unfold wrap64; split <;> omega
theorem sgn8 (n : Int) : wrap64 (IntKind.u64.wrap n) = signZ n 8 := by
  have h : isSz 8 = true := rfl
  unfold signZ; rw [if_pos h, pw8, IntKind.wrap_u64]; unfold wrap64; split <;> omega
theorem signZ_no {n z : Int} (h : isSz z = false) : signZ n z = 0 := by unfold signZ; rw [h]; rfl
theorem low1 (n : Int) : IntKind.u64.wrap (n * 72057594037927936) / 72057594037927936 = lowZ n 1 := by
  unfold lowZ; rw [pw1, IntKind.wrap_u64]; omega
theorem low2 (n : Int) : IntKind.u64.wrap (n * 281474976710656) / 281474976710656 = lowZ n 2 := by
  unfold lowZ; rw [pw2, IntKind.wrap_u64]; omega
theorem low4 (n : Int) : IntKind.u64.wrap (n * 4294967296) / 4294967296 = lowZ n 4 := by
  unfold lowZ; rw [pw4, IntKind.wrap_u64]; omega
theorem low8 (n : Int) : IntKind.u64.wrap n = lowZ n 8 := by
  unfold lowZ; rw [pw8, IntKind.wrap_u64]
end Go.Proofs.Ytkaddjmngfpcfaa
