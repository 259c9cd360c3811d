/- Plain mathematics of chapter 1: two's complements, and the wraps of the reference. -/
import Derived.Test.YtkaddjmngfpcfaaWordMath
namespace Go.Proofs.Ytkaddjmngfpcfaa
open Go.RowKit
/-- is n in the range of the numbers with a sign of size z? -/
def inR (n z : Int) : Bool := decide (-(pw z / 2) ≤ n) && decide (n < pw z / 2)
def bitsN (n z : Int) : Int := if isSz z && inR n z then n % pw z else 0
def bitsE (n z : Int) : Int := if isSz z then (if inR n z then 0 else 7) else 4
theorem signZ_eq {n z : Int} (h : isSz z = true) : (signZ n z = n) ↔ inR n z = true := by
  unfold signZ inR; rw [if_pos h]
  rcases isSz_cases h with rfl | rfl | rfl | rfl
  · rw [pw1]; simp; constructor <;> intro h <;> (try split at h) <;> (try split) <;> omega
  · rw [pw2]; simp; constructor <;> intro h <;> (try split at h) <;> (try split) <;> omega
  · rw [pw4]; simp; constructor <;> intro h <;> (try split at h) <;> (try split) <;> omega
  · rw [pw8]; simp; constructor <;> intro h <;> (try split at h) <;> (try split) <;> omega
theorem mod_u64 (n : Int) {z : Int} (h : isSz z = true) : IntKind.u64.wrap n % pw z = n % pw z := by
  rw [IntKind.wrap_u64]
  rcases isSz_cases h with rfl | rfl | rfl | rfl
  · rw [pw1]; omega
  · rw [pw2]; omega
  · rw [pw4]; omega
  · rw [pw8]; omega
theorem signZ_u64 (n z : Int) : signZ (IntKind.u64.wrap n) z = signZ n z := by
  unfold signZ
  cases h : isSz z with
  | false => rfl
  | true => simp only [mod_u64 n h]
theorem bitsN_no {n z : Int} (h : isSz z = false) : bitsN n z = 0 := by unfold bitsN; rw [h]; rfl
theorem bitsE_no {n z : Int} (h : isSz z = false) : bitsE n z = 4 := by unfold bitsE; rw [h]; rfl
theorem bitsN_out {n z : Int} (h : isSz z = true) (k : inR n z = false) : bitsN n z = 0 := by unfold bitsN; rw [h, k]; rfl
theorem bitsE_out {n z : Int} (h : isSz z = true) (k : inR n z = false) : bitsE n z = 7 := by unfold bitsE; rw [h, k]; rfl
theorem bitsN_in {n z : Int} (h : isSz z = true) (k : inR n z = true) : bitsN n z = n % pw z := by unfold bitsN; rw [h, k]; rfl
theorem bitsE_in {n z : Int} (h : isSz z = true) (k : inR n z = true) : bitsE n z = 0 := by unfold bitsE; rw [h, k]; rfl
theorem sgnlo1 (n : Int) (h : lowZ n 1 < 128) : lowZ n 1 = signZ n 1 := by
  have k : isSz 1 = true := rfl
  unfold signZ; rw [if_pos k]; unfold lowZ at *; rw [pw1] at *; split <;> omega
theorem sgnlo2 (n : Int) (h : lowZ n 2 < 32768) : lowZ n 2 = signZ n 2 := by
  have k : isSz 2 = true := rfl
  unfold signZ; rw [if_pos k]; unfold lowZ at *; rw [pw2] at *; split <;> omega
theorem sgnlo4 (n : Int) (h : lowZ n 4 < 2147483648) : lowZ n 4 = signZ n 4 := by
  have k : isSz 4 = true := rfl
  unfold signZ; rw [if_pos k]; unfold lowZ at *; rw [pw4] at *; split <;> omega
theorem sgnlo8 (n : Int) (h : lowZ n 8 < 9223372036854775808) : lowZ n 8 = signZ n 8 := by
  have k : isSz 8 = true := rfl
  unfold signZ; rw [if_pos k]; unfold lowZ at *; rw [pw8] at *; split <;> omega
theorem sgnhi1 (n : Int) (h : ¬ lowZ n 1 < 128) : lowZ n 1 - 128 - 127 - 1 = signZ n 1 := by
  have k : isSz 1 = true := rfl
  unfold signZ; rw [if_pos k]; unfold lowZ at *; rw [pw1] at *; split <;> omega
theorem sgnhi2 (n : Int) (h : ¬ lowZ n 2 < 32768) : lowZ n 2 - 32768 - 32767 - 1 = signZ n 2 := by
  have k : isSz 2 = true := rfl
  unfold signZ; rw [if_pos k]; unfold lowZ at *; rw [pw2] at *; split <;> omega
theorem sgnhi4 (n : Int) (h : ¬ lowZ n 4 < 2147483648) : lowZ n 4 - 2147483648 - 2147483647 - 1 = signZ n 4 := by
  have k : isSz 4 = true := rfl
  unfold signZ; rw [if_pos k]; unfold lowZ at *; rw [pw4] at *; split <;> omega
theorem sgnhi8 (n : Int) (h : ¬ lowZ n 8 < 9223372036854775808) : lowZ n 8 - 9223372036854775808 - 9223372036854775807 - 1 = signZ n 8 := by
  have k : isSz 8 = true := rfl
  unfold signZ; rw [if_pos k]; unfold lowZ at *; rw [pw8] at *; split <;> omega
theorem bits_spec1 (n : Int) : (-128 ≤ n ∧ n < 128 ∧ bitsE n 1 = 0 ∧ (0 ≤ n ∧ bitsN n 1 = n ∨ n < 0 ∧ bitsN n 1 = n + 256)) ∨ ((n < -128 ∨ 128 ≤ n) ∧ bitsE n 1 = 7 ∧ bitsN n 1 = 0) := by
  have k : isSz 1 = true := rfl
  cases hr : inR n 1 with
  | true =>
    rw [bitsN_in k hr, bitsE_in k hr]; unfold inR at hr; rw [pw1] at *; simp at hr; omega
  | false =>
    rw [bitsN_out k hr, bitsE_out k hr]; unfold inR at hr; rw [pw1] at *; simp at hr; omega
theorem bits_spec2 (n : Int) : (-32768 ≤ n ∧ n < 32768 ∧ bitsE n 2 = 0 ∧ (0 ≤ n ∧ bitsN n 2 = n ∨ n < 0 ∧ bitsN n 2 = n + 65536)) ∨ ((n < -32768 ∨ 32768 ≤ n) ∧ bitsE n 2 = 7 ∧ bitsN n 2 = 0) := by
  have k : isSz 2 = true := rfl
  cases hr : inR n 2 with
  | true =>
    rw [bitsN_in k hr, bitsE_in k hr]; unfold inR at hr; rw [pw2] at *; simp at hr; omega
  | false =>
    rw [bitsN_out k hr, bitsE_out k hr]; unfold inR at hr; rw [pw2] at *; simp at hr; omega
theorem bits_spec4 (n : Int) : (-2147483648 ≤ n ∧ n < 2147483648 ∧ bitsE n 4 = 0 ∧ (0 ≤ n ∧ bitsN n 4 = n ∨ n < 0 ∧ bitsN n 4 = n + 4294967296)) ∨ ((n < -2147483648 ∨ 2147483648 ≤ n) ∧ bitsE n 4 = 7 ∧ bitsN n 4 = 0) := by
  have k : isSz 4 = true := rfl
  cases hr : inR n 4 with
  | true =>
    rw [bitsN_in k hr, bitsE_in k hr]; unfold inR at hr; rw [pw4] at *; simp at hr; omega
  | false =>
    rw [bitsN_out k hr, bitsE_out k hr]; unfold inR at hr; rw [pw4] at *; simp at hr; omega
theorem bits_spec8 (n : Int) : (-9223372036854775808 ≤ n ∧ n < 9223372036854775808 ∧ bitsE n 8 = 0 ∧ (0 ≤ n ∧ bitsN n 8 = n ∨ n < 0 ∧ bitsN n 8 = n + 18446744073709551616)) ∨ ((n < -9223372036854775808 ∨ 9223372036854775808 ≤ n) ∧ bitsE n 8 = 7 ∧ bitsN n 8 = 0) := by
  have k : isSz 8 = true := rfl
  cases hr : inR n 8 with
  | true =>
    rw [bitsN_in k hr, bitsE_in k hr]; unfold inR at hr; rw [pw8] at *; simp at hr; omega
  | false =>
    rw [bitsN_out k hr, bitsE_out k hr]; unfold inR at hr; rw [pw8] at *; simp at hr; omega
end Go.Proofs.Ytkaddjmngfpcfaa
