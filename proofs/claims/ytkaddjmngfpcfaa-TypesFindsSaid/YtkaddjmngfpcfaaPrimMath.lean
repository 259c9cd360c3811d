/- Plain mathematics of chapter 5: kinds, their sizes and signs; numbers, data, how data stand. No dump is imported. -/
import Derived.Test.YtkaddjmngfpcfaaWordRefMath
namespace Go.Proofs.Ytkaddjmngfpcfaa
open Go.RowKit
set_option linter.unusedVariables false
def numK (k : Int) : Bool := decide (1 ≤ k) && decide (k ≤ 9)
def szK (k : Int) : Int := if k = 1 ∨ k = 2 then 1 else if k = 3 ∨ k = 4 then 2 else if k = 5 ∨ k = 6 ∨ k = 9 then 4 else if k = 7 ∨ k = 8 then 8 else 0
def sgK (k : Int) : Bool := k == 3 || k == 5 || k == 7 || k == 9
def lowK (k n : Int) : Int := if numK k then lowZ n (szK k) else 0
def upK (k n : Int) : Int := if sgK k then IntKind.u64.wrap (signZ n (szK k)) else lowK k n
def mayK (k n : Int) : Bool := if k = 1 then decide (n < 2) else numK k && (upK k n == n)
/-- the number itself -/
def valK (k n : Int) : Int := if k = 1 then n % 2 else if sgK k then signZ n (szK k) else lowZ n (szK k)
/-- a datum -/
structure DatV where
  kind : Int
  neg : Bool
  num : Int
  text : ByteArray
def absZ (v : Int) : Int := if v < 0 then -v else v
def noDat : DatV := ⟨0, false, 0, ⟨#[]⟩⟩
def dkK (k : Int) : Int := if k = 1 then 3 else 1
def datK (k n : Int) : DatV := if numK k then ⟨dkK k, decide (valK k n < 0), absZ (valK k n), ⟨#[]⟩⟩ else noDat
def dv (d : DatV) : Int := if d.neg then -d.num else d.num
def loK (k : Int) : Int := if sgK k then -(pw (szK k) / 2) else 0
def hiK (k : Int) : Int := if k = 1 then 1 else if sgK k then pw (szK k) / 2 - 1 else pw (szK k) - 1
def ofB (k : Int) (d : DatV) : Bool := numK k && (d.text.toList.isEmpty) && (d.kind == dkK k) && decide (loK k ≤ dv d) && decide (dv d ≤ hiK k)
def ofN (k : Int) (d : DatV) : Int := if ofB k d then IntKind.u64.wrap (dv d) else 0
def cmpI (x y : Int) : Int := if x < y then -1 else if y < x then 1 else 0
theorem numK_cases {k : Int} (h : numK k = true) : k = 1 ∨ k = 2 ∨ k = 3 ∨ k = 4 ∨ k = 5 ∨ k = 6 ∨ k = 7 ∨ k = 8 ∨ k = 9 := by
  simp [numK] at h; omega
theorem sgK_num {k : Int} (h : sgK k = true) : numK k = true := by simp [sgK, numK] at *; omega
theorem szK_sz {k : Int} (h : numK k = true) : isSz (szK k) = true := by
  rcases numK_cases h with rfl | rfl | rfl | rfl | rfl | rfl | rfl | rfl | rfl <;> rfl
theorem sgK_cases {k : Int} (h : sgK k = true) : k = 3 ∨ k = 5 ∨ k = 7 ∨ k = 9 := by simp [sgK] at h; omega
/-- May of a signed kind, by the two's complement -/
theorem bits_may (n z : Int) (h0 : 0 ≤ n) (h1 : n < 18446744073709551616) (hz : isSz z = true) : (bitsE (wrap64 n) z == 0) = (IntKind.u64.wrap (signZ n z) == n) := by
  have hb : bitsE (wrap64 n) z = 0 ↔ inR (wrap64 n) z = true := by
    unfold bitsE; rw [if_pos hz]; cases inR (wrap64 n) z <;> simp
  rw [Bool.eq_iff_iff, beq_iff_eq, beq_iff_eq, hb]
  unfold inR signZ
  rw [if_pos hz, IntKind.wrap_u64]
  unfold wrap64
  rcases isSz_cases hz with rfl | rfl | rfl | rfl
  · rw [pw1]; simp; constructor <;> intro h <;> (try split at h) <;> (try split) <;> omega
  · rw [pw2]; simp; constructor <;> intro h <;> (try split at h) <;> (try split) <;> omega
  · rw [pw4]; simp; constructor <;> intro h <;> (try split at h) <;> (try split) <;> omega
  · rw [pw8]; simp; constructor <;> intro h <;> (try split at h) <;> (try split) <;> omega
theorem signZ_range (n z : Int) : -9223372036854775808 ≤ signZ n z ∧ signZ n z < 9223372036854775808 := by
  unfold signZ
  cases hz : isSz z with
  | false => simp
  | true =>
    rcases isSz_cases hz with rfl | rfl | rfl | rfl
    · rw [pw1]; simp only [if_true]; split <;> omega
    · rw [pw2]; simp only [if_true]; split <;> omega
    · rw [pw4]; simp only [if_true]; split <;> omega
    · rw [pw8]; simp only [if_true]; split <;> omega
theorem lowZ_range (n z : Int) (hz : isSz z = true) : 0 ≤ lowZ n z ∧ lowZ n z < 18446744073709551616 := by
  unfold lowZ
  rcases isSz_cases hz with rfl | rfl | rfl | rfl
  · rw [pw1]; omega
  · rw [pw2]; omega
  · rw [pw4]; omega
  · rw [pw8]; omega
theorem datK_no {k n : Int} (h : numK k = false) : datK k n = noDat := by unfold datK; rw [h]; rfl
theorem datK_bool (n : Int) : datK 1 n = ⟨3, false, n % 2, ⟨#[]⟩⟩ := by
  have h : ¬ n % 2 < 0 := by omega
  show (⟨dkK 1, decide (n % 2 < 0), absZ (n % 2), ⟨#[]⟩⟩ : DatV) = _
  unfold absZ
  rw [decide_eq_false h, if_neg h]; rfl
theorem datK_low {k n : Int} (h : numK k = true) (h1 : k ≠ 1) (hs : sgK k = false) : datK k n = ⟨1, false, lowK k n, ⟨#[]⟩⟩ := by
  have hv : valK k n = lowZ n (szK k) := by unfold valK; rw [if_neg h1, hs]; rfl
  have hr := lowZ_range n (szK k) (szK_sz h)
  have hn : ¬ lowZ n (szK k) < 0 := by omega
  unfold datK lowK dkK absZ
  rw [h, hv, if_pos rfl, if_pos rfl, if_neg h1, decide_eq_false hn, if_neg hn]
theorem datK_pos {k n : Int} (hs : sgK k = true) (hn : ¬ signZ n (szK k) < 0) : datK k n = ⟨1, false, signZ n (szK k), ⟨#[]⟩⟩ := by
  have h1 : k ≠ 1 := by rcases sgK_cases hs with rfl | rfl | rfl | rfl <;> decide
  have hv : valK k n = signZ n (szK k) := by unfold valK; rw [if_neg h1, hs]; rfl
  unfold datK dkK absZ
  rw [sgK_num hs, hv, if_pos rfl, if_neg h1, decide_eq_false hn, if_neg hn]
theorem datK_neg {k n : Int} (hs : sgK k = true) (hn : signZ n (szK k) < 0) : datK k n = ⟨1, true, -signZ n (szK k), ⟨#[]⟩⟩ := by
  have h1 : k ≠ 1 := by rcases sgK_cases hs with rfl | rfl | rfl | rfl <;> decide
  have hv : valK k n = signZ n (szK k) := by unfold valK; rw [if_neg h1, hs]; rfl
  unfold datK dkK absZ
  rw [sgK_num hs, hv, if_pos rfl, if_neg h1, decide_eq_true hn, if_pos hn]
/-- a power of two, behind a name -/
def p2 (q : Nat) : Int := 2 ^ q
theorem p2_zero : p2 0 = 1 := rfl
theorem p2_next (q : Nat) : p2 (q + 1) = p2 q * 2 := by unfold p2; rw [Int.pow_succ]
theorem p2_pos (q : Nat) : 0 < p2 q := by unfold p2; exact Int.pow_pos (by decide)
theorem p2_le (q : Nat) (h : q ≤ 63) : p2 q ≤ 9223372036854775808 := by
  have e : p2 63 = 9223372036854775808 := by decide
  have hm : ∀ d q : Nat, q + d = 63 → p2 q ≤ p2 63 := by
    intro d
    induction d with
    | zero => intro q h; obtain rfl : q = 63 := (by omega); exact Int.le_refl _
    | succ d ih => intro q h; have h1 := ih (q + 1) (by omega); rw [p2_next] at h1; have := p2_pos q; omega
  have := hm (63 - q) q (by omega)
  omega
theorem p2_size {z : Int} (hz : isSz z = true) (q : Nat) (h : (q : Int) + 1 = 8 * z) : p2 q = pw z / 2 := by
  rcases isSz_cases hz with rfl | rfl | rfl | rfl
  · obtain rfl : q = 7 := (by omega); rw [pw1]; decide
  · obtain rfl : q = 15 := (by omega); rw [pw2]; decide
  · obtain rfl : q = 31 := (by omega); rw [pw4]; decide
  · obtain rfl : q = 63 := (by omega); rw [pw8]; decide
theorem sz_bound {z : Int} (hz : isSz z = true) : 1 ≤ z ∧ z ≤ 8 := by rcases isSz_cases hz with rfl | rfl | rfl | rfl <;> decide
theorem pw_even {z : Int} (hz : isSz z = true) : pw z = pw z / 2 * 2 ∧ 0 < pw z / 2 ∧ pw z / 2 ≤ 9223372036854775808 := by
  rcases isSz_cases hz with rfl | rfl | rfl | rfl
  · rw [pw1]; decide
  · rw [pw2]; decide
  · rw [pw4]; decide
  · rw [pw8]; decide
theorem most_sg {k : Int} (hs : sgK k = true) : hiK k = pw (szK k) / 2 - 1 ∧ -loK k = pw (szK k) / 2 := by
  have h1 : k ≠ 1 := by rcases sgK_cases hs with rfl | rfl | rfl | rfl <;> decide
  unfold hiK loK
  rw [if_neg h1, hs]; simp
theorem most_un {k : Int} (h1 : k ≠ 1) (hs : sgK k = false) : hiK k = pw (szK k) - 1 ∧ loK k = 0 := by
  unfold hiK loK
  rw [if_neg h1, hs]; simp
end Go.Proofs.Ytkaddjmngfpcfaa
