/- What chapter 3's statements say of sums, and their example. -/
import Derived.Test.YtagaaomdmjnbbaaCrcCode
namespace Go.Proofs.Ytagaaomdmjnbbaa
open Go.RowKit
set_option linter.unusedVariables false
theorem crcSum_lt (s : ByteArray) : crcSum s < 4294967296 := by unfold crcSum; omega
theorem crcMore_lt (n : Nat) (s : ByteArray) : crcMore n s < 4294967296 := by unfold crcMore; omega
theorem bytes_lt (r : Nat) (h : r < 4294967296) (l : List UInt8) : crcBytes r l < 4294967296 := crcBytes_lt l h
theorem sum_join (a b : ByteArray) : crcMore (crcSum a) b = crcSum (a ++ b) := by
  have h := bytes_lt 4294967295 (by decide) a.data.toList
  unfold crcMore crcSum
  rw [show 4294967295 - (4294967295 - crcBytes 4294967295 a.data.toList) = crcBytes 4294967295 a.data.toList by omega, ← crcBytes_append]
  simp
theorem more_join (n : Nat) (hn : n < 4294967296) (a b : ByteArray) : crcMore (crcMore n a) b = crcMore n (a ++ b) := by
  have h := bytes_lt (4294967295 - n) (by omega) a.data.toList
  unfold crcMore
  rw [show 4294967295 - (4294967295 - crcBytes (4294967295 - n) a.data.toList) = crcBytes (4294967295 - n) a.data.toList by omega, ← crcBytes_append]
  simp
theorem more_nothing (n : Nat) (hn : n < 4294967296) : crcMore n ⟨#[]⟩ = n := by
  unfold crcMore; simp [crcBytes, crcBits]; omega
theorem sum_one : crcSum ⟨#[49, 50, 51, 52, 53, 54, 55, 56, 57]⟩ = 3421780262 := by decide +kernel
theorem sum_none : crcSum ⟨#[]⟩ = 0 := by decide +kernel
theorem sum_123 (w : World) : Calls Try.prog 6 #[.string ⟨#[49, 50, 51, 52, 53, 54, 55, 56, 57]⟩] w fun e w' => e = .returned (.int .u32 3421780262) ∧ Below w.heap.size w w' := by
  have h := sum_any ⟨#[49, 50, 51, 52, 53, 54, 55, 56, 57]⟩ (by decide) w
  rwa [sum_one] at h
theorem sum_0 (w : World) : Calls Try.prog 6 #[.string ⟨#[]⟩] w fun e w' => e = .returned (.int .u32 0) ∧ Below w.heap.size w w' := by
  have h := sum_any ⟨#[]⟩ (by decide) w
  rwa [sum_none] at h
theorem below_step3 {B : Nat} {w w1 w2 : World} (h : Below B w w1) (k : Below w1.heap.size w1 w2) (hB : B ≤ w.heap.size := by exact Nat.le_refl _) : Below B w w2 := h.trans (k.mono (Nat.le_trans hB h.size))
theorem awake3_any (w : World) : Calls Try.prog 8 #[] w fun e w' => e = .returned (.bool true) ∧ Below w.heap.size w w' := by
  have hr := Below.refl w.heap.size w
  go_enter Try.func8, Try.ntmps8
  go_wp2_with (first
    | (go_at_call 6; (with_reducible refine (sum_123 _).mono ?_); rintro e w1 ⟨rfl, hb⟩; have hr := below_step3 hr hb; clear hb)
    | (go_at_call 6; (with_reducible refine (sum_0 _).mono ?_); rintro e w1 ⟨rfl, hb⟩; have hr := below_step3 hr hb; clear hb))
  go_ret
  exact ⟨rfl, hr⟩
end Go.Proofs.Ytagaaomdmjnbbaa
