/- Plain mathematics of chapter 5: what is told of a number gives it back; how numbers stand. -/
import Derived.Test.YtohphejhlgnciaaGreatPrimRefCmp
namespace Go.Proofs.YtohphejhlgnciaaGreat
open Go.RowKit
set_option linter.unusedVariables false
theorem signZ_in (n : Int) {z : Int} (hz : isSz z = true) : -(pw z / 2) ≤ signZ n z ∧ signZ n z ≤ pw z / 2 - 1 := by
  unfold signZ
  rw [if_pos hz]
  rcases isSz_cases hz with rfl | rfl | rfl | rfl
  · rw [pw1]; split <;> omega
  · rw [pw2]; split <;> omega
  · rw [pw4]; split <;> omega
  · rw [pw8]; split <;> omega
theorem lowZ_in (n : Int) {z : Int} (hz : isSz z = true) : 0 ≤ lowZ n z ∧ lowZ n z ≤ pw z - 1 := by
  unfold lowZ
  rcases isSz_cases hz with rfl | rfl | rfl | rfl
  · rw [pw1]; omega
  · rw [pw2]; omega
  · rw [pw4]; omega
  · rw [pw8]; omega
theorem lowZ_low (n : Int) {z : Int} (hz : isSz z = true) : lowZ (lowZ n z) z = lowZ n z := by unfold lowZ; exact Int.emod_emod_of_dvd n (Int.dvd_refl _)
theorem signZ_low (n : Int) {z : Int} (hz : isSz z = true) : signZ (lowZ n z) z = signZ n z := by
  have h : lowZ n z % pw z = n % pw z := by unfold lowZ; exact Int.emod_emod_of_dvd n (Int.dvd_refl _)
  unfold signZ; rw [h]
theorem wide_wide5 (n : Int) {z : Int} (hz : isSz z = true) : IntKind.u64.wrap (signZ (IntKind.u64.wrap (signZ n z)) z) = IntKind.u64.wrap (signZ n z) := by
  rw [signZ_u64]
  congr 1
  unfold signZ
  rw [if_pos hz, if_pos hz]
  rcases isSz_cases hz with rfl | rfl | rfl | rfl
  · rw [pw1]; split <;> split <;> omega
  · rw [pw2]; split <;> split <;> omega
  · rw [pw4]; split <;> split <;> omega
  · rw [pw8]; split <;> split <;> omega
theorem may_num {k n : Int} (h : mayK k n = true) : numK k = true := by
  unfold mayK at h
  by_cases h1 : k = 1
  · subst h1; rfl
  · rw [if_neg h1] at h; simp at h; exact h.1
/-- Of gives back what Datum told -/
theorem of_val {k n : Int} (hk : numK k = true) : (datK k n).text.toList.isEmpty = true ∧ ((datK k n).kind == dkK k) = true ∧ dv (datK k n) = valK k n ∧ loK k ≤ valK k n ∧ valK k n ≤ hiK k := by
  have hz := szK_sz hk
  have he : datK k n = ⟨dkK k, decide (valK k n < 0), absZ (valK k n), ⟨#[]⟩⟩ := by unfold datK; rw [hk, if_pos rfl]
  refine ⟨by (rw [he]; show (⟨#[]⟩ : ByteArray).toList.isEmpty = true; rw [ByteArray.toList_eq]; rfl), by (rw [he]; simp), ?_, ?_⟩
  · rw [he]
    unfold dv absZ
    by_cases h : valK k n < 0
    · simp [h]
    · simp [h]
  · by_cases h1 : k = 1
    · subst h1
      have e1 : loK 1 = 0 := rfl
      have e2 : hiK 1 = 1 := rfl
      have e3 : valK 1 n = n % 2 := rfl
      rw [e1, e2, e3]; omega
    · cases hs : sgK k with
      | true =>
        have e3 : valK k n = signZ n (szK k) := by unfold valK; rw [if_neg h1, hs]; rfl
        have hr := signZ_in n hz
        have hm := most_sg hs
        rw [e3]; omega
      | false =>
        have e3 : valK k n = lowZ n (szK k) := by unfold valK; rw [if_neg h1, hs]; rfl
        have hr := lowZ_in n hz
        have hm := most_un h1 hs
        rw [e3]; omega
theorem of_datum {k n : Int} (hk : numK k = true) : ofB k (datK k n) = true ∧ ofN k (datK k n) = IntKind.u64.wrap (valK k n) := by
  obtain ⟨h1, h2, h3, h4, h5⟩ := of_val (n := n) hk
  have h : ofB k (datK k n) = true := by rw [ofB_yes hk h1 h2, h3, decide_eq_true h4, decide_eq_true h5]; rfl
  refine ⟨h, ?_⟩
  unfold ofN; rw [h, if_pos rfl, h3]
theorem may_val {k n : Int} (h0 : 0 ≤ n) (h1 : n ≤ 18446744073709551615) (h : mayK k n = true) : IntKind.u64.wrap (valK k n) = n ∧ upK k (lowK k n) = n := by
  have hk := may_num h
  have hz := szK_sz hk
  by_cases c1 : k = 1
  · subst c1
    have h2 : n < 2 := by simpa [mayK] using h
    have e3 : valK 1 n = n % 2 := rfl
    have e4 : ∀ m, upK 1 m = m % 256 := fun _ => rfl
    have e5 : ∀ m, lowK 1 m = m % 256 := fun _ => rfl
    rw [e3, e4, e5, IntKind.wrap_u64]; omega
  · have hu : upK k n = n := by unfold mayK at h; rw [if_neg c1] at h; simp at h; exact h.2
    cases hs : sgK k with
    | true =>
      have e3 : valK k n = signZ n (szK k) := by unfold valK; rw [if_neg c1, hs]; rfl
      have e4 : ∀ m, upK k m = IntKind.u64.wrap (signZ m (szK k)) := fun m => by unfold upK; rw [hs]; rfl
      have e5 : lowK k n = lowZ n (szK k) := by unfold lowK; rw [hk]; rfl
      rw [e4] at hu
      rw [e3, e4, e5, signZ_low n hz]
      exact ⟨hu, hu⟩
    | false =>
      have e3 : valK k n = lowZ n (szK k) := by unfold valK; rw [if_neg c1, hs]; rfl
      have e4 : ∀ m, upK k m = lowZ m (szK k) := fun m => by unfold upK lowK; rw [hs, hk]; rfl
      have e5 : lowK k n = lowZ n (szK k) := by unfold lowK; rw [hk]; rfl
      rw [e4] at hu
      rw [e3, e4, e5, lowZ_low n hz, hu, IntKind.wrap_u64]
      omega
/-- what PrimBack asks -/
theorem back_may {k n : Int} (h0 : 0 ≤ n) (h1 : n ≤ 18446744073709551615) (h : mayK k n = true) : ofB k (datK k n) = true ∧ ofN k (datK k n) = n ∧ upK k (lowK k n) = n ∧ numK k = true := by
  have hk := may_num h
  obtain ⟨a, b⟩ := of_datum (n := n) hk
  obtain ⟨c, d⟩ := may_val h0 h1 h
  exact ⟨a, b.trans c, d, hk⟩
theorem up_may {k n : Int} (hk : numK k = true) (h1 : k ≠ 1) : mayK k (upK k n) = true := by
  have hz := szK_sz hk
  unfold mayK
  rw [if_neg h1, hk]
  cases hs : sgK k with
  | true =>
    have e4 : ∀ m, upK k m = IntKind.u64.wrap (signZ m (szK k)) := fun m => by unfold upK; rw [hs]; rfl
    rw [e4, e4, wide_wide5 n hz]; simp
  | false =>
    have e4 : ∀ m, upK k m = lowZ m (szK k) := fun m => by unfold upK lowK; rw [hs, hk]; rfl
    rw [e4, e4, lowZ_low n hz]; simp
theorem up_range {k n : Int} : 0 ≤ upK k n ∧ upK k n ≤ 18446744073709551615 := by
  unfold upK lowK
  split
  · rw [IntKind.wrap_u64]; omega
  · split
    · rename_i h; have := lowZ_range n (szK k) (szK_sz h); omega
    · omega
theorem low_range {k n : Int} : 0 ≤ lowK k n ∧ lowK k n ≤ 18446744073709551615 := by
  unfold lowK
  split
  · rename_i h; have := lowZ_range n (szK k) (szK_sz h); omega
  · omega
theorem val_range {k n : Int} (hk : numK k = true) : -9223372036854775808 ≤ valK k n ∧ valK k n ≤ 18446744073709551615 := by
  obtain ⟨_, _, _, h4, h5⟩ := of_val (n := n) hk
  have hp := pw_even (szK_sz hk)
  have hl : loK k = 0 ∨ loK k = -(pw (szK k) / 2) := by unfold loK; split; exact .inr rfl; exact .inl rfl
  have hh : hiK k ≤ pw (szK k) - 1 ∨ hiK k = 1 := by
    by_cases h1 : k = 1
    · subst h1; exact .inr rfl
    · cases hs : sgK k with
      | true => have := most_sg hs; omega
      | false => have := most_un h1 hs; omega
  omega
theorem dat_num (k n : Int) : 0 ≤ (datK k n).num ∧ (datK k n).num ≤ 18446744073709551615 := by
  unfold datK
  split
  · rename_i h
    have := val_range (n := n) h
    show 0 ≤ absZ (valK k n) ∧ absZ (valK k n) ≤ _
    unfold absZ
    split <;> omega
  · exact ⟨Int.le_refl _, by decide⟩
theorem dat_text (k n : Int) : (datK k n).text = ⟨#[]⟩ := by unfold datK; split <;> rfl
theorem wf_u64 {n : Int} (h0 : 0 ≤ n) (h1 : n ≤ 18446744073709551615) : (Lit.int .u64 n).wf = true := WalkArith.wf_u64 ⟨h0, h1⟩
end Go.Proofs.YtohphejhlgnciaaGreat
