/- Contract of the reference's Take, at a size. -/
import Derived.Test.YtgiaidoaadjfkaaAlignRef
namespace Go.Proofs.Ytgiaidoaadjfkaa
open Go.RowKit
set_option linter.unusedVariables false
theorem run_loop_ok (s : ByteArray) (a z g : Nat) (hz : isSz (z : Nat) = true) (ha : a ≤ s.size) (hg : gapN a z = g) :
    (∀ k, k < g + z → s.size ≤ a + k → scanE s a g = scanE s (a + k) (g - k) → tkN s a z = 0 ∧ tkA s a z = a ∧ tkE s a z = 2) ∧
    (∀ k, k < g → a + k < s.size → byteAt s (a + k) ≠ 0 → scanE s a g = scanE s (a + k) (g - k) → tkN s a z = 0 ∧ tkA s a z = a ∧ tkE s a z = 12) ∧
    (a + (g + z) ≤ s.size → scanE s a g = scanE s (a + (g + z)) (g - (g + z)) → takeN s ((a : Int) + (g : Nat)) z = tkN s a z ∧ tkA s a z = a + g + z ∧ tkE s a z = 0) := by
  subst hg
  refine ⟨fun k hk hs hq => ?_, fun k hk hl hp hq => ?_, fun hl hq => ?_⟩
  · have e : tkE s a z = 2 := by
      by_cases c : k < gapN a z
      · rw [show gapN a z - k = (gapN a z - k - 1) + 1 by omega, scan_short hs] at hq
        rw [tk_scan (by omega), hq]
      · rw [show gapN a z - k = 0 by omega] at hq
        exact tk_short hz ha hq (by omega)
    exact ⟨(tk_bad (by omega)).1, (tk_bad (by omega)).2, e⟩
  · have e : tkE s a z = 12 := by
      rw [show gapN a z - k = (gapN a z - k - 1) + 1 by omega, scan_pad hl hp] at hq
      rw [tk_scan (by omega), hq]
    exact ⟨(tk_bad (by omega)).1, (tk_bad (by omega)).2, e⟩
  · rw [show gapN a z - (gapN a z + z) = 0 by omega] at hq
    obtain ⟨h1, h2, h3⟩ := tk_ok hz hq (by omega)
    refine ⟨?_, by simpa using h3, h1⟩
    rw [h2, ← Int.natCast_add]
    exact (take_in hz (by omega)).2
set_option maxHeartbeats 1000000 in
theorem refTake_sz (s : ByteArray) (a z : Nat) (hz : isSz (z : Nat) = true) (ha : a ≤ s.size) (hs : s.size ≤ 281474976710656) (w : World) :
    Calls Try.prog 19 #[.string s, .agg #[.int .i64 a, .int .i64 0], .int .i64 z] w fun e w' => e = .returned (.tuple #[.int .u64 (tkN s a z), .agg #[.int .i64 (tkA s a z : Nat), .int .i64 (tkE s a z)]]) ∧ Below w.heap.size w w' := by
  have hg7 := gapN_le a z
  have hz8 : z ≤ 8 := by rcases isSz_cases hz with h | h | h | h <;> omega
  have hgap : ∀ w : World, Calls Try.prog 15 #[.int .i64 (a : Nat), .int .i64 z] w fun e w' => e = .returned (.int .i64 (gapN a z : Nat)) ∧ w = w' := fun w => by
    rw [← gapN_eq]; exact refGap_any _ z (WalkArith.wf_i64 (by omega)) w
  obtain ⟨g, hgg⟩ : ∃ g : Nat, gapN a z = g := ⟨_, rfl⟩
  rw [hgg] at hgap hg7
  have HGG := Lib.hid hgg
  have HG := Lib.hid hgap
  clear hgap hgg
  go_enter Try.func19, Try.ntmps19
  go_wp2_with (first
    | (go_at_call 31; refine (refSized_any _ _).mono ?_; rintro e w' ⟨rfl, rfl⟩)
    | (go_at_call 15; refine (HG.out _).mono ?_; rintro e w1 ⟨rfl, rfl⟩))
  have HW := Lib.hid (run_loop_ok s a z g hz ha HGG.out)
  go_loop [9] (fun i => ∃ k : Nat, k ≤ g + z ∧ a + k ≤ s.size ∧ i = .int .i64 k ∧ Hid (scanE s a g = scanE s (a + k) (g - k))) (fun i => g + z - (intOf i).toNat)
  case atStart => exact ⟨0, Nat.zero_le _, by omega, rfl, rfl⟩
  case round =>
    obtain ⟨k, hk, hak, rfl, hq⟩ := hrel
    by_cases hlt : k < g + z
    · by_cases hsh : s.size ≤ a + k
      · have HR := Lib.hid (HW.out.1 k hlt hsh hq.out)
        clear hq
        go_wp2
        go_region
        all_goals go_wp2
        all_goals (go_returns; exact ⟨ret_n2 HR.out.1.symm (by rw [HR.out.2.1]) HR.out.2.2.symm, by go_grown⟩)
      · have hlt2 : a + k < s.size := by omega
        by_cases hkg : k < g
        · by_cases hpad : byteAt s (a + k) = 0
          · have HN := Lib.hid (show scanE s a g = scanE s (a + (k + 1)) (g - (k + 1)) by rw [hq.out, show g - k = (g - (k + 1)) + 1 by omega, scan_ok hlt2 hpad]; rfl)
            have hb : (((s[a + k].toNat : Nat) : Int) != 0) = false := by rw [byteAt_get s _ hlt2, hpad]; rfl
            clear hq hpad
            go_wp2
            go_round
            case rel => exact ⟨k + 1, by omega, by omega, by go_num, HN⟩
            case measure => simp [intOf]; omega
          · have HR := Lib.hid (HW.out.2.1 k hkg hlt2 hpad hq.out)
            have hb : (((s[a + k].toNat : Nat) : Int) != 0) = true := by rw [byteAt_get s _ hlt2]; simpa using hpad
            clear hq hpad
            go_wp2
            go_region
            all_goals go_wp2
            all_goals (go_returns; exact ⟨ret_n2 HR.out.1.symm (by rw [HR.out.2.1]) HR.out.2.2.symm, by go_grown⟩)
        · have HN := Lib.hid (show scanE s a g = scanE s (a + (k + 1)) (g - (k + 1)) by rw [hq.out, show g - k = 0 by omega, show g - (k + 1) = 0 by omega]; rfl)
          clear hq
          go_wp2
          go_round
          case rel => exact ⟨k + 1, by omega, by omega, by go_num, HN⟩
          case measure => simp [intOf]; omega
    · obtain rfl : k = g + z := by omega
      have HR := Lib.hid (HW.out.2.2 hak hq.out)
      have hm : s.size ≤ maxLen := by unfold maxLen; omega
      have HT := Lib.hid (refTake_any s ((a : Int) + (g : Nat)) z hm (WalkArith.wf_i64 (by omega)))
      clear hq hm
      go_wp2_with (go_at_call 33; refine (HT.out _).mono ?_; rintro e w3 ⟨rfl, rfl⟩)
      go_region
      all_goals go_wp2
      all_goals (go_returns; exact ⟨ret_n2 HR.out.1 (by rw [HR.out.2.1]; omega) HR.out.2.2.symm, by go_grown⟩)
theorem refBTake_any (s : ByteArray) (a : Nat) (z : Int) (ha : a ≤ s.size) (hs : s.size ≤ 281474976710656) (w : World) :
    Calls Try.prog 19 #[.string s, .agg #[.int .i64 a, .int .i64 0], .int .i64 z] w fun e w' => e = .returned (.tuple #[.int .u64 (tkN s a z), .agg #[.int .i64 (tkA s a z : Nat), .int .i64 (tkE s a z)]]) ∧ Below w.heap.size w w' := by
  cases hz : isSz z with
  | false => exact refTake_no s a z hz w
  | true =>
    obtain ⟨m, rfl⟩ : ∃ m : Nat, z = m := Int.eq_ofNat_of_zero_le (by rcases isSz_cases hz with h | h | h | h <;> omega)
    exact refTake_sz s a m hz ha hs w
end Go.Proofs.Ytgiaidoaadjfkaa
