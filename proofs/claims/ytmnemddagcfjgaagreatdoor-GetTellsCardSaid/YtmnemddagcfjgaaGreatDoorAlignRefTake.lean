/- Contracts of the reference of chapter 2: Zeros, Put, Take, Text, Done. -/
import Derived.Test.YtmnemddagcfjgaaGreatDoorAlignRefPut
import Derived.Test.YtmnemddagcfjgaaGreatDoorAlignText
import Derived.OwnWalk
import Derived.RegionTactic
import Derived.StillTailTactics
namespace Go.Proofs.YtmnemddagcfjgaaGreatDoor
open Go.RowKit
set_option linter.unusedVariables false
theorem ret_s2 {s t : ByteArray} {a b c d : Int} (h : s = t) (h1 : a = b) (h2 : c = d) : Ending.returned (.tuple #[.string s, .agg #[.int .i64 a, .int .i64 c]]) = .returned (.tuple #[.string t, .agg #[.int .i64 b, .int .i64 d]]) := by rw [h, h1, h2]
theorem refText_any (s : ByteArray) (a : Nat) (n : Int) (ha : a ≤ s.size) (hs : s.size ≤ 281474976710656) (hn : (Lit.int .i64 n).wf = true) (w : World) :
    Calls Tryz.prog 88 #[.string s, .agg #[.int .i64 a, .int .i64 0], .int .i64 n] w fun e w' => e = .returned (.tuple #[.string (txS s a n), .agg #[.int .i64 (txA s a n : Nat), .int .i64 (txE s a n)]]) ∧ Below w.heap.size w w' := by
  obtain ⟨hn0, hn1⟩ := bounds_i64 hn
  clear hn
  by_cases hneg : n < 0
  · rw [(tx_neg hneg).1, (tx_neg hneg).2.1, (tx_neg hneg).2.2]
    go_enter Tryz.func88, Tryz.ntmps88
    go_wp2
    go_region
    all_goals go_wp2
    all_goals (go_returns; exact ⟨rfl, by go_grown⟩)
  · have hnn : 0 ≤ n := by omega
    have hd : decide (n < 0) = false := by simpa using hnn
    obtain ⟨m, rfl⟩ := Int.eq_ofNat_of_zero_le hnn
    clear hneg hnn
    by_cases hsh : (s.size : Int) - a < m
    · rw [(tx_short (by omega) hsh).1, (tx_short (by omega) hsh).2.1, (tx_short (by omega) hsh).2.2]
      go_enter Tryz.func88, Tryz.ntmps88
      go_wp2
      go_region
      all_goals go_wp2
      all_goals (go_returns; exact ⟨rfl, by go_grown⟩)
    · have hle : a + m ≤ s.size := by omega
      rw [(tx_in hle).1, (tx_in hle).2.1, (tx_in hle).2.2]
      have hsl : ∀ wx : World, (Instr.slice 9 (.string s) (some (.int .i64 (a : Int))) (some (.int .i64 ((a : Int) + (m : Nat)))) none).run Tryz.prog wx = .ok (.string (s.extract a (a + m))) wx := fun wx => by
        have h := run_slice_string (P := Tryz.prog) wx 9 s .i64 .i64 (a : Int) ((a : Int) + (m : Nat)) Tryz.underlying9 (by omega) (by omega) (by omega)
        rw [h]
        congr 3
      have HS := Lib.hid hsl
      clear hsl
      have HW1 := Lib.hid (IntWalk.i64_in ((a : Int) + (m : Nat)) (by omega))
      go_enter Tryz.func88, Tryz.ntmps88
      go_wp2
      have hw1 := HW1.out
      have hsl := HS.out
      go_region
      all_goals clear hw1 hsl
      all_goals go_wp2
      all_goals (go_returns; exact ⟨ret_s2 rfl (Int.natCast_add _ _).symm rfl, by go_grown⟩)
theorem refText_err (s : ByteArray) (a er n : Int) (he : er ≠ 0) (w : World) :
    Calls Tryz.prog 88 #[.string s, .agg #[.int .i64 a, .int .i64 er], .int .i64 n] w fun e w' => e = .returned (.tuple #[.string ⟨#[]⟩, .agg #[.int .i64 a, .int .i64 er]]) ∧ Below w.heap.size w w' := by
  have hne : (er != 0) = true := by simpa using he
  clear he
  go_enter Tryz.func88, Tryz.ntmps88
  go_wp2
  go_region
  all_goals go_wp2
  all_goals (go_returns; exact ⟨rfl, by go_grown⟩)
theorem ret_n2 {a b c d e f : Int} (h : a = b) (h1 : c = d) (h2 : e = f) : Ending.returned (.tuple #[.int .u64 a, .agg #[.int .i64 c, .int .i64 e]]) = .returned (.tuple #[.int .u64 b, .agg #[.int .i64 d, .int .i64 f]]) := by rw [h, h1, h2]
theorem refTake_err (s : ByteArray) (a er z : Int) (he : er ≠ 0) (w : World) :
    Calls Tryz.prog 82 #[.string s, .agg #[.int .i64 a, .int .i64 er], .int .i64 z] w fun e w' => e = .returned (.tuple #[.int .u64 0, .agg #[.int .i64 a, .int .i64 er]]) ∧ Below w.heap.size w w' := by
  have hne : (er != 0) = true := by simpa using he
  clear he
  go_enter Tryz.func82, Tryz.ntmps82
  go_wp2
  go_region
  all_goals go_wp2
  all_goals (go_returns; exact ⟨rfl, by go_grown⟩)
theorem refTake_no (s : ByteArray) (a : Nat) (z : Int) (hz : isSz z = false) (w : World) :
    Calls Tryz.prog 82 #[.string s, .agg #[.int .i64 a, .int .i64 0], .int .i64 z] w fun e w' => e = .returned (.tuple #[.int .u64 (tkN s a z), .agg #[.int .i64 (tkA s a z : Nat), .int .i64 (tkE s a z)]]) ∧ Below w.heap.size w w' := by
  have h4 : tkE s a z ≠ 0 := by rw [tk_no hz]; omega
  rw [(tk_bad h4).1, (tk_bad h4).2, tk_no hz]
  clear h4
  go_enter Tryz.func82, Tryz.ntmps82
  go_wp2_with (go_at_call 131; refine (refSized_any _ _).mono ?_; rintro e w' ⟨rfl, rfl⟩)
  go_region
  all_goals go_wp2
  all_goals (go_returns; exact ⟨rfl, by go_grown⟩)
end Go.Proofs.YtmnemddagcfjgaaGreatDoor
namespace Go.Proofs.YtmnemddagcfjgaaGreatDoor
open Go.RowKit
set_option linter.unusedVariables false
theorem run_loop_ok (s : ByteArray) (a z g : Nat) (hz : isSz (z : Nat) = true) (ha : a ≤ s.size) (hg : gapN a z = g) :
    (∀ k, k < g + z → s.size ≤ a + k → scanE s a g = scanE s (a + k) (g - k) → tkN s a z = 0 ∧ tkA s a z = a ∧ tkE s a z = 2) ∧
    (∀ k, k < g → a + k < s.size → byteAt s (a + k) ≠ 0 → scanE s a g = scanE s (a + k) (g - k) → tkN s a z = 0 ∧ tkA s a z = a ∧ tkE s a z = 12) ∧
    (a + (g + z) ≤ s.size → scanE s a g = scanE s (a + (g + z)) (g - (g + z)) → takeN s ((a : Int) + (g : Nat)) z = tkN s a z ∧ tkA s a z = a + g + z ∧ tkE s a z = 0) := by
  subst hg
  refine ⟨fun k hk hs hq => ?_, fun k hk hl hp hq => ?_, fun hl hq => ?_⟩
  · have e : tkE s a z = 2 := by
      by_cases c : k < gapN a z
      · rw [show gapN a z - k = (gapN a z - k - 1) + 1 by omega, scan_short hs] at hq
        rw [tk_scan (by omega), hq]
      · rw [show gapN a z - k = 0 by omega] at hq
        exact tk_short hz ha hq (by omega)
    exact ⟨(tk_bad (by omega)).1, (tk_bad (by omega)).2, e⟩
  · have e : tkE s a z = 12 := by
      rw [show gapN a z - k = (gapN a z - k - 1) + 1 by omega, scan_pad hl hp] at hq
      rw [tk_scan (by omega), hq]
    exact ⟨(tk_bad (by omega)).1, (tk_bad (by omega)).2, e⟩
  · rw [show gapN a z - (gapN a z + z) = 0 by omega] at hq
    obtain ⟨h1, h2, h3⟩ := tk_ok hz hq (by omega)
    refine ⟨?_, by simpa using h3, h1⟩
    rw [h2, ← Int.natCast_add]
    exact (take_in hz (by omega)).2
set_option maxHeartbeats 1000000 in
theorem refTake_sz (s : ByteArray) (a z : Nat) (hz : isSz (z : Nat) = true) (ha : a ≤ s.size) (hs : s.size ≤ 281474976710656) (w : World) :
    Calls Tryz.prog 82 #[.string s, .agg #[.int .i64 a, .int .i64 0], .int .i64 z] w fun e w' => e = .returned (.tuple #[.int .u64 (tkN s a z), .agg #[.int .i64 (tkA s a z : Nat), .int .i64 (tkE s a z)]]) ∧ Below w.heap.size w w' := by
  have hg7 := gapN_le a z
  have hz8 : z ≤ 8 := by rcases isSz_cases hz with h | h | h | h <;> omega
  have hgap : ∀ w : World, Calls Tryz.prog 132 #[.int .i64 (a : Nat), .int .i64 z] w fun e w' => e = .returned (.int .i64 (gapN a z : Nat)) ∧ w = w' := fun w => by
    rw [← gapN_eq]; exact refGap_any _ z (WalkArith.wf_i64 (by omega)) w
  obtain ⟨g, hgg⟩ : ∃ g : Nat, gapN a z = g := ⟨_, rfl⟩
  rw [hgg] at hgap hg7
  have HGG := Lib.hid hgg
  have HG := Lib.hid hgap
  clear hgap hgg
  go_enter Tryz.func82, Tryz.ntmps82
  go_wp2_with (first
    | (go_at_call 131; refine (refSized_any _ _).mono ?_; rintro e w' ⟨rfl, rfl⟩)
    | (go_at_call 132; refine (HG.out _).mono ?_; rintro e w1 ⟨rfl, rfl⟩))
  have HW := Lib.hid (run_loop_ok s a z g hz ha HGG.out)
  go_loop [9] (fun i => ∃ k : Nat, k ≤ g + z ∧ a + k ≤ s.size ∧ i = .int .i64 k ∧ Hid (scanE s a g = scanE s (a + k) (g - k))) (fun i => g + z - (intOf i).toNat)
  case atStart => exact ⟨0, Nat.zero_le _, by omega, rfl, rfl⟩
  case round =>
    obtain ⟨k, hk, hak, rfl, hq⟩ := hrel
    by_cases hlt : k < g + z
    · by_cases hsh : s.size ≤ a + k
      · have HR := Lib.hid (HW.out.1 k hlt hsh hq.out)
        clear hq
        go_wp2
        go_region
        all_goals go_wp2
        all_goals (go_returns; exact ⟨ret_n2 HR.out.1.symm (by rw [HR.out.2.1]) HR.out.2.2.symm, by go_grown⟩)
      · have hlt2 : a + k < s.size := by omega
        by_cases hkg : k < g
        · by_cases hpad : byteAt s (a + k) = 0
          · have HN := Lib.hid (show scanE s a g = scanE s (a + (k + 1)) (g - (k + 1)) by rw [hq.out, show g - k = (g - (k + 1)) + 1 by omega, scan_ok hlt2 hpad]; rfl)
            have hb : (((s[a + k].toNat : Nat) : Int) != 0) = false := by rw [byteAt_get s _ hlt2, hpad]; rfl
            clear hq hpad
            go_wp2
            go_round
            case rel => exact ⟨k + 1, by omega, by omega, by go_num, HN⟩
            case measure => simp [intOf]; omega
          · have HR := Lib.hid (HW.out.2.1 k hkg hlt2 hpad hq.out)
            have hb : (((s[a + k].toNat : Nat) : Int) != 0) = true := by rw [byteAt_get s _ hlt2]; simpa using hpad
            clear hq hpad
            go_wp2
            go_region
            all_goals go_wp2
            all_goals (go_returns; exact ⟨ret_n2 HR.out.1.symm (by rw [HR.out.2.1]) HR.out.2.2.symm, by go_grown⟩)
        · have HN := Lib.hid (show scanE s a g = scanE s (a + (k + 1)) (g - (k + 1)) by rw [hq.out, show g - k = 0 by omega, show g - (k + 1) = 0 by omega]; rfl)
          clear hq
          go_wp2
          go_round
          case rel => exact ⟨k + 1, by omega, by omega, by go_num, HN⟩
          case measure => simp [intOf]; omega
    · obtain rfl : k = g + z := by omega
      have HR := Lib.hid (HW.out.2.2 hak hq.out)
      have hm : s.size ≤ maxLen := by unfold maxLen; omega
      have HT := Lib.hid (refTake_any s ((a : Int) + (g : Nat)) z hm (WalkArith.wf_i64 (by omega)))
      clear hq hm
      go_wp2_with (go_at_call 133; refine (HT.out _).mono ?_; rintro e w3 ⟨rfl, rfl⟩)
      go_region
      all_goals go_wp2
      all_goals (go_returns; exact ⟨ret_n2 HR.out.1 (by rw [HR.out.2.1]; omega) HR.out.2.2.symm, by go_grown⟩)
theorem refBTake_any (s : ByteArray) (a : Nat) (z : Int) (ha : a ≤ s.size) (hs : s.size ≤ 281474976710656) (w : World) :
    Calls Tryz.prog 82 #[.string s, .agg #[.int .i64 a, .int .i64 0], .int .i64 z] w fun e w' => e = .returned (.tuple #[.int .u64 (tkN s a z), .agg #[.int .i64 (tkA s a z : Nat), .int .i64 (tkE s a z)]]) ∧ Below w.heap.size w w' := by
  cases hz : isSz z with
  | false => exact refTake_no s a z hz w
  | true =>
    obtain ⟨m, rfl⟩ : ∃ m : Nat, z = m := Int.eq_ofNat_of_zero_le (by rcases isSz_cases hz with h | h | h | h <;> omega)
    exact refTake_sz s a m hz ha hs w
end Go.Proofs.YtmnemddagcfjgaaGreatDoor
