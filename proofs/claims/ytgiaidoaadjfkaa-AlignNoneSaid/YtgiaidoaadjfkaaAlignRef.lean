/- Contracts of the reference of chapter 2: Zeros, Put, Take, Text, Done. -/
import Derived.Test.YtgiaidoaadjfkaaAlignBuf
import Derived.Test.YtgiaidoaadjfkaaAlignText
import Derived.OwnWalk
import Derived.RegionTactic
import Derived.StillTailTactics
namespace Go.Proofs.Ytgiaidoaadjfkaa
open Go.RowKit
set_option linter.unusedVariables false
theorem refZeros_any (n : Nat) (hn : n ≤ 1000000) (w : World) : Calls Try.prog 27 #[.int .i64 n] w fun e w' => e = .returned (.string (zerosB n)) ∧ Below w.heap.size w w' := by
  obtain ⟨i0, hi, hz0, hz1, hz2⟩ := info_parts info8
  go_enter Try.func27, Try.ntmps27
  go_wp2_with (refine wpList_make_full _ rfl (.tmp 3) (.tmp 3) 56 rfl w.heap.size 5 i0 (.int .u8 0) 1 Try.underlying56 hi hz0 hz1 .i64 .i64 n n n rfl rfl rfl rfl (by rw [hz2]; omega) (by unfold maxLen; omega) (Nat.le_refl _) ?_)
  intro w1 hown hg
  have hown' : w1.ownsRow w.heap.size 5 1 (.slice (some ⟨w.heap.size, 0, none⟩) n n) (zerosB n).size (Lib.strCells (zerosB n)) := by
    rw [zerosB_size, strCells_zeros]
    have e : (madeCells #[Value.int .u8 0] n).toList = List.replicate n (.int .u8 0) := toList_madeCells_one _ _
    rw [← e]; exact hown
  have hcv := conv_row w1 _ _ _ hown'
  have HB := Lib.hid ((Below.refl w.heap.size w).grown hg (Nat.le_refl _) (fun k hk => by cases hk))
  clear hown hg hown'
  go_wp2
  go_ret
  exact ⟨rfl, HB.out⟩
theorem refBPut_any (t : ByteArray) (n z : Int) (hn : (Lit.int .u64 n).wf = true) (ht : t.size ≤ 281474976710656) (w : World) :
    Calls Try.prog 10 #[.string t, .int .u64 n, .int .i64 z] w fun e w' => e = .returned (.tuple #[.string (bufPut t n z), .int .i64 (putE n z)]) ∧ Below w.heap.size w w' := by
  by_cases he : putE n z = 0
  · obtain ⟨h1, h1f⟩ := put_zero he
    have hput : ∀ w : World, Calls Try.prog 26 #[.int .u64 n, .int .i64 z] w fun e w' => e = .returned (.tuple #[.string (putS n z), .int .i64 0]) ∧ Below w.heap.size w w' := fun w => by
      have h := refPut_any n z hn w
      rw [(put_in h1 h1f).1, he] at h
      exact h
    have HB := Lib.hid (show bufPut t n z = t ++ zerosB (gapN t.size z) ++ putS n z by unfold bufPut; rw [if_pos he]; rfl)
    have hg7 := gapN_le t.size z
    have hgap : ∀ w : World, Calls Try.prog 15 #[.int .i64 (t.size : Nat), .int .i64 z] w fun e w' => e = .returned (.int .i64 (gapN t.size z : Nat)) ∧ w = w' := fun w => by
      rw [← gapN_eq]; exact refGap_any _ z (WalkArith.wf_i64 (by omega)) w
    rw [he, HB.out]
    have hr := Below.refl w.heap.size w
    have hz7 : (zerosB (gapN t.size z)).size ≤ 7 := by rw [zerosB_size]; exact hg7
    have hp8 : (putS n z).size ≤ 8 := by rw [putS_size]; rcases isSz_cases h1 with rfl | rfl | rfl | rfl <;> simp
    have HP := Lib.hid hput
    have HG := Lib.hid hgap
    clear HB he hput hgap
    go_enter Try.func10, Try.ntmps10
    go_wp2_with (first
      | (go_at_call 26; refine (HP.out _).mono ?_; rintro e w1 ⟨rfl, hb⟩; have hr := below_step hr hb; clear hb)
      | (go_at_call 15; refine (HG.out _).mono ?_; rintro e w1 ⟨rfl, rfl⟩)
      | (go_at_call 27; refine (refZeros_any _ (by omega) _).mono ?_; rintro e w1 ⟨rfl, hb⟩; have hr := below_step hr hb; clear hb))
    go_ret2
    exact ⟨rfl, hr⟩
  · have he' : (putE n z != 0) = true := by simpa using he
    have HB := Lib.hid (show bufPut t n z = t by unfold bufPut; rw [if_neg he])
    rw [HB.out]
    clear he HB
    have hr := Below.refl w.heap.size w
    go_enter Try.func10, Try.ntmps10
    go_wp2_with (go_at_call 26; refine (refPut_any _ _ hn _).mono ?_; rintro e w1 ⟨rfl, hb⟩; have hr := below_step hr hb; clear hb)
    go_ret2
    exact ⟨rfl, hr⟩
theorem refDone_any (s : ByteArray) (a er : Int) (w : World) : Calls Try.prog 24 #[.string s, .agg #[.int .i64 a, .int .i64 er]] w fun e w' => e = .returned (.int .i64 (dnE s a er)) ∧ Below w.heap.size w w' := by
  by_cases he : er = 0
  · subst he
    by_cases hl : a < s.size
    · have HD := Lib.hid (show dnE s a 0 = 1 by unfold dnE; rw [if_pos rfl, if_pos hl])
      go_enter Try.func24, Try.ntmps24
      go_wp2
      go_ret
      exact ⟨ret_int HD.out.symm, (Below.refl _ _).alloc (Nat.le_refl _) _⟩
    · have HD := Lib.hid (show dnE s a 0 = 0 by unfold dnE; rw [if_pos rfl, if_neg hl])
      go_enter Try.func24, Try.ntmps24
      go_wp2
      go_ret
      exact ⟨ret_int HD.out.symm, (Below.refl _ _).alloc (Nat.le_refl _) _⟩
  · have hne : (er == 0) = false := by simpa using he
    have HD := Lib.hid (show dnE s a er = er by unfold dnE; rw [if_neg he])
    clear he
    go_enter Try.func24, Try.ntmps24
    go_wp2
    go_ret
    exact ⟨ret_int HD.out.symm, (Below.refl _ _).alloc (Nat.le_refl _) _⟩
theorem ret_s2 {s t : ByteArray} {a b c d : Int} (h : s = t) (h1 : a = b) (h2 : c = d) : Ending.returned (.tuple #[.string s, .agg #[.int .i64 a, .int .i64 c]]) = .returned (.tuple #[.string t, .agg #[.int .i64 b, .int .i64 d]]) := by rw [h, h1, h2]
theorem refText_any (s : ByteArray) (a : Nat) (n : Int) (ha : a ≤ s.size) (hs : s.size ≤ 281474976710656) (hn : (Lit.int .i64 n).wf = true) (w : World) :
    Calls Try.prog 17 #[.string s, .agg #[.int .i64 a, .int .i64 0], .int .i64 n] w fun e w' => e = .returned (.tuple #[.string (txS s a n), .agg #[.int .i64 (txA s a n : Nat), .int .i64 (txE s a n)]]) ∧ Below w.heap.size w w' := by
  obtain ⟨hn0, hn1⟩ := bounds_i64 hn
  clear hn
  by_cases hneg : n < 0
  · rw [(tx_neg hneg).1, (tx_neg hneg).2.1, (tx_neg hneg).2.2]
    go_enter Try.func17, Try.ntmps17
    go_wp2
    go_region
    all_goals go_wp2
    all_goals (go_returns; exact ⟨rfl, by go_grown⟩)
  · have hnn : 0 ≤ n := by omega
    have hd : decide (n < 0) = false := by simpa using hnn
    obtain ⟨m, rfl⟩ := Int.eq_ofNat_of_zero_le hnn
    clear hneg hnn
    by_cases hsh : (s.size : Int) - a < m
    · rw [(tx_short (by omega) hsh).1, (tx_short (by omega) hsh).2.1, (tx_short (by omega) hsh).2.2]
      go_enter Try.func17, Try.ntmps17
      go_wp2
      go_region
      all_goals go_wp2
      all_goals (go_returns; exact ⟨rfl, by go_grown⟩)
    · have hle : a + m ≤ s.size := by omega
      rw [(tx_in hle).1, (tx_in hle).2.1, (tx_in hle).2.2]
      have hsl : ∀ wx : World, (Instr.slice 9 (.string s) (some (.int .i64 (a : Int))) (some (.int .i64 ((a : Int) + (m : Nat)))) none).run Try.prog wx = .ok (.string (s.extract a (a + m))) wx := fun wx => by
        have h := run_slice_string (P := Try.prog) wx 9 s .i64 .i64 (a : Int) ((a : Int) + (m : Nat)) Try.underlying9 (by omega) (by omega) (by omega)
        rw [h]
        congr 3
      have HS := Lib.hid hsl
      clear hsl
      have HW1 := Lib.hid (IntWalk.i64_in ((a : Int) + (m : Nat)) (by omega))
      go_enter Try.func17, Try.ntmps17
      go_wp2
      have hw1 := HW1.out
      have hsl := HS.out
      go_region
      all_goals clear hw1 hsl
      all_goals go_wp2
      all_goals (go_returns; exact ⟨ret_s2 rfl (Int.natCast_add _ _).symm rfl, by go_grown⟩)
theorem refText_err (s : ByteArray) (a er n : Int) (he : er ≠ 0) (w : World) :
    Calls Try.prog 17 #[.string s, .agg #[.int .i64 a, .int .i64 er], .int .i64 n] w fun e w' => e = .returned (.tuple #[.string ⟨#[]⟩, .agg #[.int .i64 a, .int .i64 er]]) ∧ Below w.heap.size w w' := by
  have hne : (er != 0) = true := by simpa using he
  clear he
  go_enter Try.func17, Try.ntmps17
  go_wp2
  go_region
  all_goals go_wp2
  all_goals (go_returns; exact ⟨rfl, by go_grown⟩)
theorem ret_n2 {a b c d e f : Int} (h : a = b) (h1 : c = d) (h2 : e = f) : Ending.returned (.tuple #[.int .u64 a, .agg #[.int .i64 c, .int .i64 e]]) = .returned (.tuple #[.int .u64 b, .agg #[.int .i64 d, .int .i64 f]]) := by rw [h, h1, h2]
theorem refTake_err (s : ByteArray) (a er z : Int) (he : er ≠ 0) (w : World) :
    Calls Try.prog 19 #[.string s, .agg #[.int .i64 a, .int .i64 er], .int .i64 z] w fun e w' => e = .returned (.tuple #[.int .u64 0, .agg #[.int .i64 a, .int .i64 er]]) ∧ Below w.heap.size w w' := by
  have hne : (er != 0) = true := by simpa using he
  clear he
  go_enter Try.func19, Try.ntmps19
  go_wp2
  go_region
  all_goals go_wp2
  all_goals (go_returns; exact ⟨rfl, by go_grown⟩)
theorem refTake_no (s : ByteArray) (a : Nat) (z : Int) (hz : isSz z = false) (w : World) :
    Calls Try.prog 19 #[.string s, .agg #[.int .i64 a, .int .i64 0], .int .i64 z] w fun e w' => e = .returned (.tuple #[.int .u64 (tkN s a z), .agg #[.int .i64 (tkA s a z : Nat), .int .i64 (tkE s a z)]]) ∧ Below w.heap.size w w' := by
  have h4 : tkE s a z ≠ 0 := by rw [tk_no hz]; omega
  rw [(tk_bad h4).1, (tk_bad h4).2, tk_no hz]
  clear h4
  go_enter Try.func19, Try.ntmps19
  go_wp2_with (go_at_call 31; refine (refSized_any _ _).mono ?_; rintro e w' ⟨rfl, rfl⟩)
  go_region
  all_goals go_wp2
  all_goals (go_returns; exact ⟨rfl, by go_grown⟩)
end Go.Proofs.Ytgiaidoaadjfkaa
