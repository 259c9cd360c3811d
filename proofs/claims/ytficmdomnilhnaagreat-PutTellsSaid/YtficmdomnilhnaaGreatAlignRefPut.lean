/- Contracts of the reference of chapter 2: Zeros, Put. -/
import Derived.Test.YtficmdomnilhnaaGreatAlignBuf
import Derived.Test.YtficmdomnilhnaaGreatAlignCurMath
import Derived.OwnWalk
import Derived.RegionTactic
import Derived.StillTailTactics
namespace Go.Proofs.YtficmdomnilhnaaGreat
open Go.RowKit
set_option linter.unusedVariables false
theorem refZeros_any (n : Nat) (hn : n ≤ 1000000) (w : World) : Calls Tryz.prog 63 #[.int .i64 n] w fun e w' => e = .returned (.string (zerosB n)) ∧ Below w.heap.size w w' := by
  obtain ⟨i0, hi, hz0, hz1, hz2⟩ := info_parts info8
  go_enter Tryz.func63, Tryz.ntmps63
  go_wp2_with (refine wpList_make_full _ rfl (.tmp 3) (.tmp 3) 73 rfl w.heap.size 5 i0 (.int .u8 0) 1 Tryz.underlying73 hi hz0 hz1 .i64 .i64 n n n rfl rfl rfl rfl (by rw [hz2]; omega) (by unfold maxLen; omega) (Nat.le_refl _) ?_)
  intro w1 hown hg
  have hown' : w1.ownsRow w.heap.size 5 1 (.slice (some ⟨w.heap.size, 0, none⟩) n n) (zerosB n).size (Lib.strCells (zerosB n)) := by
    rw [zerosB_size, strCells_zeros]
    have e : (madeCells #[Value.int .u8 0] n).toList = List.replicate n (.int .u8 0) := toList_madeCells_one _ _
    rw [← e]; exact hown
  have hcv := conv_row w1 _ _ _ hown'
  have HB := Lib.hid ((Below.refl w.heap.size w).grown hg (Nat.le_refl _) (fun k hk => by cases hk))
  clear hown hg hown'
  go_wp2
  go_ret
  exact ⟨rfl, HB.out⟩
theorem refBPut_any (t : ByteArray) (n z : Int) (hn : (Lit.int .u64 n).wf = true) (ht : t.size ≤ 281474976710656) (w : World) :
    Calls Tryz.prog 37 #[.string t, .int .u64 n, .int .i64 z] w fun e w' => e = .returned (.tuple #[.string (bufPut t n z), .int .i64 (putE n z)]) ∧ Below w.heap.size w w' := by
  by_cases he : putE n z = 0
  · obtain ⟨h1, h1f⟩ := put_zero he
    have hput : ∀ w : World, Calls Tryz.prog 62 #[.int .u64 n, .int .i64 z] w fun e w' => e = .returned (.tuple #[.string (putS n z), .int .i64 0]) ∧ Below w.heap.size w w' := fun w => by
      have h := refPut_any n z hn w
      rw [(put_in h1 h1f).1, he] at h
      exact h
    have HB := Lib.hid (show bufPut t n z = t ++ zerosB (gapN t.size z) ++ putS n z by unfold bufPut; rw [if_pos he]; rfl)
    have hg7 := gapN_le t.size z
    have hgap : ∀ w : World, Calls Tryz.prog 26 #[.int .i64 (t.size : Nat), .int .i64 z] w fun e w' => e = .returned (.int .i64 (gapN t.size z : Nat)) ∧ w = w' := fun w => by
      rw [← gapN_eq]; exact refGap_any _ z (WalkArith.wf_i64 (by omega)) w
    rw [he, HB.out]
    have hr := Below.refl w.heap.size w
    have hz7 : (zerosB (gapN t.size z)).size ≤ 7 := by rw [zerosB_size]; exact hg7
    have hp8 : (putS n z).size ≤ 8 := by rw [putS_size]; rcases isSz_cases h1 with rfl | rfl | rfl | rfl <;> simp
    have HP := Lib.hid hput
    have HG := Lib.hid hgap
    clear HB he hput hgap
    go_enter Tryz.func37, Tryz.ntmps37
    go_wp2_with (first
      | (go_at_call 62; refine (HP.out _).mono ?_; rintro e w1 ⟨rfl, hb⟩; have hr := below_step hr hb; clear hb)
      | (go_at_call 26; refine (HG.out _).mono ?_; rintro e w1 ⟨rfl, rfl⟩)
      | (go_at_call 63; refine (refZeros_any _ (by omega) _).mono ?_; rintro e w1 ⟨rfl, hb⟩; have hr := below_step hr hb; clear hb))
    go_ret2
    exact ⟨rfl, hr⟩
  · have he' : (putE n z != 0) = true := by simpa using he
    have HB := Lib.hid (show bufPut t n z = t by unfold bufPut; rw [if_neg he])
    rw [HB.out]
    clear he HB
    have hr := Below.refl w.heap.size w
    go_enter Tryz.func37, Tryz.ntmps37
    go_wp2_with (go_at_call 62; refine (refPut_any _ _ hn _).mono ?_; rintro e w1 ⟨rfl, hb⟩; have hr := below_step hr hb; clear hb)
    go_ret2
    exact ⟨rfl, hr⟩
end Go.Proofs.YtficmdomnilhnaaGreat
