/- The walk of AlignPuts. -/
import Derived.Test.YtgiaidoaadjfkaaAlignAwake
import Derived.Test.YtgiaidoaadjfkaaAlignParts
import Derived.Deep.RegionHeld3
namespace Go.Proofs.Ytgiaidoaadjfkaa
open Go.RowKit
set_option linter.unusedVariables false
set_option maxHeartbeats 4000000 in
set_option maxRecDepth 100000 in
theorem puts_walk (ao : Option Addr) (len cap : Nat) (L : Nat → PartV) (a z : Int) (hm : len ≤ maxLen) (ha : (Lit.int .i64 a).wf = true) (w : World) (h : ∀ i, i < len → PartAt w ao i (L i)) :
    Calls Try.prog 3 #[.slice ao len cap, .int .i64 a, .int .i64 z] w fun e w' => e = .returned (.bool true) ∧ Below w.heap.size w w' := by
  unfold maxLen at hm
  have H := Lib.hid h
  clear h
  by_cases hl : 200 < len
  · go_enter Try.func3, Try.ntmps3
    go_wp2_with (go_at_call 7; refine (awake2_any _).mono ?_; rintro e w1 ⟨rfl, hb⟩)
    go_ret
    exact ⟨rfl, hb⟩
  · have HN := Lib.hid (buf_new w)
    go_enter Try.func3, Try.ntmps3
    go_wp2_with (go_at_call 8; refine (new_any _).mono ?_; rintro e w1 ⟨rfl, rfl⟩)
    go_loopw [8, 9] (fun t i wr => ∃ (k : Nat) (v : Value) (s : ByteArray), k ≤ len ∧ i = .int .i64 k ∧ t = .string s ∧ s.size ≤ k * 400 ∧ Hid (BufAt w.heap.size v s wr) ∧ Below w.heap.size w wr) (fun _ i _ => len - (intOf i).toNat)
    case atStart => exact ⟨0, _, _, Nat.zero_le _, rfl, rfl, by decide, HN.out, new_below w _⟩
    case round =>
      obtain ⟨k, v, s, hk, rfl, rfl, hs, HX, hr⟩ := hrel
      by_cases hlt : k < len
      · obtain ⟨b, off, rfl, c0, c1, c2, c3, wn, wz, hts⟩ := (H.out k hlt).held hr
        by_cases hlong : 300 < (L k).text.size
        · go_wp2_with (go_at_call 7; refine (awake2_any _).mono ?_; rintro e w1 ⟨rfl, hb⟩)
          go_ret
          exact ⟨rfl, below_step hr hb⟩
        · cases hp : (L k).plain with
          | true =>
            rw [hp] at c0
            have hb0 : b < w.heap.size := by obtain ⟨b', off', e', x0, _⟩ := H.out k hlt; cases e'; exact lt_of_cell x0
            clear c1 c2
            go_wp2_with (go_at_call 9; refine (text_any _ _ _ _ _ HX.out (by omega)).mono ?_; rintro e w1 ⟨rfl, v1, h1, o1, f1⟩; have c3 := keep_buf HX.out o1 hb0 c3; have HB2 := Lib.hid h1; have O2 := Lib.hid o1; clear h1 o1 f1)
            go_wp2_with (first
              | (go_at_call 12; refine (len_any _ _ _ _ HB2.out).mono ?_; rintro e w3 ⟨rfl, rfl⟩)
              | (go_at_call 13; refine (bytes_any _ _ _ _ HB2.out).mono ?_; rintro e w3 ⟨rfl, rfl⟩))
            go_roundw
            case rel => exact ⟨k + 1, _, _, by omega, by go_num, rfl, by rw [ByteArray.size_append]; omega, HB2, hr.trans (HX.out.below O2.out)⟩
            case measure => simp [intOf]; omega
          | false =>
            rw [hp] at c0
            go_wp2
            go_region_held3 (fun w' => w'.cell? ⟨b, off + k * 4 + 1, none⟩ = some (.int .u64 (L k).num) ∧ w'.cell? ⟨b, off + k * 4 + 2, none⟩ = some (.int .i64 (L k).size)) (first | exact ⟨keep hb1 c1, keep hb1 c2⟩ | go_keep) (first | (go_at_call 10; refine (refBPut_any _ _ _ wn (by omega) _).mono ?_; rintro e w1 ⟨rfl, hb1⟩))
            have hb2 : Below wr.heap.size wr w1 := (Below.refl _ wr).drew.trans hb1
            have HB1 := Lib.hid ((HX.out).step hb2)
            have hr1 := below_step hr hb2
            clear hb2
            have d1 := keep hb1 c1
            have d2 := keep hb1 c2
            have hb0 : b < w.heap.size := by obtain ⟨b', off', e', x0, _⟩ := H.out k hlt; cases e'; exact lt_of_cell x0
            clear hb1 hr c0 c1 c2 c3
            have hbs := bufPut_size s (L k).num (L k).size
            go_wp2
            go_region_held3 (fun w' => w'.cell? ⟨b, off + k * 4 + 1, none⟩ = some (.int .u64 (L k).num) ∧ w'.cell? ⟨b, off + k * 4 + 2, none⟩ = some (.int .i64 (L k).size)) (first | exact ⟨keep_buf HB1.out.drew o2 hb0 d1, keep_buf HB1.out.drew o2 hb0 d2⟩ | go_keep) (first | (go_at_call 11; refine (bput_any _ _ _ _ _ _ HB1.out.drew wn (by omega)).mono ?_; rintro e w2 ⟨rfl, v2, h2, o2, f2⟩))
            have HB2 := Lib.hid h2
            clear f2 h2
            have O2 := Lib.hid o2
            clear o2 d1 d2
            go_wp2_with (first
              | (go_at_call 12; refine (len_any _ _ _ _ HB2.out).mono ?_; rintro e w3 ⟨rfl, rfl⟩)
              | (go_at_call 13; refine (bytes_any _ _ _ _ HB2.out).mono ?_; rintro e w3 ⟨rfl, rfl⟩))
            go_roundw
            case rel => exact ⟨k + 1, _, _, by omega, by go_num, rfl, by omega, HB2, (hr1.drew).trans (HB1.out.drew.below O2.out)⟩
            case measure => simp [intOf]; omega
      · obtain rfl : k = len := by omega
        have hg1 := fun w => gap_any a z ha w
        have hg2 := fun w => refGap_any a z ha w
        have HG1 := Lib.hid hg1
        have HG2 := Lib.hid hg2
        clear hg1 hg2
        go_wp2_with (first
          | (go_at_call 14; refine (HG1.out _).mono ?_; rintro e w3 ⟨rfl, rfl⟩)
          | (go_at_call 15; refine (HG2.out _).mono ?_; rintro e w3 ⟨rfl, rfl⟩)
          | (go_at_call 7; refine (awake2_any _).mono ?_; rintro e w3 ⟨rfl, hb⟩))
        go_ret
        exact ⟨rfl, below_step hr hb⟩
end Go.Proofs.Ytgiaidoaadjfkaa
