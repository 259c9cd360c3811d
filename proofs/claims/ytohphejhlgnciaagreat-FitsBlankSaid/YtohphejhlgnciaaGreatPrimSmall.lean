/- Contracts of package prim: Number, Size, Signed, May, Low, Up, Datum. -/
import Derived.Test.YtohphejhlgnciaaGreatPrimRows
import Derived.Test.YtohphejhlgnciaaGreatPrimBackMath
import Derived.WalkSmall
import Derived.Laws.CopyOwn
namespace Go.Proofs.YtohphejhlgnciaaGreat
open Go.RowKit
set_option linter.unusedVariables false
theorem pstep {w w1 w2 : World} (h : Below w.heap.size w w1) (k : Below w1.heap.size w1 w2) : Below w.heap.size w w2 := h.trans (k.mono h.size)
theorem drewN_below' {B : Nat} {w w1 w2 : World} (h : Below B w w1) (k : ∃ m, w2 = w1.drewN m) : Below B w w2 := by
  obtain ⟨m, rfl⟩ := k; exact drewN_below h m
theorem number_any (k : Int) (w : World) : Calls Tryz.prog 41 #[.int .i64 k] w fun e w' => e = .returned (.bool (numK k)) ∧ Below w.heap.size w w' :=
  (number_same k w).mono fun _ _ ⟨a, b⟩ => ⟨a, b ▸ Below.refl _ _⟩
theorem row_size (a : Int) (b : Bool) (w : World) : (Instr.field 102 (.agg #[.int .i64 a, .bool b]) 0).run Tryz.prog w = .ok (.int .i64 a) w := by kernel_rfl
theorem row_sign (a : Int) (b : Bool) (w : World) : (Instr.field 102 (.agg #[.int .i64 a, .bool b]) 1).run Tryz.prog w = .ok (.bool b) w := by kernel_rfl
theorem size_any (k : Int) (w : World) : Calls Tryz.prog 97 #[.int .i64 k] w fun e w' => e = .returned (.int .i64 (szK k)) ∧ Below w.heap.size w w' := by
  have hf := row_size
  go_enter Tryz.func97, Tryz.ntmps97
  go_wp2_with (go_at_call 113; refine (rowOf_any _ _).mono ?_; rintro e w1 ⟨rfl, hb⟩)
  go_ret
  exact ⟨rfl, hb⟩
theorem signed_any (k : Int) (w : World) : Calls Tryz.prog 95 #[.int .i64 k] w fun e w' => e = .returned (.bool (sgK k)) ∧ Below w.heap.size w w' := by
  have hf := row_sign
  go_enter Tryz.func95, Tryz.ntmps95
  go_wp2_with (go_at_call 113; refine (rowOf_any _ _).mono ?_; rintro e w1 ⟨rfl, hb⟩)
  go_ret
  exact ⟨rfl, hb⟩
theorem szK_no {k : Int} (h : numK k = false) : szK k = 0 := by simp [numK] at h; unfold szK; rw [if_neg (by omega), if_neg (by omega), if_neg (by omega), if_neg (by omega)]
theorem low_bits (k n : Int) : bitsN (signZ n (szK k)) (szK k) = lowK k n := by
  unfold lowK
  cases hk : numK k with
  | false => rw [szK_no hk]; rfl
  | true =>
    have hz := szK_sz hk
    have hi : inR (signZ n (szK k)) (szK k) = true := by
      have := signZ_in n hz
      unfold inR; rw [Bool.and_eq_true]; exact ⟨decide_eq_true this.1, decide_eq_true (by omega)⟩
    rw [bitsN_in hz hi, if_pos rfl]
    unfold lowZ signZ
    rw [if_pos hz]
    split
    · exact Int.emod_emod_of_dvd n (Int.dvd_refl _)
    · rw [Int.sub_emod_right]; exact Int.emod_emod_of_dvd n (Int.dvd_refl _)
theorem low_any (k n : Int) (hn : (Lit.int .u64 n).wf = true) (w : World) : Calls Tryz.prog 98 #[.int .i64 k, .int .u64 n] w fun e w' => e = .returned (.int .u64 (lowK k n)) ∧ Below w.heap.size w w' := by
  have HB := Lib.hid (low_bits k n)
  obtain ⟨z, hz⟩ : ∃ z, szK k = z := ⟨_, rfl⟩
  have HS := Lib.hid (fun w => hz ▸ size_any k w)
  rw [hz] at HB
  clear hz
  go_enter Tryz.func98, Tryz.ntmps98
  go_wp2_with (first
    | (go_at_call 97; refine (HS.out _).mono ?_; rintro e w1 ⟨rfl, hb⟩)
    | (go_at_call 114; refine (sign_any _ _ _).mono ?_; rintro e w' ⟨rfl, m, rfl⟩)
    | (go_at_call 115; refine (bits_any _ _ _).mono ?_; rintro e w' ⟨rfl, m2, rfl⟩))
  go_ret
  exact ⟨ret_int HB.out, drewN_below hb _⟩
theorem up_any (k n : Int) (hn : (Lit.int .u64 n).wf = true) (w : World) : Calls Tryz.prog 71 #[.int .i64 k, .int .u64 n] w fun e w' => e = .returned (.int .u64 (upK k n)) ∧ Below w.heap.size w w' := by
  unfold upK
  cases hs : sgK k with
  | true =>
    have HG := Lib.hid (fun w => hs ▸ signed_any k w)
    clear hs
    go_enter Tryz.func71, Tryz.ntmps71
    go_wp2_with (first
      | (go_at_call 95; refine (HG.out _).mono ?_; rintro e w1 ⟨rfl, hb⟩)
      | (go_at_call 97; refine (size_any _ _).mono ?_; rintro e w2 ⟨rfl, hb2⟩)
      | (go_at_call 96; refine (wide_any _ _ _).mono ?_; rintro e w' ⟨rfl, m, rfl⟩))
    go_ret
    exact ⟨rfl, drewN_below (pstep hb hb2) _⟩
  | false =>
    have HG := Lib.hid (fun w => hs ▸ signed_any k w)
    clear hs
    go_enter Tryz.func71, Tryz.ntmps71
    go_wp2_with (first
      | (go_at_call 95; refine (HG.out _).mono ?_; rintro e w1 ⟨rfl, hb⟩)
      | (go_at_call 98; refine (low_any _ _ hn _).mono ?_; rintro e w2 ⟨rfl, hb2⟩))
    go_ret
    exact ⟨rfl, pstep hb hb2⟩
theorem may_any (k n : Int) (hn : (Lit.int .u64 n).wf = true) (w : World) : Calls Tryz.prog 47 #[.int .i64 k, .int .u64 n] w fun e w' => e = .returned (.bool (mayK k n)) ∧ Below w.heap.size w w' := by
  unfold mayK
  by_cases h1 : k = 1
  · subst h1
    go_enter Tryz.func47, Tryz.ntmps47
    go_wp2
    go_ret
    refine ⟨ret_bool ?_, Below.refl _ _⟩
    rw [Bool.eq_iff_iff]; simp; omega
  · rw [if_neg h1]
    have h1b : (k == 1) = false := by simpa using h1
    clear h1
    cases hk : numK k with
    | false =>
      have HN := Lib.hid (fun w => hk ▸ number_same k w)
      clear hk
      go_enter Tryz.func47, Tryz.ntmps47
      go_wp2_with (go_at_call 41; refine (HN.out _).mono ?_; rintro e w' ⟨rfl, rfl⟩)
      go_ret
      exact ⟨rfl, Below.refl _ _⟩
    | true =>
      have HN := Lib.hid (fun w => hk ▸ number_same k w)
      clear hk
      go_enter Tryz.func47, Tryz.ntmps47
      go_wp2_with (first
        | (go_at_call 41; refine (HN.out _).mono ?_; rintro e w' ⟨rfl, rfl⟩)
        | (go_at_call 71; refine (up_any _ _ hn _).mono ?_; rintro e w1 ⟨rfl, hb⟩))
      go_ret
      exact ⟨rfl, hb⟩
end Go.Proofs.YtohphejhlgnciaaGreat
