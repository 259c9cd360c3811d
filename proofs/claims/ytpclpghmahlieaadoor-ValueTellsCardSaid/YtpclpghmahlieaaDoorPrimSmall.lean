/- Contracts of package prim: Number, Size, Signed, May, Low, Up, Datum. -/
import Derived.Test.YtpclpghmahlieaaDoorPrimRows
import Derived.Test.YtpclpghmahlieaaDoorPrimBackMath
import Derived.WalkSmall
import Derived.Laws.CopyOwn
namespace Go.Proofs.YtpclpghmahlieaaDoor
open Go.RowKit
set_option linter.unusedVariables false
theorem pstep {w w1 w2 : World} (h : Below w.heap.size w w1) (k : Below w1.heap.size w1 w2) : Below w.heap.size w w2 := h.trans (k.mono h.size)
theorem drewN_below' {B : Nat} {w w1 w2 : World} (h : Below B w w1) (k : ∃ m, w2 = w1.drewN m) : Below B w w2 := by
  obtain ⟨m, rfl⟩ := k; exact drewN_below h m
theorem number_any (k : Int) (w : World) : Calls Tryd.prog 44 #[.int .i64 k] w fun e w' => e = .returned (.bool (numK k)) ∧ Below w.heap.size w w' :=
  (number_same k w).mono fun _ _ ⟨a, b⟩ => ⟨a, b ▸ Below.refl _ _⟩
theorem row_size (a : Int) (b : Bool) (w : World) : (Instr.field 75 (.agg #[.int .i64 a, .bool b]) 0).run Tryd.prog w = .ok (.int .i64 a) w := by kernel_rfl
theorem row_sign (a : Int) (b : Bool) (w : World) : (Instr.field 75 (.agg #[.int .i64 a, .bool b]) 1).run Tryd.prog w = .ok (.bool b) w := by kernel_rfl
theorem size_any (k : Int) (w : World) : Calls Tryd.prog 55 #[.int .i64 k] w fun e w' => e = .returned (.int .i64 (szK k)) ∧ Below w.heap.size w w' := by
  have hf := row_size
  go_enter Tryd.func55, Tryd.ntmps55
  go_wp2_with (go_at_call 57; refine (rowOf_any _ _).mono ?_; rintro e w1 ⟨rfl, hb⟩)
  go_ret
  exact ⟨rfl, hb⟩
theorem signed_any (k : Int) (w : World) : Calls Tryd.prog 46 #[.int .i64 k] w fun e w' => e = .returned (.bool (sgK k)) ∧ Below w.heap.size w w' := by
  have hf := row_sign
  go_enter Tryd.func46, Tryd.ntmps46
  go_wp2_with (go_at_call 57; refine (rowOf_any _ _).mono ?_; rintro e w1 ⟨rfl, hb⟩)
  go_ret
  exact ⟨rfl, hb⟩
theorem szK_no {k : Int} (h : numK k = false) : szK k = 0 := by simp [numK] at h; unfold szK; rw [if_neg (by omega), if_neg (by omega), if_neg (by omega), if_neg (by omega)]
theorem low_bits (k n : Int) : bitsN (signZ n (szK k)) (szK k) = lowK k n := by
  unfold lowK
  cases hk : numK k with
  | false => rw [szK_no hk]; rfl
  | true =>
    have hz := szK_sz hk
    have hi : inR (signZ n (szK k)) (szK k) = true := by
      have := signZ_in n hz
      unfold inR; rw [Bool.and_eq_true]; exact ⟨decide_eq_true this.1, decide_eq_true (by omega)⟩
    rw [bitsN_in hz hi, if_pos rfl]
    unfold lowZ signZ
    rw [if_pos hz]
    split
    · exact Int.emod_emod_of_dvd n (Int.dvd_refl _)
    · rw [Int.sub_emod_right]; exact Int.emod_emod_of_dvd n (Int.dvd_refl _)
theorem low_any (k n : Int) (hn : (Lit.int .u64 n).wf = true) (w : World) : Calls Tryd.prog 56 #[.int .i64 k, .int .u64 n] w fun e w' => e = .returned (.int .u64 (lowK k n)) ∧ Below w.heap.size w w' := by
  have HB := Lib.hid (low_bits k n)
  obtain ⟨z, hz⟩ : ∃ z, szK k = z := ⟨_, rfl⟩
  have HS := Lib.hid (fun w => hz ▸ size_any k w)
  rw [hz] at HB
  clear hz
  go_enter Tryd.func56, Tryd.ntmps56
  go_wp2_with (first
    | (go_at_call 55; refine (HS.out _).mono ?_; rintro e w1 ⟨rfl, hb⟩)
    | (go_at_call 60; refine (sign_any _ _ _).mono ?_; rintro e w' ⟨rfl, m, rfl⟩)
    | (go_at_call 61; refine (bits_any _ _ _).mono ?_; rintro e w' ⟨rfl, m2, rfl⟩))
  go_ret
  exact ⟨ret_int HB.out, drewN_below hb _⟩
theorem up_any (k n : Int) (hn : (Lit.int .u64 n).wf = true) (w : World) : Calls Tryd.prog 45 #[.int .i64 k, .int .u64 n] w fun e w' => e = .returned (.int .u64 (upK k n)) ∧ Below w.heap.size w w' := by
  unfold upK
  cases hs : sgK k with
  | true =>
    have HG := Lib.hid (fun w => hs ▸ signed_any k w)
    clear hs
    go_enter Tryd.func45, Tryd.ntmps45
    go_wp2_with (first
      | (go_at_call 46; refine (HG.out _).mono ?_; rintro e w1 ⟨rfl, hb⟩)
      | (go_at_call 55; refine (size_any _ _).mono ?_; rintro e w2 ⟨rfl, hb2⟩)
      | (go_at_call 54; refine (wide_any _ _ _).mono ?_; rintro e w' ⟨rfl, m, rfl⟩))
    go_ret
    exact ⟨rfl, drewN_below (pstep hb hb2) _⟩
  | false =>
    have HG := Lib.hid (fun w => hs ▸ signed_any k w)
    clear hs
    go_enter Tryd.func45, Tryd.ntmps45
    go_wp2_with (first
      | (go_at_call 46; refine (HG.out _).mono ?_; rintro e w1 ⟨rfl, hb⟩)
      | (go_at_call 56; refine (low_any _ _ hn _).mono ?_; rintro e w2 ⟨rfl, hb2⟩))
    go_ret
    exact ⟨rfl, pstep hb hb2⟩
theorem datum_any (k n : Int) (hn : (Lit.int .u64 n).wf = true) (w : World) : Calls Tryd.prog 32 #[.int .i64 k, .int .u64 n] w fun e w' => e = .returned (datV (datK k n)) ∧ Below w.heap.size w w' := by
  have hb := bounds_u64 hn
  cases hk : numK k with
  | false =>
    rw [datK_no hk]
    have HN := Lib.hid (fun w => hk ▸ number_same k w)
    clear hk
    go_enter Tryd.func32, Tryd.ntmps32
    go_wp2_with (go_at_call 44; refine (HN.out _).mono ?_; rintro e w' ⟨rfl, rfl⟩)
    go_returns
    exact ⟨rfl, by go_grown⟩
  | true =>
    have HN := Lib.hid (fun w => hk ▸ number_same k w)
    by_cases h1 : k = 1
    · subst h1
      rw [datK_bool]
      clear hk
      go_enter Tryd.func32, Tryd.ntmps32
      go_wp2_with (go_at_call 44; refine (HN.out _).mono ?_; rintro e w' ⟨rfl, rfl⟩)
      go_returns
      exact ⟨by rw [and_one_u64 n hb.1 hb.2]; rfl, by go_grown⟩
    · have h1b : (k == 1) = false := by simpa using h1
      cases hs : sgK k with
      | false =>
        rw [datK_low hk h1 hs]
        have hup : upK k n = lowK k n := by unfold upK; rw [hs]; rfl
        have HG := Lib.hid (fun w => hs ▸ signed_any k w)
        have HU := Lib.hid (fun w => hup ▸ up_any k n hn w)
        clear hs hup hk h1
        go_enter Tryd.func32, Tryd.ntmps32
        go_wp2_with (first
          | (go_at_call 44; refine (HN.out _).mono ?_; rintro e w' ⟨rfl, rfl⟩)
          | (go_at_call 45; refine (HU.out _).mono ?_; rintro e w1 ⟨rfl, hb1⟩; have HQ := Lib.hid (rblk_new hb1); have HR := Lib.hid (((Below.refl w.heap.size w).alloc (Nat.le_refl _) _).trans (hb1.mono (by simp))); clear hb1)
          | (go_at_call 46; refine (HG.out _).mono ?_; rintro e w2 ⟨rfl, hb2⟩; have HQ2 := Lib.hid (rblk_keep HQ.out hb2); have HR2 := Lib.hid (pstep HR.out hb2); clear hb2)
          | (refine wpList_store_rowTo rfl 46 _ _ rfl rfl w.heap.size #[.int .i64 1, .bool false, .int .u64 (lowK k n), .string ⟨#[]⟩] rfl rfl _ _ HQ2.out (by kernel_rfl) (by kernel_rfl) (by kernel_rfl) ?_))

        refine bodyPost_ret (v := .agg #[.int .i64 1, .bool false, .int .u64 (lowK k n), .string ⟨#[]⟩]) ?_ rfl ⟨rfl, below_setRow HR2.out (Nat.le_refl _) _⟩
        have hl := run_loadVar_row (P := Tryd.prog) _ w.heap.size _ 46 _ _ _ (setRow_heap _ _ _ #[.int .i64 1, .bool false, .int .u64 (lowK k n), .string ⟨#[]⟩] _ _ HQ2.out) Tryd.underlying46 rfl (by kernel_rfl)
        simp [results, Tryd.results32, asAddr]
        exact hl
      | true =>
        have HG := Lib.hid (fun w => hs ▸ signed_any k w)
        obtain ⟨u, hup⟩ : ∃ u, upK k n = u := ⟨_, rfl⟩
        have HU := Lib.hid (fun w => hup ▸ up_any k n hn w)
        have hu : u = IntKind.u64.wrap (signZ n (szK k)) := by rw [← hup]; unfold upK; rw [hs]; rfl
        have hw : wrap64 u = signZ n (szK k) := by
          have := signZ_range n (szK k)
          rw [hu, IntKind.wrap_u64]; unfold wrap64; omega
        by_cases hneg : wrap64 u < 0
        · have hm : IntKind.u64.wrap (-u) = -signZ n (szK k) := by
            have := signZ_range n (szK k)
            rw [hw] at hneg
            rw [hu, IntKind.wrap_u64, IntKind.wrap_u64]; omega
          rw [datK_neg hs (by rw [← hw]; exact hneg), ← hm]
          clear hs hup hk h1 hu hw hm
          go_enter Tryd.func32, Tryd.ntmps32
          go_wp2_with (first
            | (go_at_call 44; refine (HN.out _).mono ?_; rintro e w' ⟨rfl, rfl⟩)
            | (go_at_call 45; refine (HU.out _).mono ?_; rintro e w1 ⟨rfl, hb1⟩; have HQ := Lib.hid (rblk_new hb1); have HR := Lib.hid (((Below.refl w.heap.size w).alloc (Nat.le_refl _) _).trans (hb1.mono (by simp))); clear hb1)
            | (go_at_call 46; refine (HG.out _).mono ?_; rintro e w2 ⟨rfl, hb2⟩; have HQ2 := Lib.hid (rblk_keep HQ.out hb2); have HR2 := Lib.hid (pstep HR.out hb2); clear hb2)
            | (refine wpList_store_rowTo rfl 46 _ _ rfl rfl w.heap.size #[.int .i64 1, .bool true, .int .u64 (IntKind.u64.wrap (-u)), .string ⟨#[]⟩] rfl rfl _ _ HQ2.out (by kernel_rfl) (by kernel_rfl) (by kernel_rfl) ?_))
          refine bodyPost_ret (v := .agg #[.int .i64 1, .bool true, .int .u64 (IntKind.u64.wrap (-u)), .string ⟨#[]⟩]) ?_ rfl ⟨rfl, below_setRow HR2.out (Nat.le_refl _) _⟩
          have hl := run_loadVar_row (P := Tryd.prog) _ w.heap.size _ 46 _ _ _ (setRow_heap _ _ _ #[.int .i64 1, .bool true, .int .u64 (IntKind.u64.wrap (-u)), .string ⟨#[]⟩] _ _ HQ2.out) Tryd.underlying46 rfl (by kernel_rfl)
          simp [results, Tryd.results32, asAddr]
          exact hl
        · have hm : u = signZ n (szK k) := by
            have := signZ_range n (szK k)
            rw [hw] at hneg
            rw [hu, IntKind.wrap_u64]; omega
          rw [datK_pos hs (by rw [← hw]; exact hneg), ← hm]
          clear hs hup hk h1 hu hw hm
          go_enter Tryd.func32, Tryd.ntmps32
          go_wp2_with (first
            | (go_at_call 44; refine (HN.out _).mono ?_; rintro e w' ⟨rfl, rfl⟩)
            | (go_at_call 45; refine (HU.out _).mono ?_; rintro e w1 ⟨rfl, hb1⟩; have HQ := Lib.hid (rblk_new hb1); have HR := Lib.hid (((Below.refl w.heap.size w).alloc (Nat.le_refl _) _).trans (hb1.mono (by simp))); clear hb1)
            | (go_at_call 46; refine (HG.out _).mono ?_; rintro e w2 ⟨rfl, hb2⟩; have HQ2 := Lib.hid (rblk_keep HQ.out hb2); have HR2 := Lib.hid (pstep HR.out hb2); clear hb2)
            | (refine wpList_store_rowTo rfl 46 _ _ rfl rfl w.heap.size #[.int .i64 1, .bool false, .int .u64 u, .string ⟨#[]⟩] rfl rfl _ _ HQ2.out (by kernel_rfl) (by kernel_rfl) (by kernel_rfl) ?_))
          refine bodyPost_ret (v := .agg #[.int .i64 1, .bool false, .int .u64 u, .string ⟨#[]⟩]) ?_ rfl ⟨rfl, below_setRow HR2.out (Nat.le_refl _) _⟩
          have hl := run_loadVar_row (P := Tryd.prog) _ w.heap.size _ 46 _ _ _ (setRow_heap _ _ _ #[.int .i64 1, .bool false, .int .u64 u, .string ⟨#[]⟩] _ _ HQ2.out) Tryd.underlying46 rfl (by kernel_rfl)
          simp [results, Tryd.results32, asAddr]
          exact hl
end Go.Proofs.YtpclpghmahlieaaDoor
