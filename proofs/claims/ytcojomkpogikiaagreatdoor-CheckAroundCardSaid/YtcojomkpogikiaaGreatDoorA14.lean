/- Plain mathematics of chapter 5: what is told of a number gives it back; how numbers stand. -/
import Derived.Deep.DeepCutAuto
import Derived.Laws.Cover1
import Derived.Deep.WholeRow
import Derived.Great.BuildSlice
import Derived.WalkSmall
import Derived.Laws.CopyOwn
import Derived.Test.YtcojomkpogikiaaGreatDoorA13
namespace Go.Proofs.YtcojomkpogikiaaGreatDoor.Pa
open Go.RowKit
set_option linter.unusedVariables false
theorem signZ_in (n : Int) {z : Int} (hz : isSz z = true) : -(pw z / 2) ≤ signZ n z ∧ signZ n z ≤ pw z / 2 - 1 := by
  unfold signZ
  rw [if_pos hz]
  rcases isSz_cases hz with rfl | rfl | rfl | rfl
  · rw [pw1]; split <;> omega
  · rw [pw2]; split <;> omega
  · rw [pw4]; split <;> omega
  · rw [pw8]; split <;> omega
end Go.Proofs.YtcojomkpogikiaaGreatDoor.Pa
namespace Go.Proofs.YtcojomkpogikiaaGreatDoor.Pa
open Go.RowKit
set_option linter.unusedVariables false
def rowsC : Array Value := #[.int .i64 0, .bool false, .int .i64 1, .bool false, .int .i64 1, .bool false, .int .i64 2, .bool true, .int .i64 2, .bool false, .int .i64 4, .bool true, .int .i64 4, .bool false, .int .i64 8, .bool true, .int .i64 8, .bool false, .int .i64 4, .bool true]
theorem rows_any (w : World) : Calls Tryz.prog 183 #[] w fun e w' => e = .returned (.agg rowsC) ∧ Below w.heap.size w w' := by
  go_enter Tryz.func183, Tryz.ntmps183
  go_wp2_with (first
    | (refine wpList_buildTo rfl 221 _ rfl (some 10) rfl rowsC (by kernel_rfl) ?_)
    | (refine wpList_store_rowTo rfl 221 _ _ rfl rfl w.heap.size rowsC rfl rfl _ _ (heap_alloc_last w _) (by kernel_rfl) (by kernel_rfl) (by kernel_rfl) ?_))
  rw [World.setRow_alloc_new]
  refine bodyPost_ret (v := .agg rowsC) ?_ rfl ⟨rfl, by go_grown⟩
  have hl := run_loadVar_new (P := Tryz.prog) w 221 rowsC 10 _ Tryz.underlying221 (by kernel_rfl)
  simp [results, Tryz.results183, asAddr, Act.put]
  exact hl
theorem number_same (k : Int) (w : World) : Calls Tryz.prog 93 #[.int .i64 k] w fun e w' => e = .returned (.bool (numK k)) ∧ w = w' := by
  go_enter Tryz.func93, Tryz.ntmps93
  go_wp2
  all_goals
    go_ret
    refine ⟨ret_bool ?_, rfl⟩
    rw [Bool.eq_iff_iff]; simp [numK]; try omega
theorem rblk_keep {w w1 : World} {b : Nat} {o : Obj} (h : w.heap[b]? = some o) (hb : Below w.heap.size w w1) : w1.heap[b]? = some o := (hb.block b (lt_of_block h)).trans h
theorem rblk_new {w w1 : World} {o : Obj} (hb : Below (w.alloc o).heap.size (w.alloc o) w1) : w1.heap[w.heap.size]? = some o := rblk_keep (alloc_at w o) hb
theorem row_at (k : Int) (hk : numK k = true) (w : World) : (Instr.index 221 (.agg rowsC) (.int .i64 k)).run Tryz.prog w = .ok (.agg #[.int .i64 (szK k), .bool (sgK k)]) w := by
  rcases numK_cases hk with rfl | rfl | rfl | rfl | rfl | rfl | rfl | rfl | rfl <;> kernel_rfl
theorem rowOf_any (k : Int) (w : World) : Calls Tryz.prog 140 #[.int .i64 k] w fun e w' => e = .returned (.agg #[.int .i64 (szK k), .bool (sgK k)]) ∧ Below w.heap.size w w' := by
  have hr := Below.refl w.heap.size w
  cases hk : numK k with
  | false =>
    have hz : szK k = 0 := by simp [numK] at hk; unfold szK; rw [if_neg (by omega), if_neg (by omega), if_neg (by omega), if_neg (by omega)]
    have hs : sgK k = false := by
      cases h : sgK k with
      | false => rfl
      | true => have := sgK_num h; rw [hk] at this; cases this
    rw [hz, hs]
    clear hz hs
    have HN := Lib.hid (fun w => hk ▸ number_same k w)
    go_enter Tryz.func140, Tryz.ntmps140
    go_wp2_with (go_at_call 93; refine (HN.out _).mono ?_; rintro e w' ⟨rfl, rfl⟩)
    go_returns
    exact ⟨rfl, by go_grown⟩
  | true =>
    have HN := Lib.hid (fun w => hk ▸ number_same k w)
    have hix := row_at k hk
    clear hk
    go_enter Tryz.func140, Tryz.ntmps140
    go_wp2_with (first
      | (go_at_call 93; refine (HN.out _).mono ?_; rintro e w' ⟨rfl, rfl⟩)
      | (go_at_call 183; refine (rows_any _).mono ?_; rintro e w1 ⟨rfl, hb⟩; have hr := ((Below.refl w.heap.size w).alloc (Nat.le_refl _) _).trans (hb.mono (by simp)); have hq := rblk_new hb; have c0 := cell_at (j := 0) hq rfl; have c1 := cell_at (j := 1) hq rfl; have f0 : w1.frozen? ⟨w.heap.size, 0, none⟩ = false := free_at hq; have f1 : w1.frozen? ⟨w.heap.size, 1, none⟩ = false := free_at hq; have HQ := Lib.hid hq; clear hq hb))
    have q0 := set_at (j := 0) (u := .int .i64 (szK k)) HQ.out
    have q1 := set_at (j := 1) (u := .bool (sgK k)) q0
    have e0 := cell_at (j := 0) (v := .int .i64 (szK k)) q0 rfl
    have e1 := cell_at (j := 1) (v := .bool (sgK k)) q1 rfl
    refine bodyPost_ret (v := .agg #[.int .i64 (szK k), .bool (sgK k)]) ?_ rfl ⟨rfl, by go_grown⟩
    simp [results, Tryz.results140, go_sem, e0, e1]
end Go.Proofs.YtcojomkpogikiaaGreatDoor.Pa
namespace Go.Proofs.YtcojomkpogikiaaGreatDoor.Pa
open Go.RowKit
set_option linter.unusedVariables false
theorem pstep {w w1 w2 : World} (h : Below w.heap.size w w1) (k : Below w1.heap.size w1 w2) : Below w.heap.size w w2 := h.trans (k.mono h.size)
theorem row_size (a : Int) (b : Bool) (w : World) : (Instr.field 195 (.agg #[.int .i64 a, .bool b]) 0).run Tryz.prog w = .ok (.int .i64 a) w := by kernel_rfl
theorem row_sign (a : Int) (b : Bool) (w : World) : (Instr.field 195 (.agg #[.int .i64 a, .bool b]) 1).run Tryz.prog w = .ok (.bool b) w := by kernel_rfl
theorem size_any (k : Int) (w : World) : Calls Tryz.prog 138 #[.int .i64 k] w fun e w' => e = .returned (.int .i64 (szK k)) ∧ Below w.heap.size w w' := by
  have hf := row_size
  go_enter Tryz.func138, Tryz.ntmps138
  go_wp2_with (go_at_call 140; refine (rowOf_any _ _).mono ?_; rintro e w1 ⟨rfl, hb⟩)
  go_ret
  exact ⟨rfl, hb⟩
theorem signed_any (k : Int) (w : World) : Calls Tryz.prog 96 #[.int .i64 k] w fun e w' => e = .returned (.bool (sgK k)) ∧ Below w.heap.size w w' := by
  have hf := row_sign
  go_enter Tryz.func96, Tryz.ntmps96
  go_wp2_with (go_at_call 140; refine (rowOf_any _ _).mono ?_; rintro e w1 ⟨rfl, hb⟩)
  go_ret
  exact ⟨rfl, hb⟩
theorem szK_no {k : Int} (h : numK k = false) : szK k = 0 := by simp [numK] at h; unfold szK; rw [if_neg (by omega), if_neg (by omega), if_neg (by omega), if_neg (by omega)]
theorem low_bits (k n : Int) : bitsN (signZ n (szK k)) (szK k) = lowK k n := by
  unfold lowK
  cases hk : numK k with
  | false => rw [szK_no hk]; rfl
  | true =>
    have hz := szK_sz hk
    have hi : inR (signZ n (szK k)) (szK k) = true := by
      have := signZ_in n hz
      unfold inR; rw [Bool.and_eq_true]; exact ⟨decide_eq_true this.1, decide_eq_true (by omega)⟩
    rw [bitsN_in hz hi, if_pos rfl]
    unfold lowZ signZ
    rw [if_pos hz]
    split
    · exact Int.emod_emod_of_dvd n (Int.dvd_refl _)
    · rw [Int.sub_emod_right]; exact Int.emod_emod_of_dvd n (Int.dvd_refl _)
theorem low_any (k n : Int) (hn : (Lit.int .u64 n).wf = true) (w : World) : Calls Tryz.prog 139 #[.int .i64 k, .int .u64 n] w fun e w' => e = .returned (.int .u64 (lowK k n)) ∧ Below w.heap.size w w' := by
  have HB := Lib.hid (low_bits k n)
  obtain ⟨z, hz⟩ : ∃ z, szK k = z := ⟨_, rfl⟩
  have HS := Lib.hid (fun w => hz ▸ size_any k w)
  rw [hz] at HB
  clear hz
  go_enter Tryz.func139, Tryz.ntmps139
  go_wp2_with (first
    | (go_at_call 138; refine (HS.out _).mono ?_; rintro e w1 ⟨rfl, hb⟩)
    | (go_at_call 181; refine (sign_any _ _ _).mono ?_; rintro e w' ⟨rfl, m, rfl⟩)
    | (go_at_call 182; refine (bits_any _ _ _).mono ?_; rintro e w' ⟨rfl, m2, rfl⟩))
  go_ret
  exact ⟨ret_int HB.out, drewN_below hb _⟩
theorem up_any (k n : Int) (hn : (Lit.int .u64 n).wf = true) (w : World) : Calls Tryz.prog 95 #[.int .i64 k, .int .u64 n] w fun e w' => e = .returned (.int .u64 (upK k n)) ∧ Below w.heap.size w w' := by
  unfold upK
  cases hs : sgK k with
  | true =>
    have HG := Lib.hid (fun w => hs ▸ signed_any k w)
    clear hs
    go_enter Tryz.func95, Tryz.ntmps95
    go_wp2_with (first
      | (go_at_call 96; refine (HG.out _).mono ?_; rintro e w1 ⟨rfl, hb⟩)
      | (go_at_call 138; refine (size_any _ _).mono ?_; rintro e w2 ⟨rfl, hb2⟩)
      | (go_at_call 137; refine (wide_any _ _ _).mono ?_; rintro e w' ⟨rfl, m, rfl⟩))
    go_ret
    exact ⟨rfl, drewN_below (pstep hb hb2) _⟩
  | false =>
    have HG := Lib.hid (fun w => hs ▸ signed_any k w)
    clear hs
    go_enter Tryz.func95, Tryz.ntmps95
    go_wp2_with (first
      | (go_at_call 96; refine (HG.out _).mono ?_; rintro e w1 ⟨rfl, hb⟩)
      | (go_at_call 139; refine (low_any _ _ hn _).mono ?_; rintro e w2 ⟨rfl, hb2⟩))
    go_ret
    exact ⟨rfl, pstep hb hb2⟩
theorem may_any (k n : Int) (hn : (Lit.int .u64 n).wf = true) (w : World) : Calls Tryz.prog 196 #[.int .i64 k, .int .u64 n] w fun e w' => e = .returned (.bool (mayK k n)) ∧ Below w.heap.size w w' := by
  unfold mayK
  by_cases h1 : k = 1
  · subst h1
    go_enter Tryz.func196, Tryz.ntmps196
    go_wp2
    go_ret
    refine ⟨ret_bool ?_, Below.refl _ _⟩
    rw [Bool.eq_iff_iff]; simp; omega
  · rw [if_neg h1]
    have h1b : (k == 1) = false := by simpa using h1
    clear h1
    cases hk : numK k with
    | false =>
      have HN := Lib.hid (fun w => hk ▸ number_same k w)
      clear hk
      go_enter Tryz.func196, Tryz.ntmps196
      go_wp2_with (go_at_call 93; refine (HN.out _).mono ?_; rintro e w' ⟨rfl, rfl⟩)
      go_ret
      exact ⟨rfl, Below.refl _ _⟩
    | true =>
      have HN := Lib.hid (fun w => hk ▸ number_same k w)
      clear hk
      go_enter Tryz.func196, Tryz.ntmps196
      go_wp2_with (first
        | (go_at_call 93; refine (HN.out _).mono ?_; rintro e w' ⟨rfl, rfl⟩)
        | (go_at_call 95; refine (up_any _ _ hn _).mono ?_; rintro e w1 ⟨rfl, hb⟩))
      go_ret
      exact ⟨rfl, hb⟩
theorem datum_any (k n : Int) (hn : (Lit.int .u64 n).wf = true) (w : World) : Calls Tryz.prog 57 #[.int .i64 k, .int .u64 n] w fun e w' => e = .returned (datV (datK k n)) ∧ Below w.heap.size w w' := by
  have hb := bounds_u64 hn
  cases hk : numK k with
  | false =>
    rw [datK_no hk]
    have HN := Lib.hid (fun w => hk ▸ number_same k w)
    clear hk
    go_enter Tryz.func57, Tryz.ntmps57
    go_wp2_with (go_at_call 93; refine (HN.out _).mono ?_; rintro e w' ⟨rfl, rfl⟩)
    go_returns
    exact ⟨rfl, by go_grown⟩
  | true =>
    have HN := Lib.hid (fun w => hk ▸ number_same k w)
    by_cases h1 : k = 1
    · subst h1
      rw [datK_bool]
      clear hk
      go_enter Tryz.func57, Tryz.ntmps57
      go_wp2_with (go_at_call 93; refine (HN.out _).mono ?_; rintro e w' ⟨rfl, rfl⟩)
      go_returns
      exact ⟨by rw [and_one_u64 n hb.1 hb.2]; rfl, by go_grown⟩
    · have h1b : (k == 1) = false := by simpa using h1
      cases hs : sgK k with
      | false =>
        rw [datK_low hk h1 hs]
        have hup : upK k n = lowK k n := by unfold upK; rw [hs]; rfl
        have HG := Lib.hid (fun w => hs ▸ signed_any k w)
        have HU := Lib.hid (fun w => hup ▸ up_any k n hn w)
        clear hs hup hk h1
        go_enter Tryz.func57, Tryz.ntmps57
        go_wp2_with (first
          | (go_at_call 93; refine (HN.out _).mono ?_; rintro e w' ⟨rfl, rfl⟩)
          | (go_at_call 95; refine (HU.out _).mono ?_; rintro e w1 ⟨rfl, hb1⟩; have HQ := Lib.hid (rblk_new hb1); have HR := Lib.hid (((Below.refl w.heap.size w).alloc (Nat.le_refl _) _).trans (hb1.mono (by simp))); clear hb1)
          | (go_at_call 96; refine (HG.out _).mono ?_; rintro e w2 ⟨rfl, hb2⟩; have HQ2 := Lib.hid (rblk_keep HQ.out hb2); have HR2 := Lib.hid (pstep HR.out hb2); clear hb2)
          | (refine wpList_store_rowTo rfl 43 _ _ rfl rfl w.heap.size #[.int .i64 1, .bool false, .int .u64 (lowK k n), .string ⟨#[]⟩] rfl rfl _ _ HQ2.out (by kernel_rfl) (by kernel_rfl) (by kernel_rfl) ?_))
        refine bodyPost_ret (v := .agg #[.int .i64 1, .bool false, .int .u64 (lowK k n), .string ⟨#[]⟩]) ?_ rfl ⟨rfl, below_setRow HR2.out (Nat.le_refl _) _⟩
        have hl := run_loadVar_row (P := Tryz.prog) _ w.heap.size _ 43 _ _ _ (setRow_heap _ _ _ #[.int .i64 1, .bool false, .int .u64 (lowK k n), .string ⟨#[]⟩] _ _ HQ2.out) Tryz.underlying43 rfl (by kernel_rfl)
        simp [results, Tryz.results57, asAddr]
        exact hl
      | true =>
        have HG := Lib.hid (fun w => hs ▸ signed_any k w)
        obtain ⟨u, hup⟩ : ∃ u, upK k n = u := ⟨_, rfl⟩
        have HU := Lib.hid (fun w => hup ▸ up_any k n hn w)
        have hu : u = IntKind.u64.wrap (signZ n (szK k)) := by rw [← hup]; unfold upK; rw [hs]; rfl
        have hw : wrap64 u = signZ n (szK k) := by
          have := signZ_range n (szK k)
          rw [hu, IntKind.wrap_u64]; unfold wrap64; omega
        by_cases hneg : wrap64 u < 0
        · have hm : IntKind.u64.wrap (-u) = -signZ n (szK k) := by
            have := signZ_range n (szK k)
            rw [hw] at hneg
            rw [hu, IntKind.wrap_u64, IntKind.wrap_u64]; omega
          rw [datK_neg hs (by rw [← hw]; exact hneg), ← hm]
          clear hs hup hk h1 hu hw hm
          go_enter Tryz.func57, Tryz.ntmps57
          go_wp2_with (first
            | (go_at_call 93; refine (HN.out _).mono ?_; rintro e w' ⟨rfl, rfl⟩)
            | (go_at_call 95; refine (HU.out _).mono ?_; rintro e w1 ⟨rfl, hb1⟩; have HQ := Lib.hid (rblk_new hb1); have HR := Lib.hid (((Below.refl w.heap.size w).alloc (Nat.le_refl _) _).trans (hb1.mono (by simp))); clear hb1)
            | (go_at_call 96; refine (HG.out _).mono ?_; rintro e w2 ⟨rfl, hb2⟩; have HQ2 := Lib.hid (rblk_keep HQ.out hb2); have HR2 := Lib.hid (pstep HR.out hb2); clear hb2)
            | (refine wpList_store_rowTo rfl 43 _ _ rfl rfl w.heap.size #[.int .i64 1, .bool true, .int .u64 (IntKind.u64.wrap (-u)), .string ⟨#[]⟩] rfl rfl _ _ HQ2.out (by kernel_rfl) (by kernel_rfl) (by kernel_rfl) ?_))
          refine bodyPost_ret (v := .agg #[.int .i64 1, .bool true, .int .u64 (IntKind.u64.wrap (-u)), .string ⟨#[]⟩]) ?_ rfl ⟨rfl, below_setRow HR2.out (Nat.le_refl _) _⟩
          have hl := run_loadVar_row (P := Tryz.prog) _ w.heap.size _ 43 _ _ _ (setRow_heap _ _ _ #[.int .i64 1, .bool true, .int .u64 (IntKind.u64.wrap (-u)), .string ⟨#[]⟩] _ _ HQ2.out) Tryz.underlying43 rfl (by kernel_rfl)
          simp [results, Tryz.results57, asAddr]
          exact hl
        · have hm : u = signZ n (szK k) := by
            have := signZ_range n (szK k)
            rw [hw] at hneg
            rw [hu, IntKind.wrap_u64]; omega
          rw [datK_pos hs (by rw [← hw]; exact hneg), ← hm]
          clear hs hup hk h1 hu hw hm
          go_enter Tryz.func57, Tryz.ntmps57
          go_wp2_with (first
            | (go_at_call 93; refine (HN.out _).mono ?_; rintro e w' ⟨rfl, rfl⟩)
            | (go_at_call 95; refine (HU.out _).mono ?_; rintro e w1 ⟨rfl, hb1⟩; have HQ := Lib.hid (rblk_new hb1); have HR := Lib.hid (((Below.refl w.heap.size w).alloc (Nat.le_refl _) _).trans (hb1.mono (by simp))); clear hb1)
            | (go_at_call 96; refine (HG.out _).mono ?_; rintro e w2 ⟨rfl, hb2⟩; have HQ2 := Lib.hid (rblk_keep HQ.out hb2); have HR2 := Lib.hid (pstep HR.out hb2); clear hb2)
            | (refine wpList_store_rowTo rfl 43 _ _ rfl rfl w.heap.size #[.int .i64 1, .bool false, .int .u64 u, .string ⟨#[]⟩] rfl rfl _ _ HQ2.out (by kernel_rfl) (by kernel_rfl) (by kernel_rfl) ?_))
          refine bodyPost_ret (v := .agg #[.int .i64 1, .bool false, .int .u64 u, .string ⟨#[]⟩]) ?_ rfl ⟨rfl, below_setRow HR2.out (Nat.le_refl _) _⟩
          have hl := run_loadVar_row (P := Tryz.prog) _ w.heap.size _ 43 _ _ _ (setRow_heap _ _ _ #[.int .i64 1, .bool false, .int .u64 u, .string ⟨#[]⟩] _ _ HQ2.out) Tryz.underlying43 rfl (by kernel_rfl)
          simp [results, Tryz.results57, asAddr]
          exact hl
end Go.Proofs.YtcojomkpogikiaaGreatDoor.Pa
