/- Plain mathematics of chapter 5: what is told of a number gives it back; how numbers stand. -/
import Derived.Test.YtinmdkhafamibaaGreatPrimRefCmp
import Derived.Deep.WholeRow
import Derived.Great.BuildSlice
import Derived.WalkSmall
import Derived.Laws.CopyOwn
namespace Go.Proofs.YtinmdkhafamibaaGreat
open Go.RowKit
set_option linter.unusedVariables false
theorem signZ_in (n : Int) {z : Int} (hz : isSz z = true) : -(pw z / 2) ≤ signZ n z ∧ signZ n z ≤ pw z / 2 - 1 := by
  unfold signZ
  rw [if_pos hz]
  rcases isSz_cases hz with rfl | rfl | rfl | rfl
  · rw [pw1]; split <;> omega
  · rw [pw2]; split <;> omega
  · rw [pw4]; split <;> omega
  · rw [pw8]; split <;> omega
theorem lowZ_in (n : Int) {z : Int} (hz : isSz z = true) : 0 ≤ lowZ n z ∧ lowZ n z ≤ pw z - 1 := by
  unfold lowZ
  rcases isSz_cases hz with rfl | rfl | rfl | rfl
  · rw [pw1]; omega
  · rw [pw2]; omega
  · rw [pw4]; omega
  · rw [pw8]; omega
theorem lowZ_low (n : Int) {z : Int} (hz : isSz z = true) : lowZ (lowZ n z) z = lowZ n z := by unfold lowZ; exact Int.emod_emod_of_dvd n (Int.dvd_refl _)
theorem signZ_low (n : Int) {z : Int} (hz : isSz z = true) : signZ (lowZ n z) z = signZ n z := by
  have h : lowZ n z % pw z = n % pw z := by unfold lowZ; exact Int.emod_emod_of_dvd n (Int.dvd_refl _)
  unfold signZ; rw [h]
theorem wide_wide5 (n : Int) {z : Int} (hz : isSz z = true) : IntKind.u64.wrap (signZ (IntKind.u64.wrap (signZ n z)) z) = IntKind.u64.wrap (signZ n z) := by
  rw [signZ_u64]
  congr 1
  unfold signZ
  rw [if_pos hz, if_pos hz]
  rcases isSz_cases hz with rfl | rfl | rfl | rfl
  · rw [pw1]; split <;> split <;> omega
  · rw [pw2]; split <;> split <;> omega
  · rw [pw4]; split <;> split <;> omega
  · rw [pw8]; split <;> split <;> omega
theorem may_num {k n : Int} (h : mayK k n = true) : numK k = true := by
  unfold mayK at h
  by_cases h1 : k = 1
  · subst h1; rfl
  · rw [if_neg h1] at h; simp at h; exact h.1
/-- Of gives back what Datum told -/
theorem of_val {k n : Int} (hk : numK k = true) : (datK k n).text.toList.isEmpty = true ∧ ((datK k n).kind == dkK k) = true ∧ dv (datK k n) = valK k n ∧ loK k ≤ valK k n ∧ valK k n ≤ hiK k := by
  have hz := szK_sz hk
  have he : datK k n = ⟨dkK k, decide (valK k n < 0), absZ (valK k n), ⟨#[]⟩⟩ := by unfold datK; rw [hk, if_pos rfl]
  refine ⟨by (rw [he]; show (⟨#[]⟩ : ByteArray).toList.isEmpty = true; rw [ByteArray.toList_eq]; rfl), by (rw [he]; simp), ?_, ?_⟩
  · rw [he]
    unfold dv absZ
    by_cases h : valK k n < 0
    · simp [h]
    · simp [h]
  · by_cases h1 : k = 1
    · subst h1
      have e1 : loK 1 = 0 := rfl
      have e2 : hiK 1 = 1 := rfl
      have e3 : valK 1 n = n % 2 := rfl
      rw [e1, e2, e3]; omega
    · cases hs : sgK k with
      | true =>
        have e3 : valK k n = signZ n (szK k) := by unfold valK; rw [if_neg h1, hs]; rfl
        have hr := signZ_in n hz
        have hm := most_sg hs
        rw [e3]; omega
      | false =>
        have e3 : valK k n = lowZ n (szK k) := by unfold valK; rw [if_neg h1, hs]; rfl
        have hr := lowZ_in n hz
        have hm := most_un h1 hs
        rw [e3]; omega
theorem of_datum {k n : Int} (hk : numK k = true) : ofB k (datK k n) = true ∧ ofN k (datK k n) = IntKind.u64.wrap (valK k n) := by
  obtain ⟨h1, h2, h3, h4, h5⟩ := of_val (n := n) hk
  have h : ofB k (datK k n) = true := by rw [ofB_yes hk h1 h2, h3, decide_eq_true h4, decide_eq_true h5]; rfl
  refine ⟨h, ?_⟩
  unfold ofN; rw [h, if_pos rfl, h3]
theorem may_val {k n : Int} (h0 : 0 ≤ n) (h1 : n ≤ 18446744073709551615) (h : mayK k n = true) : IntKind.u64.wrap (valK k n) = n ∧ upK k (lowK k n) = n := by
  have hk := may_num h
  have hz := szK_sz hk
  by_cases c1 : k = 1
  · subst c1
    have h2 : n < 2 := by simpa [mayK] using h
    have e3 : valK 1 n = n % 2 := rfl
    have e4 : ∀ m, upK 1 m = m % 256 := fun _ => rfl
    have e5 : ∀ m, lowK 1 m = m % 256 := fun _ => rfl
    rw [e3, e4, e5, IntKind.wrap_u64]; omega
  · have hu : upK k n = n := by unfold mayK at h; rw [if_neg c1] at h; simp at h; exact h.2
    cases hs : sgK k with
    | true =>
      have e3 : valK k n = signZ n (szK k) := by unfold valK; rw [if_neg c1, hs]; rfl
      have e4 : ∀ m, upK k m = IntKind.u64.wrap (signZ m (szK k)) := fun m => by unfold upK; rw [hs]; rfl
      have e5 : lowK k n = lowZ n (szK k) := by unfold lowK; rw [hk]; rfl
      rw [e4] at hu
      rw [e3, e4, e5, signZ_low n hz]
      exact ⟨hu, hu⟩
    | false =>
      have e3 : valK k n = lowZ n (szK k) := by unfold valK; rw [if_neg c1, hs]; rfl
      have e4 : ∀ m, upK k m = lowZ m (szK k) := fun m => by unfold upK lowK; rw [hs, hk]; rfl
      have e5 : lowK k n = lowZ n (szK k) := by unfold lowK; rw [hk]; rfl
      rw [e4] at hu
      rw [e3, e4, e5, lowZ_low n hz, hu, IntKind.wrap_u64]
      omega
/-- what PrimBack asks -/
theorem back_may {k n : Int} (h0 : 0 ≤ n) (h1 : n ≤ 18446744073709551615) (h : mayK k n = true) : ofB k (datK k n) = true ∧ ofN k (datK k n) = n ∧ upK k (lowK k n) = n ∧ numK k = true := by
  have hk := may_num h
  obtain ⟨a, b⟩ := of_datum (n := n) hk
  obtain ⟨c, d⟩ := may_val h0 h1 h
  exact ⟨a, b.trans c, d, hk⟩
theorem up_may {k n : Int} (hk : numK k = true) (h1 : k ≠ 1) : mayK k (upK k n) = true := by
  have hz := szK_sz hk
  unfold mayK
  rw [if_neg h1, hk]
  cases hs : sgK k with
  | true =>
    have e4 : ∀ m, upK k m = IntKind.u64.wrap (signZ m (szK k)) := fun m => by unfold upK; rw [hs]; rfl
    rw [e4, e4, wide_wide5 n hz]; simp
  | false =>
    have e4 : ∀ m, upK k m = lowZ m (szK k) := fun m => by unfold upK lowK; rw [hs, hk]; rfl
    rw [e4, e4, lowZ_low n hz]; simp
theorem up_range {k n : Int} : 0 ≤ upK k n ∧ upK k n ≤ 18446744073709551615 := by
  unfold upK lowK
  split
  · rw [IntKind.wrap_u64]; omega
  · split
    · rename_i h; have := lowZ_range n (szK k) (szK_sz h); omega
    · omega
theorem low_range {k n : Int} : 0 ≤ lowK k n ∧ lowK k n ≤ 18446744073709551615 := by
  unfold lowK
  split
  · rename_i h; have := lowZ_range n (szK k) (szK_sz h); omega
  · omega
theorem val_range {k n : Int} (hk : numK k = true) : -9223372036854775808 ≤ valK k n ∧ valK k n ≤ 18446744073709551615 := by
  obtain ⟨_, _, _, h4, h5⟩ := of_val (n := n) hk
  have hp := pw_even (szK_sz hk)
  have hl : loK k = 0 ∨ loK k = -(pw (szK k) / 2) := by unfold loK; split; exact .inr rfl; exact .inl rfl
  have hh : hiK k ≤ pw (szK k) - 1 ∨ hiK k = 1 := by
    by_cases h1 : k = 1
    · subst h1; exact .inr rfl
    · cases hs : sgK k with
      | true => have := most_sg hs; omega
      | false => have := most_un h1 hs; omega
  omega
theorem dat_num (k n : Int) : 0 ≤ (datK k n).num ∧ (datK k n).num ≤ 18446744073709551615 := by
  unfold datK
  split
  · rename_i h
    have := val_range (n := n) h
    show 0 ≤ absZ (valK k n) ∧ absZ (valK k n) ≤ _
    unfold absZ
    split <;> omega
  · exact ⟨Int.le_refl _, by decide⟩
theorem dat_text (k n : Int) : (datK k n).text = ⟨#[]⟩ := by unfold datK; split <;> rfl
theorem wf_u64 {n : Int} (h0 : 0 ≤ n) (h1 : n ≤ 18446744073709551615) : (Lit.int .u64 n).wf = true := WalkArith.wf_u64 ⟨h0, h1⟩
end Go.Proofs.YtinmdkhafamibaaGreat
namespace Go.Proofs.YtinmdkhafamibaaGreat
open Go.RowKit
set_option linter.unusedVariables false
def rowsC : Array Value := #[.int .i64 0, .bool false, .int .i64 1, .bool false, .int .i64 1, .bool false, .int .i64 2, .bool true, .int .i64 2, .bool false, .int .i64 4, .bool true, .int .i64 4, .bool false, .int .i64 8, .bool true, .int .i64 8, .bool false, .int .i64 4, .bool true]
theorem rows_any (w : World) : Calls Tryz.prog 71 #[] w fun e w' => e = .returned (.agg rowsC) ∧ Below w.heap.size w w' := by
  go_enter Tryz.func71, Tryz.ntmps71
  go_wp2_with (first
    | (refine wpList_buildTo rfl 93 _ rfl (some 10) rfl rowsC (by kernel_rfl) ?_)
    | (refine wpList_store_rowTo rfl 93 _ _ rfl rfl w.heap.size rowsC rfl rfl _ _ (heap_alloc_last w _) (by kernel_rfl) (by kernel_rfl) (by kernel_rfl) ?_))
  rw [World.setRow_alloc_new]
  refine bodyPost_ret (v := .agg rowsC) ?_ rfl ⟨rfl, by go_grown⟩
  have hl := run_loadVar_new (P := Tryz.prog) w 93 rowsC 10 _ Tryz.underlying93 (by kernel_rfl)
  simp [results, Tryz.results71, asAddr, Act.put]
  exact hl
theorem number_same (k : Int) (w : World) : Calls Tryz.prog 70 #[.int .i64 k] w fun e w' => e = .returned (.bool (numK k)) ∧ w = w' := by
  go_enter Tryz.func70, Tryz.ntmps70
  go_wp2
  all_goals
    go_ret
    refine ⟨ret_bool ?_, rfl⟩
    rw [Bool.eq_iff_iff]; simp [numK]; try omega
theorem rblk_keep {w w1 : World} {b : Nat} {o : Obj} (h : w.heap[b]? = some o) (hb : Below w.heap.size w w1) : w1.heap[b]? = some o := (hb.block b (lt_of_block h)).trans h
theorem rblk_new {w w1 : World} {o : Obj} (hb : Below (w.alloc o).heap.size (w.alloc o) w1) : w1.heap[w.heap.size]? = some o := rblk_keep (alloc_at w o) hb
theorem row_at (k : Int) (hk : numK k = true) (w : World) : (Instr.index 93 (.agg rowsC) (.int .i64 k)).run Tryz.prog w = .ok (.agg #[.int .i64 (szK k), .bool (sgK k)]) w := by
  rcases numK_cases hk with rfl | rfl | rfl | rfl | rfl | rfl | rfl | rfl | rfl <;> kernel_rfl
theorem rowOf_any (k : Int) (w : World) : Calls Tryz.prog 38 #[.int .i64 k] w fun e w' => e = .returned (.agg #[.int .i64 (szK k), .bool (sgK k)]) ∧ Below w.heap.size w w' := by
  have hr := Below.refl w.heap.size w
  cases hk : numK k with
  | false =>
    have hz : szK k = 0 := by simp [numK] at hk; unfold szK; rw [if_neg (by omega), if_neg (by omega), if_neg (by omega), if_neg (by omega)]
    have hs : sgK k = false := by
      cases h : sgK k with
      | false => rfl
      | true => have := sgK_num h; rw [hk] at this; cases this
    rw [hz, hs]
    clear hz hs
    have HN := Lib.hid (fun w => hk ▸ number_same k w)
    go_enter Tryz.func38, Tryz.ntmps38
    go_wp2_with (go_at_call 70; refine (HN.out _).mono ?_; rintro e w' ⟨rfl, rfl⟩)
    go_returns
    exact ⟨rfl, by go_grown⟩
  | true =>
    have HN := Lib.hid (fun w => hk ▸ number_same k w)
    have hix := row_at k hk
    clear hk
    go_enter Tryz.func38, Tryz.ntmps38
    go_wp2_with (first
      | (go_at_call 70; refine (HN.out _).mono ?_; rintro e w' ⟨rfl, rfl⟩)
      | (go_at_call 71; refine (rows_any _).mono ?_; rintro e w1 ⟨rfl, hb⟩; have hr := ((Below.refl w.heap.size w).alloc (Nat.le_refl _) _).trans (hb.mono (by simp)); have hq := rblk_new hb; have c0 := cell_at (j := 0) hq rfl; have c1 := cell_at (j := 1) hq rfl; have f0 : w1.frozen? ⟨w.heap.size, 0, none⟩ = false := free_at hq; have f1 : w1.frozen? ⟨w.heap.size, 1, none⟩ = false := free_at hq; have HQ := Lib.hid hq; clear hq hb))
    have q0 := set_at (j := 0) (u := .int .i64 (szK k)) HQ.out
    have q1 := set_at (j := 1) (u := .bool (sgK k)) q0
    have e0 := cell_at (j := 0) (v := .int .i64 (szK k)) q0 rfl
    have e1 := cell_at (j := 1) (v := .bool (sgK k)) q1 rfl
    refine bodyPost_ret (v := .agg #[.int .i64 (szK k), .bool (sgK k)]) ?_ rfl ⟨rfl, by go_grown⟩
    simp [results, Tryz.results38, go_sem, e0, e1]
end Go.Proofs.YtinmdkhafamibaaGreat
namespace Go.Proofs.YtinmdkhafamibaaGreat
open Go.RowKit
set_option linter.unusedVariables false
theorem pstep {w w1 w2 : World} (h : Below w.heap.size w w1) (k : Below w1.heap.size w1 w2) : Below w.heap.size w w2 := h.trans (k.mono h.size)
theorem drewN_below' {B : Nat} {w w1 w2 : World} (h : Below B w w1) (k : ∃ m, w2 = w1.drewN m) : Below B w w2 := by
  obtain ⟨m, rfl⟩ := k; exact drewN_below h m
theorem number_any (k : Int) (w : World) : Calls Tryz.prog 70 #[.int .i64 k] w fun e w' => e = .returned (.bool (numK k)) ∧ Below w.heap.size w w' :=
  (number_same k w).mono fun _ _ ⟨a, b⟩ => ⟨a, b ▸ Below.refl _ _⟩
theorem row_size (a : Int) (b : Bool) (w : World) : (Instr.field 71 (.agg #[.int .i64 a, .bool b]) 0).run Tryz.prog w = .ok (.int .i64 a) w := by kernel_rfl
theorem row_sign (a : Int) (b : Bool) (w : World) : (Instr.field 71 (.agg #[.int .i64 a, .bool b]) 1).run Tryz.prog w = .ok (.bool b) w := by kernel_rfl
theorem size_any (k : Int) (w : World) : Calls Tryz.prog 26 #[.int .i64 k] w fun e w' => e = .returned (.int .i64 (szK k)) ∧ Below w.heap.size w w' := by
  have hf := row_size
  go_enter Tryz.func26, Tryz.ntmps26
  go_wp2_with (go_at_call 38; refine (rowOf_any _ _).mono ?_; rintro e w1 ⟨rfl, hb⟩)
  go_ret
  exact ⟨rfl, hb⟩
theorem signed_any (k : Int) (w : World) : Calls Tryz.prog 117 #[.int .i64 k] w fun e w' => e = .returned (.bool (sgK k)) ∧ Below w.heap.size w w' := by
  have hf := row_sign
  go_enter Tryz.func117, Tryz.ntmps117
  go_wp2_with (go_at_call 38; refine (rowOf_any _ _).mono ?_; rintro e w1 ⟨rfl, hb⟩)
  go_ret
  exact ⟨rfl, hb⟩
theorem szK_no {k : Int} (h : numK k = false) : szK k = 0 := by simp [numK] at h; unfold szK; rw [if_neg (by omega), if_neg (by omega), if_neg (by omega), if_neg (by omega)]
theorem low_bits (k n : Int) : bitsN (signZ n (szK k)) (szK k) = lowK k n := by
  unfold lowK
  cases hk : numK k with
  | false => rw [szK_no hk]; rfl
  | true =>
    have hz := szK_sz hk
    have hi : inR (signZ n (szK k)) (szK k) = true := by
      have := signZ_in n hz
      unfold inR; rw [Bool.and_eq_true]; exact ⟨decide_eq_true this.1, decide_eq_true (by omega)⟩
    rw [bitsN_in hz hi, if_pos rfl]
    unfold lowZ signZ
    rw [if_pos hz]
    split
    · exact Int.emod_emod_of_dvd n (Int.dvd_refl _)
    · rw [Int.sub_emod_right]; exact Int.emod_emod_of_dvd n (Int.dvd_refl _)
theorem low_any (k n : Int) (hn : (Lit.int .u64 n).wf = true) (w : World) : Calls Tryz.prog 31 #[.int .i64 k, .int .u64 n] w fun e w' => e = .returned (.int .u64 (lowK k n)) ∧ Below w.heap.size w w' := by
  have HB := Lib.hid (low_bits k n)
  obtain ⟨z, hz⟩ : ∃ z, szK k = z := ⟨_, rfl⟩
  have HS := Lib.hid (fun w => hz ▸ size_any k w)
  rw [hz] at HB
  clear hz
  go_enter Tryz.func31, Tryz.ntmps31
  go_wp2_with (first
    | (go_at_call 26; refine (HS.out _).mono ?_; rintro e w1 ⟨rfl, hb⟩)
    | (go_at_call 56; refine (sign_any _ _ _).mono ?_; rintro e w' ⟨rfl, m, rfl⟩)
    | (go_at_call 55; refine (bits_any _ _ _).mono ?_; rintro e w' ⟨rfl, m2, rfl⟩))
  go_ret
  exact ⟨ret_int HB.out, drewN_below hb _⟩
theorem up_any (k n : Int) (hn : (Lit.int .u64 n).wf = true) (w : World) : Calls Tryz.prog 102 #[.int .i64 k, .int .u64 n] w fun e w' => e = .returned (.int .u64 (upK k n)) ∧ Below w.heap.size w w' := by
  unfold upK
  cases hs : sgK k with
  | true =>
    have HG := Lib.hid (fun w => hs ▸ signed_any k w)
    clear hs
    go_enter Tryz.func102, Tryz.ntmps102
    go_wp2_with (first
      | (go_at_call 117; refine (HG.out _).mono ?_; rintro e w1 ⟨rfl, hb⟩)
      | (go_at_call 26; refine (size_any _ _).mono ?_; rintro e w2 ⟨rfl, hb2⟩)
      | (go_at_call 118; refine (wide_any _ _ _).mono ?_; rintro e w' ⟨rfl, m, rfl⟩))
    go_ret
    exact ⟨rfl, drewN_below (pstep hb hb2) _⟩
  | false =>
    have HG := Lib.hid (fun w => hs ▸ signed_any k w)
    clear hs
    go_enter Tryz.func102, Tryz.ntmps102
    go_wp2_with (first
      | (go_at_call 117; refine (HG.out _).mono ?_; rintro e w1 ⟨rfl, hb⟩)
      | (go_at_call 31; refine (low_any _ _ hn _).mono ?_; rintro e w2 ⟨rfl, hb2⟩))
    go_ret
    exact ⟨rfl, pstep hb hb2⟩
theorem may_any (k n : Int) (hn : (Lit.int .u64 n).wf = true) (w : World) : Calls Tryz.prog 80 #[.int .i64 k, .int .u64 n] w fun e w' => e = .returned (.bool (mayK k n)) ∧ Below w.heap.size w w' := by
  unfold mayK
  by_cases h1 : k = 1
  · subst h1
    go_enter Tryz.func80, Tryz.ntmps80
    go_wp2
    go_ret
    refine ⟨ret_bool ?_, Below.refl _ _⟩
    rw [Bool.eq_iff_iff]; simp; omega
  · rw [if_neg h1]
    have h1b : (k == 1) = false := by simpa using h1
    clear h1
    cases hk : numK k with
    | false =>
      have HN := Lib.hid (fun w => hk ▸ number_same k w)
      clear hk
      go_enter Tryz.func80, Tryz.ntmps80
      go_wp2_with (go_at_call 70; refine (HN.out _).mono ?_; rintro e w' ⟨rfl, rfl⟩)
      go_ret
      exact ⟨rfl, Below.refl _ _⟩
    | true =>
      have HN := Lib.hid (fun w => hk ▸ number_same k w)
      clear hk
      go_enter Tryz.func80, Tryz.ntmps80
      go_wp2_with (first
        | (go_at_call 70; refine (HN.out _).mono ?_; rintro e w' ⟨rfl, rfl⟩)
        | (go_at_call 102; refine (up_any _ _ hn _).mono ?_; rintro e w1 ⟨rfl, hb⟩))
      go_ret
      exact ⟨rfl, hb⟩
end Go.Proofs.YtinmdkhafamibaaGreat
