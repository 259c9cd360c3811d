/- Contract of package prim's Of. -/
import Derived.Test.YtkkkbcgipcgebaaPrimCode
import Derived.Laws.StructEq
import Derived.Deep.RegionHeld3
namespace Go.Proofs.Ytkkkbcgipcgebaa
open Go.RowKit
set_option linter.unusedVariables false
theorem val_in {k x : Int} (hk : numK k = true) (h0 : loK k ≤ x) (h1 : x ≤ hiK k) : valK k (IntKind.u64.wrap x) = x := by
  have hz := szK_sz hk
  by_cases e : k = 1
  · subst e
    have a : loK 1 = 0 := rfl
    have b : hiK 1 = 1 := rfl
    unfold valK; rw [if_pos rfl, IntKind.wrap_u64]; omega
  · unfold valK
    rw [if_neg e]
    cases hs : sgK k with
    | true =>
      have hm := most_sg hs
      rw [if_pos rfl, signZ_u64, signZ_eq hz]
      unfold inR; rw [Bool.and_eq_true]
      exact ⟨decide_eq_true (by omega), decide_eq_true (by omega)⟩
    | false =>
      have hm := most_un e hs
      rw [if_neg (by simp)]
      unfold lowZ
      rw [mod_u64 _ hz]
      exact Int.emod_eq_of_lt (by omega) (by omega)
/-- whether two data are the same -/
def eqD (a c : DatV) : Bool := (a.kind == c.kind) && ((a.neg == c.neg) && ((a.num == c.num) && (a.text.toList == c.text.toList)))
theorem of_code {k kd num : Int} {neg : Bool} {tx : ByteArray} (hk : numK k = true) (h0 : 0 ≤ num) (h1 : num ≤ 18446744073709551615) {b : Bool} (hb : (neg && num != 0) = b) {n : Int} (hn : n = if b then IntKind.u64.wrap (-num) else num) :
    eqD (datK k n) ⟨kd, b, num, tx⟩ = ofB k ⟨kd, neg, num, tx⟩ ∧ (ofB k ⟨kd, neg, num, tx⟩ = true → n = ofN k ⟨kd, neg, num, tx⟩) := by
  have hdv : dv ⟨kd, neg, num, tx⟩ = if b then -num else num := by
    subst hb
    unfold dv
    cases neg with
    | false => rfl
    | true =>
      by_cases z : num = 0
      · subst z; rfl
      · simp [z]
  have hnw : n = IntKind.u64.wrap (dv ⟨kd, neg, num, tx⟩) := by
    rw [hdv, hn]
    cases b with
    | true => rfl
    | false => simp; rw [IntKind.wrap_u64]; omega
  have hb' : b = true → 0 < num := by intro h; subst h; simp at hb; omega
  have hv := of_val (n := n) hk
  obtain ⟨_, _, _, hlo, hhi⟩ := hv
  have key : ((decide (valK k n < 0) == b) && (absZ (valK k n) == num)) = (decide (loK k ≤ dv ⟨kd, neg, num, tx⟩) && decide (dv ⟨kd, neg, num, tx⟩ ≤ hiK k)) := by
    rw [Bool.eq_iff_iff]
    constructor
    · intro h
      have hvd : valK k n = dv ⟨kd, neg, num, tx⟩ := by
        rw [hdv]
        unfold absZ at h
        cases b <;> simp at h <;> simp <;> (repeat' split at h) <;> omega
      rw [← hvd, Bool.and_eq_true]
      exact ⟨decide_eq_true hlo, decide_eq_true hhi⟩
    · intro h
      rw [Bool.and_eq_true, decide_eq_true_iff, decide_eq_true_iff] at h
      have hvd := val_in hk h.1 h.2
      rw [← hnw] at hvd
      rw [hvd, hdv]
      unfold absZ
      cases b with
      | true => have := hb' rfl; simp; omega
      | false => simp; omega
  have hd : datK k n = ⟨dkK k, decide (valK k n < 0), absZ (valK k n), ⟨#[]⟩⟩ := by unfold datK; rw [hk]; rfl
  refine ⟨?_, fun h => by unfold ofN; rw [h, if_pos rfl]; exact hnw⟩
  rw [hd]
  unfold eqD ofB
  simp only [hk, Bool.true_and]
  have e1 : ((⟨#[]⟩ : ByteArray).toList == tx.toList) = tx.toList.isEmpty := by
    have : (⟨#[]⟩ : ByteArray).toList = [] := by rw [ByteArray.toList_eq]
    rw [this]; cases tx.toList <;> rfl
  have e2 : (dkK k == kd) = (kd == dkK k) := by rw [Bool.eq_iff_iff]; simp; exact eq_comm
  have ek : ∀ a x y z p q : Bool, (x && y) = (p && q) → (a && (x && (y && z))) = (z && a && p && q) := by decide
  rw [e1, e2]
  exact ek _ _ _ _ _ _ key
theorem dat_neq (ka kb na nb : Int) (ga gb : Bool) (ta tb : ByteArray) (w : World) : (binOp .neq 29 (.agg #[.int .i64 ka, .bool ga, .int .u64 na, .string ta]) (.agg #[.int .i64 kb, .bool gb, .int .u64 nb, .string tb])).run Try.prog w = .ok (.bool (!eqD ⟨ka, ga, na, ta⟩ ⟨kb, gb, nb, tb⟩)) w := by
  have hu := Try.underlying29
  have hi := Try.underlying3
  have hb := Try.underlying4
  have hn := Try.underlying22
  have hs := Try.underlying9
  have p0 := fun w => run_equalIn_int (P := Try.prog) w 9998 3 .i64 .i64 ka kb hi
  have p1 := fun w => run_equalIn_bool' (P := Try.prog) w 9998 4 ga gb hb
  have p2 := fun w => run_equalIn_int (P := Try.prog) w 9998 22 .u64 .u64 na nb hn
  have p3 := fun w => run_equalIn_string (P := Try.prog) w 9998 9 ta tb hs
  rw [run_neq_struct, run_equalIn_agg _ 9999 _ _ _ (by kernel_rfl) (by kernel_rfl)]
  simp only [Program.fieldsOf, hu]
  simp [Op.eqFields, go_sem, p0, p1, p2, p3]
  unfold eqD
  dsimp only
  (repeat' split) <;> simp_all
theorem datum_put (k n dk dn : Int) (dg : Bool) (dt : ByteArray) (hD : datK k n = ⟨dk, dg, dn, dt⟩) (hn : (Lit.int .u64 n).wf = true) (w : World) : Calls Try.prog 22 #[.int .i64 k, .int .u64 n] w fun e w' => e = .returned (.agg #[.int .i64 dk, .bool dg, .int .u64 dn, .string dt]) ∧ Below w.heap.size w w' := by
  have h := datum_any k n hn w; rw [hD] at h; exact h
theorem wrap_wf (x : Int) : (Lit.int .u64 (IntKind.u64.wrap x)).wf = true := wf_u64 (by rw [IntKind.wrap_u64]; omega) (by rw [IntKind.wrap_u64]; omega)
theorem okeep {w w1 : World} {a : Addr} {v : Value} (hb : Below w.heap.size w w1) (h : w.cell? a = some v) : w1.cell? a = some v := (hb.cell (World.block_lt_of_cell? w _ h)).trans h
theorem of_any (k kd num : Int) (neg : Bool) (tx : ByteArray) (hn : (Lit.int .u64 num).wf = true) (hs : tx.size ≤ 281474976710656) (w : World) : Calls Try.prog 20 #[.int .i64 k, .agg #[.int .i64 kd, .bool neg, .int .u64 num, .string tx]] w fun e w' => e = .returned (.tuple #[.int .u64 (ofN k ⟨kd, neg, num, tx⟩), .bool (ofB k ⟨kd, neg, num, tx⟩)]) ∧ Below w.heap.size w w' := by
  have hr := Below.refl w.heap.size w
  obtain ⟨h0, h1⟩ := bounds_u64 hn
  have HB := fun w => isBelow_at kd num neg tx w
  cases hb : (neg && num != 0) with
  | true =>
    rw [hb] at HB
    have HB := Lib.hid HB
    cases hk : numK k with
    | false =>
      have HN := Lib.hid (fun w => hk ▸ number_same k w)
      have hB : ofB k ⟨kd, neg, num, tx⟩ = false := ofB_no _ hk
      have hX : ofN k ⟨kd, neg, num, tx⟩ = 0 := by unfold ofN; rw [hB]; rfl
      rw [hB, hX]
      clear hB hX hk hb
      go_enter Try.func20, Try.ntmps20
      go_upto_region 5 with (first
        | (go_at_call 33; refine (HB.out _).mono ?_; rintro e w1 ⟨rfl, rfl⟩))
      go_wp2_with fail
      go_big_quiet ((go_at_call 7; exact Calls.quiet_of_same (P := Try.prog) ((HN.out _).mono fun _ _ ⟨a, b⟩ => ⟨a, b.symm⟩)))
      go_wp2_with fail
      go_ret2
      exact ⟨rfl, drewN_below (((Below.refl _ _).alloc (Nat.le_refl _) _).alloc (by simp) _) _⟩
    | true =>
      have HN := Lib.hid (fun w => hk ▸ number_same k w)
      obtain ⟨⟨dk, dg, dn, dt⟩, hD⟩ : ∃ D, datK k (IntKind.u64.wrap (-num)) = D := ⟨_, rfl⟩
      have HE := Lib.hid (fun w => datum_put k (IntKind.u64.wrap (-num)) dk dn dg dt hD (wrap_wf _) w)
      have ho := of_code (kd := kd) (tx := tx) hk h0 h1 hb (n := (IntKind.u64.wrap (-num))) rfl
      rw [hD] at ho
      have hne := fun w => dat_neq dk kd dn num dg true dt tx w
      rw [ho.1] at hne
      cases hB : ofB k ⟨kd, neg, num, tx⟩ with
      | true =>
        rw [← ho.2 hB]
        rw [hB] at hne
        clear ho hB hD hk hb
        go_enter Try.func20, Try.ntmps20
        go_upto_region 5 with (first
          | (go_at_call 33; refine (HB.out _).mono ?_; rintro e w1 ⟨rfl, rfl⟩))
        have hq : ((w.alloc (.cells #[.int .i64 kd, .bool true, .int .u64 num, .string tx] 29)).alloc (.cells #[.int .i64 kd, .bool neg, .int .u64 num, .string tx] 29)).heap[w.heap.size]? = some (.cells #[.int .i64 kd, .bool true, .int .u64 num, .string tx] 29 (0, 0)) := alloc_old (alloc_at w _)
        have HW := Lib.hid (((Below.refl w.heap.size w).alloc (Nat.le_refl _) (.cells #[.int .i64 kd, .bool true, .int .u64 num, .string tx] 29)).alloc (by simp) (.cells #[.int .i64 kd, .bool neg, .int .u64 num, .string tx] 29))
        generalize ((w.alloc (.cells #[.int .i64 kd, .bool true, .int .u64 num, .string tx] 29)).alloc (.cells #[.int .i64 kd, .bool neg, .int .u64 num, .string tx] 29)) = W0 at hq HW ⊢
        have d0 := cell_at (j := 0) hq rfl
        have d1 := cell_at (j := 1) hq rfl
        have d2 := cell_at (j := 2) hq rfl
        have d3 := cell_at (j := 3) hq rfl
        clear hq HB
        go_wp2_with fail
        go_region_held3 (fun w' => w'.cell? ⟨w.heap.size, 0, none⟩ = some (.int .i64 kd) ∧ w'.cell? ⟨w.heap.size, 1, none⟩ = some (.bool true) ∧ w'.cell? ⟨w.heap.size, 2, none⟩ = some (.int .u64 num) ∧ w'.cell? ⟨w.heap.size, 3, none⟩ = some (.string tx) ∧ Hid (Below w.heap.size w w'))
          (first | exact ⟨d0, d1, d2, d3, Lib.hid HW.out.drew⟩ | exact ⟨d0, d1, d2, d3, HW⟩ | fail)
          (first
            | (go_at_call 7; refine (HN.out _).mono ?_; rintro e w3 ⟨rfl, rfl⟩)
            | (go_at_call 22; refine (HE.out _).mono ?_; rintro e w3 ⟨rfl, hb3⟩; have d0 := okeep hb3 (by exact d0); have d1 := okeep hb3 (by exact d1); have d2 := okeep hb3 (by exact d2); have d3 := okeep hb3 (by exact d3); have HW := Lib.hid (pstep (by first | exact HW.out | exact HW.out.drew) hb3); clear hb3))
        go_wp2_with fail
        go_ret2
        exact ⟨rfl, HW.out⟩
      | false =>
        have hX : ofN k ⟨kd, neg, num, tx⟩ = 0 := by unfold ofN; rw [hB]; rfl
        rw [hX]
        rw [hB] at hne
        clear hX
        clear ho hB hD hk hb
        go_enter Try.func20, Try.ntmps20
        go_upto_region 5 with (first
          | (go_at_call 33; refine (HB.out _).mono ?_; rintro e w1 ⟨rfl, rfl⟩))
        have hq : ((w.alloc (.cells #[.int .i64 kd, .bool true, .int .u64 num, .string tx] 29)).alloc (.cells #[.int .i64 kd, .bool neg, .int .u64 num, .string tx] 29)).heap[w.heap.size]? = some (.cells #[.int .i64 kd, .bool true, .int .u64 num, .string tx] 29 (0, 0)) := alloc_old (alloc_at w _)
        have HW := Lib.hid (((Below.refl w.heap.size w).alloc (Nat.le_refl _) (.cells #[.int .i64 kd, .bool true, .int .u64 num, .string tx] 29)).alloc (by simp) (.cells #[.int .i64 kd, .bool neg, .int .u64 num, .string tx] 29))
        generalize ((w.alloc (.cells #[.int .i64 kd, .bool true, .int .u64 num, .string tx] 29)).alloc (.cells #[.int .i64 kd, .bool neg, .int .u64 num, .string tx] 29)) = W0 at hq HW ⊢
        have d0 := cell_at (j := 0) hq rfl
        have d1 := cell_at (j := 1) hq rfl
        have d2 := cell_at (j := 2) hq rfl
        have d3 := cell_at (j := 3) hq rfl
        clear hq HB
        go_wp2_with fail
        go_region_held3 (fun w' => w'.cell? ⟨w.heap.size, 0, none⟩ = some (.int .i64 kd) ∧ w'.cell? ⟨w.heap.size, 1, none⟩ = some (.bool true) ∧ w'.cell? ⟨w.heap.size, 2, none⟩ = some (.int .u64 num) ∧ w'.cell? ⟨w.heap.size, 3, none⟩ = some (.string tx) ∧ Hid (Below w.heap.size w w'))
          (first | exact ⟨d0, d1, d2, d3, Lib.hid HW.out.drew⟩ | exact ⟨d0, d1, d2, d3, HW⟩ | fail)
          (first
            | (go_at_call 7; refine (HN.out _).mono ?_; rintro e w3 ⟨rfl, rfl⟩)
            | (go_at_call 22; refine (HE.out _).mono ?_; rintro e w3 ⟨rfl, hb3⟩; have d0 := okeep hb3 (by exact d0); have d1 := okeep hb3 (by exact d1); have d2 := okeep hb3 (by exact d2); have d3 := okeep hb3 (by exact d3); have HW := Lib.hid (pstep (by first | exact HW.out | exact HW.out.drew) hb3); clear hb3))
        go_wp2_with fail
        go_ret2
        exact ⟨rfl, HW.out⟩
  | false =>
    rw [hb] at HB
    have HB := Lib.hid HB
    cases hk : numK k with
    | false =>
      have HN := Lib.hid (fun w => hk ▸ number_same k w)
      have hB : ofB k ⟨kd, neg, num, tx⟩ = false := ofB_no _ hk
      have hX : ofN k ⟨kd, neg, num, tx⟩ = 0 := by unfold ofN; rw [hB]; rfl
      rw [hB, hX]
      clear hB hX hk hb
      go_enter Try.func20, Try.ntmps20
      go_upto_region 5 with (first
        | (go_at_call 33; refine (HB.out _).mono ?_; rintro e w1 ⟨rfl, rfl⟩))
      go_wp2_with fail
      go_big_quiet ((go_at_call 7; exact Calls.quiet_of_same (P := Try.prog) ((HN.out _).mono fun _ _ ⟨a, b⟩ => ⟨a, b.symm⟩)))
      go_wp2_with fail
      go_ret2
      exact ⟨rfl, drewN_below (((Below.refl _ _).alloc (Nat.le_refl _) _).alloc (by simp) _) _⟩
    | true =>
      have HN := Lib.hid (fun w => hk ▸ number_same k w)
      obtain ⟨⟨dk, dg, dn, dt⟩, hD⟩ : ∃ D, datK k num = D := ⟨_, rfl⟩
      have HE := Lib.hid (fun w => datum_put k num dk dn dg dt hD hn w)
      have ho := of_code (kd := kd) (tx := tx) hk h0 h1 hb (n := num) rfl
      rw [hD] at ho
      have hne := fun w => dat_neq dk kd dn num dg false dt tx w
      rw [ho.1] at hne
      cases hB : ofB k ⟨kd, neg, num, tx⟩ with
      | true =>
        rw [← ho.2 hB]
        rw [hB] at hne
        clear ho hB hD hk hb
        go_enter Try.func20, Try.ntmps20
        go_upto_region 5 with (first
          | (go_at_call 33; refine (HB.out _).mono ?_; rintro e w1 ⟨rfl, rfl⟩))
        have hq : ((w.alloc (.cells #[.int .i64 kd, .bool false, .int .u64 num, .string tx] 29)).alloc (.cells #[.int .i64 kd, .bool neg, .int .u64 num, .string tx] 29)).heap[w.heap.size]? = some (.cells #[.int .i64 kd, .bool false, .int .u64 num, .string tx] 29 (0, 0)) := alloc_old (alloc_at w _)
        have HW := Lib.hid (((Below.refl w.heap.size w).alloc (Nat.le_refl _) (.cells #[.int .i64 kd, .bool false, .int .u64 num, .string tx] 29)).alloc (by simp) (.cells #[.int .i64 kd, .bool neg, .int .u64 num, .string tx] 29))
        generalize ((w.alloc (.cells #[.int .i64 kd, .bool false, .int .u64 num, .string tx] 29)).alloc (.cells #[.int .i64 kd, .bool neg, .int .u64 num, .string tx] 29)) = W0 at hq HW ⊢
        have d0 := cell_at (j := 0) hq rfl
        have d1 := cell_at (j := 1) hq rfl
        have d2 := cell_at (j := 2) hq rfl
        have d3 := cell_at (j := 3) hq rfl
        clear hq HB
        go_wp2_with fail
        go_region_held3 (fun w' => w'.cell? ⟨w.heap.size, 0, none⟩ = some (.int .i64 kd) ∧ w'.cell? ⟨w.heap.size, 1, none⟩ = some (.bool false) ∧ w'.cell? ⟨w.heap.size, 2, none⟩ = some (.int .u64 num) ∧ w'.cell? ⟨w.heap.size, 3, none⟩ = some (.string tx) ∧ Hid (Below w.heap.size w w'))
          (first | exact ⟨d0, d1, d2, d3, Lib.hid HW.out.drew⟩ | exact ⟨d0, d1, d2, d3, HW⟩ | fail)
          (first
            | (go_at_call 7; refine (HN.out _).mono ?_; rintro e w3 ⟨rfl, rfl⟩)
            | (go_at_call 22; refine (HE.out _).mono ?_; rintro e w3 ⟨rfl, hb3⟩; have d0 := okeep hb3 (by exact d0); have d1 := okeep hb3 (by exact d1); have d2 := okeep hb3 (by exact d2); have d3 := okeep hb3 (by exact d3); have HW := Lib.hid (pstep (by first | exact HW.out | exact HW.out.drew) hb3); clear hb3))
        go_wp2_with fail
        go_ret2
        exact ⟨rfl, HW.out⟩
      | false =>
        have hX : ofN k ⟨kd, neg, num, tx⟩ = 0 := by unfold ofN; rw [hB]; rfl
        rw [hX]
        rw [hB] at hne
        clear hX
        clear ho hB hD hk hb
        go_enter Try.func20, Try.ntmps20
        go_upto_region 5 with (first
          | (go_at_call 33; refine (HB.out _).mono ?_; rintro e w1 ⟨rfl, rfl⟩))
        have hq : ((w.alloc (.cells #[.int .i64 kd, .bool false, .int .u64 num, .string tx] 29)).alloc (.cells #[.int .i64 kd, .bool neg, .int .u64 num, .string tx] 29)).heap[w.heap.size]? = some (.cells #[.int .i64 kd, .bool false, .int .u64 num, .string tx] 29 (0, 0)) := alloc_old (alloc_at w _)
        have HW := Lib.hid (((Below.refl w.heap.size w).alloc (Nat.le_refl _) (.cells #[.int .i64 kd, .bool false, .int .u64 num, .string tx] 29)).alloc (by simp) (.cells #[.int .i64 kd, .bool neg, .int .u64 num, .string tx] 29))
        generalize ((w.alloc (.cells #[.int .i64 kd, .bool false, .int .u64 num, .string tx] 29)).alloc (.cells #[.int .i64 kd, .bool neg, .int .u64 num, .string tx] 29)) = W0 at hq HW ⊢
        have d0 := cell_at (j := 0) hq rfl
        have d1 := cell_at (j := 1) hq rfl
        have d2 := cell_at (j := 2) hq rfl
        have d3 := cell_at (j := 3) hq rfl
        clear hq HB
        go_wp2_with fail
        go_region_held3 (fun w' => w'.cell? ⟨w.heap.size, 0, none⟩ = some (.int .i64 kd) ∧ w'.cell? ⟨w.heap.size, 1, none⟩ = some (.bool false) ∧ w'.cell? ⟨w.heap.size, 2, none⟩ = some (.int .u64 num) ∧ w'.cell? ⟨w.heap.size, 3, none⟩ = some (.string tx) ∧ Hid (Below w.heap.size w w'))
          (first | exact ⟨d0, d1, d2, d3, Lib.hid HW.out.drew⟩ | exact ⟨d0, d1, d2, d3, HW⟩ | fail)
          (first
            | (go_at_call 7; refine (HN.out _).mono ?_; rintro e w3 ⟨rfl, rfl⟩)
            | (go_at_call 22; refine (HE.out _).mono ?_; rintro e w3 ⟨rfl, hb3⟩; have d0 := okeep hb3 (by exact d0); have d1 := okeep hb3 (by exact d1); have d2 := okeep hb3 (by exact d2); have d3 := okeep hb3 (by exact d3); have HW := Lib.hid (pstep (by first | exact HW.out | exact HW.out.drew) hb3); clear hb3))
        go_wp2_with fail
        go_ret2
        exact ⟨rfl, HW.out⟩
end Go.Proofs.Ytkkkbcgipcgebaa
