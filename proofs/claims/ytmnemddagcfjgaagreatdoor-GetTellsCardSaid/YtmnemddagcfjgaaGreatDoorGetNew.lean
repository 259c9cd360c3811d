/- get: a new reader; what the deferred functions do. -/
import Derived.Test.YtmnemddagcfjgaaGreatDoorGetDec
import Derived.Recover
import Derived.Deep.WholeRow
namespace Go.Proofs.YtmnemddagcfjgaaGreatDoor
open Go.RowKit
set_option linter.unusedVariables false
theorem fault_neq (a b c d : Int) (w : World) : (binOp .neq 62 (.agg #[.int .i64 a, .int .i64 b]) (.agg #[.int .i64 c, .int .i64 d])).run Tryz.prog w = .ok (.bool (!((a == c) && (b == d)))) w := by
  have hu := Tryz.underlying62
  have hi := Tryz.underlying3
  have he := Tryz.underlying29
  have p0 := fun a c w => run_equalIn_int (P := Tryz.prog) w 9998 3 .i64 .i64 a c hi
  have p1 := fun a c w => run_equalIn_int (P := Tryz.prog) w 9998 29 .i64 .i64 a c he
  rw [run_neq_struct, run_equalIn_agg _ 9999 _ _ _ (by kernel_rfl) (by kernel_rfl)]
  simp only [Program.fieldsOf, hu]
  simp [Op.eqFields, go_sem, p0, p1]
  by_cases h1 : a = c <;> by_cases h2 : b = d <;> simp [h1, h2]
abbrev rdZ : Obj := .cells #[.slice none 0 0, .pointer none] 54
set_option maxRecDepth 100000 in
set_option maxHeartbeats 2000000 in
theorem rnew_bad (ao : Option Addr) (len cap : Nat) (L : Nat → TypeV) (hlen : len ≤ 1000000) (hcap : len ≤ cap) (t : Int) (b : ByteArray) (w : World) (H : ∀ i, i < len → TypeAt w ao i (L i)) (hT : hasT L len t = false) :
    Calls Tryz.prog 19 #[.slice ao len cap, .int .i64 t, .string b] w fun e w' => e = .panicked (failP 8) ∧ Below w.heap.size w w' := by
  have HB := Lib.hid ((Below.refl w.heap.size w).alloc (Nat.le_refl _) rdZ)
  by_cases ht : 0 ≤ t ∧ t < len
  · obtain ⟨h0, h1⟩ := ht
    have hT' : hasT L len t = ((fErr (oneR L len) len == 0) && (fAt (oneR L len) len == 0)) := by unfold hasT inL; rw [decide_eq_true h0, decide_eq_true h1]; rfl
    have hc := fun wx (hb : Below w.heap.size w wx) => check6_any ao len cap L hlen hcap wx (hold H hb)
    rw [fault_same] at hc
    unfold faultV at hc
    obtain ⟨E, hE⟩ : ∃ E, fErr (oneR L len) len = E := ⟨_, rfl⟩
    obtain ⟨A, hA⟩ : ∃ A, fAt (oneR L len) len = A := ⟨_, rfl⟩
    rw [hE, hA] at hc hT'
    have hfe := fun w => fault_neq E A 0 0 w
    rw [← hT', hT] at hfe
    have HC := Lib.hid hc
    have d0 : decide (t < 0) = false := by simpa using h0
    have d1 : decide ((len : Int) ≤ t) = false := by simpa using h1
    clear hc hE hA hT hT' H
    go_enter Tryz.func19, Tryz.ntmps19
    go_wp2_with (first
      | (go_at_call 38; refine (HC.out _ HB.out).mono ?_; rintro e w1 ⟨rfl, hb1⟩; have HB1 := Lib.hid (below_step8' HB.out hb1); clear hb1)
      | (go_at_call 20; refine (stopIf_bad _ _).mono ?_; rintro e w3 ⟨rfl, rfl⟩))
    exact ⟨rfl, rfl, HB1.out⟩
  · clear hT H
    by_cases h0 : 0 ≤ t
    · have h1 : ¬ t < len := fun h => ht ⟨h0, h⟩
      have d0 : decide (t < 0) = false := by simpa using h0
      have d1 : decide ((len : Int) ≤ t) = true := by simpa using h1
      clear ht
      go_enter Tryz.func19, Tryz.ntmps19
      go_wp2_with (go_at_call 20; refine (stopIf_bad _ _).mono ?_; rintro e w3 ⟨rfl, rfl⟩)
      exact ⟨rfl, rfl, HB.out⟩
    · have d0 : decide (t < 0) = true := by simpa using h0
      clear ht
      go_enter Tryz.func19, Tryz.ntmps19
      go_wp2_with (go_at_call 20; refine (stopIf_bad _ _).mono ?_; rintro e w3 ⟨rfl, rfl⟩)
      exact ⟨rfl, rfl, HB.out⟩
theorem RdAt.made {w w1 : World} (b : ByteArray) (hb : Below w.heap.size w w1) (g : Nat) (hg : w.heap.size ≤ g) (hg1 : g < w1.heap.size) (r : Array Value) : RdAt w w1.heap.size b 0 ((w1.alloc (.cells #[.int .i64 0, .string b, .int .i64 0] 98 (0, 0))).setRow g r) := by
  have h2 := hb.alloc hb.size (.cells #[.int .i64 0, .string b, .int .i64 0] 98 (0, 0))
  refine ⟨below_setRow h2 hg _, hb.size, ?_, Nat.zero_le _⟩
  exact (setRow_other _ _ _ _ (by omega)).trans (alloc_at w1 _)
set_option maxRecDepth 100000 in
set_option maxHeartbeats 2000000 in
theorem rnew_ok (ao : Option Addr) (len cap : Nat) (L : Nat → TypeV) (hlen : len ≤ 1000000) (hcap : len ≤ cap) (t : Int) (b : ByteArray) (w : World) (H : ∀ i, i < len → TypeAt w ao i (L i)) (hT : hasT L len t = true) :
    Calls Tryz.prog 19 #[.slice ao len cap, .int .i64 t, .string b] w fun e w' => ∃ c, e = .returned (.agg #[.slice ao len cap, .pointer (some ⟨c, 0, none⟩)]) ∧ RdAt w c b 0 w' := by
  have HB := Lib.hid ((Below.refl w.heap.size w).alloc (Nat.le_refl _) rdZ)
  have HQ := Lib.hid (alloc_at w rdZ)
  obtain ⟨k, rfl, hkl, _⟩ := hasT_in hT
  have h0 : (0 : Int) ≤ (k : Nat) := by omega
  have h1 : ((k : Nat) : Int) < len := by omega
  have hT' : hasT L len (k : Nat) = ((fErr (oneR L len) len == 0) && (fAt (oneR L len) len == 0)) := by unfold hasT inL; rw [decide_eq_true h0, decide_eq_true h1]; rfl
  have hc := fun wx (hb : Below w.heap.size w wx) => check6_any ao len cap L hlen hcap wx (hold H hb)
  rw [fault_same] at hc
  unfold faultV at hc
  obtain ⟨E, hE⟩ : ∃ E, fErr (oneR L len) len = E := ⟨_, rfl⟩
  obtain ⟨A, hA⟩ : ∃ A, fAt (oneR L len) len = A := ⟨_, rfl⟩
  rw [hE, hA] at hc hT'
  have hfe := fun w => fault_neq E A 0 0 w
  rw [← hT', hT] at hfe
  have HC := Lib.hid hc
  have d1 : decide ((len : Int) ≤ (k : Nat)) = false := by simpa using h1
  clear hc hE hA hT hT' H
  go_enter Tryz.func19, Tryz.ntmps19
  go_wp2_with (first
    | (go_at_call 38; refine (HC.out _ HB.out).mono ?_; rintro e w1 ⟨rfl, hb1⟩; have HB1 := Lib.hid (below_step8' HB.out hb1); have HQ1 := Lib.hid (box_keep HQ.out hb1); have hsz := lt_of_block HQ1.out; clear hb1)
    | (go_at_call 20; refine (stopIf_ok _ _).mono ?_; rintro e w3 ⟨rfl, rfl⟩)
    | (go_at_call 39; refine (read_any b _).mono ?_; rintro e w4 ⟨rfl, rfl⟩; have HQ2 := Lib.hid (alloc_old (o := .cells #[.int .i64 0, .string b, .int .i64 0] 98 (0, 0)) HQ1.out))
    | (refine wpList_store_rowTo rfl 54 _ _ rfl rfl w.heap.size #[.slice ao len cap, .pointer (some ⟨w1.heap.size, 0, none⟩)] rfl rfl _ _ HQ2.out (by kernel_rfl) (by kernel_rfl) (by kernel_rfl) ?_))
  have HE := Lib.hid (RdAt.made b HB1.out w.heap.size (Nat.le_refl _) hsz #[.slice ao len cap, .pointer (some ⟨w1.heap.size, 0, none⟩)])
  refine bodyPost_ret (v := .agg #[.slice ao len cap, .pointer (some ⟨w1.heap.size, 0, none⟩)]) ?_ rfl ⟨_, rfl, HE.out⟩
  have hl := run_loadVar_row (P := Tryz.prog) _ w.heap.size _ 54 _ _ _ (setRow_heap _ _ _ #[.slice ao len cap, .pointer (some ⟨w1.heap.size, 0, none⟩)] _ _ HQ2.out) Tryz.underlying54 rfl (by kernel_rfl)
  simp [results, Tryz.results19, asAddr, hl]
end Go.Proofs.YtmnemddagcfjgaaGreatDoor
