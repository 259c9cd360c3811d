/- The walk of PrimData. -/
import Derived.Test.YtkkkbcgipcgebaaPrimAwake
import Derived.Test.YtkkkbcgipcgebaaPrimBackMath
import Derived.Test.YtkkkbcgipcgebaaRdg
import Derived.Deep.RegionHeld3
namespace Go.Proofs.Ytkkkbcgipcgebaa
open Go.ChangeShapes Go.WideShapes Go.ChangeAt Go.RowKit
set_option linter.unusedVariables false
theorem dat_of {H : Type} {enc : TypeId × Value → H} {w : World} {c0 c1 c2 c3 : Value} (h : Rdg enc Try.prog w 29 [c0, c1, c2, c3]) : ∃ (kd : Int) (neg : Bool) (num : Int) (tx : ByteArray), c0 = .int .i64 kd ∧ c1 = .bool neg ∧ c2 = .int .u64 num ∧ c3 = .string tx ∧ (Lit.int .i64 kd).wf = true ∧ (Lit.int .u64 num).wf = true ∧ tx.size ≤ 140737488351232 := by
  obtain ⟨x0, e0, w0⟩ := rdg_int Try.underlying3 (rdg_field Try.underlying29 h 0 3 0 1 rfl (by kernel_rfl))
  obtain ⟨x1, e1⟩ := rdg_bool Try.underlying4 (rdg_field Try.underlying29 h 1 4 1 1 rfl (by kernel_rfl))
  obtain ⟨x2, e2, w2⟩ := rdg_int Try.underlying22 (rdg_field Try.underlying29 h 2 22 2 1 rfl (by kernel_rfl))
  obtain ⟨x3, e3, w3⟩ := rdg_string Try.underlying9 (rdg_field Try.underlying29 h 3 9 3 1 rfl (by kernel_rfl))
  simp at e0 e1 e2 e3
  exact ⟨x0, x1, x2, x3, e0, e1, e2, e3, w0, w2, w3⟩
theorem keep5 {w w1 : World} {a : Addr} {v : Value} (hb : Below w.heap.size w w1) (h : w.cell? a = some v) : w1.cell? a = some v := (hb.cell (World.block_lt_of_cell? w _ h)).trans h
theorem below_num {n : Int} (hn : (Lit.int .u64 n).wf = true) : 0 ≤ n := (bounds_u64 hn).1
/-- a block stands as it was -/
theorem blk_keep {w w1 : World} {b : Nat} {o : Obj} (h : w.heap[b]? = some o) (hb : Below w.heap.size w w1) : w1.heap[b]? = some o := (hb.block b (lt_of_block h)).trans h
theorem blk_new {w w1 : World} {o : Obj} (hb : Below (w.alloc o).heap.size (w.alloc o) w1) : w1.heap[w.heap.size]? = some o := blk_keep (alloc_at w o) hb
theorem datum_fld (k n dk dn : Int) (dg : Bool) (dt : ByteArray) (hD : datK k n = ⟨dk, dg, dn, dt⟩) (hn : (Lit.int .u64 n).wf = true) (w : World) : Calls Try.prog 22 #[.int .i64 k, .int .u64 n] w fun e w' => e = .returned (.agg #[.int .i64 dk, .bool dg, .int .u64 dn, .string dt]) ∧ Below w.heap.size w w' := by
  have h := datum_any k n hn w; rw [hD] at h; exact h
theorem refDatum_fld (k n dk dn : Int) (dg : Bool) (dt : ByteArray) (hD : datK k n = ⟨dk, dg, dn, dt⟩) (hn : (Lit.int .u64 n).wf = true) (w : World) : Calls Try.prog 23 #[.int .i64 k, .int .u64 n] w fun e w' => e = .returned (.agg #[.int .i64 dk, .bool dg, .int .u64 dn, .string dt]) ∧ Below w.heap.size w w' := by
  have h := refDatum_any k n hn w; rw [hD] at h; exact h
set_option maxHeartbeats 2000000 in
theorem data_walk (k n ka na kb nb : Int) (ga gb : Bool) (ta tb : ByteArray) (hn : (Lit.int .u64 n).wf = true) (hna : (Lit.int .u64 na).wf = true) (hnb : (Lit.int .u64 nb).wf = true) (hta : ta.size ≤ 140737488351232) (htb : tb.size ≤ 140737488351232) (w : World) :
    Calls Try.prog 4 #[.int .i64 k, .int .u64 n, .agg #[.int .i64 ka, .bool ga, .int .u64 na, .string ta, .int .i64 kb, .bool gb, .int .u64 nb, .string tb]] w fun e w' => e = .returned (.bool true) ∧ Below w.heap.size w w' := by
  have hr := Below.refl w.heap.size w
  have HO := fun w => of_any k ka na ga ta hna (by omega) w
  have HR := Lib.hid (fun w => refOf_any k ka na ga ta hna w)
  have HC := Lib.hid (fun w => cmp_any ka kb na nb ga gb ta tb hna hnb (by omega) (by omega) w)
  have HD := Lib.hid (fun w => refCmp_any ka kb na nb ga gb ta tb (below_num hna) (below_num hnb) w)
  obtain ⟨⟨dk, dg, dn, dt⟩, hD⟩ : ∃ D, datK k n = D := ⟨_, rfl⟩
  have HE := Lib.hid (fun w => datum_fld k n dk dn dg dt hD hn w)
  have HF := Lib.hid (fun w => refDatum_fld k n dk dn dg dt hD hn w)
  obtain ⟨c, hc⟩ : ∃ c, cmpD ⟨ka, ga, na, ta⟩ ⟨kb, gb, nb, tb⟩ = c := ⟨_, rfl⟩
  rw [hc] at HC HD
  clear hD hc
  cases hb : ofB k ⟨ka, ga, na, ta⟩ with
  | true =>
    rw [hb] at HO
    have HO := Lib.hid HO
    go_enter Try.func4, Try.ntmps4
    go_upto_region 5 with (first
      | (go_at_call 20; refine (HO.out _).mono ?_; rintro e w1 ⟨rfl, hb1⟩; have hr := below_step5 (hr.alloc (Nat.le_refl _) _) hb1; have hq := blk_new hb1; have d0 := cell_at (j := 0) hq rfl; have d1 := cell_at (j := 1) hq rfl; have d2 := cell_at (j := 2) hq rfl; have d3 := cell_at (j := 3) hq rfl; have d4 := cell_at (j := 4) hq rfl; have d5 := cell_at (j := 5) hq rfl; have d6 := cell_at (j := 6) hq rfl; have d7 := cell_at (j := 7) hq rfl; have HQ := Lib.hid hq; clear hq hb1)
      | (go_at_call 21; refine (HR.out _).mono ?_; rintro e w2 ⟨x, rfl, hx, hb1⟩; have hr := below_step5 hr hb1; have hq := blk_keep HQ.out hb1; clear d0 d1 d2 d3 d4 d5 d6 d7; have d0 := cell_at (j := 0) hq rfl; have d1 := cell_at (j := 1) hq rfl; have d2 := cell_at (j := 2) hq rfl; have d3 := cell_at (j := 3) hq rfl; have d4 := cell_at (j := 4) hq rfl; have d5 := cell_at (j := 5) hq rfl; have d6 := cell_at (j := 6) hq rfl; have d7 := cell_at (j := 7) hq rfl; have HQ := Lib.hid hq; clear hq hb1))
    have HB := Lib.hid hr
    clear hr HO HR HQ
    go_wp2_with fail
    go_region_held3 (fun w' => w'.cell? ⟨w.heap.size, 0, none⟩ = some (.int .i64 ka) ∧ w'.cell? ⟨w.heap.size, 1, none⟩ = some (.bool ga) ∧ w'.cell? ⟨w.heap.size, 2, none⟩ = some (.int .u64 na) ∧ w'.cell? ⟨w.heap.size, 3, none⟩ = some (.string ta) ∧ w'.cell? ⟨w.heap.size, 4, none⟩ = some (.int .i64 kb) ∧ w'.cell? ⟨w.heap.size, 5, none⟩ = some (.bool gb) ∧ w'.cell? ⟨w.heap.size, 6, none⟩ = some (.int .u64 nb) ∧ w'.cell? ⟨w.heap.size, 7, none⟩ = some (.string tb) ∧ Hid (Below w.heap.size w w'))
      (first | exact ⟨d0, d1, d2, d3, d4, d5, d6, d7, Lib.hid HB.out.drew⟩ | exact ⟨d0, d1, d2, d3, d4, d5, d6, d7, HB⟩ | fail)
      (first
        | (go_at_call 22; refine (HE.out _).mono ?_; rintro e w3 ⟨rfl, hb3⟩; have d0 := keep5 hb3 (by exact d0); have d1 := keep5 hb3 (by exact d1); have d2 := keep5 hb3 (by exact d2); have d3 := keep5 hb3 (by exact d3); have d4 := keep5 hb3 (by exact d4); have d5 := keep5 hb3 (by exact d5); have d6 := keep5 hb3 (by exact d6); have d7 := keep5 hb3 (by exact d7); have HB := Lib.hid (below_step5 (by first | exact HB.out | exact HB.out.drew) hb3); clear hb3)
        | (go_at_call 23; refine (HF.out _).mono ?_; rintro e w3 ⟨rfl, hb3⟩; have d0 := keep5 hb3 (by exact d0); have d1 := keep5 hb3 (by exact d1); have d2 := keep5 hb3 (by exact d2); have d3 := keep5 hb3 (by exact d3); have d4 := keep5 hb3 (by exact d4); have d5 := keep5 hb3 (by exact d5); have d6 := keep5 hb3 (by exact d6); have d7 := keep5 hb3 (by exact d7); have HB := Lib.hid (below_step5 (by first | exact HB.out | exact HB.out.drew) hb3); clear hb3)
        | (go_at_call 24; refine (HC.out _).mono ?_; rintro e w3 ⟨rfl, hb3⟩; have d0 := keep5 hb3 (by exact d0); have d1 := keep5 hb3 (by exact d1); have d2 := keep5 hb3 (by exact d2); have d3 := keep5 hb3 (by exact d3); have d4 := keep5 hb3 (by exact d4); have d5 := keep5 hb3 (by exact d5); have d6 := keep5 hb3 (by exact d6); have d7 := keep5 hb3 (by exact d7); have HB := Lib.hid (below_step5 (by first | exact HB.out | exact HB.out.drew) hb3); clear hb3)
        | (go_at_call 25; refine (HD.out _).mono ?_; rintro e w3 ⟨rfl, hb3⟩; have d0 := keep5 hb3 (by exact d0); have d1 := keep5 hb3 (by exact d1); have d2 := keep5 hb3 (by exact d2); have d3 := keep5 hb3 (by exact d3); have d4 := keep5 hb3 (by exact d4); have d5 := keep5 hb3 (by exact d5); have d6 := keep5 hb3 (by exact d6); have d7 := keep5 hb3 (by exact d7); have HB := Lib.hid (below_step5 (by first | exact HB.out | exact HB.out.drew) hb3); clear hb3)
        | (go_at_call 19; refine (awake5_any _).mono ?_; rintro e w3 ⟨rfl, hb3⟩; have d0 := keep5 hb3 (by exact d0); have d1 := keep5 hb3 (by exact d1); have d2 := keep5 hb3 (by exact d2); have d3 := keep5 hb3 (by exact d3); have d4 := keep5 hb3 (by exact d4); have d5 := keep5 hb3 (by exact d5); have d6 := keep5 hb3 (by exact d6); have d7 := keep5 hb3 (by exact d7); have HB := Lib.hid (below_step5 (by first | exact HB.out | exact HB.out.drew) hb3); clear hb3))
    go_wp2_with fail
    go_ret
    exact ⟨rfl, HB.out⟩
  | false =>
    have h0 : ofN k ⟨ka, ga, na, ta⟩ = 0 := by unfold ofN; rw [hb]; rfl
    rw [hb, h0] at HO
    clear h0
    have HO := Lib.hid HO
    go_enter Try.func4, Try.ntmps4
    go_upto_region 5 with (first
      | (go_at_call 20; refine (HO.out _).mono ?_; rintro e w1 ⟨rfl, hb1⟩; have hr := below_step5 (hr.alloc (Nat.le_refl _) _) hb1; have hq := blk_new hb1; have d0 := cell_at (j := 0) hq rfl; have d1 := cell_at (j := 1) hq rfl; have d2 := cell_at (j := 2) hq rfl; have d3 := cell_at (j := 3) hq rfl; have d4 := cell_at (j := 4) hq rfl; have d5 := cell_at (j := 5) hq rfl; have d6 := cell_at (j := 6) hq rfl; have d7 := cell_at (j := 7) hq rfl; have HQ := Lib.hid hq; clear hq hb1)
      | (go_at_call 21; refine (HR.out _).mono ?_; rintro e w2 ⟨x, rfl, hx, hb1⟩; have hr := below_step5 hr hb1; have hq := blk_keep HQ.out hb1; clear d0 d1 d2 d3 d4 d5 d6 d7; have d0 := cell_at (j := 0) hq rfl; have d1 := cell_at (j := 1) hq rfl; have d2 := cell_at (j := 2) hq rfl; have d3 := cell_at (j := 3) hq rfl; have d4 := cell_at (j := 4) hq rfl; have d5 := cell_at (j := 5) hq rfl; have d6 := cell_at (j := 6) hq rfl; have d7 := cell_at (j := 7) hq rfl; have HQ := Lib.hid hq; clear hq hb1))
    have HB := Lib.hid hr
    clear hr HO HR HQ
    go_wp2_with fail
    go_region_held3 (fun w' => w'.cell? ⟨w.heap.size, 0, none⟩ = some (.int .i64 ka) ∧ w'.cell? ⟨w.heap.size, 1, none⟩ = some (.bool ga) ∧ w'.cell? ⟨w.heap.size, 2, none⟩ = some (.int .u64 na) ∧ w'.cell? ⟨w.heap.size, 3, none⟩ = some (.string ta) ∧ w'.cell? ⟨w.heap.size, 4, none⟩ = some (.int .i64 kb) ∧ w'.cell? ⟨w.heap.size, 5, none⟩ = some (.bool gb) ∧ w'.cell? ⟨w.heap.size, 6, none⟩ = some (.int .u64 nb) ∧ w'.cell? ⟨w.heap.size, 7, none⟩ = some (.string tb) ∧ Hid (Below w.heap.size w w'))
      (first | exact ⟨d0, d1, d2, d3, d4, d5, d6, d7, Lib.hid HB.out.drew⟩ | exact ⟨d0, d1, d2, d3, d4, d5, d6, d7, HB⟩ | fail)
      (first
        | (go_at_call 22; refine (HE.out _).mono ?_; rintro e w3 ⟨rfl, hb3⟩; have d0 := keep5 hb3 (by exact d0); have d1 := keep5 hb3 (by exact d1); have d2 := keep5 hb3 (by exact d2); have d3 := keep5 hb3 (by exact d3); have d4 := keep5 hb3 (by exact d4); have d5 := keep5 hb3 (by exact d5); have d6 := keep5 hb3 (by exact d6); have d7 := keep5 hb3 (by exact d7); have HB := Lib.hid (below_step5 (by first | exact HB.out | exact HB.out.drew) hb3); clear hb3)
        | (go_at_call 23; refine (HF.out _).mono ?_; rintro e w3 ⟨rfl, hb3⟩; have d0 := keep5 hb3 (by exact d0); have d1 := keep5 hb3 (by exact d1); have d2 := keep5 hb3 (by exact d2); have d3 := keep5 hb3 (by exact d3); have d4 := keep5 hb3 (by exact d4); have d5 := keep5 hb3 (by exact d5); have d6 := keep5 hb3 (by exact d6); have d7 := keep5 hb3 (by exact d7); have HB := Lib.hid (below_step5 (by first | exact HB.out | exact HB.out.drew) hb3); clear hb3)
        | (go_at_call 24; refine (HC.out _).mono ?_; rintro e w3 ⟨rfl, hb3⟩; have d0 := keep5 hb3 (by exact d0); have d1 := keep5 hb3 (by exact d1); have d2 := keep5 hb3 (by exact d2); have d3 := keep5 hb3 (by exact d3); have d4 := keep5 hb3 (by exact d4); have d5 := keep5 hb3 (by exact d5); have d6 := keep5 hb3 (by exact d6); have d7 := keep5 hb3 (by exact d7); have HB := Lib.hid (below_step5 (by first | exact HB.out | exact HB.out.drew) hb3); clear hb3)
        | (go_at_call 25; refine (HD.out _).mono ?_; rintro e w3 ⟨rfl, hb3⟩; have d0 := keep5 hb3 (by exact d0); have d1 := keep5 hb3 (by exact d1); have d2 := keep5 hb3 (by exact d2); have d3 := keep5 hb3 (by exact d3); have d4 := keep5 hb3 (by exact d4); have d5 := keep5 hb3 (by exact d5); have d6 := keep5 hb3 (by exact d6); have d7 := keep5 hb3 (by exact d7); have HB := Lib.hid (below_step5 (by first | exact HB.out | exact HB.out.drew) hb3); clear hb3)
        | (go_at_call 19; refine (awake5_any _).mono ?_; rintro e w3 ⟨rfl, hb3⟩; have d0 := keep5 hb3 (by exact d0); have d1 := keep5 hb3 (by exact d1); have d2 := keep5 hb3 (by exact d2); have d3 := keep5 hb3 (by exact d3); have d4 := keep5 hb3 (by exact d4); have d5 := keep5 hb3 (by exact d5); have d6 := keep5 hb3 (by exact d6); have d7 := keep5 hb3 (by exact d7); have HB := Lib.hid (below_step5 (by first | exact HB.out | exact HB.out.drew) hb3); clear hb3))
    go_wp2_with fail
    go_ret
    exact ⟨rfl, HB.out⟩
end Go.Proofs.Ytkkkbcgipcgebaa
