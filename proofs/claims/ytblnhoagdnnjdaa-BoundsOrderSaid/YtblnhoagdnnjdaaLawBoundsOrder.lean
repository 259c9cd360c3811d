/- BoundsOrder: for every list of types, every type and every two places the law returns true, and its arguments read as before. No condition. -/
import Derived.Test.YtblnhoagdnnjdaaRdg
import Derived.Test.YtblnhoagdnnjdaaBoundsOrdMath
import Derived.Deep.RegionHeld3
import Derived.Deep.DeepCutAuto
namespace Go.Proofs.Ytblnhoagdnnjdaa.boundsOrder
open Go.ChangeShapes Go.WideShapes Go.ChangeAt Go.RowKit
open Go.ChangeMaps (open_string shut_string)
set_option linter.unusedVariables false

theorem keepC {w w1 : World} {g : Nat} {k0 k1 : Int} (h : w.heap[g]? = some (.cells #[.int .i64 k0, .int .i64 k1] 23 (0, 0))) (hb : Below w.heap.size w w1) : w1.heap[g]? = some (.cells #[.int .i64 k0, .int .i64 k1] 23 (0, 0)) := (hb.block g (lt_of_block h)).trans h
set_option maxRecDepth 100000 in
set_option maxHeartbeats 4000000 in
theorem walk_main (ao : Option Addr) (len cap : Nat) (L : Nat → TypeV) (k : Nat) (k0 k1 : Int) (hl : len ≤ 100) (hcap : len ≤ cap) (hk : k < len) (hbig : greatB L len = false) (hv : fErr (oneR L len) len = 0) (w : World) (H : ∀ i, i < len → TypeAt w ao i (L i)) :
    Calls Try.prog 3 #[.slice ao len cap, .int .i64 (k : Nat), .agg #[.int .i64 k0, .int .i64 k1]] w fun e w' => e = .returned (.bool true) ∧ Below w.heap.size w w' := by
  have hok := ok_all hv
  obtain ⟨A, hA⟩ : ∃ A, clampN k0 = A := ⟨_, rfl⟩
  obtain ⟨B, hB⟩ : ∃ B, clampN k1 = B := ⟨_, rfl⟩
  have hAc := clamp_cases k0
  have hBc := clamp_cases k1
  rw [hA] at hAc
  rw [hB] at hBc
  have hA6 : A ≤ 600 := by omega
  have hB6 : B ≤ 600 := by omega
  have hg := fun w1 (hb : Below w.heap.size w w1) => great_any ao len cap L (by omega) w1 (hold H hb)
  rw [hbig] at hg
  have hc1 := fun w1 (hb : Below w.heap.size w w1) => check6_any ao len cap L (by omega) hcap w1 (hold H hb)
  rw [fault_same] at hc1
  unfold faultV at hc1
  rw [hv] at hc1
  obtain ⟨F, hF⟩ : ∃ F, fAt (oneR L len) len = F := ⟨_, rfl⟩
  rw [hF] at hc1
  have hfe := fault_err
  have hls := fun (a : Nat) w1 (hb : Below w.heap.size w w1) => least_any ao len cap L (k : Nat) (a : Nat) (by omega) hcap w1 (hold H hb)
  have hms := fun (a : Nat) w1 (hb : Below w.heap.size w w1) => most_any ao len cap L (k : Nat) (a : Nat) (by omega) hcap w1 (hold H hb)
  simp only [bound_gE hk hv] at hls hms
  have q0 := gE_two hk hok A
  have q1 := fun h => gE_inc hk hok false A h
  have q2 := fun h => gE_mono hk hok false A B h
  have q3 := fun h => gE_mono hk hok true A B h
  have q4 := gE_shift hk hok false A
  have q5 := gE_shift hk hok true A
  have r0 := gE_le L len k false A
  have r1 := gE_le L len k true A
  have r2 := gE_le L len k false B
  have r3 := gE_le L len k true B
  have hlA := hls A
  have hmA := hms A
  have hlB := hls B
  have hmB := hms B
  have hlC := hls (A + 8)
  have hmC := hms (A + 8)
  have hcast : (((A + 8 : Nat)) : Int) = (A : Int) + 8 := by omega
  rw [hcast, q4] at hlC
  rw [hcast, q5] at hmC
  obtain ⟨x0, hx0⟩ : ∃ x, gE L len k false A = x := ⟨_, rfl⟩
  obtain ⟨y0, hy0⟩ : ∃ x, gE L len k true A = x := ⟨_, rfl⟩
  obtain ⟨x1, hx1⟩ : ∃ x, gE L len k false B = x := ⟨_, rfl⟩
  obtain ⟨y1, hy1⟩ : ∃ x, gE L len k true B = x := ⟨_, rfl⟩
  rw [hx0] at hlA hlC q0 q1 q2 r0
  rw [hy0] at hmA hmC q0 q3 r1
  rw [hx1] at hlB q2 r2
  rw [hy1] at hmB q3 r3
  have HLA := Lib.hid hlA
  have HMA := Lib.hid hmA
  have HLB := Lib.hid hlB
  have HMB := Lib.hid hmB
  have HLC := Lib.hid hlC
  have HMC := Lib.hid hmC
  have HG := Lib.hid hg
  have HC1 := Lib.hid hc1
  have HR := Lib.hid ((Below.refl w.heap.size w).alloc (Nat.le_refl _) (.cells #[.int .i64 k0, .int .i64 k1] 23))
  have HK := Lib.hid (alloc_at w (.cells #[.int .i64 k0, .int .i64 k1] 23))
  have HQ := Lib.hid (show x0 ≤ y0 ∧ (A ≤ 512 → A < x0) ∧ (A ≤ B → x0 ≤ x1 ∧ y0 ≤ y1) from ⟨q0, q1, fun h => ⟨q2 h, q3 h⟩⟩)
  have HAC := Lib.hid hAc
  have HBC := Lib.hid hBc
  clear hls hms hlA hmA hlB hmB hlC hmC hg hc1 H hok hbig hv hF hA hB q0 q1 q2 q3 q4 q5 hx0 hy0 hx1 hy1 hAc hBc hcast
  go_enter Try.func3, Try.ntmps3
  go_upto_region 3 with (first
    | (go_at_call 4; refine (HG.out _ HR.out).mono ?_; rintro e w1 ⟨rfl, rfl⟩)
    | (go_at_call 5; refine (HC1.out _ HR.out).mono ?_; rintro e w1 ⟨rfl, hb1⟩; have HR1 := Lib.hid (below_step6 HR.out hb1); have HK1 := Lib.hid (keepC HK.out hb1); clear hb1))
  have hk1 := HK1.out
  have c0 := cell_at (j := 0) hk1 rfl
  have c1 := cell_at (j := 1) hk1 rfl
  clear hk1 HK HR HG HC1
  go_cut [7, 8] (fun a b wx => a = .int .i64 (A : Nat) ∧ b = .int .i64 (B : Nat) ∧ Hid (Below w.heap.size w wx))
  case first =>
    obtain ⟨p0, hp0⟩ : ∃ p : Int, (if 600 < k0 then 600 else k0) = p := ⟨_, rfl⟩
    obtain ⟨p1, hp1⟩ : ∃ p : Int, (if 600 < k1 then 600 else k1) = p := ⟨_, rfl⟩
    have ea : (if 0 < p0 then p0 else 0) = ((A : Nat) : Int) := by
      have := HAC.out
      rw [← hp0]
      by_cases h : 600 < k0
      · simp only [if_pos h]; omega
      · simp only [if_neg h]; by_cases h2 : 0 < k0
        · rw [if_pos h2]; omega
        · rw [if_neg h2]; omega
    have eb : (if 0 < p1 then p1 else 0) = ((B : Nat) : Int) := by
      have := HBC.out
      rw [← hp1]
      by_cases h : 600 < k1
      · simp only [if_pos h]; omega
      · simp only [if_neg h]; by_cases h2 : 0 < k1
        · rw [if_pos h2]; omega
        · rw [if_neg h2]; omega
    clear HAC HBC
    go_region_held3 (fun w' => w'.cell? ⟨w.heap.size, 0, none⟩ = some (.int .i64 k0) ∧ w'.cell? ⟨w.heap.size, 1, none⟩ = some (.int .i64 k1)) (exact ⟨c0, c1⟩) (fail)
    all_goals
      try simp only [hp0, hp1, ea, eb]
      clear hp0 hp1 ea eb
      go_wp2_with fail
      go_meet
      exact ⟨rfl, rfl, Lib.hid HR1.out.drew⟩
  case rest =>
    obtain ⟨rfl, rfl, HR2⟩ := hcut
    clear HR1 HK1 c0 c1 HAC HBC
    go_upto_region 6 with (first
      | (go_at_call 7; (with_reducible refine (HLA.out _ HR2.out).mono ?_); rintro e w3 ⟨rfl, hb3⟩; have HR3 := Lib.hid (below_step6 HR2.out hb3); clear hb3)
      | (go_at_call 8; (with_reducible refine (HMA.out _ HR3.out).mono ?_); rintro e w4 ⟨rfl, hb4⟩; have HR4 := Lib.hid (below_step6 HR3.out hb4); clear hb4)
      | (go_at_call 7; (with_reducible refine (HLB.out _ HR4.out).mono ?_); rintro e w5 ⟨rfl, hb5⟩; have HR5 := Lib.hid (below_step6 HR4.out hb5); clear hb5)
      | (go_at_call 8; (with_reducible refine (HMB.out _ HR5.out).mono ?_); rintro e w6 ⟨rfl, hb6⟩; have HR6 := Lib.hid (below_step6 HR5.out hb6); clear hb6))
    clear HLA HMA HLB HMB HR2 HR3 HR4 HR5
    go_cut [84] (fun t wx => t = .bool false ∧ w6 = wx)
    case first =>
      obtain ⟨q0, q1, q2⟩ := HQ.out
      have d0 : decide ((y0 : Int) < (x0 : Int)) = false := by simp; omega
      have d0' : decide (y0 < x0) = false := by simp; omega
      by_cases ha : A ≤ 512
      · have d1 : decide ((x0 : Int) ≤ (A : Int)) = false := by have := q1 ha; simp; omega
        have d1' : decide (x0 ≤ A) = false := by have := q1 ha; simp; omega
        by_cases hab : A ≤ B
        · obtain ⟨q3, q4⟩ := q2 hab
          have d2 : decide ((A : Int) ≤ (B : Int)) = true := by simp; omega
          have d2' : decide (A ≤ B) = true := by simp; omega
          have d3 : decide ((x1 : Int) < (x0 : Int)) = false := by simp; omega
          have d3' : decide (x1 < x0) = false := by simp; omega
          have d4 : decide ((y1 : Int) < (y0 : Int)) = false := by simp; omega
          have d4' : decide (y1 < y0) = false := by simp; omega
          clear q0 q1 q2
          go_wp2
          go_meet
          exact ⟨rfl, by first | rfl | trivial⟩
        · have d2 : decide ((A : Int) ≤ (B : Int)) = false := by simp; omega
          have d2' : decide (A ≤ B) = false := by simp; omega
          clear q0 q1 q2
          go_wp2
          go_meet
          exact ⟨rfl, by first | rfl | trivial⟩
      · have d1 : decide ((A : Int) ≤ 512) = false := by simp; omega
        have d1' : decide (A ≤ 512) = false := by simp; omega
        have d5 : decide ((x0 : Int) ≤ (A : Int)) = true := by simp; omega
        have d5' : decide (x0 ≤ A) = true := by simp; omega
        by_cases hab : A ≤ B
        · obtain ⟨q3, q4⟩ := q2 hab
          have d2 : decide ((A : Int) ≤ (B : Int)) = true := by simp; omega
          have d2' : decide (A ≤ B) = true := by simp; omega
          have d3 : decide ((x1 : Int) < (x0 : Int)) = false := by simp; omega
          have d3' : decide (x1 < x0) = false := by simp; omega
          have d4 : decide ((y1 : Int) < (y0 : Int)) = false := by simp; omega
          have d4' : decide (y1 < y0) = false := by simp; omega
          clear q0 q1 q2
          go_wp2
          go_meet
          exact ⟨rfl, by first | rfl | trivial⟩
        · have d2 : decide ((A : Int) ≤ (B : Int)) = false := by simp; omega
          have d2' : decide (A ≤ B) = false := by simp; omega
          clear q0 q1 q2
          go_wp2
          go_meet
          exact ⟨rfl, by first | rfl | trivial⟩
    case rest =>
      obtain ⟨rfl, rfl⟩ := hcut
      clear HQ
      by_cases hx : x0 + 8 ≤ 513
      · by_cases hy : y0 + 8 ≤ 513
        · have hLC := HLC.out
          have hMC := HMC.out
          rw [Nat.min_eq_left hx, show (((x0 + 8 : Nat)) : Int) = (x0 : Int) + 8 by omega] at hLC
          rw [Nat.min_eq_left hy, show (((y0 + 8 : Nat)) : Int) = (y0 : Int) + 8 by omega] at hMC
          have HLD := Lib.hid hLC
          have HMD := Lib.hid hMC
          clear hLC hMC HLC HMC
          go_wp2_with (first
            | (go_at_call 7; refine (HLD.out _ HR6.out).mono ?_; rintro e w7 ⟨rfl, hb7⟩; have HR7 := Lib.hid (below_step6 HR6.out hb7); clear hb7)
            | (go_at_call 8; refine (HMD.out _ HR7.out).mono ?_; rintro e w8 ⟨rfl, hb8⟩; have HR8 := Lib.hid (below_step6 HR7.out hb8); clear hb8)
            | (go_at_call 6; refine (awake7_any _).mono ?_; rintro e w9 ⟨rfl, hb9⟩; have HR9 := Lib.hid (below_step6 HR8.out hb9); clear hb9))
          go_ret
          exact ⟨rfl, HR9.out⟩
        · have hLC := HLC.out
          have hMC := HMC.out
          rw [Nat.min_eq_left hx, show (((x0 + 8 : Nat)) : Int) = (x0 : Int) + 8 by omega] at hLC
          rw [Nat.min_eq_right (show 513 ≤ y0 + 8 by omega), show (((513 : Nat)) : Int) = 513 from rfl] at hMC
          have HLD := Lib.hid hLC
          have HMD := Lib.hid hMC
          clear hLC hMC HLC HMC
          go_wp2_with (first
            | (go_at_call 7; refine (HLD.out _ HR6.out).mono ?_; rintro e w7 ⟨rfl, hb7⟩; have HR7 := Lib.hid (below_step6 HR6.out hb7); clear hb7)
            | (go_at_call 8; refine (HMD.out _ HR7.out).mono ?_; rintro e w8 ⟨rfl, hb8⟩; have HR8 := Lib.hid (below_step6 HR7.out hb8); clear hb8)
            | (go_at_call 6; refine (awake7_any _).mono ?_; rintro e w9 ⟨rfl, hb9⟩; have HR9 := Lib.hid (below_step6 HR8.out hb9); clear hb9))
          go_ret
          exact ⟨rfl, HR9.out⟩
      · by_cases hy : y0 + 8 ≤ 513
        · have hLC := HLC.out
          have hMC := HMC.out
          rw [Nat.min_eq_right (show 513 ≤ x0 + 8 by omega), show (((513 : Nat)) : Int) = 513 from rfl] at hLC
          rw [Nat.min_eq_left hy, show (((y0 + 8 : Nat)) : Int) = (y0 : Int) + 8 by omega] at hMC
          have HLD := Lib.hid hLC
          have HMD := Lib.hid hMC
          clear hLC hMC HLC HMC
          go_wp2_with (first
            | (go_at_call 7; refine (HLD.out _ HR6.out).mono ?_; rintro e w7 ⟨rfl, hb7⟩; have HR7 := Lib.hid (below_step6 HR6.out hb7); clear hb7)
            | (go_at_call 8; refine (HMD.out _ HR7.out).mono ?_; rintro e w8 ⟨rfl, hb8⟩; have HR8 := Lib.hid (below_step6 HR7.out hb8); clear hb8)
            | (go_at_call 6; refine (awake7_any _).mono ?_; rintro e w9 ⟨rfl, hb9⟩; have HR9 := Lib.hid (below_step6 HR8.out hb9); clear hb9))
          go_ret
          exact ⟨rfl, HR9.out⟩
        · have hLC := HLC.out
          have hMC := HMC.out
          rw [Nat.min_eq_right (show 513 ≤ x0 + 8 by omega), show (((513 : Nat)) : Int) = 513 from rfl] at hLC
          rw [Nat.min_eq_right (show 513 ≤ y0 + 8 by omega), show (((513 : Nat)) : Int) = 513 from rfl] at hMC
          obtain ⟨c, hc⟩ : ∃ c : Int, c = 513 := ⟨_, rfl⟩
          rw [← hc] at hLC hMC
          have hc5 : (c == 513) = true := by rw [hc]; rfl
          clear hc
          have HLD := Lib.hid hLC
          have HMD := Lib.hid hMC
          clear hLC hMC HLC HMC
          have hx3 : (513 : Int) < (x0 : Int) + 8 := by omega
          have hy3 : (513 : Int) < (y0 : Int) + 8 := by omega
          clear hx hy r2 r3
          go_wp2_with (first
            | (go_at_call 7; refine (HLD.out _ HR6.out).mono ?_; rintro e w7 ⟨rfl, hb7⟩; have HR7 := Lib.hid (below_step6 HR6.out hb7); clear hb7)
            | (go_at_call 8; refine (HMD.out _ HR7.out).mono ?_; rintro e w8 ⟨rfl, hb8⟩; have HR8 := Lib.hid (below_step6 HR7.out hb8); clear hb8)
            | (go_at_call 6; refine (awake7_any _).mono ?_; rintro e w9 ⟨rfl, hb9⟩; have HR9 := Lib.hid (below_step6 HR8.out hb9); clear hb9))
          go_ret
          exact ⟨rfl, HR9.out⟩
set_option maxRecDepth 100000 in
set_option maxHeartbeats 1000000 in
theorem walk (ao : Option Addr) (len cap : Nat) (L : Nat → TypeV) (t k0 k1 : Int) (hcap : len ≤ cap) (hm : len ≤ 140737488351232) (w : World) (H : ∀ i, i < len → TypeAt w ao i (L i)) :
    Calls Try.prog 3 #[.slice ao len cap, .int .i64 t, .agg #[.int .i64 k0, .int .i64 k1]] w fun e w' => e = .returned (.bool true) ∧ Below w.heap.size w w' := by
  have hg := fun w1 (hb : Below w.heap.size w w1) => great_any ao len cap L hm w1 (hold H hb)
  have HR := Lib.hid ((Below.refl w.heap.size w).alloc (Nat.le_refl _) (.cells #[.int .i64 k0, .int .i64 k1] 23))
  cases hbig : greatB L len with
  | true =>
    rw [hbig] at hg
    have HG := Lib.hid hg
    clear hg H hbig
    go_enter Try.func3, Try.ntmps3
    go_wp2_with (first
      | (go_at_call 4; refine (HG.out _ HR.out).mono ?_; rintro e w1 ⟨rfl, rfl⟩)
      | (go_at_call 6; refine (awake7_any _).mono ?_; rintro e w2 ⟨rfl, hb2⟩; have HR2 := Lib.hid (below_step6 HR.out hb2); clear hb2))
    go_ret
    exact ⟨rfl, HR2.out⟩
  | false =>
    have hl := great_lt hbig
    by_cases hv : fErr (oneR L len) len = 0
    · by_cases ht : 0 ≤ t ∧ t < len
      · obtain ⟨k, rfl⟩ := Int.eq_ofNat_of_zero_le ht.1
        exact walk_main ao len cap L k k0 k1 hl hcap (by omega) hbig hv w H
      · rw [hbig] at hg
        have hc1 := fun w1 (hb : Below w.heap.size w w1) => check6_any ao len cap L (by omega) hcap w1 (hold H hb)
        rw [fault_same] at hc1
        unfold faultV at hc1
        rw [hv] at hc1
        obtain ⟨F, hF⟩ : ∃ F, fAt (oneR L len) len = F := ⟨_, rfl⟩
        rw [hF] at hc1
        have hfe := fault_err
        have HG := Lib.hid hg
        have HC1 := Lib.hid hc1
        clear hg hc1 H hbig hv hF
        by_cases h0 : t < 0
        · clear ht
          go_enter Try.func3, Try.ntmps3
          go_wp2_with (first
            | (go_at_call 4; refine (HG.out _ HR.out).mono ?_; rintro e w1 ⟨rfl, rfl⟩)
            | (go_at_call 5; refine (HC1.out _ HR.out).mono ?_; rintro e w1 ⟨rfl, hb1⟩; have HR1 := Lib.hid (below_step6 HR.out hb1); clear hb1)
            | (go_at_call 6; refine (awake7_any _).mono ?_; rintro e w2 ⟨rfl, hb2⟩; have HR2 := Lib.hid (below_step6 HR1.out hb2); clear hb2))
          go_ret
          exact ⟨rfl, HR2.out⟩
        · have h1 : (len : Int) ≤ t := by omega
          clear ht
          go_enter Try.func3, Try.ntmps3
          go_wp2_with (first
            | (go_at_call 4; refine (HG.out _ HR.out).mono ?_; rintro e w1 ⟨rfl, rfl⟩)
            | (go_at_call 5; refine (HC1.out _ HR.out).mono ?_; rintro e w1 ⟨rfl, hb1⟩; have HR1 := Lib.hid (below_step6 HR.out hb1); clear hb1)
            | (go_at_call 6; refine (awake7_any _).mono ?_; rintro e w2 ⟨rfl, hb2⟩; have HR2 := Lib.hid (below_step6 HR1.out hb2); clear hb2))
          go_ret
          exact ⟨rfl, HR2.out⟩
    · rw [hbig] at hg
      have hc1 := fun w1 (hb : Below w.heap.size w w1) => check6_any ao len cap L (by omega) hcap w1 (hold H hb)
      rw [fault_same] at hc1
      unfold faultV at hc1
      obtain ⟨F, hF⟩ : ∃ F, fAt (oneR L len) len = F := ⟨_, rfl⟩
      obtain ⟨E, hE⟩ : ∃ E, fErr (oneR L len) len = E := ⟨_, rfl⟩
      rw [hE] at hv
      rw [hF, hE] at hc1
      have hfe := fault_err
      have hne : (E != 0) = true := by simpa using hv
      have HG := Lib.hid hg
      have HC1 := Lib.hid hc1
      clear hg hc1 H hbig hv hF hE
      go_enter Try.func3, Try.ntmps3
      go_wp2_with (first
        | (go_at_call 4; refine (HG.out _ HR.out).mono ?_; rintro e w1 ⟨rfl, rfl⟩)
        | (go_at_call 5; refine (HC1.out _ HR.out).mono ?_; rintro e w1 ⟨rfl, hb1⟩; have HR1 := Lib.hid (below_step6 HR.out hb1); clear hb1)
        | (go_at_call 6; refine (awake7_any _).mono ?_; rintro e w2 ⟨rfl, hb2⟩; have HR2 := Lib.hid (below_step6 HR1.out hb2); clear hb2))
      go_ret
      exact ⟨rfl, HR2.out⟩
set_option maxRecDepth 100000 in
theorem lifted (os : Os) (started : os.Started) (H : Type) (enc : TypeId × Value → H) :
    ReturnsInHanded {} Try.checked os 3 .any (Rows.boundsOrderSpec.pre6 enc Try.prog Try.f3 Rows.boundsOrderRow.domain false) (Rows.boundsOrderSpec.post enc Try.prog Try.f3 false true false false) := by
  refine returnsInHanded_of_change_sized (C := Try.checked) own started (by kernel_rfl) Try.func3
    (ChangeSpec.witness6 (enc := enc) (C := Try.checked) false ⟨#[], #[.slice none 0 0, .int .i64 0, .agg #[.int .i64 0, .int .i64 0]], []⟩ 8 (by kernel_rfl) (by kernel_rfl) (by kernel_rfl) (by kernel_rfl)) ?_
  intro W base args ds gs before hval0 hW hcnd hsz _
  have hval : ∀ (j : Nat) t v, Try.f3.params[j]? = some t → args[j]? = some v → Value.okWide Try.prog W .any base t v := hval0
  have hW' := hW
  obtain ⟨p, q, hA0, hV, rfl, hfz, hnd⟩ := hW
  have hA : DataW.TrodAll enc Try.prog W 0 (fun _ => true) true Try.f3.params.toList args.toList ds p := hA0
  rw [Try.params3] at hA hval
  obtain ⟨rfl, rfl⟩ := trodVars_none hV
  clear hA0 hval0
  simp only [List.append_nil] at hW'
  have hlt := hW'.lt
  have hA1 := hA
  have hsz1 : (DataW.weightsEach Try.prog (Try.f3.params.toList ++ []) (ds ++ [])).all (· ≤ reachBytes) = true := hsz
  rw [Try.params3, List.append_nil, List.append_nil] at hsz1
  have hrd := rdg_all _ _ _ _ hA1 (fun n hn => by simpa using List.all_eq_true.1 hsz1 n hn)
  obtain ⟨v0, vs0, d0, ds0, p0, q0, hargs, rfl, rfl, h0, r0⟩ := trodAll_cons hA
  obtain ⟨v1, vs1, d1, ds1, p1, q1, rfl, rfl, rfl, h1, r1⟩ := trodAll_cons r0
  obtain ⟨v2, vs2, d2, ds2, p2, q2, rfl, rfl, rfl, h2, r2⟩ := trodAll_cons r1
  obtain ⟨rfl, rfl, rfl⟩ := trodAll_nil r2
  obtain rfl : args = #[v0, v1, v2] := by cases args; simp_all
  obtain ⟨a1, rfl, w1⟩ := rop_int Try.underlying3 (hval 1 3 v1 rfl rfl) (hrd 1 3 v1 rfl rfl)
  have g2 := hrd 2 23 v2 rfl rfl
  obtain ⟨cs2, rfl, hz2⟩ := ok_agg (by first | exact .inl ⟨_, Try.underlying23⟩ | exact .inr ⟨_, _, Try.underlying23⟩) (hval 2 23 v2 rfl rfl)

  obtain ⟨ao, len, cap, L, rfl, hcap, _, hm, H⟩ := types_of2 (rop_slice 6 Try.underlying22 (by kernel_rfl) (hval 0 22 v0 rfl rfl) (hrd 0 22 v0 rfl rfl))
  obtain ⟨c0, c1, rfl⟩ := arr2 (hz2.trans (by kernel_rfl))
  obtain ⟨x0, e0, hx0⟩ := rdg_int Try.underlying3 (rdg_elem Try.underlying23 g2 0 1 (by omega) (by kernel_rfl))
  obtain ⟨x1, e1, hx1⟩ := rdg_int Try.underlying3 (rdg_elem Try.underlying23 g2 1 1 (by omega) (by kernel_rfl))
  simp [Value.cells] at e0 e1
  subst e0 e1
  refine (walk ao len cap L a1 x0 x1 hcap hm W H).mono fun e W' ⟨he, bel⟩ => ?_
  subst he
  exact ⟨_, rfl, _, _, _, [], _, [], hW', trodAll_mk1 (shut_bool Try.underlying4 _), trodAll_below laidOut bel [22, 3, 23] _ _ _ (by kernel_rfl) hA1 hlt, rfl, bel.frame _, fun h => by cases h⟩
theorem over : Rows.boundsOrderRow.holds Try.pinned (OpenSpec.ofChange Rows.boundsOrderSpec) :=
  OpenClaim.holds_of_wide 3 Try.f3 rfl rfl rfl rfl rfl rfl rfl ⟨rfl, rfl, rfl, rfl, rfl⟩ rfl rfl rfl rfl rfl (by kernel_rfl) Try.func3 (by kernel_rfl)
    (of_decide_eq_true (by kernel_rfl)) (by unfold Func.isWrapper; first | (rw [if_pos (by decide +kernel)]; kernel_rfl) | (rw [if_neg (by decide +kernel)]; exact ⟨rfl, rfl⟩))
    (fun os started H enc _ => lifted os started H enc)
theorem proved : Rows.BoundsOrderSaid := over
#print axioms proved
end Go.Proofs.Ytblnhoagdnnjdaa.boundsOrder
