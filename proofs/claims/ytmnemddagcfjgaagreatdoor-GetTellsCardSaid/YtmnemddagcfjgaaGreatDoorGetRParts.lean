/- Contracts of chapter 11's reference: fail, number. -/
import Derived.Test.YtmnemddagcfjgaaGreatDoorGetStep
import Derived.Test.YtmnemddagcfjgaaGreatDoorAlignRefTake
import Derived.Test.YtmnemddagcfjgaaGreatDoorFitsNone
import Derived.BigQuiet
import Derived.Deep.RegionHeld3
import Derived.BigGuardPart
import Derived.Test.YtmnemddagcfjgaaGreatDoorGetText
import Derived.Test.YtmnemddagcfjgaaGreatDoorGetTop
namespace Go.Proofs.YtmnemddagcfjgaaGreatDoor
open Go.RowKit
set_option linter.unusedVariables false
theorem rfail_set (a x : Int) (w : World) : Calls Tryz.prog 87 #[.agg #[.int .i64 a, .int .i64 0], .int .i64 x] w fun e w' => e = .returned (.agg #[.int .i64 a, .int .i64 x]) ∧ Below w.heap.size w w' := by
  go_enter Tryz.func87, Tryz.ntmps87
  go_wp2
  go_returns
  exact ⟨rfl, by go_grown⟩
theorem rfail_keep (a er x : Int) (h : er ≠ 0) (w : World) : Calls Tryz.prog 87 #[.agg #[.int .i64 a, .int .i64 er], .int .i64 x] w fun e w' => e = .returned (.agg #[.int .i64 a, .int .i64 er]) ∧ Below w.heap.size w w' := by
  have hne : (er == 0) = false := by simpa using h
  clear h
  go_enter Tryz.func87, Tryz.ntmps87
  go_wp2
  go_returns
  exact ⟨rfl, by go_grown⟩
theorem rfail_any (a er x : Int) (w : World) : Calls Tryz.prog 87 #[.agg #[.int .i64 a, .int .i64 er], .int .i64 x] w fun e w' => e = .returned (.agg #[.int .i64 a, .int .i64 (if er = 0 then x else er)]) ∧ Below w.heap.size w w' := by
  by_cases h : er = 0
  · subst h; rw [if_pos rfl]; exact rfail_set a x w
  · rw [if_neg h]; exact rfail_keep a er x h w
abbrev gO (a e : Int) : Obj := .cells #[.int .i64 a, .int .i64 e] 65
/-- the box of a place and an error, and the result's cells behind it -/
def GSt (w : World) (A E : Int) (wx : World) : Prop := wx.heap[w.heap.size]? = some (gO A E) ∧ wx.heap[w.heap.size + 1]? = some (gO 0 0) ∧ Below w.heap.size w wx
theorem GSt.start (w : World) (a e : Int) : GSt w a e ((w.alloc (gO a e)).alloc (gO 0 0)) := by
  have h := alloc_at (w.alloc (gO a e)) (gO 0 0)
  rw [show (w.alloc (gO a e)).heap.size = w.heap.size + 1 by simp] at h
  exact ⟨alloc_old (alloc_at w (gO a e)), h, ((Below.refl w.heap.size w).alloc (Nat.le_refl _) (gO a e)).alloc (by simp) (gO 0 0)⟩
section
variable {w wx wy : World} {A E : Int}
theorem GSt.step (h : GSt w A E wx) (hb : Below wx.heap.size wx wy) : GSt w A E wy := ⟨box_keep h.1 hb, box_keep h.2.1 hb, below_step8' h.2.2 hb⟩
theorem GSt.drew (h : GSt w A E wx) : GSt w A E wx.drew := h.step (Below.refl _ _).drew
theorem GSt.drewN (h : GSt w A E wx) (m : Nat) : GSt w A E (wx.drewN m) := ⟨h.1, h.2.1, drewN_below h.2.2 m⟩
theorem GSt.drewn (h : GSt w A E wx) (k : ∃ m, wy = wx.drewN m) : GSt w A E wy := by obtain ⟨m, rfl⟩ := k; exact h.drewN m
theorem GSt.set (h : GSt w A E wx) (A' E' : Int) : GSt w A' E' ((wx.setCell ⟨w.heap.size, 0, none⟩ (.int .i64 A')).setCell ⟨w.heap.size, 1, none⟩ (.int .i64 E')) :=
  ⟨set_at (j := 1) (set_at (j := 0) h.1), (set_other (show w.heap.size + 1 ≠ w.heap.size by omega)).trans ((set_other (show w.heap.size + 1 ≠ w.heap.size by omega)).trans h.2.1), (h.2.2.setCell (Nat.le_refl _) _).setCell (Nat.le_refl _) _⟩
theorem GSt.fin (h : GSt w A E wx) (A' E' : Int) : Below w.heap.size w ((wx.setCell ⟨w.heap.size + 1, 0, none⟩ (.int .i64 A')).setCell ⟨w.heap.size + 1, 1, none⟩ (.int .i64 E')) :=
  (h.2.2.setCell (show w.heap.size ≤ w.heap.size + 1 by omega) _).setCell (show w.heap.size ≤ w.heap.size + 1 by omega) _
theorem GSt.out0 (h : GSt w A E wx) (A' E' : Int) : ((wx.setCell ⟨w.heap.size + 1, 0, none⟩ (.int .i64 A')).setCell ⟨w.heap.size + 1, 1, none⟩ (.int .i64 E')).cell? ⟨w.heap.size + 1, 0, none⟩ = some (.int .i64 A') := cell_at (j := 0) (set_at (j := 1) (set_at (j := 0) h.2.1)) rfl
theorem GSt.out1 (h : GSt w A E wx) (A' E' : Int) : ((wx.setCell ⟨w.heap.size + 1, 0, none⟩ (.int .i64 A')).setCell ⟨w.heap.size + 1, 1, none⟩ (.int .i64 E')).cell? ⟨w.heap.size + 1, 1, none⟩ = some (.int .i64 E') := cell_at (j := 1) (set_at (j := 1) (set_at (j := 0) h.2.1)) rfl
theorem GSt.x0 (h : GSt w A E wx) : wx.cell? ⟨w.heap.size, 0, none⟩ = some (.int .i64 A) := cell_at (j := 0) h.1 rfl
theorem GSt.x1 (h : GSt w A E wx) : wx.cell? ⟨w.heap.size, 1, none⟩ = some (.int .i64 E) := cell_at (j := 1) h.1 rfl
theorem GSt.f0 (h : GSt w A E wx) : wx.frozen? ⟨w.heap.size, 0, none⟩ = false := free_at (j := 0) h.1
theorem GSt.f1 (h : GSt w A E wx) : wx.frozen? ⟨w.heap.size, 1, none⟩ = false := free_at (j := 1) h.1
theorem GSt.r0 (h : GSt w A E wx) : wx.cell? ⟨w.heap.size + 1, 0, none⟩ = some (.int .i64 0) := cell_at (j := 0) h.2.1 rfl
theorem GSt.r1 (h : GSt w A E wx) : wx.cell? ⟨w.heap.size + 1, 1, none⟩ = some (.int .i64 0) := cell_at (j := 1) h.2.1 rfl
theorem GSt.s0 (h : GSt w A E wx) : wx.frozen? ⟨w.heap.size + 1, 0, none⟩ = false := free_at (j := 0) h.2.1
theorem GSt.s1 (h : GSt w A E wx) : wx.frozen? ⟨w.heap.size + 1, 1, none⟩ = false := free_at (j := 1) h.2.1
end
set_option maxRecDepth 100000 in
set_option maxHeartbeats 4000000 in
/-- number, its tests told -/
theorem rnumR_core (ao : Option Addr) (len cap : Nat) (t : Nat) (ht : t < len) (T : TypeV) (b : ByteArray) (a : Nat) (A N M E Y : Int) (z : Int) (m q : Bool) (w : World) (HT : TypeAt w ao t T)
    (htake : ∀ wx, Calls Tryz.prog 82 #[.string b, .agg #[.int .i64 (a : Nat), .int .i64 0], .int .i64 (szK T.kind)] wx fun e w' => e = .returned (.tuple #[.int .u64 N, .agg #[.int .i64 A, .int .i64 E]]) ∧ Below wx.heap.size wx w')
    (hup : ∀ wx, Calls Tryz.prog 84 #[.int .i64 T.kind, .int .u64 N] wx fun e w' => e = .returned (.int .u64 M) ∧ ∃ m, w' = wx.drewN m)
    (hmay : ∀ wx, Calls Tryz.prog 86 #[.int .i64 T.kind, .int .u64 M] wx fun e w' => e = .returned (.bool m) ∧ ∃ m, w' = wx.drewN m)
    (hval : ∀ wx, Below w.heap.size w wx → Calls Tryz.prog 85 #[.slice ao len cap, .int .i64 t, .int .u64 M] wx fun e w' => e = .returned (.int .i64 z) ∧ wx = w')
    (hq : q = ((decide (T.kind = 9) && decide (z < 0)) || !m)) (hY : Y = if q = true then (if E = 0 then 7 else E) else E) :
    Calls Tryz.prog 48 #[.slice ao len cap, .int .i64 t, .string b, .agg #[.int .i64 (a : Nat), .int .i64 0]] w fun e w' => e = .returned (.tuple #[.int .u64 M, .agg #[.int .i64 A, .int .i64 Y]]) ∧ Below w.heap.size w w' := by
  have HG := Lib.hid (GSt.start w (a : Nat) 0)
  have HTA := Lib.hid htake
  have HUP := Lib.hid hup
  have HMA := Lib.hid hmay
  have HVA := Lib.hid hval
  have HFL := Lib.hid (fun wx => rfail_any A E 7 wx)
  obtain ⟨tb, off, rfl, c0, _⟩ := HT
  obtain ⟨kd, hkd⟩ : ∃ kd, T.kind = kd := ⟨_, rfl⟩
  rw [hkd] at c0 HTA HUP HMA hq
  have c0 := keep HG.out.2.2 c0
  have hbl := World.block_lt_of_cell? _ _ c0
  have HYY := Lib.hid hY
  obtain ⟨F, hF⟩ : ∃ F, (if E = 0 then 7 else E) = F := ⟨_, rfl⟩
  rw [hF] at HFL HYY
  clear htake hup hmay hval hY hkd hF
  go_enter Tryz.func48, Tryz.ntmps48
  go_upto_region 1 with (fail)
  generalize ((w.alloc (gO (a : Nat) 0)).alloc (gO 0 0)) = W at *
  have x0 := HG.out.x0
  have x1 := HG.out.x1
  have f0 := HG.out.f0
  have f1 := HG.out.f1
  go_upto_region 2 with (fail)
  go_cut [11] (fun n wx => n = .int .u64 N ∧ Hid (GSt w A E wx))
  case first =>
    go_region_with (first
      | (go_at_call 83; refine (refSize_any kd _).mono ?_; rintro e w1 ⟨rfl, rfl⟩)
      | (go_at_call 82; refine (HTA.out _).mono ?_; rintro e w2 ⟨rfl, hb2⟩; have HG2 := Lib.hid (HG.out.drew.step hb2); have q0 := HG2.out.x0; have q1 := HG2.out.x1; have g0 := HG2.out.f0; have g1 := HG2.out.f1; clear hb2))
    all_goals
      go_wp2_with fail
      go_meet
      first
        | exact ⟨rfl, Lib.hid (HG2.out.set A E)⟩
        | exact ⟨rfl, Lib.hid (HG2.out.set A E).drew⟩
        | trace_state
  case rest =>
    obtain ⟨rfl, HG2⟩ := hcut
    clear x0 x1 f0 f1 HG
    by_cases h9 : kd = 9
    · have k9 : (kd == 9) = true := by simpa using h9
      by_cases hz : z < 0
      · have hq' : q = true := by rw [hq, decide_eq_true h9, decide_eq_true hz]; rfl
        have hd : decide (z < 0) = true := decide_eq_true hz
        have hY := HYY.out
        rw [hq', if_pos rfl] at hY
        subst hY
        clear hq h9 HYY
        go_upto_region 6 with (first
          | (go_at_call 84; refine (HUP.out _).mono ?_; rintro e w3 ⟨rfl, hb3⟩; have HG3 := Lib.hid (HG2.out.drewn hb3); clear hb3; have x0 := HG3.out.x0; have x1 := HG3.out.x1; have f0 := HG3.out.f0; have f1 := HG3.out.f1; have r0 := HG3.out.r0; have r1 := HG3.out.r1; have s0 := HG3.out.s0; have s1 := HG3.out.s1)
          | (go_at_call 85; refine (HVA.out _ HG3.out.2.2).mono ?_; rintro e w4 ⟨rfl, rfl⟩)
          | (go_at_call 87; refine (HFL.out _).mono ?_; rintro e w5 ⟨rfl, hb5⟩; have HG5 := Lib.hid (HG3.out.step hb5); clear x0 x1 f0 f1 r0 r1 s0 s1; clear hb5; have x0 := HG5.out.x0; have x1 := HG5.out.x1; have f0 := HG5.out.f0; have f1 := HG5.out.f1; have r0 := HG5.out.r0; have r1 := HG5.out.r1; have s0 := HG5.out.s0; have s1 := HG5.out.s1; have HG6 := Lib.hid (HG5.out.set A Y)))
        clear x0 x1 f0 f1 r0 r1 s0 s1
        generalize (w5.setCell ⟨w.heap.size, 0, none⟩ (.int .i64 A)).setCell ⟨w.heap.size, 1, none⟩ (.int .i64 Y) = W6 at *
        have x0 := HG6.out.x0
        have x1 := HG6.out.x1
        have r0 := HG6.out.r0
        have r1 := HG6.out.r1
        have s0 := HG6.out.s0
        have s1 := HG6.out.s1
        have ne1 : ¬ w.heap.size + 1 = w.heap.size := by omega
        go_region
        all_goals go_wp2
        all_goals
          refine bodyPost_ret (v := .tuple #[.int .u64 M, .agg #[.int .i64 A, .int .i64 Y]]) ?_ rfl ⟨rfl, (HG6.out.fin _ _).drew⟩
          have b0 := HG6.out.out0 A Y
          have b1 := HG6.out.out1 A Y
          simp [results, Tryz.results48, asAddr, go_sem, b0, b1]
      · have hd : decide (z < 0) = false := decide_eq_false hz
        cases m
        · have hq' : q = true := by rw [hq]; simp
          have hY := HYY.out
          rw [hq', if_pos rfl] at hY
          subst hY
          clear hq h9 HYY
          go_upto_region 6 with (first
            | (go_at_call 84; refine (HUP.out _).mono ?_; rintro e w3 ⟨rfl, hb3⟩; have HG3 := Lib.hid (HG2.out.drewn hb3); clear hb3; have x0 := HG3.out.x0; have x1 := HG3.out.x1; have f0 := HG3.out.f0; have f1 := HG3.out.f1; have r0 := HG3.out.r0; have r1 := HG3.out.r1; have s0 := HG3.out.s0; have s1 := HG3.out.s1)
            | (go_at_call 85; refine (HVA.out _ HG3.out.2.2).mono ?_; rintro e w4 ⟨rfl, rfl⟩)
            | (go_at_call 86; refine (HMA.out _).mono ?_; rintro e w7 ⟨rfl, hb7⟩; have HG7 := Lib.hid (HG3.out.drewn hb7); clear x0 x1 f0 f1 r0 r1 s0 s1; clear hb7; have x0 := HG7.out.x0; have x1 := HG7.out.x1; have f0 := HG7.out.f0; have f1 := HG7.out.f1; have r0 := HG7.out.r0; have r1 := HG7.out.r1; have s0 := HG7.out.s0; have s1 := HG7.out.s1)
            | (go_at_call 87; refine (HFL.out _).mono ?_; rintro e w5 ⟨rfl, hb5⟩; have HG5 := Lib.hid (HG7.out.step hb5); clear x0 x1 f0 f1 r0 r1 s0 s1; clear hb5; have x0 := HG5.out.x0; have x1 := HG5.out.x1; have f0 := HG5.out.f0; have f1 := HG5.out.f1; have r0 := HG5.out.r0; have r1 := HG5.out.r1; have s0 := HG5.out.s0; have s1 := HG5.out.s1; have HG6 := Lib.hid (HG5.out.set A Y)))
          clear x0 x1 f0 f1 r0 r1 s0 s1
          generalize (w5.setCell ⟨w.heap.size, 0, none⟩ (.int .i64 A)).setCell ⟨w.heap.size, 1, none⟩ (.int .i64 Y) = W6 at *
          have x0 := HG6.out.x0
          have x1 := HG6.out.x1
          have r0 := HG6.out.r0
          have r1 := HG6.out.r1
          have s0 := HG6.out.s0
          have s1 := HG6.out.s1
          have ne1 : ¬ w.heap.size + 1 = w.heap.size := by omega
          go_region
          all_goals go_wp2
          all_goals
            refine bodyPost_ret (v := .tuple #[.int .u64 M, .agg #[.int .i64 A, .int .i64 Y]]) ?_ rfl ⟨rfl, (HG6.out.fin _ _).drew⟩
            have b0 := HG6.out.out0 A Y
            have b1 := HG6.out.out1 A Y
            simp [results, Tryz.results48, asAddr, go_sem, b0, b1]
        · have hq' : q = false := by rw [hq, decide_eq_true h9, hd]; rfl
          have hY := HYY.out
          rw [hq', if_neg (by decide)] at hY
          subst hY
          clear hq h9 HYY
          go_upto_region 6 with (first
            | (go_at_call 84; refine (HUP.out _).mono ?_; rintro e w3 ⟨rfl, hb3⟩; have HG3 := Lib.hid (HG2.out.drewn hb3); clear hb3; have x0 := HG3.out.x0; have x1 := HG3.out.x1; have f0 := HG3.out.f0; have f1 := HG3.out.f1; have r0 := HG3.out.r0; have r1 := HG3.out.r1; have s0 := HG3.out.s0; have s1 := HG3.out.s1)
            | (go_at_call 85; refine (HVA.out _ HG3.out.2.2).mono ?_; rintro e w4 ⟨rfl, rfl⟩)
            | (go_at_call 86; refine (HMA.out _).mono ?_; rintro e w7 ⟨rfl, hb7⟩; have HG7 := Lib.hid (HG3.out.drewn hb7); clear x0 x1 f0 f1 r0 r1 s0 s1; clear hb7; have x0 := HG7.out.x0; have x1 := HG7.out.x1; have f0 := HG7.out.f0; have f1 := HG7.out.f1; have r0 := HG7.out.r0; have r1 := HG7.out.r1; have s0 := HG7.out.s0; have s1 := HG7.out.s1))
          have ne1 : ¬ w.heap.size + 1 = w.heap.size := by omega
          go_region
          all_goals go_wp2
          all_goals
            refine bodyPost_ret (v := .tuple #[.int .u64 M, .agg #[.int .i64 A, .int .i64 Y]]) ?_ rfl ⟨rfl, (HG7.out.fin _ _).drew⟩
            have b0 := HG7.out.out0 A Y
            have b1 := HG7.out.out1 A Y
            simp [results, Tryz.results48, asAddr, go_sem, b0, b1]
    · have k9 : (kd == 9) = false := by simpa using h9
      cases m
      · have hq' : q = true := by rw [hq]; simp
        have hY := HYY.out
        rw [hq', if_pos rfl] at hY
        subst hY
        clear hq h9 HYY
        go_upto_region 6 with (first
          | (go_at_call 84; refine (HUP.out _).mono ?_; rintro e w3 ⟨rfl, hb3⟩; have HG3 := Lib.hid (HG2.out.drewn hb3); clear hb3; have x0 := HG3.out.x0; have x1 := HG3.out.x1; have f0 := HG3.out.f0; have f1 := HG3.out.f1; have r0 := HG3.out.r0; have r1 := HG3.out.r1; have s0 := HG3.out.s0; have s1 := HG3.out.s1)
          | (go_at_call 86; refine (HMA.out _).mono ?_; rintro e w7 ⟨rfl, hb7⟩; have HG7 := Lib.hid (HG3.out.drewn hb7); clear x0 x1 f0 f1 r0 r1 s0 s1; clear hb7; have x0 := HG7.out.x0; have x1 := HG7.out.x1; have f0 := HG7.out.f0; have f1 := HG7.out.f1; have r0 := HG7.out.r0; have r1 := HG7.out.r1; have s0 := HG7.out.s0; have s1 := HG7.out.s1)
          | (go_at_call 87; refine (HFL.out _).mono ?_; rintro e w5 ⟨rfl, hb5⟩; have HG5 := Lib.hid (HG7.out.step hb5); clear x0 x1 f0 f1 r0 r1 s0 s1; clear hb5; have x0 := HG5.out.x0; have x1 := HG5.out.x1; have f0 := HG5.out.f0; have f1 := HG5.out.f1; have r0 := HG5.out.r0; have r1 := HG5.out.r1; have s0 := HG5.out.s0; have s1 := HG5.out.s1; have HG6 := Lib.hid (HG5.out.set A Y)))
        clear x0 x1 f0 f1 r0 r1 s0 s1
        generalize (w5.setCell ⟨w.heap.size, 0, none⟩ (.int .i64 A)).setCell ⟨w.heap.size, 1, none⟩ (.int .i64 Y) = W6 at *
        have x0 := HG6.out.x0
        have x1 := HG6.out.x1
        have r0 := HG6.out.r0
        have r1 := HG6.out.r1
        have s0 := HG6.out.s0
        have s1 := HG6.out.s1
        have ne1 : ¬ w.heap.size + 1 = w.heap.size := by omega
        go_region
        all_goals go_wp2
        all_goals
          refine bodyPost_ret (v := .tuple #[.int .u64 M, .agg #[.int .i64 A, .int .i64 Y]]) ?_ rfl ⟨rfl, (HG6.out.fin _ _).drew⟩
          have b0 := HG6.out.out0 A Y
          have b1 := HG6.out.out1 A Y
          simp [results, Tryz.results48, asAddr, go_sem, b0, b1]
      · have hq' : q = false := by rw [hq, decide_eq_false h9]; rfl
        have hY := HYY.out
        rw [hq', if_neg (by decide)] at hY
        subst hY
        clear hq h9 HYY
        go_upto_region 6 with (first
          | (go_at_call 84; refine (HUP.out _).mono ?_; rintro e w3 ⟨rfl, hb3⟩; have HG3 := Lib.hid (HG2.out.drewn hb3); clear hb3; have x0 := HG3.out.x0; have x1 := HG3.out.x1; have f0 := HG3.out.f0; have f1 := HG3.out.f1; have r0 := HG3.out.r0; have r1 := HG3.out.r1; have s0 := HG3.out.s0; have s1 := HG3.out.s1)
          | (go_at_call 86; refine (HMA.out _).mono ?_; rintro e w7 ⟨rfl, hb7⟩; have HG7 := Lib.hid (HG3.out.drewn hb7); clear x0 x1 f0 f1 r0 r1 s0 s1; clear hb7; have x0 := HG7.out.x0; have x1 := HG7.out.x1; have f0 := HG7.out.f0; have f1 := HG7.out.f1; have r0 := HG7.out.r0; have r1 := HG7.out.r1; have s0 := HG7.out.s0; have s1 := HG7.out.s1))
        have ne1 : ¬ w.heap.size + 1 = w.heap.size := by omega
        go_region
        all_goals go_wp2
        all_goals
          refine bodyPost_ret (v := .tuple #[.int .u64 M, .agg #[.int .i64 A, .int .i64 Y]]) ?_ rfl ⟨rfl, (HG7.out.fin _ _).drew⟩
          have b0 := HG7.out.out0 A Y
          have b1 := HG7.out.out1 A Y
          simp [results, Tryz.results48, asAddr, go_sem, b0, b1]
theorem rnumR_any (ao : Option Addr) (len cap : Nat) (L : Nat → TypeV) (hlen : len ≤ 1000000) (t : Nat) (ht : t < len) (hk : numK (L t).kind = true) (he : EnumOk L len) (b : ByteArray) (a : Nat) (ha : a ≤ b.size) (hs : b.size ≤ 281474976710656) (w : World) (H : ∀ i, i < len → TypeAt w ao i (L i)) :
    Calls Tryz.prog 48 #[.slice ao len cap, .int .i64 t, .string b, .agg #[.int .i64 (a : Nat), .int .i64 0]] w fun e w' => e = .returned (.tuple #[.int .u64 (nN L t b a), .agg #[.int .i64 (nA L t b a : Nat), .int .i64 (nE L t b a)]]) ∧ Below w.heap.size w w' := by
  have hwn : (Lit.int .u64 (tkN b a (szK (L t).kind))).wf = true := by
    by_cases h0 : tkE b a (szK (L t).kind) = 0
    · have := tkN_range ha h0
      exact WalkArith.wf_u64 (by have := pw_even (size_sz hk); omega)
    · rw [(tk_bad h0).1]; kernel_rfl
  have hwm : (Lit.int .u64 (nN L t b a)).wf = true := WalkArith.wf_u64 (by unfold nN; have := @up_range (L t).kind (tkN b a (szK (L t).kind)); omega)
  have ev : valueL L len (t : Nat) (nN L t b a) = valueZ (L t) (nN L t b a) := by unfold valueL; rw [inL_yes ht]; rfl
  have hq : (!numOk L t (nN L t b a)) = ((decide ((L t).kind = 9) && decide (valueZ (L t) (nN L t b a) < 0)) || !mayK (L t).kind (nN L t b a)) := by
    cases ho : numOk L t (nN L t b a) with
    | true =>
      have hm := numE9_may he ht (n := nN L t b a) (by unfold numE9; rw [ho]; rfl)
      rw [hm]
      unfold numOk at ho
      by_cases h9 : (L t).kind = 9
      · rw [if_pos h9] at ho
        have : ¬ valueZ (L t) (nN L t b a) < 0 := by unfold okZ at ho; simpa using ho
        simp [this]
      · simp [h9]
    | false =>
      unfold numOk at ho
      by_cases h9 : (L t).kind = 9
      · rw [if_pos h9] at ho
        have : valueZ (L t) (nN L t b a) < 0 := by unfold okZ at ho; simpa using ho
        simp [h9, this]
      · rw [if_neg h9] at ho
        simp [ho]
  refine rnumR_core ao len cap t ht (L t) b a (nA L t b a : Nat) (tkN b a (szK (L t).kind)) (nN L t b a) (tkE b a (szK (L t).kind)) (nE L t b a) (valueZ (L t) (nN L t b a)) (mayK (L t).kind (nN L t b a)) (!numOk L t (nN L t b a)) w (H t ht)
    (fun wx => refBTake_any b a (szK (L t).kind) ha hs wx) (fun wx => refKUp_any (L t).kind _ hwn wx) (fun wx => refKMay_any (L t).kind _ hwm wx)
    (fun wx hb => by have := refValue_any ao len cap L t (nN L t b a) (by omega) wx (hold H hb); rwa [ev] at this) hq ?_
  unfold nE
  by_cases h0 : tkE b a (szK (L t).kind) = 0
  · rw [h0]
    cases numOk L t (nN L t b a) <;> simp
  · rw [if_pos h0, if_neg h0]
    cases numOk L t (nN L t b a) <;> simp
end Go.Proofs.YtmnemddagcfjgaaGreatDoor
namespace Go.Proofs.YtmnemddagcfjgaaGreatDoor
open Go.RowKit
set_option linter.unusedVariables false
theorem zeroIn_yes11 {s : ByteArray} {k : Nat} (hk : k < s.size) (h : (s[k]'hk).toNat = 0) : zeroIn s = true := by
  unfold zeroIn
  have hg := Lib.indexByte_ge s.data.toList 0
  refine decide_eq_true ?_
  refine Classical.byContradiction fun hn => ?_
  have h1 : Lib.indexByte s.data.toList 0 = -1 := by omega
  refine Lib.indexByte_none h1 k ?_
  have hk' : k < s.data.size := hk
  have e : s[k]'hk = s.data[k] := rfl
  rw [e] at h
  have h0 : s.data[k] = 0 := UInt8.toNat_inj.1 (by simpa using h)
  simp only [Array.getElem?_toList]
  rw [Array.getElem?_eq_getElem hk', h0]
theorem zeroIn_no11 {s : ByteArray} (h : ∀ k (hk : k < s.size), (s[k]'hk).toNat ≠ 0) : zeroIn s = false := by
  unfold zeroIn
  refine decide_eq_false fun hn => ?_
  obtain ⟨o, ho⟩ := Int.eq_ofNat_of_zero_le hn
  obtain ⟨h1, _⟩ := Lib.indexByte_some ho
  have hl := (List.getElem?_eq_some_iff.1 h1).1
  have hk : o < s.size := by simpa using hl
  refine h o hk ?_
  have hk' : o < s.data.size := hk
  have e : s[o]'hk = s.data[o] := rfl
  rw [Array.getElem?_toList, Array.getElem?_eq_getElem hk'] at h1
  rw [e, Option.some.inj h1]; rfl
def zTo (s : ByteArray) : Nat → Bool
  | 0 => false
  | n + 1 => zTo s n || (byteAt s n == 0)
theorem zTo_succ (s : ByteArray) (n : Nat) : zTo s (n + 1) = (zTo s n || (byteAt s n == 0)) := rfl
theorem zTo_yes {s : ByteArray} {k : Nat} (h : byteAt s k = 0) : ∀ {m : Nat}, k < m → zTo s m = true := by
  intro m hm
  induction m with
  | zero => omega
  | succ m ih =>
    unfold zTo
    by_cases c : k = m
    · subst c; rw [h]; simp
    · rw [ih (by omega)]; rfl
theorem zTo_no {s : ByteArray} : ∀ {m : Nat}, zTo s m = false → ∀ k, k < m → byteAt s k ≠ 0
  | 0, _, k, hk => by omega
  | m + 1, h, k, hk => by
    unfold zTo at h
    rw [Bool.or_eq_false_iff] at h
    by_cases c : k = m
    · subst c; have := h.2; simpa using this
    · exact zTo_no h.1 k (by omega)
theorem zeroIn_to {s : ByteArray} {m : Nat} (hm : m ≤ s.size) : zeroIn (s.extract 0 m) = zTo s m := by
  have hz : (s.extract 0 m).size = m := by rw [ByteArray.size_extract]; omega
  have hb : ∀ k (hk : k < (s.extract 0 m).size), (((s.extract 0 m)[k]'hk).toNat : Int) = byteAt s k := fun k hk => by
    have h1 : k < s.size := by omega
    rw [← byteAt_get s k h1]
    have : (s.extract 0 m)[k]'hk = s[k]'h1 := by simp [ByteArray.getElem_extract]
    rw [this]
  cases hq : zTo s m with
  | true =>
    obtain ⟨k, hk, h0⟩ : ∃ k, k < m ∧ byteAt s k = 0 := by
      refine Classical.byContradiction fun hn => ?_
      have : ∀ n, n ≤ m → zTo s n = false := by
        intro n
        induction n with
        | zero => intro _; rfl
        | succ n ih =>
          intro hn2
          unfold zTo
          rw [ih (by omega)]
          have : byteAt s n ≠ 0 := fun h => hn ⟨n, by omega, h⟩
          simpa using this
      rw [this m (Nat.le_refl _)] at hq
      cases hq
    have hk2 : k < (s.extract 0 m).size := by omega
    refine zeroIn_yes11 hk2 ?_
    have := hb k hk2
    omega
  | false =>
    refine zeroIn_no11 fun k hk h0 => ?_
    have := hb k hk
    have := zTo_no hq k (by omega)
    omega
def TxTo (bound : Int) (b : ByteArray) (a : Nat) (w : World) (e : Ending) (w' : World) : Prop :=
  ∃ (S : ByteArray) (A : Int), e = .returned (.tuple #[.string S, .agg #[.int .i64 A, .int .i64 (xE bound b a)]]) ∧ (xE bound b a = 0 → S = xS b a ∧ A = (xA b a : Nat)) ∧ Below w.heap.size w w'
set_option maxRecDepth 100000 in
set_option maxHeartbeats 4000000 in
theorem rtextR_0 (bound : Int) (hb0 : 0 ≤ bound) (hb1 : bound ≤ 64) (b : ByteArray) (a : Nat) (ha : a ≤ b.size) (hs : b.size ≤ 281474976710656) (w : World) (h0 : tkE b a 4 ≠ 0) :
    Calls Tryz.prog 49 #[.int .i64 bound, .string b, .agg #[.int .i64 (a : Nat), .int .i64 0]] w (TxTo bound b a w) := by
  have e : xE bound b a = tkE b a 4 := by unfold xE; rw [if_pos h0]
  have HG := Lib.hid (GSt.start w (a : Nat) 0)
  have hwb : IntKind.i64.wrap (bound + 1) = bound + 1 := IntWalk.i64_in _ (by omega)
  have hwu : IntKind.u64.wrap (bound + 1) = bound + 1 := IntWalk.u64_in _ (by omega)
  have ne1 : ¬ w.heap.size + 1 = w.heap.size := by omega
  have HTA := Lib.hid (fun wx => refBTake_any b a 4 ha hs wx)
  rw [(tk_bad h0).1, (tk_bad h0).2] at HTA
  unfold TxTo
  rw [e]
  obtain ⟨E, hE⟩ : ∃ E, tkE b a 4 = E := ⟨_, rfl⟩
  rw [hE] at HTA h0 ⊢
  have HNE := Lib.hid h0
  have hne : (E != 0) = true := by simpa using h0
  have d3 : decide (bound + 1 < 0) = false := decide_eq_false (by omega)
  have HFL := Lib.hid (fun wx => rfail_keep (a : Nat) E 1 h0 wx)
  clear e hE h0
  go_enter Tryz.func49, Tryz.ntmps49
  go_upto_region 1 with (fail)
  generalize ((w.alloc (gO (a : Nat) 0)).alloc (gO 0 0)) = W at *
  have x0 := HG.out.x0; have x1 := HG.out.x1; have f0 := HG.out.f0; have f1 := HG.out.f1; have r0 := HG.out.r0; have r1 := HG.out.r1; have s0 := HG.out.s0; have s1 := HG.out.s1
  go_upto_region 7 with (first
    | (go_at_call 82; refine (HTA.out _).mono ?_; rintro e w1 ⟨rfl, hb1⟩; have HG1 := Lib.hid (HG.out.step hb1); clear x0 x1 f0 f1 r0 r1 s0 s1; clear hb1; have x0 := HG1.out.x0; have x1 := HG1.out.x1; have f0 := HG1.out.f0; have f1 := HG1.out.f1; have r0 := HG1.out.r0; have r1 := HG1.out.r1; have s0 := HG1.out.s0; have s1 := HG1.out.s1; have HS1 := Lib.hid (HG1.out.set (a : Nat) E))
    | (go_at_call 87; (with_reducible refine (HFL.out _).mono ?_); rintro e w2 ⟨rfl, hb2⟩; have HG2 := Lib.hid (HS1.out.step hb2); clear x0 x1 f0 f1 r0 r1 s0 s1; clear hb2; have x0 := HG2.out.x0; have x1 := HG2.out.x1; have f0 := HG2.out.f0; have f1 := HG2.out.f1; have r0 := HG2.out.r0; have r1 := HG2.out.r1; have s0 := HG2.out.s0; have s1 := HG2.out.s1; have HS2 := Lib.hid (HG2.out.set (a : Nat) E)))
  clear x0 x1 f0 f1 r0 r1 s0 s1
  generalize (w2.setCell ⟨w.heap.size, 0, none⟩ (.int .i64 (a : Nat))).setCell ⟨w.heap.size, 1, none⟩ (.int .i64 E) = WE at *
  have x0 := HS2.out.x0; have x1 := HS2.out.x1; have f0 := HS2.out.f0; have f1 := HS2.out.f1; have r0 := HS2.out.r0; have r1 := HS2.out.r1; have s0 := HS2.out.s0; have s1 := HS2.out.s1
  go_region
  all_goals go_wp2
  all_goals
    refine bodyPost_ret (v := .tuple #[.string ⟨#[]⟩, .agg #[.int .i64 (a : Nat), .int .i64 E]]) ?_ rfl ⟨_, _, rfl, fun hx => absurd hx HNE.out, (HS2.out.fin _ _).drew⟩
    have b0 := HS2.out.out0 (a : Nat) E
    have b1 := HS2.out.out1 (a : Nat) E
    simp [results, Tryz.results49, asAddr, go_sem, b0, b1]
set_option maxRecDepth 100000 in
set_option maxHeartbeats 4000000 in
theorem rtextR_1 (bound : Int) (hb0 : 0 ≤ bound) (hb1 : bound ≤ 64) (b : ByteArray) (a : Nat) (ha : a ≤ b.size) (hs : b.size ≤ 281474976710656) (w : World) (h0 : tkE b a 4 = 0) (h1 : tkN b a 4 = 0) :
    Calls Tryz.prog 49 #[.int .i64 bound, .string b, .agg #[.int .i64 (a : Nat), .int .i64 0]] w (TxTo bound b a w) := by
  have e : xE bound b a = 1 := by unfold xE; rw [if_neg (by rw [h0]; decide), if_pos h1]
  have HG := Lib.hid (GSt.start w (a : Nat) 0)
  have hwb : IntKind.i64.wrap (bound + 1) = bound + 1 := IntWalk.i64_in _ (by omega)
  have hwu : IntKind.u64.wrap (bound + 1) = bound + 1 := IntWalk.u64_in _ (by omega)
  have ne1 : ¬ w.heap.size + 1 = w.heap.size := by omega
  have HTA := Lib.hid (fun wx => refBTake_any b a 4 ha hs wx)
  rw [h0, h1] at HTA
  unfold TxTo
  rw [e]
  obtain ⟨A, hA⟩ : ∃ A, ((tkA b a 4 : Nat) : Int) = A := ⟨_, rfl⟩
  rw [hA] at HTA
  have d3 : decide (bound + 1 < 0) = false := decide_eq_false (by omega)
  have HFL := Lib.hid (fun wx => rfail_set A 1 wx)
  have HNE := Lib.hid (show (1 : Int) ≠ 0 by decide)
  clear e h0 h1 hA
  go_enter Tryz.func49, Tryz.ntmps49
  go_upto_region 1 with (fail)
  generalize ((w.alloc (gO (a : Nat) 0)).alloc (gO 0 0)) = W at *
  have x0 := HG.out.x0; have x1 := HG.out.x1; have f0 := HG.out.f0; have f1 := HG.out.f1; have r0 := HG.out.r0; have r1 := HG.out.r1; have s0 := HG.out.s0; have s1 := HG.out.s1
  go_upto_region 7 with (first
    | (go_at_call 82; refine (HTA.out _).mono ?_; rintro e w1 ⟨rfl, hb1⟩; have HG1 := Lib.hid (HG.out.step hb1); clear x0 x1 f0 f1 r0 r1 s0 s1; clear hb1; have x0 := HG1.out.x0; have x1 := HG1.out.x1; have f0 := HG1.out.f0; have f1 := HG1.out.f1; have r0 := HG1.out.r0; have r1 := HG1.out.r1; have s0 := HG1.out.s0; have s1 := HG1.out.s1; have HS1 := Lib.hid (HG1.out.set A 0))
    | (go_at_call 87; (with_reducible refine (HFL.out _).mono ?_); rintro e w2 ⟨rfl, hb2⟩; have HG2 := Lib.hid (HS1.out.step hb2); clear x0 x1 f0 f1 r0 r1 s0 s1; clear hb2; have x0 := HG2.out.x0; have x1 := HG2.out.x1; have f0 := HG2.out.f0; have f1 := HG2.out.f1; have r0 := HG2.out.r0; have r1 := HG2.out.r1; have s0 := HG2.out.s0; have s1 := HG2.out.s1; have HS2 := Lib.hid (HG2.out.set A 1)))
  clear x0 x1 f0 f1 r0 r1 s0 s1
  generalize (w2.setCell ⟨w.heap.size, 0, none⟩ (.int .i64 A)).setCell ⟨w.heap.size, 1, none⟩ (.int .i64 1) = WE at *
  have x0 := HS2.out.x0; have x1 := HS2.out.x1; have f0 := HS2.out.f0; have f1 := HS2.out.f1; have r0 := HS2.out.r0; have r1 := HS2.out.r1; have s0 := HS2.out.s0; have s1 := HS2.out.s1
  go_region
  all_goals go_wp2
  all_goals
    refine bodyPost_ret (v := .tuple #[.string ⟨#[]⟩, .agg #[.int .i64 A, .int .i64 1]]) ?_ rfl ⟨_, _, rfl, fun hx => absurd hx HNE.out, (HS2.out.fin _ _).drew⟩
    have b0 := HS2.out.out0 A 1
    have b1 := HS2.out.out1 A 1
    simp [results, Tryz.results49, asAddr, go_sem, b0, b1]
set_option maxRecDepth 100000 in
set_option maxHeartbeats 4000000 in
theorem rtextR_2 (bound : Int) (hb0 : 0 ≤ bound) (hb1 : bound ≤ 64) (b : ByteArray) (a : Nat) (ha : a ≤ b.size) (hs : b.size ≤ 281474976710656) (w : World) (h0 : tkE b a 4 = 0) (h1 : ¬ tkN b a 4 = 0) (h2 : bound + 1 < tkN b a 4) :
    Calls Tryz.prog 49 #[.int .i64 bound, .string b, .agg #[.int .i64 (a : Nat), .int .i64 0]] w (TxTo bound b a w) := by
  have e : xE bound b a = 3 := by unfold xE; rw [if_neg (by rw [h0]; decide), if_neg h1, if_pos h2]
  have HG := Lib.hid (GSt.start w (a : Nat) 0)
  have hwb : IntKind.i64.wrap (bound + 1) = bound + 1 := IntWalk.i64_in _ (by omega)
  have hwu : IntKind.u64.wrap (bound + 1) = bound + 1 := IntWalk.u64_in _ (by omega)
  have ne1 : ¬ w.heap.size + 1 = w.heap.size := by omega
  have HTA := Lib.hid (fun wx => refBTake_any b a 4 ha hs wx)
  rw [h0] at HTA
  unfold TxTo
  rw [e]
  obtain ⟨A, hA⟩ : ∃ A, ((tkA b a 4 : Nat) : Int) = A := ⟨_, rfl⟩
  obtain ⟨N, hN⟩ : ∃ N, tkN b a 4 = N := ⟨_, rfl⟩
  rw [hA, hN] at HTA
  rw [hN] at h1 h2
  have hn : (N == 0) = false := by simpa using h1
  have d3 : decide (bound + 1 < N) = true := decide_eq_true h2
  have HFL := Lib.hid (fun wx => rfail_set A 3 wx)
  have HNE := Lib.hid (show (3 : Int) ≠ 0 by decide)
  clear e h0 h1 h2 hA hN
  go_enter Tryz.func49, Tryz.ntmps49
  go_upto_region 1 with (fail)
  generalize ((w.alloc (gO (a : Nat) 0)).alloc (gO 0 0)) = W at *
  have x0 := HG.out.x0; have x1 := HG.out.x1; have f0 := HG.out.f0; have f1 := HG.out.f1; have r0 := HG.out.r0; have r1 := HG.out.r1; have s0 := HG.out.s0; have s1 := HG.out.s1
  go_upto_region 7 with (first
    | (go_at_call 82; refine (HTA.out _).mono ?_; rintro e w1 ⟨rfl, hb1⟩; have HG1 := Lib.hid (HG.out.step hb1); clear x0 x1 f0 f1 r0 r1 s0 s1; clear hb1; have x0 := HG1.out.x0; have x1 := HG1.out.x1; have f0 := HG1.out.f0; have f1 := HG1.out.f1; have r0 := HG1.out.r0; have r1 := HG1.out.r1; have s0 := HG1.out.s0; have s1 := HG1.out.s1; have HS1 := Lib.hid (HG1.out.set A 0))
    | (go_at_call 87; (with_reducible refine (HFL.out _).mono ?_); rintro e w2 ⟨rfl, hb2⟩; have HG2 := Lib.hid (HS1.out.step hb2); clear x0 x1 f0 f1 r0 r1 s0 s1; clear hb2; have x0 := HG2.out.x0; have x1 := HG2.out.x1; have f0 := HG2.out.f0; have f1 := HG2.out.f1; have r0 := HG2.out.r0; have r1 := HG2.out.r1; have s0 := HG2.out.s0; have s1 := HG2.out.s1; have HS2 := Lib.hid (HG2.out.set A 3)))
  clear x0 x1 f0 f1 r0 r1 s0 s1
  generalize (w2.setCell ⟨w.heap.size, 0, none⟩ (.int .i64 A)).setCell ⟨w.heap.size, 1, none⟩ (.int .i64 3) = WE at *
  have x0 := HS2.out.x0; have x1 := HS2.out.x1; have f0 := HS2.out.f0; have f1 := HS2.out.f1; have r0 := HS2.out.r0; have r1 := HS2.out.r1; have s0 := HS2.out.s0; have s1 := HS2.out.s1
  go_region
  all_goals go_wp2
  all_goals
    refine bodyPost_ret (v := .tuple #[.string ⟨#[]⟩, .agg #[.int .i64 A, .int .i64 3]]) ?_ rfl ⟨_, _, rfl, fun hx => absurd hx HNE.out, (HS2.out.fin _ _).drew⟩
    have b0 := HS2.out.out0 A 3
    have b1 := HS2.out.out1 A 3
    simp [results, Tryz.results49, asAddr, go_sem, b0, b1]
set_option maxRecDepth 100000 in
set_option maxHeartbeats 4000000 in
theorem rtextR_3 (bound : Int) (hb0 : 0 ≤ bound) (hb1 : bound ≤ 64) (b : ByteArray) (a : Nat) (ha : a ≤ b.size) (hs : b.size ≤ 281474976710656) (w : World) (h0 : tkE b a 4 = 0) (h1 : ¬ tkN b a 4 = 0) (h2 : ¬ bound + 1 < tkN b a 4) (h3 : txE b (tkA b a 4) (tkN b a 4) ≠ 0) :
    Calls Tryz.prog 49 #[.int .i64 bound, .string b, .agg #[.int .i64 (a : Nat), .int .i64 0]] w (TxTo bound b a w) := by
  have e : xE bound b a = txE b (tkA b a 4) (tkN b a 4) := by unfold xE; rw [if_neg (by rw [h0]; decide), if_neg h1, if_neg h2, if_pos h3]
  have HG := Lib.hid (GSt.start w (a : Nat) 0)
  have hwb : IntKind.i64.wrap (bound + 1) = bound + 1 := IntWalk.i64_in _ (by omega)
  have hwu : IntKind.u64.wrap (bound + 1) = bound + 1 := IntWalk.u64_in _ (by omega)
  have ne1 : ¬ w.heap.size + 1 = w.heap.size := by omega
  have HTA := Lib.hid (fun wx => refBTake_any b a 4 ha hs wx)
  have hc := fun wx => refBTake_any b a 4 ha hs wx
  obtain ⟨m, hm⟩ := text_len_of ha h0 h1
  have hle := (tk_zero ha h0).2.2.1
  rw [h0, hm] at HTA
  have ht := fun wx => refText_any b (tkA b a 4) ((m : Nat) + 1) hle hs (WalkArith.wf_i64 (by omega)) wx
  have hn : ((m : Int) + 1 == 0) = false := by simp; omega
  have d3 : decide (bound + 1 < (m : Int) + 1) = false := decide_eq_false (by omega)
  have d4 : decide (bound < (m : Int)) = false := decide_eq_false (by omega)
  have d5 : ¬ bound < (m : Int) := by omega
  have hwm : IntKind.i64.wrap ((m : Int) + 1) = (m : Int) + 1 := IntWalk.i64_in _ (by omega)
  rw [hm] at h2 h3 e
  have es : txS b (tkA b a 4) ((m : Nat) + 1) = ⟨#[]⟩ := by unfold txS; rw [if_neg h3]
  unfold TxTo
  rw [e]
  rw [es] at ht
  obtain ⟨A2, hA2⟩ : ∃ A2, ((txA b (tkA b a 4) ((m : Nat) + 1) : Nat) : Int) = A2 := ⟨_, rfl⟩
  obtain ⟨E, hE⟩ : ∃ E, txE b (tkA b a 4) ((m : Nat) + 1) = E := ⟨_, rfl⟩
  rw [hA2, hE] at ht
  rw [hE] at h3 ⊢
  obtain ⟨A, hA⟩ : ∃ A, ((tkA b a 4 : Nat) : Int) = A := ⟨_, rfl⟩
  rw [hA] at HTA ht
  have HTX := Lib.hid ht
  have HNE := Lib.hid h3
  have hne : (E != 0) = true := by simpa using h3
  clear e h0 h1 h2 h3 hc ht hm hle es hA2 hE hA
  go_enter Tryz.func49, Tryz.ntmps49
  go_upto_region 1 with (fail)
  generalize ((w.alloc (gO (a : Nat) 0)).alloc (gO 0 0)) = W at *
  have x0 := HG.out.x0; have x1 := HG.out.x1; have f0 := HG.out.f0; have f1 := HG.out.f1; have r0 := HG.out.r0; have r1 := HG.out.r1; have s0 := HG.out.s0; have s1 := HG.out.s1
  go_upto_region 9 with (first
    | (go_at_call 82; refine (HTA.out _).mono ?_; rintro e w1 ⟨rfl, hb1⟩; have HG1 := Lib.hid (HG.out.step hb1); clear x0 x1 f0 f1 r0 r1 s0 s1; clear hb1; have x0 := HG1.out.x0; have x1 := HG1.out.x1; have f0 := HG1.out.f0; have f1 := HG1.out.f1; have r0 := HG1.out.r0; have r1 := HG1.out.r1; have s0 := HG1.out.s0; have s1 := HG1.out.s1; have HS1 := Lib.hid (HG1.out.set A 0))
    | (go_at_call 88; refine (HTX.out _).mono ?_; rintro e w3 ⟨rfl, hb3⟩; have HG3 := Lib.hid (HS1.out.step hb3); clear x0 x1 f0 f1 r0 r1 s0 s1; clear hb3; have x0 := HG3.out.x0; have x1 := HG3.out.x1; have f0 := HG3.out.f0; have f1 := HG3.out.f1; have r0 := HG3.out.r0; have r1 := HG3.out.r1; have s0 := HG3.out.s0; have s1 := HG3.out.s1; have HS3 := Lib.hid (HG3.out.set A2 E)))
  clear x0 x1 f0 f1 r0 r1 s0 s1
  generalize (w3.setCell ⟨w.heap.size, 0, none⟩ (.int .i64 A2)).setCell ⟨w.heap.size, 1, none⟩ (.int .i64 E) = WE at *
  have x0 := HS3.out.x0; have x1 := HS3.out.x1; have f0 := HS3.out.f0; have f1 := HS3.out.f1; have r0 := HS3.out.r0; have r1 := HS3.out.r1; have s0 := HS3.out.s0; have s1 := HS3.out.s1
  go_wp2
  go_loopw [10] (fun i wx => i = .int .i64 0 ∧ wx = WE) (fun _ _ => 0)
  case atStart => exact ⟨rfl, rfl⟩
  case round =>
    obtain ⟨rfl, rfl⟩ := hrel
    go_upto_region 15 with (fail)
    go_region
    all_goals go_wp2
    all_goals
      refine bodyPost_ret (v := .tuple #[.string ⟨#[]⟩, .agg #[.int .i64 A2, .int .i64 E]]) ?_ rfl ⟨_, _, rfl, fun hx => absurd hx HNE.out, (HS3.out.fin _ _).drew⟩
      have b0 := HS3.out.out0 A2 E
      have b1 := HS3.out.out1 A2 E
      simp [results, Tryz.results49, asAddr, go_sem, b0, b1]
set_option maxRecDepth 100000 in
set_option maxHeartbeats 4000000 in
theorem rtextR_4 (bound : Int) (hb0 : 0 ≤ bound) (hb1 : bound ≤ 64) (b : ByteArray) (a : Nat) (ha : a ≤ b.size) (hs : b.size ≤ 281474976710656) (w : World) (h0 : tkE b a 4 = 0) (h1 : ¬ tkN b a 4 = 0) (h2 : ¬ bound + 1 < tkN b a 4) (h3 : txE b (tkA b a 4) (tkN b a 4) = 0) :
    Calls Tryz.prog 49 #[.int .i64 bound, .string b, .agg #[.int .i64 (a : Nat), .int .i64 0]] w (TxTo bound b a w) := by
  have HG := Lib.hid (GSt.start w (a : Nat) 0)
  have hwb : IntKind.i64.wrap (bound + 1) = bound + 1 := IntWalk.i64_in _ (by omega)
  have hwu : IntKind.u64.wrap (bound + 1) = bound + 1 := IntWalk.u64_in _ (by omega)
  have ne1 : ¬ w.heap.size + 1 = w.heap.size := by omega
  have HTA := Lib.hid (fun wx => refBTake_any b a 4 ha hs wx)
  have hc := fun wx => refBTake_any b a 4 ha hs wx
  obtain ⟨m, hm⟩ := text_len_of ha h0 h1
  have hle := (tk_zero ha h0).2.2.1
  rw [h0, hm] at HTA
  have ht := fun wx => refText_any b (tkA b a 4) ((m : Nat) + 1) hle hs (WalkArith.wf_i64 (by omega)) wx
  have hn : ((m : Int) + 1 == 0) = false := by simp; omega
  have d3 : decide (bound + 1 < (m : Int) + 1) = false := decide_eq_false (by omega)
  have d4 : decide (bound < (m : Int)) = false := decide_eq_false (by omega)
  have d5 : ¬ bound < (m : Int) := by omega
  have hwm : IntKind.i64.wrap ((m : Int) + 1) = (m : Int) + 1 := IntWalk.i64_in _ (by omega)
  obtain ⟨hsz, hxs⟩ := text_got_of hm h3
  have ex : xE bound b a = if zeroIn (xS b a) then 10 else if byteAt (xR b a) ((xR b a).size - 1) ≠ 0 then 1 else 0 := by
    unfold xE; rw [if_neg (by rw [h0]; decide), if_neg h1, if_neg h2, if_neg (by rw [h3]; decide)]
  have es : txS b (tkA b a 4) ((m : Nat) + 1) = xR b a := by unfold xR; rw [hm]
  have ea : txA b (tkA b a 4) ((m : Nat) + 1) = xA b a := by unfold xA; rw [hm]
  have ee : txE b (tkA b a 4) ((m : Nat) + 1) = 0 := by rw [← hm]; exact h3
  rw [hm] at h2
  rw [es, ea, ee] at ht
  unfold TxTo
  rw [hxs] at ex ⊢
  rw [ex, hsz, Nat.add_sub_cancel]
  rw [hsz, Nat.add_sub_cancel] at ex
  obtain ⟨s, hss⟩ : ∃ s, xR b a = s := ⟨_, rfl⟩
  rw [hss] at ht hsz ⊢
  rw [zeroIn_to (by omega)]
  obtain ⟨ax, hax⟩ : ∃ ax, xA b a = ax := ⟨_, rfl⟩
  rw [hax] at ht ⊢
  obtain ⟨A2, hA2⟩ : ∃ A2, ((ax : Nat) : Int) = A2 := ⟨_, rfl⟩
  obtain ⟨A, hA⟩ : ∃ A, ((tkA b a 4 : Nat) : Int) = A := ⟨_, rfl⟩
  rw [hA2] at ht ⊢
  rw [hA] at HTA ht
  have HTX := Lib.hid ht
  have hsl : ∀ wx, (Instr.slice 9 (.string s) none (some (.int .i64 ((m : Nat) : Int))) none).run Tryz.prog wx = .ok (.string (s.extract 0 m)) wx := fun wx => run_slice_string_h wx 9 s Tryz.underlying9 .i64 ((m : Nat) : Int) (by omega) (by omega)
  have HSL := Lib.hid hsl
  obtain ⟨X, hX⟩ : ∃ X : Int, (if zTo s m = true then 10 else if byteAt s m ≠ 0 then 1 else 0) = X := ⟨_, rfl⟩
  rw [hX]
  have HXX := Lib.hid hX
  have hm64 : m ≤ 64 := by omega
  clear ex h0 h1 h2 h3 hc ht hm hle es ea ee hss hax hA2 hA hxs hX hsl
  go_enter Tryz.func49, Tryz.ntmps49
  go_upto_region 1 with (fail)
  generalize ((w.alloc (gO (a : Nat) 0)).alloc (gO 0 0)) = W at *
  have x0 := HG.out.x0; have x1 := HG.out.x1; have f0 := HG.out.f0; have f1 := HG.out.f1; have r0 := HG.out.r0; have r1 := HG.out.r1; have s0 := HG.out.s0; have s1 := HG.out.s1
  go_upto_region 9 with (first
    | (go_at_call 82; refine (HTA.out _).mono ?_; rintro e w1 ⟨rfl, hb1⟩; have HG1 := Lib.hid (HG.out.step hb1); clear x0 x1 f0 f1 r0 r1 s0 s1; clear hb1; have x0 := HG1.out.x0; have x1 := HG1.out.x1; have f0 := HG1.out.f0; have f1 := HG1.out.f1; have r0 := HG1.out.r0; have r1 := HG1.out.r1; have s0 := HG1.out.s0; have s1 := HG1.out.s1; have HS1 := Lib.hid (HG1.out.set A 0))
    | (go_at_call 88; refine (HTX.out _).mono ?_; rintro e w3 ⟨rfl, hb3⟩; have HG3 := Lib.hid (HS1.out.step hb3); clear x0 x1 f0 f1 r0 r1 s0 s1; clear hb3; have x0 := HG3.out.x0; have x1 := HG3.out.x1; have f0 := HG3.out.f0; have f1 := HG3.out.f1; have r0 := HG3.out.r0; have r1 := HG3.out.r1; have s0 := HG3.out.s0; have s1 := HG3.out.s1; have HS3 := Lib.hid (HG3.out.set A2 0)))
  clear x0 x1 f0 f1 r0 r1 s0 s1
  generalize (w3.setCell ⟨w.heap.size, 0, none⟩ (.int .i64 A2)).setCell ⟨w.heap.size, 1, none⟩ (.int .i64 0) = WE at *
  go_wp2
  go_loopw [10] (fun i wx => ∃ j : Nat, j ≤ m ∧ i = .int .i64 j ∧ Hid (GSt w A2 (if zTo s j = true then 10 else 0) wx)) (fun i _ => m - (intOf i).toNat)
  case atStart => exact ⟨0, Nat.zero_le _, rfl, HS3⟩
  case round =>
    obtain ⟨j, hj, rfl, HP⟩ := hrel
    have hjw : IntKind.i64.wrap ((j : Int) + 1) = (j : Int) + 1 := IntWalk.i64_in _ (by omega)
    by_cases hlt : j < m
    · have hjs : j < s.size := by omega
      obtain ⟨Ej, hEj⟩ : ∃ Ej : Int, (if zTo s j = true then 10 else 0) = Ej := ⟨_, rfl⟩
      rw [hEj] at HP
      have HEJ := Lib.hid hEj
      clear hEj
      have x0 := HP.out.x0; have x1 := HP.out.x1; have f0 := HP.out.f0; have f1 := HP.out.f1; have r0 := HP.out.r0; have r1 := HP.out.r1; have s0 := HP.out.s0; have s1 := HP.out.s1
      by_cases hz : byteAt s j = 0
      · have hb : (((s[j].toNat : Nat) : Int) == 0) = true := by rw [byteAt_get s _ hjs, hz]; rfl
        have HE2 := Lib.hid (show (if zTo s (j + 1) = true then (10 : Int) else 0) = 10 by rw [zTo_yes hz (Nat.lt_succ_self j), if_pos rfl])
        have HE3 := Lib.hid (show (if Ej = 0 then (10 : Int) else Ej) = 10 by rw [← HEJ.out]; cases zTo s j <;> simp)
        clear hz
        go_wp2_with (go_at_call 87; refine (rfail_any A2 Ej 10 _).mono ?_; rintro e w4 ⟨rfl, hb4⟩; have HG4 := Lib.hid (HP.out.step hb4); clear x0 x1 f0 f1 r0 r1 s0 s1; clear hb4; have x0 := HG4.out.x0; have x1 := HG4.out.x1; have f0 := HG4.out.f0; have f1 := HG4.out.f1; have r0 := HG4.out.r0; have r1 := HG4.out.r1; have s0 := HG4.out.s0; have s1 := HG4.out.s1)
        rw [HE3.out]
        go_roundw
        case rel => exact ⟨j + 1, by omega, by go_num, Lib.hid (by rw [HE2.out]; exact HG4.out.set A2 10)⟩
        case measure => simp [intOf]; omega
      · have hb : (((s[j].toNat : Nat) : Int) == 0) = false := by rw [byteAt_get s _ hjs]; simpa using hz
        have HE2 := Lib.hid (show (if zTo s (j + 1) = true then (10 : Int) else 0) = Ej by rw [← HEJ.out, zTo_succ, show (byteAt s j == 0) = false by simpa using hz, Bool.or_false])
        clear hz
        go_wp2
        go_roundw
        case rel => exact ⟨j + 1, by omega, by go_num, Lib.hid (by rw [HE2.out]; exact HP.out)⟩
        case measure => simp [intOf]; omega
    · obtain rfl : j = m := by omega
      have hlm : j < s.size := by omega
      have hje : IntKind.i64.wrap ((j : Int) + 1 - 1) = (j : Int) := by rw [Int.add_sub_cancel]; exact IntWalk.i64_in _ (by omega)
      have hjz : IntKind.i64.wrap (j : Int) = (j : Int) := IntWalk.i64_in _ (by omega)
      have hsz' : ((s.size : Nat) : Int) = (j : Int) + 1 := by omega
      have hX := HXX.out
      cases hzt : zTo s j with
      | true =>
        rw [hzt, if_pos rfl] at HP hX
        subst hX
        have HNE := Lib.hid (show (10 : Int) ≠ 0 by decide)
        have x0 := HP.out.x0; have x1 := HP.out.x1; have f0 := HP.out.f0; have f1 := HP.out.f1; have r0 := HP.out.r0; have r1 := HP.out.r1; have s0 := HP.out.s0; have s1 := HP.out.s1
        go_upto_region 15 with (fail)
        go_region
        all_goals go_wp2
        all_goals
          refine bodyPost_ret (v := .tuple #[.string ⟨#[]⟩, .agg #[.int .i64 A2, .int .i64 10]]) ?_ rfl ⟨_, _, rfl, fun hx => absurd hx HNE.out, (HP.out.fin _ _).drew⟩
          have b0 := HP.out.out0 A2 10
          have b1 := HP.out.out1 A2 10
          simp [results, Tryz.results49, asAddr, go_sem, b0, b1]
      | false =>
        rw [hzt, if_neg (by decide)] at HP hX
        have x0 := HP.out.x0; have x1 := HP.out.x1; have f0 := HP.out.f0; have f1 := HP.out.f1; have r0 := HP.out.r0; have r1 := HP.out.r1; have s0 := HP.out.s0; have s1 := HP.out.s1
        by_cases hb0' : byteAt s j = 0
        · rw [if_neg (by rw [hb0']; decide)] at hX
          subst hX
          have hbb : (((s[j].toNat : Nat) : Int) != 0) = false := by rw [byteAt_get s _ hlm, hb0']; rfl
          go_upto_region 18 with (fail)
          have hsl := HSL.out
          go_region
          all_goals go_wp2
          all_goals
            refine bodyPost_ret (v := .tuple #[.string (s.extract 0 j), .agg #[.int .i64 A2, .int .i64 0]]) ?_ rfl ⟨_, _, rfl, (by first | exact fun _ => ⟨rfl, rfl⟩ | exact ⟨rfl, rfl⟩), (HP.out.fin _ _).drew⟩
            have b0 := HP.out.out0 A2 0
            have b1 := HP.out.out1 A2 0
            simp [results, Tryz.results49, asAddr, go_sem, b0, b1]
        · rw [if_pos hb0'] at hX
          subst hX
          have HNE := Lib.hid (show (1 : Int) ≠ 0 by decide)
          have hbb : (((s[j].toNat : Nat) : Int) != 0) = true := by rw [byteAt_get s _ hlm]; simpa using hb0'
          go_upto_region 18 with (go_at_call 87; refine (rfail_set A2 1 _).mono ?_; rintro e w5 ⟨rfl, hb5⟩; have HG5 := Lib.hid (HP.out.step hb5); clear x0 x1 f0 f1 r0 r1 s0 s1; clear hb5; have x0 := HG5.out.x0; have x1 := HG5.out.x1; have f0 := HG5.out.f0; have f1 := HG5.out.f1; have r0 := HG5.out.r0; have r1 := HG5.out.r1; have s0 := HG5.out.s0; have s1 := HG5.out.s1; have HS5 := Lib.hid (HG5.out.set A2 1))
          clear x0 x1 f0 f1 r0 r1 s0 s1
          generalize (w5.setCell ⟨w.heap.size, 0, none⟩ (.int .i64 A2)).setCell ⟨w.heap.size, 1, none⟩ (.int .i64 1) = WF at *
          have x0 := HS5.out.x0; have x1 := HS5.out.x1; have f0 := HS5.out.f0; have f1 := HS5.out.f1; have r0 := HS5.out.r0; have r1 := HS5.out.r1; have s0 := HS5.out.s0; have s1 := HS5.out.s1
          have hsl := HSL.out
          go_region
          all_goals go_wp2
          all_goals
            refine bodyPost_ret (v := .tuple #[.string (s.extract 0 j), .agg #[.int .i64 A2, .int .i64 1]]) ?_ rfl ⟨_, _, rfl, fun hx => absurd hx HNE.out, (HS5.out.fin _ _).drew⟩
            have b0 := HS5.out.out0 A2 1
            have b1 := HS5.out.out1 A2 1
            simp [results, Tryz.results49, asAddr, go_sem, b0, b1]
theorem rtextR_any (bound : Int) (hb0 : 0 ≤ bound) (hb1 : bound ≤ 64) (b : ByteArray) (a : Nat) (ha : a ≤ b.size) (hs : b.size ≤ 281474976710656) (w : World) : Calls Tryz.prog 49 #[.int .i64 bound, .string b, .agg #[.int .i64 (a : Nat), .int .i64 0]] w (TxTo bound b a w) := by
  by_cases c0 : tkE b a 4 = 0
  · by_cases c1 : tkN b a 4 = 0
    · exact rtextR_1 bound hb0 hb1 b a ha hs w c0 c1
    · by_cases c2 : bound + 1 < tkN b a 4
      · exact rtextR_2 bound hb0 hb1 b a ha hs w c0 c1 c2
      · by_cases c3 : txE b (tkA b a 4) (tkN b a 4) = 0
        · exact rtextR_4 bound hb0 hb1 b a ha hs w c0 c1 c2 c3
        · exact rtextR_3 bound hb0 hb1 b a ha hs w c0 c1 c2 c3
  · exact rtextR_0 bound hb0 hb1 b a ha hs w c0
end Go.Proofs.YtmnemddagcfjgaaGreatDoor
namespace Go.Proofs.YtmnemddagcfjgaaGreatDoor
open Go.RowKit
set_option linter.unusedVariables false
theorem TypeAt.items {w : World} {ao : Option Addr} {i : Nat} {T : TypeV} (h : TypeAt w ao i T) : ItemsAt w T := by
  obtain ⟨_, _, _, _, _, _, _, _, _, _, hi⟩ := h
  exact hi
theorem GSt.far {w wx wy : World} {A E : Int} (h : GSt w A E wx) (hb : Below (w.heap.size + 1 + 1) wx wy) : GSt w A E wy :=
  ⟨(hb.block _ (by omega)).trans h.1, (hb.block _ (by omega)).trans h.2.1, h.2.2.trans (hb.mono (by omega))⟩
def PtRes (N : Int) (P : List Int) (A E : Int) (w : World) (e : Ending) (w' : World) : Prop :=
  ∃ (v : Value) (n' A' : Int) (l : List Int), e = .returned (.tuple #[.int .u64 n', v, .agg #[.int .i64 A', .int .i64 E]]) ∧ w'.ownsRow w.heap.size 3 1 v l.length (l.map (Value.int .i64)) ∧ Below w.heap.size w w' ∧ (E = 0 → n' = N ∧ l = P ∧ A' = A)
theorem pt_end {w W3 wr : World} {T : TypeV} {v : Value} {l : List Int} {A E : Int} (hP : PSt (w.heap.size + 1 + 1) T W3 v l wr) (hG : GSt w A E wr) (A' E' : Int) :
    (((wr.setCell ⟨w.heap.size + 1, 0, none⟩ (.int .i64 A')).setCell ⟨w.heap.size + 1, 1, none⟩ (.int .i64 E')).drew).ownsRow w.heap.size 3 1 v l.length (l.map (Value.int .i64)) ∧ Below w.heap.size w ((wr.setCell ⟨w.heap.size + 1, 0, none⟩ (.int .i64 A')).setCell ⟨w.heap.size + 1, 1, none⟩ (.int .i64 E')).drew := by
  refine ⟨?_, (hG.fin A' E').drew⟩
  have ho : Only (fun k => k = w.heap.size + 1) wr ((wr.setCell ⟨w.heap.size + 1, 0, none⟩ (.int .i64 A')).setCell ⟨w.heap.size + 1, 1, none⟩ (.int .i64 E')).drew := (((Only.refl (fun k => k = w.heap.size + 1) wr).setCell (p := ⟨w.heap.size + 1, 0, none⟩) (.inl rfl) _).setCell (p := ⟨w.heap.size + 1, 1, none⟩) (.inl rfl) _).drew
  exact Joins.ownsRow_le (ho.row hP.1 (fun k hk e => by have := (hP.1.lt k hk).1; omega)) (by omega)
set_option maxRecDepth 100000 in
set_option maxHeartbeats 4000000 in
theorem partsR_12 (ao : Option Addr) (len cap : Nat) (t : Nat) (ht : t < len) (T : TypeV) (b : ByteArray) (a : Nat) (w : World) (HT : TypeAt w ao t T) (hk : T.kind = 12) (m : Nat) (hbd : T.bound = (m : Nat)) (hm : m ≤ 64) :
    Calls Tryz.prog 50 #[.slice ao len cap, .int .i64 t, .string b, .agg #[.int .i64 (a : Nat), .int .i64 0]] w (PtRes 0 (List.replicate m T.of) (a : Nat) 0 w) := by
  have HBD := Lib.hid hbd
  have hwb : IntKind.u64.wrap T.bound = (m : Int) := by rw [hbd]; exact IntWalk.u64_in _ (by omega)
  clear hbd
  have HIT := Lib.hid (fun wx (hb : Below w.heap.size w wx) => HT.held hb)
  obtain ⟨tb, off, rfl, c0, c1, c2, c3, c4, c5, wf, hi⟩ := HT
  obtain ⟨i0, hi0, hz0, hz1, hz2⟩ := info_parts infoInt
  have HS0 := GSt.start w (a : Nat) 0
  obtain ⟨g1, g2, g3, g4⟩ := three_at w (gO (a : Nat) 0) (gO 0 0) (typO T)
  have HG := Lib.hid (show GSt w (a : Nat) 0 (((w.alloc (gO (a : Nat) 0)).alloc (gO 0 0)).alloc (typO T)) from HS0.step ((Below.refl _ _).alloc (Nat.le_refl _) _))
  have HY := Lib.hid g3
  have c0 := keep HS0.2.2 c0
  have c1 := keep HS0.2.2 c1
  have c2 := keep HS0.2.2 c2
  have c3 := keep HS0.2.2 c3
  have c4 := keep HS0.2.2 c4
  have c5 := keep HS0.2.2 c5
  have hil := hi.1
  have ne1 : ¬ w.heap.size + 1 = w.heap.size := by omega
  have ne2 : ¬ w.heap.size + 1 + 1 = w.heap.size := by omega
  have ne3 : ¬ w.heap.size + 1 + 1 = w.heap.size + 1 := by omega
  unfold typO at HG HY
  have k11 : (T.kind == 11) = false := by rw [hk]; decide
  have k12 : (T.kind == 12) = true := by rw [hk]; decide
  clear g1 g2 g3 g4 hk wf hi HS0
  go_enter Tryz.func50, Tryz.ntmps50
  go_upto_region 5 with (fail)
  clear c0 c1 c2 c3 c4 c5
  generalize (((w.alloc (gO (a : Nat) 0)).alloc (gO 0 0)).alloc (.cells #[.int .i64 T.kind, .string T.name, .int .i64 T.bound, .int .i64 T.of, .int .i64 T.tag, .slice T.ia T.ilen T.icap] 45)) = W at *
  have x0 := HG.out.x0; have x1 := HG.out.x1; have f0 := HG.out.f0; have f1 := HG.out.f1; have r0 := HG.out.r0; have r1 := HG.out.r1; have s0 := HG.out.s0; have s1 := HG.out.s1
  have y0 := cell_at (j := 0) HY.out rfl; have y2 := cell_at (j := 2) HY.out rfl; have y3 := cell_at (j := 3) HY.out rfl; have y4 := cell_at (j := 4) HY.out rfl; have y5 := cell_at (j := 5) HY.out rfl
  have HYW := Lib.hid HY.out
  have HP0 := Lib.hid (show PSt (w.heap.size + 1 + 1) T W (.slice none 0 0) (List.replicate 0 T.of) W from ⟨World.ownsRow_nil _ _ _ _, (by unfold typO; exact HYW.out), Below.refl _ _⟩)
  go_wp2
  clear x0 x1 f0 f1 r0 r1 s0 s1; clear y0 y2 y3 y4 y5
  go_loopw [12, 14] (fun v i wr => ∃ j : Nat, j ≤ m ∧ i = .int .u64 j ∧ Hid (PSt (w.heap.size + 1 + 1) T W v (List.replicate j T.of) wr)) (fun _ i _ => m - (intOf i).toNat)
  case atStart => exact ⟨0, Nat.zero_le _, rfl, HP0⟩
  case round =>
    obtain ⟨j, hj, rfl, HP⟩ := hrel
    have HG9 := Lib.hid (HG.out.far HP.out.2.2)
    have HY9 := Lib.hid HP.out.2.1
    unfold typO at HY9
    have x0 := HG9.out.x0; have x1 := HG9.out.x1; have f0 := HG9.out.f0; have f1 := HG9.out.f1; have r0 := HG9.out.r0; have r1 := HG9.out.r1; have s0 := HG9.out.s0; have s1 := HG9.out.s1
    have y0 := cell_at (j := 0) HY9.out rfl; have y2 := cell_at (j := 2) HY9.out rfl; have y3 := cell_at (j := 3) HY9.out rfl; have y4 := cell_at (j := 4) HY9.out rfl; have y5 := cell_at (j := 5) HY9.out rfl
    have hjw : IntKind.u64.wrap ((j : Int) + 1) = (j : Int) + 1 := IntWalk.u64_in _ (by omega)
    by_cases hlt : j < m
    · have hln : (List.replicate j T.of).length ≤ 3518437208782 := by rw [List.length_replicate]; omega
      have HT2 := Lib.hid (show List.replicate (j + 1) T.of = List.replicate j T.of ++ [T.of] from List.replicate_succ')
      have hszo : w.heap.size + 1 + 1 < wr.heap.size := (Array.getElem?_eq_some_iff.mp HY9.out).1
      obtain ⟨wo, rfl⟩ : ∃ wo : World, wo = wr := ⟨_, rfl⟩
      go_wp2_with (at_builtin; refine wpList_append_at rfl (.tmp 55) (.tmp 58) 104 rfl (w.heap.size + 1 + 1 + 1) 3 i0 (.int .i64 0) 1 8 Tryz.underlying104 hi0 hz0 hz1 hz2 rfl (by decide) _ _ _ rfl (HP.out.1.alloc _) ⟨_, 0, none⟩ 1 1 [.int .i64 T.of] rfl rfl (fun j u hj => by match j, hj with | 0, hj => (simp at hj; subst hj; simp [Addr.add])) (fun u hu => by (simp at hu; subst hu; rfl)) (by unfold maxLen; omega) (by omega) (by simp <;> omega) ?_; intro v2 w2 hown2 hg2 hf2; have HQ2 := Lib.hid (HP.out.next (x := T.of) (by simpa using hown2) hg2); clear hown2 hg2 hf2)
      go_wp2
      go_roundw
      case rel => first
        | exact ⟨j + 1, by omega, by go_num, (by rw [HT2.out]; exact HQ2)⟩
        | exact ⟨_, _, _, _, _, _, _, _, _, _, _, _, _, _, _, _, _, ⟨j + 1, by omega, by go_num, (by rw [HT2.out]; exact HQ2)⟩, rfl⟩
      case measure => simp [intOf]; omega
    · obtain rfl : j = m := by omega
      go_upto_region 15 with (fail)
      go_region
      all_goals go_wp2
      all_goals
        have hend := pt_end HP.out HG9.out ((a : Nat)) (0)
        refine bodyPost_ret (v := .tuple #[.int .u64 0, u12, .agg #[.int .i64 (a : Nat), .int .i64 0]]) ?_ rfl ⟨_, _, _, _, rfl, hend.1, hend.2, (by first | exact fun _ => ⟨rfl, rfl, rfl⟩ | exact ⟨rfl, rfl, rfl⟩)⟩
        have b0 := HG9.out.out0 ((a : Nat)) (0)
        have b1 := HG9.out.out1 ((a : Nat)) (0)
        simp [results, Tryz.results50, asAddr, go_sem, b0, b1]
set_option maxRecDepth 100000 in
set_option maxHeartbeats 4000000 in
theorem partsR_11 (ao : Option Addr) (len cap : Nat) (t : Nat) (ht : t < len) (T : TypeV) (b : ByteArray) (a : Nat) (w : World) (HT : TypeAt w ao t T) (ha : a ≤ b.size) (hs : b.size ≤ 281474976710656) (hk : T.kind = 11) (m : Nat) (hbd : T.bound = (m : Nat)) (hm : m ≤ 64) (N : Nat) (h0 : tkE b a 4 = 0) (hN : tkN b a 4 = (N : Nat)) (hNm : N ≤ m) :
    Calls Tryz.prog 50 #[.slice ao len cap, .int .i64 t, .string b, .agg #[.int .i64 (a : Nat), .int .i64 0]] w (PtRes 0 (List.replicate N T.of) (tkA b a 4 : Nat) 0 w) := by
  have hta := fun wx => refBTake_any b a 4 ha hs wx
  rw [h0, hN] at hta
  obtain ⟨A, hA⟩ : ∃ A, ((tkA b a 4 : Nat) : Int) = A := ⟨_, rfl⟩
  rw [hA] at hta ⊢
  have HTA := Lib.hid hta
  have hwb : IntKind.u64.wrap T.bound = (m : Int) := by rw [hbd]; exact IntWalk.u64_in _ (by omega)
  have d3 : decide ((m : Int) < (N : Int)) = false := decide_eq_false (by omega)
  have d3n : decide (m < N) = false := decide_eq_false (by omega)
  clear hta hA h0 hN hbd
  have HIT := Lib.hid (fun wx (hb : Below w.heap.size w wx) => HT.held hb)
  obtain ⟨tb, off, rfl, c0, c1, c2, c3, c4, c5, wf, hi⟩ := HT
  obtain ⟨i0, hi0, hz0, hz1, hz2⟩ := info_parts infoInt
  have HS0 := GSt.start w (a : Nat) 0
  obtain ⟨g1, g2, g3, g4⟩ := three_at w (gO (a : Nat) 0) (gO 0 0) (typO T)
  have HG := Lib.hid (show GSt w (a : Nat) 0 (((w.alloc (gO (a : Nat) 0)).alloc (gO 0 0)).alloc (typO T)) from HS0.step ((Below.refl _ _).alloc (Nat.le_refl _) _))
  have HY := Lib.hid g3
  have c0 := keep HS0.2.2 c0
  have c1 := keep HS0.2.2 c1
  have c2 := keep HS0.2.2 c2
  have c3 := keep HS0.2.2 c3
  have c4 := keep HS0.2.2 c4
  have c5 := keep HS0.2.2 c5
  have hil := hi.1
  have ne1 : ¬ w.heap.size + 1 = w.heap.size := by omega
  have ne2 : ¬ w.heap.size + 1 + 1 = w.heap.size := by omega
  have ne3 : ¬ w.heap.size + 1 + 1 = w.heap.size + 1 := by omega
  unfold typO at HG HY
  have k11 : (T.kind == 11) = true := by rw [hk]; decide
  clear g1 g2 g3 g4 hk wf hi HS0
  go_enter Tryz.func50, Tryz.ntmps50
  go_upto_region 5 with (fail)
  clear c0 c1 c2 c3 c4 c5
  generalize (((w.alloc (gO (a : Nat) 0)).alloc (gO 0 0)).alloc (.cells #[.int .i64 T.kind, .string T.name, .int .i64 T.bound, .int .i64 T.of, .int .i64 T.tag, .slice T.ia T.ilen T.icap] 45)) = W at *
  have x0 := HG.out.x0; have x1 := HG.out.x1; have f0 := HG.out.f0; have f1 := HG.out.f1; have r0 := HG.out.r0; have r1 := HG.out.r1; have s0 := HG.out.s0; have s1 := HG.out.s1
  have y0 := cell_at (j := 0) HY.out rfl; have y2 := cell_at (j := 2) HY.out rfl; have y3 := cell_at (j := 3) HY.out rfl; have y4 := cell_at (j := 4) HY.out rfl; have y5 := cell_at (j := 5) HY.out rfl
  go_upto_region 11 with (go_at_call 82; refine (HTA.out _).mono ?_; rintro e w1 ⟨rfl, hb1⟩; have HG1 := Lib.hid (HG.out.step hb1); have HY1 := Lib.hid (box_keep HY.out hb1); clear x0 x1 f0 f1 r0 r1 s0 s1; clear y0 y2 y3 y4 y5; clear hb1; have x0 := HG1.out.x0; have x1 := HG1.out.x1; have f0 := HG1.out.f0; have f1 := HG1.out.f1; have r0 := HG1.out.r0; have r1 := HG1.out.r1; have s0 := HG1.out.s0; have s1 := HG1.out.s1; have y0 := cell_at (j := 0) HY1.out rfl; have y2 := cell_at (j := 2) HY1.out rfl; have y3 := cell_at (j := 3) HY1.out rfl; have y4 := cell_at (j := 4) HY1.out rfl; have y5 := cell_at (j := 5) HY1.out rfl; have HS1 := Lib.hid (HG1.out.set A 0); have HZ1 := Lib.hid (put_at (p := ⟨w.heap.size, 1, none⟩) (u := .int .i64 0) (put_at (p := ⟨w.heap.size, 0, none⟩) (u := .int .i64 A) HY1.out ne2) ne2))
  clear x0 x1 f0 f1 r0 r1 s0 s1; clear y0 y2 y3 y4 y5
  generalize (w1.setCell ⟨w.heap.size, 0, none⟩ (.int .i64 A)).setCell ⟨w.heap.size, 1, none⟩ (.int .i64 0) = W3 at *
  have x0 := HS1.out.x0; have x1 := HS1.out.x1; have f0 := HS1.out.f0; have f1 := HS1.out.f1; have r0 := HS1.out.r0; have r1 := HS1.out.r1; have s0 := HS1.out.s0; have s1 := HS1.out.s1
  have y0 := cell_at (j := 0) HZ1.out rfl; have y2 := cell_at (j := 2) HZ1.out rfl; have y3 := cell_at (j := 3) HZ1.out rfl; have y4 := cell_at (j := 4) HZ1.out rfl; have y5 := cell_at (j := 5) HZ1.out rfl
  have HYW := Lib.hid HZ1.out
  have HP0 := Lib.hid (show PSt (w.heap.size + 1 + 1) T W3 (.slice none 0 0) (List.replicate 0 T.of) W3 from ⟨World.ownsRow_nil _ _ _ _, (by unfold typO; exact HYW.out), Below.refl _ _⟩)
  go_wp2
  clear x0 x1 f0 f1 r0 r1 s0 s1; clear y0 y2 y3 y4 y5
  go_loopw [12, 14] (fun v i wr => ∃ j : Nat, j ≤ N ∧ i = .int .u64 j ∧ Hid (PSt (w.heap.size + 1 + 1) T W3 v (List.replicate j T.of) wr)) (fun _ i _ => N - (intOf i).toNat)
  case atStart => exact ⟨0, Nat.zero_le _, rfl, HP0⟩
  case round =>
    obtain ⟨j, hj, rfl, HP⟩ := hrel
    have HG9 := Lib.hid (HS1.out.far HP.out.2.2)
    have HY9 := Lib.hid HP.out.2.1
    unfold typO at HY9
    have x0 := HG9.out.x0; have x1 := HG9.out.x1; have f0 := HG9.out.f0; have f1 := HG9.out.f1; have r0 := HG9.out.r0; have r1 := HG9.out.r1; have s0 := HG9.out.s0; have s1 := HG9.out.s1
    have y0 := cell_at (j := 0) HY9.out rfl; have y2 := cell_at (j := 2) HY9.out rfl; have y3 := cell_at (j := 3) HY9.out rfl; have y4 := cell_at (j := 4) HY9.out rfl; have y5 := cell_at (j := 5) HY9.out rfl
    have hjw : IntKind.u64.wrap ((j : Int) + 1) = (j : Int) + 1 := IntWalk.u64_in _ (by omega)
    by_cases hlt : j < N
    · have hln : (List.replicate j T.of).length ≤ 3518437208782 := by rw [List.length_replicate]; omega
      have HT2 := Lib.hid (show List.replicate (j + 1) T.of = List.replicate j T.of ++ [T.of] from List.replicate_succ')
      have hszo : w.heap.size + 1 + 1 < wr.heap.size := (Array.getElem?_eq_some_iff.mp HY9.out).1
      obtain ⟨wo, rfl⟩ : ∃ wo : World, wo = wr := ⟨_, rfl⟩
      go_wp2_with (at_builtin; refine wpList_append_at rfl (.tmp 55) (.tmp 58) 104 rfl (w.heap.size + 1 + 1 + 1) 3 i0 (.int .i64 0) 1 8 Tryz.underlying104 hi0 hz0 hz1 hz2 rfl (by decide) _ _ _ rfl (HP.out.1.alloc _) ⟨_, 0, none⟩ 1 1 [.int .i64 T.of] rfl rfl (fun j u hj => by match j, hj with | 0, hj => (simp at hj; subst hj; simp [Addr.add])) (fun u hu => by (simp at hu; subst hu; rfl)) (by unfold maxLen; omega) (by omega) (by simp <;> omega) ?_; intro v2 w2 hown2 hg2 hf2; have HQ2 := Lib.hid (HP.out.next (x := T.of) (by simpa using hown2) hg2); clear hown2 hg2 hf2)
      go_wp2
      go_roundw
      case rel => first
        | exact ⟨j + 1, by omega, by go_num, (by rw [HT2.out]; exact HQ2)⟩
        | exact ⟨_, _, _, _, _, _, _, _, _, _, _, _, _, _, _, _, _, ⟨j + 1, by omega, by go_num, (by rw [HT2.out]; exact HQ2)⟩, rfl⟩
      case measure => simp [intOf]; omega
    · obtain rfl : j = N := by omega
      go_upto_region 15 with (fail)
      go_region
      all_goals go_wp2
      all_goals
        have hend := pt_end HP.out HG9.out (A) (0)
        refine bodyPost_ret (v := .tuple #[.int .u64 0, u12, .agg #[.int .i64 A, .int .i64 0]]) ?_ rfl ⟨_, _, _, _, rfl, hend.1, hend.2, (by first | exact fun _ => ⟨rfl, rfl, rfl⟩ | exact ⟨rfl, rfl, rfl⟩)⟩
        have b0 := HG9.out.out0 (A) (0)
        have b1 := HG9.out.out1 (A) (0)
        simp [results, Tryz.results50, asAddr, go_sem, b0, b1]
set_option maxRecDepth 100000 in
set_option maxHeartbeats 4000000 in
theorem partsR_11b (ao : Option Addr) (len cap : Nat) (t : Nat) (ht : t < len) (T : TypeV) (b : ByteArray) (a : Nat) (w : World) (HT : TypeAt w ao t T) (ha : a ≤ b.size) (hs : b.size ≤ 281474976710656) (hk : T.kind = 11) (m : Nat) (hbd : T.bound = (m : Nat)) (hm : m ≤ 64) (h0 : tkE b a 4 ≠ 0) :
    Calls Tryz.prog 50 #[.slice ao len cap, .int .i64 t, .string b, .agg #[.int .i64 (a : Nat), .int .i64 0]] w (PtRes 0 [] 0 (tkE b a 4) w) := by
  have hta := fun wx => refBTake_any b a 4 ha hs wx
  rw [(tk_bad h0).1] at hta
  obtain ⟨A, hA⟩ : ∃ A, ((tkA b a 4 : Nat) : Int) = A := ⟨_, rfl⟩
  obtain ⟨E, hE⟩ : ∃ E, tkE b a 4 = E := ⟨_, rfl⟩
  rw [hA, hE] at hta
  rw [hE] at h0 ⊢
  have HTA := Lib.hid hta
  have HNE := Lib.hid h0
  have hne : (E == 0) = false := by simpa using h0
  have d3 : decide ((m : Int) < 0) = false := decide_eq_false (by omega)
  clear hta hA hE h0
  have hwb : IntKind.u64.wrap T.bound = (m : Int) := by rw [hbd]; exact IntWalk.u64_in _ (by omega)
  clear hbd
  have HIT := Lib.hid (fun wx (hb : Below w.heap.size w wx) => HT.held hb)
  obtain ⟨tb, off, rfl, c0, c1, c2, c3, c4, c5, wf, hi⟩ := HT
  obtain ⟨i0, hi0, hz0, hz1, hz2⟩ := info_parts infoInt
  have HS0 := GSt.start w (a : Nat) 0
  obtain ⟨g1, g2, g3, g4⟩ := three_at w (gO (a : Nat) 0) (gO 0 0) (typO T)
  have HG := Lib.hid (show GSt w (a : Nat) 0 (((w.alloc (gO (a : Nat) 0)).alloc (gO 0 0)).alloc (typO T)) from HS0.step ((Below.refl _ _).alloc (Nat.le_refl _) _))
  have HY := Lib.hid g3
  have c0 := keep HS0.2.2 c0
  have c1 := keep HS0.2.2 c1
  have c2 := keep HS0.2.2 c2
  have c3 := keep HS0.2.2 c3
  have c4 := keep HS0.2.2 c4
  have c5 := keep HS0.2.2 c5
  have hil := hi.1
  have ne1 : ¬ w.heap.size + 1 = w.heap.size := by omega
  have ne2 : ¬ w.heap.size + 1 + 1 = w.heap.size := by omega
  have ne3 : ¬ w.heap.size + 1 + 1 = w.heap.size + 1 := by omega
  unfold typO at HG HY
  have k11 : (T.kind == 11) = true := by rw [hk]; decide
  clear g1 g2 g3 g4 hk wf hi HS0
  go_enter Tryz.func50, Tryz.ntmps50
  go_upto_region 5 with (fail)
  clear c0 c1 c2 c3 c4 c5
  generalize (((w.alloc (gO (a : Nat) 0)).alloc (gO 0 0)).alloc (.cells #[.int .i64 T.kind, .string T.name, .int .i64 T.bound, .int .i64 T.of, .int .i64 T.tag, .slice T.ia T.ilen T.icap] 45)) = W at *
  have x0 := HG.out.x0; have x1 := HG.out.x1; have f0 := HG.out.f0; have f1 := HG.out.f1; have r0 := HG.out.r0; have r1 := HG.out.r1; have s0 := HG.out.s0; have s1 := HG.out.s1
  have y0 := cell_at (j := 0) HY.out rfl; have y2 := cell_at (j := 2) HY.out rfl; have y3 := cell_at (j := 3) HY.out rfl; have y4 := cell_at (j := 4) HY.out rfl; have y5 := cell_at (j := 5) HY.out rfl
  go_upto_region 11 with (go_at_call 82; refine (HTA.out _).mono ?_; rintro e w1 ⟨rfl, hb1⟩; have HG1 := Lib.hid (HG.out.step hb1); have HY1 := Lib.hid (box_keep HY.out hb1); clear x0 x1 f0 f1 r0 r1 s0 s1; clear y0 y2 y3 y4 y5; clear hb1; have x0 := HG1.out.x0; have x1 := HG1.out.x1; have f0 := HG1.out.f0; have f1 := HG1.out.f1; have r0 := HG1.out.r0; have r1 := HG1.out.r1; have s0 := HG1.out.s0; have s1 := HG1.out.s1; have y0 := cell_at (j := 0) HY1.out rfl; have y2 := cell_at (j := 2) HY1.out rfl; have y3 := cell_at (j := 3) HY1.out rfl; have y4 := cell_at (j := 4) HY1.out rfl; have y5 := cell_at (j := 5) HY1.out rfl; have HS1 := Lib.hid (HG1.out.set A E); have HZ1 := Lib.hid (put_at (p := ⟨w.heap.size, 1, none⟩) (u := .int .i64 E) (put_at (p := ⟨w.heap.size, 0, none⟩) (u := .int .i64 A) HY1.out ne2) ne2))
  clear x0 x1 f0 f1 r0 r1 s0 s1; clear y0 y2 y3 y4 y5
  generalize (w1.setCell ⟨w.heap.size, 0, none⟩ (.int .i64 A)).setCell ⟨w.heap.size, 1, none⟩ (.int .i64 E) = W3 at *
  have x0 := HS1.out.x0; have x1 := HS1.out.x1; have f0 := HS1.out.f0; have f1 := HS1.out.f1; have r0 := HS1.out.r0; have r1 := HS1.out.r1; have s0 := HS1.out.s0; have s1 := HS1.out.s1
  have y0 := cell_at (j := 0) HZ1.out rfl; have y2 := cell_at (j := 2) HZ1.out rfl; have y3 := cell_at (j := 3) HZ1.out rfl; have y4 := cell_at (j := 4) HZ1.out rfl; have y5 := cell_at (j := 5) HZ1.out rfl
  have HP := Lib.hid (show PSt (w.heap.size + 1 + 1) T W3 (.slice none 0 0) [] W3 from ⟨World.ownsRow_nil _ _ _ _, (by unfold typO; exact HZ1.out), Below.refl _ _⟩)
  go_wp2
  go_loopw [12, 14] (fun v i wr => v = .slice none 0 0 ∧ i = .int .u64 0 ∧ wr = W3) (fun _ _ _ => 0)
  case atStart => exact ⟨rfl, rfl, rfl⟩
  case round =>
    obtain ⟨rfl, rfl, rfl⟩ := hrel
    go_upto_region 15 with (fail)
    go_region
    all_goals go_wp2
    all_goals
      have hend := pt_end HP.out HS1.out (A) (E)
      refine bodyPost_ret (v := .tuple #[.int .u64 0, .slice none 0 0, .agg #[.int .i64 A, .int .i64 E]]) ?_ rfl ⟨_, _, _, _, rfl, hend.1, hend.2, (by first | exact fun hx => absurd hx HNE.out | exact absurd rfl HNE.out)⟩
      have b0 := HS1.out.out0 (A) (E)
      have b1 := HS1.out.out1 (A) (E)
      simp [results, Tryz.results50, asAddr, go_sem, b0, b1]
set_option maxRecDepth 100000 in
set_option maxHeartbeats 4000000 in
theorem partsR_11c (ao : Option Addr) (len cap : Nat) (t : Nat) (ht : t < len) (T : TypeV) (b : ByteArray) (a : Nat) (w : World) (HT : TypeAt w ao t T) (ha : a ≤ b.size) (hs : b.size ≤ 281474976710656) (hk : T.kind = 11) (m : Nat) (hbd : T.bound = (m : Nat)) (hm : m ≤ 64) (h0 : tkE b a 4 = 0) (h1 : (m : Int) < tkN b a 4) :
    Calls Tryz.prog 50 #[.slice ao len cap, .int .i64 t, .string b, .agg #[.int .i64 (a : Nat), .int .i64 0]] w (PtRes 0 [] 0 3 w) := by
  have hta := fun wx => refBTake_any b a 4 ha hs wx
  rw [h0] at hta
  obtain ⟨A, hA⟩ : ∃ A, ((tkA b a 4 : Nat) : Int) = A := ⟨_, rfl⟩
  obtain ⟨N, hN⟩ : ∃ N, tkN b a 4 = N := ⟨_, rfl⟩
  rw [hA, hN] at hta
  rw [hN] at h1
  have HTA := Lib.hid hta
  have HFL := Lib.hid (fun wx => rfail_set A 3 wx)
  have HNE := Lib.hid (show (3 : Int) ≠ 0 by decide)
  have d3 : decide ((m : Int) < N) = true := decide_eq_true h1
  have d0 : decide ((0 : Int) < N) = true := decide_eq_true (by omega)
  have h30 : ((3 : Int) == 0) = false := by decide
  have N0 : (0 : Int) < N := by omega
  clear hta hA hN h0
  have hwb : IntKind.u64.wrap T.bound = (m : Int) := by rw [hbd]; exact IntWalk.u64_in _ (by omega)
  clear hbd
  have HIT := Lib.hid (fun wx (hb : Below w.heap.size w wx) => HT.held hb)
  obtain ⟨tb, off, rfl, c0, c1, c2, c3, c4, c5, wf, hi⟩ := HT
  obtain ⟨i0, hi0, hz0, hz1, hz2⟩ := info_parts infoInt
  have HS0 := GSt.start w (a : Nat) 0
  obtain ⟨g1, g2, g3, g4⟩ := three_at w (gO (a : Nat) 0) (gO 0 0) (typO T)
  have HG := Lib.hid (show GSt w (a : Nat) 0 (((w.alloc (gO (a : Nat) 0)).alloc (gO 0 0)).alloc (typO T)) from HS0.step ((Below.refl _ _).alloc (Nat.le_refl _) _))
  have HY := Lib.hid g3
  have c0 := keep HS0.2.2 c0
  have c1 := keep HS0.2.2 c1
  have c2 := keep HS0.2.2 c2
  have c3 := keep HS0.2.2 c3
  have c4 := keep HS0.2.2 c4
  have c5 := keep HS0.2.2 c5
  have hil := hi.1
  have ne1 : ¬ w.heap.size + 1 = w.heap.size := by omega
  have ne2 : ¬ w.heap.size + 1 + 1 = w.heap.size := by omega
  have ne3 : ¬ w.heap.size + 1 + 1 = w.heap.size + 1 := by omega
  unfold typO at HG HY
  have k11 : (T.kind == 11) = true := by rw [hk]; decide
  clear g1 g2 g3 g4 hk wf hi HS0
  go_enter Tryz.func50, Tryz.ntmps50
  go_upto_region 5 with (fail)
  clear c0 c1 c2 c3 c4 c5
  generalize (((w.alloc (gO (a : Nat) 0)).alloc (gO 0 0)).alloc (.cells #[.int .i64 T.kind, .string T.name, .int .i64 T.bound, .int .i64 T.of, .int .i64 T.tag, .slice T.ia T.ilen T.icap] 45)) = W at *
  have x0 := HG.out.x0; have x1 := HG.out.x1; have f0 := HG.out.f0; have f1 := HG.out.f1; have r0 := HG.out.r0; have r1 := HG.out.r1; have s0 := HG.out.s0; have s1 := HG.out.s1
  have y0 := cell_at (j := 0) HY.out rfl; have y2 := cell_at (j := 2) HY.out rfl; have y3 := cell_at (j := 3) HY.out rfl; have y4 := cell_at (j := 4) HY.out rfl; have y5 := cell_at (j := 5) HY.out rfl
  go_upto_region 11 with (first
    | (go_at_call 82; refine (HTA.out _).mono ?_; rintro e w1 ⟨rfl, hb1⟩; have HG1 := Lib.hid (HG.out.step hb1); have HY1 := Lib.hid (box_keep HY.out hb1); clear x0 x1 f0 f1 r0 r1 s0 s1; clear y0 y2 y3 y4 y5; clear hb1; have x0 := HG1.out.x0; have x1 := HG1.out.x1; have f0 := HG1.out.f0; have f1 := HG1.out.f1; have r0 := HG1.out.r0; have r1 := HG1.out.r1; have s0 := HG1.out.s0; have s1 := HG1.out.s1; have y0 := cell_at (j := 0) HY1.out rfl; have y2 := cell_at (j := 2) HY1.out rfl; have y3 := cell_at (j := 3) HY1.out rfl; have y4 := cell_at (j := 4) HY1.out rfl; have y5 := cell_at (j := 5) HY1.out rfl; have HS1 := Lib.hid (HG1.out.set A 0); have HZ1 := Lib.hid (put_at (p := ⟨w.heap.size, 1, none⟩) (u := .int .i64 0) (put_at (p := ⟨w.heap.size, 0, none⟩) (u := .int .i64 A) HY1.out ne2) ne2))
    | (go_at_call 87; refine (HFL.out _).mono ?_; rintro e w2 ⟨rfl, hb2⟩; have HG2 := Lib.hid (HS1.out.step hb2); have HY2 := Lib.hid (box_keep HZ1.out hb2); clear x0 x1 f0 f1 r0 r1 s0 s1; clear y0 y2 y3 y4 y5; clear hb2; have x0 := HG2.out.x0; have x1 := HG2.out.x1; have f0 := HG2.out.f0; have f1 := HG2.out.f1; have r0 := HG2.out.r0; have r1 := HG2.out.r1; have s0 := HG2.out.s0; have s1 := HG2.out.s1; have y0 := cell_at (j := 0) HY2.out rfl; have y2 := cell_at (j := 2) HY2.out rfl; have y3 := cell_at (j := 3) HY2.out rfl; have y4 := cell_at (j := 4) HY2.out rfl; have y5 := cell_at (j := 5) HY2.out rfl; have HS2 := Lib.hid (HG2.out.set A 3); have HZ2 := Lib.hid (put_at (p := ⟨w.heap.size, 1, none⟩) (u := .int .i64 3) (put_at (p := ⟨w.heap.size, 0, none⟩) (u := .int .i64 A) HY2.out ne2) ne2)))
  clear x0 x1 f0 f1 r0 r1 s0 s1; clear y0 y2 y3 y4 y5
  generalize (w2.setCell ⟨w.heap.size, 0, none⟩ (.int .i64 A)).setCell ⟨w.heap.size, 1, none⟩ (.int .i64 3) = W4 at *
  have x0 := HS2.out.x0; have x1 := HS2.out.x1; have f0 := HS2.out.f0; have f1 := HS2.out.f1; have r0 := HS2.out.r0; have r1 := HS2.out.r1; have s0 := HS2.out.s0; have s1 := HS2.out.s1
  have y0 := cell_at (j := 0) HZ2.out rfl; have y2 := cell_at (j := 2) HZ2.out rfl; have y3 := cell_at (j := 3) HZ2.out rfl; have y4 := cell_at (j := 4) HZ2.out rfl; have y5 := cell_at (j := 5) HZ2.out rfl
  have HP := Lib.hid (show PSt (w.heap.size + 1 + 1) T W4 (.slice none 0 0) [] W4 from ⟨World.ownsRow_nil _ _ _ _, (by unfold typO; exact HZ2.out), Below.refl _ _⟩)
  go_wp2
  go_loopw [12, 14] (fun v i wr => v = .slice none 0 0 ∧ i = .int .u64 0 ∧ wr = W4) (fun _ _ _ => 0)
  case atStart => exact ⟨rfl, rfl, rfl⟩
  case round =>
    obtain ⟨rfl, rfl, rfl⟩ := hrel
    go_upto_region 15 with (fail)
    go_region
    all_goals go_wp2
    all_goals
      have hend := pt_end HP.out HS2.out (A) (3)
      refine bodyPost_ret (v := .tuple #[.int .u64 0, .slice none 0 0, .agg #[.int .i64 A, .int .i64 3]]) ?_ rfl ⟨_, _, _, _, rfl, hend.1, hend.2, (by first | exact fun hx => absurd hx HNE.out | exact absurd rfl HNE.out)⟩
      have b0 := HS2.out.out0 (A) (3)
      have b1 := HS2.out.out1 (A) (3)
      simp [results, Tryz.results50, asAddr, go_sem, b0, b1]
set_option maxRecDepth 100000 in
set_option maxHeartbeats 4000000 in
theorem partsR_13 (ao : Option Addr) (len cap : Nat) (t : Nat) (ht : t < len) (T : TypeV) (b : ByteArray) (a : Nat) (w : World) (HT : TypeAt w ao t T) (hk : T.kind = 13) :
    Calls Tryz.prog 50 #[.slice ao len cap, .int .i64 t, .string b, .agg #[.int .i64 (a : Nat), .int .i64 0]] w (PtRes 0 ((List.range T.ilen).map fun j => (T.items j).type) (a : Nat) 0 w) := by
  obtain ⟨ub, hub⟩ : ∃ ub, IntKind.u64.wrap T.bound = ub := ⟨_, rfl⟩
  have HIT := Lib.hid (fun wx (hb : Below w.heap.size w wx) => HT.held hb)
  obtain ⟨tb, off, rfl, c0, c1, c2, c3, c4, c5, wf, hi⟩ := HT
  obtain ⟨i0, hi0, hz0, hz1, hz2⟩ := info_parts infoInt
  have HS0 := GSt.start w (a : Nat) 0
  obtain ⟨g1, g2, g3, g4⟩ := three_at w (gO (a : Nat) 0) (gO 0 0) (typO T)
  have HG := Lib.hid (show GSt w (a : Nat) 0 (((w.alloc (gO (a : Nat) 0)).alloc (gO 0 0)).alloc (typO T)) from HS0.step ((Below.refl _ _).alloc (Nat.le_refl _) _))
  have HY := Lib.hid g3
  have c0 := keep HS0.2.2 c0
  have c1 := keep HS0.2.2 c1
  have c2 := keep HS0.2.2 c2
  have c3 := keep HS0.2.2 c3
  have c4 := keep HS0.2.2 c4
  have c5 := keep HS0.2.2 c5
  have hil := hi.1
  have ne1 : ¬ w.heap.size + 1 = w.heap.size := by omega
  have ne2 : ¬ w.heap.size + 1 + 1 = w.heap.size := by omega
  have ne3 : ¬ w.heap.size + 1 + 1 = w.heap.size + 1 := by omega
  unfold typO at HG HY
  have k11 : (T.kind == 11) = false := by rw [hk]; decide
  have k12 : (T.kind == 12) = false := by rw [hk]; decide
  have k13 : (T.kind == 13) = true := by rw [hk]; decide
  clear g1 g2 g3 g4 hk wf hi HS0
  go_enter Tryz.func50, Tryz.ntmps50
  go_upto_region 5 with (fail)
  clear c0 c1 c2 c3 c4 c5
  generalize (((w.alloc (gO (a : Nat) 0)).alloc (gO 0 0)).alloc (.cells #[.int .i64 T.kind, .string T.name, .int .i64 T.bound, .int .i64 T.of, .int .i64 T.tag, .slice T.ia T.ilen T.icap] 45)) = W at *
  have x0 := HG.out.x0; have x1 := HG.out.x1; have f0 := HG.out.f0; have f1 := HG.out.f1; have r0 := HG.out.r0; have r1 := HG.out.r1; have s0 := HG.out.s0; have s1 := HG.out.s1
  have y0 := cell_at (j := 0) HY.out rfl; have y2 := cell_at (j := 2) HY.out rfl; have y3 := cell_at (j := 3) HY.out rfl; have y4 := cell_at (j := 4) HY.out rfl; have y5 := cell_at (j := 5) HY.out rfl
  have HYW := Lib.hid HY.out
  have HP0 := Lib.hid (show PSt (w.heap.size + 1 + 1) T W (.slice none 0 0) ((List.range 0).map fun j => (T.items j).type) W from ⟨World.ownsRow_nil _ _ _ _, (by unfold typO; exact HYW.out), Below.refl _ _⟩)
  clear y2 y3 y4
  go_wp2
  clear x0 x1 f0 f1 r0 r1 s0 s1
  clear y0 y5
  go_loopw [12, 15] (fun v i wr => ∃ j : Nat, j ≤ T.ilen ∧ i = .int .i64 j ∧ Hid (PSt (w.heap.size + 1 + 1) T W v ((List.range j).map fun j => (T.items j).type) wr)) (fun _ i _ => T.ilen - (intOf i).toNat)
  case atStart => exact ⟨0, Nat.zero_le _, rfl, HP0⟩
  case round =>
    obtain ⟨j, hj, rfl, HP⟩ := hrel
    have HG9 := Lib.hid (HG.out.far HP.out.2.2)
    have HY9 := Lib.hid HP.out.2.1
    unfold typO at HY9
    have x0 := HG9.out.x0; have x1 := HG9.out.x1; have f0 := HG9.out.f0; have f1 := HG9.out.f1; have r0 := HG9.out.r0; have r1 := HG9.out.r1; have s0 := HG9.out.s0; have s1 := HG9.out.s1
    have y0 := cell_at (j := 0) HY9.out rfl; have y2 := cell_at (j := 2) HY9.out rfl; have y3 := cell_at (j := 3) HY9.out rfl; have y4 := cell_at (j := 4) HY9.out rfl; have y5 := cell_at (j := 5) HY9.out rfl
    by_cases hlt : j < T.ilen
    · have hln : ((List.range j).map fun j => (T.items j).type).length ≤ 3518437208782 := by simp; omega
      have hit := (HIT.out wr HG9.out.2.2).items
      obtain ⟨ib, io, hia, i0', i1', i2', i3', i4', iw⟩ := hit.2 j hlt
      rw [hia] at y5
      clear hia i0' i1' i3' i4' iw hit
      have HT2 := Lib.hid (items_take T j)
      have hszo : w.heap.size + 1 + 1 < wr.heap.size := (Array.getElem?_eq_some_iff.mp HY9.out).1
      obtain ⟨wo, rfl⟩ : ∃ wo : World, wo = wr := ⟨_, rfl⟩
      go_wp2_with (at_builtin; refine wpList_append_at rfl (.tmp 71) (.tmp 78) 104 rfl (w.heap.size + 1 + 1 + 1) 3 i0 (.int .i64 0) 1 8 Tryz.underlying104 hi0 hz0 hz1 hz2 rfl (by decide) _ _ _ rfl (HP.out.1.alloc _) ⟨_, 0, none⟩ 1 1 [.int .i64 (T.items j).type] rfl rfl (fun j u hj => by match j, hj with | 0, hj => (simp at hj; subst hj; simp [Addr.add])) (fun u hu => by (simp at hu; subst hu; rfl)) (by unfold maxLen; omega) (by omega) (by simp <;> omega) ?_; intro v2 w2 hown2 hg2 hf2; have HQ2 := Lib.hid (HP.out.next (x := (T.items j).type) (by simpa using hown2) hg2); clear hown2 hg2 hf2)
      go_wp2
      go_roundw
      case rel => exact ⟨j + 1, by omega, by go_num, (by rw [HT2.out]; exact HQ2)⟩
      case measure => simp [intOf]; omega
    · obtain rfl : j = T.ilen := by omega
      go_upto_region 21 with (fail)
      go_region
      all_goals go_wp2
      all_goals
        have hend := pt_end HP.out HG9.out ((a : Nat)) (0)
        refine bodyPost_ret (v := .tuple #[.int .u64 0, u12, .agg #[.int .i64 (a : Nat), .int .i64 0]]) ?_ rfl ⟨_, _, _, _, rfl, hend.1, hend.2, (by first | exact fun _ => ⟨rfl, rfl, rfl⟩ | exact ⟨rfl, rfl, rfl⟩)⟩
        have b0 := HG9.out.out0 ((a : Nat)) (0)
        have b1 := HG9.out.out1 ((a : Nat)) (0)
        simp [results, Tryz.results50, asAddr, go_sem, b0, b1]
set_option maxRecDepth 100000 in
set_option maxHeartbeats 4000000 in
theorem partsR_14p (ao : Option Addr) (len cap : Nat) (L : Nat → TypeV) (t : Nat) (ht : t < len) (b : ByteArray) (a : Nat) (w : World) (H : ∀ i, i < len → TypeAt w ao i (L i)) (hk : (L t).kind = 14) (N A E : Int) (hnum : ∀ wx, Below w.heap.size w wx → Calls Tryz.prog 48 #[.slice ao len cap, .int .i64 (L t).tag, .string b, .agg #[.int .i64 (a : Nat), .int .i64 0]] wx fun e w' => e = .returned (.tuple #[.int .u64 N, .agg #[.int .i64 A, .int .i64 E]]) ∧ Below wx.heap.size wx w') (zn : Nat) (hzn : zn < (L t).ilen) (hbr : ∀ wx, Below w.heap.size w wx → Calls Tryz.prog 89 #[.slice ao len cap, .int .i64 (t : Nat), .int .u64 N] wx fun e w' => e = .returned (.int .i64 (zn : Int)) ∧ wx = w') :
    Calls Tryz.prog 50 #[.slice ao len cap, .int .i64 t, .string b, .agg #[.int .i64 (a : Nat), .int .i64 0]] w (PtRes N [((L t).items zn).type] A E w) := by
  have HNU := Lib.hid hnum
  have HBR := Lib.hid hbr
  have HT := H t ht
  obtain ⟨T, hT⟩ : ∃ T, L t = T := ⟨_, rfl⟩
  rw [hT] at HT hk HNU hzn ⊢
  clear hnum hbr H hT
  have HIT := Lib.hid (fun wx (hb : Below w.heap.size w wx) => HT.held hb)
  obtain ⟨tb, off, rfl, c0, c1, c2, c3, c4, c5, wf, hi⟩ := HT
  obtain ⟨i0, hi0, hz0, hz1, hz2⟩ := info_parts infoInt
  have HS0 := GSt.start w (a : Nat) 0
  obtain ⟨g1, g2, g3, g4⟩ := three_at w (gO (a : Nat) 0) (gO 0 0) (typO T)
  have HG := Lib.hid (show GSt w (a : Nat) 0 (((w.alloc (gO (a : Nat) 0)).alloc (gO 0 0)).alloc (typO T)) from HS0.step ((Below.refl _ _).alloc (Nat.le_refl _) _))
  have HY := Lib.hid g3
  have c0 := keep HS0.2.2 c0
  have c1 := keep HS0.2.2 c1
  have c2 := keep HS0.2.2 c2
  have c3 := keep HS0.2.2 c3
  have c4 := keep HS0.2.2 c4
  have c5 := keep HS0.2.2 c5
  have hil := hi.1
  have ne1 : ¬ w.heap.size + 1 = w.heap.size := by omega
  have ne2 : ¬ w.heap.size + 1 + 1 = w.heap.size := by omega
  have ne3 : ¬ w.heap.size + 1 + 1 = w.heap.size + 1 := by omega
  unfold typO at HG HY
  have k11 : (T.kind == 11) = false := by rw [hk]; decide
  have k12 : (T.kind == 12) = false := by rw [hk]; decide
  have k13 : (T.kind == 13) = false := by rw [hk]; decide
  clear g1 g2 g3 g4 hk wf hi HS0
  go_enter Tryz.func50, Tryz.ntmps50
  go_upto_region 5 with (fail)
  clear c0 c1 c2 c3 c4 c5
  generalize (((w.alloc (gO (a : Nat) 0)).alloc (gO 0 0)).alloc (.cells #[.int .i64 T.kind, .string T.name, .int .i64 T.bound, .int .i64 T.of, .int .i64 T.tag, .slice T.ia T.ilen T.icap] 45)) = W at *
  have x0 := HG.out.x0; have x1 := HG.out.x1; have f0 := HG.out.f0; have f1 := HG.out.f1; have r0 := HG.out.r0; have r1 := HG.out.r1; have s0 := HG.out.s0; have s1 := HG.out.s1
  have y0 := cell_at (j := 0) HY.out rfl; have y2 := cell_at (j := 2) HY.out rfl; have y3 := cell_at (j := 3) HY.out rfl; have y4 := cell_at (j := 4) HY.out rfl; have y5 := cell_at (j := 5) HY.out rfl
  go_upto_region 24 with (first
    | (go_at_call 48; refine (HNU.out _ HG.out.2.2).mono ?_; rintro e w1 ⟨rfl, hb1⟩; have HG1 := Lib.hid (HG.out.step hb1); have HY1 := Lib.hid (box_keep HY.out hb1); clear x0 x1 f0 f1 r0 r1 s0 s1; clear y0 y2 y3 y4 y5; clear hb1; have x0 := HG1.out.x0; have x1 := HG1.out.x1; have f0 := HG1.out.f0; have f1 := HG1.out.f1; have r0 := HG1.out.r0; have r1 := HG1.out.r1; have s0 := HG1.out.s0; have s1 := HG1.out.s1; have y0 := cell_at (j := 0) HY1.out rfl; have y2 := cell_at (j := 2) HY1.out rfl; have y3 := cell_at (j := 3) HY1.out rfl; have y4 := cell_at (j := 4) HY1.out rfl; have y5 := cell_at (j := 5) HY1.out rfl; have HS1 := Lib.hid (HG1.out.set A E); have HZ1 := Lib.hid (put_at (p := ⟨w.heap.size, 1, none⟩) (u := .int .i64 E) (put_at (p := ⟨w.heap.size, 0, none⟩) (u := .int .i64 A) HY1.out ne2) ne2))
    | (go_at_call 89; refine (HBR.out _ HS1.out.2.2).mono ?_; rintro e w2 ⟨rfl, rfl⟩))
  clear x0 x1 f0 f1 r0 r1 s0 s1; clear y0 y2 y3 y4 y5
  generalize (w1.setCell ⟨w.heap.size, 0, none⟩ (.int .i64 A)).setCell ⟨w.heap.size, 1, none⟩ (.int .i64 E) = W3 at *
  have x0 := HS1.out.x0; have x1 := HS1.out.x1; have f0 := HS1.out.f0; have f1 := HS1.out.f1; have r0 := HS1.out.r0; have r1 := HS1.out.r1; have s0 := HS1.out.s0; have s1 := HS1.out.s1
  have y0 := cell_at (j := 0) HZ1.out rfl; have y2 := cell_at (j := 2) HZ1.out rfl; have y3 := cell_at (j := 3) HZ1.out rfl; have y4 := cell_at (j := 4) HZ1.out rfl; have y5 := cell_at (j := 5) HZ1.out rfl
  have HYW := Lib.hid HZ1.out
  have HP := Lib.hid (show PSt (w.heap.size + 1 + 1) T W3 (.slice none 0 0) [] W3 from ⟨World.ownsRow_nil _ _ _ _, (by unfold typO; exact HYW.out), Below.refl _ _⟩)
  have hit := (HIT.out W3 HS1.out.2.2).items
  obtain ⟨ib, io, hia, i0', i1', i2', i3', i4', iw⟩ := hit.2 zn hzn
  rw [hia] at y5
  clear hia i0' i1' i3' i4' iw hit HYW
  have hszo : w.heap.size + 1 + 1 < W3.heap.size := (Array.getElem?_eq_some_iff.mp HZ1.out).1
  have hln : ([] : List Int).length ≤ 3518437208782 := by decide
  go_wp2_with (at_builtin; refine wpList_append_at rfl (.tmp 97) (.tmp 104) 104 rfl (w.heap.size + 1 + 1 + 1) 3 i0 (.int .i64 0) 1 8 Tryz.underlying104 hi0 hz0 hz1 hz2 rfl (by decide) _ _ _ rfl (HP.out.1.alloc _) ⟨_, 0, none⟩ 1 1 [.int .i64 (T.items zn).type] rfl rfl (fun j u hj => by match j, hj with | 0, hj => (simp at hj; subst hj; simp [Addr.add])) (fun u hu => by (simp at hu; subst hu; rfl)) (by unfold maxLen; omega) (by omega) (by simp <;> omega) ?_; intro v2 w2 hown2 hg2 hf2; have HQ2 := Lib.hid (HP.out.next (x := (T.items zn).type) (by simpa using hown2) hg2); clear hown2 hg2 hf2)
  have HG9 := Lib.hid (HS1.out.far HQ2.out.2.2)
  clear x0 x1 f0 f1 r0 r1 s0 s1
  have x0 := HG9.out.x0; have x1 := HG9.out.x1; have f0 := HG9.out.f0; have f1 := HG9.out.f1; have r0 := HG9.out.r0; have r1 := HG9.out.r1; have s0 := HG9.out.s0; have s1 := HG9.out.s1
  go_upto_region 26 with (fail)
  go_region
  all_goals go_wp2
  all_goals
    have hend := pt_end HQ2.out HG9.out (A) (E)
    refine bodyPost_ret (v := .tuple #[.int .u64 N, v2, .agg #[.int .i64 A, .int .i64 E]]) ?_ rfl ⟨_, _, _, _, rfl, hend.1, hend.2, fun _ => ⟨rfl, rfl, rfl⟩⟩
    have b0 := HG9.out.out0 (A) (E)
    have b1 := HG9.out.out1 (A) (E)
    simp [results, Tryz.results50, asAddr, go_sem, b0, b1]
set_option maxRecDepth 100000 in
set_option maxHeartbeats 4000000 in
theorem partsR_14n (ao : Option Addr) (len cap : Nat) (L : Nat → TypeV) (t : Nat) (ht : t < len) (b : ByteArray) (a : Nat) (w : World) (H : ∀ i, i < len → TypeAt w ao i (L i)) (hk : (L t).kind = 14) (N A E : Int) (hnum : ∀ wx, Below w.heap.size w wx → Calls Tryz.prog 48 #[.slice ao len cap, .int .i64 (L t).tag, .string b, .agg #[.int .i64 (a : Nat), .int .i64 0]] wx fun e w' => e = .returned (.tuple #[.int .u64 N, .agg #[.int .i64 A, .int .i64 E]]) ∧ Below wx.heap.size wx w') (z : Int) (hz0 : ¬ 0 ≤ z) (hbr : ∀ wx, Below w.heap.size w wx → Calls Tryz.prog 89 #[.slice ao len cap, .int .i64 (t : Nat), .int .u64 N] wx fun e w' => e = .returned (.int .i64 z) ∧ wx = w') :
    Calls Tryz.prog 50 #[.slice ao len cap, .int .i64 t, .string b, .agg #[.int .i64 (a : Nat), .int .i64 0]] w (PtRes N [] A E w) := by
  have HNU := Lib.hid hnum
  have HBR := Lib.hid hbr
  have HT := H t ht
  obtain ⟨T, hT⟩ : ∃ T, L t = T := ⟨_, rfl⟩
  rw [hT] at HT hk HNU
  clear hnum hbr H hT
  have dz : decide (0 ≤ z) = false := decide_eq_false hz0
  have HIT := Lib.hid (fun wx (hb : Below w.heap.size w wx) => HT.held hb)
  obtain ⟨tb, off, rfl, c0, c1, c2, c3, c4, c5, wf, hi⟩ := HT
  obtain ⟨i0, hi0, hz0, hz1, hz2⟩ := info_parts infoInt
  have HS0 := GSt.start w (a : Nat) 0
  obtain ⟨g1, g2, g3, g4⟩ := three_at w (gO (a : Nat) 0) (gO 0 0) (typO T)
  have HG := Lib.hid (show GSt w (a : Nat) 0 (((w.alloc (gO (a : Nat) 0)).alloc (gO 0 0)).alloc (typO T)) from HS0.step ((Below.refl _ _).alloc (Nat.le_refl _) _))
  have HY := Lib.hid g3
  have c0 := keep HS0.2.2 c0
  have c1 := keep HS0.2.2 c1
  have c2 := keep HS0.2.2 c2
  have c3 := keep HS0.2.2 c3
  have c4 := keep HS0.2.2 c4
  have c5 := keep HS0.2.2 c5
  have hil := hi.1
  have ne1 : ¬ w.heap.size + 1 = w.heap.size := by omega
  have ne2 : ¬ w.heap.size + 1 + 1 = w.heap.size := by omega
  have ne3 : ¬ w.heap.size + 1 + 1 = w.heap.size + 1 := by omega
  unfold typO at HG HY
  have k11 : (T.kind == 11) = false := by rw [hk]; decide
  have k12 : (T.kind == 12) = false := by rw [hk]; decide
  have k13 : (T.kind == 13) = false := by rw [hk]; decide
  clear g1 g2 g3 g4 hk wf hi HS0
  go_enter Tryz.func50, Tryz.ntmps50
  go_upto_region 5 with (fail)
  clear c0 c1 c2 c3 c4 c5
  generalize (((w.alloc (gO (a : Nat) 0)).alloc (gO 0 0)).alloc (.cells #[.int .i64 T.kind, .string T.name, .int .i64 T.bound, .int .i64 T.of, .int .i64 T.tag, .slice T.ia T.ilen T.icap] 45)) = W at *
  have x0 := HG.out.x0; have x1 := HG.out.x1; have f0 := HG.out.f0; have f1 := HG.out.f1; have r0 := HG.out.r0; have r1 := HG.out.r1; have s0 := HG.out.s0; have s1 := HG.out.s1
  have y0 := cell_at (j := 0) HY.out rfl; have y2 := cell_at (j := 2) HY.out rfl; have y3 := cell_at (j := 3) HY.out rfl; have y4 := cell_at (j := 4) HY.out rfl; have y5 := cell_at (j := 5) HY.out rfl
  go_upto_region 24 with (first
    | (go_at_call 48; refine (HNU.out _ HG.out.2.2).mono ?_; rintro e w1 ⟨rfl, hb1⟩; have HG1 := Lib.hid (HG.out.step hb1); have HY1 := Lib.hid (box_keep HY.out hb1); clear x0 x1 f0 f1 r0 r1 s0 s1; clear y0 y2 y3 y4 y5; clear hb1; have x0 := HG1.out.x0; have x1 := HG1.out.x1; have f0 := HG1.out.f0; have f1 := HG1.out.f1; have r0 := HG1.out.r0; have r1 := HG1.out.r1; have s0 := HG1.out.s0; have s1 := HG1.out.s1; have y0 := cell_at (j := 0) HY1.out rfl; have y2 := cell_at (j := 2) HY1.out rfl; have y3 := cell_at (j := 3) HY1.out rfl; have y4 := cell_at (j := 4) HY1.out rfl; have y5 := cell_at (j := 5) HY1.out rfl; have HS1 := Lib.hid (HG1.out.set A E); have HZ1 := Lib.hid (put_at (p := ⟨w.heap.size, 1, none⟩) (u := .int .i64 E) (put_at (p := ⟨w.heap.size, 0, none⟩) (u := .int .i64 A) HY1.out ne2) ne2))
    | (go_at_call 89; refine (HBR.out _ HS1.out.2.2).mono ?_; rintro e w2 ⟨rfl, rfl⟩))
  clear x0 x1 f0 f1 r0 r1 s0 s1; clear y0 y2 y3 y4 y5
  generalize (w1.setCell ⟨w.heap.size, 0, none⟩ (.int .i64 A)).setCell ⟨w.heap.size, 1, none⟩ (.int .i64 E) = W3 at *
  have x0 := HS1.out.x0; have x1 := HS1.out.x1; have f0 := HS1.out.f0; have f1 := HS1.out.f1; have r0 := HS1.out.r0; have r1 := HS1.out.r1; have s0 := HS1.out.s0; have s1 := HS1.out.s1
  have y0 := cell_at (j := 0) HZ1.out rfl; have y2 := cell_at (j := 2) HZ1.out rfl; have y3 := cell_at (j := 3) HZ1.out rfl; have y4 := cell_at (j := 4) HZ1.out rfl; have y5 := cell_at (j := 5) HZ1.out rfl
  have HYW := Lib.hid HZ1.out
  have HP := Lib.hid (show PSt (w.heap.size + 1 + 1) T W3 (.slice none 0 0) [] W3 from ⟨World.ownsRow_nil _ _ _ _, (by unfold typO; exact HYW.out), Below.refl _ _⟩)
  go_upto_region 26 with (fail)
  go_region
  all_goals go_wp2
  all_goals
    have hend := pt_end HP.out HS1.out (A) (E)
    refine bodyPost_ret (v := .tuple #[.int .u64 N, .slice none 0 0, .agg #[.int .i64 A, .int .i64 E]]) ?_ rfl ⟨_, _, _, _, rfl, hend.1, hend.2, fun _ => ⟨rfl, rfl, rfl⟩⟩
    have b0 := HS1.out.out0 (A) (E)
    have b1 := HS1.out.out1 (A) (E)
    simp [results, Tryz.results50, asAddr, go_sem, b0, b1]
end Go.Proofs.YtmnemddagcfjgaaGreatDoor
