/- PutBounds: for every list of types, every value and every two numbers the law returns true, and its arguments read as before. No condition. -/
import Derived.Test.YtficmdomnilhnaaGreatRdgSlice
import Derived.Test.YtficmdomnilhnaaGreatFitsAwake
import Derived.Test.YtficmdomnilhnaaGreatPutAwake
import Derived.Test.YtficmdomnilhnaaGreatPutOpen
import Derived.Test.YtficmdomnilhnaaGreatBoundsAwake
namespace Go.Proofs.YtficmdomnilhnaaGreat.putBounds
open Go.ChangeShapes Go.WideShapes Go.ChangeAt Go.RowKit
open Go.ChangeMaps (open_string shut_string)
set_option linter.unusedVariables false

def clampM (k : Int) : Nat := (max 0 (min k 512)).toNat
theorem clampM_cases (k : Int) : (k < 0 ∧ clampM k = 0) ∨ (0 ≤ k ∧ k ≤ 512 ∧ k = (clampM k : Nat)) ∨ (512 < k ∧ clampM k = 512) := by unfold clampM; omega
set_option maxRecDepth 100000 in
set_option maxHeartbeats 8000000 in
/-- a value without its type -/
theorem walk_no (ao : Option Addr) (len cap : Nat) (k0 k1 : Int) (A : Nat) (F : Int) (T : VT) (w : World) (hac : (k1 < 0 ∧ A = 0) ∨ (0 ≤ k1 ∧ k1 ≤ 512 ∧ k1 = (A : Nat)) ∨ (512 < k1 ∧ A = 512)) (hF : F ≠ 0)
    (hw : ∀ wx, Below w.heap.size w wx → Calls Tryz.prog 8 #[] wx fun e w' => e = .returned (.bool true) ∧ Below wx.heap.size wx w')
    (hg : ∀ wx, Below w.heap.size w wx → Calls Tryz.prog 6 #[.slice ao len cap] wx fun e w' => e = .returned (.bool false) ∧ wx = w')
    (hm : ∀ wx, Below w.heap.size w wx → Calls Tryz.prog 7 #[.agg #[.int .i64 T.kind, .int .u64 T.num, .string T.text, .slice T.ia T.len T.cap], .int .i64 0] wx fun e w' => e = .returned (.bool false) ∧ Below wx.heap.size wx w')
    (he : ∀ wx, Below w.heap.size w wx → Calls Tryz.prog 11 #[.slice ao len cap, .int .i64 k0, .agg #[.int .i64 T.kind, .int .u64 T.num, .string T.text, .slice T.ia T.len T.cap], .int .i64 (A : Nat)] wx fun e w' => e = .returned (.tuple #[.int .i64 0, .int .i64 F]) ∧ Below wx.heap.size wx w')
    (hf : ∀ wx, Below w.heap.size w wx → Calls Tryz.prog 12 #[.slice ao len cap, .int .i64 k0, .agg #[.int .i64 T.kind, .int .u64 T.num, .string T.text, .slice T.ia T.len T.cap]] wx fun e w' => e = .returned (.int .i64 F) ∧ Below wx.heap.size wx w') :
    Calls Tryz.prog 5 #[.slice ao len cap, .agg #[.int .i64 T.kind, .int .u64 T.num, .string T.text, .slice T.ia T.len T.cap], .agg #[.int .i64 k0, .int .i64 k1]] w fun e w' => e = .returned (.bool true) ∧ Below w.heap.size w w' := by
  have HW := Lib.hid hw
  have HG := Lib.hid hg
  have HM := Lib.hid hm
  have HE := Lib.hid he
  have HF := Lib.hid hf
  have HAC := Lib.hid hac
  have HQ := Lib.hid (alloc_old (o := (.cells #[.int .i64 k0, .int .i64 k1] 27)) (alloc_at w (.cells #[.int .i64 T.kind, .int .u64 T.num, .string T.text, .slice T.ia T.len T.cap] 26)))
  have HK := Lib.hid (show ((w.alloc (.cells #[.int .i64 T.kind, .int .u64 T.num, .string T.text, .slice T.ia T.len T.cap] 26)).alloc (.cells #[.int .i64 k0, .int .i64 k1] 27)).heap[w.heap.size + 1]? = some (.cells #[.int .i64 k0, .int .i64 k1] 27) by have h := alloc_at (w.alloc (.cells #[.int .i64 T.kind, .int .u64 T.num, .string T.text, .slice T.ia T.len T.cap] 26)) (.cells #[.int .i64 k0, .int .i64 k1] 27); simpa using h)
  have HB := Lib.hid (((Below.refl w.heap.size w).alloc (Nat.le_refl _) (.cells #[.int .i64 T.kind, .int .u64 T.num, .string T.text, .slice T.ia T.len T.cap] 26)).alloc (by simp) (.cells #[.int .i64 k0, .int .i64 k1] 27))
  have hne : (F != 0) = true := by simpa using hF
  have hqq : (F == F) = true := by simp
  clear hw hg hm he hf hac hF
  go_enter Tryz.func5, Tryz.ntmps5
  go_upto_region 3 with (first
    | (go_at_call 6; refine (HG.out _ HB.out).mono ?_; rintro e w' ⟨rfl, rfl⟩)
    | (go_at_call 7; refine (HM.out _ HB.out).mono ?_; rintro e w1 ⟨rfl, hb1⟩; have HB1 := Lib.hid (below_step8' HB.out hb1); have HX1 := Lib.hid (box_keep HQ.out hb1); have HK1 := Lib.hid (box_keep HK.out hb1); clear hb1))
  have c0 : w1.cell? ⟨w.heap.size + 1, 0, none⟩ = some (.int .i64 k0) := cell_at (j := 0) HK1.out rfl
  have c1 : w1.cell? ⟨w.heap.size + 1, 1, none⟩ = some (.int .i64 k1) := cell_at (j := 1) HK1.out rfl
  clear HB HQ HK HK1 HM HG
  go_cut [7, 8] (fun a b wx => a = .int .i64 k0 ∧ b = .int .i64 (A : Nat) ∧ Hid (Below w.heap.size w wx) ∧ Hid (wx.heap[w.heap.size]? = some (.cells #[.int .i64 T.kind, .int .u64 T.num, .string T.text, .slice T.ia T.len T.cap] 26)))
  case first =>
    obtain ⟨p1, hp1⟩ : ∃ p : Int, (if 512 < k1 then 512 else k1) = p := ⟨_, rfl⟩
    have eb : (if 0 < p1 then p1 else 0) = ((A : Nat) : Int) := by
      have := HAC.out
      rw [← hp1]
      by_cases h : 512 < k1
      · simp only [if_pos h]; omega
      · simp only [if_neg h]; by_cases h2 : 0 < k1
        · rw [if_pos h2]; omega
        · rw [if_neg h2]; omega
    clear HAC
    go_region_held3 (fun w' => w'.cell? ⟨w.heap.size + 1, 0, none⟩ = some (.int .i64 k0) ∧ w'.cell? ⟨w.heap.size + 1, 1, none⟩ = some (.int .i64 k1)) (exact ⟨c0, c1⟩) (fail)
    all_goals
      try simp only [hp1, eb]
      clear hp1 eb
      go_wp2_with fail
      go_meet
      exact ⟨rfl, rfl, Lib.hid HB1.out.drew, Lib.hid HX1.out⟩
  case rest =>
    obtain ⟨rfl, rfl, HB2, HX2⟩ := hcut
    clear c0 c1 HB1 HX1 HAC
    have d0 : wc.cell? ⟨w.heap.size, 0, none⟩ = some (.int .i64 T.kind) := cell_at HX2.out rfl
    have d1 : wc.cell? ⟨w.heap.size, 1, none⟩ = some (.int .u64 T.num) := cell_at HX2.out rfl
    have d2 : wc.cell? ⟨w.heap.size, 2, none⟩ = some (.string T.text) := cell_at HX2.out rfl
    have d3 : wc.cell? ⟨w.heap.size, 3, none⟩ = some (.slice T.ia T.len T.cap) := cell_at HX2.out rfl
    go_wp2_with (first
      | (go_at_call 11; (with_reducible refine (HE.out _ HB2.out).mono ?_); rintro e w3 ⟨rfl, hb3⟩; have HB3 := Lib.hid (below_step8' HB2.out hb3); have HX3 := Lib.hid (box_keep HX2.out hb3); clear d0 d1 d2 d3; have d0 : w3.cell? ⟨w.heap.size, 0, none⟩ = some (.int .i64 T.kind) := cell_at HX3.out rfl; have d1 : w3.cell? ⟨w.heap.size, 1, none⟩ = some (.int .u64 T.num) := cell_at HX3.out rfl; have d2 : w3.cell? ⟨w.heap.size, 2, none⟩ = some (.string T.text) := cell_at HX3.out rfl; have d3 : w3.cell? ⟨w.heap.size, 3, none⟩ = some (.slice T.ia T.len T.cap) := cell_at HX3.out rfl; clear hb3)
      | (go_at_call 12; (with_reducible refine (HF.out _ HB3.out).mono ?_); rintro e w4 ⟨rfl, hb4⟩; have HB4 := Lib.hid (below_step8' HB3.out hb4); have HX4 := Lib.hid (box_keep HX3.out hb4); clear d0 d1 d2 d3; have d0 : w4.cell? ⟨w.heap.size, 0, none⟩ = some (.int .i64 T.kind) := cell_at HX4.out rfl; have d1 : w4.cell? ⟨w.heap.size, 1, none⟩ = some (.int .u64 T.num) := cell_at HX4.out rfl; have d2 : w4.cell? ⟨w.heap.size, 2, none⟩ = some (.string T.text) := cell_at HX4.out rfl; have d3 : w4.cell? ⟨w.heap.size, 3, none⟩ = some (.slice T.ia T.len T.cap) := cell_at HX4.out rfl; clear hb4)
      | (go_at_call 8; refine (HW.out _ HB4.out).mono ?_; rintro e w9 ⟨rfl, hb9⟩; have HB9 := Lib.hid (below_step8' HB4.out hb9); clear hb9))
    go_ret
    exact ⟨rfl, HB9.out⟩

set_option maxRecDepth 100000 in
set_option maxHeartbeats 8000000 in
/-- a value of its type -/
theorem walk_yes (ao : Option Addr) (len cap : Nat) (k0 k1 : Int) (A E E0 x y : Nat) (B : ByteArray) (f : Int) (T : VT) (w : World) (hac : (k1 < 0 ∧ A = 0) ∨ (0 ≤ k1 ∧ k1 ≤ 512 ∧ k1 = (A : Nat)) ∨ (512 < k1 ∧ A = 512))
    (hB : (E0 ≤ 512 ∧ f = 0 ∧ B.size = E0) ∨ (512 < E0 ∧ f = 3 ∧ B = ⟨#[]⟩)) (hx : x ≤ E ∧ x ≤ 513) (hy : min E 513 ≤ y)
    (hw : ∀ wx, Below w.heap.size w wx → Calls Tryz.prog 8 #[] wx fun e w' => e = .returned (.bool true) ∧ Below wx.heap.size wx w')
    (hg : ∀ wx, Below w.heap.size w wx → Calls Tryz.prog 6 #[.slice ao len cap] wx fun e w' => e = .returned (.bool false) ∧ wx = w')
    (hm : ∀ wx, Below w.heap.size w wx → Calls Tryz.prog 7 #[.agg #[.int .i64 T.kind, .int .u64 T.num, .string T.text, .slice T.ia T.len T.cap], .int .i64 0] wx fun e w' => e = .returned (.bool false) ∧ Below wx.heap.size wx w')
    (he : ∀ wx, Below w.heap.size w wx → Calls Tryz.prog 11 #[.slice ao len cap, .int .i64 k0, .agg #[.int .i64 T.kind, .int .u64 T.num, .string T.text, .slice T.ia T.len T.cap], .int .i64 (A : Nat)] wx fun e w' => e = .returned (.tuple #[.int .i64 (E : Nat), .int .i64 0]) ∧ Below wx.heap.size wx w')
    (hz : ∀ wx, Below w.heap.size w wx → Calls Tryz.prog 11 #[.slice ao len cap, .int .i64 k0, .agg #[.int .i64 T.kind, .int .u64 T.num, .string T.text, .slice T.ia T.len T.cap], .int .i64 0] wx fun e w' => e = .returned (.tuple #[.int .i64 (E0 : Nat), .int .i64 0]) ∧ Below wx.heap.size wx w')
    (hl : ∀ wx, Below w.heap.size w wx → Calls Tryz.prog 16 #[.slice ao len cap, .int .i64 k0, .int .i64 (A : Nat)] wx fun e w' => e = .returned (.int .i64 (x : Nat)) ∧ Below wx.heap.size wx w')
    (hh : ∀ wx, Below w.heap.size w wx → Calls Tryz.prog 17 #[.slice ao len cap, .int .i64 k0, .int .i64 (A : Nat)] wx fun e w' => e = .returned (.int .i64 (y : Nat)) ∧ Below wx.heap.size wx w')
    (hp : ∀ wx, Below w.heap.size w wx → Calls Tryz.prog 9 #[.slice ao len cap, .int .i64 k0, .agg #[.int .i64 T.kind, .int .u64 T.num, .string T.text, .slice T.ia T.len T.cap]] wx fun e w' => e = .returned (.tuple #[.string B, .int .i64 f]) ∧ Below wx.heap.size wx w') :
    Calls Tryz.prog 5 #[.slice ao len cap, .agg #[.int .i64 T.kind, .int .u64 T.num, .string T.text, .slice T.ia T.len T.cap], .agg #[.int .i64 k0, .int .i64 k1]] w fun e w' => e = .returned (.bool true) ∧ Below w.heap.size w w' := by
  have HW := Lib.hid hw
  have HG := Lib.hid hg
  have HM := Lib.hid hm
  have HE := Lib.hid he
  have HZ := Lib.hid hz
  have HL := Lib.hid hl
  have HH := Lib.hid hh
  have HAC := Lib.hid hac
  have HQ := Lib.hid (alloc_old (o := (.cells #[.int .i64 k0, .int .i64 k1] 27)) (alloc_at w (.cells #[.int .i64 T.kind, .int .u64 T.num, .string T.text, .slice T.ia T.len T.cap] 26)))
  have HK := Lib.hid (show ((w.alloc (.cells #[.int .i64 T.kind, .int .u64 T.num, .string T.text, .slice T.ia T.len T.cap] 26)).alloc (.cells #[.int .i64 k0, .int .i64 k1] 27)).heap[w.heap.size + 1]? = some (.cells #[.int .i64 k0, .int .i64 k1] 27) by have h := alloc_at (w.alloc (.cells #[.int .i64 T.kind, .int .u64 T.num, .string T.text, .slice T.ia T.len T.cap] 26)) (.cells #[.int .i64 k0, .int .i64 k1] 27); simpa using h)
  have HB := Lib.hid (((Below.refl w.heap.size w).alloc (Nat.le_refl _) (.cells #[.int .i64 T.kind, .int .u64 T.num, .string T.text, .slice T.ia T.len T.cap] 26)).alloc (by simp) (.cells #[.int .i64 k0, .int .i64 k1] 27))
  have HX := Lib.hid hx
  have HY := Lib.hid hy
  have HBB := Lib.hid hB
  have HP := Lib.hid hp
  clear hw hg hm he hz hl hh hac hx hy hB hp
  go_enter Tryz.func5, Tryz.ntmps5
  go_upto_region 3 with (first
    | (go_at_call 6; refine (HG.out _ HB.out).mono ?_; rintro e w' ⟨rfl, rfl⟩)
    | (go_at_call 7; refine (HM.out _ HB.out).mono ?_; rintro e w1 ⟨rfl, hb1⟩; have HB1 := Lib.hid (below_step8' HB.out hb1); have HX1 := Lib.hid (box_keep HQ.out hb1); have HK1 := Lib.hid (box_keep HK.out hb1); clear hb1))
  have c0 : w1.cell? ⟨w.heap.size + 1, 0, none⟩ = some (.int .i64 k0) := cell_at (j := 0) HK1.out rfl
  have c1 : w1.cell? ⟨w.heap.size + 1, 1, none⟩ = some (.int .i64 k1) := cell_at (j := 1) HK1.out rfl
  clear HB HQ HK HK1 HM HG
  go_cut [7, 8] (fun a b wx => a = .int .i64 k0 ∧ b = .int .i64 (A : Nat) ∧ Hid (Below w.heap.size w wx) ∧ Hid (wx.heap[w.heap.size]? = some (.cells #[.int .i64 T.kind, .int .u64 T.num, .string T.text, .slice T.ia T.len T.cap] 26)))
  case first =>
    obtain ⟨p1, hp1⟩ : ∃ p : Int, (if 512 < k1 then 512 else k1) = p := ⟨_, rfl⟩
    have eb : (if 0 < p1 then p1 else 0) = ((A : Nat) : Int) := by
      have := HAC.out
      rw [← hp1]
      by_cases h : 512 < k1
      · simp only [if_pos h]; omega
      · simp only [if_neg h]; by_cases h2 : 0 < k1
        · rw [if_pos h2]; omega
        · rw [if_neg h2]; omega
    clear HAC
    go_region_held3 (fun w' => w'.cell? ⟨w.heap.size + 1, 0, none⟩ = some (.int .i64 k0) ∧ w'.cell? ⟨w.heap.size + 1, 1, none⟩ = some (.int .i64 k1)) (exact ⟨c0, c1⟩) (fail)
    all_goals
      try simp only [hp1, eb]
      clear hp1 eb
      go_wp2_with fail
      go_meet
      exact ⟨rfl, rfl, Lib.hid HB1.out.drew, Lib.hid HX1.out⟩
  case rest =>
    obtain ⟨rfl, rfl, HB2, HX2⟩ := hcut
    clear c0 c1 HB1 HX1 HAC
    have d0 : wc.cell? ⟨w.heap.size, 0, none⟩ = some (.int .i64 T.kind) := cell_at HX2.out rfl
    have d1 : wc.cell? ⟨w.heap.size, 1, none⟩ = some (.int .u64 T.num) := cell_at HX2.out rfl
    have d2 : wc.cell? ⟨w.heap.size, 2, none⟩ = some (.string T.text) := cell_at HX2.out rfl
    have d3 : wc.cell? ⟨w.heap.size, 3, none⟩ = some (.slice T.ia T.len T.cap) := cell_at HX2.out rfl
    go_upto_region 5 with ((go_at_call 11; (with_reducible refine (HE.out _ HB2.out).mono ?_); rintro e w3 ⟨rfl, hb3⟩; have HB3 := Lib.hid (below_step8' HB2.out hb3); have HX3 := Lib.hid (box_keep HX2.out hb3); clear d0 d1 d2 d3; have d0 : w3.cell? ⟨w.heap.size, 0, none⟩ = some (.int .i64 T.kind) := cell_at HX3.out rfl; have d1 : w3.cell? ⟨w.heap.size, 1, none⟩ = some (.int .u64 T.num) := cell_at HX3.out rfl; have d2 : w3.cell? ⟨w.heap.size, 2, none⟩ = some (.string T.text) := cell_at HX3.out rfl; have d3 : w3.cell? ⟨w.heap.size, 3, none⟩ = some (.slice T.ia T.len T.cap) := cell_at HX3.out rfl; clear hb3))
    go_upto_region 7 with (fail)
    go_cut [9] (fun t wx => t = .int .i64 (min E 513 : Nat) ∧ w3 = wx)
    case first =>
      by_cases h5 : 513 < E
      · have e5 : min E 513 = 513 := by omega
        have h5' : (513 : Int) < ((E : Nat) : Int) := by omega
        have E5 := Lib.hid e5
        clear e5
        go_wp2_with fail
        go_meet
        exact ⟨by first | (rw [E5.out]; rfl) | rw [E5.out], rfl⟩
      · have e5 : min E 513 = E := by omega
        have h5' : ¬ (513 : Int) < ((E : Nat) : Int) := by omega
        have E5 := Lib.hid e5
        clear e5
        go_wp2_with fail
        go_meet
        exact ⟨by first | (rw [E5.out]; rfl) | rw [E5.out], rfl⟩
    case rest =>
      obtain ⟨rfl, rfl⟩ := hcut
      obtain ⟨m, hm⟩ : ∃ m, min E 513 = m := ⟨_, rfl⟩
      have hxm : x ≤ m := by have := HX.out; omega
      have hym : m ≤ y := by have := HY.out; omega
      rw [hm]
      clear hm
      have a1 : ¬ ((m : Nat) : Int) < ((x : Nat) : Int) := by omega
      have a2 : ¬ ((y : Nat) : Int) < ((m : Nat) : Int) := by omega
      have b1 : decide (m < x) = false := by simp; omega
      have b2 : decide (y < m) = false := by simp; omega
      clear hxm hym
      rcases HBB.out with ⟨q1, rfl, q2⟩ | ⟨q1, rfl, rfl⟩
      · have q3 : ((E0 : Nat) : Int) ≤ 512 := by omega
        clear HBB
        go_wp2_with (first
          | (go_at_call 16; (with_reducible refine (HL.out _ HB3.out).mono ?_); rintro e w4 ⟨rfl, hb4⟩; have HB4 := Lib.hid (below_step8' HB3.out hb4); have HX4 := Lib.hid (box_keep HX3.out hb4); clear d0 d1 d2 d3; have d0 : w4.cell? ⟨w.heap.size, 0, none⟩ = some (.int .i64 T.kind) := cell_at HX4.out rfl; have d1 : w4.cell? ⟨w.heap.size, 1, none⟩ = some (.int .u64 T.num) := cell_at HX4.out rfl; have d2 : w4.cell? ⟨w.heap.size, 2, none⟩ = some (.string T.text) := cell_at HX4.out rfl; have d3 : w4.cell? ⟨w.heap.size, 3, none⟩ = some (.slice T.ia T.len T.cap) := cell_at HX4.out rfl; clear hb4)
          | (go_at_call 17; (with_reducible refine (HH.out _ HB4.out).mono ?_); rintro e w5 ⟨rfl, hb5⟩; have HB5 := Lib.hid (below_step8' HB4.out hb5); have HX5 := Lib.hid (box_keep HX4.out hb5); clear d0 d1 d2 d3; have d0 : w5.cell? ⟨w.heap.size, 0, none⟩ = some (.int .i64 T.kind) := cell_at HX5.out rfl; have d1 : w5.cell? ⟨w.heap.size, 1, none⟩ = some (.int .u64 T.num) := cell_at HX5.out rfl; have d2 : w5.cell? ⟨w.heap.size, 2, none⟩ = some (.string T.text) := cell_at HX5.out rfl; have d3 : w5.cell? ⟨w.heap.size, 3, none⟩ = some (.slice T.ia T.len T.cap) := cell_at HX5.out rfl; clear hb5)
          | (go_at_call 9; (with_reducible refine (HP.out _ HB5.out).mono ?_); rintro e w6 ⟨rfl, hb6⟩; have HB6 := Lib.hid (below_step8' HB5.out hb6); have HX6 := Lib.hid (box_keep HX5.out hb6); clear d0 d1 d2 d3; have d0 : w6.cell? ⟨w.heap.size, 0, none⟩ = some (.int .i64 T.kind) := cell_at HX6.out rfl; have d1 : w6.cell? ⟨w.heap.size, 1, none⟩ = some (.int .u64 T.num) := cell_at HX6.out rfl; have d2 : w6.cell? ⟨w.heap.size, 2, none⟩ = some (.string T.text) := cell_at HX6.out rfl; have d3 : w6.cell? ⟨w.heap.size, 3, none⟩ = some (.slice T.ia T.len T.cap) := cell_at HX6.out rfl; clear hb6)
          | (go_at_call 11; (with_reducible refine (HZ.out _ HB6.out).mono ?_); rintro e w7 ⟨rfl, hb7⟩; have HB7 := Lib.hid (below_step8' HB6.out hb7); have HX7 := Lib.hid (box_keep HX6.out hb7); clear d0 d1 d2 d3; have d0 : w7.cell? ⟨w.heap.size, 0, none⟩ = some (.int .i64 T.kind) := cell_at HX7.out rfl; have d1 : w7.cell? ⟨w.heap.size, 1, none⟩ = some (.int .u64 T.num) := cell_at HX7.out rfl; have d2 : w7.cell? ⟨w.heap.size, 2, none⟩ = some (.string T.text) := cell_at HX7.out rfl; have d3 : w7.cell? ⟨w.heap.size, 3, none⟩ = some (.slice T.ia T.len T.cap) := cell_at HX7.out rfl; clear hb7)
          | (go_at_call 8; refine (HW.out _ HB7.out).mono ?_; rintro e w9 ⟨rfl, hb9⟩; have HB9 := Lib.hid (below_step8' HB7.out hb9); clear hb9))
        all_goals
          go_ret
          exact ⟨rfl, HB9.out⟩
      · have q3 : ¬ ((E0 : Nat) : Int) ≤ 512 := by omega
        have b3 : decide (E0 ≤ 512) = false := by simp; omega
        have b4 : decide (((E0 : Nat) : Int) ≤ 512) = false := by simp; omega
        clear HBB
        go_wp2_with (first
          | (go_at_call 16; (with_reducible refine (HL.out _ HB3.out).mono ?_); rintro e w4 ⟨rfl, hb4⟩; have HB4 := Lib.hid (below_step8' HB3.out hb4); have HX4 := Lib.hid (box_keep HX3.out hb4); clear d0 d1 d2 d3; have d0 : w4.cell? ⟨w.heap.size, 0, none⟩ = some (.int .i64 T.kind) := cell_at HX4.out rfl; have d1 : w4.cell? ⟨w.heap.size, 1, none⟩ = some (.int .u64 T.num) := cell_at HX4.out rfl; have d2 : w4.cell? ⟨w.heap.size, 2, none⟩ = some (.string T.text) := cell_at HX4.out rfl; have d3 : w4.cell? ⟨w.heap.size, 3, none⟩ = some (.slice T.ia T.len T.cap) := cell_at HX4.out rfl; clear hb4)
          | (go_at_call 17; (with_reducible refine (HH.out _ HB4.out).mono ?_); rintro e w5 ⟨rfl, hb5⟩; have HB5 := Lib.hid (below_step8' HB4.out hb5); have HX5 := Lib.hid (box_keep HX4.out hb5); clear d0 d1 d2 d3; have d0 : w5.cell? ⟨w.heap.size, 0, none⟩ = some (.int .i64 T.kind) := cell_at HX5.out rfl; have d1 : w5.cell? ⟨w.heap.size, 1, none⟩ = some (.int .u64 T.num) := cell_at HX5.out rfl; have d2 : w5.cell? ⟨w.heap.size, 2, none⟩ = some (.string T.text) := cell_at HX5.out rfl; have d3 : w5.cell? ⟨w.heap.size, 3, none⟩ = some (.slice T.ia T.len T.cap) := cell_at HX5.out rfl; clear hb5)
          | (go_at_call 9; (with_reducible refine (HP.out _ HB5.out).mono ?_); rintro e w6 ⟨rfl, hb6⟩; have HB6 := Lib.hid (below_step8' HB5.out hb6); have HX6 := Lib.hid (box_keep HX5.out hb6); clear d0 d1 d2 d3; have d0 : w6.cell? ⟨w.heap.size, 0, none⟩ = some (.int .i64 T.kind) := cell_at HX6.out rfl; have d1 : w6.cell? ⟨w.heap.size, 1, none⟩ = some (.int .u64 T.num) := cell_at HX6.out rfl; have d2 : w6.cell? ⟨w.heap.size, 2, none⟩ = some (.string T.text) := cell_at HX6.out rfl; have d3 : w6.cell? ⟨w.heap.size, 3, none⟩ = some (.slice T.ia T.len T.cap) := cell_at HX6.out rfl; clear hb6)
          | (go_at_call 11; (with_reducible refine (HZ.out _ HB6.out).mono ?_); rintro e w7 ⟨rfl, hb7⟩; have HB7 := Lib.hid (below_step8' HB6.out hb7); have HX7 := Lib.hid (box_keep HX6.out hb7); clear d0 d1 d2 d3; have d0 : w7.cell? ⟨w.heap.size, 0, none⟩ = some (.int .i64 T.kind) := cell_at HX7.out rfl; have d1 : w7.cell? ⟨w.heap.size, 1, none⟩ = some (.int .u64 T.num) := cell_at HX7.out rfl; have d2 : w7.cell? ⟨w.heap.size, 2, none⟩ = some (.string T.text) := cell_at HX7.out rfl; have d3 : w7.cell? ⟨w.heap.size, 3, none⟩ = some (.slice T.ia T.len T.cap) := cell_at HX7.out rfl; clear hb7)
          | (go_at_call 8; refine (HW.out _ HB7.out).mono ?_; rintro e w9 ⟨rfl, hb9⟩; have HB9 := Lib.hid (below_step8' HB7.out hb9); clear hb9))
        all_goals
          go_ret
          exact ⟨rfl, HB9.out⟩
set_option maxRecDepth 100000 in
set_option maxHeartbeats 4000000 in
theorem walk (ao : Option Addr) (len cap : Nat) (L : Nat → TypeV) (k0 k1 : Int) (T : VT) (S : Nat → Prop) (hcap : len ≤ cap) (hm : len ≤ 140737488351232) (hcp : ∀ i, i < len → (L i).ilen ≤ (L i).icap) (w : World) (H : ∀ i, i < len → TypeAt w ao i (L i)) (HV : ValAt w S T) :
    Calls Tryz.prog 5 #[.slice ao len cap, .agg #[.int .i64 T.kind, .int .u64 T.num, .string T.text, .slice T.ia T.len T.cap], .agg #[.int .i64 k0, .int .i64 k1]] w fun e w' => e = .returned (.bool true) ∧ Below w.heap.size w w' := by
  have hw := fun wx (hb : Below w.heap.size w wx) => awake10_any wx
  have hg := fun wx (hb : Below w.heap.size w wx) => great_any ao len cap L hm wx (hold H hb)
  have hmu := fun wx (hb : Below w.heap.size w wx) => refMuch_any S T 0 wx (HV.next hb) (by omega)
  unfold RMuchTo at hmu
  rw [show ((0 : Nat) : Int) = 0 from rfl] at hmu
  cases hbig : greatB L len with
  | true =>
    rw [hbig] at hg
    have HW := Lib.hid hw
    have HG := Lib.hid hg
    have HB := Lib.hid (((Below.refl w.heap.size w).alloc (Nat.le_refl _) (.cells #[.int .i64 T.kind, .int .u64 T.num, .string T.text, .slice T.ia T.len T.cap] 26)).alloc (by simp) (.cells #[.int .i64 k0, .int .i64 k1] 27))
    clear hw hg hmu hbig HV H hcp
    go_enter Tryz.func5, Tryz.ntmps5
    go_wp2_with (first
      | (go_at_call 6; refine (HG.out _ HB.out).mono ?_; rintro e w' ⟨rfl, rfl⟩)
      | (go_at_call 8; refine (HW.out _ HB.out).mono ?_; rintro e w9 ⟨rfl, hb9⟩; have HB9 := Lib.hid (below_step8' HB.out hb9); clear hb9))
    go_ret
    exact ⟨rfl, HB9.out⟩
  | false =>
  have hlen := great_lt hbig
  rw [hbig] at hg
  cases hmt : muchT T 0 with
  | true =>
    rw [hmt] at hmu
    have HW := Lib.hid hw
    have HG := Lib.hid hg
    have HM := Lib.hid hmu
    have HB := Lib.hid (((Below.refl w.heap.size w).alloc (Nat.le_refl _) (.cells #[.int .i64 T.kind, .int .u64 T.num, .string T.text, .slice T.ia T.len T.cap] 26)).alloc (by simp) (.cells #[.int .i64 k0, .int .i64 k1] 27))
    clear hw hg hmu hmt HV H hcp hbig
    go_enter Tryz.func5, Tryz.ntmps5
    go_wp2_with (first
      | (go_at_call 6; refine (HG.out _ HB.out).mono ?_; rintro e w' ⟨rfl, rfl⟩)
      | (go_at_call 7; refine (HM.out _ HB.out).mono ?_; rintro e w1 ⟨rfl, hb1⟩; have HB1 := Lib.hid (below_step8' HB.out hb1); clear hb1)
      | (go_at_call 8; refine (HW.out _ HB1.out).mono ?_; rintro e w9 ⟨rfl, hb9⟩; have HB9 := Lib.hid (below_step8' HB1.out hb9); clear hb9))
    go_ret
    exact ⟨rfl, HB9.out⟩
  | false =>
  rw [hmt] at hmu
  have hac := clampM_cases k1
  obtain ⟨A, hA⟩ : ∃ A, clampM k1 = A := ⟨_, rfl⟩
  rw [hA] at hac
  have hA5 : A ≤ 512 := by omega
  have he := fun (a : Int) wx (hb : Below w.heap.size w wx) => end_any ao len cap L (by omega) hcap hcp S k0 T a wx (HV.next hb) (hold H hb)
  have hf := fun wx (hb : Below w.heap.size w wx) => fits9_any ao len cap L (by omega) hcap hcp S k0 T wx (HV.next hb) (hold H hb)
  have hp := fun wx (hb : Below w.heap.size w wx) => put_any10 ao len cap L (by omega) hcap hcp S k0 T wx (HV.next hb) (hold H hb)
  have eA : endErr L len k0 T (A : Nat) = fitsA L len k0 T := by unfold endErr; rw [if_neg (by omega)]
  have eZ : endErr L len k0 T 0 = fitsA L len k0 T := by unfold endErr; rw [if_neg (by omega)]
  by_cases hE : fitsA L len k0 T = 0
  · obtain ⟨k, rfl, hk, hfe, hft⟩ := fitsA_zero hE
    have hv := ok_all hfe
    have hwf := valAt_wf T HV
    have hends := fits_ends (op := openT L len) hv (fun t ht h14 ho n h0 h1 hn => open_none hv t ht h14 ho n h0 h1 hn) T k hk hwf hft A
    have hl := fun wx (hb : Below w.heap.size w wx) => least_any ao len cap L (k : Nat) (A : Nat) (by omega) hcap wx (hold H hb)
    have hh := fun wx (hb : Below w.heap.size w wx) => most_any ao len cap L (k : Nat) (A : Nat) (by omega) hcap wx (hold H hb)
    have hpl : placeN (A : Nat) = A := by unfold placeN; omega
    have hbo : ∀ m, boundA L (openT L len) len (k : Nat) (A : Nat) m = (min (endE L (openT L len) m k A) 513 : Nat) := fun m => by
      unfold boundA; rw [if_pos (hasT_yes hk hfe), hpl]; rfl
    rw [hbo] at hl hh
    have hz := he 0
    have hA' := he (A : Nat)
    have tA : endAt L len (k : Nat) T (A : Nat) = ((endR (rowT L T k) A : Nat) : Int) := by unfold endAt; rw [eA, if_pos hE]; rfl
    have tZ : endAt L len (k : Nat) T 0 = ((endR (rowT L T k) 0 : Nat) : Int) := by unfold endAt; rw [eZ, if_pos hE]; rfl
    rw [eZ, hE, tZ] at hz
    rw [eA, hE, tA] at hA'
    refine walk_yes ao len cap (k : Nat) k1 A (endR (rowT L T k) A) (endR (rowT L T k) 0) _ _ (putBytes L len (k : Nat) T) (putErr L len (k : Nat) T) T w hac ?_ ?_ ?_ hw hg hmu hA' hz hl hh hp
    · have e3 : putErr L len (k : Nat) T = if 512 < endR (rowT L T k) 0 then 3 else 0 := by unfold putErr; rw [if_neg (by rw [hE]; decide)]; rfl
      by_cases c : 512 < endR (rowT L T k) 0
      · right
        rw [if_pos c] at e3
        exact ⟨c, e3, by unfold putBytes; rw [e3]; rfl⟩
      · left
        rw [if_neg c] at e3
        refine ⟨by omega, e3, ?_⟩
        unfold putBytes
        rw [if_pos e3]
        exact bytR_size _ (row_okP hv T k hk hft) ⟨#[]⟩
    · have := hends.1; omega
    · have := hends.2; omega
  · have tA : endAt L len k0 T (A : Nat) = 0 := by unfold endAt; rw [eA, if_neg hE]
    have hA' := he (A : Nat)
    rw [eA, tA] at hA'
    exact walk_no ao len cap k0 k1 A (fitsA L len k0 T) T w hac hE hw hg hmu hA' hf
set_option maxRecDepth 100000 in
theorem lifted (os : Os) (started : os.Started) (H : Type) (enc : TypeId × Value → H) :
    ReturnsInHanded {} Tryz.checked os 5 .any (Rows.putBoundsSpec.pre6 enc Tryz.prog Tryz.f5 Rows.putBoundsRow.domain false) (Rows.putBoundsSpec.post enc Tryz.prog Tryz.f5 false true false false) := by
  refine returnsInHanded_of_change_sized (C := Tryz.checked) own started (by kernel_rfl) Tryz.func5
    (ChangeSpec.witness6 (enc := enc) (C := Tryz.checked) false ⟨#[], #[.slice none 0 0, .agg #[.int .i64 0, .int .u64 0, .string ⟨#[]⟩, .slice none 0 0], .agg #[.int .i64 0, .int .i64 0]], []⟩ 8 (by kernel_rfl) (by kernel_rfl) (by kernel_rfl) (by kernel_rfl)) ?_
  intro W base args ds gs before hval0 hW hcnd hsz _
  have hval : ∀ (j : Nat) t v, Tryz.f5.params[j]? = some t → args[j]? = some v → Value.okWide Tryz.prog W .any base t v := hval0
  have hW' := hW
  obtain ⟨p, q, hA0, hV, rfl, hfz, hnd⟩ := hW
  have hA : DataW.TrodAll enc Tryz.prog W 0 (fun _ => true) true Tryz.f5.params.toList args.toList ds p := hA0
  rw [Tryz.params5] at hA hval
  obtain ⟨rfl, rfl⟩ := trodVars_none hV
  clear hA0 hval0
  simp only [List.append_nil] at hW'
  have hlt := hW'.lt
  have hA1 := hA
  have hsz1 : (DataW.weightsEach Tryz.prog (Tryz.f5.params.toList ++ []) (ds ++ [])).all (· ≤ reachBytes) = true := hsz
  rw [Tryz.params5, List.append_nil, List.append_nil] at hsz1
  have hrd := rdg_all _ _ _ _ hA1 (fun n hn => by simpa using List.all_eq_true.1 hsz1 n hn)
  obtain ⟨v0, vs0, d0, ds0, p0, q0, hargs, rfl, rfl, h0, r0⟩ := trodAll_cons hA
  obtain ⟨v1, vs1, d1, ds1, p1, q1, rfl, rfl, rfl, h1, r1⟩ := trodAll_cons r0
  obtain ⟨v2, vs2, d2, ds2, p2, q2, rfl, rfl, rfl, h2, r2⟩ := trodAll_cons r1
  obtain ⟨rfl, rfl, rfl⟩ := trodAll_nil r2
  obtain rfl : args = #[v0, v1, v2] := by cases args; simp_all
  have g1 := hrd 1 26 v1 rfl rfl
  obtain ⟨cs1, rfl, hz1⟩ := ok_agg (by first | exact .inl ⟨_, Tryz.underlying26⟩ | exact .inr ⟨_, _, Tryz.underlying26⟩) (hval 1 26 v1 rfl rfl)
  have g2 := hrd 2 27 v2 rfl rfl
  obtain ⟨cs2, rfl, hz2⟩ := ok_agg (by first | exact .inl ⟨_, Tryz.underlying27⟩ | exact .inr ⟨_, _, Tryz.underlying27⟩) (hval 2 27 v2 rfl rfl)
  obtain ⟨ao, len, cap, L, rfl, hcap, hm, hcp, H⟩ := types_of3 (rop_slice 6 Tryz.underlying22 (by kernel_rfl) (hval 0 22 v0 rfl rfl) (hrd 0 22 v0 rfl rfl))
  obtain ⟨T, hT, HT⟩ := val_of hz1 g1
  unfold valV at hT
  injection hT with hT
  subst hT
  obtain ⟨y0, y1, rfl⟩ := arr2 (hz2.trans (by kernel_rfl))
  obtain ⟨x0, e0, hx0⟩ := rdg_int Tryz.underlying3 (rdg_elem Tryz.underlying27 g2 0 1 (by omega) (by kernel_rfl))
  obtain ⟨x1, e1, hx1⟩ := rdg_int Tryz.underlying3 (rdg_elem Tryz.underlying27 g2 1 1 (by omega) (by kernel_rfl))
  simp [Value.cells] at e0 e1
  subst e0 e1
  refine (walk ao len cap L x0 x1 T _ hcap hm hcp W H HT).mono fun e W' ⟨he, bel⟩ => ?_
  subst he
  exact ⟨_, rfl, _, _, _, [], _, [], hW', trodAll_mk1 (shut_bool Tryz.underlying4 _), trodAll_below laidOut bel [22, 26, 27] _ _ _ (by kernel_rfl) hA1 hlt, rfl, bel.frame _, fun h => by cases h⟩
theorem over : Rows.putBoundsRow.holds Tryz.pinned (OpenSpec.ofChange Rows.putBoundsSpec) :=
  OpenClaim.holds_of_wide 5 Tryz.f5 rfl rfl rfl rfl rfl rfl rfl ⟨rfl, rfl, rfl, rfl, rfl⟩ rfl rfl rfl rfl rfl (by kernel_rfl) Tryz.func5 (by kernel_rfl)
    (of_decide_eq_true (by kernel_rfl)) (by unfold Func.isWrapper; first | (rw [if_pos (by decide +kernel)]; kernel_rfl) | (rw [if_neg (by decide +kernel)]; exact ⟨rfl, rfl⟩))
    (fun os started H enc _ => lifted os started H enc)
theorem proved : Rows.PutBoundsSaid := over
#print axioms proved
end Go.Proofs.YtficmdomnilhnaaGreat.putBounds
