/- PutTells: for every list of types, every value and every two numbers the law returns true, and its arguments read as before. No condition. -/
import Derived.Test.YtficmdomnilhnaaGreatRdgSlice
import Derived.Test.YtficmdomnilhnaaGreatFitsAwake
import Derived.Test.YtficmdomnilhnaaGreatPutAwake
import Derived.Test.YtficmdomnilhnaaGreatPutRTop
namespace Go.Proofs.YtficmdomnilhnaaGreat.putTells
open Go.ChangeShapes Go.WideShapes Go.ChangeAt Go.RowKit
open Go.ChangeMaps (open_string shut_string)
set_option linter.unusedVariables false
set_option maxRecDepth 100000 in
set_option maxHeartbeats 8000000 in
/-- at no place -/
theorem walk_out (ao : Option Addr) (len cap : Nat) (k0 k1 : Int) (B : ByteArray) (f : Int) (T : VT) (w : World) (hk : k1 < 0 ∨ 512 < k1)
    (hw : ∀ wx, Below w.heap.size w wx → Calls Tryz.prog 8 #[] wx fun e w' => e = .returned (.bool true) ∧ Below wx.heap.size wx w')
    (hg : ∀ wx, Below w.heap.size w wx → Calls Tryz.prog 6 #[.slice ao len cap] wx fun e w' => e = .returned (.bool false) ∧ wx = w')
    (hm : ∀ wx, Below w.heap.size w wx → Calls Tryz.prog 7 #[.agg #[.int .i64 T.kind, .int .u64 T.num, .string T.text, .slice T.ia T.len T.cap], .int .i64 0] wx fun e w' => e = .returned (.bool false) ∧ Below wx.heap.size wx w')
    (hp : ∀ wx, Below w.heap.size w wx → Calls Tryz.prog 9 #[.slice ao len cap, .int .i64 k0, .agg #[.int .i64 T.kind, .int .u64 T.num, .string T.text, .slice T.ia T.len T.cap]] wx fun e w' => e = .returned (.tuple #[.string B, .int .i64 f]) ∧ Below wx.heap.size wx w')
    (hr : ∀ wx, Below w.heap.size w wx → Calls Tryz.prog 10 #[.slice ao len cap, .int .i64 k0, .agg #[.int .i64 T.kind, .int .u64 T.num, .string T.text, .slice T.ia T.len T.cap]] wx fun e w' => e = .returned (.tuple #[.string B, .int .i64 f]) ∧ Below wx.heap.size wx w')
    (he : ∀ wx, Below w.heap.size w wx → Calls Tryz.prog 11 #[.slice ao len cap, .int .i64 k0, .agg #[.int .i64 T.kind, .int .u64 T.num, .string T.text, .slice T.ia T.len T.cap], .int .i64 k1] wx fun e w' => e = .returned (.tuple #[.int .i64 0, .int .i64 7]) ∧ Below wx.heap.size wx w') :
    Calls Tryz.prog 3 #[.slice ao len cap, .agg #[.int .i64 T.kind, .int .u64 T.num, .string T.text, .slice T.ia T.len T.cap], .agg #[.int .i64 k0, .int .i64 k1]] w fun e w' => e = .returned (.bool true) ∧ Below w.heap.size w w' := by
  have HW := Lib.hid hw
  have HG := Lib.hid hg
  have HM := Lib.hid hm
  have HP := Lib.hid hp
  have HRP := Lib.hid hr
  have HE := Lib.hid he
  have HQ := Lib.hid (alloc_old (o := (.cells #[.int .i64 k0, .int .i64 k1] 27)) (alloc_at w (.cells #[.int .i64 T.kind, .int .u64 T.num, .string T.text, .slice T.ia T.len T.cap] 26)))
  have HK := Lib.hid (show ((w.alloc (.cells #[.int .i64 T.kind, .int .u64 T.num, .string T.text, .slice T.ia T.len T.cap] 26)).alloc (.cells #[.int .i64 k0, .int .i64 k1] 27)).heap[w.heap.size + 1]? = some (.cells #[.int .i64 k0, .int .i64 k1] 27) by have h := alloc_at (w.alloc (.cells #[.int .i64 T.kind, .int .u64 T.num, .string T.text, .slice T.ia T.len T.cap] 26)) (.cells #[.int .i64 k0, .int .i64 k1] 27); simpa using h)
  have HB := Lib.hid (((Below.refl w.heap.size w).alloc (Nat.le_refl _) (.cells #[.int .i64 T.kind, .int .u64 T.num, .string T.text, .slice T.ia T.len T.cap] 26)).alloc (by simp) (.cells #[.int .i64 k0, .int .i64 k1] 27))
  have hss : (B.toList == B.toList) = true := by simp
  have hff : (f != f) = false := by simp
  clear hw hg hm hp hr he
  go_enter Tryz.func3, Tryz.ntmps3
  go_upto_region 3 with (first
    | (go_at_call 6; refine (HG.out _ HB.out).mono ?_; rintro e w' ⟨rfl, rfl⟩)
    | (go_at_call 7; refine (HM.out _ HB.out).mono ?_; rintro e w1 ⟨rfl, hb1⟩; have HB1 := Lib.hid (below_step8' HB.out hb1); have HX1 := Lib.hid (box_keep HQ.out hb1); have HK1 := Lib.hid (box_keep HK.out hb1); clear hb1))
  have c0 : w1.cell? ⟨w.heap.size + 1, 0, none⟩ = some (.int .i64 k0) := cell_at (j := 0) HK1.out rfl
  have c1 : w1.cell? ⟨w.heap.size + 1, 1, none⟩ = some (.int .i64 k1) := cell_at (j := 1) HK1.out rfl
  clear HB HQ HK HK1 HM HG
  go_cut [7, 8] (fun a b wx => a = .int .i64 k0 ∧ b = .int .i64 k1 ∧ Hid (Below w.heap.size w wx) ∧ Hid (wx.heap[w.heap.size]? = some (.cells #[.int .i64 T.kind, .int .u64 T.num, .string T.text, .slice T.ia T.len T.cap] 26)))
  case first =>
    go_region_held3 (fun w' => w'.cell? ⟨w.heap.size + 1, 0, none⟩ = some (.int .i64 k0) ∧ w'.cell? ⟨w.heap.size + 1, 1, none⟩ = some (.int .i64 k1)) (exact ⟨c0, c1⟩) (fail)
    all_goals
      go_wp2_with fail
      go_meet
      exact ⟨rfl, rfl, Lib.hid HB1.out.drew, Lib.hid HX1.out⟩
  case rest =>
    obtain ⟨rfl, rfl, HB2, HX2⟩ := hcut
    clear c0 c1 HB1 HX1
    have d0 : wc.cell? ⟨w.heap.size, 0, none⟩ = some (.int .i64 T.kind) := cell_at HX2.out rfl
    have d1 : wc.cell? ⟨w.heap.size, 1, none⟩ = some (.int .u64 T.num) := cell_at HX2.out rfl
    have d2 : wc.cell? ⟨w.heap.size, 2, none⟩ = some (.string T.text) := cell_at HX2.out rfl
    have d3 : wc.cell? ⟨w.heap.size, 3, none⟩ = some (.slice T.ia T.len T.cap) := cell_at HX2.out rfl
    by_cases h0 : k1 < 0
    · go_wp2_with (first
        | (go_at_call 9; (with_reducible refine (HP.out _ HB2.out).mono ?_); rintro e w3 ⟨rfl, hb3⟩; have HB3 := Lib.hid (below_step8' HB2.out hb3); have HX3 := Lib.hid (box_keep HX2.out hb3); clear d0 d1 d2 d3; have d0 : w3.cell? ⟨w.heap.size, 0, none⟩ = some (.int .i64 T.kind) := cell_at HX3.out rfl; have d1 : w3.cell? ⟨w.heap.size, 1, none⟩ = some (.int .u64 T.num) := cell_at HX3.out rfl; have d2 : w3.cell? ⟨w.heap.size, 2, none⟩ = some (.string T.text) := cell_at HX3.out rfl; have d3 : w3.cell? ⟨w.heap.size, 3, none⟩ = some (.slice T.ia T.len T.cap) := cell_at HX3.out rfl; clear hb3)
        | (go_at_call 10; (with_reducible refine (HRP.out _ HB3.out).mono ?_); rintro e w4 ⟨rfl, hb4⟩; have HB4 := Lib.hid (below_step8' HB3.out hb4); have HX4 := Lib.hid (box_keep HX3.out hb4); clear d0 d1 d2 d3; have d0 : w4.cell? ⟨w.heap.size, 0, none⟩ = some (.int .i64 T.kind) := cell_at HX4.out rfl; have d1 : w4.cell? ⟨w.heap.size, 1, none⟩ = some (.int .u64 T.num) := cell_at HX4.out rfl; have d2 : w4.cell? ⟨w.heap.size, 2, none⟩ = some (.string T.text) := cell_at HX4.out rfl; have d3 : w4.cell? ⟨w.heap.size, 3, none⟩ = some (.slice T.ia T.len T.cap) := cell_at HX4.out rfl; clear hb4)
        | (go_at_call 11; (with_reducible refine (HE.out _ HB4.out).mono ?_); rintro e w5 ⟨rfl, hb5⟩; have HB5 := Lib.hid (below_step8' HB4.out hb5); have HX5 := Lib.hid (box_keep HX4.out hb5); clear d0 d1 d2 d3; have d0 : w5.cell? ⟨w.heap.size, 0, none⟩ = some (.int .i64 T.kind) := cell_at HX5.out rfl; have d1 : w5.cell? ⟨w.heap.size, 1, none⟩ = some (.int .u64 T.num) := cell_at HX5.out rfl; have d2 : w5.cell? ⟨w.heap.size, 2, none⟩ = some (.string T.text) := cell_at HX5.out rfl; have d3 : w5.cell? ⟨w.heap.size, 3, none⟩ = some (.slice T.ia T.len T.cap) := cell_at HX5.out rfl; clear hb5)
        | (go_at_call 8; refine (HW.out _ HB5.out).mono ?_; rintro e w9 ⟨rfl, hb9⟩; have HB9 := Lib.hid (below_step8' HB5.out hb9); clear hb9))
      go_ret
      exact ⟨rfl, HB9.out⟩
    · have h1 : 512 < k1 := by omega
      go_wp2_with (first
        | (go_at_call 9; (with_reducible refine (HP.out _ HB2.out).mono ?_); rintro e w3 ⟨rfl, hb3⟩; have HB3 := Lib.hid (below_step8' HB2.out hb3); have HX3 := Lib.hid (box_keep HX2.out hb3); clear d0 d1 d2 d3; have d0 : w3.cell? ⟨w.heap.size, 0, none⟩ = some (.int .i64 T.kind) := cell_at HX3.out rfl; have d1 : w3.cell? ⟨w.heap.size, 1, none⟩ = some (.int .u64 T.num) := cell_at HX3.out rfl; have d2 : w3.cell? ⟨w.heap.size, 2, none⟩ = some (.string T.text) := cell_at HX3.out rfl; have d3 : w3.cell? ⟨w.heap.size, 3, none⟩ = some (.slice T.ia T.len T.cap) := cell_at HX3.out rfl; clear hb3)
        | (go_at_call 10; (with_reducible refine (HRP.out _ HB3.out).mono ?_); rintro e w4 ⟨rfl, hb4⟩; have HB4 := Lib.hid (below_step8' HB3.out hb4); have HX4 := Lib.hid (box_keep HX3.out hb4); clear d0 d1 d2 d3; have d0 : w4.cell? ⟨w.heap.size, 0, none⟩ = some (.int .i64 T.kind) := cell_at HX4.out rfl; have d1 : w4.cell? ⟨w.heap.size, 1, none⟩ = some (.int .u64 T.num) := cell_at HX4.out rfl; have d2 : w4.cell? ⟨w.heap.size, 2, none⟩ = some (.string T.text) := cell_at HX4.out rfl; have d3 : w4.cell? ⟨w.heap.size, 3, none⟩ = some (.slice T.ia T.len T.cap) := cell_at HX4.out rfl; clear hb4)
        | (go_at_call 11; (with_reducible refine (HE.out _ HB4.out).mono ?_); rintro e w5 ⟨rfl, hb5⟩; have HB5 := Lib.hid (below_step8' HB4.out hb5); have HX5 := Lib.hid (box_keep HX4.out hb5); clear d0 d1 d2 d3; have d0 : w5.cell? ⟨w.heap.size, 0, none⟩ = some (.int .i64 T.kind) := cell_at HX5.out rfl; have d1 : w5.cell? ⟨w.heap.size, 1, none⟩ = some (.int .u64 T.num) := cell_at HX5.out rfl; have d2 : w5.cell? ⟨w.heap.size, 2, none⟩ = some (.string T.text) := cell_at HX5.out rfl; have d3 : w5.cell? ⟨w.heap.size, 3, none⟩ = some (.slice T.ia T.len T.cap) := cell_at HX5.out rfl; clear hb5)
        | (go_at_call 8; refine (HW.out _ HB5.out).mono ?_; rintro e w9 ⟨rfl, hb9⟩; have HB9 := Lib.hid (below_step8' HB5.out hb9); clear hb9))
      go_ret
      exact ⟨rfl, HB9.out⟩
set_option maxRecDepth 100000 in
set_option maxHeartbeats 8000000 in
/-- a value without its type -/
theorem walk_no (ao : Option Addr) (len cap : Nat) (k0 k1 : Int) (B : ByteArray) (f : Int) (T : VT) (w : World) (hk0 : ¬ k1 < 0) (hk1 : ¬ 512 < k1) (hf0 : f ≠ 0)
    (hw : ∀ wx, Below w.heap.size w wx → Calls Tryz.prog 8 #[] wx fun e w' => e = .returned (.bool true) ∧ Below wx.heap.size wx w')
    (hg : ∀ wx, Below w.heap.size w wx → Calls Tryz.prog 6 #[.slice ao len cap] wx fun e w' => e = .returned (.bool false) ∧ wx = w')
    (hm : ∀ wx, Below w.heap.size w wx → Calls Tryz.prog 7 #[.agg #[.int .i64 T.kind, .int .u64 T.num, .string T.text, .slice T.ia T.len T.cap], .int .i64 0] wx fun e w' => e = .returned (.bool false) ∧ Below wx.heap.size wx w')
    (hp : ∀ wx, Below w.heap.size w wx → Calls Tryz.prog 9 #[.slice ao len cap, .int .i64 k0, .agg #[.int .i64 T.kind, .int .u64 T.num, .string T.text, .slice T.ia T.len T.cap]] wx fun e w' => e = .returned (.tuple #[.string B, .int .i64 f]) ∧ Below wx.heap.size wx w')
    (hr : ∀ wx, Below w.heap.size w wx → Calls Tryz.prog 10 #[.slice ao len cap, .int .i64 k0, .agg #[.int .i64 T.kind, .int .u64 T.num, .string T.text, .slice T.ia T.len T.cap]] wx fun e w' => e = .returned (.tuple #[.string B, .int .i64 f]) ∧ Below wx.heap.size wx w')
    (he : ∀ wx, Below w.heap.size w wx → Calls Tryz.prog 11 #[.slice ao len cap, .int .i64 k0, .agg #[.int .i64 T.kind, .int .u64 T.num, .string T.text, .slice T.ia T.len T.cap], .int .i64 k1] wx fun e w' => e = .returned (.tuple #[.int .i64 0, .int .i64 f]) ∧ Below wx.heap.size wx w')
    (hft : ∀ wx, Below w.heap.size w wx → Calls Tryz.prog 12 #[.slice ao len cap, .int .i64 k0, .agg #[.int .i64 T.kind, .int .u64 T.num, .string T.text, .slice T.ia T.len T.cap]] wx fun e w' => e = .returned (.int .i64 f) ∧ Below wx.heap.size wx w') :
    Calls Tryz.prog 3 #[.slice ao len cap, .agg #[.int .i64 T.kind, .int .u64 T.num, .string T.text, .slice T.ia T.len T.cap], .agg #[.int .i64 k0, .int .i64 k1]] w fun e w' => e = .returned (.bool true) ∧ Below w.heap.size w w' := by
  have HW := Lib.hid hw
  have HG := Lib.hid hg
  have HM := Lib.hid hm
  have HP := Lib.hid hp
  have HRP := Lib.hid hr
  have HE := Lib.hid he
  have HQ := Lib.hid (alloc_old (o := (.cells #[.int .i64 k0, .int .i64 k1] 27)) (alloc_at w (.cells #[.int .i64 T.kind, .int .u64 T.num, .string T.text, .slice T.ia T.len T.cap] 26)))
  have HK := Lib.hid (show ((w.alloc (.cells #[.int .i64 T.kind, .int .u64 T.num, .string T.text, .slice T.ia T.len T.cap] 26)).alloc (.cells #[.int .i64 k0, .int .i64 k1] 27)).heap[w.heap.size + 1]? = some (.cells #[.int .i64 k0, .int .i64 k1] 27) by have h := alloc_at (w.alloc (.cells #[.int .i64 T.kind, .int .u64 T.num, .string T.text, .slice T.ia T.len T.cap] 26)) (.cells #[.int .i64 k0, .int .i64 k1] 27); simpa using h)
  have HB := Lib.hid (((Below.refl w.heap.size w).alloc (Nat.le_refl _) (.cells #[.int .i64 T.kind, .int .u64 T.num, .string T.text, .slice T.ia T.len T.cap] 26)).alloc (by simp) (.cells #[.int .i64 k0, .int .i64 k1] 27))
  have hss : (B.toList == B.toList) = true := by simp
  have hff : (f != f) = false := by simp
  clear hw hg hm hp hr he
  have HFT := Lib.hid hft
  have hne : (f != 0) = true := by simpa using hf0
  have hqq : (f == f) = true := by simp
  clear hft hf0
  go_enter Tryz.func3, Tryz.ntmps3
  go_upto_region 3 with (first
    | (go_at_call 6; refine (HG.out _ HB.out).mono ?_; rintro e w' ⟨rfl, rfl⟩)
    | (go_at_call 7; refine (HM.out _ HB.out).mono ?_; rintro e w1 ⟨rfl, hb1⟩; have HB1 := Lib.hid (below_step8' HB.out hb1); have HX1 := Lib.hid (box_keep HQ.out hb1); have HK1 := Lib.hid (box_keep HK.out hb1); clear hb1))
  have c0 : w1.cell? ⟨w.heap.size + 1, 0, none⟩ = some (.int .i64 k0) := cell_at (j := 0) HK1.out rfl
  have c1 : w1.cell? ⟨w.heap.size + 1, 1, none⟩ = some (.int .i64 k1) := cell_at (j := 1) HK1.out rfl
  clear HB HQ HK HK1 HM HG
  go_cut [7, 8] (fun a b wx => a = .int .i64 k0 ∧ b = .int .i64 k1 ∧ Hid (Below w.heap.size w wx) ∧ Hid (wx.heap[w.heap.size]? = some (.cells #[.int .i64 T.kind, .int .u64 T.num, .string T.text, .slice T.ia T.len T.cap] 26)))
  case first =>
    go_region_held3 (fun w' => w'.cell? ⟨w.heap.size + 1, 0, none⟩ = some (.int .i64 k0) ∧ w'.cell? ⟨w.heap.size + 1, 1, none⟩ = some (.int .i64 k1)) (exact ⟨c0, c1⟩) (fail)
    all_goals
      go_wp2_with fail
      go_meet
      exact ⟨rfl, rfl, Lib.hid HB1.out.drew, Lib.hid HX1.out⟩
  case rest =>
    obtain ⟨rfl, rfl, HB2, HX2⟩ := hcut
    clear c0 c1 HB1 HX1
    have d0 : wc.cell? ⟨w.heap.size, 0, none⟩ = some (.int .i64 T.kind) := cell_at HX2.out rfl
    have d1 : wc.cell? ⟨w.heap.size, 1, none⟩ = some (.int .u64 T.num) := cell_at HX2.out rfl
    have d2 : wc.cell? ⟨w.heap.size, 2, none⟩ = some (.string T.text) := cell_at HX2.out rfl
    have d3 : wc.cell? ⟨w.heap.size, 3, none⟩ = some (.slice T.ia T.len T.cap) := cell_at HX2.out rfl
    by_cases h3 : f = 3
    · have h3' : (f != 3) = false := by rw [h3]; rfl
      clear h3
      go_wp2_with (first
        | (go_at_call 9; (with_reducible refine (HP.out _ HB2.out).mono ?_); rintro e w3 ⟨rfl, hb3⟩; have HB3 := Lib.hid (below_step8' HB2.out hb3); have HX3 := Lib.hid (box_keep HX2.out hb3); clear d0 d1 d2 d3; have d0 : w3.cell? ⟨w.heap.size, 0, none⟩ = some (.int .i64 T.kind) := cell_at HX3.out rfl; have d1 : w3.cell? ⟨w.heap.size, 1, none⟩ = some (.int .u64 T.num) := cell_at HX3.out rfl; have d2 : w3.cell? ⟨w.heap.size, 2, none⟩ = some (.string T.text) := cell_at HX3.out rfl; have d3 : w3.cell? ⟨w.heap.size, 3, none⟩ = some (.slice T.ia T.len T.cap) := cell_at HX3.out rfl; clear hb3)
        | (go_at_call 10; (with_reducible refine (HRP.out _ HB3.out).mono ?_); rintro e w4 ⟨rfl, hb4⟩; have HB4 := Lib.hid (below_step8' HB3.out hb4); have HX4 := Lib.hid (box_keep HX3.out hb4); clear d0 d1 d2 d3; have d0 : w4.cell? ⟨w.heap.size, 0, none⟩ = some (.int .i64 T.kind) := cell_at HX4.out rfl; have d1 : w4.cell? ⟨w.heap.size, 1, none⟩ = some (.int .u64 T.num) := cell_at HX4.out rfl; have d2 : w4.cell? ⟨w.heap.size, 2, none⟩ = some (.string T.text) := cell_at HX4.out rfl; have d3 : w4.cell? ⟨w.heap.size, 3, none⟩ = some (.slice T.ia T.len T.cap) := cell_at HX4.out rfl; clear hb4)
        | (go_at_call 11; (with_reducible refine (HE.out _ HB4.out).mono ?_); rintro e w5 ⟨rfl, hb5⟩; have HB5 := Lib.hid (below_step8' HB4.out hb5); have HX5 := Lib.hid (box_keep HX4.out hb5); clear d0 d1 d2 d3; have d0 : w5.cell? ⟨w.heap.size, 0, none⟩ = some (.int .i64 T.kind) := cell_at HX5.out rfl; have d1 : w5.cell? ⟨w.heap.size, 1, none⟩ = some (.int .u64 T.num) := cell_at HX5.out rfl; have d2 : w5.cell? ⟨w.heap.size, 2, none⟩ = some (.string T.text) := cell_at HX5.out rfl; have d3 : w5.cell? ⟨w.heap.size, 3, none⟩ = some (.slice T.ia T.len T.cap) := cell_at HX5.out rfl; clear hb5)
        | (go_at_call 12; (with_reducible refine (HFT.out _ HB5.out).mono ?_); rintro e w6 ⟨rfl, hb6⟩; have HB6 := Lib.hid (below_step8' HB5.out hb6); have HX6 := Lib.hid (box_keep HX5.out hb6); clear d0 d1 d2 d3; have d0 : w6.cell? ⟨w.heap.size, 0, none⟩ = some (.int .i64 T.kind) := cell_at HX6.out rfl; have d1 : w6.cell? ⟨w.heap.size, 1, none⟩ = some (.int .u64 T.num) := cell_at HX6.out rfl; have d2 : w6.cell? ⟨w.heap.size, 2, none⟩ = some (.string T.text) := cell_at HX6.out rfl; have d3 : w6.cell? ⟨w.heap.size, 3, none⟩ = some (.slice T.ia T.len T.cap) := cell_at HX6.out rfl; clear hb6)
        | (go_at_call 8; refine (HW.out _ HB6.out).mono ?_; rintro e w9 ⟨rfl, hb9⟩; have HB9 := Lib.hid (below_step8' HB6.out hb9); clear hb9))
      go_ret
      exact ⟨rfl, HB9.out⟩
    · have h3' : (f != 3) = true := by simpa using h3
      clear h3
      go_wp2_with (first
        | (go_at_call 9; (with_reducible refine (HP.out _ HB2.out).mono ?_); rintro e w3 ⟨rfl, hb3⟩; have HB3 := Lib.hid (below_step8' HB2.out hb3); have HX3 := Lib.hid (box_keep HX2.out hb3); clear d0 d1 d2 d3; have d0 : w3.cell? ⟨w.heap.size, 0, none⟩ = some (.int .i64 T.kind) := cell_at HX3.out rfl; have d1 : w3.cell? ⟨w.heap.size, 1, none⟩ = some (.int .u64 T.num) := cell_at HX3.out rfl; have d2 : w3.cell? ⟨w.heap.size, 2, none⟩ = some (.string T.text) := cell_at HX3.out rfl; have d3 : w3.cell? ⟨w.heap.size, 3, none⟩ = some (.slice T.ia T.len T.cap) := cell_at HX3.out rfl; clear hb3)
        | (go_at_call 10; (with_reducible refine (HRP.out _ HB3.out).mono ?_); rintro e w4 ⟨rfl, hb4⟩; have HB4 := Lib.hid (below_step8' HB3.out hb4); have HX4 := Lib.hid (box_keep HX3.out hb4); clear d0 d1 d2 d3; have d0 : w4.cell? ⟨w.heap.size, 0, none⟩ = some (.int .i64 T.kind) := cell_at HX4.out rfl; have d1 : w4.cell? ⟨w.heap.size, 1, none⟩ = some (.int .u64 T.num) := cell_at HX4.out rfl; have d2 : w4.cell? ⟨w.heap.size, 2, none⟩ = some (.string T.text) := cell_at HX4.out rfl; have d3 : w4.cell? ⟨w.heap.size, 3, none⟩ = some (.slice T.ia T.len T.cap) := cell_at HX4.out rfl; clear hb4)
        | (go_at_call 11; (with_reducible refine (HE.out _ HB4.out).mono ?_); rintro e w5 ⟨rfl, hb5⟩; have HB5 := Lib.hid (below_step8' HB4.out hb5); have HX5 := Lib.hid (box_keep HX4.out hb5); clear d0 d1 d2 d3; have d0 : w5.cell? ⟨w.heap.size, 0, none⟩ = some (.int .i64 T.kind) := cell_at HX5.out rfl; have d1 : w5.cell? ⟨w.heap.size, 1, none⟩ = some (.int .u64 T.num) := cell_at HX5.out rfl; have d2 : w5.cell? ⟨w.heap.size, 2, none⟩ = some (.string T.text) := cell_at HX5.out rfl; have d3 : w5.cell? ⟨w.heap.size, 3, none⟩ = some (.slice T.ia T.len T.cap) := cell_at HX5.out rfl; clear hb5)
        | (go_at_call 8; refine (HW.out _ HB5.out).mono ?_; rintro e w9 ⟨rfl, hb9⟩; have HB9 := Lib.hid (below_step8' HB5.out hb9); clear hb9))
      go_ret
      exact ⟨rfl, HB9.out⟩
set_option maxRecDepth 100000 in
set_option maxHeartbeats 8000000 in
/-- a value of its type -/
theorem walk_yes (ao : Option Addr) (len cap : Nat) (k0 : Int) (A : Nat) (B : ByteArray) (f : Int) (r : List RPart) (T : VT) (w : World) (hA : A ≤ 512) (hfv : f = 0 ∨ f = 3) (hok : ∀ p ∈ r, okPart p) (hrl : r.length ≤ 2513169434843) (hre : endR r A ≤ 4611686018427387904)
    (hw : ∀ wx, Below w.heap.size w wx → Calls Tryz.prog 8 #[] wx fun e w' => e = .returned (.bool true) ∧ Below wx.heap.size wx w')
    (hg : ∀ wx, Below w.heap.size w wx → Calls Tryz.prog 6 #[.slice ao len cap] wx fun e w' => e = .returned (.bool false) ∧ wx = w')
    (hm : ∀ wx, Below w.heap.size w wx → Calls Tryz.prog 7 #[.agg #[.int .i64 T.kind, .int .u64 T.num, .string T.text, .slice T.ia T.len T.cap], .int .i64 0] wx fun e w' => e = .returned (.bool false) ∧ Below wx.heap.size wx w')
    (hp : ∀ wx, Below w.heap.size w wx → Calls Tryz.prog 9 #[.slice ao len cap, .int .i64 k0, .agg #[.int .i64 T.kind, .int .u64 T.num, .string T.text, .slice T.ia T.len T.cap]] wx fun e w' => e = .returned (.tuple #[.string B, .int .i64 f]) ∧ Below wx.heap.size wx w')
    (hr : ∀ wx, Below w.heap.size w wx → Calls Tryz.prog 10 #[.slice ao len cap, .int .i64 k0, .agg #[.int .i64 T.kind, .int .u64 T.num, .string T.text, .slice T.ia T.len T.cap]] wx fun e w' => e = .returned (.tuple #[.string B, .int .i64 f]) ∧ Below wx.heap.size wx w')
    (he : ∀ wx, Below w.heap.size w wx → Calls Tryz.prog 11 #[.slice ao len cap, .int .i64 k0, .agg #[.int .i64 T.kind, .int .u64 T.num, .string T.text, .slice T.ia T.len T.cap], .int .i64 ((A : Nat) : Int)] wx fun e w' => e = .returned (.tuple #[.int .i64 (endR r A : Nat), .int .i64 0]) ∧ Below wx.heap.size wx w')
    (hft : ∀ wx, Below w.heap.size w wx → Calls Tryz.prog 12 #[.slice ao len cap, .int .i64 k0, .agg #[.int .i64 T.kind, .int .u64 T.num, .string T.text, .slice T.ia T.len T.cap]] wx fun e w' => e = .returned (.int .i64 0) ∧ Below wx.heap.size wx w')
    (hro : ∀ wx, Below w.heap.size w wx → Calls Tryz.prog 14 #[.slice ao len cap, .int .i64 k0, .agg #[.int .i64 T.kind, .int .u64 T.num, .string T.text, .slice T.ia T.len T.cap]] wx (RowTo r wx)) :
    Calls Tryz.prog 3 #[.slice ao len cap, .agg #[.int .i64 T.kind, .int .u64 T.num, .string T.text, .slice T.ia T.len T.cap], .agg #[.int .i64 k0, .int .i64 ((A : Nat) : Int)]] w fun e w' => e = .returned (.bool true) ∧ Below w.heap.size w w' := by
  have hre2 := fun g c wx hin => rend_any g c r A hok hrl hre wx hin
  obtain ⟨E, hE⟩ : ∃ E, endR r A = E := ⟨_, rfl⟩
  rw [hE] at he hre2
  obtain ⟨k1, hk1⟩ : ∃ k1 : Int, ((A : Nat) : Int) = k1 := ⟨_, rfl⟩
  rw [hk1] at he hre2 ⊢
  have hn0 : ¬ k1 < 0 := by omega
  have hn1 : ¬ 512 < k1 := by omega
  have HW := Lib.hid hw
  have HG := Lib.hid hg
  have HM := Lib.hid hm
  have HP := Lib.hid hp
  have HRP := Lib.hid hr
  have HE := Lib.hid he
  have HQ := Lib.hid (alloc_old (o := (.cells #[.int .i64 k0, .int .i64 k1] 27)) (alloc_at w (.cells #[.int .i64 T.kind, .int .u64 T.num, .string T.text, .slice T.ia T.len T.cap] 26)))
  have HK := Lib.hid (show ((w.alloc (.cells #[.int .i64 T.kind, .int .u64 T.num, .string T.text, .slice T.ia T.len T.cap] 26)).alloc (.cells #[.int .i64 k0, .int .i64 k1] 27)).heap[w.heap.size + 1]? = some (.cells #[.int .i64 k0, .int .i64 k1] 27) by have h := alloc_at (w.alloc (.cells #[.int .i64 T.kind, .int .u64 T.num, .string T.text, .slice T.ia T.len T.cap] 26)) (.cells #[.int .i64 k0, .int .i64 k1] 27); simpa using h)
  have HB := Lib.hid (((Below.refl w.heap.size w).alloc (Nat.le_refl _) (.cells #[.int .i64 T.kind, .int .u64 T.num, .string T.text, .slice T.ia T.len T.cap] 26)).alloc (by simp) (.cells #[.int .i64 k0, .int .i64 k1] 27))
  have hss : (B.toList == B.toList) = true := by simp
  have hff : (f != f) = false := by simp
  clear hw hg hm hp hr he
  have HFT := Lib.hid hft
  unfold RowTo at hro
  have HRO := Lib.hid hro
  have HEN := Lib.hid hre2
  have hEE : (((E : Nat) : Int) == ((E : Nat) : Int)) = true := by simp
  clear hft hro hre2 hE hk1 hok hre hrl hA
  go_enter Tryz.func3, Tryz.ntmps3
  go_upto_region 3 with (first
    | (go_at_call 6; refine (HG.out _ HB.out).mono ?_; rintro e w' ⟨rfl, rfl⟩)
    | (go_at_call 7; refine (HM.out _ HB.out).mono ?_; rintro e w1 ⟨rfl, hb1⟩; have HB1 := Lib.hid (below_step8' HB.out hb1); have HX1 := Lib.hid (box_keep HQ.out hb1); have HK1 := Lib.hid (box_keep HK.out hb1); clear hb1))
  have c0 : w1.cell? ⟨w.heap.size + 1, 0, none⟩ = some (.int .i64 k0) := cell_at (j := 0) HK1.out rfl
  have c1 : w1.cell? ⟨w.heap.size + 1, 1, none⟩ = some (.int .i64 k1) := cell_at (j := 1) HK1.out rfl
  clear HB HQ HK HK1 HM HG
  go_cut [7, 8] (fun a b wx => a = .int .i64 k0 ∧ b = .int .i64 k1 ∧ Hid (Below w.heap.size w wx) ∧ Hid (wx.heap[w.heap.size]? = some (.cells #[.int .i64 T.kind, .int .u64 T.num, .string T.text, .slice T.ia T.len T.cap] 26)))
  case first =>
    go_region_held3 (fun w' => w'.cell? ⟨w.heap.size + 1, 0, none⟩ = some (.int .i64 k0) ∧ w'.cell? ⟨w.heap.size + 1, 1, none⟩ = some (.int .i64 k1)) (exact ⟨c0, c1⟩) (fail)
    all_goals
      go_wp2_with fail
      go_meet
      exact ⟨rfl, rfl, Lib.hid HB1.out.drew, Lib.hid HX1.out⟩
  case rest =>
    obtain ⟨rfl, rfl, HB2, HX2⟩ := hcut
    clear c0 c1 HB1 HX1
    have d0 : wc.cell? ⟨w.heap.size, 0, none⟩ = some (.int .i64 T.kind) := cell_at HX2.out rfl
    have d1 : wc.cell? ⟨w.heap.size, 1, none⟩ = some (.int .u64 T.num) := cell_at HX2.out rfl
    have d2 : wc.cell? ⟨w.heap.size, 2, none⟩ = some (.string T.text) := cell_at HX2.out rfl
    have d3 : wc.cell? ⟨w.heap.size, 3, none⟩ = some (.slice T.ia T.len T.cap) := cell_at HX2.out rfl
    rcases hfv with rfl | rfl
    · go_wp2_with (first
        | (go_at_call 9; (with_reducible refine (HP.out _ HB2.out).mono ?_); rintro e w3 ⟨rfl, hb3⟩; have HB3 := Lib.hid (below_step8' HB2.out hb3); have HX3 := Lib.hid (box_keep HX2.out hb3); clear d0 d1 d2 d3; have d0 : w3.cell? ⟨w.heap.size, 0, none⟩ = some (.int .i64 T.kind) := cell_at HX3.out rfl; have d1 : w3.cell? ⟨w.heap.size, 1, none⟩ = some (.int .u64 T.num) := cell_at HX3.out rfl; have d2 : w3.cell? ⟨w.heap.size, 2, none⟩ = some (.string T.text) := cell_at HX3.out rfl; have d3 : w3.cell? ⟨w.heap.size, 3, none⟩ = some (.slice T.ia T.len T.cap) := cell_at HX3.out rfl; clear hb3)
        | (go_at_call 10; (with_reducible refine (HRP.out _ HB3.out).mono ?_); rintro e w4 ⟨rfl, hb4⟩; have HB4 := Lib.hid (below_step8' HB3.out hb4); have HX4 := Lib.hid (box_keep HX3.out hb4); clear d0 d1 d2 d3; have d0 : w4.cell? ⟨w.heap.size, 0, none⟩ = some (.int .i64 T.kind) := cell_at HX4.out rfl; have d1 : w4.cell? ⟨w.heap.size, 1, none⟩ = some (.int .u64 T.num) := cell_at HX4.out rfl; have d2 : w4.cell? ⟨w.heap.size, 2, none⟩ = some (.string T.text) := cell_at HX4.out rfl; have d3 : w4.cell? ⟨w.heap.size, 3, none⟩ = some (.slice T.ia T.len T.cap) := cell_at HX4.out rfl; clear hb4)
        | (go_at_call 11; (with_reducible refine (HE.out _ HB4.out).mono ?_); rintro e w5 ⟨rfl, hb5⟩; have HB5 := Lib.hid (below_step8' HB4.out hb5); have HX5 := Lib.hid (box_keep HX4.out hb5); clear d0 d1 d2 d3; have d0 : w5.cell? ⟨w.heap.size, 0, none⟩ = some (.int .i64 T.kind) := cell_at HX5.out rfl; have d1 : w5.cell? ⟨w.heap.size, 1, none⟩ = some (.int .u64 T.num) := cell_at HX5.out rfl; have d2 : w5.cell? ⟨w.heap.size, 2, none⟩ = some (.string T.text) := cell_at HX5.out rfl; have d3 : w5.cell? ⟨w.heap.size, 3, none⟩ = some (.slice T.ia T.len T.cap) := cell_at HX5.out rfl; clear hb5)
        | (go_at_call 12; (with_reducible refine (HFT.out _ HB5.out).mono ?_); rintro e w6 ⟨rfl, hb6⟩; have HB6 := Lib.hid (below_step8' HB5.out hb6); have HX6 := Lib.hid (box_keep HX5.out hb6); clear d0 d1 d2 d3; have d0 : w6.cell? ⟨w.heap.size, 0, none⟩ = some (.int .i64 T.kind) := cell_at HX6.out rfl; have d1 : w6.cell? ⟨w.heap.size, 1, none⟩ = some (.int .u64 T.num) := cell_at HX6.out rfl; have d2 : w6.cell? ⟨w.heap.size, 2, none⟩ = some (.string T.text) := cell_at HX6.out rfl; have d3 : w6.cell? ⟨w.heap.size, 3, none⟩ = some (.slice T.ia T.len T.cap) := cell_at HX6.out rfl; clear hb6)
        | (go_at_call 14; (with_reducible refine (HRO.out _ HB6.out).mono ?_); rintro e w7 ⟨g7, c7, rfl, hown7, hb7⟩; have HB7 := Lib.hid (below_step8' HB6.out hb7); have HI7 := Lib.hid (row_in hown7); clear d0 d1 d2 d3 hb7 hown7)
        | (go_at_call 13; refine (HEN.out _ _ _ HI7.out).mono ?_; rintro e w8 ⟨rfl, hb8⟩; have HB8 := Lib.hid (below_step8' HB7.out hb8); clear hb8)
        | (go_at_call 8; refine (HW.out _ HB8.out).mono ?_; rintro e w9 ⟨rfl, hb9⟩; have HB9 := Lib.hid (below_step8' HB8.out hb9); clear hb9))
      go_ret
      exact ⟨rfl, HB9.out⟩
    · go_wp2_with (first
        | (go_at_call 9; (with_reducible refine (HP.out _ HB2.out).mono ?_); rintro e w3 ⟨rfl, hb3⟩; have HB3 := Lib.hid (below_step8' HB2.out hb3); have HX3 := Lib.hid (box_keep HX2.out hb3); clear d0 d1 d2 d3; have d0 : w3.cell? ⟨w.heap.size, 0, none⟩ = some (.int .i64 T.kind) := cell_at HX3.out rfl; have d1 : w3.cell? ⟨w.heap.size, 1, none⟩ = some (.int .u64 T.num) := cell_at HX3.out rfl; have d2 : w3.cell? ⟨w.heap.size, 2, none⟩ = some (.string T.text) := cell_at HX3.out rfl; have d3 : w3.cell? ⟨w.heap.size, 3, none⟩ = some (.slice T.ia T.len T.cap) := cell_at HX3.out rfl; clear hb3)
        | (go_at_call 10; (with_reducible refine (HRP.out _ HB3.out).mono ?_); rintro e w4 ⟨rfl, hb4⟩; have HB4 := Lib.hid (below_step8' HB3.out hb4); have HX4 := Lib.hid (box_keep HX3.out hb4); clear d0 d1 d2 d3; have d0 : w4.cell? ⟨w.heap.size, 0, none⟩ = some (.int .i64 T.kind) := cell_at HX4.out rfl; have d1 : w4.cell? ⟨w.heap.size, 1, none⟩ = some (.int .u64 T.num) := cell_at HX4.out rfl; have d2 : w4.cell? ⟨w.heap.size, 2, none⟩ = some (.string T.text) := cell_at HX4.out rfl; have d3 : w4.cell? ⟨w.heap.size, 3, none⟩ = some (.slice T.ia T.len T.cap) := cell_at HX4.out rfl; clear hb4)
        | (go_at_call 11; (with_reducible refine (HE.out _ HB4.out).mono ?_); rintro e w5 ⟨rfl, hb5⟩; have HB5 := Lib.hid (below_step8' HB4.out hb5); have HX5 := Lib.hid (box_keep HX4.out hb5); clear d0 d1 d2 d3; have d0 : w5.cell? ⟨w.heap.size, 0, none⟩ = some (.int .i64 T.kind) := cell_at HX5.out rfl; have d1 : w5.cell? ⟨w.heap.size, 1, none⟩ = some (.int .u64 T.num) := cell_at HX5.out rfl; have d2 : w5.cell? ⟨w.heap.size, 2, none⟩ = some (.string T.text) := cell_at HX5.out rfl; have d3 : w5.cell? ⟨w.heap.size, 3, none⟩ = some (.slice T.ia T.len T.cap) := cell_at HX5.out rfl; clear hb5)
        | (go_at_call 12; (with_reducible refine (HFT.out _ HB5.out).mono ?_); rintro e w6 ⟨rfl, hb6⟩; have HB6 := Lib.hid (below_step8' HB5.out hb6); have HX6 := Lib.hid (box_keep HX5.out hb6); clear d0 d1 d2 d3; have d0 : w6.cell? ⟨w.heap.size, 0, none⟩ = some (.int .i64 T.kind) := cell_at HX6.out rfl; have d1 : w6.cell? ⟨w.heap.size, 1, none⟩ = some (.int .u64 T.num) := cell_at HX6.out rfl; have d2 : w6.cell? ⟨w.heap.size, 2, none⟩ = some (.string T.text) := cell_at HX6.out rfl; have d3 : w6.cell? ⟨w.heap.size, 3, none⟩ = some (.slice T.ia T.len T.cap) := cell_at HX6.out rfl; clear hb6)
        | (go_at_call 14; (with_reducible refine (HRO.out _ HB6.out).mono ?_); rintro e w7 ⟨g7, c7, rfl, hown7, hb7⟩; have HB7 := Lib.hid (below_step8' HB6.out hb7); have HI7 := Lib.hid (row_in hown7); clear d0 d1 d2 d3 hb7 hown7)
        | (go_at_call 13; refine (HEN.out _ _ _ HI7.out).mono ?_; rintro e w8 ⟨rfl, hb8⟩; have HB8 := Lib.hid (below_step8' HB7.out hb8); clear hb8)
        | (go_at_call 8; refine (HW.out _ HB8.out).mono ?_; rintro e w9 ⟨rfl, hb9⟩; have HB9 := Lib.hid (below_step8' HB8.out hb9); clear hb9))
      go_ret
      exact ⟨rfl, HB9.out⟩
set_option maxRecDepth 100000 in
set_option maxHeartbeats 8000000 in
theorem walk (ao : Option Addr) (len cap : Nat) (L : Nat → TypeV) (k0 k1 : Int) (T : VT) (S : Nat → Prop) (hcap : len ≤ cap) (hm : len ≤ 140737488351232) (hcp : ∀ i, i < len → (L i).ilen ≤ (L i).icap) (w : World) (H : ∀ i, i < len → TypeAt w ao i (L i)) (HV : ValAt w S T) :
    Calls Tryz.prog 3 #[.slice ao len cap, .agg #[.int .i64 T.kind, .int .u64 T.num, .string T.text, .slice T.ia T.len T.cap], .agg #[.int .i64 k0, .int .i64 k1]] w fun e w' => e = .returned (.bool true) ∧ Below w.heap.size w w' := by
  have hw := fun wx (hb : Below w.heap.size w wx) => awake10_any wx
  have hg := fun wx (hb : Below w.heap.size w wx) => great_any ao len cap L hm wx (hold H hb)
  have hmu := fun wx (hb : Below w.heap.size w wx) => refMuch_any S T 0 wx (HV.next hb) (by omega)
  unfold RMuchTo at hmu
  rw [show ((0 : Nat) : Int) = 0 from rfl] at hmu
  cases hbig : greatB L len with
  | true =>
    rw [hbig] at hg
    have HW := Lib.hid hw
    have HG := Lib.hid hg
    have HB := Lib.hid (((Below.refl w.heap.size w).alloc (Nat.le_refl _) (.cells #[.int .i64 T.kind, .int .u64 T.num, .string T.text, .slice T.ia T.len T.cap] 26)).alloc (by simp) (.cells #[.int .i64 k0, .int .i64 k1] 27))
    clear hw hg hmu hbig HV H hcp
    go_enter Tryz.func3, Tryz.ntmps3
    go_wp2_with (first
      | (go_at_call 6; refine (HG.out _ HB.out).mono ?_; rintro e w' ⟨rfl, rfl⟩)
      | (go_at_call 8; refine (HW.out _ HB.out).mono ?_; rintro e w9 ⟨rfl, hb9⟩; have HB9 := Lib.hid (below_step8' HB.out hb9); clear hb9))
    go_ret
    exact ⟨rfl, HB9.out⟩
  | false =>
  have hlen := great_lt hbig
  rw [hbig] at hg
  cases hmt : muchT T 0 with
  | true =>
    rw [hmt] at hmu
    have HW := Lib.hid hw
    have HG := Lib.hid hg
    have HM := Lib.hid hmu
    have HB := Lib.hid (((Below.refl w.heap.size w).alloc (Nat.le_refl _) (.cells #[.int .i64 T.kind, .int .u64 T.num, .string T.text, .slice T.ia T.len T.cap] 26)).alloc (by simp) (.cells #[.int .i64 k0, .int .i64 k1] 27))
    clear hw hg hmu hmt HV H hcp hbig
    go_enter Tryz.func3, Tryz.ntmps3
    go_wp2_with (first
      | (go_at_call 6; refine (HG.out _ HB.out).mono ?_; rintro e w' ⟨rfl, rfl⟩)
      | (go_at_call 7; refine (HM.out _ HB.out).mono ?_; rintro e w1 ⟨rfl, hb1⟩; have HB1 := Lib.hid (below_step8' HB.out hb1); clear hb1)
      | (go_at_call 8; refine (HW.out _ HB1.out).mono ?_; rintro e w9 ⟨rfl, hb9⟩; have HB9 := Lib.hid (below_step8' HB1.out hb9); clear hb9))
    go_ret
    exact ⟨rfl, HB9.out⟩
  | false =>
  rw [hmt] at hmu
  have he := fun wx (hb : Below w.heap.size w wx) => end_any ao len cap L (by omega) hcap hcp S k0 T k1 wx (HV.next hb) (hold H hb)
  have hf := fun wx (hb : Below w.heap.size w wx) => fits9_any ao len cap L (by omega) hcap hcp S k0 T wx (HV.next hb) (hold H hb)
  have hp := fun wx (hb : Below w.heap.size w wx) => put_any10 ao len cap L (by omega) hcap hcp S k0 T wx (HV.next hb) (hold H hb)
  have hr := fun wx (hb : Below w.heap.size w wx) => rput10_any ao len cap L (by omega) S k0 T wx (HV.next hb) (hold H hb)
  by_cases hk : k1 < 0 ∨ 512 < k1
  · have e1 : endErr L len k0 T k1 = 7 := by unfold endErr; rw [if_pos hk]
    have e2 : endAt L len k0 T k1 = 0 := by unfold endAt; rw [e1]; rfl
    rw [e1, e2] at he
    exact walk_out ao len cap k0 k1 _ _ T w hk hw hg hmu hp hr he
  have e1 : endErr L len k0 T k1 = fitsA L len k0 T := by unfold endErr; rw [if_neg hk]
  by_cases hE : fitsA L len k0 T = 0
  · obtain ⟨A, rfl⟩ : ∃ A : Nat, k1 = A := ⟨k1.toNat, by omega⟩
    obtain ⟨k, rfl, hkl, hfe, hft⟩ := fitsA_zero hE
    have hv := ok_all hfe
    have hok := row_okP hv T k hkl hft
    have hfar := row_far hv hkl (valAt_wf T HV) hft A
    have hsh := row_short (rowT L T k) A hok
    have e2 : endAt L len (k : Nat) T (A : Nat) = ((endR (rowT L T k) A : Nat) : Int) := by unfold endAt; rw [e1, if_pos hE]; rfl
    rw [e1, hE, e2] at he
    rw [hE] at hf
    have hpe : putErr L len (k : Nat) T = 0 ∨ putErr L len (k : Nat) T = 3 := by
      unfold putErr; rw [if_neg (by rw [hE]; decide)]; split
      · exact .inr rfl
      · exact .inl rfl
    exact walk_yes ao len cap (k : Nat) A _ _ (rowT L T k) T w (by omega) hpe hok (by omega) (by omega) hw hg hmu hp hr he hf (fun wx hb => refRow_any ao len cap L (by omega) hfe S T k wx (HV.next hb) (hold H hb) hkl hft)
  · have e2 : endAt L len k0 T k1 = 0 := by unfold endAt; rw [e1, if_neg hE]
    have e4 : putErr L len k0 T = fitsA L len k0 T := by unfold putErr; rw [if_pos hE]
    rw [e1, e2] at he
    rw [e4] at hp hr
    exact walk_no ao len cap k0 k1 _ _ T w (by omega) (by omega) hE hw hg hmu hp hr he hf
set_option maxRecDepth 100000 in
theorem lifted (os : Os) (started : os.Started) (H : Type) (enc : TypeId × Value → H) :
    ReturnsInHanded {} Tryz.checked os 3 .any (Rows.putTellsSpec.pre6 enc Tryz.prog Tryz.f3 Rows.putTellsRow.domain false) (Rows.putTellsSpec.post enc Tryz.prog Tryz.f3 false true false false) := by
  refine returnsInHanded_of_change_sized (C := Tryz.checked) own started (by kernel_rfl) Tryz.func3
    (ChangeSpec.witness6 (enc := enc) (C := Tryz.checked) false ⟨#[], #[.slice none 0 0, .agg #[.int .i64 0, .int .u64 0, .string ⟨#[]⟩, .slice none 0 0], .agg #[.int .i64 0, .int .i64 0]], []⟩ 8 (by kernel_rfl) (by kernel_rfl) (by kernel_rfl) (by kernel_rfl)) ?_
  intro W base args ds gs before hval0 hW hcnd hsz _
  have hval : ∀ (j : Nat) t v, Tryz.f3.params[j]? = some t → args[j]? = some v → Value.okWide Tryz.prog W .any base t v := hval0
  have hW' := hW
  obtain ⟨p, q, hA0, hV, rfl, hfz, hnd⟩ := hW
  have hA : DataW.TrodAll enc Tryz.prog W 0 (fun _ => true) true Tryz.f3.params.toList args.toList ds p := hA0
  rw [Tryz.params3] at hA hval
  obtain ⟨rfl, rfl⟩ := trodVars_none hV
  clear hA0 hval0
  simp only [List.append_nil] at hW'
  have hlt := hW'.lt
  have hA1 := hA
  have hsz1 : (DataW.weightsEach Tryz.prog (Tryz.f3.params.toList ++ []) (ds ++ [])).all (· ≤ reachBytes) = true := hsz
  rw [Tryz.params3, List.append_nil, List.append_nil] at hsz1
  have hrd := rdg_all _ _ _ _ hA1 (fun n hn => by simpa using List.all_eq_true.1 hsz1 n hn)
  obtain ⟨v0, vs0, d0, ds0, p0, q0, hargs, rfl, rfl, h0, r0⟩ := trodAll_cons hA
  obtain ⟨v1, vs1, d1, ds1, p1, q1, rfl, rfl, rfl, h1, r1⟩ := trodAll_cons r0
  obtain ⟨v2, vs2, d2, ds2, p2, q2, rfl, rfl, rfl, h2, r2⟩ := trodAll_cons r1
  obtain ⟨rfl, rfl, rfl⟩ := trodAll_nil r2
  obtain rfl : args = #[v0, v1, v2] := by cases args; simp_all
  have g1 := hrd 1 26 v1 rfl rfl
  obtain ⟨cs1, rfl, hz1⟩ := ok_agg (by first | exact .inl ⟨_, Tryz.underlying26⟩ | exact .inr ⟨_, _, Tryz.underlying26⟩) (hval 1 26 v1 rfl rfl)
  have g2 := hrd 2 27 v2 rfl rfl
  obtain ⟨cs2, rfl, hz2⟩ := ok_agg (by first | exact .inl ⟨_, Tryz.underlying27⟩ | exact .inr ⟨_, _, Tryz.underlying27⟩) (hval 2 27 v2 rfl rfl)
  obtain ⟨ao, len, cap, L, rfl, hcap, hm, hcp, H⟩ := types_of3 (rop_slice 6 Tryz.underlying22 (by kernel_rfl) (hval 0 22 v0 rfl rfl) (hrd 0 22 v0 rfl rfl))
  obtain ⟨T, hT, HT⟩ := val_of hz1 g1
  unfold valV at hT
  injection hT with hT
  subst hT
  obtain ⟨y0, y1, rfl⟩ := arr2 (hz2.trans (by kernel_rfl))
  obtain ⟨x0, e0, hx0⟩ := rdg_int Tryz.underlying3 (rdg_elem Tryz.underlying27 g2 0 1 (by omega) (by kernel_rfl))
  obtain ⟨x1, e1, hx1⟩ := rdg_int Tryz.underlying3 (rdg_elem Tryz.underlying27 g2 1 1 (by omega) (by kernel_rfl))
  simp [Value.cells] at e0 e1
  subst e0 e1
  refine (walk ao len cap L x0 x1 T _ hcap hm hcp W H HT).mono fun e W' ⟨he, bel⟩ => ?_
  subst he
  exact ⟨_, rfl, _, _, _, [], _, [], hW', trodAll_mk1 (shut_bool Tryz.underlying4 _), trodAll_below laidOut bel [22, 26, 27] _ _ _ (by kernel_rfl) hA1 hlt, rfl, bel.frame _, fun h => by cases h⟩
theorem over : Rows.putTellsRow.holds Tryz.pinned (OpenSpec.ofChange Rows.putTellsSpec) :=
  OpenClaim.holds_of_wide 3 Tryz.f3 rfl rfl rfl rfl rfl rfl rfl ⟨rfl, rfl, rfl, rfl, rfl⟩ rfl rfl rfl rfl rfl (by kernel_rfl) Tryz.func3 (by kernel_rfl)
    (of_decide_eq_true (by kernel_rfl)) (by unfold Func.isWrapper; first | (rw [if_pos (by decide +kernel)]; kernel_rfl) | (rw [if_neg (by decide +kernel)]; exact ⟨rfl, rfl⟩))
    (fun os started H enc _ => lifted os started H enc)
theorem proved : Rows.PutTellsSaid := over
#print axioms proved
end Go.Proofs.YtficmdomnilhnaaGreat.putTells
