/- GetBack: for every list of types, every value and every ask the law returns true, and its arguments read as before. No condition. -/
import Derived.Test.YtmnemddagcfjgaaGreatDoorRdgSlice
import Derived.Test.YtmnemddagcfjgaaGreatDoorTie
import Derived.Test.YtmnemddagcfjgaaGreatDoorCards
import Derived.SevenTiedAt
import Derived.LaidMore
import Derived.Lay
import Derived.Stop.Joined
import Derived.Test.YtmnemddagcfjgaaGreatDoorGetLaw
import Derived.Test.YtmnemddagcfjgaaGreatDoorGetAwake
import Derived.Test.YtmnemddagcfjgaaGreatDoorValLaid
import Derived.Test.YtmnemddagcfjgaaGreatDoorValCSame
import Derived.Test.YtmnemddagcfjgaaGreatDoorFitsAwake
namespace Go.Proofs.YtmnemddagcfjgaaGreatDoor.getBack
open Go.ChangeShapes Go.WideShapes Go.ChangeAt Go.RowKit
open Go.ChangeMaps (open_string shut_string)
set_option linter.unusedVariables false
theorem arr3 {cs : Array Value} (h : cs.size = 3) : ∃ a b c, cs = #[a, b, c] := by
  obtain ⟨l⟩ := cs
  match l, h with
  | [a, b, c], _ => exact ⟨a, b, c, rfl⟩
theorem u64_range (c : Int) : 0 ≤ IntKind.u64.wrap c ∧ IntKind.u64.wrap c ≤ 18446744073709551615 := by rw [IntKind.wrap_u64]; omega
theorem set4_heap {w : World} {k g : Nat} {o : Obj} {x0 x1 x2 x3 : Value} (h : w.heap[k]? = some o) (hn : k ≠ g) : ((((w.setCell ⟨g, 0, none⟩ x0).setCell ⟨g, 1, none⟩ x1).setCell ⟨g, 2, none⟩ x2).setCell ⟨g, 3, none⟩ x3).heap[k]? = some o := by
  rw [set_other (show k ≠ _ from hn), set_other (show k ≠ _ from hn), set_other (show k ≠ _ from hn), set_other (show k ≠ _ from hn)]
  exact h
theorem set4_cell {w : World} {k o g : Nat} {v x0 x1 x2 x3 : Value} (h : w.cell? ⟨k, o, none⟩ = some v) (hn : k ≠ g) : ((((w.setCell ⟨g, 0, none⟩ x0).setCell ⟨g, 1, none⟩ x1).setCell ⟨g, 2, none⟩ x2).setCell ⟨g, 3, none⟩ x3).cell? ⟨k, o, none⟩ = some v := by
  refine (cell_same (a := ⟨k, o, none⟩) ?_).trans h
  show _ = w.heap[k]?
  rw [show (Addr.mk k o none).block = k from rfl, set_other (show k ≠ _ from hn), set_other (show k ≠ _ from hn), set_other (show k ≠ _ from hn), set_other (show k ≠ _ from hn)]
theorem set4_below {a w : World} {B g : Nat} {x0 x1 x2 x3 : Value} (h : Below B a w) (hg : B ≤ g) : Below B a ((((w.setCell ⟨g, 0, none⟩ x0).setCell ⟨g, 1, none⟩ x1).setCell ⟨g, 2, none⟩ x2).setCell ⟨g, 3, none⟩ x3) := (((h.setCell (show B ≤ g from hg) _).setCell (show B ≤ g from hg) _).setCell (show B ≤ g from hg) _).setCell (show B ≤ g from hg) _
set_option maxRecDepth 100000 in
set_option maxHeartbeats 4000000 in
theorem walk_much (ao : Option Addr) (len cap : Nat) (t cut : Int) (B : ByteArray) (T : VT) (w : World) (hw : ∀ wx, Below w.heap.size w wx → Calls Tryz.prog 7 #[] wx fun e w' => e = .returned (.bool true) ∧ Below wx.heap.size wx w') (hg : ∀ wx, Below w.heap.size w wx → Calls Tryz.prog 6 #[.slice ao len cap] wx fun e w' => e = .returned (.bool false) ∧ wx = w') (hmu : ∀ wx, Below w.heap.size w wx → Calls Tryz.prog 13 #[.agg #[.int .i64 T.kind, .int .u64 T.num, .string T.text, .slice T.ia T.len T.cap], .int .i64 0] wx fun e w' => e = .returned (.bool true) ∧ Below wx.heap.size wx w') :
    Calls Tryz.prog 4 #[.slice ao len cap, .agg #[.int .i64 T.kind, .int .u64 T.num, .string T.text, .slice T.ia T.len T.cap], .agg #[.int .i64 t, .string B, .int .i64 cut]] w (fun e w' => e = .returned (.bool true) ∧ Below w.heap.size w w') := by
  have HW := Lib.hid hw
  have HG := Lib.hid hg
  have HM := Lib.hid hmu
  have HQ := Lib.hid (alloc_old (o := (.cells #[.int .i64 t, .string B, .int .i64 cut] 37)) (alloc_at w (.cells #[.int .i64 T.kind, .int .u64 T.num, .string T.text, .slice T.ia T.len T.cap] 28)))
  have HK := Lib.hid (show ((w.alloc (.cells #[.int .i64 T.kind, .int .u64 T.num, .string T.text, .slice T.ia T.len T.cap] 28)).alloc (.cells #[.int .i64 t, .string B, .int .i64 cut] 37)).heap[w.heap.size + 1]? = some (.cells #[.int .i64 t, .string B, .int .i64 cut] 37) from by have := alloc_at (w.alloc (.cells #[.int .i64 T.kind, .int .u64 T.num, .string T.text, .slice T.ia T.len T.cap] 28)) (.cells #[.int .i64 t, .string B, .int .i64 cut] 37); rwa [show (w.alloc (.cells #[.int .i64 T.kind, .int .u64 T.num, .string T.text, .slice T.ia T.len T.cap] 28)).heap.size = w.heap.size + 1 by simp] at this)
  have HB := Lib.hid (((Below.refl w.heap.size w).alloc (Nat.le_refl _) (.cells #[.int .i64 T.kind, .int .u64 T.num, .string T.text, .slice T.ia T.len T.cap] 28)).alloc (by simp) (.cells #[.int .i64 t, .string B, .int .i64 cut] 37))
  clear hw hg hmu
  go_enter Tryz.func4, Tryz.ntmps4
  go_wp2_with (first
    | (go_at_call 6; refine (HG.out _ HB.out).mono ?_; rintro e w' ⟨rfl, rfl⟩)
    | (go_at_call 13; refine (HM.out _ HB.out).mono ?_; rintro e w1 ⟨rfl, hb1⟩; have HB1 := Lib.hid (below_step8' HB.out hb1); have HQ1 := Lib.hid (box_keep HQ.out hb1); have HK1 := Lib.hid (box_keep HK.out hb1); have k0 : w1.cell? ⟨w.heap.size + 1, 0, none⟩ = some (.int .i64 t) := cell_at (j := 0) HK1.out rfl; have k1 : w1.cell? ⟨w.heap.size + 1, 1, none⟩ = some (.string B) := cell_at (j := 1) HK1.out rfl; have k2 : w1.cell? ⟨w.heap.size + 1, 2, none⟩ = some (.int .i64 cut) := cell_at (j := 2) HK1.out rfl; clear hb1)
    | (go_at_call 7; refine (HW.out _ HB1.out).mono ?_; rintro e w9 ⟨rfl, hb9⟩; have HB9 := Lib.hid (below_step8' HB1.out hb9); clear hb9))
  go_ret
  exact ⟨rfl, HB9.out⟩
set_option maxRecDepth 100000 in
set_option maxHeartbeats 4000000 in
theorem walk_long (ao : Option Addr) (len cap : Nat) (t cut : Int) (B : ByteArray) (T : VT) (w : World) (hB : 600 < B.size) (hB2 : B.size ≤ 140737488351232) (hw : ∀ wx, Below w.heap.size w wx → Calls Tryz.prog 7 #[] wx fun e w' => e = .returned (.bool true) ∧ Below wx.heap.size wx w') (hg : ∀ wx, Below w.heap.size w wx → Calls Tryz.prog 6 #[.slice ao len cap] wx fun e w' => e = .returned (.bool false) ∧ wx = w') (hmu : ∀ wx, Below w.heap.size w wx → Calls Tryz.prog 13 #[.agg #[.int .i64 T.kind, .int .u64 T.num, .string T.text, .slice T.ia T.len T.cap], .int .i64 0] wx fun e w' => e = .returned (.bool false) ∧ Below wx.heap.size wx w') :
    Calls Tryz.prog 4 #[.slice ao len cap, .agg #[.int .i64 T.kind, .int .u64 T.num, .string T.text, .slice T.ia T.len T.cap], .agg #[.int .i64 t, .string B, .int .i64 cut]] w (fun e w' => e = .returned (.bool true) ∧ Below w.heap.size w w') := by
  have HW := Lib.hid hw
  have HG := Lib.hid hg
  have HM := Lib.hid hmu
  have HQ := Lib.hid (alloc_old (o := (.cells #[.int .i64 t, .string B, .int .i64 cut] 37)) (alloc_at w (.cells #[.int .i64 T.kind, .int .u64 T.num, .string T.text, .slice T.ia T.len T.cap] 28)))
  have HK := Lib.hid (show ((w.alloc (.cells #[.int .i64 T.kind, .int .u64 T.num, .string T.text, .slice T.ia T.len T.cap] 28)).alloc (.cells #[.int .i64 t, .string B, .int .i64 cut] 37)).heap[w.heap.size + 1]? = some (.cells #[.int .i64 t, .string B, .int .i64 cut] 37) from by have := alloc_at (w.alloc (.cells #[.int .i64 T.kind, .int .u64 T.num, .string T.text, .slice T.ia T.len T.cap] 28)) (.cells #[.int .i64 t, .string B, .int .i64 cut] 37); rwa [show (w.alloc (.cells #[.int .i64 T.kind, .int .u64 T.num, .string T.text, .slice T.ia T.len T.cap] 28)).heap.size = w.heap.size + 1 by simp] at this)
  have HB := Lib.hid (((Below.refl w.heap.size w).alloc (Nat.le_refl _) (.cells #[.int .i64 T.kind, .int .u64 T.num, .string T.text, .slice T.ia T.len T.cap] 28)).alloc (by simp) (.cells #[.int .i64 t, .string B, .int .i64 cut] 37))
  have d9 : decide ((600 : Int) < (B.size : Nat)) = true := decide_eq_true (by omega)
  have hmx : B.size ≤ maxLen := by unfold maxLen; omega
  clear hw hg hmu
  go_enter Tryz.func4, Tryz.ntmps4
  go_wp2_with (first
    | (go_at_call 6; refine (HG.out _ HB.out).mono ?_; rintro e w' ⟨rfl, rfl⟩)
    | (go_at_call 13; refine (HM.out _ HB.out).mono ?_; rintro e w1 ⟨rfl, hb1⟩; have HB1 := Lib.hid (below_step8' HB.out hb1); have HQ1 := Lib.hid (box_keep HQ.out hb1); have HK1 := Lib.hid (box_keep HK.out hb1); have k0 : w1.cell? ⟨w.heap.size + 1, 0, none⟩ = some (.int .i64 t) := cell_at (j := 0) HK1.out rfl; have k1 : w1.cell? ⟨w.heap.size + 1, 1, none⟩ = some (.string B) := cell_at (j := 1) HK1.out rfl; have k2 : w1.cell? ⟨w.heap.size + 1, 2, none⟩ = some (.int .i64 cut) := cell_at (j := 2) HK1.out rfl; clear hb1)
    | (go_at_call 7; refine (HW.out _ HB1.out).mono ?_; rintro e w9 ⟨rfl, hb9⟩; have HB9 := Lib.hid (below_step8' HB1.out hb9); clear hb9))
  go_ret
  exact ⟨rfl, HB9.out⟩
set_option maxRecDepth 100000 in
set_option maxHeartbeats 4000000 in
theorem walk_no (ao : Option Addr) (len cap : Nat) (t cut : Int) (B s : ByteArray) (T : VT) (E : Int) (w : World) (hB : B.size ≤ 600) (hE : E ≠ 0) (hw : ∀ wx, Below w.heap.size w wx → Calls Tryz.prog 7 #[] wx fun e w' => e = .returned (.bool true) ∧ Below wx.heap.size wx w') (hg : ∀ wx, Below w.heap.size w wx → Calls Tryz.prog 6 #[.slice ao len cap] wx fun e w' => e = .returned (.bool false) ∧ wx = w') (hmu : ∀ wx, Below w.heap.size w wx → Calls Tryz.prog 13 #[.agg #[.int .i64 T.kind, .int .u64 T.num, .string T.text, .slice T.ia T.len T.cap], .int .i64 0] wx fun e w' => e = .returned (.bool false) ∧ Below wx.heap.size wx w') (hp : ∀ wx, Below w.heap.size w wx → Calls Tryz.prog 14 #[.slice ao len cap, .int .i64 t, .agg #[.int .i64 T.kind, .int .u64 T.num, .string T.text, .slice T.ia T.len T.cap]] wx fun e' w' => e' = .returned (.tuple #[.string s, .int .i64 E]) ∧ Below wx.heap.size wx w') :
    Calls Tryz.prog 4 #[.slice ao len cap, .agg #[.int .i64 T.kind, .int .u64 T.num, .string T.text, .slice T.ia T.len T.cap], .agg #[.int .i64 t, .string B, .int .i64 cut]] w (fun e w' => e = .returned (.bool true) ∧ Below w.heap.size w w') := by
  have HW := Lib.hid hw
  have HG := Lib.hid hg
  have HM := Lib.hid hmu
  have HP := Lib.hid hp
  have HQ := Lib.hid (alloc_old (o := (.cells #[.int .i64 t, .string B, .int .i64 cut] 37)) (alloc_at w (.cells #[.int .i64 T.kind, .int .u64 T.num, .string T.text, .slice T.ia T.len T.cap] 28)))
  have HK := Lib.hid (show ((w.alloc (.cells #[.int .i64 T.kind, .int .u64 T.num, .string T.text, .slice T.ia T.len T.cap] 28)).alloc (.cells #[.int .i64 t, .string B, .int .i64 cut] 37)).heap[w.heap.size + 1]? = some (.cells #[.int .i64 t, .string B, .int .i64 cut] 37) from by have := alloc_at (w.alloc (.cells #[.int .i64 T.kind, .int .u64 T.num, .string T.text, .slice T.ia T.len T.cap] 28)) (.cells #[.int .i64 t, .string B, .int .i64 cut] 37); rwa [show (w.alloc (.cells #[.int .i64 T.kind, .int .u64 T.num, .string T.text, .slice T.ia T.len T.cap] 28)).heap.size = w.heap.size + 1 by simp] at this)
  have HB := Lib.hid (((Below.refl w.heap.size w).alloc (Nat.le_refl _) (.cells #[.int .i64 T.kind, .int .u64 T.num, .string T.text, .slice T.ia T.len T.cap] 28)).alloc (by simp) (.cells #[.int .i64 t, .string B, .int .i64 cut] 37))
  have d9 : decide ((600 : Int) < (B.size : Nat)) = false := decide_eq_false (by omega)
  have hne : (E != 0) = true := by simpa using hE
  clear hw hg hmu hp hE
  go_enter Tryz.func4, Tryz.ntmps4
  go_upto_region 3 with (first
    | (go_at_call 6; refine (HG.out _ HB.out).mono ?_; rintro e w' ⟨rfl, rfl⟩)
    | (go_at_call 13; refine (HM.out _ HB.out).mono ?_; rintro e w1 ⟨rfl, hb1⟩; have HB1 := Lib.hid (below_step8' HB.out hb1); have HQ1 := Lib.hid (box_keep HQ.out hb1); have HK1 := Lib.hid (box_keep HK.out hb1); have k0 : w1.cell? ⟨w.heap.size + 1, 0, none⟩ = some (.int .i64 t) := cell_at (j := 0) HK1.out rfl; have k1 : w1.cell? ⟨w.heap.size + 1, 1, none⟩ = some (.string B) := cell_at (j := 1) HK1.out rfl; have k2 : w1.cell? ⟨w.heap.size + 1, 2, none⟩ = some (.int .i64 cut) := cell_at (j := 2) HK1.out rfl; clear hb1))
  have d0 : w1.cell? ⟨w.heap.size, 0, none⟩ = some (.int .i64 T.kind) := cell_at (j := 0) HQ1.out rfl; have d1 : w1.cell? ⟨w.heap.size, 1, none⟩ = some (.int .u64 T.num) := cell_at (j := 1) HQ1.out rfl; have d2 : w1.cell? ⟨w.heap.size, 2, none⟩ = some (.string T.text) := cell_at (j := 2) HQ1.out rfl; have d3 : w1.cell? ⟨w.heap.size, 3, none⟩ = some (.slice T.ia T.len T.cap) := cell_at (j := 3) HQ1.out rfl
  go_wp2_with (first
    | (go_at_call 14; refine (HP.out _ HB1.out).mono ?_; rintro e w2 ⟨rfl, hb2⟩; have HB2 := Lib.hid (below_step8' HB1.out hb2); have HQ2 := Lib.hid (box_keep HQ1.out hb2); have HK2 := Lib.hid (box_keep HK1.out hb2); clear k0 k1 k2; have k0 : w2.cell? ⟨w.heap.size + 1, 0, none⟩ = some (.int .i64 t) := cell_at (j := 0) HK2.out rfl; have k1 : w2.cell? ⟨w.heap.size + 1, 1, none⟩ = some (.string B) := cell_at (j := 1) HK2.out rfl; have k2 : w2.cell? ⟨w.heap.size + 1, 2, none⟩ = some (.int .i64 cut) := cell_at (j := 2) HK2.out rfl; clear hb2)
    | (go_at_call 7; refine (HW.out _ HB2.out).mono ?_; rintro e w9 ⟨rfl, hb9⟩; have HB9 := Lib.hid (below_step8' HB2.out hb9); clear hb9))
  go_ret
  exact ⟨rfl, HB9.out⟩
set_option maxRecDepth 100000 in
set_option maxHeartbeats 8000000 in
theorem walk_ok (ao : Option Addr) (len cap : Nat) (t cut : Int) (B s : ByteArray) (T : VT) (w : World) (hB : B.size ≤ 600) (hs0 : 0 < s.size) (hs1 : s.size ≤ 512) (V1 V2 : VT) (h1 : sameT T V1 = true) (h2 : sameT T V2 = true) (y : Int) (hy : y = 1 ∨ y = 3)
    (hw : ∀ wx, Below w.heap.size w wx → Calls Tryz.prog 7 #[] wx fun e w' => e = .returned (.bool true) ∧ Below wx.heap.size wx w') (hg : ∀ wx, Below w.heap.size w wx → Calls Tryz.prog 6 #[.slice ao len cap] wx fun e w' => e = .returned (.bool false) ∧ wx = w') (hmu : ∀ wx, Below w.heap.size w wx → Calls Tryz.prog 13 #[.agg #[.int .i64 T.kind, .int .u64 T.num, .string T.text, .slice T.ia T.len T.cap], .int .i64 0] wx fun e w' => e = .returned (.bool false) ∧ Below wx.heap.size wx w') (hp : ∀ wx, Below w.heap.size w wx → Calls Tryz.prog 14 #[.slice ao len cap, .int .i64 t, .agg #[.int .i64 T.kind, .int .u64 T.num, .string T.text, .slice T.ia T.len T.cap]] wx fun e' w' => e' = .returned (.tuple #[.string s, .int .i64 0]) ∧ Below wx.heap.size wx w')
    (hg1 : ∀ wx, Below w.heap.size w wx → Calls Tryz.prog 8 #[.slice ao len cap, .int .i64 t, .string s] wx (GetRes (.ok V1 s.size) wx))
    (hf1 : ∀ wx, Below w.heap.size w wx → Calls Tryz.prog 10 #[.slice ao len cap, .int .i64 t, .string (s ++ B)] wx (FirstRes (.ok V2 s.size) wx))
    (hg2 : ∀ wx (c : Nat), c < s.size → Below w.heap.size w wx → Calls Tryz.prog 8 #[.slice ao len cap, .int .i64 t, .string (s.extract 0 c)] wx (GetRes (.bad 2) wx))
    (hg3 : ∀ wx, Below w.heap.size w wx → Calls Tryz.prog 8 #[.slice ao len cap, .int .i64 t, .string (s ++ ⟨#[0]⟩)] wx (GetRes (.bad y) wx))
    (hsm : ∀ (U : VT) (S : Nat → Prop) wx, Below w.heap.size w wx → sameT T U = true → ValAt wx S U → Calls Tryz.prog 15 #[.agg #[.int .i64 T.kind, .int .u64 T.num, .string T.text, .slice T.ia T.len T.cap], .agg #[.int .i64 U.kind, .int .u64 U.num, .string U.text, .slice U.ia U.len U.cap]] wx fun e w' => e = .returned (.bool true) ∧ Below wx.heap.size wx w') :
    Calls Tryz.prog 4 #[.slice ao len cap, .agg #[.int .i64 T.kind, .int .u64 T.num, .string T.text, .slice T.ia T.len T.cap], .agg #[.int .i64 t, .string B, .int .i64 cut]] w (fun e w' => e = .returned (.bool true) ∧ Below w.heap.size w w') := by
  have HW := Lib.hid hw
  have HG := Lib.hid hg
  have HM := Lib.hid hmu
  have HP := Lib.hid hp
  have HG1 := Lib.hid hg1
  have HF1 := Lib.hid hf1
  have HG2 := Lib.hid hg2
  have HG3 := Lib.hid hg3
  have HSM := Lib.hid hsm
  have HQ := Lib.hid (alloc_old (o := (.cells #[.int .i64 t, .string B, .int .i64 cut] 37)) (alloc_at w (.cells #[.int .i64 T.kind, .int .u64 T.num, .string T.text, .slice T.ia T.len T.cap] 28)))
  have HK := Lib.hid (show ((w.alloc (.cells #[.int .i64 T.kind, .int .u64 T.num, .string T.text, .slice T.ia T.len T.cap] 28)).alloc (.cells #[.int .i64 t, .string B, .int .i64 cut] 37)).heap[w.heap.size + 1]? = some (.cells #[.int .i64 t, .string B, .int .i64 cut] 37) from by have := alloc_at (w.alloc (.cells #[.int .i64 T.kind, .int .u64 T.num, .string T.text, .slice T.ia T.len T.cap] 28)) (.cells #[.int .i64 t, .string B, .int .i64 cut] 37); rwa [show (w.alloc (.cells #[.int .i64 T.kind, .int .u64 T.num, .string T.text, .slice T.ia T.len T.cap] 28)).heap.size = w.heap.size + 1 by simp] at this)
  have HB := Lib.hid (((Below.refl w.heap.size w).alloc (Nat.le_refl _) (.cells #[.int .i64 T.kind, .int .u64 T.num, .string T.text, .slice T.ia T.len T.cap] 28)).alloc (by simp) (.cells #[.int .i64 t, .string B, .int .i64 cut] 37))
  have d9 : decide ((600 : Int) < (B.size : Nat)) = false := decide_eq_false (by omega)
  have hsum : ¬ 9223372036854775807 < s.size + B.size := by omega
  have hsum1 : ¬ 9223372036854775807 < s.size + 1 := by omega
  have hmx : s.size ≤ maxLen := by unfold maxLen; omega
  have HY := Lib.hid hy
  clear hw hg hmu hp hg1 hf1 hg2 hg3 hsm hy
  go_enter Tryz.func4, Tryz.ntmps4
  go_upto_region 3 with (first
    | (go_at_call 6; refine (HG.out _ HB.out).mono ?_; rintro e w' ⟨rfl, rfl⟩)
    | (go_at_call 13; refine (HM.out _ HB.out).mono ?_; rintro e w1 ⟨rfl, hb1⟩; have HB1 := Lib.hid (below_step8' HB.out hb1); have HQ1 := Lib.hid (box_keep HQ.out hb1); have HK1 := Lib.hid (box_keep HK.out hb1); have k0 : w1.cell? ⟨w.heap.size + 1, 0, none⟩ = some (.int .i64 t) := cell_at (j := 0) HK1.out rfl; have k1 : w1.cell? ⟨w.heap.size + 1, 1, none⟩ = some (.string B) := cell_at (j := 1) HK1.out rfl; have k2 : w1.cell? ⟨w.heap.size + 1, 2, none⟩ = some (.int .i64 cut) := cell_at (j := 2) HK1.out rfl; clear hb1))
  have d0 : w1.cell? ⟨w.heap.size, 0, none⟩ = some (.int .i64 T.kind) := cell_at (j := 0) HQ1.out rfl
  have d1 : w1.cell? ⟨w.heap.size, 1, none⟩ = some (.int .u64 T.num) := cell_at (j := 1) HQ1.out rfl
  have d2 : w1.cell? ⟨w.heap.size, 2, none⟩ = some (.string T.text) := cell_at (j := 2) HQ1.out rfl
  have d3 : w1.cell? ⟨w.heap.size, 3, none⟩ = some (.slice T.ia T.len T.cap) := cell_at (j := 3) HQ1.out rfl
  go_upto_region 6 with (go_at_call 14; refine (HP.out _ HB1.out).mono ?_; rintro e w2 ⟨rfl, hb2⟩; have HB2 := Lib.hid (below_step8' HB1.out hb2); have HQ2 := Lib.hid (box_keep HQ1.out hb2); have HK2 := Lib.hid (box_keep HK1.out hb2); clear k0 k1 k2; have k0 : w2.cell? ⟨w.heap.size + 1, 0, none⟩ = some (.int .i64 t) := cell_at (j := 0) HK2.out rfl; have k1 : w2.cell? ⟨w.heap.size + 1, 1, none⟩ = some (.string B) := cell_at (j := 1) HK2.out rfl; have k2 : w2.cell? ⟨w.heap.size + 1, 2, none⟩ = some (.int .i64 cut) := cell_at (j := 2) HK2.out rfl; clear hb2)
  clear d0 d1 d2 d3
  go_upto_region 7 with (go_at_call 8; refine (HG1.out _ HB2.out).mono ?_; rintro e w3 ⟨U, rfl, hU, hv, hb3⟩; have HB3 := Lib.hid ((below_step8' HB2.out hb3).alloc (below_step8' HB2.out hb3).size (.cells #[.int .i64 U.kind, .int .u64 U.num, .string U.text, .slice U.ia U.len U.cap] 28)); have HQ3 := Lib.hid (alloc_old (o := (.cells #[.int .i64 U.kind, .int .u64 U.num, .string U.text, .slice U.ia U.len U.cap] 28)) (box_keep HQ2.out hb3)); have HK3 := Lib.hid (alloc_old (o := (.cells #[.int .i64 U.kind, .int .u64 U.num, .string U.text, .slice U.ia U.len U.cap] 28)) (box_keep HK2.out hb3)); have HX3 := Lib.hid (alloc_at w3 (.cells #[.int .i64 U.kind, .int .u64 U.num, .string U.text, .slice U.ia U.len U.cap] 28)); have HU := Lib.hid (sameT_trans _ _ _ h1 hU); have HV3 := Lib.hid (hv.next ((Below.refl _ _).alloc (Nat.le_refl _) (.cells #[.int .i64 U.kind, .int .u64 U.num, .string U.text, .slice U.ia U.len U.cap] 28))); clear hU hv hb3)
  clear k0 k1 k2
  have k0 : (w3.alloc (.cells #[.int .i64 U.kind, .int .u64 U.num, .string U.text, .slice U.ia U.len U.cap] 28)).cell? ⟨w.heap.size + 1, 0, none⟩ = some (.int .i64 t) := cell_at (j := 0) HK3.out rfl
  have k1 : (w3.alloc (.cells #[.int .i64 U.kind, .int .u64 U.num, .string U.text, .slice U.ia U.len U.cap] 28)).cell? ⟨w.heap.size + 1, 1, none⟩ = some (.string B) := cell_at (j := 1) HK3.out rfl
  have k2 : (w3.alloc (.cells #[.int .i64 U.kind, .int .u64 U.num, .string U.text, .slice U.ia U.len U.cap] 28)).cell? ⟨w.heap.size + 1, 2, none⟩ = some (.int .i64 cut) := cell_at (j := 2) HK3.out rfl
  go_upto_region 8 with (go_at_call 10; refine (HF1.out _ HB3.out).mono ?_; rintro e w4 ⟨U2, rfl, hU, hv, hb4⟩; have HB4 := Lib.hid ((below_step8' HB3.out hb4).alloc (below_step8' HB3.out hb4).size (.cells #[.int .i64 U2.kind, .int .u64 U2.num, .string U2.text, .slice U2.ia U2.len U2.cap] 28)); have HQ4 := Lib.hid (alloc_old (o := (.cells #[.int .i64 U2.kind, .int .u64 U2.num, .string U2.text, .slice U2.ia U2.len U2.cap] 28)) (box_keep HQ3.out hb4)); have HK4 := Lib.hid (alloc_old (o := (.cells #[.int .i64 U2.kind, .int .u64 U2.num, .string U2.text, .slice U2.ia U2.len U2.cap] 28)) (box_keep HK3.out hb4)); have HX4 := Lib.hid (alloc_old (o := (.cells #[.int .i64 U2.kind, .int .u64 U2.num, .string U2.text, .slice U2.ia U2.len U2.cap] 28)) (box_keep HX3.out hb4)); have HY4 := Lib.hid (alloc_at w4 (.cells #[.int .i64 U2.kind, .int .u64 U2.num, .string U2.text, .slice U2.ia U2.len U2.cap] 28)); have HU2 := Lib.hid (sameT_trans _ _ _ h2 hU); have HV4 := Lib.hid (HV3.out.next (hb4.alloc hb4.size (.cells #[.int .i64 U2.kind, .int .u64 U2.num, .string U2.text, .slice U2.ia U2.len U2.cap] 28))); have HW4 := Lib.hid (hv.next ((Below.refl _ _).alloc (Nat.le_refl _) (.cells #[.int .i64 U2.kind, .int .u64 U2.num, .string U2.text, .slice U2.ia U2.len U2.cap] 28))); clear hU hv hb4)
  clear k0 k1 k2 h1 h2
  have d0 : (w4.alloc (.cells #[.int .i64 U2.kind, .int .u64 U2.num, .string U2.text, .slice U2.ia U2.len U2.cap] 28)).cell? ⟨w.heap.size, 0, none⟩ = some (.int .i64 T.kind) := cell_at (j := 0) HQ4.out rfl
  have d1 : (w4.alloc (.cells #[.int .i64 U2.kind, .int .u64 U2.num, .string U2.text, .slice U2.ia U2.len U2.cap] 28)).cell? ⟨w.heap.size, 1, none⟩ = some (.int .u64 T.num) := cell_at (j := 1) HQ4.out rfl
  have d2 : (w4.alloc (.cells #[.int .i64 U2.kind, .int .u64 U2.num, .string U2.text, .slice U2.ia U2.len U2.cap] 28)).cell? ⟨w.heap.size, 2, none⟩ = some (.string T.text) := cell_at (j := 2) HQ4.out rfl
  have d3 : (w4.alloc (.cells #[.int .i64 U2.kind, .int .u64 U2.num, .string U2.text, .slice U2.ia U2.len U2.cap] 28)).cell? ⟨w.heap.size, 3, none⟩ = some (.slice T.ia T.len T.cap) := cell_at (j := 3) HQ4.out rfl
  have x0 : (w4.alloc (.cells #[.int .i64 U2.kind, .int .u64 U2.num, .string U2.text, .slice U2.ia U2.len U2.cap] 28)).cell? ⟨w3.heap.size, 0, none⟩ = some (.int .i64 U.kind) := cell_at (j := 0) HX4.out rfl
  have x1 : (w4.alloc (.cells #[.int .i64 U2.kind, .int .u64 U2.num, .string U2.text, .slice U2.ia U2.len U2.cap] 28)).cell? ⟨w3.heap.size, 1, none⟩ = some (.int .u64 U.num) := cell_at (j := 1) HX4.out rfl
  have x2 : (w4.alloc (.cells #[.int .i64 U2.kind, .int .u64 U2.num, .string U2.text, .slice U2.ia U2.len U2.cap] 28)).cell? ⟨w3.heap.size, 2, none⟩ = some (.string U.text) := cell_at (j := 2) HX4.out rfl
  have x3 : (w4.alloc (.cells #[.int .i64 U2.kind, .int .u64 U2.num, .string U2.text, .slice U2.ia U2.len U2.cap] 28)).cell? ⟨w3.heap.size, 3, none⟩ = some (.slice U.ia U.len U.cap) := cell_at (j := 3) HX4.out rfl
  have y0 : (w4.alloc (.cells #[.int .i64 U2.kind, .int .u64 U2.num, .string U2.text, .slice U2.ia U2.len U2.cap] 28)).cell? ⟨w4.heap.size, 0, none⟩ = some (.int .i64 U2.kind) := cell_at (j := 0) HY4.out rfl
  have y1 : (w4.alloc (.cells #[.int .i64 U2.kind, .int .u64 U2.num, .string U2.text, .slice U2.ia U2.len U2.cap] 28)).cell? ⟨w4.heap.size, 1, none⟩ = some (.int .u64 U2.num) := cell_at (j := 1) HY4.out rfl
  have y2 : (w4.alloc (.cells #[.int .i64 U2.kind, .int .u64 U2.num, .string U2.text, .slice U2.ia U2.len U2.cap] 28)).cell? ⟨w4.heap.size, 2, none⟩ = some (.string U2.text) := cell_at (j := 2) HY4.out rfl
  have y3 : (w4.alloc (.cells #[.int .i64 U2.kind, .int .u64 U2.num, .string U2.text, .slice U2.ia U2.len U2.cap] 28)).cell? ⟨w4.heap.size, 3, none⟩ = some (.slice U2.ia U2.len U2.cap) := cell_at (j := 3) HY4.out rfl
  have k0 : (w4.alloc (.cells #[.int .i64 U2.kind, .int .u64 U2.num, .string U2.text, .slice U2.ia U2.len U2.cap] 28)).cell? ⟨w.heap.size + 1, 0, none⟩ = some (.int .i64 t) := cell_at (j := 0) HK4.out rfl
  have k1 : (w4.alloc (.cells #[.int .i64 U2.kind, .int .u64 U2.num, .string U2.text, .slice U2.ia U2.len U2.cap] 28)).cell? ⟨w.heap.size + 1, 1, none⟩ = some (.string B) := cell_at (j := 1) HK4.out rfl
  have k2 : (w4.alloc (.cells #[.int .i64 U2.kind, .int .u64 U2.num, .string U2.text, .slice U2.ia U2.len U2.cap] 28)).cell? ⟨w.heap.size + 1, 2, none⟩ = some (.int .i64 cut) := cell_at (j := 2) HK4.out rfl
  generalize w4.alloc (.cells #[.int .i64 U2.kind, .int .u64 U2.num, .string U2.text, .slice U2.ia U2.len U2.cap] 28) = W4 at *
  go_upto_region 10 with (first
    | (go_at_call 15; (with_reducible refine (HSM.out U _ _ HB4.out HU.out HV4.out).mono ?_); rintro e w5 ⟨rfl, hb5⟩; have HB5 := Lib.hid (below_step8' HB4.out hb5); have HQ5 := Lib.hid (box_keep HQ4.out hb5); have HK5 := Lib.hid (box_keep HK4.out hb5); have HY5 := Lib.hid (box_keep HY4.out hb5); have HW5 := Lib.hid (HW4.out.next hb5); clear k0 k1 k2 d0 d1 d2 d3 x0 x1 x2 x3 y0 y1 y2 y3; have d0 : w5.cell? ⟨w.heap.size, 0, none⟩ = some (.int .i64 T.kind) := cell_at (j := 0) HQ5.out rfl; have d1 : w5.cell? ⟨w.heap.size, 1, none⟩ = some (.int .u64 T.num) := cell_at (j := 1) HQ5.out rfl; have d2 : w5.cell? ⟨w.heap.size, 2, none⟩ = some (.string T.text) := cell_at (j := 2) HQ5.out rfl; have d3 : w5.cell? ⟨w.heap.size, 3, none⟩ = some (.slice T.ia T.len T.cap) := cell_at (j := 3) HQ5.out rfl; have y0 : w5.cell? ⟨w4.heap.size, 0, none⟩ = some (.int .i64 U2.kind) := cell_at (j := 0) HY5.out rfl; have y1 : w5.cell? ⟨w4.heap.size, 1, none⟩ = some (.int .u64 U2.num) := cell_at (j := 1) HY5.out rfl; have y2 : w5.cell? ⟨w4.heap.size, 2, none⟩ = some (.string U2.text) := cell_at (j := 2) HY5.out rfl; have y3 : w5.cell? ⟨w4.heap.size, 3, none⟩ = some (.slice U2.ia U2.len U2.cap) := cell_at (j := 3) HY5.out rfl; have k0 : w5.cell? ⟨w.heap.size + 1, 0, none⟩ = some (.int .i64 t) := cell_at (j := 0) HK5.out rfl; have k1 : w5.cell? ⟨w.heap.size + 1, 1, none⟩ = some (.string B) := cell_at (j := 1) HK5.out rfl; have k2 : w5.cell? ⟨w.heap.size + 1, 2, none⟩ = some (.int .i64 cut) := cell_at (j := 2) HK5.out rfl; clear hb5)
    | (go_at_call 15; (with_reducible refine (HSM.out U2 _ _ HB5.out HU2.out HW5.out).mono ?_); rintro e w6 ⟨rfl, hb6⟩; have HB6 := Lib.hid (below_step8' HB5.out hb6); have HK6 := Lib.hid (box_keep HK5.out hb6); clear k0 k1 k2 d0 d1 d2 d3 y0 y1 y2 y3; have k0 : w6.cell? ⟨w.heap.size + 1, 0, none⟩ = some (.int .i64 t) := cell_at (j := 0) HK6.out rfl; have k1 : w6.cell? ⟨w.heap.size + 1, 1, none⟩ = some (.string B) := cell_at (j := 1) HK6.out rfl; have k2 : w6.cell? ⟨w.heap.size + 1, 2, none⟩ = some (.int .i64 cut) := cell_at (j := 2) HK6.out rfl; clear hb6))
  have hws : IntKind.u64.wrap ((s.size : Nat) : Int) = ((s.size : Nat) : Int) := IntWalk.u64_in _ (by omega)
  obtain ⟨u, hu, hu0, hu1⟩ : ∃ u : Nat, IntKind.u64.wrap cut = ((u : Nat) : Int) ∧ True ∧ True := ⟨(IntKind.u64.wrap cut).toNat, by have := u64_range cut; omega, trivial, trivial⟩
  have hn0 : ¬ ((s.size : Nat) : Int) = 0 := by omega
  obtain ⟨cc, hc, hcl⟩ : ∃ cc : Nat, ((u : Nat) : Int) % ((s.size : Nat) : Int) = ((cc : Nat) : Int) ∧ cc < s.size := ⟨u % s.size, by norm_cast, Nat.mod_lt _ hs0⟩
  have hwc : wrap64 ((cc : Nat) : Int) = ((cc : Nat) : Int) := IntWalk.wrap64_in _ (by omega)
  go_upto_region 11 with (fail)
  simp only [hc]
  clear hu hn0 hws hc hwc hu0 hu1 k1 k2
  go_cut [16] (fun h wx => h = .int .i64 2 ∧ Hid (Below w.heap.size w wx) ∧ Hid (wx.heap[w.heap.size + 1]? = some (.cells #[.int .i64 t, .string B, .int .i64 cut] 37)))
  case first =>
    have hsl : ∀ wx, (Instr.slice 9 (.string s) none (some (.int .i64 ((cc : Nat) : Int))) none).run Tryz.prog wx = .ok (.string (s.extract 0 cc)) wx := fun wx => run_slice_string_h wx 9 s Tryz.underlying9 .i64 ((cc : Nat) : Int) (by omega) (by omega)
    have A1 := Lib.hid (show Below w.heap.size w w6.drew from HB6.out.drew)
    have A2 := Lib.hid (show Below w.heap.size w (w6.alloc (.cells #[.int .i64 0, .int .u64 0, .string ⟨#[]⟩, .slice none 0 0] 28)).drew from (HB6.out.alloc HB6.out.size (.cells #[.int .i64 0, .int .u64 0, .string ⟨#[]⟩, .slice none 0 0] 28)).drew)
    have Q1 := Lib.hid (show w6.drew.heap[w.heap.size + 1]? = some (.cells #[.int .i64 t, .string B, .int .i64 cut] 37) from HK6.out)
    have Q2 := Lib.hid (show (w6.alloc (.cells #[.int .i64 0, .int .u64 0, .string ⟨#[]⟩, .slice none 0 0] 28)).drew.heap[w.heap.size + 1]? = some (.cells #[.int .i64 t, .string B, .int .i64 cut] 37) from alloc_old (o := (.cells #[.int .i64 0, .int .u64 0, .string ⟨#[]⟩, .slice none 0 0] 28)) HK6.out)
    have Z2 := Lib.hid (show (w6.alloc (.cells #[.int .i64 0, .int .u64 0, .string ⟨#[]⟩, .slice none 0 0] 28)).drew.heap[w6.heap.size]? = some (.cells #[.int .i64 0, .int .u64 0, .string ⟨#[]⟩, .slice none 0 0] 28) from alloc_at w6 (.cells #[.int .i64 0, .int .u64 0, .string ⟨#[]⟩, .slice none 0 0] 28))
    go_region_held3 (fun w' => w'.cell? ⟨w.heap.size + 1, 0, none⟩ = some (.int .i64 t)) (first | (with_reducible exact k0) | (with_reducible exact set4_cell k0 (by omega)) | go_keep)
      (first
        | (go_at_call 8; (with_reducible refine (HG2.out _ cc hcl A1.out).mono ?_); rintro e w7 ⟨rfl, hb7⟩; have hbz := hb7.size; have hsz6 := lt_of_block HK6.out; have HB7 := Lib.hid (below_step8' A1.out hb7); have HK7 := Lib.hid (box_keep Q1.out hb7); have k0 : w7.cell? ⟨w.heap.size + 1, 0, none⟩ = some (.int .i64 t) := cell_at (j := 0) HK7.out rfl; clear hb7)
        | (go_at_call 8; (with_reducible refine (HG2.out _ cc hcl A2.out).mono ?_); rintro e w7 ⟨rfl, hb7⟩; have hbz := hb7.size; have hsz6 := lt_of_block HK6.out; have HB7 := Lib.hid (below_step8' A2.out hb7); have HK7 := Lib.hid (box_keep Q2.out hb7); have k0 : w7.cell? ⟨w.heap.size + 1, 0, none⟩ = some (.int .i64 t) := cell_at (j := 0) HK7.out rfl; have hz7 := box_keep Z2.out hb7; have z0 : w7.cell? ⟨w6.heap.size, 0, none⟩ = some (.int .i64 0) := cell_at (j := 0) hz7 rfl; have g0 : w7.frozen? ⟨w6.heap.size, 0, none⟩ = false := free_at (j := 0) hz7; have z1 : w7.cell? ⟨w6.heap.size, 1, none⟩ = some (.int .u64 0) := cell_at (j := 1) hz7 rfl; have g1 : w7.frozen? ⟨w6.heap.size, 1, none⟩ = false := free_at (j := 1) hz7; have z2 : w7.cell? ⟨w6.heap.size, 2, none⟩ = some (.string ⟨#[]⟩) := cell_at (j := 2) hz7 rfl; have g2 : w7.frozen? ⟨w6.heap.size, 2, none⟩ = false := free_at (j := 2) hz7; have z3 : w7.cell? ⟨w6.heap.size, 3, none⟩ = some (.slice none 0 0) := cell_at (j := 3) hz7 rfl; have g3 : w7.frozen? ⟨w6.heap.size, 3, none⟩ = false := free_at (j := 3) hz7; clear hz7; clear hb7))
    all_goals
      go_wp2_with fail
      go_meet
      first
        | exact ⟨rfl, Lib.hid (HB7.out.alloc HB7.out.size _), Lib.hid (alloc_old HK7.out)⟩
        | exact ⟨rfl, Lib.hid (set4_below HB7.out (by have := HB6.out.size; omega)), Lib.hid (set4_heap HK7.out (by omega))⟩
        | trace_state
  case rest =>
    obtain ⟨rfl, HB8, HK8⟩ := hcut
    clear k0
    have k0 : wc.cell? ⟨w.heap.size + 1, 0, none⟩ = some (.int .i64 t) := cell_at (j := 0) HK8.out rfl
    have hyy := HY.out
    rcases hyy with rfl | rfl
    all_goals
      go_wp2_with (first
        | (go_at_call 8; refine (HG3.out _ HB8.out).mono ?_; rintro e w8 ⟨rfl, hb8⟩; have HB9' := Lib.hid (below_step8' HB8.out hb8); clear hb8)
        | (go_at_call 7; refine (HW.out _ (HB9'.out.alloc HB9'.out.size _)).mono ?_; rintro e w9 ⟨rfl, hb9⟩; have HB9 := Lib.hid (below_step8' (HB9'.out.alloc HB9'.out.size _) hb9); clear hb9))
      go_ret
      exact ⟨rfl, HB9.out⟩
set_option maxRecDepth 100000 in
set_option maxHeartbeats 4000000 in
theorem walk (ao : Option Addr) (len cap : Nat) (L : Nat → TypeV) (t cut : Int) (B : ByteArray) (T : VT) (S : Nat → Prop) (hcap : len ≤ cap) (hm : len ≤ 140737488351232) (hcp : ∀ i, i < len → (L i).ilen ≤ (L i).icap) (hbs : B.size ≤ 140737488351232) (w : World) (H : ∀ i, i < len → TypeAt w ao i (L i)) (HV : ValAt w S T) (htab : Tab w) :
    Calls Tryz.prog 4 #[.slice ao len cap, .agg #[.int .i64 T.kind, .int .u64 T.num, .string T.text, .slice T.ia T.len T.cap], .agg #[.int .i64 t, .string B, .int .i64 cut]] w (fun e w' => e = .returned (.bool true) ∧ Below w.heap.size w w') := by
  have hw := fun wx (hb : Below w.heap.size w wx) => awake11_any wx (htab.next hb)
  have hg := fun wx (hb : Below w.heap.size w wx) => great_any ao len cap L hm wx (hold H hb)
  have hmu := fun wx (hb : Below w.heap.size w wx) => refMuch_any S T 0 wx (HV.next hb) (by omega)
  unfold RMuchTo at hmu
  rw [show ((0 : Nat) : Int) = 0 from rfl] at hmu
  cases hbig : greatB L len with
  | true =>
    rw [hbig] at hg
    have HW := Lib.hid hw
    have HG := Lib.hid hg
    have HQ := Lib.hid (alloc_old (o := (.cells #[.int .i64 t, .string B, .int .i64 cut] 37)) (alloc_at w (.cells #[.int .i64 T.kind, .int .u64 T.num, .string T.text, .slice T.ia T.len T.cap] 28)))
    have HK := Lib.hid (show ((w.alloc (.cells #[.int .i64 T.kind, .int .u64 T.num, .string T.text, .slice T.ia T.len T.cap] 28)).alloc (.cells #[.int .i64 t, .string B, .int .i64 cut] 37)).heap[w.heap.size + 1]? = some (.cells #[.int .i64 t, .string B, .int .i64 cut] 37) from by have := alloc_at (w.alloc (.cells #[.int .i64 T.kind, .int .u64 T.num, .string T.text, .slice T.ia T.len T.cap] 28)) (.cells #[.int .i64 t, .string B, .int .i64 cut] 37); rwa [show (w.alloc (.cells #[.int .i64 T.kind, .int .u64 T.num, .string T.text, .slice T.ia T.len T.cap] 28)).heap.size = w.heap.size + 1 by simp] at this)
    have HB := Lib.hid (((Below.refl w.heap.size w).alloc (Nat.le_refl _) (.cells #[.int .i64 T.kind, .int .u64 T.num, .string T.text, .slice T.ia T.len T.cap] 28)).alloc (by simp) (.cells #[.int .i64 t, .string B, .int .i64 cut] 37))
    clear hw hg hmu hbig H hcp HV
    go_enter Tryz.func4, Tryz.ntmps4
    go_wp2_with (first
      | (go_at_call 6; refine (HG.out _ HB.out).mono ?_; rintro e w' ⟨rfl, rfl⟩)
      | (go_at_call 7; refine (HW.out _ HB.out).mono ?_; rintro e w9 ⟨rfl, hb9⟩; have HB9 := Lib.hid (below_step8' HB.out hb9); clear hb9))
    go_ret
    exact ⟨rfl, HB9.out⟩
  | false =>
    rw [hbig] at hg
    have hl : len ≤ 1000000 := by
      unfold greatB at hbig
      simp at hbig
      omega
    cases hmuch : muchT T 0 with
    | true =>
      rw [hmuch] at hmu
      exact walk_much ao len cap t cut B T w hw hg hmu
    | false =>
      rw [hmuch] at hmu
      by_cases hB : 600 < B.size
      · exact walk_long ao len cap t cut B T w hB hbs hw hg hmu
      · have hp := fun wx (hb : Below w.heap.size w wx) => put_any10 ao len cap L hl hcap hcp S t T wx (HV.next hb) (hold H hb)
        by_cases hE : putErr L len t T = 0
        · obtain ⟨q0, q1, ⟨V1, q2, q3⟩, q4, q5, q6⟩ := put_got (valAt_wf T HV) hE
          rw [hE] at hp
          obtain ⟨V2, q7, q8⟩ := q4 B
          generalize putBytes L len t T = s at *
          obtain ⟨y, hy, q9⟩ : ∃ y : Int, (y = 1 ∨ y = 3) ∧ getD L len t (s ++ ⟨#[0]⟩) = .bad y := by
            rcases q6 with h | h
            · exact ⟨1, .inl rfl, h⟩
            · exact ⟨3, .inr rfl, h⟩
          have hsz : (s ++ (⟨#[0]⟩ : ByteArray)).size = s.size + 1 := by rw [ByteArray.size_append]; rfl
          refine walk_ok ao len cap t cut B s T w (by omega) q0 q1 V1 V2 q3 q8 y hy hw hg hmu hp (fun wx hb => ?_) (fun wx hb => ?_) (fun wx c hc hb => ?_) (fun wx hb => ?_) (fun U S' wx hb hU hv => ?_)
          · have := get_any ao len cap L hl hcap hcp t s (by omega) wx (hold H hb)
            rwa [q2] at this
          · have := first_any ao len cap L hl hcap hcp t (s ++ B) (by rw [ByteArray.size_append]; omega) wx (hold H hb)
            rwa [q7] at this
          · have := get_any ao len cap L hl hcap hcp t (s.extract 0 c) (by rw [ByteArray.size_extract]; omega) wx (hold H hb)
            rwa [q5 c hc] at this
          · have := get_any ao len cap L hl hcap hcp t (s ++ ⟨#[0]⟩) (by omega) wx (hold H hb)
            rwa [q9] at this
          · have := same8_any S S' T U wx (HV.next hb) hv
            unfold CSameTo at this
            rwa [hU] at this
        · have e : putBytes L len t T = ⟨#[]⟩ := by unfold putBytes; rw [if_neg hE]
          rw [e] at hp
          exact walk_no ao len cap t cut B ⟨#[]⟩ T _ w (by omega) hE hw hg hmu hp
set_option maxRecDepth 100000 in
theorem lifted (os : Os) (started : os.Started) (H : Type) (enc : TypeId × Value → H) :
    ReturnsInHanded {} Tryz.checked os 4 .any (fun w args => (Rows.getBackSpec.pre enc Tryz.prog Tryz.f4 Rows.getBackRow.domain false w args ∧ laidMetH Tryz.prog Rows.getBackRow.laid w) ∧ sizedMet enc Tryz.prog Tryz.f4 (OpenSpec.ofChange Rows.getBackSpec) false w args)
      (Rows.getBackSpec.post enc Tryz.prog Tryz.f4 false true false false) := by
  refine returnsInHanded_of_change_and (C := Tryz.checked) (X := fun w _ => laidMetH Tryz.prog Rows.getBackRow.laid w) (fun _ _ _ hh h => h.of_heap hh) own started (by kernel_rfl) Tryz.func4
    (ChangeSpec.witness_shaped (enc := enc) (C := Tryz.checked) (os := os) (X := fun w _ => laidMetH Tryz.prog Rows.getBackRow.laid w) false (World.laidAll Tryz.prog os Rows.getBackRow.laid) #[.slice none 0 0, .agg #[.int .i64 0, .int .u64 0, .string ⟨#[]⟩, .slice none 0 0], .agg #[.int .i64 0, .string ⟨#[]⟩, .int .i64 0]] 8 (World.laidAll_os _ _ _)
      (World.shaped_of_ZipB (by kernel_rfl) (by kernel_rfl)) (by kernel_rfl) (by kernel_rfl) (by kernel_rfl)
      (by rw [MakeChecks.laidMetH_plain _ _ _ (by kernel_rfl)]; exact laidMet_laidAll _ (by kernel_rfl) (by kernel_rfl))) ?_
  intro W base args ds gs before hval0 hW hcnd hsz hL _
  have hval : ∀ (j : Nat) t v, Tryz.f4.params[j]? = some t → args[j]? = some v → Value.okWide Tryz.prog W .any base t v := hval0
  have hW' := hW
  obtain ⟨p, q, hA0, hV, rfl, hfz, hnd⟩ := hW
  have hA : DataW.TrodAll enc Tryz.prog W 0 (fun _ => true) true Tryz.f4.params.toList args.toList ds p := hA0
  rw [Tryz.params4] at hA hval
  obtain ⟨rfl, rfl⟩ := trodVars_none hV
  clear hA0 hval0
  simp only [List.append_nil] at hW'
  have hlt := hW'.lt
  have hA1 := hA
  have hsz1 : (DataW.weightsEach Tryz.prog (Tryz.f4.params.toList ++ []) (ds ++ [])).all (· ≤ reachBytes) = true := hsz
  rw [Tryz.params4, List.append_nil, List.append_nil] at hsz1
  have hrd := rdg_all _ _ _ _ hA1 (fun n hn => by simpa using List.all_eq_true.1 hsz1 n hn)
  obtain ⟨v0, vs0, d0, ds0, p0, q0, hargs, rfl, rfl, h0, r0⟩ := trodAll_cons hA
  obtain ⟨v1, vs1, d1, ds1, p1, q1, rfl, rfl, rfl, h1, r1⟩ := trodAll_cons r0
  obtain ⟨v2, vs2, d2, ds2, p2, q2, rfl, rfl, rfl, h2, r2⟩ := trodAll_cons r1
  obtain ⟨rfl, rfl, rfl⟩ := trodAll_nil r2
  obtain rfl : args = #[v0, v1, v2] := by cases args; simp_all
  have g1 := hrd 1 28 v1 rfl rfl
  obtain ⟨cs1, rfl, hz1⟩ := ok_agg (by first | exact .inl ⟨_, Tryz.underlying28⟩ | exact .inr ⟨_, _, Tryz.underlying28⟩) (hval 1 28 v1 rfl rfl)
  have g2 := hrd 2 37 v2 rfl rfl
  obtain ⟨cs2, rfl, hz2⟩ := ok_agg (by first | exact .inl ⟨_, Tryz.underlying37⟩ | exact .inr ⟨_, _, Tryz.underlying37⟩) (hval 2 37 v2 rfl rfl)
  obtain ⟨ao, len, cap, L, rfl, hcap, hm, hcp, H⟩ := types_of3 (rop_slice 6 Tryz.underlying22 (by kernel_rfl) (hval 0 22 v0 rfl rfl) (hrd 0 22 v0 rfl rfl))
  obtain ⟨T, hT, HT⟩ := val_of hz1 g1
  unfold valV at hT
  injection hT with hT
  subst hT
  obtain ⟨y0, y1, y2, rfl⟩ := arr3 (hz2.trans (by kernel_rfl))
  obtain ⟨x0, e0, hx0⟩ := rdg_int Tryz.underlying3 (rdg_field Tryz.underlying37 g2 0 3 0 1 rfl (by kernel_rfl))
  obtain ⟨x1, e1, hx1⟩ := rdg_string Tryz.underlying9 (rdg_field Tryz.underlying37 g2 1 9 1 1 rfl (by kernel_rfl))
  obtain ⟨x2, e2, hx2⟩ := rdg_int Tryz.underlying3 (rdg_field Tryz.underlying37 g2 2 3 2 1 rfl (by kernel_rfl))
  simp [Value.cells] at e0 e1 e2
  subst e0 e1 e2
  refine (walk ao len cap L x0 x2 x1 T _ hcap hm hcp hx1 W H HT (tab_of hL)).mono fun e W' ⟨he, bel⟩ => ?_
  subst he
  exact ⟨_, rfl, _, _, _, [], _, [], hW', trodAll_mk1 (shut_bool Tryz.underlying4 _), trodAll_below laidOut bel [22, 28, 37] _ _ _ (by kernel_rfl) hA1 hlt, rfl, bel.frame _, fun h => by cases h⟩
theorem over : Rows.GetBackSaid :=
  OpenClaim.holds_of_wide 4 Tryz.f4 rfl rfl rfl rfl rfl rfl rfl ⟨rfl, rfl, rfl, rfl, rfl⟩ rfl rfl rfl rfl rfl (by kernel_rfl) Tryz.func4 (by kernel_rfl)
    (of_decide_eq_true (by kernel_rfl)) (by unfold Func.isWrapper; first | (rw [if_pos (by decide +kernel)]; kernel_rfl) | (rw [if_neg (by decide +kernel)]; exact ⟨rfl, rfl⟩))
    (fun os started H enc _ => lifted os started H enc)
theorem proved : Rows.GetBackCardSaid :=
  Claim7.holds_tied_plain_at .later [] [.data, .data, .data] true (true, "dadb9d5fddc86713dba2efca73868156abe7a88d1618315ae04e561a1f5caa72") true
    over (fun _ h => by cases h) (by kernel_rfl) (fun _ h => by cases h) getBack_row_tie rfl ⟨rfl, rfl⟩ (by kernel_rfl) rfl
    (fun f fn hf hfn => by
      obtain rfl : f = 4 := Option.some.inj ((show Tryz.prog.funcNamed Rows.getBackRow.func = some 4 by kernel_rfl).symm.trans hf) |>.symm
      obtain rfl : fn = Tryz.f4 := (Option.some.inj (Tryz.func4.symm.trans hfn)).symm
      exact ⟨by kernel_rfl, fun j t ht => by
        rw [Tryz.params4] at ht
        have hm : t ∈ [22, 28, 37] := by simpa using Array.mem_of_getElem? ht
        have hall : ([22, 28, 37].all fun u => !Tryz.prog.wantsStandIn u) = true := by kernel_rfl
        exact (show Tryz.prog.wantsStandIn t = false by simpa using List.all_eq_true.1 hall t hm)⟩)
    (by kernel_rfl)
#print axioms proved
end Go.Proofs.YtmnemddagcfjgaaGreatDoor.getBack
