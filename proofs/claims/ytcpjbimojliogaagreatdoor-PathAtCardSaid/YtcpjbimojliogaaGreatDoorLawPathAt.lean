/- PathAt: for every list of types, every value and every path the law returns true, and its arguments read as before. No condition. -/
import Derived.Test.YtcpjbimojliogaaGreatDoorRdgSlice
import Derived.Test.YtcpjbimojliogaaGreatDoorTie
import Derived.Test.YtcpjbimojliogaaGreatDoorCards
import Derived.SevenTiedAt
import Derived.LaidMore
import Derived.Lay
import Derived.Stop.Joined
import Derived.Test.YtcpjbimojliogaaGreatDoorPathRAt
import Derived.Test.YtcpjbimojliogaaGreatDoorFitsRTop
namespace Go.Proofs.YtcpjbimojliogaaGreatDoor.pathAt
open Go.ChangeShapes Go.WideShapes Go.ChangeAt Go.RowKit
open Go.ChangeMaps (open_string shut_string)
set_option linter.unusedVariables false
set_option maxRecDepth 100000 in
set_option maxHeartbeats 4000000 in
theorem walk_big (ao : Option Addr) (len cap : Nat) (t : Int) (pa : Option Addr) (n pc : Nat) (T : VT) (w : World) (hw : ∀ wx, Below w.heap.size w wx → Calls Tryz.prog 7 #[] wx fun e w' => e = .returned (.bool true) ∧ Below wx.heap.size wx w') (hg : ∀ wx, Below w.heap.size w wx → Calls Tryz.prog 6 #[.slice ao len cap] wx fun e w' => e = .returned (.bool true) ∧ wx = w') :
    Calls Tryz.prog 4 #[.slice ao len cap, .agg #[.int .i64 T.kind, .int .u64 T.num, .string T.text, .slice T.ia T.len T.cap], .agg #[.int .i64 t, .slice pa n pc]] w (fun e w' => e = .returned (.bool true) ∧ Below w.heap.size w w') := by
  have HW := Lib.hid hw
  have HG := Lib.hid hg
  have HQ := Lib.hid (alloc_old (o := (.cells #[.int .i64 t, .slice pa n pc] 40)) (alloc_at w (.cells #[.int .i64 T.kind, .int .u64 T.num, .string T.text, .slice T.ia T.len T.cap] 38)))
  have HK := Lib.hid (show ((w.alloc (.cells #[.int .i64 T.kind, .int .u64 T.num, .string T.text, .slice T.ia T.len T.cap] 38)).alloc (.cells #[.int .i64 t, .slice pa n pc] 40)).heap[w.heap.size + 1]? = some (.cells #[.int .i64 t, .slice pa n pc] 40) from by have := alloc_at (w.alloc (.cells #[.int .i64 T.kind, .int .u64 T.num, .string T.text, .slice T.ia T.len T.cap] 38)) (.cells #[.int .i64 t, .slice pa n pc] 40); rwa [show (w.alloc (.cells #[.int .i64 T.kind, .int .u64 T.num, .string T.text, .slice T.ia T.len T.cap] 38)).heap.size = w.heap.size + 1 by simp] at this)
  have HB := Lib.hid (((Below.refl w.heap.size w).alloc (Nat.le_refl _) (.cells #[.int .i64 T.kind, .int .u64 T.num, .string T.text, .slice T.ia T.len T.cap] 38)).alloc (by simp) (.cells #[.int .i64 t, .slice pa n pc] 40))
  clear hw hg
  go_enter Tryz.func4, Tryz.ntmps4
  go_wp2_with (first
    | (go_at_call 6; refine (HG.out _ HB.out).mono ?_; rintro e w' ⟨rfl, rfl⟩)
    | (go_at_call 7; refine (HW.out _ HB.out).mono ?_; rintro e w9 ⟨rfl, hb9⟩; have HB9 := Lib.hid (below_step8' HB.out hb9); clear hb9))
  go_ret
  exact ⟨rfl, HB9.out⟩
set_option maxRecDepth 100000 in
set_option maxHeartbeats 4000000 in
theorem walk_much (ao : Option Addr) (len cap : Nat) (t : Int) (pa : Option Addr) (n pc : Nat) (T : VT) (w : World) (hw : ∀ wx, Below w.heap.size w wx → Calls Tryz.prog 7 #[] wx fun e w' => e = .returned (.bool true) ∧ Below wx.heap.size wx w') (hg : ∀ wx, Below w.heap.size w wx → Calls Tryz.prog 6 #[.slice ao len cap] wx fun e w' => e = .returned (.bool false) ∧ wx = w') (hmu : ∀ wx, Below w.heap.size w wx → Calls Tryz.prog 13 #[.agg #[.int .i64 T.kind, .int .u64 T.num, .string T.text, .slice T.ia T.len T.cap], .int .i64 0] wx fun e w' => e = .returned (.bool true) ∧ Below wx.heap.size wx w') :
    Calls Tryz.prog 4 #[.slice ao len cap, .agg #[.int .i64 T.kind, .int .u64 T.num, .string T.text, .slice T.ia T.len T.cap], .agg #[.int .i64 t, .slice pa n pc]] w (fun e w' => e = .returned (.bool true) ∧ Below w.heap.size w w') := by
  have HW := Lib.hid hw
  have HG := Lib.hid hg
  have HM := Lib.hid hmu
  have HQ := Lib.hid (alloc_old (o := (.cells #[.int .i64 t, .slice pa n pc] 40)) (alloc_at w (.cells #[.int .i64 T.kind, .int .u64 T.num, .string T.text, .slice T.ia T.len T.cap] 38)))
  have HK := Lib.hid (show ((w.alloc (.cells #[.int .i64 T.kind, .int .u64 T.num, .string T.text, .slice T.ia T.len T.cap] 38)).alloc (.cells #[.int .i64 t, .slice pa n pc] 40)).heap[w.heap.size + 1]? = some (.cells #[.int .i64 t, .slice pa n pc] 40) from by have := alloc_at (w.alloc (.cells #[.int .i64 T.kind, .int .u64 T.num, .string T.text, .slice T.ia T.len T.cap] 38)) (.cells #[.int .i64 t, .slice pa n pc] 40); rwa [show (w.alloc (.cells #[.int .i64 T.kind, .int .u64 T.num, .string T.text, .slice T.ia T.len T.cap] 38)).heap.size = w.heap.size + 1 by simp] at this)
  have HB := Lib.hid (((Below.refl w.heap.size w).alloc (Nat.le_refl _) (.cells #[.int .i64 T.kind, .int .u64 T.num, .string T.text, .slice T.ia T.len T.cap] 38)).alloc (by simp) (.cells #[.int .i64 t, .slice pa n pc] 40))
  clear hw hg hmu
  go_enter Tryz.func4, Tryz.ntmps4
  go_wp2_with (first
    | (go_at_call 6; refine (HG.out _ HB.out).mono ?_; rintro e w' ⟨rfl, rfl⟩)
    | (go_at_call 13; refine (HM.out _ HB.out).mono ?_; rintro e w1 ⟨rfl, hb1⟩; have HB1 := Lib.hid (below_step8' HB.out hb1); have HQ1 := Lib.hid (box_keep HQ.out hb1); have HK1 := Lib.hid (box_keep HK.out hb1); have k0 : w1.cell? ⟨w.heap.size + 1, 0, none⟩ = some (.int .i64 t) := cell_at (j := 0) HK1.out rfl; have k1 : w1.cell? ⟨w.heap.size + 1, 1, none⟩ = some (.slice pa n pc) := cell_at (j := 1) HK1.out rfl; have d0 : w1.cell? ⟨w.heap.size, 0, none⟩ = some (.int .i64 T.kind) := cell_at (j := 0) HQ1.out rfl; have d1 : w1.cell? ⟨w.heap.size, 1, none⟩ = some (.int .u64 T.num) := cell_at (j := 1) HQ1.out rfl; have d2 : w1.cell? ⟨w.heap.size, 2, none⟩ = some (.string T.text) := cell_at (j := 2) HQ1.out rfl; have d3 : w1.cell? ⟨w.heap.size, 3, none⟩ = some (.slice T.ia T.len T.cap) := cell_at (j := 3) HQ1.out rfl; clear hb1)
    | (go_at_call 7; refine (HW.out _ HB1.out).mono ?_; rintro e w9 ⟨rfl, hb9⟩; have HB9 := Lib.hid (below_step8' HB1.out hb9); clear hb9))
  go_ret
  exact ⟨rfl, HB9.out⟩
set_option maxRecDepth 100000 in
set_option maxHeartbeats 4000000 in
theorem walk_many (ao : Option Addr) (len cap : Nat) (t : Int) (pa : Option Addr) (n pc : Nat) (T : VT) (w : World) (hn : 100 < n) (hw : ∀ wx, Below w.heap.size w wx → Calls Tryz.prog 7 #[] wx fun e w' => e = .returned (.bool true) ∧ Below wx.heap.size wx w') (hg : ∀ wx, Below w.heap.size w wx → Calls Tryz.prog 6 #[.slice ao len cap] wx fun e w' => e = .returned (.bool false) ∧ wx = w') (hmu : ∀ wx, Below w.heap.size w wx → Calls Tryz.prog 13 #[.agg #[.int .i64 T.kind, .int .u64 T.num, .string T.text, .slice T.ia T.len T.cap], .int .i64 0] wx fun e w' => e = .returned (.bool false) ∧ Below wx.heap.size wx w') :
    Calls Tryz.prog 4 #[.slice ao len cap, .agg #[.int .i64 T.kind, .int .u64 T.num, .string T.text, .slice T.ia T.len T.cap], .agg #[.int .i64 t, .slice pa n pc]] w (fun e w' => e = .returned (.bool true) ∧ Below w.heap.size w w') := by
  have HW := Lib.hid hw
  have HG := Lib.hid hg
  have HM := Lib.hid hmu
  have HQ := Lib.hid (alloc_old (o := (.cells #[.int .i64 t, .slice pa n pc] 40)) (alloc_at w (.cells #[.int .i64 T.kind, .int .u64 T.num, .string T.text, .slice T.ia T.len T.cap] 38)))
  have HK := Lib.hid (show ((w.alloc (.cells #[.int .i64 T.kind, .int .u64 T.num, .string T.text, .slice T.ia T.len T.cap] 38)).alloc (.cells #[.int .i64 t, .slice pa n pc] 40)).heap[w.heap.size + 1]? = some (.cells #[.int .i64 t, .slice pa n pc] 40) from by have := alloc_at (w.alloc (.cells #[.int .i64 T.kind, .int .u64 T.num, .string T.text, .slice T.ia T.len T.cap] 38)) (.cells #[.int .i64 t, .slice pa n pc] 40); rwa [show (w.alloc (.cells #[.int .i64 T.kind, .int .u64 T.num, .string T.text, .slice T.ia T.len T.cap] 38)).heap.size = w.heap.size + 1 by simp] at this)
  have HB := Lib.hid (((Below.refl w.heap.size w).alloc (Nat.le_refl _) (.cells #[.int .i64 T.kind, .int .u64 T.num, .string T.text, .slice T.ia T.len T.cap] 38)).alloc (by simp) (.cells #[.int .i64 t, .slice pa n pc] 40))
  have d9 : decide ((100 : Int) < (n : Nat)) = true := decide_eq_true (by omega)
  clear hw hg hmu
  go_enter Tryz.func4, Tryz.ntmps4
  go_wp2_with (first
    | (go_at_call 6; refine (HG.out _ HB.out).mono ?_; rintro e w' ⟨rfl, rfl⟩)
    | (go_at_call 13; refine (HM.out _ HB.out).mono ?_; rintro e w1 ⟨rfl, hb1⟩; have HB1 := Lib.hid (below_step8' HB.out hb1); have HQ1 := Lib.hid (box_keep HQ.out hb1); have HK1 := Lib.hid (box_keep HK.out hb1); have k0 : w1.cell? ⟨w.heap.size + 1, 0, none⟩ = some (.int .i64 t) := cell_at (j := 0) HK1.out rfl; have k1 : w1.cell? ⟨w.heap.size + 1, 1, none⟩ = some (.slice pa n pc) := cell_at (j := 1) HK1.out rfl; have d0 : w1.cell? ⟨w.heap.size, 0, none⟩ = some (.int .i64 T.kind) := cell_at (j := 0) HQ1.out rfl; have d1 : w1.cell? ⟨w.heap.size, 1, none⟩ = some (.int .u64 T.num) := cell_at (j := 1) HQ1.out rfl; have d2 : w1.cell? ⟨w.heap.size, 2, none⟩ = some (.string T.text) := cell_at (j := 2) HQ1.out rfl; have d3 : w1.cell? ⟨w.heap.size, 3, none⟩ = some (.slice T.ia T.len T.cap) := cell_at (j := 3) HQ1.out rfl; clear hb1)
    | (go_at_call 7; refine (HW.out _ HB1.out).mono ?_; rintro e w9 ⟨rfl, hb9⟩; have HB9 := Lib.hid (below_step8' HB1.out hb9); clear hb9))
  go_ret
  exact ⟨rfl, HB9.out⟩
set_option maxRecDepth 100000 in
set_option maxHeartbeats 8000000 in
theorem walk_not (ao : Option Addr) (len cap : Nat) (t : Int) (pa : Option Addr) (n pc : Nat) (T : VT) (w : World) (hn : n ≤ 100) (V : VT) (is : Bool) (fe ce ca : Int) (hfe : fe ≠ 0) (hce : is = true → ce = 0) (hw : ∀ wx, Below w.heap.size w wx → Calls Tryz.prog 7 #[] wx fun e w' => e = .returned (.bool true) ∧ Below wx.heap.size wx w') (hg : ∀ wx, Below w.heap.size w wx → Calls Tryz.prog 6 #[.slice ao len cap] wx fun e w' => e = .returned (.bool false) ∧ wx = w') (hmu : ∀ wx, Below w.heap.size w wx → Calls Tryz.prog 13 #[.agg #[.int .i64 T.kind, .int .u64 T.num, .string T.text, .slice T.ia T.len T.cap], .int .i64 0] wx fun e w' => e = .returned (.bool false) ∧ Below wx.heap.size wx w')
    (hat : ∀ wx, Below w.heap.size w wx → Calls Tryz.prog 14 #[.slice ao len cap, .int .i64 t, .slice pa n pc, .agg #[.int .i64 T.kind, .int .u64 T.num, .string T.text, .slice T.ia T.len T.cap]] wx fun e w' => ∃ U : VT, e = .returned (.tuple #[.agg #[.int .i64 U.kind, .int .u64 U.num, .string U.text, .slice U.ia U.len U.cap], .bool is]) ∧ sameT V U = true ∧ ValAt w' (fun k => w.heap.size ≤ k) U ∧ Below wx.heap.size wx w')
    (hfi : ∀ wx, Below w.heap.size w wx → Calls Tryz.prog 15 #[.slice ao len cap, .int .i64 t, .agg #[.int .i64 T.kind, .int .u64 T.num, .string T.text, .slice T.ia T.len T.cap]] wx fun e w' => e = .returned (.int .i64 fe) ∧ Below wx.heap.size wx w')
    (hck : ∀ wx, Below w.heap.size w wx → Calls Tryz.prog 17 #[.slice ao len cap] wx fun e w' => e = .returned (.agg #[.int .i64 ce, .int .i64 ca]) ∧ Below wx.heap.size wx w')
    (hsm : is = false → ∀ (U : VT) (S' : Nat → Prop) wx, Below w.heap.size w wx → sameT V U = true → ValAt wx S' U → Calls Tryz.prog 16 #[.agg #[.int .i64 U.kind, .int .u64 U.num, .string U.text, .slice U.ia U.len U.cap], .agg #[.int .i64 0, .int .u64 0, .string ⟨#[]⟩, .slice none 0 0]] wx fun e w' => e = .returned (.bool true) ∧ Below wx.heap.size wx w') :
    Calls Tryz.prog 4 #[.slice ao len cap, .agg #[.int .i64 T.kind, .int .u64 T.num, .string T.text, .slice T.ia T.len T.cap], .agg #[.int .i64 t, .slice pa n pc]] w (fun e w' => e = .returned (.bool true) ∧ Below w.heap.size w w') := by
  have HW := Lib.hid hw
  have HG := Lib.hid hg
  have HM := Lib.hid hmu
  have HAT := Lib.hid hat
  have HFI := Lib.hid hfi
  have HCK := Lib.hid hck
  have HQ := Lib.hid (alloc_old (o := (.cells #[.int .i64 t, .slice pa n pc] 40)) (alloc_at w (.cells #[.int .i64 T.kind, .int .u64 T.num, .string T.text, .slice T.ia T.len T.cap] 38)))
  have HK := Lib.hid (show ((w.alloc (.cells #[.int .i64 T.kind, .int .u64 T.num, .string T.text, .slice T.ia T.len T.cap] 38)).alloc (.cells #[.int .i64 t, .slice pa n pc] 40)).heap[w.heap.size + 1]? = some (.cells #[.int .i64 t, .slice pa n pc] 40) from by have := alloc_at (w.alloc (.cells #[.int .i64 T.kind, .int .u64 T.num, .string T.text, .slice T.ia T.len T.cap] 38)) (.cells #[.int .i64 t, .slice pa n pc] 40); rwa [show (w.alloc (.cells #[.int .i64 T.kind, .int .u64 T.num, .string T.text, .slice T.ia T.len T.cap] 38)).heap.size = w.heap.size + 1 by simp] at this)
  have HB := Lib.hid (((Below.refl w.heap.size w).alloc (Nat.le_refl _) (.cells #[.int .i64 T.kind, .int .u64 T.num, .string T.text, .slice T.ia T.len T.cap] 38)).alloc (by simp) (.cells #[.int .i64 t, .slice pa n pc] 40))
  have d9 : decide ((100 : Int) < (n : Nat)) = false := decide_eq_false (by omega)
  have hne : (fe != 0) = true := by simpa using hfe
  have hfd := fault_err
  clear hw hg hmu hat hfi hck hfe
  cases is with
  | true =>
    obtain rfl := hce rfl
    clear hsm hce
    go_enter Tryz.func4, Tryz.ntmps4
    go_upto_region 4 with (first
      | (go_at_call 6; refine (HG.out _ HB.out).mono ?_; rintro e w' ⟨rfl, rfl⟩)
      | (go_at_call 13; refine (HM.out _ HB.out).mono ?_; rintro e w1 ⟨rfl, hb1⟩; have HB1 := Lib.hid (below_step8' HB.out hb1); have HQ1 := Lib.hid (box_keep HQ.out hb1); have HK1 := Lib.hid (box_keep HK.out hb1); have k0 : w1.cell? ⟨w.heap.size + 1, 0, none⟩ = some (.int .i64 t) := cell_at (j := 0) HK1.out rfl; have k1 : w1.cell? ⟨w.heap.size + 1, 1, none⟩ = some (.slice pa n pc) := cell_at (j := 1) HK1.out rfl; have d0 : w1.cell? ⟨w.heap.size, 0, none⟩ = some (.int .i64 T.kind) := cell_at (j := 0) HQ1.out rfl; have d1 : w1.cell? ⟨w.heap.size, 1, none⟩ = some (.int .u64 T.num) := cell_at (j := 1) HQ1.out rfl; have d2 : w1.cell? ⟨w.heap.size, 2, none⟩ = some (.string T.text) := cell_at (j := 2) HQ1.out rfl; have d3 : w1.cell? ⟨w.heap.size, 3, none⟩ = some (.slice T.ia T.len T.cap) := cell_at (j := 3) HQ1.out rfl; clear hb1)
      | (go_at_call 14; refine (HAT.out _ HB1.out).mono ?_; rintro e w2 ⟨U, rfl, hu, hv, hb2⟩; have HU := Lib.hid hu; have HV := Lib.hid (hv.next ((Below.refl _ _).alloc (Nat.le_refl _) (.cells #[.int .i64 U.kind, .int .u64 U.num, .string U.text, .slice U.ia U.len U.cap] 38))); have HB2 := Lib.hid ((below_step8' HB1.out hb2).alloc (below_step8' HB1.out hb2).size (.cells #[.int .i64 U.kind, .int .u64 U.num, .string U.text, .slice U.ia U.len U.cap] 38)); have HX2 := Lib.hid (alloc_at w2 (.cells #[.int .i64 U.kind, .int .u64 U.num, .string U.text, .slice U.ia U.len U.cap] 38)); have HQ2 := Lib.hid (alloc_old (o := (.cells #[.int .i64 U.kind, .int .u64 U.num, .string U.text, .slice U.ia U.len U.cap] 38)) (box_keep HQ1.out hb2)); have HK2 := Lib.hid (alloc_old (o := (.cells #[.int .i64 U.kind, .int .u64 U.num, .string U.text, .slice U.ia U.len U.cap] 38)) (box_keep HK1.out hb2)); clear hu hv hb2))
    clear k0 k1 d0 d1 d2 d3
    generalize (w2.alloc (.cells #[.int .i64 U.kind, .int .u64 U.num, .string U.text, .slice U.ia U.len U.cap] 38)) = W2 at *
    have d0 : W2.cell? ⟨w.heap.size, 0, none⟩ = some (.int .i64 T.kind) := cell_at (j := 0) HQ2.out rfl
    have d1 : W2.cell? ⟨w.heap.size, 1, none⟩ = some (.int .u64 T.num) := cell_at (j := 1) HQ2.out rfl
    have d2 : W2.cell? ⟨w.heap.size, 2, none⟩ = some (.string T.text) := cell_at (j := 2) HQ2.out rfl
    have d3 : W2.cell? ⟨w.heap.size, 3, none⟩ = some (.slice T.ia T.len T.cap) := cell_at (j := 3) HQ2.out rfl
    have k0 : W2.cell? ⟨w.heap.size + 1, 0, none⟩ = some (.int .i64 t) := cell_at (j := 0) HK2.out rfl
    have k1 : W2.cell? ⟨w.heap.size + 1, 1, none⟩ = some (.slice pa n pc) := cell_at (j := 1) HK2.out rfl
    go_wp2_with (first
      | (go_at_call 15; refine (HFI.out _ HB2.out).mono ?_; rintro e w3 ⟨rfl, hb3⟩; have HB3 := Lib.hid (below_step8' HB2.out hb3); have HX3 := Lib.hid (box_keep HX2.out hb3); have HQ3 := Lib.hid (box_keep HQ2.out hb3); have HK3 := Lib.hid (box_keep HK2.out hb3); have HV3 := Lib.hid (HV.out.next hb3); clear d0 d1 d2 d3 k0 k1; have d0 : w3.cell? ⟨w.heap.size, 0, none⟩ = some (.int .i64 T.kind) := cell_at (j := 0) HQ3.out rfl; have d1 : w3.cell? ⟨w.heap.size, 1, none⟩ = some (.int .u64 T.num) := cell_at (j := 1) HQ3.out rfl; have d2 : w3.cell? ⟨w.heap.size, 2, none⟩ = some (.string T.text) := cell_at (j := 2) HQ3.out rfl; have d3 : w3.cell? ⟨w.heap.size, 3, none⟩ = some (.slice T.ia T.len T.cap) := cell_at (j := 3) HQ3.out rfl; have k0 : w3.cell? ⟨w.heap.size + 1, 0, none⟩ = some (.int .i64 t) := cell_at (j := 0) HK3.out rfl; have k1 : w3.cell? ⟨w.heap.size + 1, 1, none⟩ = some (.slice pa n pc) := cell_at (j := 1) HK3.out rfl; have x0 : w3.cell? ⟨w2.heap.size, 0, none⟩ = some (.int .i64 U.kind) := cell_at (j := 0) HX3.out rfl; have x1 : w3.cell? ⟨w2.heap.size, 1, none⟩ = some (.int .u64 U.num) := cell_at (j := 1) HX3.out rfl; have x2 : w3.cell? ⟨w2.heap.size, 2, none⟩ = some (.string U.text) := cell_at (j := 2) HX3.out rfl; have x3 : w3.cell? ⟨w2.heap.size, 3, none⟩ = some (.slice U.ia U.len U.cap) := cell_at (j := 3) HX3.out rfl; clear hb3)
      | (go_at_call 17; refine (HCK.out _ HB3.out).mono ?_; rintro e w6 ⟨rfl, hb6⟩; have HB6 := Lib.hid (below_step8' HB3.out hb6); clear hb6)
      | (go_at_call 7; refine (HW.out _ HB6.out).mono ?_; rintro e w9 ⟨rfl, hb9⟩; have HB9 := Lib.hid (below_step8' HB6.out hb9); clear hb9))
    go_ret
    exact ⟨rfl, HB9.out⟩
  | false =>
    have HSM := Lib.hid (hsm rfl)
    obtain ⟨q, hq⟩ : ∃ q, (ce == 0) = q := ⟨_, rfl⟩
    clear hsm hce
    cases q
    · go_enter Tryz.func4, Tryz.ntmps4
      go_upto_region 4 with (first
        | (go_at_call 6; refine (HG.out _ HB.out).mono ?_; rintro e w' ⟨rfl, rfl⟩)
        | (go_at_call 13; refine (HM.out _ HB.out).mono ?_; rintro e w1 ⟨rfl, hb1⟩; have HB1 := Lib.hid (below_step8' HB.out hb1); have HQ1 := Lib.hid (box_keep HQ.out hb1); have HK1 := Lib.hid (box_keep HK.out hb1); have k0 : w1.cell? ⟨w.heap.size + 1, 0, none⟩ = some (.int .i64 t) := cell_at (j := 0) HK1.out rfl; have k1 : w1.cell? ⟨w.heap.size + 1, 1, none⟩ = some (.slice pa n pc) := cell_at (j := 1) HK1.out rfl; have d0 : w1.cell? ⟨w.heap.size, 0, none⟩ = some (.int .i64 T.kind) := cell_at (j := 0) HQ1.out rfl; have d1 : w1.cell? ⟨w.heap.size, 1, none⟩ = some (.int .u64 T.num) := cell_at (j := 1) HQ1.out rfl; have d2 : w1.cell? ⟨w.heap.size, 2, none⟩ = some (.string T.text) := cell_at (j := 2) HQ1.out rfl; have d3 : w1.cell? ⟨w.heap.size, 3, none⟩ = some (.slice T.ia T.len T.cap) := cell_at (j := 3) HQ1.out rfl; clear hb1)
        | (go_at_call 14; refine (HAT.out _ HB1.out).mono ?_; rintro e w2 ⟨U, rfl, hu, hv, hb2⟩; have HU := Lib.hid hu; have HV := Lib.hid (hv.next ((Below.refl _ _).alloc (Nat.le_refl _) (.cells #[.int .i64 U.kind, .int .u64 U.num, .string U.text, .slice U.ia U.len U.cap] 38))); have HB2 := Lib.hid ((below_step8' HB1.out hb2).alloc (below_step8' HB1.out hb2).size (.cells #[.int .i64 U.kind, .int .u64 U.num, .string U.text, .slice U.ia U.len U.cap] 38)); have HX2 := Lib.hid (alloc_at w2 (.cells #[.int .i64 U.kind, .int .u64 U.num, .string U.text, .slice U.ia U.len U.cap] 38)); have HQ2 := Lib.hid (alloc_old (o := (.cells #[.int .i64 U.kind, .int .u64 U.num, .string U.text, .slice U.ia U.len U.cap] 38)) (box_keep HQ1.out hb2)); have HK2 := Lib.hid (alloc_old (o := (.cells #[.int .i64 U.kind, .int .u64 U.num, .string U.text, .slice U.ia U.len U.cap] 38)) (box_keep HK1.out hb2)); clear hu hv hb2))
      clear k0 k1 d0 d1 d2 d3
      generalize (w2.alloc (.cells #[.int .i64 U.kind, .int .u64 U.num, .string U.text, .slice U.ia U.len U.cap] 38)) = W2 at *
      have d0 : W2.cell? ⟨w.heap.size, 0, none⟩ = some (.int .i64 T.kind) := cell_at (j := 0) HQ2.out rfl
      have d1 : W2.cell? ⟨w.heap.size, 1, none⟩ = some (.int .u64 T.num) := cell_at (j := 1) HQ2.out rfl
      have d2 : W2.cell? ⟨w.heap.size, 2, none⟩ = some (.string T.text) := cell_at (j := 2) HQ2.out rfl
      have d3 : W2.cell? ⟨w.heap.size, 3, none⟩ = some (.slice T.ia T.len T.cap) := cell_at (j := 3) HQ2.out rfl
      have k0 : W2.cell? ⟨w.heap.size + 1, 0, none⟩ = some (.int .i64 t) := cell_at (j := 0) HK2.out rfl
      have k1 : W2.cell? ⟨w.heap.size + 1, 1, none⟩ = some (.slice pa n pc) := cell_at (j := 1) HK2.out rfl
      go_wp2_with (first
        | (go_at_call 15; refine (HFI.out _ HB2.out).mono ?_; rintro e w3 ⟨rfl, hb3⟩; have HB3 := Lib.hid (below_step8' HB2.out hb3); have HX3 := Lib.hid (box_keep HX2.out hb3); have HQ3 := Lib.hid (box_keep HQ2.out hb3); have HK3 := Lib.hid (box_keep HK2.out hb3); have HV3 := Lib.hid (HV.out.next hb3); clear d0 d1 d2 d3 k0 k1; have d0 : w3.cell? ⟨w.heap.size, 0, none⟩ = some (.int .i64 T.kind) := cell_at (j := 0) HQ3.out rfl; have d1 : w3.cell? ⟨w.heap.size, 1, none⟩ = some (.int .u64 T.num) := cell_at (j := 1) HQ3.out rfl; have d2 : w3.cell? ⟨w.heap.size, 2, none⟩ = some (.string T.text) := cell_at (j := 2) HQ3.out rfl; have d3 : w3.cell? ⟨w.heap.size, 3, none⟩ = some (.slice T.ia T.len T.cap) := cell_at (j := 3) HQ3.out rfl; have k0 : w3.cell? ⟨w.heap.size + 1, 0, none⟩ = some (.int .i64 t) := cell_at (j := 0) HK3.out rfl; have k1 : w3.cell? ⟨w.heap.size + 1, 1, none⟩ = some (.slice pa n pc) := cell_at (j := 1) HK3.out rfl; have x0 : w3.cell? ⟨w2.heap.size, 0, none⟩ = some (.int .i64 U.kind) := cell_at (j := 0) HX3.out rfl; have x1 : w3.cell? ⟨w2.heap.size, 1, none⟩ = some (.int .u64 U.num) := cell_at (j := 1) HX3.out rfl; have x2 : w3.cell? ⟨w2.heap.size, 2, none⟩ = some (.string U.text) := cell_at (j := 2) HX3.out rfl; have x3 : w3.cell? ⟨w2.heap.size, 3, none⟩ = some (.slice U.ia U.len U.cap) := cell_at (j := 3) HX3.out rfl; clear hb3)
        | (go_at_call 16; refine (HSM.out U _ _ HB3.out HU.out HV3.out).mono ?_; rintro e w5 ⟨rfl, hb5⟩; have HB5 := Lib.hid (below_step8' HB3.out hb5); clear hb5)
        | (go_at_call 17; refine (HCK.out _ HB5.out).mono ?_; rintro e w6 ⟨rfl, hb6⟩; have HB6 := Lib.hid (below_step8' HB5.out hb6); clear hb6)
        | (go_at_call 7; refine (HW.out _ HB6.out).mono ?_; rintro e w9 ⟨rfl, hb9⟩; have HB9 := Lib.hid (below_step8' HB6.out hb9); clear hb9))
      go_ret
      exact ⟨rfl, HB9.out⟩
    · go_enter Tryz.func4, Tryz.ntmps4
      go_upto_region 4 with (first
        | (go_at_call 6; refine (HG.out _ HB.out).mono ?_; rintro e w' ⟨rfl, rfl⟩)
        | (go_at_call 13; refine (HM.out _ HB.out).mono ?_; rintro e w1 ⟨rfl, hb1⟩; have HB1 := Lib.hid (below_step8' HB.out hb1); have HQ1 := Lib.hid (box_keep HQ.out hb1); have HK1 := Lib.hid (box_keep HK.out hb1); have k0 : w1.cell? ⟨w.heap.size + 1, 0, none⟩ = some (.int .i64 t) := cell_at (j := 0) HK1.out rfl; have k1 : w1.cell? ⟨w.heap.size + 1, 1, none⟩ = some (.slice pa n pc) := cell_at (j := 1) HK1.out rfl; have d0 : w1.cell? ⟨w.heap.size, 0, none⟩ = some (.int .i64 T.kind) := cell_at (j := 0) HQ1.out rfl; have d1 : w1.cell? ⟨w.heap.size, 1, none⟩ = some (.int .u64 T.num) := cell_at (j := 1) HQ1.out rfl; have d2 : w1.cell? ⟨w.heap.size, 2, none⟩ = some (.string T.text) := cell_at (j := 2) HQ1.out rfl; have d3 : w1.cell? ⟨w.heap.size, 3, none⟩ = some (.slice T.ia T.len T.cap) := cell_at (j := 3) HQ1.out rfl; clear hb1)
        | (go_at_call 14; refine (HAT.out _ HB1.out).mono ?_; rintro e w2 ⟨U, rfl, hu, hv, hb2⟩; have HU := Lib.hid hu; have HV := Lib.hid (hv.next ((Below.refl _ _).alloc (Nat.le_refl _) (.cells #[.int .i64 U.kind, .int .u64 U.num, .string U.text, .slice U.ia U.len U.cap] 38))); have HB2 := Lib.hid ((below_step8' HB1.out hb2).alloc (below_step8' HB1.out hb2).size (.cells #[.int .i64 U.kind, .int .u64 U.num, .string U.text, .slice U.ia U.len U.cap] 38)); have HX2 := Lib.hid (alloc_at w2 (.cells #[.int .i64 U.kind, .int .u64 U.num, .string U.text, .slice U.ia U.len U.cap] 38)); have HQ2 := Lib.hid (alloc_old (o := (.cells #[.int .i64 U.kind, .int .u64 U.num, .string U.text, .slice U.ia U.len U.cap] 38)) (box_keep HQ1.out hb2)); have HK2 := Lib.hid (alloc_old (o := (.cells #[.int .i64 U.kind, .int .u64 U.num, .string U.text, .slice U.ia U.len U.cap] 38)) (box_keep HK1.out hb2)); clear hu hv hb2))
      clear k0 k1 d0 d1 d2 d3
      generalize (w2.alloc (.cells #[.int .i64 U.kind, .int .u64 U.num, .string U.text, .slice U.ia U.len U.cap] 38)) = W2 at *
      have d0 : W2.cell? ⟨w.heap.size, 0, none⟩ = some (.int .i64 T.kind) := cell_at (j := 0) HQ2.out rfl
      have d1 : W2.cell? ⟨w.heap.size, 1, none⟩ = some (.int .u64 T.num) := cell_at (j := 1) HQ2.out rfl
      have d2 : W2.cell? ⟨w.heap.size, 2, none⟩ = some (.string T.text) := cell_at (j := 2) HQ2.out rfl
      have d3 : W2.cell? ⟨w.heap.size, 3, none⟩ = some (.slice T.ia T.len T.cap) := cell_at (j := 3) HQ2.out rfl
      have k0 : W2.cell? ⟨w.heap.size + 1, 0, none⟩ = some (.int .i64 t) := cell_at (j := 0) HK2.out rfl
      have k1 : W2.cell? ⟨w.heap.size + 1, 1, none⟩ = some (.slice pa n pc) := cell_at (j := 1) HK2.out rfl
      go_wp2_with (first
        | (go_at_call 15; refine (HFI.out _ HB2.out).mono ?_; rintro e w3 ⟨rfl, hb3⟩; have HB3 := Lib.hid (below_step8' HB2.out hb3); have HX3 := Lib.hid (box_keep HX2.out hb3); have HQ3 := Lib.hid (box_keep HQ2.out hb3); have HK3 := Lib.hid (box_keep HK2.out hb3); have HV3 := Lib.hid (HV.out.next hb3); clear d0 d1 d2 d3 k0 k1; have d0 : w3.cell? ⟨w.heap.size, 0, none⟩ = some (.int .i64 T.kind) := cell_at (j := 0) HQ3.out rfl; have d1 : w3.cell? ⟨w.heap.size, 1, none⟩ = some (.int .u64 T.num) := cell_at (j := 1) HQ3.out rfl; have d2 : w3.cell? ⟨w.heap.size, 2, none⟩ = some (.string T.text) := cell_at (j := 2) HQ3.out rfl; have d3 : w3.cell? ⟨w.heap.size, 3, none⟩ = some (.slice T.ia T.len T.cap) := cell_at (j := 3) HQ3.out rfl; have k0 : w3.cell? ⟨w.heap.size + 1, 0, none⟩ = some (.int .i64 t) := cell_at (j := 0) HK3.out rfl; have k1 : w3.cell? ⟨w.heap.size + 1, 1, none⟩ = some (.slice pa n pc) := cell_at (j := 1) HK3.out rfl; have x0 : w3.cell? ⟨w2.heap.size, 0, none⟩ = some (.int .i64 U.kind) := cell_at (j := 0) HX3.out rfl; have x1 : w3.cell? ⟨w2.heap.size, 1, none⟩ = some (.int .u64 U.num) := cell_at (j := 1) HX3.out rfl; have x2 : w3.cell? ⟨w2.heap.size, 2, none⟩ = some (.string U.text) := cell_at (j := 2) HX3.out rfl; have x3 : w3.cell? ⟨w2.heap.size, 3, none⟩ = some (.slice U.ia U.len U.cap) := cell_at (j := 3) HX3.out rfl; clear hb3)
        | (go_at_call 16; refine (HSM.out U _ _ HB3.out HU.out HV3.out).mono ?_; rintro e w5 ⟨rfl, hb5⟩; have HB5 := Lib.hid (below_step8' HB3.out hb5); clear hb5)
        | (go_at_call 17; refine (HCK.out _ HB5.out).mono ?_; rintro e w6 ⟨rfl, hb6⟩; have HB6 := Lib.hid (below_step8' HB5.out hb6); clear hb6)
        | (go_at_call 7; refine (HW.out _ HB6.out).mono ?_; rintro e w9 ⟨rfl, hb9⟩; have HB9 := Lib.hid (below_step8' HB6.out hb9); clear hb9))
      go_ret
      exact ⟨rfl, HB9.out⟩
set_option maxRecDepth 100000 in
set_option maxHeartbeats 8000000 in
theorem walk_yes (ao : Option Addr) (len cap : Nat) (t : Int) (pa : Option Addr) (n pc : Nat) (T : VT) (w : World) (hn : n ≤ 100) (V : VT) (is : Bool) (hw : ∀ wx, Below w.heap.size w wx → Calls Tryz.prog 7 #[] wx fun e w' => e = .returned (.bool true) ∧ Below wx.heap.size wx w') (hg : ∀ wx, Below w.heap.size w wx → Calls Tryz.prog 6 #[.slice ao len cap] wx fun e w' => e = .returned (.bool false) ∧ wx = w') (hmu : ∀ wx, Below w.heap.size w wx → Calls Tryz.prog 13 #[.agg #[.int .i64 T.kind, .int .u64 T.num, .string T.text, .slice T.ia T.len T.cap], .int .i64 0] wx fun e w' => e = .returned (.bool false) ∧ Below wx.heap.size wx w')
    (hat : ∀ wx, Below w.heap.size w wx → Calls Tryz.prog 14 #[.slice ao len cap, .int .i64 t, .slice pa n pc, .agg #[.int .i64 T.kind, .int .u64 T.num, .string T.text, .slice T.ia T.len T.cap]] wx fun e w' => ∃ U : VT, e = .returned (.tuple #[.agg #[.int .i64 U.kind, .int .u64 U.num, .string U.text, .slice U.ia U.len U.cap], .bool is]) ∧ sameT V U = true ∧ ValAt w' (fun k => w.heap.size ≤ k) U ∧ Below wx.heap.size wx w')
    (hfi : ∀ wx, Below w.heap.size w wx → Calls Tryz.prog 15 #[.slice ao len cap, .int .i64 t, .agg #[.int .i64 T.kind, .int .u64 T.num, .string T.text, .slice T.ia T.len T.cap]] wx fun e w' => e = .returned (.int .i64 0) ∧ Below wx.heap.size wx w')
    (hra : ∀ wx, Below w.heap.size w wx → Calls Tryz.prog 18 #[.slice ao len cap, .int .i64 t, .slice pa n pc, .agg #[.int .i64 T.kind, .int .u64 T.num, .string T.text, .slice T.ia T.len T.cap]] wx fun e w' => e = .returned (.tuple #[.agg #[.int .i64 V.kind, .int .u64 V.num, .string V.text, .slice V.ia V.len V.cap], .bool is]) ∧ Below wx.heap.size wx w')
    (hsm : ∀ (U : VT) (S' : Nat → Prop) wx, Below w.heap.size w wx → sameT V U = true → ValAt wx S' U → Calls Tryz.prog 16 #[.agg #[.int .i64 U.kind, .int .u64 U.num, .string U.text, .slice U.ia U.len U.cap], .agg #[.int .i64 V.kind, .int .u64 V.num, .string V.text, .slice V.ia V.len V.cap]] wx fun e w' => e = .returned (.bool true) ∧ Below wx.heap.size wx w') :
    Calls Tryz.prog 4 #[.slice ao len cap, .agg #[.int .i64 T.kind, .int .u64 T.num, .string T.text, .slice T.ia T.len T.cap], .agg #[.int .i64 t, .slice pa n pc]] w (fun e w' => e = .returned (.bool true) ∧ Below w.heap.size w w') := by
  have HW := Lib.hid hw
  have HG := Lib.hid hg
  have HM := Lib.hid hmu
  have HAT := Lib.hid hat
  have HFI := Lib.hid hfi
  have HRA := Lib.hid hra
  have HSM := Lib.hid hsm
  have HQ := Lib.hid (alloc_old (o := (.cells #[.int .i64 t, .slice pa n pc] 40)) (alloc_at w (.cells #[.int .i64 T.kind, .int .u64 T.num, .string T.text, .slice T.ia T.len T.cap] 38)))
  have HK := Lib.hid (show ((w.alloc (.cells #[.int .i64 T.kind, .int .u64 T.num, .string T.text, .slice T.ia T.len T.cap] 38)).alloc (.cells #[.int .i64 t, .slice pa n pc] 40)).heap[w.heap.size + 1]? = some (.cells #[.int .i64 t, .slice pa n pc] 40) from by have := alloc_at (w.alloc (.cells #[.int .i64 T.kind, .int .u64 T.num, .string T.text, .slice T.ia T.len T.cap] 38)) (.cells #[.int .i64 t, .slice pa n pc] 40); rwa [show (w.alloc (.cells #[.int .i64 T.kind, .int .u64 T.num, .string T.text, .slice T.ia T.len T.cap] 38)).heap.size = w.heap.size + 1 by simp] at this)
  have HB := Lib.hid (((Below.refl w.heap.size w).alloc (Nat.le_refl _) (.cells #[.int .i64 T.kind, .int .u64 T.num, .string T.text, .slice T.ia T.len T.cap] 38)).alloc (by simp) (.cells #[.int .i64 t, .slice pa n pc] 40))
  have d9 : decide ((100 : Int) < (n : Nat)) = false := decide_eq_false (by omega)
  have hii : (is == is) = true := by simp
  clear hw hg hmu hat hfi hra hsm
  go_enter Tryz.func4, Tryz.ntmps4
  go_upto_region 4 with (first
    | (go_at_call 6; refine (HG.out _ HB.out).mono ?_; rintro e w' ⟨rfl, rfl⟩)
    | (go_at_call 13; refine (HM.out _ HB.out).mono ?_; rintro e w1 ⟨rfl, hb1⟩; have HB1 := Lib.hid (below_step8' HB.out hb1); have HQ1 := Lib.hid (box_keep HQ.out hb1); have HK1 := Lib.hid (box_keep HK.out hb1); have k0 : w1.cell? ⟨w.heap.size + 1, 0, none⟩ = some (.int .i64 t) := cell_at (j := 0) HK1.out rfl; have k1 : w1.cell? ⟨w.heap.size + 1, 1, none⟩ = some (.slice pa n pc) := cell_at (j := 1) HK1.out rfl; have d0 : w1.cell? ⟨w.heap.size, 0, none⟩ = some (.int .i64 T.kind) := cell_at (j := 0) HQ1.out rfl; have d1 : w1.cell? ⟨w.heap.size, 1, none⟩ = some (.int .u64 T.num) := cell_at (j := 1) HQ1.out rfl; have d2 : w1.cell? ⟨w.heap.size, 2, none⟩ = some (.string T.text) := cell_at (j := 2) HQ1.out rfl; have d3 : w1.cell? ⟨w.heap.size, 3, none⟩ = some (.slice T.ia T.len T.cap) := cell_at (j := 3) HQ1.out rfl; clear hb1)
    | (go_at_call 14; refine (HAT.out _ HB1.out).mono ?_; rintro e w2 ⟨U, rfl, hu, hv, hb2⟩; have HU := Lib.hid hu; have HV := Lib.hid (hv.next ((Below.refl _ _).alloc (Nat.le_refl _) (.cells #[.int .i64 U.kind, .int .u64 U.num, .string U.text, .slice U.ia U.len U.cap] 38))); have HB2 := Lib.hid ((below_step8' HB1.out hb2).alloc (below_step8' HB1.out hb2).size (.cells #[.int .i64 U.kind, .int .u64 U.num, .string U.text, .slice U.ia U.len U.cap] 38)); have HX2 := Lib.hid (alloc_at w2 (.cells #[.int .i64 U.kind, .int .u64 U.num, .string U.text, .slice U.ia U.len U.cap] 38)); have HQ2 := Lib.hid (alloc_old (o := (.cells #[.int .i64 U.kind, .int .u64 U.num, .string U.text, .slice U.ia U.len U.cap] 38)) (box_keep HQ1.out hb2)); have HK2 := Lib.hid (alloc_old (o := (.cells #[.int .i64 U.kind, .int .u64 U.num, .string U.text, .slice U.ia U.len U.cap] 38)) (box_keep HK1.out hb2)); clear hu hv hb2))
  clear k0 k1 d0 d1 d2 d3
  generalize (w2.alloc (.cells #[.int .i64 U.kind, .int .u64 U.num, .string U.text, .slice U.ia U.len U.cap] 38)) = W2 at *
  have d0 : W2.cell? ⟨w.heap.size, 0, none⟩ = some (.int .i64 T.kind) := cell_at (j := 0) HQ2.out rfl
  have d1 : W2.cell? ⟨w.heap.size, 1, none⟩ = some (.int .u64 T.num) := cell_at (j := 1) HQ2.out rfl
  have d2 : W2.cell? ⟨w.heap.size, 2, none⟩ = some (.string T.text) := cell_at (j := 2) HQ2.out rfl
  have d3 : W2.cell? ⟨w.heap.size, 3, none⟩ = some (.slice T.ia T.len T.cap) := cell_at (j := 3) HQ2.out rfl
  have k0 : W2.cell? ⟨w.heap.size + 1, 0, none⟩ = some (.int .i64 t) := cell_at (j := 0) HK2.out rfl
  have k1 : W2.cell? ⟨w.heap.size + 1, 1, none⟩ = some (.slice pa n pc) := cell_at (j := 1) HK2.out rfl
  go_upto_region 7 with (first
    | (go_at_call 15; refine (HFI.out _ HB2.out).mono ?_; rintro e w3 ⟨rfl, hb3⟩; have HB3 := Lib.hid (below_step8' HB2.out hb3); have HX3 := Lib.hid (box_keep HX2.out hb3); have HQ3 := Lib.hid (box_keep HQ2.out hb3); have HK3 := Lib.hid (box_keep HK2.out hb3); have HV3 := Lib.hid (HV.out.next hb3); clear d0 d1 d2 d3 k0 k1; have d0 : w3.cell? ⟨w.heap.size, 0, none⟩ = some (.int .i64 T.kind) := cell_at (j := 0) HQ3.out rfl; have d1 : w3.cell? ⟨w.heap.size, 1, none⟩ = some (.int .u64 T.num) := cell_at (j := 1) HQ3.out rfl; have d2 : w3.cell? ⟨w.heap.size, 2, none⟩ = some (.string T.text) := cell_at (j := 2) HQ3.out rfl; have d3 : w3.cell? ⟨w.heap.size, 3, none⟩ = some (.slice T.ia T.len T.cap) := cell_at (j := 3) HQ3.out rfl; have k0 : w3.cell? ⟨w.heap.size + 1, 0, none⟩ = some (.int .i64 t) := cell_at (j := 0) HK3.out rfl; have k1 : w3.cell? ⟨w.heap.size + 1, 1, none⟩ = some (.slice pa n pc) := cell_at (j := 1) HK3.out rfl; have x0 : w3.cell? ⟨w2.heap.size, 0, none⟩ = some (.int .i64 U.kind) := cell_at (j := 0) HX3.out rfl; have x1 : w3.cell? ⟨w2.heap.size, 1, none⟩ = some (.int .u64 U.num) := cell_at (j := 1) HX3.out rfl; have x2 : w3.cell? ⟨w2.heap.size, 2, none⟩ = some (.string U.text) := cell_at (j := 2) HX3.out rfl; have x3 : w3.cell? ⟨w2.heap.size, 3, none⟩ = some (.slice U.ia U.len U.cap) := cell_at (j := 3) HX3.out rfl; clear hb3)
    | (go_at_call 18; refine (HRA.out _ HB3.out).mono ?_; rintro e w4 ⟨rfl, hb4⟩; have HB4 := Lib.hid ((below_step8' HB3.out hb4).alloc (below_step8' HB3.out hb4).size (.cells #[.int .i64 V.kind, .int .u64 V.num, .string V.text, .slice V.ia V.len V.cap] 38)); have HX4 := Lib.hid (alloc_old (o := (.cells #[.int .i64 V.kind, .int .u64 V.num, .string V.text, .slice V.ia V.len V.cap] 38)) (box_keep HX3.out hb4)); have HY4 := Lib.hid (alloc_at w4 (.cells #[.int .i64 V.kind, .int .u64 V.num, .string V.text, .slice V.ia V.len V.cap] 38)); have HV4 := Lib.hid (HV3.out.next (hb4.alloc hb4.size (.cells #[.int .i64 V.kind, .int .u64 V.num, .string V.text, .slice V.ia V.len V.cap] 38))); clear hb4))
  clear d0 d1 d2 d3 k0 k1 x0 x1 x2 x3
  generalize (w4.alloc (.cells #[.int .i64 V.kind, .int .u64 V.num, .string V.text, .slice V.ia V.len V.cap] 38)) = W4 at *
  have x0 : W4.cell? ⟨w2.heap.size, 0, none⟩ = some (.int .i64 U.kind) := cell_at (j := 0) HX4.out rfl
  have x1 : W4.cell? ⟨w2.heap.size, 1, none⟩ = some (.int .u64 U.num) := cell_at (j := 1) HX4.out rfl
  have x2 : W4.cell? ⟨w2.heap.size, 2, none⟩ = some (.string U.text) := cell_at (j := 2) HX4.out rfl
  have x3 : W4.cell? ⟨w2.heap.size, 3, none⟩ = some (.slice U.ia U.len U.cap) := cell_at (j := 3) HX4.out rfl
  have y0 : W4.cell? ⟨w4.heap.size, 0, none⟩ = some (.int .i64 V.kind) := cell_at (j := 0) HY4.out rfl
  have y1 : W4.cell? ⟨w4.heap.size, 1, none⟩ = some (.int .u64 V.num) := cell_at (j := 1) HY4.out rfl
  have y2 : W4.cell? ⟨w4.heap.size, 2, none⟩ = some (.string V.text) := cell_at (j := 2) HY4.out rfl
  have y3 : W4.cell? ⟨w4.heap.size, 3, none⟩ = some (.slice V.ia V.len V.cap) := cell_at (j := 3) HY4.out rfl
  go_wp2_with (first
    | (go_at_call 16; refine (HSM.out U _ _ HB4.out HU.out HV4.out).mono ?_; rintro e w5 ⟨rfl, hb5⟩; have HB5 := Lib.hid (below_step8' HB4.out hb5); clear hb5)
    | (go_at_call 7; refine (HW.out _ HB5.out).mono ?_; rintro e w9 ⟨rfl, hb9⟩; have HB9 := Lib.hid (below_step8' HB5.out hb9); clear hb9))
  go_ret
  exact ⟨rfl, HB9.out⟩
set_option maxRecDepth 100000 in
set_option maxHeartbeats 4000000 in
theorem walk (ao : Option Addr) (len cap : Nat) (L : Nat → TypeV) (t : Int) (pa : Option Addr) (n pc : Nat) (P : Nat → StepV) (T : VT) (S : Nat → Prop) (hcap : len ≤ cap) (hm : len ≤ 140737488351232) (hpc : n ≤ pc) (w : World) (H : ∀ i, i < len → TypeAt w ao i (L i)) (HP : ∀ i, i < n → StepAt w pa i (P i)) (HV : ValAt w S T) :
    Calls Tryz.prog 4 #[.slice ao len cap, .agg #[.int .i64 T.kind, .int .u64 T.num, .string T.text, .slice T.ia T.len T.cap], .agg #[.int .i64 t, .slice pa n pc]] w (fun e w' => e = .returned (.bool true) ∧ Below w.heap.size w w') := by
  have hw := fun wx (hb : Below w.heap.size w wx) => awake12_any wx
  have hg := fun wx (hb : Below w.heap.size w wx) => great_any ao len cap L hm wx (hold H hb)
  have hmu := fun wx (hb : Below w.heap.size w wx) => refMuch_any S T 0 wx (HV.next hb) (by omega)
  unfold RMuchTo at hmu
  rw [show ((0 : Nat) : Int) = 0 from rfl] at hmu
  cases hbig : greatB L len with
  | true =>
    rw [hbig] at hg
    exact walk_big ao len cap t pa n pc T w hw hg
  | false =>
    rw [hbig] at hg
    have hl : len ≤ 1000000 := by
      unfold greatB at hbig
      simp at hbig
      omega
    cases hmuch : muchT T 0 with
    | true =>
      rw [hmuch] at hmu
      exact walk_much ao len cap t pa n pc T w hw hg hmu
    | false =>
      rw [hmuch] at hmu
      by_cases hn : 100 < n
      · exact walk_many ao len cap t pa n pc T w hn hw hg hmu
      · obtain ⟨o, ho⟩ : ∃ o, atA L len t (stepsL P n) T = o := ⟨_, rfl⟩
        have hat : ∀ wx, Below w.heap.size w wx → Calls Tryz.prog 14 #[.slice ao len cap, .int .i64 t, .slice pa n pc, .agg #[.int .i64 T.kind, .int .u64 T.num, .string T.text, .slice T.ia T.len T.cap]] wx fun e w' => ∃ U : VT, e = .returned (.tuple #[.agg #[.int .i64 U.kind, .int .u64 U.num, .string U.text, .slice U.ia U.len U.cap], .bool o.isSome]) ∧ sameT (o.getD .nil) U = true ∧ ValAt w' (fun k => w.heap.size ≤ k) U ∧ Below wx.heap.size wx w' := fun wx hb => by
          refine (at12_any ao len cap L hl hcap t pa n pc P (by omega) S T wx (HV.next hb) (hold H hb) (holdP HP hb)).mono ?_
          rintro e w' ⟨U, b, rfl, hc, hv, hb2⟩
          rw [ho] at hc
          refine ⟨U, ?_, ?_, hv.sub (fun c hc => Nat.le_trans hb.size hc), hb2⟩
          · rcases hc with ⟨V, h1, rfl, h3⟩ | ⟨h1, rfl, h3⟩
            · rw [h1]; rfl
            · rw [h1]; rfl
          · rcases hc with ⟨V, h1, rfl, h3⟩ | ⟨h1, rfl, h3⟩
            · rw [h1]; exact h3
            · rw [h1, h3]; exact sameT_refl _
        have hfi := fun wx (hb : Below w.heap.size w wx) => rfits9_any ao len cap L hl S t T wx (HV.next hb) (hold H hb)
        by_cases hfe : fitsA L len t T = 0
        · rw [hfe] at hfi
          have hT : hasT L len t = true := by
            unfold fitsA at hfe
            split at hfe
            · assumption
            · cases hfe
          obtain ⟨k, rfl, hk, hok⟩ := hasT_in hT
          have hoo : ratL L len k (stepsL P n) T = o := by
            rw [rat_same, ← ho]
            unfold atA endA
            rw [hT, if_pos rfl, Int.toNat_natCast]
          have hvo : ValAt w S (o.getD .nil) := by
            cases ho2 : o with
            | none => trivial
            | some V => exact rat_at _ _ _ _ HV (hoo.trans ho2)
          refine walk_yes ao len cap (k : Nat) pa n pc T w (by omega) (o.getD .nil) o.isSome hw hg hmu hat hfi (fun wx hb => ?_) (fun U S' wx hb hU hv => ?_)
          · have := rat_any ao len cap L hl (ok_all hok) S n k pa pc P T wx hk hpc (HV.next hb) (hold H hb) (fun i hi => (holdP HP hb i hi).c)
            rw [hoo] at this
            exact this
          · have := refSame_any S' S U (o.getD .nil) wx hv (hvo.next hb)
            unfold RSameTo at this
            rwa [sameT_symm _ _ hU] at this
        · refine walk_not ao len cap t pa n pc T w (by omega) (o.getD .nil) o.isSome _ (fErr (oneR L len) len) (fAt (oneR L len) len) hfe (fun h => ?_) hw hg hmu hat hfi (fun wx hb => ?_) (fun h U S' wx hb hU hv => ?_)
          · have hT : hasT L len t = true := by
              cases hT : hasT L len t with
              | true => rfl
              | false =>
                have : atA L len t (stepsL P n) T = none := by
                  unfold atA endA
                  rw [hT]
                  rfl
                rw [← ho, this] at h
                cases h
            obtain ⟨k, rfl, hk, hok⟩ := hasT_in hT
            exact hok
          · have := check6_any ao len cap L hl hcap wx (hold H hb)
            rw [fault_same] at this
            exact this
          · obtain rfl : o = none := by cases o with | none => rfl | some x => cases h
            have := refSame_any S' (fun _ => False) U .nil wx hv trivial
            unfold RSameTo at this
            have hU' : sameT .nil U = true := hU
            rw [sameT_symm _ _ hU'] at this
            exact this
set_option maxRecDepth 100000 in
theorem lifted (os : Os) (started : os.Started) (H : Type) (enc : TypeId × Value → H) :
    ReturnsInHanded {} Tryz.checked os 4 .any (fun w args => (Rows.pathAtSpec.pre enc Tryz.prog Tryz.f4 Rows.pathAtRow.domain false w args ∧ laidMetH Tryz.prog Rows.pathAtRow.laid w) ∧ sizedMet enc Tryz.prog Tryz.f4 (OpenSpec.ofChange Rows.pathAtSpec) false w args)
      (Rows.pathAtSpec.post enc Tryz.prog Tryz.f4 false true false false) := by
  refine returnsInHanded_of_change_and (C := Tryz.checked) (X := fun w _ => laidMetH Tryz.prog Rows.pathAtRow.laid w) (fun _ _ _ hh h => h.of_heap hh) own started (by kernel_rfl) Tryz.func4
    (ChangeSpec.witness_shaped (enc := enc) (C := Tryz.checked) (os := os) (X := fun w _ => laidMetH Tryz.prog Rows.pathAtRow.laid w) false (World.laidAll Tryz.prog os Rows.pathAtRow.laid) #[.slice none 0 0, .agg #[.int .i64 0, .int .u64 0, .string ⟨#[]⟩, .slice none 0 0], .agg #[.int .i64 0, .slice none 0 0]] 8 (World.laidAll_os _ _ _)
      (World.shaped_of_ZipB (by kernel_rfl) (by kernel_rfl)) (by kernel_rfl) (by kernel_rfl) (by kernel_rfl)
      (by rw [MakeChecks.laidMetH_plain _ _ _ (by kernel_rfl)]; exact laidMet_laidAll _ (by kernel_rfl) (by kernel_rfl))) ?_
  intro W base args ds gs before hval0 hW hcnd hsz hL _
  have hval : ∀ (j : Nat) t v, Tryz.f4.params[j]? = some t → args[j]? = some v → Value.okWide Tryz.prog W .any base t v := hval0
  have hW' := hW
  obtain ⟨p, q, hA0, hV, rfl, hfz, hnd⟩ := hW
  have hA : DataW.TrodAll enc Tryz.prog W 0 (fun _ => true) true Tryz.f4.params.toList args.toList ds p := hA0
  rw [Tryz.params4] at hA hval
  obtain ⟨rfl, rfl⟩ := trodVars_none hV
  clear hA0 hval0
  simp only [List.append_nil] at hW'
  have hlt := hW'.lt
  have hA1 := hA
  have hsz1 : (DataW.weightsEach Tryz.prog (Tryz.f4.params.toList ++ []) (ds ++ [])).all (· ≤ reachBytes) = true := hsz
  rw [Tryz.params4, List.append_nil, List.append_nil] at hsz1
  have hrd := rdg_all _ _ _ _ hA1 (fun n hn => by simpa using List.all_eq_true.1 hsz1 n hn)
  obtain ⟨v0, vs0, d0, ds0, p0, q0, hargs, rfl, rfl, h0, r0⟩ := trodAll_cons hA
  obtain ⟨v1, vs1, d1, ds1, p1, q1, rfl, rfl, rfl, h1, r1⟩ := trodAll_cons r0
  obtain ⟨v2, vs2, d2, ds2, p2, q2, rfl, rfl, rfl, h2, r2⟩ := trodAll_cons r1
  obtain ⟨rfl, rfl, rfl⟩ := trodAll_nil r2
  obtain rfl : args = #[v0, v1, v2] := by cases args; simp_all
  have g1 := hrd 1 38 v1 rfl rfl
  obtain ⟨cs1, rfl, hz1⟩ := ok_agg (by first | exact .inl ⟨_, Tryz.underlying38⟩ | exact .inr ⟨_, _, Tryz.underlying38⟩) (hval 1 38 v1 rfl rfl)
  have g2 := hrd 2 40 v2 rfl rfl
  obtain ⟨cs2, rfl, hz2⟩ := ok_agg (by first | exact .inl ⟨_, Tryz.underlying40⟩ | exact .inr ⟨_, _, Tryz.underlying40⟩) (hval 2 40 v2 rfl rfl)
  obtain ⟨ao, len, cap, L, rfl, hcap, hm, hcp, H⟩ := types_of3 (rop_slice 6 Tryz.underlying22 (by kernel_rfl) (hval 0 22 v0 rfl rfl) (hrd 0 22 v0 rfl rfl))
  obtain ⟨T, hT, HT⟩ := val_of hz1 g1
  unfold valV at hT
  injection hT with hT
  subst hT
  obtain ⟨y0, y1, rfl⟩ := arr2 (hz2.trans (by kernel_rfl))
  obtain ⟨x0, e0, hx0⟩ := rdg_int Tryz.underlying3 (rdg_field Tryz.underlying40 g2 0 3 0 1 rfl (by kernel_rfl))
  have hf1 := rdg_field Tryz.underlying40 g2 1 25 1 1 rfl (by kernel_rfl)
  simp [Value.cells] at e0 hf1
  subst e0
  obtain ⟨pa, n, pc, P, rfl, hpc, hpm, HP⟩ := steps_of (v := y1) ((rdg_slice 2 Tryz.underlying25 (by kernel_rfl) hf1).imp (fun h => (List.cons.inj h).1) (fun ⟨a, len, cap, h, r⟩ => ⟨a, len, cap, (List.cons.inj h).1, r⟩))
  refine (walk ao len cap L x0 pa n pc P T _ hcap hm hpc W H HP HT).mono fun e W' ⟨he, bel⟩ => ?_
  subst he
  exact ⟨_, rfl, _, _, _, [], _, [], hW', trodAll_mk1 (shut_bool Tryz.underlying4 _), trodAll_below laidOut bel [22, 38, 40] _ _ _ (by kernel_rfl) hA1 hlt, rfl, bel.frame _, fun h => by cases h⟩
theorem over : Rows.PathAtSaid :=
  OpenClaim.holds_of_wide 4 Tryz.f4 rfl rfl rfl rfl rfl rfl rfl ⟨rfl, rfl, rfl, rfl, rfl⟩ rfl rfl rfl rfl rfl (by kernel_rfl) Tryz.func4 (by kernel_rfl)
    (of_decide_eq_true (by kernel_rfl)) (by unfold Func.isWrapper; first | (rw [if_pos (by decide +kernel)]; kernel_rfl) | (rw [if_neg (by decide +kernel)]; exact ⟨rfl, rfl⟩))
    (fun os started H enc _ => lifted os started H enc)
theorem proved : Rows.PathAtCardSaid :=
  Claim7.holds_tied_plain_at .later [] [.data, .data, .data, .sentinel, .sentinel] true (true, "7b702cd6da088cc7231233d3e78dbc4c63220be846549c3ac8d0e6802275358d") true
    over (fun _ h => by cases h) (by kernel_rfl) (fun _ h => by cases h) pathAt_row_tie rfl ⟨rfl, rfl⟩ (by kernel_rfl) rfl
    (fun f fn hf hfn => by
      obtain rfl : f = 4 := Option.some.inj ((show Tryz.prog.funcNamed Rows.pathAtRow.func = some 4 by kernel_rfl).symm.trans hf) |>.symm
      obtain rfl : fn = Tryz.f4 := (Option.some.inj (Tryz.func4.symm.trans hfn)).symm
      exact ⟨by kernel_rfl, fun j t ht => by
        rw [Tryz.params4] at ht
        have hm : t ∈ [22, 38, 40] := by simpa using Array.mem_of_getElem? ht
        have hall : ([22, 38, 40].all fun u => !Tryz.prog.wantsStandIn u) = true := by kernel_rfl
        exact (show Tryz.prog.wantsStandIn t = false by simpa using List.all_eq_true.1 hall t hm)⟩)
    (by kernel_rfl)
#print axioms proved
end Go.Proofs.YtcpjbimojliogaaGreatDoor.pathAt
