import Derived.Test.YtpclpghmahlieaaDoorRdg
import Derived.Test.YtpclpghmahlieaaDoorTie
import Derived.Test.YtpclpghmahlieaaDoorCards
import Derived.SevenTiedAt
import Derived.LaidMore
import Derived.Lay
import Derived.Stop.Joined
import Derived.Test.YtpclpghmahlieaaDoorValLaid
import Derived.Test.YtpclpghmahlieaaDoorValCSame
import Derived.Test.YtpclpghmahlieaaDoorValSame
import Derived.Test.YtpclpghmahlieaaDoorValOne
namespace Go.Proofs.YtpclpghmahlieaaDoor.valueParts
open Go.ChangeShapes Go.WideShapes Go.ChangeAt Go.RowKit
open Go.ChangeMaps (open_string shut_string)
set_option linter.unusedVariables false
set_option maxHeartbeats 8000000 in
set_option maxRecDepth 20000 in
/-- what is known from the start -/
theorem head (T U : VT) (S : Nat → Prop) (w : World) (H : ValAt w S T) (H' : ValAt w S U) (htab : Tab w) (hm : muchT T 0 = true ∨ muchT U 0 = true) : Calls Tryd.prog 5 #[.agg #[.int .i64 T.kind, .int .u64 T.num, .string T.text, .slice T.ia T.len T.cap], .agg #[.int .i64 U.kind, .int .u64 U.num, .string U.text, .slice U.ia U.len U.cap]] w fun e w' => e = .returned (.bool true) ∧ Below w.heap.size w w' := by
  have HW := Lib.hid (fun wx (hb : Below w.heap.size w wx) => awake8_any wx (htab.next hb))
  have HMT := Lib.hid (fun wx (hb : Below w.heap.size w wx) => refMuch_any S T 0 wx (H.next hb) (by omega))
  have HMU := Lib.hid (fun wx (hb : Below w.heap.size w wx) => refMuch_any S U 0 wx (H'.next hb) (by omega))
  have HQ1 := Lib.hid (show ((w.alloc (valO T)).alloc (valO U)).heap[w.heap.size]? = some (valO T) from alloc_old (alloc_at w _))
  have HQ2 := Lib.hid (show ((w.alloc (valO T)).alloc (valO U)).heap[w.heap.size + 1]? = some (valO U) by have := alloc_at (w.alloc (valO T)) (valO U); simpa using this)
  have HB := Lib.hid (((Below.refl w.heap.size w).alloc (Nat.le_refl _) (valO T)).alloc (by simp) (valO U))
  unfold RMuchTo at HMT HMU
  rw [show ((0 : Nat) : Int) = 0 from rfl] at HMT HMU
  unfold valO at HB HQ1 HQ2
  clear H H' htab
  cases h1 : muchT T 0 with
  | true =>
    rw [h1] at HMT
    clear hm h1
    go_enter Tryd.func5, Tryd.ntmps5
    go_wp2_with (first
      | (go_at_call 6; refine (HMT.out _ HB.out).mono ?_; rintro e w1 ⟨rfl, hb1⟩; have HB1 := Lib.hid (below_step8' HB.out hb1); clear hb1)
      | (go_at_call 7; refine (HW.out _ HB1.out).mono ?_; rintro e w2 ⟨rfl, hb2⟩))
    go_ret
    exact ⟨rfl, below_step8' HB1.out hb2⟩
  | false =>
    have h2 : muchT U 0 = true := by rcases hm with h | h; exact absurd h (by rw [h1]; decide); exact h
    rw [h1] at HMT
    rw [h2] at HMU
    clear hm h1 h2
    go_enter Tryd.func5, Tryd.ntmps5
    go_wp2_with (first
        | (go_at_call 6; (with_reducible refine (HMT.out _ HB.out).mono ?_); rintro e w1 ⟨rfl, hb1⟩; have HB1 := Lib.hid (below_step8' HB.out hb1); have HX1 := Lib.hid (box_keep HQ1.out hb1); have HX2 := Lib.hid (box_keep HQ2.out hb1); have c0 : w1.cell? ⟨w.heap.size, 0, none⟩ = some (.int .i64 T.kind) := cell_at HX1.out rfl; have c1 : w1.cell? ⟨w.heap.size, 1, none⟩ = some (.int .u64 T.num) := cell_at HX1.out rfl; have c2 : w1.cell? ⟨w.heap.size, 2, none⟩ = some (.string T.text) := cell_at HX1.out rfl; have c3 : w1.cell? ⟨w.heap.size, 3, none⟩ = some (.slice T.ia T.len T.cap) := cell_at HX1.out rfl; have c4 : w1.cell? ⟨w.heap.size + 1, 0, none⟩ = some (.int .i64 U.kind) := cell_at HX2.out rfl; have c5 : w1.cell? ⟨w.heap.size + 1, 1, none⟩ = some (.int .u64 U.num) := cell_at HX2.out rfl; have c6 : w1.cell? ⟨w.heap.size + 1, 2, none⟩ = some (.string U.text) := cell_at HX2.out rfl; have c7 : w1.cell? ⟨w.heap.size + 1, 3, none⟩ = some (.slice U.ia U.len U.cap) := cell_at HX2.out rfl; clear hb1)
        | (go_at_call 6; (with_reducible refine (HMU.out _ HB1.out).mono ?_); rintro e w2 ⟨rfl, hb2⟩; have HB2 := Lib.hid (below_step8' HB1.out hb2); have HY1 := Lib.hid (box_keep HX1.out hb2); have HY2 := Lib.hid (box_keep HX2.out hb2); clear c0 c1 c2 c3 c4 c5 c6 c7; have c0 : w2.cell? ⟨w.heap.size, 0, none⟩ = some (.int .i64 T.kind) := cell_at HY1.out rfl; have c1 : w2.cell? ⟨w.heap.size, 1, none⟩ = some (.int .u64 T.num) := cell_at HY1.out rfl; have c2 : w2.cell? ⟨w.heap.size, 2, none⟩ = some (.string T.text) := cell_at HY1.out rfl; have c3 : w2.cell? ⟨w.heap.size, 3, none⟩ = some (.slice T.ia T.len T.cap) := cell_at HY1.out rfl; have c4 : w2.cell? ⟨w.heap.size + 1, 0, none⟩ = some (.int .i64 U.kind) := cell_at HY2.out rfl; have c5 : w2.cell? ⟨w.heap.size + 1, 1, none⟩ = some (.int .u64 U.num) := cell_at HY2.out rfl; have c6 : w2.cell? ⟨w.heap.size + 1, 2, none⟩ = some (.string U.text) := cell_at HY2.out rfl; have c7 : w2.cell? ⟨w.heap.size + 1, 3, none⟩ = some (.slice U.ia U.len U.cap) := cell_at HY2.out rfl; clear hb2)
        | (go_at_call 7; refine (HW.out _ HB2.out).mono ?_; rintro e w3 ⟨rfl, hb3⟩))
    go_ret
    exact ⟨rfl, below_step8' HB2.out hb3⟩
set_option maxHeartbeats 8000000 in
set_option maxRecDepth 20000 in
theorem walk (T U : VT) (S : Nat → Prop) (w : World) (H : ValAt w S T) (H' : ValAt w S U) (htab : Tab w) : Calls Tryd.prog 5 #[.agg #[.int .i64 T.kind, .int .u64 T.num, .string T.text, .slice T.ia T.len T.cap], .agg #[.int .i64 U.kind, .int .u64 U.num, .string U.text, .slice U.ia U.len U.cap]] w fun e w' => e = .returned (.bool true) ∧ Below w.heap.size w w' := by
  rcases Classical.em (muchT T 0 = true ∨ muchT U 0 = true) with hm | hm
  · exact head T U S w H H' htab hm
  have hmT : muchT T 0 = false := by cases h : muchT T 0 with
    | true => exact absurd (.inl h) hm
    | false => rfl
  have hmU : muchT U 0 = false := by cases h : muchT U 0 with
    | true => exact absurd (.inr h) hm
    | false => rfl
  have hgT := (much_no hmT).2.2.2.2.2
  have hgU := (much_no hmU).2.2.2.2.2
  have hdT := much_deep T 0 hmT
  have hdU := much_deep U 0 hmU
  have hlT := (much_no hmT).2.1
  have HW := Lib.hid (fun wx (hb : Below w.heap.size w wx) => awake8_any wx (htab.next hb))
  have HMT := Lib.hid (fun wx (hb : Below w.heap.size w wx) => refMuch_any S T 0 wx (H.next hb) (by omega))
  have HMU := Lib.hid (fun wx (hb : Below w.heap.size w wx) => refMuch_any S U 0 wx (H'.next hb) (by omega))
  have HS := Lib.hid (fun wx (hb : Below w.heap.size w wx) => same8_any S S T U wx (H.next hb) (H'.next hb))
  have HSY := Lib.hid (fun wx (hb : Below w.heap.size w wx) => same8_any S S U T wx (H'.next hb) (H.next hb))
  have HTT := Lib.hid (fun wx (hb : Below w.heap.size w wx) => text8_any S T wx (H.next hb) (by omega) (htab.next hb))
  have HTU := Lib.hid (fun wx (hb : Below w.heap.size w wx) => text8_any S U wx (H'.next hb) (by omega) (htab.next hb))
  have HDT := Lib.hid (fun wx (hb : Below w.heap.size w wx) => deep8_any S T wx (H.next hb) (by omega))
  have HDU := Lib.hid (fun wx (hb : Below w.heap.size w wx) => deep8_any S U wx (H'.next hb) (by omega))
  have HGT := Lib.hid (fun wx (hb : Below w.heap.size w wx) => great8_any S T wx (H.next hb) (by omega))
  have HGU := Lib.hid (fun wx (hb : Below w.heap.size w wx) => great8_any S U wx (H'.next hb) (by omega))
  have HQ1 := Lib.hid (show ((w.alloc (valO T)).alloc (valO U)).heap[w.heap.size]? = some (valO T) from alloc_old (alloc_at w _))
  have HQ2 := Lib.hid (show ((w.alloc (valO T)).alloc (valO U)).heap[w.heap.size + 1]? = some (valO U) by have := alloc_at (w.alloc (valO T)) (valO U); simpa using this)
  have HB := Lib.hid (((Below.refl w.heap.size w).alloc (Nat.le_refl _) (valO T)).alloc (by simp) (valO U))
  have HV := Lib.hid H
  unfold RMuchTo at HMT HMU
  rw [show ((0 : Nat) : Int) = 0 from rfl, hmT] at HMT
  rw [show ((0 : Nat) : Int) = 0 from rfl, hmU] at HMU
  have HDS := Lib.hid (fun (h : sameT T U = true) => And.intro (same_text T U h) (And.intro (same_deep T U h) (same_great T U h)))
  unfold CSameTo at HS HSY
  rw [sameT_comm U T] at HSY
  unfold CTextTo at HTT HTU
  unfold CDeepTo at HDT HDU
  unfold CGreatTo at HGT HGU
  obtain ⟨q, hq⟩ : ∃ q, sameT T U = q := ⟨_, rfl⟩
  rw [hq] at HS HSY HDS
  unfold valO at HB HQ1 HQ2
  clear H H' hq hm hmT hmU hgU hdU
  go_enter Tryd.func5, Tryd.ntmps5
  go_upto_region 3 with (first
        | (go_at_call 6; (with_reducible refine (HMT.out _ HB.out).mono ?_); rintro e w1 ⟨rfl, hb1⟩; have HB1 := Lib.hid (below_step8' HB.out hb1); have HX1 := Lib.hid (box_keep HQ1.out hb1); have HX2 := Lib.hid (box_keep HQ2.out hb1); have c0 : w1.cell? ⟨w.heap.size, 0, none⟩ = some (.int .i64 T.kind) := cell_at HX1.out rfl; have c1 : w1.cell? ⟨w.heap.size, 1, none⟩ = some (.int .u64 T.num) := cell_at HX1.out rfl; have c2 : w1.cell? ⟨w.heap.size, 2, none⟩ = some (.string T.text) := cell_at HX1.out rfl; have c3 : w1.cell? ⟨w.heap.size, 3, none⟩ = some (.slice T.ia T.len T.cap) := cell_at HX1.out rfl; have c4 : w1.cell? ⟨w.heap.size + 1, 0, none⟩ = some (.int .i64 U.kind) := cell_at HX2.out rfl; have c5 : w1.cell? ⟨w.heap.size + 1, 1, none⟩ = some (.int .u64 U.num) := cell_at HX2.out rfl; have c6 : w1.cell? ⟨w.heap.size + 1, 2, none⟩ = some (.string U.text) := cell_at HX2.out rfl; have c7 : w1.cell? ⟨w.heap.size + 1, 3, none⟩ = some (.slice U.ia U.len U.cap) := cell_at HX2.out rfl; clear hb1)
        | (go_at_call 6; (with_reducible refine (HMU.out _ HB1.out).mono ?_); rintro e w2 ⟨rfl, hb2⟩; have HB2 := Lib.hid (below_step8' HB1.out hb2); have HY1 := Lib.hid (box_keep HX1.out hb2); have HY2 := Lib.hid (box_keep HX2.out hb2); clear c0 c1 c2 c3 c4 c5 c6 c7; have c0 : w2.cell? ⟨w.heap.size, 0, none⟩ = some (.int .i64 T.kind) := cell_at HY1.out rfl; have c1 : w2.cell? ⟨w.heap.size, 1, none⟩ = some (.int .u64 T.num) := cell_at HY1.out rfl; have c2 : w2.cell? ⟨w.heap.size, 2, none⟩ = some (.string T.text) := cell_at HY1.out rfl; have c3 : w2.cell? ⟨w.heap.size, 3, none⟩ = some (.slice T.ia T.len T.cap) := cell_at HY1.out rfl; have c4 : w2.cell? ⟨w.heap.size + 1, 0, none⟩ = some (.int .i64 U.kind) := cell_at HY2.out rfl; have c5 : w2.cell? ⟨w.heap.size + 1, 1, none⟩ = some (.int .u64 U.num) := cell_at HY2.out rfl; have c6 : w2.cell? ⟨w.heap.size + 1, 2, none⟩ = some (.string U.text) := cell_at HY2.out rfl; have c7 : w2.cell? ⟨w.heap.size + 1, 3, none⟩ = some (.slice U.ia U.len U.cap) := cell_at HY2.out rfl; clear hb2))
  clear HB1 HX1 HX2 HMT HMU c0 c1 c2 c3 c4 c5 c6 c7
  have c0 : w2.cell? ⟨w.heap.size, 0, none⟩ = some (.int .i64 T.kind) := cell_at HY1.out rfl
  have c1 : w2.cell? ⟨w.heap.size, 1, none⟩ = some (.int .u64 T.num) := cell_at HY1.out rfl
  have c2 : w2.cell? ⟨w.heap.size, 2, none⟩ = some (.string T.text) := cell_at HY1.out rfl
  have c3 : w2.cell? ⟨w.heap.size, 3, none⟩ = some (.slice T.ia T.len T.cap) := cell_at HY1.out rfl
  have c4 : w2.cell? ⟨w.heap.size + 1, 0, none⟩ = some (.int .i64 U.kind) := cell_at HY2.out rfl
  have c5 : w2.cell? ⟨w.heap.size + 1, 1, none⟩ = some (.int .u64 U.num) := cell_at HY2.out rfl
  have c6 : w2.cell? ⟨w.heap.size + 1, 2, none⟩ = some (.string U.text) := cell_at HY2.out rfl
  have c7 : w2.cell? ⟨w.heap.size + 1, 3, none⟩ = some (.slice U.ia U.len U.cap) := cell_at HY2.out rfl
  go_upto_region 4 with (first
    | (go_at_call 17; refine (HS.out _ HB2.out).mono ?_; rintro e w3 ⟨rfl, hb3⟩; have HB3 := Lib.hid (below_step8' HB2.out hb3); have HZ1 := Lib.hid (box_keep HY1.out hb3); have HZ2 := Lib.hid (box_keep HY2.out hb3); clear hb3 c0 c1 c2 c3 c4 c5 c6 c7))
  have c0 : w3.cell? ⟨w.heap.size, 0, none⟩ = some (.int .i64 T.kind) := cell_at HZ1.out rfl
  have c1 : w3.cell? ⟨w.heap.size, 1, none⟩ = some (.int .u64 T.num) := cell_at HZ1.out rfl
  have c2 : w3.cell? ⟨w.heap.size, 2, none⟩ = some (.string T.text) := cell_at HZ1.out rfl
  have c3 : w3.cell? ⟨w.heap.size, 3, none⟩ = some (.slice T.ia T.len T.cap) := cell_at HZ1.out rfl
  have c4 : w3.cell? ⟨w.heap.size + 1, 0, none⟩ = some (.int .i64 U.kind) := cell_at HZ2.out rfl
  have c5 : w3.cell? ⟨w.heap.size + 1, 1, none⟩ = some (.int .u64 U.num) := cell_at HZ2.out rfl
  have c6 : w3.cell? ⟨w.heap.size + 1, 2, none⟩ = some (.string U.text) := cell_at HZ2.out rfl
  have c7 : w3.cell? ⟨w.heap.size + 1, 3, none⟩ = some (.slice U.ia U.len U.cap) := cell_at HZ2.out rfl
  go_cut [51] (fun t wx => t = .bool false ∧ Hid (wx.heap[w.heap.size]? = some (valO T)) ∧ Hid (Below w.heap.size w wx))
  case first =>
    cases q
    case false =>
      refine wp_region_ext (by kernel_rfl) 29 (fun v => ((.agg #[.int .i64 T.kind, .int .u64 T.num, .string T.text, .slice T.ia T.len T.cap] : Value) :: (.agg #[.int .i64 U.kind, .int .u64 U.num, .string U.text, .slice U.ia U.len U.cap] : Value) :: (.pointer (some ⟨w.heap.size, 0, none⟩) : Value) :: (.pointer (some ⟨w.heap.size + 1, 0, none⟩) : Value) :: (.bool false : Value) :: (.bool false : Value) :: (undef : Value) :: (undef : Value) :: (undef : Value) :: (undef : Value) :: (undef : Value) :: (undef : Value) :: (undef : Value) :: (.agg #[.int .i64 T.kind, .int .u64 T.num, .string T.text, .slice T.ia T.len T.cap] : Value) :: (.bool false : Value) :: (.bool false : Value) :: (.agg #[.int .i64 U.kind, .int .u64 U.num, .string U.text, .slice U.ia U.len U.cap] : Value) :: (.bool false : Value) :: (.bool false : Value) :: (undef : Value) :: (.agg #[.int .i64 T.kind, .int .u64 T.num, .string T.text, .slice T.ia T.len T.cap] : Value) :: (.agg #[.int .i64 U.kind, .int .u64 U.num, .string U.text, .slice U.ia U.len U.cap] : Value) :: (.bool false : Value) :: v 0 :: v 1 :: v 2 :: v 3 :: v 4 :: v 5 :: v 6 :: v 7 :: v 8 :: v 9 :: v 10 :: v 11 :: v 12 :: v 13 :: v 14 :: v 15 :: v 16 :: v 17 :: v 18 :: v 19 :: v 20 :: v 21 :: v 22 :: v 23 :: v 24 :: v 25 :: v 26 :: v 27 :: v 28 :: undef :: undef :: undef :: undef :: undef :: undef :: undef :: undef :: undef :: undef :: undef :: undef :: undef :: undef :: undef :: undef :: undef :: undef :: undef :: undef :: undef :: undef :: undef :: undef :: undef :: undef :: undef :: undef :: undef :: undef :: undef :: undef :: undef :: undef :: undef :: undef :: undef :: undef :: undef :: undef :: undef :: undef :: undef :: undef :: undef :: undef :: undef :: undef :: undef :: undef :: undef :: undef :: undef :: undef :: undef :: undef :: undef :: undef :: undef :: undef :: undef :: undef :: undef :: undef :: undef :: undef :: undef :: []).toArray) (fun _ => undef) (fun _ => none) (fun j => [.bool false, .agg #[.int .i64 U.kind, .int .u64 U.num, .string U.text, .slice U.ia U.len U.cap], .agg #[.int .i64 T.kind, .int .u64 T.num, .string T.text, .slice T.ia T.len T.cap], .bool false, .bool false, .bool false, .bool false, .bool false, undef, undef, undef, undef, undef, undef, undef, undef, undef, undef, undef, undef, undef, undef, undef, undef, undef, undef, undef, .bool false, .bool false].getD j undef) (fun w' => Below w3.heap.size w3 w')
        (Nat.le_of_ble_eq_true (by kernel_rfl)) (by kernel_rfl) (fun _ _ h hb => below_step8' h hb) (Below.refl _ _) (fun j hj v w1 hBx hsz hd => ?_) (fun v w1 hv hdist hBx hb => ?_)
      · have b1 := box_keep HZ1.out hBx
        have b2 := box_keep HZ2.out hBx
        have y0 : w1.cell? ⟨w.heap.size, 0, none⟩ = some (.int .i64 T.kind) := cell_at b1 rfl
        have y1 : w1.cell? ⟨w.heap.size, 1, none⟩ = some (.int .u64 T.num) := cell_at b1 rfl
        have y2 : w1.cell? ⟨w.heap.size, 2, none⟩ = some (.string T.text) := cell_at b1 rfl
        have y3 : w1.cell? ⟨w.heap.size, 3, none⟩ = some (.slice T.ia T.len T.cap) := cell_at b1 rfl
        have y4 : w1.cell? ⟨w.heap.size + 1, 0, none⟩ = some (.int .i64 U.kind) := cell_at b2 rfl
        have y5 : w1.cell? ⟨w.heap.size + 1, 1, none⟩ = some (.int .u64 U.num) := cell_at b2 rfl
        have y6 : w1.cell? ⟨w.heap.size + 1, 2, none⟩ = some (.string U.text) := cell_at b2 rfl
        have y7 : w1.cell? ⟨w.heap.size + 1, 3, none⟩ = some (.slice U.ia U.len U.cap) := cell_at b2 rfl
        clear b1 b2
        have hj29 : j = 0 ∨ j = 1 ∨ j = 2 ∨ j = 3 ∨ j = 4 ∨ j = 5 ∨ j = 6 ∨ j = 7 ∨ j = 8 ∨ j = 9 ∨ j = 10 ∨ j = 11 ∨ j = 12 ∨ j = 13 ∨ j = 14 ∨ j = 15 ∨ j = 16 ∨ j = 17 ∨ j = 18 ∨ j = 19 ∨ j = 20 ∨ j = 21 ∨ j = 22 ∨ j = 23 ∨ j = 24 ∨ j = 25 ∨ j = 26 ∨ j = 27 ∨ j = 28 := by omega
        rcases hj29 with rfl | rfl | rfl | rfl | rfl | rfl | rfl | rfl | rfl | rfl | rfl | rfl | rfl | rfl | rfl | rfl | rfl | rfl | rfl | rfl | rfl | rfl | rfl | rfl | rfl | rfl | rfl | rfl | rfl
        · skip
          refine wpOp_step (o := _) rfl (fun K' hK => ?_)
          go_simp
          exact hK _ _ ⟨.bool false, rfl, Below.refl _ _, (fun _ => rfl), fun o h => by cases h⟩
        · skip
          refine wpOp_step (o := _) rfl (fun K' hK => ?_)
          go_simp
          exact hK _ _ ⟨.agg #[.int .i64 U.kind, .int .u64 U.num, .string U.text, .slice U.ia U.len U.cap], rfl, Below.refl _ _, (fun _ => rfl), fun o h => by cases h⟩
        · skip
          refine wpOp_step (o := _) rfl (fun K' hK => ?_)
          go_simp
          exact hK _ _ ⟨.agg #[.int .i64 T.kind, .int .u64 T.num, .string T.text, .slice T.ia T.len T.cap], rfl, Below.refl _ _, (fun _ => rfl), fun o h => by cases h⟩
        · have e1 : v 1 = .agg #[.int .i64 U.kind, .int .u64 U.num, .string U.text, .slice U.ia U.len U.cap] := hd 1 (List.contains_iff_mem.1 (by kernel_rfl)); have e2 : v 2 = .agg #[.int .i64 T.kind, .int .u64 T.num, .string T.text, .slice T.ia T.len T.cap] := hd 2 (List.contains_iff_mem.1 (by kernel_rfl))
          refine wpOp_step (o := _) rfl (fun K' hK => ?_)
          go_simp
          refine (HSY.out w1 (below_step8' HB3.out hBx)).mono ?_
          rintro e w3 ⟨rfl, hb3⟩
          exact hK _ _ ⟨.bool false, fr_eq8 (by simp [upd, e1, e2]), hb3, fun _ => rfl, fun o h => by cases h⟩
        · have e0 : v 0 = .bool false := hd 0 (List.contains_iff_mem.1 (by kernel_rfl)); have e3 : v 3 = .bool false := hd 3 (List.contains_iff_mem.1 (by kernel_rfl))
          refine wpOp_step (o := _) rfl (fun K' hK => ?_)
          go_simp
          exact hK _ _ ⟨.bool false, fr_eq8 (by simp [upd, e0, e3]), Below.refl _ _, (fun _ => rfl), fun o h => by cases h⟩
        · have e4 : v 4 = .bool false := hd 4 (List.contains_iff_mem.1 (by kernel_rfl))
          refine wpOp_step (o := _) rfl (fun K' hK => ?_)
          go_simp
          exact hK _ _ ⟨.bool false, fr_eq8 (by simp [upd, e4]), Below.refl _ _, (fun _ => rfl), fun o h => by cases h⟩
        · have e5 : v 5 = .bool false := hd 5 (List.contains_iff_mem.1 (by kernel_rfl))
          refine wpOp_step (o := _) rfl (fun K' hK => ?_)
          go_simp
          exact hK _ _ ⟨.bool false, fr_eq8 (by simp [upd, e5]), Below.refl _ _, (fun _ => rfl), fun o h => by cases h⟩
        · have e5 : v 5 = .bool false := hd 5 (List.contains_iff_mem.1 (by kernel_rfl)); have e6 : v 6 = .bool false := hd 6 (List.contains_iff_mem.1 (by kernel_rfl))
          refine wpOp_step (o := _) rfl (fun K' hK => ?_)
          go_simp
          exact hK _ _ ⟨.bool false, fr_eq8 (by simp [upd, e5, e6]), Below.refl _ _, (fun _ => rfl), fun o h => by cases h⟩
        · have e7 : v 7 = .bool false := hd 7 (List.contains_iff_mem.1 (by kernel_rfl))
          refine wpOp_step (o := _) rfl (fun K' hK => ?_)
          go_simp
          exact hK _ _ ⟨undef, fr_eq8 (by simp [upd, e7]), Below.refl _ _, (fun _ => rfl), fun o h => by cases h⟩
        · have e7 : v 7 = .bool false := hd 7 (List.contains_iff_mem.1 (by kernel_rfl)); have e8 : v 8 = undef := hd 8 (List.contains_iff_mem.1 (by kernel_rfl))
          refine wpOp_step (o := _) rfl (fun K' hK => ?_)
          go_simp
          exact hK _ _ ⟨undef, fr_eq8 (by simp [upd, e7, e8]), Below.refl _ _, (fun _ => rfl), fun o h => by cases h⟩
        · have e7 : v 7 = .bool false := hd 7 (List.contains_iff_mem.1 (by kernel_rfl))
          refine wpOp_step (o := _) rfl (fun K' hK => ?_)
          go_simp
          exact hK _ _ ⟨undef, fr_eq8 (by simp [upd, e7]), Below.refl _ _, (fun _ => rfl), fun o h => by cases h⟩
        · have e7 : v 7 = .bool false := hd 7 (List.contains_iff_mem.1 (by kernel_rfl)); have e10 : v 10 = undef := hd 10 (List.contains_iff_mem.1 (by kernel_rfl))
          refine wpOp_step (o := _) rfl (fun K' hK => ?_)
          go_simp
          exact hK _ _ ⟨undef, fr_eq8 (by simp [upd, e7, e10]), Below.refl _ _, (fun _ => rfl), fun o h => by cases h⟩
        · have e7 : v 7 = .bool false := hd 7 (List.contains_iff_mem.1 (by kernel_rfl)); have e9 : v 9 = undef := hd 9 (List.contains_iff_mem.1 (by kernel_rfl)); have e11 : v 11 = undef := hd 11 (List.contains_iff_mem.1 (by kernel_rfl))
          refine wpOp_step (o := _) rfl (fun K' hK => ?_)
          go_simp
          exact hK _ _ ⟨undef, fr_eq8 (by simp [upd, e7, e9, e11]), Below.refl _ _, (fun _ => rfl), fun o h => by cases h⟩
        · have e7 : v 7 = .bool false := hd 7 (List.contains_iff_mem.1 (by kernel_rfl)); have e12 : v 12 = undef := hd 12 (List.contains_iff_mem.1 (by kernel_rfl))
          refine wpOp_step (o := _) rfl (fun K' hK => ?_)
          go_simp
          exact hK _ _ ⟨undef, fr_eq8 (by simp [upd, e7, e12]), Below.refl _ _, (fun _ => rfl), fun o h => by cases h⟩
        · have e13 : v 13 = undef := hd 13 (List.contains_iff_mem.1 (by kernel_rfl))
          refine wpOp_step (o := _) rfl (fun K' hK => ?_)
          go_simp
          exact hK _ _ ⟨undef, fr_eq8 (by simp [upd, e13]), Below.refl _ _, (fun _ => rfl), fun o h => by cases h⟩
        · have e13 : v 13 = undef := hd 13 (List.contains_iff_mem.1 (by kernel_rfl)); have e14 : v 14 = undef := hd 14 (List.contains_iff_mem.1 (by kernel_rfl))
          refine wpOp_step (o := _) rfl (fun K' hK => ?_)
          go_simp
          exact hK _ _ ⟨undef, fr_eq8 (by simp [upd, e13, e14]), Below.refl _ _, (fun _ => rfl), fun o h => by cases h⟩
        · have e13 : v 13 = undef := hd 13 (List.contains_iff_mem.1 (by kernel_rfl))
          refine wpOp_step (o := _) rfl (fun K' hK => ?_)
          go_simp
          exact hK _ _ ⟨undef, fr_eq8 (by simp [upd, e13]), Below.refl _ _, (fun _ => rfl), fun o h => by cases h⟩
        · have e13 : v 13 = undef := hd 13 (List.contains_iff_mem.1 (by kernel_rfl)); have e16 : v 16 = undef := hd 16 (List.contains_iff_mem.1 (by kernel_rfl))
          refine wpOp_step (o := _) rfl (fun K' hK => ?_)
          go_simp
          exact hK _ _ ⟨undef, fr_eq8 (by simp [upd, e13, e16]), Below.refl _ _, (fun _ => rfl), fun o h => by cases h⟩
        · have e13 : v 13 = undef := hd 13 (List.contains_iff_mem.1 (by kernel_rfl)); have e15 : v 15 = undef := hd 15 (List.contains_iff_mem.1 (by kernel_rfl)); have e17 : v 17 = undef := hd 17 (List.contains_iff_mem.1 (by kernel_rfl))
          refine wpOp_step (o := _) rfl (fun K' hK => ?_)
          go_simp
          exact hK _ _ ⟨undef, fr_eq8 (by simp [upd, e13, e15, e17]), Below.refl _ _, (fun _ => rfl), fun o h => by cases h⟩
        · have e7 : v 7 = .bool false := hd 7 (List.contains_iff_mem.1 (by kernel_rfl)); have e13 : v 13 = undef := hd 13 (List.contains_iff_mem.1 (by kernel_rfl)); have e18 : v 18 = undef := hd 18 (List.contains_iff_mem.1 (by kernel_rfl))
          refine wpOp_step (o := _) rfl (fun K' hK => ?_)
          go_simp
          exact hK _ _ ⟨undef, fr_eq8 (by simp [upd, e7, e13, e18]), Below.refl _ _, (fun _ => rfl), fun o h => by cases h⟩
        · have e7 : v 7 = .bool false := hd 7 (List.contains_iff_mem.1 (by kernel_rfl)); have e19 : v 19 = undef := hd 19 (List.contains_iff_mem.1 (by kernel_rfl))
          refine wpOp_step (o := _) rfl (fun K' hK => ?_)
          go_simp
          exact hK _ _ ⟨undef, fr_eq8 (by simp [upd, e7, e19]), Below.refl _ _, (fun _ => rfl), fun o h => by cases h⟩
        · have e20 : v 20 = undef := hd 20 (List.contains_iff_mem.1 (by kernel_rfl))
          refine wpOp_step (o := _) rfl (fun K' hK => ?_)
          go_simp
          exact hK _ _ ⟨undef, fr_eq8 (by simp [upd, e20]), Below.refl _ _, (fun _ => rfl), fun o h => by cases h⟩
        · have e20 : v 20 = undef := hd 20 (List.contains_iff_mem.1 (by kernel_rfl)); have e21 : v 21 = undef := hd 21 (List.contains_iff_mem.1 (by kernel_rfl))
          refine wpOp_step (o := _) rfl (fun K' hK => ?_)
          go_simp
          exact hK _ _ ⟨undef, fr_eq8 (by simp [upd, e20, e21]), Below.refl _ _, (fun _ => rfl), fun o h => by cases h⟩
        · have e20 : v 20 = undef := hd 20 (List.contains_iff_mem.1 (by kernel_rfl))
          refine wpOp_step (o := _) rfl (fun K' hK => ?_)
          go_simp
          exact hK _ _ ⟨undef, fr_eq8 (by simp [upd, e20]), Below.refl _ _, (fun _ => rfl), fun o h => by cases h⟩
        · have e20 : v 20 = undef := hd 20 (List.contains_iff_mem.1 (by kernel_rfl)); have e23 : v 23 = undef := hd 23 (List.contains_iff_mem.1 (by kernel_rfl))
          refine wpOp_step (o := _) rfl (fun K' hK => ?_)
          go_simp
          exact hK _ _ ⟨undef, fr_eq8 (by simp [upd, e20, e23]), Below.refl _ _, (fun _ => rfl), fun o h => by cases h⟩
        · have e20 : v 20 = undef := hd 20 (List.contains_iff_mem.1 (by kernel_rfl)); have e22 : v 22 = undef := hd 22 (List.contains_iff_mem.1 (by kernel_rfl)); have e24 : v 24 = undef := hd 24 (List.contains_iff_mem.1 (by kernel_rfl))
          refine wpOp_step (o := _) rfl (fun K' hK => ?_)
          go_simp
          exact hK _ _ ⟨undef, fr_eq8 (by simp [upd, e20, e22, e24]), Below.refl _ _, (fun _ => rfl), fun o h => by cases h⟩
        · have e7 : v 7 = .bool false := hd 7 (List.contains_iff_mem.1 (by kernel_rfl)); have e20 : v 20 = undef := hd 20 (List.contains_iff_mem.1 (by kernel_rfl)); have e25 : v 25 = undef := hd 25 (List.contains_iff_mem.1 (by kernel_rfl))
          refine wpOp_step (o := _) rfl (fun K' hK => ?_)
          go_simp
          exact hK _ _ ⟨undef, fr_eq8 (by simp [upd, e7, e20, e25]), Below.refl _ _, (fun _ => rfl), fun o h => by cases h⟩
        · have e5 : v 5 = .bool false := hd 5 (List.contains_iff_mem.1 (by kernel_rfl)); have e7 : v 7 = .bool false := hd 7 (List.contains_iff_mem.1 (by kernel_rfl)); have e26 : v 26 = undef := hd 26 (List.contains_iff_mem.1 (by kernel_rfl))
          refine wpOp_step (o := _) rfl (fun K' hK => ?_)
          go_simp
          exact hK _ _ ⟨.bool false, fr_eq8 (by simp [upd, e5, e7, e26]), Below.refl _ _, (fun _ => rfl), fun o h => by cases h⟩
        · have e5 : v 5 = .bool false := hd 5 (List.contains_iff_mem.1 (by kernel_rfl)); have e27 : v 27 = .bool false := hd 27 (List.contains_iff_mem.1 (by kernel_rfl))
          refine wpOp_step (o := _) rfl (fun K' hK => ?_)
          go_simp
          exact hK _ _ ⟨.bool false, fr_eq8 (by simp [upd, e5, e27]), Below.refl _ _, (fun _ => rfl), fun o h => by cases h⟩
      · have HB4 := Lib.hid (below_step8' HB3.out hb)
        have HX4 := Lib.hid (box_keep HZ1.out hb)
        have e0 : v 0 = .bool false := hv 0 (by decide)
        have e1 : v 1 = .agg #[.int .i64 U.kind, .int .u64 U.num, .string U.text, .slice U.ia U.len U.cap] := hv 1 (by decide)
        have e2 : v 2 = .agg #[.int .i64 T.kind, .int .u64 T.num, .string T.text, .slice T.ia T.len T.cap] := hv 2 (by decide)
        have e3 : v 3 = .bool false := hv 3 (by decide)
        have e4 : v 4 = .bool false := hv 4 (by decide)
        have e5 : v 5 = .bool false := hv 5 (by decide)
        have e6 : v 6 = .bool false := hv 6 (by decide)
        have e7 : v 7 = .bool false := hv 7 (by decide)
        have e8 : v 8 = undef := hv 8 (by decide)
        have e9 : v 9 = undef := hv 9 (by decide)
        have e10 : v 10 = undef := hv 10 (by decide)
        have e11 : v 11 = undef := hv 11 (by decide)
        have e12 : v 12 = undef := hv 12 (by decide)
        have e13 : v 13 = undef := hv 13 (by decide)
        have e14 : v 14 = undef := hv 14 (by decide)
        have e15 : v 15 = undef := hv 15 (by decide)
        have e16 : v 16 = undef := hv 16 (by decide)
        have e17 : v 17 = undef := hv 17 (by decide)
        have e18 : v 18 = undef := hv 18 (by decide)
        have e19 : v 19 = undef := hv 19 (by decide)
        have e20 : v 20 = undef := hv 20 (by decide)
        have e21 : v 21 = undef := hv 21 (by decide)
        have e22 : v 22 = undef := hv 22 (by decide)
        have e23 : v 23 = undef := hv 23 (by decide)
        have e24 : v 24 = undef := hv 24 (by decide)
        have e25 : v 25 = undef := hv 25 (by decide)
        have e26 : v 26 = undef := hv 26 (by decide)
        have e27 : v 27 = .bool false := hv 27 (by decide)
        have e28 : v 28 = .bool false := hv 28 (by decide)
        clear hv hdist hBx hb
        refine wpAny_of_held (S := fun _ => True) _ _ _ _ ?_
        simp only [e0, e1, e2, e3, e4, e5, e6, e7, e8, e9, e10, e11, e12, e13, e14, e15, e16, e17, e18, e19, e20, e21, e22, e23, e24, e25, e26, e27, e28]
        clear e0 e1 e2 e3 e4 e5 e6 e7 e8 e9 e10 e11 e12 e13 e14 e15 e16 e17 e18 e19 e20 e21 e22 e23 e24 e25 e26 e27 e28
        refine wpAnyH_done (by kernel_rfl) ?_ _
        go_wp2_with fail
        go_meet
        exact ⟨rfl, HX4, HB4⟩
    case true =>
      obtain ⟨h1, h2, h3⟩ := HDS.out rfl
      obtain ⟨t, ht⟩ : ∃ t, textT U = t := ⟨_, rfl⟩
      obtain ⟨d, hd⟩ : ∃ d, deepT U = d := ⟨_, rfl⟩
      obtain ⟨g, hg⟩ : ∃ g, greatT U = g := ⟨_, rfl⟩
      rw [h1, ht] at HTT
      rw [h2, hd] at HDT
      rw [h3, hg] at HGT
      rw [ht] at HTU
      rw [hd] at HDU
      rw [hg] at HGU
      have HB := HB3
      have HBold := Lib.hid (Below.refl w3.heap.size w3)
      clear h1 h2 h3 ht hd hg HW HS HDS HV HB2 HY1 HY2
      go_region_held3 (fun w' => w'.cell? ⟨w.heap.size, 0, none⟩ = some (.int .i64 T.kind) ∧ w'.cell? ⟨w.heap.size, 1, none⟩ = some (.int .u64 T.num) ∧ w'.cell? ⟨w.heap.size, 2, none⟩ = some (.string T.text) ∧ w'.cell? ⟨w.heap.size, 3, none⟩ = some (.slice T.ia T.len T.cap) ∧ w'.cell? ⟨w.heap.size + 1, 0, none⟩ = some (.int .i64 U.kind) ∧ w'.cell? ⟨w.heap.size + 1, 1, none⟩ = some (.int .u64 U.num) ∧ w'.cell? ⟨w.heap.size + 1, 2, none⟩ = some (.string U.text) ∧ w'.cell? ⟨w.heap.size + 1, 3, none⟩ = some (.slice U.ia U.len U.cap) ∧ Hid (Below w.heap.size w w'))
        (first | exact ⟨c0, c1, c2, c3, c4, c5, c6, c7, Lib.hid HB.out.drew⟩ | exact ⟨c0, c1, c2, c3, c4, c5, c6, c7, HB⟩ | fail)
        (first
          | (go_at_call 17; (with_reducible refine (HSY.out _ (by first | exact HB.out | exact HB.out.drew)).mono ?_); rintro e w3 ⟨rfl, hb3⟩; have HB := Lib.hid (below_step8' (by first | exact HB.out | exact HB.out.drew) hb3); have c0 := keep hb3 (by exact c0); have c1 := keep hb3 (by exact c1); have c2 := keep hb3 (by exact c2); have c3 := keep hb3 (by exact c3); have c4 := keep hb3 (by exact c4); have c5 := keep hb3 (by exact c5); have c6 := keep hb3 (by exact c6); have c7 := keep hb3 (by exact c7); have HZ1 := Lib.hid (box_keep (by exact HZ1.out) hb3); clear hb3)
          | (go_at_call 14; (with_reducible refine (HTT.out _ (by first | exact HB.out | exact HB.out.drew)).mono ?_); rintro e w3 ⟨rfl, hb3⟩; have HB := Lib.hid (below_step8' (by first | exact HB.out | exact HB.out.drew) hb3); have c0 := keep hb3 (by exact c0); have c1 := keep hb3 (by exact c1); have c2 := keep hb3 (by exact c2); have c3 := keep hb3 (by exact c3); have c4 := keep hb3 (by exact c4); have c5 := keep hb3 (by exact c5); have c6 := keep hb3 (by exact c6); have c7 := keep hb3 (by exact c7); have HZ1 := Lib.hid (box_keep (by exact HZ1.out) hb3); clear hb3)
          | (go_at_call 14; (with_reducible refine (HTU.out _ (by first | exact HB.out | exact HB.out.drew)).mono ?_); rintro e w3 ⟨rfl, hb3⟩; have HB := Lib.hid (below_step8' (by first | exact HB.out | exact HB.out.drew) hb3); have c0 := keep hb3 (by exact c0); have c1 := keep hb3 (by exact c1); have c2 := keep hb3 (by exact c2); have c3 := keep hb3 (by exact c3); have c4 := keep hb3 (by exact c4); have c5 := keep hb3 (by exact c5); have c6 := keep hb3 (by exact c6); have c7 := keep hb3 (by exact c7); have HZ1 := Lib.hid (box_keep (by exact HZ1.out) hb3); clear hb3)
          | (go_at_call 10; (with_reducible refine (HDT.out _ (by first | exact HB.out | exact HB.out.drew)).mono ?_); rintro e w3 ⟨rfl, hb3⟩; have HB := Lib.hid (below_step8' (by first | exact HB.out | exact HB.out.drew) hb3); have c0 := keep hb3 (by exact c0); have c1 := keep hb3 (by exact c1); have c2 := keep hb3 (by exact c2); have c3 := keep hb3 (by exact c3); have c4 := keep hb3 (by exact c4); have c5 := keep hb3 (by exact c5); have c6 := keep hb3 (by exact c6); have c7 := keep hb3 (by exact c7); have HZ1 := Lib.hid (box_keep (by exact HZ1.out) hb3); clear hb3)
          | (go_at_call 10; (with_reducible refine (HDU.out _ (by first | exact HB.out | exact HB.out.drew)).mono ?_); rintro e w3 ⟨rfl, hb3⟩; have HB := Lib.hid (below_step8' (by first | exact HB.out | exact HB.out.drew) hb3); have c0 := keep hb3 (by exact c0); have c1 := keep hb3 (by exact c1); have c2 := keep hb3 (by exact c2); have c3 := keep hb3 (by exact c3); have c4 := keep hb3 (by exact c4); have c5 := keep hb3 (by exact c5); have c6 := keep hb3 (by exact c6); have c7 := keep hb3 (by exact c7); have HZ1 := Lib.hid (box_keep (by exact HZ1.out) hb3); clear hb3)
          | (go_at_call 12; (with_reducible refine (HGT.out _ (by first | exact HB.out | exact HB.out.drew)).mono ?_); rintro e w3 ⟨rfl, hb3⟩; have HB := Lib.hid (below_step8' (by first | exact HB.out | exact HB.out.drew) hb3); have c0 := keep hb3 (by exact c0); have c1 := keep hb3 (by exact c1); have c2 := keep hb3 (by exact c2); have c3 := keep hb3 (by exact c3); have c4 := keep hb3 (by exact c4); have c5 := keep hb3 (by exact c5); have c6 := keep hb3 (by exact c6); have c7 := keep hb3 (by exact c7); have HZ1 := Lib.hid (box_keep (by exact HZ1.out) hb3); clear hb3)
          | (go_at_call 12; (with_reducible refine (HGU.out _ (by first | exact HB.out | exact HB.out.drew)).mono ?_); rintro e w3 ⟨rfl, hb3⟩; have HB := Lib.hid (below_step8' (by first | exact HB.out | exact HB.out.drew) hb3); have c0 := keep hb3 (by exact c0); have c1 := keep hb3 (by exact c1); have c2 := keep hb3 (by exact c2); have c3 := keep hb3 (by exact c3); have c4 := keep hb3 (by exact c4); have c5 := keep hb3 (by exact c5); have c6 := keep hb3 (by exact c6); have c7 := keep hb3 (by exact c7); have HZ1 := Lib.hid (box_keep (by exact HZ1.out) hb3); clear hb3))
      go_wp2_with fail
      go_meet
      exact ⟨rfl, HZ1, HB⟩
  case rest =>
    obtain ⟨rfl, HR, HBc⟩ := hcut
    clear HDS HS HSY HTT HTU HDU HGU HB2 HY1 HY2 HB3 HZ1 HZ2 c0 c1 c2 c3 c4 c5 c6 c7
    go_wp2
    go_loopw [6] (fun i wr => ∃ j : Nat, j ≤ T.len ∧ i = .int .i64 j ∧ Hid (wr.heap[w.heap.size]? = some (valO T)) ∧ Hid (Below w.heap.size w wr)) (fun i _ => T.len - (intOf i).toNat)
    case atStart => exact ⟨0, Nat.zero_le _, rfl, HR, HBc⟩
    case round =>
      obtain ⟨j, hj, rfl, HRr, HBr⟩ := hrel
      have hbw := HBr.out.size
      have hlw := lt_of_block HRr.out
      by_cases hlt : j < T.len
      · have HA := Lib.hid (at_kid S T j wr.heap.size hlt wr rfl (HV.out.next HBr.out))
        have d0 : wr.cell? ⟨w.heap.size, 0, none⟩ = some (.int .i64 T.kind) := cell_at HRr.out rfl
        have d1 : wr.cell? ⟨w.heap.size, 1, none⟩ = some (.int .u64 T.num) := cell_at HRr.out rfl
        have d2 : wr.cell? ⟨w.heap.size, 2, none⟩ = some (.string T.text) := cell_at HRr.out rfl
        have d3 : wr.cell? ⟨w.heap.size, 3, none⟩ = some (.slice T.ia T.len T.cap) := cell_at HRr.out rfl
        have hne : ¬ w.heap.size = wr.heap.size := by omega
        go_upto_region 10 with (first
          | (go_at_call 8; refine (HA.out).mono ?_; rintro e w4 ⟨X, rfl, hsX, hvX, hbX⟩; have HSX := Lib.hid hsX; have HVX := Lib.hid hvX; have HBX := Lib.hid hbX; clear hsX hvX hbX HA))
        have hb5 := (Below.refl w4.heap.size w4).alloc (Nat.le_refl _) (.cells #[.int .i64 X.kind, .int .u64 X.num, .string X.text, .slice X.ia X.len X.cap] 25)
        have hqx := alloc_at w4 (.cells #[.int .i64 X.kind, .int .u64 X.num, .string X.text, .slice X.ia X.len X.cap] 25)
        have h45 := below_step8' HBr.out HBX.out
        have HB5 := Lib.hid (below_step8' h45 hb5)
        have HR5 := Lib.hid (box_keep (box_keep HRr.out HBX.out) hb5)
        have HVX5 := Lib.hid (HVX.out.next hb5)
        obtain ⟨bx, hbx⟩ : ∃ bx, w4.heap.size = bx := ⟨_, rfl⟩
        rw [hbx] at hqx ⊢
        clear d0 d1 d2 d3 hne hb5 h45
        generalize (w4.alloc (.cells #[.int .i64 X.kind, .int .u64 X.num, .string X.text, .slice X.ia X.len X.cap] 25)) = wX at *
        have hB5 := HB5.out
        obtain ⟨⟨b, off, hia, _, _, c8, c9, c10, c11⟩, hvk⟩ := kids_at HV.out hB5 hlt
        have c0 : wX.cell? ⟨w.heap.size, 0, none⟩ = some (.int .i64 T.kind) := cell_at HR5.out rfl
        have c1 : wX.cell? ⟨w.heap.size, 1, none⟩ = some (.int .u64 T.num) := cell_at HR5.out rfl
        have c2 : wX.cell? ⟨w.heap.size, 2, none⟩ = some (.string T.text) := cell_at HR5.out rfl
        have c3 : wX.cell? ⟨w.heap.size, 3, none⟩ = some (.slice (some ⟨b, off, none⟩) T.len T.cap) := by rw [← hia]; exact cell_at HR5.out rfl
        have c4 : wX.cell? ⟨bx, 0, none⟩ = some (.int .i64 X.kind) := cell_at hqx rfl
        have c5 : wX.cell? ⟨bx, 1, none⟩ = some (.int .u64 X.num) := cell_at hqx rfl
        have c6 : wX.cell? ⟨bx, 2, none⟩ = some (.string X.text) := cell_at hqx rfl
        have c7 : wX.cell? ⟨bx, 3, none⟩ = some (.slice X.ia X.len X.cap) := cell_at hqx rfl
        have hsm := sameT_symm _ _ HSX.out
        have hdx := same_deep _ _ hsm
        have hgx := same_great _ _ hsm
        have hkd := kid_deep hlt
        have hkg := kid_great hlt
        have HQ1x := Lib.hid (fun wy (hb : Below wX.heap.size wX wy) => same8_any _ S X (T.kid j) wy (HVX5.out.next hb) (hvk.next hb))
        have HQ2x := Lib.hid (fun wy (hb : Below wX.heap.size wX wy) => deep8_any _ X wy (HVX5.out.next hb) (by omega))
        have HQ3x := Lib.hid (fun wy (hb : Below wX.heap.size wX wy) => great8_any _ X wy (HVX5.out.next hb) (by omega))
        have HQ4x := Lib.hid (fun wy (hb : Below wX.heap.size wX wy) => HDT.out wy (below_step8' hB5 hb))
        have HQ5x := Lib.hid (fun wy (hb : Below wX.heap.size wX wy) => HGT.out wy (below_step8' hB5 hb))
        rw [hia] at HQ4x HQ5x
        unfold CSameTo at HQ1x
        unfold CDeepTo at HQ2x
        unfold CGreatTo at HQ3x
        rw [hsm] at HQ1x
        rw [hdx] at HQ2x
        rw [hgx] at HQ3x
        obtain ⟨p1, hp1⟩ : ∃ p, deepT (T.kid j) = p := ⟨_, rfl⟩
        obtain ⟨p2, hp2⟩ : ∃ p, deepT T = p := ⟨_, rfl⟩
        obtain ⟨p3, hp3⟩ : ∃ p, greatT (T.kid j) = p := ⟨_, rfl⟩
        obtain ⟨p4, hp4⟩ : ∃ p, greatT T = p := ⟨_, rfl⟩
        rw [hp1] at HQ2x hkd
        rw [hp2] at HQ4x hkd
        rw [hp3] at HQ3x hkg
        rw [hp4] at HQ5x hkg
        have t1 : decide ((p2 : Int) ≤ (p1 : Int)) = false := by simp; omega
        have t2 : decide (p2 ≤ p1) = false := by simp; omega
        have t3 : decide ((p4 : Int) ≤ (p3 : Int)) = false := by simp; omega
        have t4 : decide (p4 ≤ p3) = false := by simp; omega
        have HB := Lib.hid (Below.refl wX.heap.size wX)
        clear hia hvk hsm hdx hgx hkd hkg hp1 hp2 hp3 hp4 hqx hB5 HVX5 HSX HVX HBX
        go_region_held3 (fun w' => w'.cell? ⟨w.heap.size, 0, none⟩ = some (.int .i64 T.kind) ∧ w'.cell? ⟨w.heap.size, 1, none⟩ = some (.int .u64 T.num) ∧ w'.cell? ⟨w.heap.size, 2, none⟩ = some (.string T.text) ∧ w'.cell? ⟨w.heap.size, 3, none⟩ = some (.slice (some ⟨b, off, none⟩) T.len T.cap) ∧ w'.cell? ⟨bx, 0, none⟩ = some (.int .i64 X.kind) ∧ w'.cell? ⟨bx, 1, none⟩ = some (.int .u64 X.num) ∧ w'.cell? ⟨bx, 2, none⟩ = some (.string X.text) ∧ w'.cell? ⟨bx, 3, none⟩ = some (.slice X.ia X.len X.cap) ∧ w'.cell? ⟨b, off + j * 4, none⟩ = some (.int .i64 (T.kid j).kind) ∧ w'.cell? ⟨b, off + j * 4 + 1, none⟩ = some (.int .u64 (T.kid j).num) ∧ w'.cell? ⟨b, off + j * 4 + 2, none⟩ = some (.string (T.kid j).text) ∧ w'.cell? ⟨b, off + j * 4 + 3, none⟩ = some (.slice (T.kid j).ia (T.kid j).len (T.kid j).cap) ∧ Hid (Below wX.heap.size wX w'))
          (first | exact ⟨c0, c1, c2, c3, c4, c5, c6, c7, c8, c9, c10, c11, Lib.hid HB.out.drew⟩ | exact ⟨c0, c1, c2, c3, c4, c5, c6, c7, c8, c9, c10, c11, HB⟩ | fail)
          (first
            | (go_at_call 17; (with_reducible refine (HQ1x.out _ (by first | exact HB.out | exact HB.out.drew)).mono ?_); rintro e w9 ⟨rfl, hb9⟩; have HB := Lib.hid (below_step8' (by first | exact HB.out | exact HB.out.drew) hb9); have c0 := keep hb9 (by exact c0); have c1 := keep hb9 (by exact c1); have c2 := keep hb9 (by exact c2); have c3 := keep hb9 (by exact c3); have c4 := keep hb9 (by exact c4); have c5 := keep hb9 (by exact c5); have c6 := keep hb9 (by exact c6); have c7 := keep hb9 (by exact c7); have c8 := keep hb9 (by exact c8); have c9 := keep hb9 (by exact c9); have c10 := keep hb9 (by exact c10); have c11 := keep hb9 (by exact c11); clear hb9)
            | (go_at_call 10; (with_reducible refine (HQ2x.out _ (by first | exact HB.out | exact HB.out.drew)).mono ?_); rintro e w9 ⟨rfl, hb9⟩; have HB := Lib.hid (below_step8' (by first | exact HB.out | exact HB.out.drew) hb9); have c0 := keep hb9 (by exact c0); have c1 := keep hb9 (by exact c1); have c2 := keep hb9 (by exact c2); have c3 := keep hb9 (by exact c3); have c4 := keep hb9 (by exact c4); have c5 := keep hb9 (by exact c5); have c6 := keep hb9 (by exact c6); have c7 := keep hb9 (by exact c7); have c8 := keep hb9 (by exact c8); have c9 := keep hb9 (by exact c9); have c10 := keep hb9 (by exact c10); have c11 := keep hb9 (by exact c11); clear hb9)
            | (go_at_call 10; (with_reducible refine (HQ4x.out _ (by first | exact HB.out | exact HB.out.drew)).mono ?_); rintro e w9 ⟨rfl, hb9⟩; have HB := Lib.hid (below_step8' (by first | exact HB.out | exact HB.out.drew) hb9); have c0 := keep hb9 (by exact c0); have c1 := keep hb9 (by exact c1); have c2 := keep hb9 (by exact c2); have c3 := keep hb9 (by exact c3); have c4 := keep hb9 (by exact c4); have c5 := keep hb9 (by exact c5); have c6 := keep hb9 (by exact c6); have c7 := keep hb9 (by exact c7); have c8 := keep hb9 (by exact c8); have c9 := keep hb9 (by exact c9); have c10 := keep hb9 (by exact c10); have c11 := keep hb9 (by exact c11); clear hb9)
            | (go_at_call 12; (with_reducible refine (HQ3x.out _ (by first | exact HB.out | exact HB.out.drew)).mono ?_); rintro e w9 ⟨rfl, hb9⟩; have HB := Lib.hid (below_step8' (by first | exact HB.out | exact HB.out.drew) hb9); have c0 := keep hb9 (by exact c0); have c1 := keep hb9 (by exact c1); have c2 := keep hb9 (by exact c2); have c3 := keep hb9 (by exact c3); have c4 := keep hb9 (by exact c4); have c5 := keep hb9 (by exact c5); have c6 := keep hb9 (by exact c6); have c7 := keep hb9 (by exact c7); have c8 := keep hb9 (by exact c8); have c9 := keep hb9 (by exact c9); have c10 := keep hb9 (by exact c10); have c11 := keep hb9 (by exact c11); clear hb9)
            | (go_at_call 12; (with_reducible refine (HQ5x.out _ (by first | exact HB.out | exact HB.out.drew)).mono ?_); rintro e w9 ⟨rfl, hb9⟩; have HB := Lib.hid (below_step8' (by first | exact HB.out | exact HB.out.drew) hb9); have c0 := keep hb9 (by exact c0); have c1 := keep hb9 (by exact c1); have c2 := keep hb9 (by exact c2); have c3 := keep hb9 (by exact c3); have c4 := keep hb9 (by exact c4); have c5 := keep hb9 (by exact c5); have c6 := keep hb9 (by exact c6); have c7 := keep hb9 (by exact c7); have c8 := keep hb9 (by exact c8); have c9 := keep hb9 (by exact c9); have c10 := keep hb9 (by exact c10); have c11 := keep hb9 (by exact c11); clear hb9))
        go_wp2_with fail
        have HRf := Lib.hid (box_keep HR5.out HB.out)
        have HBf := Lib.hid (below_step8' HB5.out HB.out)
        go_roundw
        case rel => exact ⟨j + 1, by omega, by go_num, HRf, HBf⟩
        case measure => simp [intOf]; omega
      · obtain rfl : j = T.len := by omega
        have d0 : wr.cell? ⟨w.heap.size, 0, none⟩ = some (.int .i64 T.kind) := cell_at HRr.out rfl
        have d1 : wr.cell? ⟨w.heap.size, 1, none⟩ = some (.int .u64 T.num) := cell_at HRr.out rfl
        have d2 : wr.cell? ⟨w.heap.size, 2, none⟩ = some (.string T.text) := cell_at HRr.out rfl
        have d3 : wr.cell? ⟨w.heap.size, 3, none⟩ = some (.slice T.ia T.len T.cap) := cell_at HRr.out rfl
        have HA := Lib.hid (at_nil S T wr (HV.out.next HBr.out))
        have HLN := Lib.hid (fun wy g (hg : g = wy.heap.size) (hb : Below w.heap.size w wy) => at_len S T g wy hg (HV.out.next hb))
        have HSS := Lib.hid (fun (X : VT) wy (hs : sameT T X = true) (hx : ValAt wy (fun c => wr.heap.size ≤ c) X) (hb : Below w.heap.size w wy) => (show CSameTo X T wy from same8_any _ S X T wy hx (HV.out.next hb)))
        clear HDT HGT
        go_wp2_with (first
          | (go_at_call 8; refine (HA.out).mono ?_; rintro e w4 ⟨X, rfl, hsX, hvX, hbX⟩; have HSX := Lib.hid hsX; have HVX := Lib.hid hvX; have HB4 := Lib.hid (below_step8' HBr.out hbX); have HR4 := Lib.hid (box_keep HRr.out hbX); have e0 : w4.cell? ⟨w.heap.size, 0, none⟩ = some (.int .i64 T.kind) := cell_at HR4.out rfl; have e1 : w4.cell? ⟨w.heap.size, 1, none⟩ = some (.int .u64 T.num) := cell_at HR4.out rfl; have e2 : w4.cell? ⟨w.heap.size, 2, none⟩ = some (.string T.text) := cell_at HR4.out rfl; have e3 : w4.cell? ⟨w.heap.size, 3, none⟩ = some (.slice T.ia T.len T.cap) := cell_at HR4.out rfl; have hl4 := lt_of_block HR4.out; have hn4 : ¬ w.heap.size = w4.heap.size := (by omega); clear hsX hvX hbX HA d0 d1 d2 d3)
          | (go_at_call 8; refine (HLN.out _ _ (by simp) (below_step8' HB4.out ((Below.refl w4.heap.size w4).alloc (Nat.le_refl _) (.cells #[.int .i64 X.kind, .int .u64 X.num, .string X.text, .slice X.ia X.len X.cap] 25)))).mono ?_; rintro e w5 ⟨rfl, hb5⟩; have HB5 := Lib.hid (below_step8' (below_step8' HB4.out ((Below.refl w4.heap.size w4).alloc (Nat.le_refl _) (.cells #[.int .i64 X.kind, .int .u64 X.num, .string X.text, .slice X.ia X.len X.cap] 25))) hb5); have HR5 := Lib.hid (box_keep (box_keep HR4.out ((Below.refl w4.heap.size w4).alloc (Nat.le_refl _) (.cells #[.int .i64 X.kind, .int .u64 X.num, .string X.text, .slice X.ia X.len X.cap] 25))) hb5); have HX5 := Lib.hid (box_keep (alloc_at w4 (.cells #[.int .i64 X.kind, .int .u64 X.num, .string X.text, .slice X.ia X.len X.cap] 25)) hb5); have HVX5 := Lib.hid ((HVX.out.next ((Below.refl w4.heap.size w4).alloc (Nat.le_refl _) (.cells #[.int .i64 X.kind, .int .u64 X.num, .string X.text, .slice X.ia X.len X.cap] 25))).next hb5); have a0 : w5.cell? ⟨w.heap.size, 0, none⟩ = some (.int .i64 T.kind) := cell_at HR5.out rfl; have a1 : w5.cell? ⟨w.heap.size, 1, none⟩ = some (.int .u64 T.num) := cell_at HR5.out rfl; have a2 : w5.cell? ⟨w.heap.size, 2, none⟩ = some (.string T.text) := cell_at HR5.out rfl; have a3 : w5.cell? ⟨w.heap.size, 3, none⟩ = some (.slice T.ia T.len T.cap) := cell_at HR5.out rfl; have x0 : w5.cell? ⟨w4.heap.size, 0, none⟩ = some (.int .i64 X.kind) := cell_at HX5.out rfl; have x1 : w5.cell? ⟨w4.heap.size, 1, none⟩ = some (.int .u64 X.num) := cell_at HX5.out rfl; have x2 : w5.cell? ⟨w4.heap.size, 2, none⟩ = some (.string X.text) := cell_at HX5.out rfl; have x3 : w5.cell? ⟨w4.heap.size, 3, none⟩ = some (.slice X.ia X.len X.cap) := cell_at HX5.out rfl; have hl5 := lt_of_block HR5.out; have hl6 := lt_of_block HX5.out; have hn5 : ¬ w.heap.size = w5.heap.size := (by omega); have hn6 : ¬ w4.heap.size = w5.heap.size := (by omega); have HSM := Lib.hid (HSS.out X _ HSX.out (HVX5.out.next ((Below.refl w5.heap.size w5).alloc (Nat.le_refl _) (.cells #[.int .i64 0, .int .u64 0, .string ⟨#[]⟩, .slice none 0 0] 25))) (below_step8' HB5.out ((Below.refl w5.heap.size w5).alloc (Nat.le_refl _) (.cells #[.int .i64 0, .int .u64 0, .string ⟨#[]⟩, .slice none 0 0] 25)))); unfold CSameTo at HSM; rw [sameT_symm _ _ HSX.out] at HSM; clear hb5 e0 e1 e2 e3 hn4 hl4)
          | (go_at_call 17; refine (HSM.out).mono ?_; rintro e w6 ⟨rfl, hb6⟩; have HB6 := Lib.hid (below_step8' (below_step8' HB5.out ((Below.refl w5.heap.size w5).alloc (Nat.le_refl _) (.cells #[.int .i64 0, .int .u64 0, .string ⟨#[]⟩, .slice none 0 0] 25))) hb6); clear hb6)
          | (go_at_call 7; refine (HW.out _ HB6.out).mono ?_; rintro e w7 ⟨rfl, hb7⟩; have HB7 := Lib.hid (below_step8' HB6.out hb7); clear hb7))
        go_ret
        exact ⟨rfl, HB7.out⟩
set_option maxRecDepth 100000 in
theorem lifted (os : Os) (started : os.Started) (H : Type) (enc : TypeId × Value → H) :
    ReturnsInHanded {} Tryd.checked os 5 .any (fun w args => (Rows.valuePartsSpec.pre enc Tryd.prog Tryd.f5 Rows.valuePartsRow.domain false w args ∧ laidMetH Tryd.prog Rows.valuePartsRow.laid w) ∧ sizedMet enc Tryd.prog Tryd.f5 (OpenSpec.ofChange Rows.valuePartsSpec) false w args)
      (Rows.valuePartsSpec.post enc Tryd.prog Tryd.f5 false true false false) := by
  refine returnsInHanded_of_change_and (C := Tryd.checked) (X := fun w _ => laidMetH Tryd.prog Rows.valuePartsRow.laid w) (fun _ _ _ hh h => h.of_heap hh) own started (by kernel_rfl) Tryd.func5
    (ChangeSpec.witness_shaped (enc := enc) (C := Tryd.checked) (os := os) (X := fun w _ => laidMetH Tryd.prog Rows.valuePartsRow.laid w) false (World.laidAll Tryd.prog os Rows.valuePartsRow.laid) #[.agg #[.int .i64 0, .int .u64 0, .string ⟨#[]⟩, .slice none 0 0], .agg #[.int .i64 0, .int .u64 0, .string ⟨#[]⟩, .slice none 0 0]] 8 (World.laidAll_os _ _ _)
      (World.shaped_of_ZipB (by kernel_rfl) (by kernel_rfl)) (by kernel_rfl) (by kernel_rfl) (by kernel_rfl)
      (by rw [MakeChecks.laidMetH_plain _ _ _ (by kernel_rfl)]; exact laidMet_laidAll _ (by kernel_rfl) (by kernel_rfl))) ?_
  intro W base args ds gs before hval0 hW hcnd hsz hL _
  have hval : ∀ (j : Nat) t v, Tryd.f5.params[j]? = some t → args[j]? = some v → Value.okWide Tryd.prog W .any base t v := hval0
  have hW' := hW
  obtain ⟨p, q, hA0, hV, rfl, hfz, hnd⟩ := hW
  have hA : DataW.TrodAll enc Tryd.prog W 0 (fun _ => true) true Tryd.f5.params.toList args.toList ds p := hA0
  rw [Tryd.params5] at hA hval
  obtain ⟨rfl, rfl⟩ := trodVars_none hV
  clear hA0 hval0
  simp only [List.append_nil] at hW'
  have hlt := hW'.lt
  have hA1 := hA
  have hsz1 : (DataW.weightsEach Tryd.prog (Tryd.f5.params.toList ++ []) (ds ++ [])).all (· ≤ reachBytes) = true := hsz
  rw [Tryd.params5, List.append_nil, List.append_nil] at hsz1
  have hrd := rdg_all _ _ _ _ hA1 (fun n hn => by simpa using List.all_eq_true.1 hsz1 n hn)
  obtain ⟨v0, vs0, d0, ds0, p0, q0, hargs, rfl, rfl, h0, r0⟩ := trodAll_cons hA
  obtain ⟨v1, vs1, d1, ds1, p1, q1, rfl, rfl, rfl, h1, r1⟩ := trodAll_cons r0
  obtain ⟨rfl, rfl, rfl⟩ := trodAll_nil r1
  obtain rfl : args = #[v0, v1] := by cases args; simp_all
  have g0 := hrd 0 25 v0 rfl rfl
  obtain ⟨cs0, rfl, hz0⟩ := ok_agg (by first | exact .inl ⟨_, Tryd.underlying25⟩ | exact .inr ⟨_, _, Tryd.underlying25⟩) (hval 0 25 v0 rfl rfl)
  have g1 := hrd 1 25 v1 rfl rfl
  obtain ⟨cs1, rfl, hz1⟩ := ok_agg (by first | exact .inl ⟨_, Tryd.underlying25⟩ | exact .inr ⟨_, _, Tryd.underlying25⟩) (hval 1 25 v1 rfl rfl)
  obtain ⟨T, hT, HT⟩ := val_of hz0 g0
  obtain ⟨U, hU, HU⟩ := val_of hz1 g1
  unfold valV at hT hU
  injection hT with hT
  injection hU with hU
  subst hT
  subst hU
  refine (walk T U _ W HT HU (tab_of hL)).mono fun e W' ⟨he, bel⟩ => ?_
  subst he
  exact ⟨_, rfl, _, _, _, [], _, [], hW', trodAll_mk1 (shut_bool Tryd.underlying4 _), trodAll_below laidOut bel [25, 25] _ _ _ (by kernel_rfl) hA1 hlt, rfl, bel.frame _, fun h => by cases h⟩
theorem over : Rows.ValuePartsSaid :=
  OpenClaim.holds_of_wide 5 Tryd.f5 rfl rfl rfl rfl rfl rfl rfl ⟨rfl, rfl, rfl, rfl, rfl⟩ rfl rfl rfl rfl rfl (by kernel_rfl) Tryd.func5 (by kernel_rfl)
    (of_decide_eq_true (by kernel_rfl)) (by unfold Func.isWrapper; first | (rw [if_pos (by decide +kernel)]; kernel_rfl) | (rw [if_neg (by decide +kernel)]; exact ⟨rfl, rfl⟩))
    (fun os started H enc _ => lifted os started H enc)
theorem proved : Rows.ValuePartsCardSaid :=
  Claim7.holds_tied_plain_at .later [] [.data, .data, .data] true (true, "5e6ae0d194632d9e128bcbe1ef7e6cfb1fdef7f21d416b23296765c354abf95a") false
    over (fun _ h => by cases h) (by kernel_rfl) (fun _ h => by cases h) valueParts_row_tie rfl ⟨rfl, rfl⟩ (by kernel_rfl) rfl
    (fun f fn hf hfn => by
      obtain rfl : f = 5 := Option.some.inj ((show Tryd.prog.funcNamed Rows.valuePartsRow.func = some 5 by kernel_rfl).symm.trans hf) |>.symm
      obtain rfl : fn = Tryd.f5 := (Option.some.inj (Tryd.func5.symm.trans hfn)).symm
      exact ⟨by kernel_rfl, fun j t ht => by
        rw [Tryd.params5] at ht
        have hm : t ∈ [25, 25] := by simpa using Array.mem_of_getElem? ht
        have hall : ([25, 25].all fun u => !Tryd.prog.wantsStandIn u) = true := by kernel_rfl
        exact (show Tryd.prog.wantsStandIn t = false by simpa using List.all_eq_true.1 hall t hm)⟩)
    (by kernel_rfl)
#print axioms proved
end Go.Proofs.YtpclpghmahlieaaDoor.valueParts
