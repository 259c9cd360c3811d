import Derived.Test.YtpclpghmahlieaaDoorRdg
import Derived.Test.YtpclpghmahlieaaDoorTie
import Derived.Test.YtpclpghmahlieaaDoorCards
import Derived.SevenTiedAt
import Derived.LaidMore
import Derived.Lay
import Derived.Stop.Joined
import Derived.Test.YtpclpghmahlieaaDoorValLaid
import Derived.Test.YtpclpghmahlieaaDoorValCSame
import Derived.Test.YtpclpghmahlieaaDoorValSame
import Derived.Test.YtpclpghmahlieaaDoorValOne
import Derived.Test.YtpclpghmahlieaaDoorValRAll
import Derived.Test.YtpclpghmahlieaaDoorValRAtAny
namespace Go.Proofs.YtpclpghmahlieaaDoor.valueTells
open Go.ChangeShapes Go.WideShapes Go.ChangeAt Go.RowKit
open Go.ChangeMaps (open_string shut_string)
set_option linter.unusedVariables false

theorem same_end {T U : VT} {L : Nat → Int} {n : Nat} {b : Bool} (h : (∃ V, walkT T L n = some V ∧ b = true ∧ sameT V U = true) ∨ (walkT T L n = none ∧ b = false ∧ U = .nil)) : sameT U ((walkT T L n).getD .nil) = true ∧ (walkT T L n).isSome = b := by
  rcases h with ⟨V, h1, rfl, h2⟩ | ⟨h1, rfl, rfl⟩
  · rw [h1]; exact ⟨sameT_symm _ _ h2, rfl⟩
  · rw [h1]; exact ⟨sameT_refl _, rfl⟩
theorem val_end {w : World} {S : Nat → Prop} {T : VT} {L : Nat → Int} {n : Nat} (H : ValAt w S T) : ValAt w S ((walkT T L n).getD .nil) := by
  cases h : walkT T L n with
  | none => exact trivial
  | some V => exact walk_at H h
set_option maxHeartbeats 8000000 in
set_option maxRecDepth 20000 in
theorem walk (T : VT) (ao : Option Addr) (n cap : Nat) (L : Nat → Int) (S : Nat → Prop) (w : World) (hn : n ≤ cap) (hcap : cap ≤ 140737488351232) (H : ValAt w S T) (HL : IntsAt w ao n L) (htab : Tab w) : Calls Tryd.prog 3 #[.agg #[.int .i64 T.kind, .int .u64 T.num, .string T.text, .slice T.ia T.len T.cap], .slice ao n cap] w fun e w' => e = .returned (.bool true) ∧ Below w.heap.size w w' := by
  have HW := Lib.hid (fun wx (hb : Below w.heap.size w wx) => awake8_any wx (htab.next hb))
  have HMT := Lib.hid (fun wx (hb : Below w.heap.size w wx) => refMuch_any S T 0 wx (H.next hb) (by omega))
  have HQ1 := Lib.hid (alloc_at w (valO T))
  have HB := Lib.hid ((Below.refl w.heap.size w).alloc (Nat.le_refl _) (valO T))
  unfold RMuchTo at HMT
  rw [show ((0 : Nat) : Int) = 0 from rfl] at HMT
  unfold valO at HB HQ1
  cases hm : muchT T 0 with
  | true =>
    rw [hm] at HMT
    clear hm H HL htab
    go_enter Tryd.func3, Tryd.ntmps3
    go_wp2_with (first
      | (go_at_call 6; refine (HMT.out _ HB.out).mono ?_; rintro e w1 ⟨rfl, hb1⟩; have HB1 := Lib.hid (below_step8' HB.out hb1); clear hb1)
      | (go_at_call 7; refine (HW.out _ HB1.out).mono ?_; rintro e w2 ⟨rfl, hb2⟩))
    go_ret
    exact ⟨rfl, below_step8' HB1.out hb2⟩
  | false =>
    have hg := (much_no hm).2.2.2.2.2
    have hd := much_deep T 0 hm
    rw [hm] at HMT
    have HA := Lib.hid (fun wx (hb : Below w.heap.size w wx) => at8_any S T ao n cap L wx (by omega) (H.next hb) (HL.next hb))
    have HR := Lib.hid (fun wx (hb : Below w.heap.size w wx) => refAt_any S n T ao cap L wx hn hcap (H.next hb) (HL.next hb))
    have HD1 := Lib.hid (fun wx (hb : Below w.heap.size w wx) => deep8_any S T wx (H.next hb) (by omega))
    have HD2 := Lib.hid (fun wx (hb : Below w.heap.size w wx) => refDeep8_any S T wx (H.next hb) (by omega))
    have HG1 := Lib.hid (fun wx (hb : Below w.heap.size w wx) => great8_any S T wx (H.next hb) (by omega))
    have HG2 := Lib.hid (fun wx (hb : Below w.heap.size w wx) => refGreat8_any S T wx (H.next hb) (by omega))
    have HT1 := Lib.hid (fun wx (hb : Below w.heap.size w wx) => text8_any S T wx (H.next hb) (by omega) (htab.next hb))
    have HT2 := Lib.hid (fun wx (hb : Below w.heap.size w wx) => refText8_any S T wx (H.next hb) (by omega))
    obtain ⟨Y, hY⟩ : ∃ Y, (walkT T L n).getD .nil = Y := ⟨_, rfl⟩
    obtain ⟨r, hr⟩ : ∃ r, (walkT T L n).isSome = r := ⟨_, rfl⟩
    have HVY := Lib.hid (show ValAt w S Y by rw [← hY]; exact val_end H)
    have HSE := Lib.hid (fun (U : VT) (b : Bool) (h : (∃ V, walkT T L n = some V ∧ b = true ∧ sameT V U = true) ∨ (walkT T L n = none ∧ b = false ∧ U = .nil)) => show sameT U Y = true ∧ r = b by rw [← hY, ← hr]; exact same_end h)
    unfold RAtTo at HR
    rw [hY, hr] at HR
    unfold CDeepTo at HD1
    unfold RDeepTo at HD2
    unfold CGreatTo at HG1
    unfold RGreatTo at HG2
    unfold CTextTo at HT1
    unfold RTextTo at HT2
    unfold bs at HT2
    obtain ⟨st, hst⟩ : ∃ st, (⟨(textT T).toArray⟩ : ByteArray) = st := ⟨_, rfl⟩
    obtain ⟨dd, hdd⟩ : ∃ d, deepT T = d := ⟨_, rfl⟩
    obtain ⟨gg, hgg⟩ : ∃ g, greatT T = g := ⟨_, rfl⟩
    rw [hst] at HT1 HT2
    rw [hdd] at HD1 HD2
    rw [hgg] at HG1 HG2
    clear hm H HL htab hg hd hY hr hst hdd hgg hn hcap
    go_enter Tryd.func3, Tryd.ntmps3
    go_upto_region 5 with (first
      | (go_at_call 6; refine (HMT.out _ HB.out).mono ?_; rintro e w1 ⟨rfl, hb1⟩; have HB1 := Lib.hid (below_step8' HB.out hb1); have HX1 := Lib.hid (box_keep HQ1.out hb1); have d0 : w1.cell? ⟨w.heap.size, 0, none⟩ = some (.int .i64 T.kind) := cell_at HX1.out rfl; have d1 : w1.cell? ⟨w.heap.size, 1, none⟩ = some (.int .u64 T.num) := cell_at HX1.out rfl; have d2 : w1.cell? ⟨w.heap.size, 2, none⟩ = some (.string T.text) := cell_at HX1.out rfl; have d3 : w1.cell? ⟨w.heap.size, 3, none⟩ = some (.slice T.ia T.len T.cap) := cell_at HX1.out rfl; clear hb1)
      | (go_at_call 8; refine (HA.out _ HB1.out).mono ?_; rintro e w2 ⟨X, bb, rfl, hor, hvx, hb2⟩; have HSX := Lib.hid (HSE.out X bb hor).1; have hrb := (HSE.out X bb hor).2; subst hrb; have HVX := Lib.hid hvx; have HB2 := Lib.hid (below_step8' HB1.out hb2); have HX2 := Lib.hid (box_keep HX1.out hb2); have e0 : w2.cell? ⟨w.heap.size, 0, none⟩ = some (.int .i64 T.kind) := cell_at HX2.out rfl; have e1 : w2.cell? ⟨w.heap.size, 1, none⟩ = some (.int .u64 T.num) := cell_at HX2.out rfl; have e2 : w2.cell? ⟨w.heap.size, 2, none⟩ = some (.string T.text) := cell_at HX2.out rfl; have e3 : w2.cell? ⟨w.heap.size, 3, none⟩ = some (.slice T.ia T.len T.cap) := cell_at HX2.out rfl; have hl2 := lt_of_block HX2.out; have hn2 : ¬ w.heap.size = w2.heap.size := (by omega); clear hor hvx hb2 d0 d1 d2 d3)
      | (go_at_call 9; refine (HR.out _ (below_step8' HB2.out ((Below.refl w2.heap.size w2).alloc (Nat.le_refl _) (.cells #[.int .i64 X.kind, .int .u64 X.num, .string X.text, .slice X.ia X.len X.cap] 25)))).mono ?_; rintro e w3 ⟨rfl, hb3⟩; have HB3 := Lib.hid (below_step8' (below_step8' HB2.out ((Below.refl w2.heap.size w2).alloc (Nat.le_refl _) (.cells #[.int .i64 X.kind, .int .u64 X.num, .string X.text, .slice X.ia X.len X.cap] 25))) hb3); have HX3 := Lib.hid (box_keep (box_keep HX2.out ((Below.refl w2.heap.size w2).alloc (Nat.le_refl _) (.cells #[.int .i64 X.kind, .int .u64 X.num, .string X.text, .slice X.ia X.len X.cap] 25))) hb3); have HP3 := Lib.hid (box_keep (alloc_at w2 (.cells #[.int .i64 X.kind, .int .u64 X.num, .string X.text, .slice X.ia X.len X.cap] 25)) hb3); have HVX3 := Lib.hid ((HVX.out.next ((Below.refl w2.heap.size w2).alloc (Nat.le_refl _) (.cells #[.int .i64 X.kind, .int .u64 X.num, .string X.text, .slice X.ia X.len X.cap] 25))).next hb3); clear hb3 e0 e1 e2 e3 hn2))
    have hb4 := (Below.refl w3.heap.size w3).alloc (Nat.le_refl _) (.cells #[.int .i64 Y.kind, .int .u64 Y.num, .string Y.text, .slice Y.ia Y.len Y.cap] 25)
    have HY4 := Lib.hid (alloc_at w3 (.cells #[.int .i64 Y.kind, .int .u64 Y.num, .string Y.text, .slice Y.ia Y.len Y.cap] 25))
    have HX4 := Lib.hid (box_keep HX3.out hb4)
    have HP4 := Lib.hid (box_keep HP3.out hb4)
    have HB4 := Lib.hid (below_step8' HB3.out hb4)
    have HVX4 := Lib.hid (HVX3.out.next hb4)
    obtain ⟨bx, hbx⟩ : ∃ bx, w2.heap.size = bx := ⟨_, rfl⟩
    obtain ⟨bY, hby⟩ : ∃ bY, w3.heap.size = bY := ⟨_, rfl⟩
    rw [hbx] at HP4 ⊢
    rw [hby] at HY4 ⊢
    clear hb4 HB2 HB3 HX2 HX3 HP3 HVX HVX3 HB1 HX1 HQ1 HMT HA HR hl2 hbx hby
    generalize (w3.alloc (.cells #[.int .i64 Y.kind, .int .u64 Y.num, .string Y.text, .slice Y.ia Y.len Y.cap] 25)) = wX at *
    have hB4 := HB4.out
    have HS1 := Lib.hid (fun wy (hb : Below wX.heap.size wX wy) => refSame_any _ S X Y wy (HVX4.out.next hb) ((HVY.out.next hB4).next hb))
    unfold RSameTo at HS1
    rw [HSX.out] at HS1
    have HD1x := Lib.hid (fun wy (hb : Below wX.heap.size wX wy) => HD1.out wy (below_step8' hB4 hb))
    have HD2x := Lib.hid (fun wy (hb : Below wX.heap.size wX wy) => HD2.out wy (below_step8' hB4 hb))
    have HG1x := Lib.hid (fun wy (hb : Below wX.heap.size wX wy) => HG1.out wy (below_step8' hB4 hb))
    have HG2x := Lib.hid (fun wy (hb : Below wX.heap.size wX wy) => HG2.out wy (below_step8' hB4 hb))
    have HT1x := Lib.hid (fun wy (hb : Below wX.heap.size wX wy) => HT1.out wy (below_step8' hB4 hb))
    have HT2x := Lib.hid (fun wy (hb : Below wX.heap.size wX wy) => HT2.out wy (below_step8' hB4 hb))
    have HWx := Lib.hid (fun wy (hb : Below wX.heap.size wX wy) => HW.out wy (below_step8' hB4 hb))
    have c0 : wX.cell? ⟨w.heap.size, 0, none⟩ = some (.int .i64 T.kind) := cell_at HX4.out rfl
    have c1 : wX.cell? ⟨w.heap.size, 1, none⟩ = some (.int .u64 T.num) := cell_at HX4.out rfl
    have c2 : wX.cell? ⟨w.heap.size, 2, none⟩ = some (.string T.text) := cell_at HX4.out rfl
    have c3 : wX.cell? ⟨w.heap.size, 3, none⟩ = some (.slice T.ia T.len T.cap) := cell_at HX4.out rfl
    have c4 : wX.cell? ⟨bx, 0, none⟩ = some (.int .i64 X.kind) := cell_at HP4.out rfl
    have c5 : wX.cell? ⟨bx, 1, none⟩ = some (.int .u64 X.num) := cell_at HP4.out rfl
    have c6 : wX.cell? ⟨bx, 2, none⟩ = some (.string X.text) := cell_at HP4.out rfl
    have c7 : wX.cell? ⟨bx, 3, none⟩ = some (.slice X.ia X.len X.cap) := cell_at HP4.out rfl
    have c8 : wX.cell? ⟨bY, 0, none⟩ = some (.int .i64 Y.kind) := cell_at HY4.out rfl
    have c9 : wX.cell? ⟨bY, 1, none⟩ = some (.int .u64 Y.num) := cell_at HY4.out rfl
    have c10 : wX.cell? ⟨bY, 2, none⟩ = some (.string Y.text) := cell_at HY4.out rfl
    have c11 : wX.cell? ⟨bY, 3, none⟩ = some (.slice Y.ia Y.len Y.cap) := cell_at HY4.out rfl
    have HB := Lib.hid (Below.refl wX.heap.size wX)
    clear hB4 HX4 HP4 HY4 HVX4 HVY HSX HSE HD1 HD2 HG1 HG2 HT1 HT2 HW
    cases r
    all_goals
      go_region_held3 (fun w' => w'.cell? ⟨w.heap.size, 0, none⟩ = some (.int .i64 T.kind) ∧ w'.cell? ⟨w.heap.size, 1, none⟩ = some (.int .u64 T.num) ∧ w'.cell? ⟨w.heap.size, 2, none⟩ = some (.string T.text) ∧ w'.cell? ⟨w.heap.size, 3, none⟩ = some (.slice T.ia T.len T.cap) ∧ w'.cell? ⟨bx, 0, none⟩ = some (.int .i64 X.kind) ∧ w'.cell? ⟨bx, 1, none⟩ = some (.int .u64 X.num) ∧ w'.cell? ⟨bx, 2, none⟩ = some (.string X.text) ∧ w'.cell? ⟨bx, 3, none⟩ = some (.slice X.ia X.len X.cap) ∧ w'.cell? ⟨bY, 0, none⟩ = some (.int .i64 Y.kind) ∧ w'.cell? ⟨bY, 1, none⟩ = some (.int .u64 Y.num) ∧ w'.cell? ⟨bY, 2, none⟩ = some (.string Y.text) ∧ w'.cell? ⟨bY, 3, none⟩ = some (.slice Y.ia Y.len Y.cap) ∧ Hid (Below wX.heap.size wX w'))
        (first | exact ⟨c0, c1, c2, c3, c4, c5, c6, c7, c8, c9, c10, c11, Lib.hid HB.out.drew⟩ | exact ⟨c0, c1, c2, c3, c4, c5, c6, c7, c8, c9, c10, c11, HB⟩ | fail)
        (first
          | (go_at_call 10; refine (HD1x.out _ (by first | exact HB.out | exact HB.out.drew)).mono ?_; rintro e w9 ⟨rfl, hb9⟩; have HB := Lib.hid (below_step8' (by first | exact HB.out | exact HB.out.drew) hb9); have c0 := keep hb9 (by exact c0); have c1 := keep hb9 (by exact c1); have c2 := keep hb9 (by exact c2); have c3 := keep hb9 (by exact c3); have c4 := keep hb9 (by exact c4); have c5 := keep hb9 (by exact c5); have c6 := keep hb9 (by exact c6); have c7 := keep hb9 (by exact c7); have c8 := keep hb9 (by exact c8); have c9 := keep hb9 (by exact c9); have c10 := keep hb9 (by exact c10); have c11 := keep hb9 (by exact c11); clear hb9)
          | (go_at_call 11; refine (HD2x.out _ (by first | exact HB.out | exact HB.out.drew)).mono ?_; rintro e w9 ⟨rfl, hb9⟩; have HB := Lib.hid (below_step8' (by first | exact HB.out | exact HB.out.drew) hb9); have c0 := keep hb9 (by exact c0); have c1 := keep hb9 (by exact c1); have c2 := keep hb9 (by exact c2); have c3 := keep hb9 (by exact c3); have c4 := keep hb9 (by exact c4); have c5 := keep hb9 (by exact c5); have c6 := keep hb9 (by exact c6); have c7 := keep hb9 (by exact c7); have c8 := keep hb9 (by exact c8); have c9 := keep hb9 (by exact c9); have c10 := keep hb9 (by exact c10); have c11 := keep hb9 (by exact c11); clear hb9)
          | (go_at_call 12; refine (HG1x.out _ (by first | exact HB.out | exact HB.out.drew)).mono ?_; rintro e w9 ⟨rfl, hb9⟩; have HB := Lib.hid (below_step8' (by first | exact HB.out | exact HB.out.drew) hb9); have c0 := keep hb9 (by exact c0); have c1 := keep hb9 (by exact c1); have c2 := keep hb9 (by exact c2); have c3 := keep hb9 (by exact c3); have c4 := keep hb9 (by exact c4); have c5 := keep hb9 (by exact c5); have c6 := keep hb9 (by exact c6); have c7 := keep hb9 (by exact c7); have c8 := keep hb9 (by exact c8); have c9 := keep hb9 (by exact c9); have c10 := keep hb9 (by exact c10); have c11 := keep hb9 (by exact c11); clear hb9)
          | (go_at_call 13; refine (HG2x.out _ (by first | exact HB.out | exact HB.out.drew)).mono ?_; rintro e w9 ⟨rfl, hb9⟩; have HB := Lib.hid (below_step8' (by first | exact HB.out | exact HB.out.drew) hb9); have c0 := keep hb9 (by exact c0); have c1 := keep hb9 (by exact c1); have c2 := keep hb9 (by exact c2); have c3 := keep hb9 (by exact c3); have c4 := keep hb9 (by exact c4); have c5 := keep hb9 (by exact c5); have c6 := keep hb9 (by exact c6); have c7 := keep hb9 (by exact c7); have c8 := keep hb9 (by exact c8); have c9 := keep hb9 (by exact c9); have c10 := keep hb9 (by exact c10); have c11 := keep hb9 (by exact c11); clear hb9)
          | (go_at_call 14; refine (HT1x.out _ (by first | exact HB.out | exact HB.out.drew)).mono ?_; rintro e w9 ⟨rfl, hb9⟩; have HB := Lib.hid (below_step8' (by first | exact HB.out | exact HB.out.drew) hb9); have c0 := keep hb9 (by exact c0); have c1 := keep hb9 (by exact c1); have c2 := keep hb9 (by exact c2); have c3 := keep hb9 (by exact c3); have c4 := keep hb9 (by exact c4); have c5 := keep hb9 (by exact c5); have c6 := keep hb9 (by exact c6); have c7 := keep hb9 (by exact c7); have c8 := keep hb9 (by exact c8); have c9 := keep hb9 (by exact c9); have c10 := keep hb9 (by exact c10); have c11 := keep hb9 (by exact c11); clear hb9)
          | (go_at_call 15; refine (HT2x.out _ (by first | exact HB.out | exact HB.out.drew)).mono ?_; rintro e w9 ⟨rfl, hb9⟩; have HB := Lib.hid (below_step8' (by first | exact HB.out | exact HB.out.drew) hb9); have c0 := keep hb9 (by exact c0); have c1 := keep hb9 (by exact c1); have c2 := keep hb9 (by exact c2); have c3 := keep hb9 (by exact c3); have c4 := keep hb9 (by exact c4); have c5 := keep hb9 (by exact c5); have c6 := keep hb9 (by exact c6); have c7 := keep hb9 (by exact c7); have c8 := keep hb9 (by exact c8); have c9 := keep hb9 (by exact c9); have c10 := keep hb9 (by exact c10); have c11 := keep hb9 (by exact c11); clear hb9)
          | (go_at_call 16; refine (HS1.out _ (by first | exact HB.out | exact HB.out.drew)).mono ?_; rintro e w9 ⟨rfl, hb9⟩; have HB := Lib.hid (below_step8' (by first | exact HB.out | exact HB.out.drew) hb9); have c0 := keep hb9 (by exact c0); have c1 := keep hb9 (by exact c1); have c2 := keep hb9 (by exact c2); have c3 := keep hb9 (by exact c3); have c4 := keep hb9 (by exact c4); have c5 := keep hb9 (by exact c5); have c6 := keep hb9 (by exact c6); have c7 := keep hb9 (by exact c7); have c8 := keep hb9 (by exact c8); have c9 := keep hb9 (by exact c9); have c10 := keep hb9 (by exact c10); have c11 := keep hb9 (by exact c11); clear hb9)
          | (go_at_call 7; refine (HWx.out _ (by first | exact HB.out | exact HB.out.drew)).mono ?_; rintro e w9 ⟨rfl, hb9⟩; have HB := Lib.hid (below_step8' (by first | exact HB.out | exact HB.out.drew) hb9); have c0 := keep hb9 (by exact c0); have c1 := keep hb9 (by exact c1); have c2 := keep hb9 (by exact c2); have c3 := keep hb9 (by exact c3); have c4 := keep hb9 (by exact c4); have c5 := keep hb9 (by exact c5); have c6 := keep hb9 (by exact c6); have c7 := keep hb9 (by exact c7); have c8 := keep hb9 (by exact c8); have c9 := keep hb9 (by exact c9); have c10 := keep hb9 (by exact c10); have c11 := keep hb9 (by exact c11); clear hb9))
      go_wp2
      go_ret
      exact ⟨rfl, below_step8' HB4.out HB.out⟩
set_option maxRecDepth 100000 in
theorem lifted (os : Os) (started : os.Started) (H : Type) (enc : TypeId × Value → H) :
    ReturnsInHanded {} Tryd.checked os 3 .any (fun w args => (Rows.valueTellsSpec.pre enc Tryd.prog Tryd.f3 Rows.valueTellsRow.domain false w args ∧ laidMetH Tryd.prog Rows.valueTellsRow.laid w) ∧ sizedMet enc Tryd.prog Tryd.f3 (OpenSpec.ofChange Rows.valueTellsSpec) false w args)
      (Rows.valueTellsSpec.post enc Tryd.prog Tryd.f3 false true false false) := by
  refine returnsInHanded_of_change_and (C := Tryd.checked) (X := fun w _ => laidMetH Tryd.prog Rows.valueTellsRow.laid w) (fun _ _ _ hh h => h.of_heap hh) own started (by kernel_rfl) Tryd.func3
    (ChangeSpec.witness_shaped (enc := enc) (C := Tryd.checked) (os := os) (X := fun w _ => laidMetH Tryd.prog Rows.valueTellsRow.laid w) false (World.laidAll Tryd.prog os Rows.valueTellsRow.laid) #[.agg #[.int .i64 0, .int .u64 0, .string ⟨#[]⟩, .slice none 0 0], .slice none 0 0] 8 (World.laidAll_os _ _ _)
      (World.shaped_of_ZipB (by kernel_rfl) (by kernel_rfl)) (by kernel_rfl) (by kernel_rfl) (by kernel_rfl)
      (by rw [MakeChecks.laidMetH_plain _ _ _ (by kernel_rfl)]; exact laidMet_laidAll _ (by kernel_rfl) (by kernel_rfl))) ?_
  intro W base args ds gs before hval0 hW hcnd hsz hL _
  have hval : ∀ (j : Nat) t v, Tryd.f3.params[j]? = some t → args[j]? = some v → Value.okWide Tryd.prog W .any base t v := hval0
  have hW' := hW
  obtain ⟨p, q, hA0, hV, rfl, hfz, hnd⟩ := hW
  have hA : DataW.TrodAll enc Tryd.prog W 0 (fun _ => true) true Tryd.f3.params.toList args.toList ds p := hA0
  rw [Tryd.params3] at hA hval
  obtain ⟨rfl, rfl⟩ := trodVars_none hV
  clear hA0 hval0
  simp only [List.append_nil] at hW'
  have hlt := hW'.lt
  have hA1 := hA
  have hsz1 : (DataW.weightsEach Tryd.prog (Tryd.f3.params.toList ++ []) (ds ++ [])).all (· ≤ reachBytes) = true := hsz
  rw [Tryd.params3, List.append_nil, List.append_nil] at hsz1
  have hrd := rdg_all _ _ _ _ hA1 (fun n hn => by simpa using List.all_eq_true.1 hsz1 n hn)
  obtain ⟨v0, vs0, d0, ds0, p0, q0, hargs, rfl, rfl, h0, r0⟩ := trodAll_cons hA
  obtain ⟨v1, vs1, d1, ds1, p1, q1, rfl, rfl, rfl, h1, r1⟩ := trodAll_cons r0
  obtain ⟨rfl, rfl, rfl⟩ := trodAll_nil r1
  obtain rfl : args = #[v0, v1] := by cases args; simp_all
  have g0 := hrd 0 25 v0 rfl rfl
  obtain ⟨cs0, rfl, hz0⟩ := ok_agg (by first | exact .inl ⟨_, Tryd.underlying25⟩ | exact .inr ⟨_, _, Tryd.underlying25⟩) (hval 0 25 v0 rfl rfl)
  obtain ⟨T, hT, HT⟩ := val_of hz0 g0
  unfold valV at hT
  injection hT with hT
  subst hT
  obtain ⟨ao, n, cap, L, rfl, hn, hcap, HL⟩ := ints_of (rop_slice 1 Tryd.underlying26 (by kernel_rfl) (hval 1 26 v1 rfl rfl) (hrd 1 26 v1 rfl rfl))
  refine (walk T ao n cap L _ W hn hcap HT HL (tab_of hL)).mono fun e W' ⟨he, bel⟩ => ?_
  subst he
  exact ⟨_, rfl, _, _, _, [], _, [], hW', trodAll_mk1 (shut_bool Tryd.underlying4 _), trodAll_below laidOut bel [25, 26] _ _ _ (by kernel_rfl) hA1 hlt, rfl, bel.frame _, fun h => by cases h⟩
theorem over : Rows.ValueTellsSaid :=
  OpenClaim.holds_of_wide 3 Tryd.f3 rfl rfl rfl rfl rfl rfl rfl ⟨rfl, rfl, rfl, rfl, rfl⟩ rfl rfl rfl rfl rfl (by kernel_rfl) Tryd.func3 (by kernel_rfl)
    (of_decide_eq_true (by kernel_rfl)) (by unfold Func.isWrapper; first | (rw [if_pos (by decide +kernel)]; kernel_rfl) | (rw [if_neg (by decide +kernel)]; exact ⟨rfl, rfl⟩))
    (fun os started H enc _ => lifted os started H enc)
theorem proved : Rows.ValueTellsCardSaid :=
  Claim7.holds_tied_plain_at .later [] [.data, .data, .data] true (true, "5e6ae0d194632d9e128bcbe1ef7e6cfb1fdef7f21d416b23296765c354abf95a") false
    over (fun _ h => by cases h) (by kernel_rfl) (fun _ h => by cases h) valueTells_row_tie rfl ⟨rfl, rfl⟩ (by kernel_rfl) rfl
    (fun f fn hf hfn => by
      obtain rfl : f = 3 := Option.some.inj ((show Tryd.prog.funcNamed Rows.valueTellsRow.func = some 3 by kernel_rfl).symm.trans hf) |>.symm
      obtain rfl : fn = Tryd.f3 := (Option.some.inj (Tryd.func3.symm.trans hfn)).symm
      exact ⟨by kernel_rfl, fun j t ht => by
        rw [Tryd.params3] at ht
        have hm : t ∈ [25, 26] := by simpa using Array.mem_of_getElem? ht
        have hall : ([25, 26].all fun u => !Tryd.prog.wantsStandIn u) = true := by kernel_rfl
        exact (show Tryd.prog.wantsStandIn t = false by simpa using List.all_eq_true.1 hall t hm)⟩)
    (by kernel_rfl)
#print axioms proved
end Go.Proofs.YtpclpghmahlieaaDoor.valueTells
