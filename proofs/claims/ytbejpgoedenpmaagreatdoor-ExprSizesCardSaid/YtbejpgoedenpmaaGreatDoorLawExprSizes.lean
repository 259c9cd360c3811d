/- ExprSizes: for every tree the law returns true, and its argument reads as before. No condition. -/
import Derived.Test.YtbejpgoedenpmaaGreatDoorRdgSlice
import Derived.Test.YtbejpgoedenpmaaGreatDoorTie
import Derived.Test.YtbejpgoedenpmaaGreatDoorCards
import Derived.SevenTiedAt
import Derived.LaidMore
import Derived.Lay
import Derived.Stop.Joined
import Derived.Test.YtbejpgoedenpmaaGreatDoorExprShape
import Derived.Test.YtbejpgoedenpmaaGreatDoorExprRead
import Derived.Test.YtbejpgoedenpmaaGreatDoorExprAwake
import Derived.Test.YtbejpgoedenpmaaGreatDoorRegionDeep
namespace Go.Proofs.YtbejpgoedenpmaaGreatDoor.exprSizes
open Go.ChangeShapes Go.WideShapes Go.ChangeAt Go.RowKit
open Go.ChangeMaps (open_string shut_string)
set_option linter.unusedVariables false
theorem fr_eq15 {a b : List Value} (h : a = b) : (⟨a.toArray, []⟩ : Act) = ⟨b.toArray, []⟩ := by rw [h]
set_option maxHeartbeats 8000000 in
set_option maxRecDepth 20000 in
theorem walk (T : XT) (S : Nat → Prop) (w : World) (H : XAt w S T) (HX : XTx T) (hV : LibAt w) : Calls Tryz.prog 4 #[.agg #[.int .i64 T.op, .int .i64 T.rel, .slice T.aa T.an T.ac, .slice T.ka T.kn T.kc]] w fun e w' => e = .returned (.bool true) ∧ Below w.heap.size w w' := by
  have HG := Lib.hid (fun wx (hb : Below w.heap.size w wx) => great_any S T 0 wx (H.next hb) HX (by omega))
  have HAW := Lib.hid (fun wx (hb : Below w.heap.size w wx) => awake_any wx (hV.held hb))
  have HB0 := Lib.hid ((Below.refl w.heap.size w).alloc (Nat.le_refl _) (.cells #[.int .i64 T.op, .int .i64 T.rel, .slice T.aa T.an T.ac, .slice T.ka T.kn T.kc] 25))
  have HQ := Lib.hid (alloc_at w (.cells #[.int .i64 T.op, .int .i64 T.rel, .slice T.aa T.an T.ac, .slice T.ka T.kn T.kc] 25))
  unfold RGreatTo at HG
  rw [show ((0 : Nat) : Int) = 0 from rfl] at HG
  cases hq : greatX T 0 with
  | true =>
    rw [hq] at HG
    clear H HX hV hq
    go_enter Tryz.func4, Tryz.ntmps4
    go_upto_region 1 with (fail)
    generalize w.alloc (.cells #[.int .i64 T.op, .int .i64 T.rel, .slice T.aa T.an T.ac, .slice T.ka T.kn T.kc] 25) = W0 at *
    refine wp_region_ext (by kernel_rfl) 20 (fun v => ((.agg #[.int .i64 T.op, .int .i64 T.rel, .slice T.aa T.an T.ac, .slice T.ka T.kn T.kc] : Value) :: (.pointer (some ⟨w.heap.size, 0, none⟩) : Value) :: (v 19 : Value) :: (v 0 : Value) :: (v 1 : Value) :: (v 2 : Value) :: (v 3 : Value) :: (v 4 : Value) :: (v 5 : Value) :: (v 6 : Value) :: (v 7 : Value) :: (v 8 : Value) :: (v 9 : Value) :: (v 10 : Value) :: (v 11 : Value) :: (v 12 : Value) :: (v 13 : Value) :: (v 14 : Value) :: (v 15 : Value) :: (v 16 : Value) :: (v 17 : Value) :: (v 18 : Value) :: []).toArray) (fun k => if k = 19 then .bool false else undef) (fun _ => none) (fun j => [.agg #[.int .i64 T.op, .int .i64 T.rel, .slice T.aa T.an T.ac, .slice T.ka T.kn T.kc], .bool true, .bool true, undef, undef, undef, undef, undef, undef, undef, undef, undef, undef, undef, undef, .bool true, .bool true, .bool true, .bool true, .bool true].getD j undef) (fun w' => Below W0.heap.size W0 w')
      (Nat.le_of_ble_eq_true (by kernel_rfl)) (by kernel_rfl) (fun _ _ h hb => bth h hb) (Below.refl _ _) (fun j hj v w1 hBx hsz hd => ?_) (fun v w1 hv hdist hBx hb => ?_)
    · have b1 := rowKeep hBx HQ.out
      have y0 : w1.cell? ⟨w.heap.size, 0, none⟩ = some (.int .i64 T.op) := cell_at b1 rfl
      have y1 : w1.cell? ⟨w.heap.size, 1, none⟩ = some (.int .i64 T.rel) := cell_at b1 rfl
      have y2 : w1.cell? ⟨w.heap.size, 2, none⟩ = some (.slice T.aa T.an T.ac) := cell_at b1 rfl
      have y3 : w1.cell? ⟨w.heap.size, 3, none⟩ = some (.slice T.ka T.kn T.kc) := cell_at b1 rfl
      clear b1
      have hBw := bth HB0.out hBx
      have hjN : j = 0 ∨ j = 1 ∨ j = 2 ∨ j = 3 ∨ j = 4 ∨ j = 5 ∨ j = 6 ∨ j = 7 ∨ j = 8 ∨ j = 9 ∨ j = 10 ∨ j = 11 ∨ j = 12 ∨ j = 13 ∨ j = 14 ∨ j = 15 ∨ j = 16 ∨ j = 17 ∨ j = 18 ∨ j = 19 := by omega
      rcases hjN with rfl | rfl | rfl | rfl | rfl | rfl | rfl | rfl | rfl | rfl | rfl | rfl | rfl | rfl | rfl | rfl | rfl | rfl | rfl | rfl
      · skip
        refine wpOp_step (o := _) rfl (fun K' hK => ?_)
        go_simp
        exact hK _ _ ⟨.agg #[.int .i64 T.op, .int .i64 T.rel, .slice T.aa T.an T.ac, .slice T.ka T.kn T.kc], rfl, Below.refl _ _, (fun _ => rfl), fun o h => by cases h⟩
      · have e0 : v 0 = .agg #[.int .i64 T.op, .int .i64 T.rel, .slice T.aa T.an T.ac, .slice T.ka T.kn T.kc] := hd 0 (List.contains_iff_mem.1 (by kernel_rfl))
        refine wpOp_step (o := _) rfl (fun K' hK => ?_)
        go_simp
        refine (HG.out w1 hBw).mono ?_
        rintro e w3 ⟨rfl, hb3⟩
        exact hK _ _ ⟨.bool true, fr_eq15 (by simp [upd, e0]), hb3, fun _ => rfl, fun o h => by cases h⟩
      · have e1 : v 1 = .bool true := hd 1 (List.contains_iff_mem.1 (by kernel_rfl))
        refine wpOp_step (o := _) rfl (fun K' hK => ?_)
        go_simp
        exact hK _ _ ⟨.bool true, fr_eq15 (by simp [upd, e1]), Below.refl _ _, (fun _ => rfl), fun o h => by cases h⟩
      · have e2 : v 2 = .bool true := hd 2 (List.contains_iff_mem.1 (by kernel_rfl))
        refine wpOp_step (o := _) rfl (fun K' hK => ?_)
        go_simp
        exact hK _ _ ⟨undef, fr_eq15 (by simp [upd, e2]), Below.refl _ _, (fun _ => rfl), fun o h => by cases h⟩
      · have e3 : v 3 = undef := hd 3 (List.contains_iff_mem.1 (by kernel_rfl)); have e2 : v 2 = .bool true := hd 2 (List.contains_iff_mem.1 (by kernel_rfl))
        refine wpOp_step (o := _) rfl (fun K' hK => ?_)
        go_simp
        exact hK _ _ ⟨undef, fr_eq15 (by simp [upd, e3, e2]), Below.refl _ _, (fun _ => rfl), fun o h => by cases h⟩
      · have e2 : v 2 = .bool true := hd 2 (List.contains_iff_mem.1 (by kernel_rfl))
        refine wpOp_step (o := _) rfl (fun K' hK => ?_)
        go_simp
        exact hK _ _ ⟨undef, fr_eq15 (by simp [upd, e2]), Below.refl _ _, (fun _ => rfl), fun o h => by cases h⟩
      · have e5 : v 5 = undef := hd 5 (List.contains_iff_mem.1 (by kernel_rfl)); have e4 : v 4 = undef := hd 4 (List.contains_iff_mem.1 (by kernel_rfl)); have e2 : v 2 = .bool true := hd 2 (List.contains_iff_mem.1 (by kernel_rfl))
        refine wpOp_step (o := _) rfl (fun K' hK => ?_)
        go_simp
        exact hK _ _ ⟨undef, fr_eq15 (by simp [upd, e5, e4, e2]), Below.refl _ _, (fun _ => rfl), fun o h => by cases h⟩
      · have e4 : v 4 = undef := hd 4 (List.contains_iff_mem.1 (by kernel_rfl)); have e6 : v 6 = undef := hd 6 (List.contains_iff_mem.1 (by kernel_rfl)); have e2 : v 2 = .bool true := hd 2 (List.contains_iff_mem.1 (by kernel_rfl))
        refine wpOp_step (o := _) rfl (fun K' hK => ?_)
        go_simp
        exact hK _ _ ⟨undef, fr_eq15 (by simp [upd, e4, e6, e2]), Below.refl _ _, (fun _ => rfl), fun o h => by cases h⟩
      · have e7 : v 7 = undef := hd 7 (List.contains_iff_mem.1 (by kernel_rfl)); have e6 : v 6 = undef := hd 6 (List.contains_iff_mem.1 (by kernel_rfl)); have e2 : v 2 = .bool true := hd 2 (List.contains_iff_mem.1 (by kernel_rfl))
        refine wpOp_step (o := _) rfl (fun K' hK => ?_)
        go_simp
        exact hK _ _ ⟨undef, fr_eq15 (by simp [upd, e7, e6, e2]), Below.refl _ _, (fun _ => rfl), fun o h => by cases h⟩
      · have e8 : v 8 = undef := hd 8 (List.contains_iff_mem.1 (by kernel_rfl))
        refine wpOp_step (o := _) rfl (fun K' hK => ?_)
        go_simp
        exact hK _ _ ⟨undef, fr_eq15 (by simp [upd, e8]), Below.refl _ _, (fun _ => rfl), fun o h => by cases h⟩
      · have e9 : v 9 = undef := hd 9 (List.contains_iff_mem.1 (by kernel_rfl)); have e8 : v 8 = undef := hd 8 (List.contains_iff_mem.1 (by kernel_rfl))
        refine wpOp_step (o := _) rfl (fun K' hK => ?_)
        go_simp
        exact hK _ _ ⟨undef, fr_eq15 (by simp [upd, e9, e8]), Below.refl _ _, (fun _ => rfl), fun o h => by cases h⟩
      · have e8 : v 8 = undef := hd 8 (List.contains_iff_mem.1 (by kernel_rfl))
        refine wpOp_step (o := _) rfl (fun K' hK => ?_)
        go_simp
        exact hK _ _ ⟨undef, fr_eq15 (by simp [upd, e8]), Below.refl _ _, (fun _ => rfl), fun o h => by cases h⟩
      · have e11 : v 11 = undef := hd 11 (List.contains_iff_mem.1 (by kernel_rfl)); have e10 : v 10 = undef := hd 10 (List.contains_iff_mem.1 (by kernel_rfl)); have e8 : v 8 = undef := hd 8 (List.contains_iff_mem.1 (by kernel_rfl))
        refine wpOp_step (o := _) rfl (fun K' hK => ?_)
        go_simp
        exact hK _ _ ⟨undef, fr_eq15 (by simp [upd, e11, e10, e8]), Below.refl _ _, (fun _ => rfl), fun o h => by cases h⟩
      · have e10 : v 10 = undef := hd 10 (List.contains_iff_mem.1 (by kernel_rfl)); have e12 : v 12 = undef := hd 12 (List.contains_iff_mem.1 (by kernel_rfl)); have e8 : v 8 = undef := hd 8 (List.contains_iff_mem.1 (by kernel_rfl))
        refine wpOp_step (o := _) rfl (fun K' hK => ?_)
        go_simp
        exact hK _ _ ⟨undef, fr_eq15 (by simp [upd, e10, e12, e8]), Below.refl _ _, (fun _ => rfl), fun o h => by cases h⟩
      · have e8 : v 8 = undef := hd 8 (List.contains_iff_mem.1 (by kernel_rfl)); have e13 : v 13 = undef := hd 13 (List.contains_iff_mem.1 (by kernel_rfl)); have e2 : v 2 = .bool true := hd 2 (List.contains_iff_mem.1 (by kernel_rfl))
        refine wpOp_step (o := _) rfl (fun K' hK => ?_)
        go_simp
        exact hK _ _ ⟨undef, fr_eq15 (by simp [upd, e8, e13, e2]), Below.refl _ _, (fun _ => rfl), fun o h => by cases h⟩
      · have e2 : v 2 = .bool true := hd 2 (List.contains_iff_mem.1 (by kernel_rfl)); have e14 : v 14 = undef := hd 14 (List.contains_iff_mem.1 (by kernel_rfl))
        refine wpOp_step (o := _) rfl (fun K' hK => ?_)
        go_simp
        exact hK _ _ ⟨.bool true, fr_eq15 (by simp [upd, e2, e14]), Below.refl _ _, (fun _ => rfl), fun o h => by cases h⟩
      · have e15 : v 15 = .bool true := hd 15 (List.contains_iff_mem.1 (by kernel_rfl)); have e12 : v 12 = undef := hd 12 (List.contains_iff_mem.1 (by kernel_rfl))
        refine wpOp_step (o := _) rfl (fun K' hK => ?_)
        go_simp
        exact hK _ _ ⟨.bool true, fr_eq15 (by simp [upd, e15, e12]), Below.refl _ _, (fun _ => rfl), fun o h => by cases h⟩
      · have e16 : v 16 = .bool true := hd 16 (List.contains_iff_mem.1 (by kernel_rfl))
        refine wpOp_step (o := _) rfl (fun K' hK => ?_)
        go_simp
        refine (HAW.out w1 hBw).mono ?_
        rintro e w3 ⟨rfl, hb3⟩
        exact hK _ _ ⟨.bool true, fr_eq15 (by simp [upd, e16]), hb3, fun _ => rfl, fun o h => by cases h⟩
      · have e16 : v 16 = .bool true := hd 16 (List.contains_iff_mem.1 (by kernel_rfl)); have e17 : v 17 = .bool true := hd 17 (List.contains_iff_mem.1 (by kernel_rfl))
        refine wpOp_step (o := _) rfl (fun K' hK => ?_)
        go_simp
        exact hK _ _ ⟨.bool true, fr_eq15 (by simp [upd, e16, e17]), Below.refl _ _, (fun _ => rfl), fun o h => by cases h⟩
      · have e18 : v 18 = .bool true := hd 18 (List.contains_iff_mem.1 (by kernel_rfl)); have e17 : v 17 = .bool true := hd 17 (List.contains_iff_mem.1 (by kernel_rfl))
        refine wpOp_step (o := _) rfl (fun K' hK => ?_)
        go_simp
        exact hK _ _ ⟨.bool true, fr_eq15 (by simp [upd, e18, e17]), Below.refl _ _, (fun _ => rfl), fun o h => by cases h⟩
    · have HB4 := Lib.hid (bth HB0.out hb)
      have e0 : v 0 = .agg #[.int .i64 T.op, .int .i64 T.rel, .slice T.aa T.an T.ac, .slice T.ka T.kn T.kc] := hv 0 (by decide)
      have e1 : v 1 = .bool true := hv 1 (by decide)
      have e2 : v 2 = .bool true := hv 2 (by decide)
      have e3 : v 3 = undef := hv 3 (by decide)
      have e4 : v 4 = undef := hv 4 (by decide)
      have e5 : v 5 = undef := hv 5 (by decide)
      have e6 : v 6 = undef := hv 6 (by decide)
      have e7 : v 7 = undef := hv 7 (by decide)
      have e8 : v 8 = undef := hv 8 (by decide)
      have e9 : v 9 = undef := hv 9 (by decide)
      have e10 : v 10 = undef := hv 10 (by decide)
      have e11 : v 11 = undef := hv 11 (by decide)
      have e12 : v 12 = undef := hv 12 (by decide)
      have e13 : v 13 = undef := hv 13 (by decide)
      have e14 : v 14 = undef := hv 14 (by decide)
      have e15 : v 15 = .bool true := hv 15 (by decide)
      have e16 : v 16 = .bool true := hv 16 (by decide)
      have e17 : v 17 = .bool true := hv 17 (by decide)
      have e18 : v 18 = .bool true := hv 18 (by decide)
      have e19 : v 19 = .bool true := hv 19 (by decide)
      clear hv hdist hBx hb
      refine wpAny_of_held (S := fun _ => True) _ _ _ _ ?_
      simp only [e0, e1, e2, e3, e4, e5, e6, e7, e8, e9, e10, e11, e12, e13, e14, e15, e16, e17, e18, e19]
      clear e0 e1 e2 e3 e4 e5 e6 e7 e8 e9 e10 e11 e12 e13 e14 e15 e16 e17 e18 e19
      refine wpAnyH_done (by kernel_rfl) ?_ _
      go_wp2_with fail
      go_ret
      exact ⟨rfl, HB4.out⟩
  | false =>
    have hd := great_deep T 0 hq
    have HDC := Lib.hid (fun wx (hb : Below w.heap.size w wx) => deep_any S T wx (H.next hb) (by omega))
    have HDR := Lib.hid (fun wx (hb : Below w.heap.size w wx) => refDeep_any S T wx (H.next hb) (by omega))
    have HSC := Lib.hid (fun wx (hb : Below w.heap.size w wx) => size_any S T wx (H.next hb))
    have HSR := Lib.hid (fun wx (hb : Below w.heap.size w wx) => refSize_any S T wx (H.next hb))
    unfold CDeepTo at HDC
    unfold RDeepTo at HDR
    unfold CSizeTo at HSC
    unfold RSizeTo at HSR
    rw [hq] at HG
    obtain ⟨d, hdd⟩ : ∃ d, deepX T = d := ⟨_, rfl⟩
    obtain ⟨z, hzz⟩ : ∃ z, sizeX T = z := ⟨_, rfl⟩
    rw [hdd] at HDC HDR
    rw [hzz] at HSC HSR
    clear H HX hV hq hd hdd hzz
    go_enter Tryz.func4, Tryz.ntmps4
    go_upto_region 1 with (fail)
    generalize w.alloc (.cells #[.int .i64 T.op, .int .i64 T.rel, .slice T.aa T.an T.ac, .slice T.ka T.kn T.kc] 25) = W0 at *
    refine wp_region_ext (by kernel_rfl) 20 (fun v => ((.agg #[.int .i64 T.op, .int .i64 T.rel, .slice T.aa T.an T.ac, .slice T.ka T.kn T.kc] : Value) :: (.pointer (some ⟨w.heap.size, 0, none⟩) : Value) :: (v 19 : Value) :: (v 0 : Value) :: (v 1 : Value) :: (v 2 : Value) :: (v 3 : Value) :: (v 4 : Value) :: (v 5 : Value) :: (v 6 : Value) :: (v 7 : Value) :: (v 8 : Value) :: (v 9 : Value) :: (v 10 : Value) :: (v 11 : Value) :: (v 12 : Value) :: (v 13 : Value) :: (v 14 : Value) :: (v 15 : Value) :: (v 16 : Value) :: (v 17 : Value) :: (v 18 : Value) :: []).toArray) (fun k => if k = 19 then .bool false else undef) (fun _ => none) (fun j => [.agg #[.int .i64 T.op, .int .i64 T.rel, .slice T.aa T.an T.ac, .slice T.ka T.kn T.kc], .bool false, .bool false, .agg #[.int .i64 T.op, .int .i64 T.rel, .slice T.aa T.an T.ac, .slice T.ka T.kn T.kc], .int .i64 (d : Nat), .agg #[.int .i64 T.op, .int .i64 T.rel, .slice T.aa T.an T.ac, .slice T.ka T.kn T.kc], .int .i64 (d : Nat), .bool true, .bool true, .agg #[.int .i64 T.op, .int .i64 T.rel, .slice T.aa T.an T.ac, .slice T.ka T.kn T.kc], .int .i64 z, .agg #[.int .i64 T.op, .int .i64 T.rel, .slice T.aa T.an T.ac, .slice T.ka T.kn T.kc], .int .i64 z, .bool true, .bool true, .bool true, .bool true, .bool true, .bool true, .bool true].getD j undef) (fun w' => Below W0.heap.size W0 w')
      (Nat.le_of_ble_eq_true (by kernel_rfl)) (by kernel_rfl) (fun _ _ h hb => bth h hb) (Below.refl _ _) (fun j hj v w1 hBx hsz hd => ?_) (fun v w1 hv hdist hBx hb => ?_)
    · have b1 := rowKeep hBx HQ.out
      have y0 : w1.cell? ⟨w.heap.size, 0, none⟩ = some (.int .i64 T.op) := cell_at b1 rfl
      have y1 : w1.cell? ⟨w.heap.size, 1, none⟩ = some (.int .i64 T.rel) := cell_at b1 rfl
      have y2 : w1.cell? ⟨w.heap.size, 2, none⟩ = some (.slice T.aa T.an T.ac) := cell_at b1 rfl
      have y3 : w1.cell? ⟨w.heap.size, 3, none⟩ = some (.slice T.ka T.kn T.kc) := cell_at b1 rfl
      clear b1
      have hBw := bth HB0.out hBx
      have hjN : j = 0 ∨ j = 1 ∨ j = 2 ∨ j = 3 ∨ j = 4 ∨ j = 5 ∨ j = 6 ∨ j = 7 ∨ j = 8 ∨ j = 9 ∨ j = 10 ∨ j = 11 ∨ j = 12 ∨ j = 13 ∨ j = 14 ∨ j = 15 ∨ j = 16 ∨ j = 17 ∨ j = 18 ∨ j = 19 := by omega
      rcases hjN with rfl | rfl | rfl | rfl | rfl | rfl | rfl | rfl | rfl | rfl | rfl | rfl | rfl | rfl | rfl | rfl | rfl | rfl | rfl | rfl
      · skip
        refine wpOp_step (o := _) rfl (fun K' hK => ?_)
        go_simp
        exact hK _ _ ⟨.agg #[.int .i64 T.op, .int .i64 T.rel, .slice T.aa T.an T.ac, .slice T.ka T.kn T.kc], rfl, Below.refl _ _, (fun _ => rfl), fun o h => by cases h⟩
      · have e0 : v 0 = .agg #[.int .i64 T.op, .int .i64 T.rel, .slice T.aa T.an T.ac, .slice T.ka T.kn T.kc] := hd 0 (List.contains_iff_mem.1 (by kernel_rfl))
        refine wpOp_step (o := _) rfl (fun K' hK => ?_)
        go_simp
        refine (HG.out w1 hBw).mono ?_
        rintro e w3 ⟨rfl, hb3⟩
        exact hK _ _ ⟨.bool false, fr_eq15 (by simp [upd, e0]), hb3, fun _ => rfl, fun o h => by cases h⟩
      · have e1 : v 1 = .bool false := hd 1 (List.contains_iff_mem.1 (by kernel_rfl))
        refine wpOp_step (o := _) rfl (fun K' hK => ?_)
        go_simp
        exact hK _ _ ⟨.bool false, fr_eq15 (by simp [upd, e1]), Below.refl _ _, (fun _ => rfl), fun o h => by cases h⟩
      · have e2 : v 2 = .bool false := hd 2 (List.contains_iff_mem.1 (by kernel_rfl))
        refine wpOp_step (o := _) rfl (fun K' hK => ?_)
        go_simp
        exact hK _ _ ⟨.agg #[.int .i64 T.op, .int .i64 T.rel, .slice T.aa T.an T.ac, .slice T.ka T.kn T.kc], fr_eq15 (by simp [upd, e2]), Below.refl _ _, (fun _ => rfl), fun o h => by cases h⟩
      · have e3 : v 3 = .agg #[.int .i64 T.op, .int .i64 T.rel, .slice T.aa T.an T.ac, .slice T.ka T.kn T.kc] := hd 3 (List.contains_iff_mem.1 (by kernel_rfl)); have e2 : v 2 = .bool false := hd 2 (List.contains_iff_mem.1 (by kernel_rfl))
        refine wpOp_step (o := _) rfl (fun K' hK => ?_)
        go_simp
        refine (HDC.out w1 hBw).mono ?_
        rintro e w3 ⟨rfl, hb3⟩
        exact hK _ _ ⟨.int .i64 (d : Nat), fr_eq15 (by simp [upd, e3, e2]), hb3, fun _ => rfl, fun o h => by cases h⟩
      · have e2 : v 2 = .bool false := hd 2 (List.contains_iff_mem.1 (by kernel_rfl))
        refine wpOp_step (o := _) rfl (fun K' hK => ?_)
        go_simp
        exact hK _ _ ⟨.agg #[.int .i64 T.op, .int .i64 T.rel, .slice T.aa T.an T.ac, .slice T.ka T.kn T.kc], fr_eq15 (by simp [upd, e2]), Below.refl _ _, (fun _ => rfl), fun o h => by cases h⟩
      · have e5 : v 5 = .agg #[.int .i64 T.op, .int .i64 T.rel, .slice T.aa T.an T.ac, .slice T.ka T.kn T.kc] := hd 5 (List.contains_iff_mem.1 (by kernel_rfl)); have e4 : v 4 = .int .i64 (d : Nat) := hd 4 (List.contains_iff_mem.1 (by kernel_rfl)); have e2 : v 2 = .bool false := hd 2 (List.contains_iff_mem.1 (by kernel_rfl))
        refine wpOp_step (o := _) rfl (fun K' hK => ?_)
        go_simp
        refine (HDR.out w1 hBw).mono ?_
        rintro e w3 ⟨rfl, hb3⟩
        exact hK _ _ ⟨.int .i64 (d : Nat), fr_eq15 (by simp [upd, e5, e4, e2]), hb3, fun _ => rfl, fun o h => by cases h⟩
      · have e4 : v 4 = .int .i64 (d : Nat) := hd 4 (List.contains_iff_mem.1 (by kernel_rfl)); have e6 : v 6 = .int .i64 (d : Nat) := hd 6 (List.contains_iff_mem.1 (by kernel_rfl)); have e2 : v 2 = .bool false := hd 2 (List.contains_iff_mem.1 (by kernel_rfl))
        refine wpOp_step (o := _) rfl (fun K' hK => ?_)
        go_simp
        exact hK _ _ ⟨.bool true, fr_eq15 (by simp [upd, e4, e6, e2]), Below.refl _ _, (fun _ => rfl), fun o h => by cases h⟩
      · have e7 : v 7 = .bool true := hd 7 (List.contains_iff_mem.1 (by kernel_rfl)); have e6 : v 6 = .int .i64 (d : Nat) := hd 6 (List.contains_iff_mem.1 (by kernel_rfl)); have e2 : v 2 = .bool false := hd 2 (List.contains_iff_mem.1 (by kernel_rfl))
        refine wpOp_step (o := _) rfl (fun K' hK => ?_)
        go_simp
        exact hK _ _ ⟨.bool true, fr_eq15 (by simp [upd, e7, e6, e2]), Below.refl _ _, (fun _ => rfl), fun o h => by cases h⟩
      · have e8 : v 8 = .bool true := hd 8 (List.contains_iff_mem.1 (by kernel_rfl))
        refine wpOp_step (o := _) rfl (fun K' hK => ?_)
        go_simp
        exact hK _ _ ⟨.agg #[.int .i64 T.op, .int .i64 T.rel, .slice T.aa T.an T.ac, .slice T.ka T.kn T.kc], fr_eq15 (by simp [upd, e8]), Below.refl _ _, (fun _ => rfl), fun o h => by cases h⟩
      · have e9 : v 9 = .agg #[.int .i64 T.op, .int .i64 T.rel, .slice T.aa T.an T.ac, .slice T.ka T.kn T.kc] := hd 9 (List.contains_iff_mem.1 (by kernel_rfl)); have e8 : v 8 = .bool true := hd 8 (List.contains_iff_mem.1 (by kernel_rfl))
        refine wpOp_step (o := _) rfl (fun K' hK => ?_)
        go_simp
        refine (HSC.out w1 hBw).mono ?_
        rintro e w3 ⟨rfl, hb3⟩
        exact hK _ _ ⟨.int .i64 z, fr_eq15 (by simp [upd, e9, e8]), hb3, fun _ => rfl, fun o h => by cases h⟩
      · have e8 : v 8 = .bool true := hd 8 (List.contains_iff_mem.1 (by kernel_rfl))
        refine wpOp_step (o := _) rfl (fun K' hK => ?_)
        go_simp
        exact hK _ _ ⟨.agg #[.int .i64 T.op, .int .i64 T.rel, .slice T.aa T.an T.ac, .slice T.ka T.kn T.kc], fr_eq15 (by simp [upd, e8]), Below.refl _ _, (fun _ => rfl), fun o h => by cases h⟩
      · have e11 : v 11 = .agg #[.int .i64 T.op, .int .i64 T.rel, .slice T.aa T.an T.ac, .slice T.ka T.kn T.kc] := hd 11 (List.contains_iff_mem.1 (by kernel_rfl)); have e10 : v 10 = .int .i64 z := hd 10 (List.contains_iff_mem.1 (by kernel_rfl)); have e8 : v 8 = .bool true := hd 8 (List.contains_iff_mem.1 (by kernel_rfl))
        refine wpOp_step (o := _) rfl (fun K' hK => ?_)
        go_simp
        refine (HSR.out w1 hBw).mono ?_
        rintro e w3 ⟨rfl, hb3⟩
        exact hK _ _ ⟨.int .i64 z, fr_eq15 (by simp [upd, e11, e10, e8]), hb3, fun _ => rfl, fun o h => by cases h⟩
      · have e10 : v 10 = .int .i64 z := hd 10 (List.contains_iff_mem.1 (by kernel_rfl)); have e12 : v 12 = .int .i64 z := hd 12 (List.contains_iff_mem.1 (by kernel_rfl)); have e8 : v 8 = .bool true := hd 8 (List.contains_iff_mem.1 (by kernel_rfl))
        refine wpOp_step (o := _) rfl (fun K' hK => ?_)
        go_simp
        exact hK _ _ ⟨.bool true, fr_eq15 (by simp [upd, e10, e12, e8]), Below.refl _ _, (fun _ => rfl), fun o h => by cases h⟩
      · have e8 : v 8 = .bool true := hd 8 (List.contains_iff_mem.1 (by kernel_rfl)); have e13 : v 13 = .bool true := hd 13 (List.contains_iff_mem.1 (by kernel_rfl)); have e2 : v 2 = .bool false := hd 2 (List.contains_iff_mem.1 (by kernel_rfl))
        refine wpOp_step (o := _) rfl (fun K' hK => ?_)
        go_simp
        exact hK _ _ ⟨.bool true, fr_eq15 (by simp [upd, e8, e13, e2]), Below.refl _ _, (fun _ => rfl), fun o h => by cases h⟩
      · have e2 : v 2 = .bool false := hd 2 (List.contains_iff_mem.1 (by kernel_rfl)); have e14 : v 14 = .bool true := hd 14 (List.contains_iff_mem.1 (by kernel_rfl))
        refine wpOp_step (o := _) rfl (fun K' hK => ?_)
        go_simp
        exact hK _ _ ⟨.bool true, fr_eq15 (by simp [upd, e2, e14]), Below.refl _ _, (fun _ => rfl), fun o h => by cases h⟩
      · have e15 : v 15 = .bool true := hd 15 (List.contains_iff_mem.1 (by kernel_rfl)); have e12 : v 12 = .int .i64 z := hd 12 (List.contains_iff_mem.1 (by kernel_rfl))
        refine wpOp_step (o := _) rfl (fun K' hK => ?_)
        go_simp
        exact hK _ _ ⟨.bool true, fr_eq15 (by simp [upd, e15, e12]), Below.refl _ _, (fun _ => rfl), fun o h => by cases h⟩
      · have e16 : v 16 = .bool true := hd 16 (List.contains_iff_mem.1 (by kernel_rfl))
        refine wpOp_step (o := _) rfl (fun K' hK => ?_)
        go_simp
        refine (HAW.out w1 hBw).mono ?_
        rintro e w3 ⟨rfl, hb3⟩
        exact hK _ _ ⟨.bool true, fr_eq15 (by simp [upd, e16]), hb3, fun _ => rfl, fun o h => by cases h⟩
      · have e16 : v 16 = .bool true := hd 16 (List.contains_iff_mem.1 (by kernel_rfl)); have e17 : v 17 = .bool true := hd 17 (List.contains_iff_mem.1 (by kernel_rfl))
        refine wpOp_step (o := _) rfl (fun K' hK => ?_)
        go_simp
        exact hK _ _ ⟨.bool true, fr_eq15 (by simp [upd, e16, e17]), Below.refl _ _, (fun _ => rfl), fun o h => by cases h⟩
      · have e18 : v 18 = .bool true := hd 18 (List.contains_iff_mem.1 (by kernel_rfl)); have e17 : v 17 = .bool true := hd 17 (List.contains_iff_mem.1 (by kernel_rfl))
        refine wpOp_step (o := _) rfl (fun K' hK => ?_)
        go_simp
        exact hK _ _ ⟨.bool true, fr_eq15 (by simp [upd, e18, e17]), Below.refl _ _, (fun _ => rfl), fun o h => by cases h⟩
    · have HB4 := Lib.hid (bth HB0.out hb)
      have e0 : v 0 = .agg #[.int .i64 T.op, .int .i64 T.rel, .slice T.aa T.an T.ac, .slice T.ka T.kn T.kc] := hv 0 (by decide)
      have e1 : v 1 = .bool false := hv 1 (by decide)
      have e2 : v 2 = .bool false := hv 2 (by decide)
      have e3 : v 3 = .agg #[.int .i64 T.op, .int .i64 T.rel, .slice T.aa T.an T.ac, .slice T.ka T.kn T.kc] := hv 3 (by decide)
      have e4 : v 4 = .int .i64 (d : Nat) := hv 4 (by decide)
      have e5 : v 5 = .agg #[.int .i64 T.op, .int .i64 T.rel, .slice T.aa T.an T.ac, .slice T.ka T.kn T.kc] := hv 5 (by decide)
      have e6 : v 6 = .int .i64 (d : Nat) := hv 6 (by decide)
      have e7 : v 7 = .bool true := hv 7 (by decide)
      have e8 : v 8 = .bool true := hv 8 (by decide)
      have e9 : v 9 = .agg #[.int .i64 T.op, .int .i64 T.rel, .slice T.aa T.an T.ac, .slice T.ka T.kn T.kc] := hv 9 (by decide)
      have e10 : v 10 = .int .i64 z := hv 10 (by decide)
      have e11 : v 11 = .agg #[.int .i64 T.op, .int .i64 T.rel, .slice T.aa T.an T.ac, .slice T.ka T.kn T.kc] := hv 11 (by decide)
      have e12 : v 12 = .int .i64 z := hv 12 (by decide)
      have e13 : v 13 = .bool true := hv 13 (by decide)
      have e14 : v 14 = .bool true := hv 14 (by decide)
      have e15 : v 15 = .bool true := hv 15 (by decide)
      have e16 : v 16 = .bool true := hv 16 (by decide)
      have e17 : v 17 = .bool true := hv 17 (by decide)
      have e18 : v 18 = .bool true := hv 18 (by decide)
      have e19 : v 19 = .bool true := hv 19 (by decide)
      clear hv hdist hBx hb
      refine wpAny_of_held (S := fun _ => True) _ _ _ _ ?_
      simp only [e0, e1, e2, e3, e4, e5, e6, e7, e8, e9, e10, e11, e12, e13, e14, e15, e16, e17, e18, e19]
      clear e0 e1 e2 e3 e4 e5 e6 e7 e8 e9 e10 e11 e12 e13 e14 e15 e16 e17 e18 e19
      refine wpAnyH_done (by kernel_rfl) ?_ _
      go_wp2_with fail
      go_ret
      exact ⟨rfl, HB4.out⟩
set_option maxRecDepth 100000 in
theorem lifted (os : Os) (started : os.Started) (H : Type) (enc : TypeId × Value → H) :
    ReturnsInHanded {} Tryz.checked os 4 .any (fun w args => (Rows.exprSizesSpec.pre enc Tryz.prog Tryz.f4 Rows.exprSizesRow.domain false w args ∧ laidMetH Tryz.prog Rows.exprSizesRow.laid w) ∧ sizedMet enc Tryz.prog Tryz.f4 (OpenSpec.ofChange Rows.exprSizesSpec) false w args)
      (Rows.exprSizesSpec.post enc Tryz.prog Tryz.f4 false true false false) := by
  refine handed_shaped_and (C := Tryz.checked) (X := fun w _ => laidMetH Tryz.prog Rows.exprSizesRow.laid w) (fun _ _ _ hh h => h.of_heap hh) own started (by kernel_rfl) Tryz.func4
    (ChangeSpec.witness_shaped (enc := enc) (C := Tryz.checked) (os := os) (X := fun w _ => laidMetH Tryz.prog Rows.exprSizesRow.laid w) false (World.laidAll Tryz.prog os Rows.exprSizesRow.laid) #[.agg #[.int .i64 0, .int .i64 0, .slice none 0 0, .slice none 0 0]] 8 (World.laidAll_os _ _ _)
      (World.shaped_of_ZipB (by kernel_rfl) (by kernel_rfl)) (by kernel_rfl) (by kernel_rfl) (by kernel_rfl)
      (by rw [MakeChecks.laidMetH_plain _ _ _ (by kernel_rfl)]; exact laidMet_laidAll _ (by kernel_rfl) (by kernel_rfl))) ?_
  intro W base args ds gs before hval0 hW hcnd hsz hL hsh _
  have hLib := lib_of hsh hL
  have hval : ∀ (j : Nat) t v, Tryz.f4.params[j]? = some t → args[j]? = some v → Value.okWide Tryz.prog W .any base t v := hval0
  have hW' := hW
  obtain ⟨p, q, hA0, hV, rfl, hfz, hnd⟩ := hW
  have hA : DataW.TrodAll enc Tryz.prog W 0 (fun _ => true) true Tryz.f4.params.toList args.toList ds p := hA0
  rw [Tryz.params4] at hA hval
  obtain ⟨rfl, rfl⟩ := trodVars_none hV
  clear hA0 hval0
  simp only [List.append_nil] at hW'
  have hlt := hW'.lt
  have hA1 := hA
  have hsz1 : (DataW.weightsEach Tryz.prog (Tryz.f4.params.toList ++ []) (ds ++ [])).all (· ≤ reachBytes) = true := hsz
  rw [Tryz.params4, List.append_nil, List.append_nil] at hsz1
  have hrd := rdg_all _ _ _ _ hA1 (fun n hn => by simpa using List.all_eq_true.1 hsz1 n hn)
  obtain ⟨v0, vs0, d0, ds0, p0, q0, hargs, rfl, rfl, h0, r0⟩ := trodAll_cons hA
  obtain ⟨rfl, rfl, rfl⟩ := trodAll_nil r0
  obtain rfl : args = #[v0] := by cases args; simp_all
  have g0 := hrd 0 25 v0 rfl rfl
  obtain ⟨cs0, rfl, hz0⟩ := ok_agg (by first | exact .inl ⟨_, Tryz.underlying25⟩ | exact .inr ⟨_, _, Tryz.underlying25⟩) (hval 0 25 v0 rfl rfl)
  obtain ⟨T, hT, HT, HX⟩ := x_of hz0 g0
  injection hT with hT
  subst hT
  refine (walk T _ W HT HX hLib).mono fun e W' ⟨he, bel⟩ => ?_
  subst he
  exact ⟨_, rfl, _, _, _, [], _, [], hW', trodAll_mk1 (shut_bool Tryz.underlying4 _), trodAll_below laidOut bel [25] _ _ _ (by kernel_rfl) hA1 hlt, rfl, bel.frame _, fun h => by cases h⟩
theorem over : Rows.ExprSizesSaid :=
  OpenClaim.holds_of_wide 4 Tryz.f4 rfl rfl rfl rfl rfl rfl rfl ⟨rfl, rfl, rfl, rfl, rfl⟩ rfl rfl rfl rfl rfl (by kernel_rfl) Tryz.func4 (by kernel_rfl)
    (of_decide_eq_true (by kernel_rfl)) (by unfold Func.isWrapper; first | (rw [if_pos (by decide +kernel)]; kernel_rfl) | (rw [if_neg (by decide +kernel)]; exact ⟨rfl, rfl⟩))
    (fun os started H enc _ => lifted os started H enc)
theorem proved : Rows.ExprSizesCardSaid :=
  Claim7.holds_tied_plain_at .later [] [.data, .data, .data, .data, .sentinel, .sentinel, .pinned] true (true, "00e356c7fe7541a8657123439a51159eee0186da084d3c79d387c40d35cea94b") true
    over (fun _ h => by cases h) (by kernel_rfl) (fun _ h => by cases h) exprSizes_row_tie rfl ⟨rfl, rfl⟩ (by kernel_rfl) rfl
    (fun f fn hf hfn => by
      obtain rfl : f = 4 := Option.some.inj ((show Tryz.prog.funcNamed Rows.exprSizesRow.func = some 4 by kernel_rfl).symm.trans hf) |>.symm
      obtain rfl : fn = Tryz.f4 := (Option.some.inj (Tryz.func4.symm.trans hfn)).symm
      exact ⟨by kernel_rfl, fun j t ht => by
        rw [Tryz.params4] at ht
        have hm : t ∈ [25] := by simpa using Array.mem_of_getElem? ht
        have hall : ([25].all fun u => !Tryz.prog.wantsStandIn u) = true := by kernel_rfl
        exact (show Tryz.prog.wantsStandIn t = false by simpa using List.all_eq_true.1 hall t hm)⟩)
    (by kernel_rfl)
#print axioms proved
end Go.Proofs.YtbejpgoedenpmaaGreatDoor.exprSizes
