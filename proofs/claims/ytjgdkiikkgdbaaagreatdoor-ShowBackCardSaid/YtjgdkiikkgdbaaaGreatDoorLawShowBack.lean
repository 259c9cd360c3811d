/- ShowBack: for every tree the law returns true, and its argument reads as before. No condition. -/
import Derived.Test.YtjgdkiikkgdbaaaGreatDoorTie
import Derived.SevenTiedAt
import Derived.Lay
import Derived.Stop.Joined
import Derived.Test.YtjgdkiikkgdbaaaGreatDoorQ47
namespace Go.Proofs.YtjgdkiikkgdbaaaGreatDoor.showBack
open Go.ChangeShapes Go.WideShapes Go.ChangeAt Go.RowKit
open Go.ChangeMaps (open_string shut_string)
set_option linter.unusedVariables false
set_option linter.unusedSimpArgs false
set_option maxHeartbeats 4000000 in
set_option maxRecDepth 100000 in
theorem walk (T : XT) (S : Nat → Prop) (w : World) (H : XAt w S T) (HX : XTx T) (hV : LibAt w) (hT : Tab w) : Calls Tryz.prog 5 #[.agg #[.int .i64 T.op, .int .i64 T.rel, .slice T.aa T.an T.ac, .slice T.ka T.kn T.kc]] w fun e w' => e = .returned (.bool true) ∧ Below w.heap.size w w' := by
  have HG := Lib.hid (fun wx (hb : Below w.heap.size w wx) => great_any S T 0 wx (H.next hb) HX (by omega))
  have HAW := Lib.hid (fun wx (hb : Below w.heap.size w wx) => awake16 wx (hV.held hb) (hT.next hb))
  unfold RGreatTo at HG
  rw [show ((0 : Nat) : Int) = 0 from rfl] at HG
  cases hq : greatX T 0 with
  | true =>
    rw [hq] at HG
    clear H HX hV hT hq
    go_enter Tryz.func5, Tryz.ntmps5
    go_wp2_with (first
      | (go_at_call 7; refine (HAW.out _ HB1.out).mono ?_; rintro e w2 ⟨rfl, hb⟩; have HB2 := Lib.hid (bthN HB1.out hb); clear hb)
      | (go_at_call 6; refine (HG.out _ bel1).mono ?_; rintro e w1 ⟨rfl, hb⟩; have HB1 := Lib.hid (bthN bel1 hb); clear hb))
    go_ret
    exact ⟨rfl, HB2.out⟩
  | false =>
    rw [hq] at HG
    have HC := Lib.hid (fun wx (hb : Below w.heap.size w wx) => cText_any T wx ⟨S, H.next hb⟩ HX hq (hV.held hb) (hT.next hb))
    unfold CTextTo at HC
    rcases ans_cases T HX with ⟨e1, e2⟩ | ⟨_, e1, e2, hl, x, hp, hs⟩
    · rw [e1] at HC
      clear H HX hV hT hq e1
      rcases e2 with e2 | e2 | e2
      all_goals
        rw [e2] at HC
        clear e2
        go_enter Tryz.func5, Tryz.ntmps5
        go_wp2_with (first
          | (go_at_call 7; refine (HAW.out _ HB2.out).mono ?_; rintro e w4 ⟨rfl, hb⟩; have HB4 := Lib.hid (bthN HB2.out hb); clear hb)
          | (go_at_call 8; refine (HC.out _ HB1.out).mono ?_; rintro e w2 ⟨rfl, hb⟩; have HB2 := Lib.hid (bthN HB1.out hb); clear hb)
          | (go_at_call 6; refine (HG.out _ bel1).mono ?_; rintro e w1 ⟨rfl, hb⟩; have HB1 := Lib.hid (bthN bel1 hb); have Q1 := Lib.hid (rowKeep hb (alloc_at w _)); have q1d0 : w1.cell? ⟨w.heap.size, 0, none⟩ = some (.int .i64 T.op) := cell_at Q1.out rfl; have q1d1 : w1.cell? ⟨w.heap.size, 1, none⟩ = some (.int .i64 T.rel) := cell_at Q1.out rfl; have q1d2 : w1.cell? ⟨w.heap.size, 2, none⟩ = some (.slice T.aa T.an T.ac) := cell_at Q1.out rfl; have q1d3 : w1.cell? ⟨w.heap.size, 3, none⟩ = some (.slice T.ka T.kn T.kc) := cell_at Q1.out rfl; clear hb))
        go_ret
        exact ⟨rfl, HB4.out⟩
    · rw [e1, e2] at HC
      have HP := Lib.hid (fun wx (hb : Below w.heap.size w wx) => by
        have h := parse_any (showX T) hl wx (hV.held hb)
        rw [hp] at h
        exact h)
      have HSM := Lib.hid (fun U wx (hb : Below w.heap.size w wx) (hu : XHas wx U) (hxu : SameX U x) => same_has (T := T) (U := U) ⟨S, H.next hb⟩ hu (sameX_trans _ _ _ (sameX_symm _ _ hs) (sameX_symm _ _ hxu)))
      have hfe := flt_eq 0 0
      generalize showX T = t at *
      clear H HX hV hT hq e1 e2 hl hp hs
      unfold RSameTo at HSM
      go_enter Tryz.func5, Tryz.ntmps5
      go_wp2_with (first
        | (go_at_call 7; refine (HAW.out _ HB4.out).mono ?_; rintro e w5 ⟨rfl, hb⟩; have HB5 := Lib.hid (bthN HB4.out hb); clear hb)
        | (go_at_call 13; refine (HSM.out U _ HB3.out HU.out HS.out).mono ?_; rintro e w4 ⟨rfl, hb⟩; have HB4 := Lib.hid (bthN HB3.out hb); clear hb)
        | (go_at_call 12; refine (HP.out _ HB2.out).mono ?_; rintro e w3 ⟨hb, U, rfl, hs, hx⟩; have HS := Lib.hid hs; have hx0 : XHas w3 U := ⟨_, hx⟩; have HU := Lib.hid ((hx0.next (bel1 (o := .cells #[.int .i64 U.op, .int .i64 U.rel, .slice U.aa U.an U.ac, .slice U.ka U.kn U.kc] 25))).next (bel1 (o := .cells #[.int .i64 0, .int .i64 0] 38))); have HB3 := Lib.hid (bthN (bthN (bthN HB2.out hb) (bel1 (o := .cells #[.int .i64 U.op, .int .i64 U.rel, .slice U.aa U.an U.ac, .slice U.ka U.kn U.kc] 25))) (bel1 (o := .cells #[.int .i64 0, .int .i64 0] 38))); have Q3 := Lib.hid (rowKeep hb Q2.out); have hlt3 : w.heap.size < w3.heap.size := lt_of_block Q3.out; have hne3 : ¬ w.heap.size = w3.heap.size := (by omega); have hne4 : ¬ w.heap.size = w3.heap.size + 1 := (by omega); have q3d0 : w3.cell? ⟨w.heap.size, 0, none⟩ = some (.int .i64 T.op) := cell_at Q3.out rfl; have q3d1 : w3.cell? ⟨w.heap.size, 1, none⟩ = some (.int .i64 T.rel) := cell_at Q3.out rfl; have q3d2 : w3.cell? ⟨w.heap.size, 2, none⟩ = some (.slice T.aa T.an T.ac) := cell_at Q3.out rfl; have q3d3 : w3.cell? ⟨w.heap.size, 3, none⟩ = some (.slice T.ka T.kn T.kc) := cell_at Q3.out rfl; clear hb hs hx hx0)
        | (go_at_call 8; refine (HC.out _ HB1.out).mono ?_; rintro e w2 ⟨rfl, hb⟩; have HB2 := Lib.hid (bthN HB1.out hb); have Q2 := Lib.hid (rowKeep hb Q1.out); have q2d0 : w2.cell? ⟨w.heap.size, 0, none⟩ = some (.int .i64 T.op) := cell_at Q2.out rfl; have q2d1 : w2.cell? ⟨w.heap.size, 1, none⟩ = some (.int .i64 T.rel) := cell_at Q2.out rfl; have q2d2 : w2.cell? ⟨w.heap.size, 2, none⟩ = some (.slice T.aa T.an T.ac) := cell_at Q2.out rfl; have q2d3 : w2.cell? ⟨w.heap.size, 3, none⟩ = some (.slice T.ka T.kn T.kc) := cell_at Q2.out rfl; clear hb)
        | (go_at_call 6; refine (HG.out _ bel1).mono ?_; rintro e w1 ⟨rfl, hb⟩; have HB1 := Lib.hid (bthN bel1 hb); have Q1 := Lib.hid (rowKeep hb (alloc_at w _)); have q1d0 : w1.cell? ⟨w.heap.size, 0, none⟩ = some (.int .i64 T.op) := cell_at Q1.out rfl; have q1d1 : w1.cell? ⟨w.heap.size, 1, none⟩ = some (.int .i64 T.rel) := cell_at Q1.out rfl; have q1d2 : w1.cell? ⟨w.heap.size, 2, none⟩ = some (.slice T.aa T.an T.ac) := cell_at Q1.out rfl; have q1d3 : w1.cell? ⟨w.heap.size, 3, none⟩ = some (.slice T.ka T.kn T.kc) := cell_at Q1.out rfl; clear hb))
      go_ret
      exact ⟨rfl, HB5.out⟩
set_option maxRecDepth 100000 in
theorem lifted (os : Os) (started : os.Started) (H : Type) (enc : TypeId × Value → H) :
    ReturnsInHanded {} Tryz.checked os 5 .any (fun w args => (Rows.showBackSpec.pre enc Tryz.prog Tryz.f5 Rows.showBackRow.domain false w args ∧ laidMetH Tryz.prog Rows.showBackRow.laid w) ∧ sizedMet enc Tryz.prog Tryz.f5 (OpenSpec.ofChange Rows.showBackSpec) false w args)
      (Rows.showBackSpec.post enc Tryz.prog Tryz.f5 false true false false) := by
  refine handed_shaped_and (C := Tryz.checked) (X := fun w _ => laidMetH Tryz.prog Rows.showBackRow.laid w) (fun _ _ _ hh h => h.of_heap hh) own started (by kernel_rfl) Tryz.func5
    (ChangeSpec.witness_shaped (enc := enc) (C := Tryz.checked) (os := os) (X := fun w _ => laidMetH Tryz.prog Rows.showBackRow.laid w) false (World.laidAll Tryz.prog os Rows.showBackRow.laid) #[.agg #[.int .i64 0, .int .i64 0, .slice none 0 0, .slice none 0 0]] 8 (World.laidAll_os _ _ _)
      (World.shaped_of_ZipB (by kernel_rfl) (by kernel_rfl)) (by kernel_rfl) (by kernel_rfl) (by kernel_rfl)
      (by rw [MakeChecks.laidMetH_plain _ _ _ (by kernel_rfl)]; exact laidMet_laidAll _ (by kernel_rfl) (by kernel_rfl))) ?_
  intro W base args ds gs before hval0 hW hcnd hsz hL hsh _
  have hLib := lib_of hsh hL
  have hTab := pow_of hL
  have hval : ∀ (j : Nat) t v, Tryz.f5.params[j]? = some t → args[j]? = some v → Value.okWide Tryz.prog W .any base t v := hval0
  have hW' := hW
  obtain ⟨p, q, hA0, hV, rfl, hfz, hnd⟩ := hW
  have hA : DataW.TrodAll enc Tryz.prog W 0 (fun _ => true) true Tryz.f5.params.toList args.toList ds p := hA0
  rw [Tryz.params5] at hA hval
  obtain ⟨rfl, rfl⟩ := trodVars_none hV
  clear hA0 hval0
  simp only [List.append_nil] at hW'
  have hlt := hW'.lt
  have hA1 := hA
  have hsz1 : (DataW.weightsEach Tryz.prog (Tryz.f5.params.toList ++ []) (ds ++ [])).all (· ≤ reachBytes) = true := hsz
  rw [Tryz.params5, List.append_nil, List.append_nil] at hsz1
  have hrd := rdg_all _ _ _ _ hA1 (fun n hn => by simpa using List.all_eq_true.1 hsz1 n hn)
  obtain ⟨v0, vs0, d0, ds0, p0, q0, hargs, rfl, rfl, h0, r0⟩ := trodAll_cons hA
  obtain ⟨rfl, rfl, rfl⟩ := trodAll_nil r0
  obtain rfl : args = #[v0] := by cases args; simp_all
  have g0 := hrd 0 25 v0 rfl rfl
  obtain ⟨cs0, rfl, hz0⟩ := ok_agg (by first | exact .inl ⟨_, Tryz.underlying25⟩ | exact .inr ⟨_, _, Tryz.underlying25⟩) (hval 0 25 v0 rfl rfl)
  obtain ⟨T, hT, HT, HX⟩ := x_of hz0 g0
  injection hT with hT
  subst hT
  refine (walk T _ W HT HX hLib hTab).mono fun e W' ⟨he, bel⟩ => ?_
  subst he
  exact ⟨_, rfl, _, _, _, [], _, [], hW', trodAll_mk1 (shut_bool Tryz.underlying4 _), trodAll_below laidOut bel [25] _ _ _ (by kernel_rfl) hA1 hlt, rfl, bel.frame _, fun h => by cases h⟩
theorem over : Rows.ShowBackSaid :=
  OpenClaim.holds_of_wide 5 Tryz.f5 rfl rfl rfl rfl rfl rfl rfl ⟨rfl, rfl, rfl, rfl, rfl⟩ rfl rfl rfl rfl rfl (by kernel_rfl) Tryz.func5 (by kernel_rfl)
    (of_decide_eq_true (by kernel_rfl)) (by unfold Func.isWrapper; first | (rw [if_pos (by decide +kernel)]; kernel_rfl) | (rw [if_neg (by decide +kernel)]; exact ⟨rfl, rfl⟩))
    (fun os started H enc _ => lifted os started H enc)
theorem proved : Rows.ShowBackCardSaid :=
  Claim7.holds_tied_plain_at .later [] [.data, .data, .data, .data, .sentinel, .sentinel, .pinned] true (true, "81d537aab9978a2ad0b26c335d74c8e8c208e5cdf99a313e378e8ca58d19d8c9") true
    over (fun _ h => by cases h) (by kernel_rfl) (fun _ h => by cases h) showBack_row_tie rfl ⟨rfl, rfl⟩ (by kernel_rfl) rfl
    (fun f fn hf hfn => by
      obtain rfl : f = 5 := Option.some.inj ((show Tryz.prog.funcNamed Rows.showBackRow.func = some 5 by kernel_rfl).symm.trans hf) |>.symm
      obtain rfl : fn = Tryz.f5 := (Option.some.inj (Tryz.func5.symm.trans hfn)).symm
      exact ⟨by kernel_rfl, fun j t ht => by
        rw [Tryz.params5] at ht
        have hm : t ∈ [25] := by simpa using Array.mem_of_getElem? ht
        have hall : ([25].all fun u => !Tryz.prog.wantsStandIn u) = true := by kernel_rfl
        exact (show Tryz.prog.wantsStandIn t = false by simpa using List.all_eq_true.1 hall t hm)⟩)
    (by kernel_rfl)
#print axioms proved
end Go.Proofs.YtjgdkiikkgdbaaaGreatDoor.showBack
