/- ShowTells: for every tree the law returns true, and its argument reads as before. No condition. -/
import Derived.Test.YtjgdkiikkgdbaaaGreatDoorTie
import Derived.SevenTiedAt
import Derived.Lay
import Derived.Stop.Joined
import Derived.Test.YtjgdkiikkgdbaaaGreatDoorQ62
namespace Go.Proofs.YtjgdkiikkgdbaaaGreatDoor.showTells
open Go.ChangeShapes Go.WideShapes Go.ChangeAt Go.RowKit
open Go.ChangeMaps (open_string shut_string)
set_option linter.unusedVariables false
set_option linter.unusedSimpArgs false
set_option maxHeartbeats 4000000 in
set_option maxRecDepth 100000 in
theorem walk (T : XT) (S : Nat → Prop) (w : World) (H : XAt w S T) (HX : XTx T) (hV : LibAt w) (hT : Tab w) : Calls Tryz.prog 3 #[.agg #[.int .i64 T.op, .int .i64 T.rel, .slice T.aa T.an T.ac, .slice T.ka T.kn T.kc]] w fun e w' => e = .returned (.bool true) ∧ Below w.heap.size w w' := by
  have HG := Lib.hid (fun wx (hb : Below w.heap.size w wx) => great_any S T 0 wx (H.next hb) HX (by omega))
  have HAW := Lib.hid (fun wx (hb : Below w.heap.size w wx) => awake16 wx (hV.held hb) (hT.next hb))
  unfold RGreatTo at HG
  rw [show ((0 : Nat) : Int) = 0 from rfl] at HG
  cases hq : greatX T 0 with
  | true =>
    rw [hq] at HG
    clear H HX hV hT hq
    go_enter Tryz.func3, Tryz.ntmps3
    go_wp2_with (first
      | (go_at_call 7; refine (HAW.out _ HB1.out).mono ?_; rintro e w2 ⟨rfl, hb⟩; have HB2 := Lib.hid (bthN HB1.out hb); clear hb)
      | (go_at_call 6; refine (HG.out _ bel1).mono ?_; rintro e w1 ⟨rfl, hb⟩; have HB1 := Lib.hid (bthN bel1 hb); clear hb))
    go_ret
    exact ⟨rfl, HB2.out⟩
  | false =>
    rw [hq] at HG
    have HC := Lib.hid (fun wx (hb : Below w.heap.size w wx) => cText_any T wx ⟨S, H.next hb⟩ HX hq (hV.held hb) (hT.next hb))
    have HR := Lib.hid (fun wx (hb : Below w.heap.size w wx) => rText_any T wx ⟨S, H.next hb⟩ HX hq)
    unfold CTextTo at HC
    unfold RTextC at HR
    generalize ansS T = s at *
    generalize ansEr T = k at *
    clear H HX hV hT hq
    go_enter Tryz.func3, Tryz.ntmps3
    go_wp2_with (first
      | (go_at_call 7; refine (HAW.out _ HB3.out).mono ?_; rintro e w4 ⟨rfl, hb⟩; have HB4 := Lib.hid (bthN HB3.out hb); clear hb)
      | (go_at_call 9; refine (HR.out _ HB2.out).mono ?_; rintro e w3 ⟨rfl, hb⟩; have HB3 := Lib.hid (bthN HB2.out hb); clear hb)
      | (go_at_call 8; refine (HC.out _ HB1.out).mono ?_; rintro e w2 ⟨rfl, hb⟩; have HB2 := Lib.hid (bthN HB1.out hb); have Q2 := Lib.hid (rowKeep hb Q1.out); have q2d0 : w2.cell? ⟨w.heap.size, 0, none⟩ = some (.int .i64 T.op) := cell_at Q2.out rfl; have q2d1 : w2.cell? ⟨w.heap.size, 1, none⟩ = some (.int .i64 T.rel) := cell_at Q2.out rfl; have q2d2 : w2.cell? ⟨w.heap.size, 2, none⟩ = some (.slice T.aa T.an T.ac) := cell_at Q2.out rfl; have q2d3 : w2.cell? ⟨w.heap.size, 3, none⟩ = some (.slice T.ka T.kn T.kc) := cell_at Q2.out rfl; clear hb)
      | (go_at_call 6; refine (HG.out _ bel1).mono ?_; rintro e w1 ⟨rfl, hb⟩; have HB1 := Lib.hid (bthN bel1 hb); have Q1 := Lib.hid (rowKeep hb (alloc_at w _)); have q1d0 : w1.cell? ⟨w.heap.size, 0, none⟩ = some (.int .i64 T.op) := cell_at Q1.out rfl; have q1d1 : w1.cell? ⟨w.heap.size, 1, none⟩ = some (.int .i64 T.rel) := cell_at Q1.out rfl; have q1d2 : w1.cell? ⟨w.heap.size, 2, none⟩ = some (.slice T.aa T.an T.ac) := cell_at Q1.out rfl; have q1d3 : w1.cell? ⟨w.heap.size, 3, none⟩ = some (.slice T.ka T.kn T.kc) := cell_at Q1.out rfl; clear hb))
    go_ret
    exact ⟨rfl, HB4.out⟩
set_option maxRecDepth 100000 in
theorem lifted (os : Os) (started : os.Started) (H : Type) (enc : TypeId × Value → H) :
    ReturnsInHanded {} Tryz.checked os 3 .any (fun w args => (Rows.showTellsSpec.pre enc Tryz.prog Tryz.f3 Rows.showTellsRow.domain false w args ∧ laidMetH Tryz.prog Rows.showTellsRow.laid w) ∧ sizedMet enc Tryz.prog Tryz.f3 (OpenSpec.ofChange Rows.showTellsSpec) false w args)
      (Rows.showTellsSpec.post enc Tryz.prog Tryz.f3 false true false false) := by
  refine handed_shaped_and (C := Tryz.checked) (X := fun w _ => laidMetH Tryz.prog Rows.showTellsRow.laid w) (fun _ _ _ hh h => h.of_heap hh) own started (by kernel_rfl) Tryz.func3
    (ChangeSpec.witness_shaped (enc := enc) (C := Tryz.checked) (os := os) (X := fun w _ => laidMetH Tryz.prog Rows.showTellsRow.laid w) false (World.laidAll Tryz.prog os Rows.showTellsRow.laid) #[.agg #[.int .i64 0, .int .i64 0, .slice none 0 0, .slice none 0 0]] 8 (World.laidAll_os _ _ _)
      (World.shaped_of_ZipB (by kernel_rfl) (by kernel_rfl)) (by kernel_rfl) (by kernel_rfl) (by kernel_rfl)
      (by rw [MakeChecks.laidMetH_plain _ _ _ (by kernel_rfl)]; exact laidMet_laidAll _ (by kernel_rfl) (by kernel_rfl))) ?_
  intro W base args ds gs before hval0 hW hcnd hsz hL hsh _
  have hLib := lib_of hsh hL
  have hTab := pow_of hL
  have hval : ∀ (j : Nat) t v, Tryz.f3.params[j]? = some t → args[j]? = some v → Value.okWide Tryz.prog W .any base t v := hval0
  have hW' := hW
  obtain ⟨p, q, hA0, hV, rfl, hfz, hnd⟩ := hW
  have hA : DataW.TrodAll enc Tryz.prog W 0 (fun _ => true) true Tryz.f3.params.toList args.toList ds p := hA0
  rw [Tryz.params3] at hA hval
  obtain ⟨rfl, rfl⟩ := trodVars_none hV
  clear hA0 hval0
  simp only [List.append_nil] at hW'
  have hlt := hW'.lt
  have hA1 := hA
  have hsz1 : (DataW.weightsEach Tryz.prog (Tryz.f3.params.toList ++ []) (ds ++ [])).all (· ≤ reachBytes) = true := hsz
  rw [Tryz.params3, List.append_nil, List.append_nil] at hsz1
  have hrd := rdg_all _ _ _ _ hA1 (fun n hn => by simpa using List.all_eq_true.1 hsz1 n hn)
  obtain ⟨v0, vs0, d0, ds0, p0, q0, hargs, rfl, rfl, h0, r0⟩ := trodAll_cons hA
  obtain ⟨rfl, rfl, rfl⟩ := trodAll_nil r0
  obtain rfl : args = #[v0] := by cases args; simp_all
  have g0 := hrd 0 25 v0 rfl rfl
  obtain ⟨cs0, rfl, hz0⟩ := ok_agg (by first | exact .inl ⟨_, Tryz.underlying25⟩ | exact .inr ⟨_, _, Tryz.underlying25⟩) (hval 0 25 v0 rfl rfl)
  obtain ⟨T, hT, HT, HX⟩ := x_of hz0 g0
  injection hT with hT
  subst hT
  refine (walk T _ W HT HX hLib hTab).mono fun e W' ⟨he, bel⟩ => ?_
  subst he
  exact ⟨_, rfl, _, _, _, [], _, [], hW', trodAll_mk1 (shut_bool Tryz.underlying4 _), trodAll_below laidOut bel [25] _ _ _ (by kernel_rfl) hA1 hlt, rfl, bel.frame _, fun h => by cases h⟩
theorem over : Rows.ShowTellsSaid :=
  OpenClaim.holds_of_wide 3 Tryz.f3 rfl rfl rfl rfl rfl rfl rfl ⟨rfl, rfl, rfl, rfl, rfl⟩ rfl rfl rfl rfl rfl (by kernel_rfl) Tryz.func3 (by kernel_rfl)
    (of_decide_eq_true (by kernel_rfl)) (by unfold Func.isWrapper; first | (rw [if_pos (by decide +kernel)]; kernel_rfl) | (rw [if_neg (by decide +kernel)]; exact ⟨rfl, rfl⟩))
    (fun os started H enc _ => lifted os started H enc)
theorem proved : Rows.ShowTellsCardSaid :=
  Claim7.holds_tied_plain_at .later [] [.data, .data, .data, .data, .sentinel, .sentinel, .pinned] true (true, "81d537aab9978a2ad0b26c335d74c8e8c208e5cdf99a313e378e8ca58d19d8c9") true
    over (fun _ h => by cases h) (by kernel_rfl) (fun _ h => by cases h) showTells_row_tie rfl ⟨rfl, rfl⟩ (by kernel_rfl) rfl
    (fun f fn hf hfn => by
      obtain rfl : f = 3 := Option.some.inj ((show Tryz.prog.funcNamed Rows.showTellsRow.func = some 3 by kernel_rfl).symm.trans hf) |>.symm
      obtain rfl : fn = Tryz.f3 := (Option.some.inj (Tryz.func3.symm.trans hfn)).symm
      exact ⟨by kernel_rfl, fun j t ht => by
        rw [Tryz.params3] at ht
        have hm : t ∈ [25] := by simpa using Array.mem_of_getElem? ht
        have hall : ([25].all fun u => !Tryz.prog.wantsStandIn u) = true := by kernel_rfl
        exact (show Tryz.prog.wantsStandIn t = false by simpa using List.all_eq_true.1 hall t hm)⟩)
    (by kernel_rfl)
#print axioms proved
end Go.Proofs.YtjgdkiikkgdbaaaGreatDoor.showTells
