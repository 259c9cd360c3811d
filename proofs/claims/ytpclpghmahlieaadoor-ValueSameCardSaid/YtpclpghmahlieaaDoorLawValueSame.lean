import Derived.Test.YtpclpghmahlieaaDoorRdg
import Derived.Test.YtpclpghmahlieaaDoorTie
import Derived.Test.YtpclpghmahlieaaDoorCards
import Derived.SevenTiedAt
import Derived.LaidMore
import Derived.Lay
import Derived.Stop.Joined
import Derived.Test.YtpclpghmahlieaaDoorValLaid
import Derived.Test.YtpclpghmahlieaaDoorValCSame
import Derived.Test.YtpclpghmahlieaaDoorValSame
namespace Go.Proofs.YtpclpghmahlieaaDoor.valueSame
open Go.ChangeShapes Go.WideShapes Go.ChangeAt Go.RowKit
open Go.ChangeMaps (open_string shut_string)
set_option linter.unusedVariables false
set_option maxHeartbeats 8000000 in
set_option maxRecDepth 20000 in
theorem walk (T U : VT) (S : Nat → Prop) (w : World) (H : ValAt w S T) (H' : ValAt w S U) (htab : Tab w) : Calls Tryd.prog 4 #[.agg #[.int .i64 T.kind, .int .u64 T.num, .string T.text, .slice T.ia T.len T.cap], .agg #[.int .i64 U.kind, .int .u64 U.num, .string U.text, .slice U.ia U.len U.cap]] w fun e w' => e = .returned (.bool true) ∧ Below w.heap.size w w' := by
  have HW := Lib.hid (fun wx (hb : Below w.heap.size w wx) => awake8_any wx (htab.next hb))
  have HMT := Lib.hid (fun wx (hb : Below w.heap.size w wx) => refMuch_any S T 0 wx (H.next hb) (by omega))
  have HMU := Lib.hid (fun wx (hb : Below w.heap.size w wx) => refMuch_any S U 0 wx (H'.next hb) (by omega))
  have HS := Lib.hid (fun wx (hb : Below w.heap.size w wx) => same8_any S S T U wx (H.next hb) (H'.next hb))
  have HR := Lib.hid (fun wx (hb : Below w.heap.size w wx) => refSame_any S S T U wx (H.next hb) (H'.next hb))
  have HA := Lib.hid (fun wx (hb : Below w.heap.size w wx) => same8_any S S T T wx (H.next hb) (H.next hb))
  have HQ1 := Lib.hid (show ((w.alloc (valO T)).alloc (valO U)).heap[w.heap.size]? = some (valO T) from alloc_old (alloc_at w _))
  have HQ2 := Lib.hid (show ((w.alloc (valO T)).alloc (valO U)).heap[w.heap.size + 1]? = some (valO U) by have := alloc_at (w.alloc (valO T)) (valO U); simpa using this)
  have HB := Lib.hid (((Below.refl w.heap.size w).alloc (Nat.le_refl _) (valO T)).alloc (by simp) (valO U))
  unfold RMuchTo at HMT HMU
  unfold CSameTo at HS HA
  unfold RSameTo at HR
  rw [sameT_refl T] at HA
  rw [show ((0 : Nat) : Int) = 0 from rfl] at HMT HMU
  obtain ⟨q, hq⟩ : ∃ q, sameT T U = q := ⟨_, rfl⟩
  rw [hq] at HS HR
  unfold valO at HB HQ1 HQ2
  clear H H' htab hq
  cases hm : muchT T 0 with
  | true =>
    rw [hm] at HMT
    clear hm HS HR HA
    go_enter Tryd.func4, Tryd.ntmps4
    go_wp2_with (first
      | (go_at_call 6; refine (HMT.out _ HB.out).mono ?_; rintro e w1 ⟨rfl, hb1⟩; have HB1 := Lib.hid (below_step8' HB.out hb1); clear hb1)
      | (go_at_call 7; refine (HW.out _ HB1.out).mono ?_; rintro e w2 ⟨rfl, hb2⟩))
    go_ret
    exact ⟨rfl, below_step8' HB1.out hb2⟩
  | false =>
    rw [hm] at HMT
    clear hm
    cases hm : muchT U 0 with
    | true =>
      rw [hm] at HMU
      clear hm HS HR HA
      go_enter Tryd.func4, Tryd.ntmps4
      go_wp2_with (first
        | (go_at_call 6; (with_reducible refine (HMT.out _ HB.out).mono ?_); rintro e w1 ⟨rfl, hb1⟩; have HB1 := Lib.hid (below_step8' HB.out hb1); have HX1 := Lib.hid (box_keep HQ1.out hb1); have HX2 := Lib.hid (box_keep HQ2.out hb1); have c0 : w1.cell? ⟨w.heap.size, 0, none⟩ = some (.int .i64 T.kind) := cell_at HX1.out rfl; have c1 : w1.cell? ⟨w.heap.size, 1, none⟩ = some (.int .u64 T.num) := cell_at HX1.out rfl; have c2 : w1.cell? ⟨w.heap.size, 2, none⟩ = some (.string T.text) := cell_at HX1.out rfl; have c3 : w1.cell? ⟨w.heap.size, 3, none⟩ = some (.slice T.ia T.len T.cap) := cell_at HX1.out rfl; have c4 : w1.cell? ⟨w.heap.size + 1, 0, none⟩ = some (.int .i64 U.kind) := cell_at HX2.out rfl; have c5 : w1.cell? ⟨w.heap.size + 1, 1, none⟩ = some (.int .u64 U.num) := cell_at HX2.out rfl; have c6 : w1.cell? ⟨w.heap.size + 1, 2, none⟩ = some (.string U.text) := cell_at HX2.out rfl; have c7 : w1.cell? ⟨w.heap.size + 1, 3, none⟩ = some (.slice U.ia U.len U.cap) := cell_at HX2.out rfl; clear hb1)
        | (go_at_call 6; (with_reducible refine (HMU.out _ HB1.out).mono ?_); rintro e w2 ⟨rfl, hb2⟩; have HB2 := Lib.hid (below_step8' HB1.out hb2); clear hb2)
        | (go_at_call 7; refine (HW.out _ HB2.out).mono ?_; rintro e w3 ⟨rfl, hb3⟩))
      go_ret
      exact ⟨rfl, below_step8' HB2.out hb3⟩
    | false =>
      rw [hm] at HMU
      clear hm
      go_enter Tryd.func4, Tryd.ntmps4
      go_upto_region 3 with (first
        | (go_at_call 6; (with_reducible refine (HMT.out _ HB.out).mono ?_); rintro e w1 ⟨rfl, hb1⟩; have HB1 := Lib.hid (below_step8' HB.out hb1); have HX1 := Lib.hid (box_keep HQ1.out hb1); have HX2 := Lib.hid (box_keep HQ2.out hb1); have c0 : w1.cell? ⟨w.heap.size, 0, none⟩ = some (.int .i64 T.kind) := cell_at HX1.out rfl; have c1 : w1.cell? ⟨w.heap.size, 1, none⟩ = some (.int .u64 T.num) := cell_at HX1.out rfl; have c2 : w1.cell? ⟨w.heap.size, 2, none⟩ = some (.string T.text) := cell_at HX1.out rfl; have c3 : w1.cell? ⟨w.heap.size, 3, none⟩ = some (.slice T.ia T.len T.cap) := cell_at HX1.out rfl; have c4 : w1.cell? ⟨w.heap.size + 1, 0, none⟩ = some (.int .i64 U.kind) := cell_at HX2.out rfl; have c5 : w1.cell? ⟨w.heap.size + 1, 1, none⟩ = some (.int .u64 U.num) := cell_at HX2.out rfl; have c6 : w1.cell? ⟨w.heap.size + 1, 2, none⟩ = some (.string U.text) := cell_at HX2.out rfl; have c7 : w1.cell? ⟨w.heap.size + 1, 3, none⟩ = some (.slice U.ia U.len U.cap) := cell_at HX2.out rfl; clear hb1)
        | (go_at_call 6; (with_reducible refine (HMU.out _ HB1.out).mono ?_); rintro e w2 ⟨rfl, hb2⟩; have HB2 := Lib.hid (below_step8' HB1.out hb2); have HY1 := Lib.hid (box_keep HX1.out hb2); have HY2 := Lib.hid (box_keep HX2.out hb2); clear c0 c1 c2 c3 c4 c5 c6 c7 hb2))
      have c0 : w2.cell? ⟨w.heap.size, 0, none⟩ = some (.int .i64 T.kind) := cell_at HY1.out rfl
      have c1 : w2.cell? ⟨w.heap.size, 1, none⟩ = some (.int .u64 T.num) := cell_at HY1.out rfl
      have c2 : w2.cell? ⟨w.heap.size, 2, none⟩ = some (.string T.text) := cell_at HY1.out rfl
      have c3 : w2.cell? ⟨w.heap.size, 3, none⟩ = some (.slice T.ia T.len T.cap) := cell_at HY1.out rfl
      have c4 : w2.cell? ⟨w.heap.size + 1, 0, none⟩ = some (.int .i64 U.kind) := cell_at HY2.out rfl
      have c5 : w2.cell? ⟨w.heap.size + 1, 1, none⟩ = some (.int .u64 U.num) := cell_at HY2.out rfl
      have c6 : w2.cell? ⟨w.heap.size + 1, 2, none⟩ = some (.string U.text) := cell_at HY2.out rfl
      have c7 : w2.cell? ⟨w.heap.size + 1, 3, none⟩ = some (.slice U.ia U.len U.cap) := cell_at HY2.out rfl
      have HB := HB2
      clear HB1 HX1 HX2 HMT HMU
      cases q
      all_goals
        go_wp2_with fail
        go_region_held3 (fun w' => w'.cell? ⟨w.heap.size, 0, none⟩ = some (.int .i64 T.kind) ∧ w'.cell? ⟨w.heap.size, 1, none⟩ = some (.int .u64 T.num) ∧ w'.cell? ⟨w.heap.size, 2, none⟩ = some (.string T.text) ∧ w'.cell? ⟨w.heap.size, 3, none⟩ = some (.slice T.ia T.len T.cap) ∧ w'.cell? ⟨w.heap.size + 1, 0, none⟩ = some (.int .i64 U.kind) ∧ w'.cell? ⟨w.heap.size + 1, 1, none⟩ = some (.int .u64 U.num) ∧ w'.cell? ⟨w.heap.size + 1, 2, none⟩ = some (.string U.text) ∧ w'.cell? ⟨w.heap.size + 1, 3, none⟩ = some (.slice U.ia U.len U.cap) ∧ Hid (Below w.heap.size w w'))
          (first | exact ⟨c0, c1, c2, c3, c4, c5, c6, c7, Lib.hid HB.out.drew⟩ | exact ⟨c0, c1, c2, c3, c4, c5, c6, c7, HB⟩ | fail)
          (first
            | (go_at_call 17; (with_reducible refine (HS.out _ (by first | exact HB.out | exact HB.out.drew)).mono ?_); rintro e w3 ⟨rfl, hb3⟩; have HB := Lib.hid (below_step8' (by first | exact HB.out | exact HB.out.drew) hb3); have c0 := keep hb3 (by exact c0); have c1 := keep hb3 (by exact c1); have c2 := keep hb3 (by exact c2); have c3 := keep hb3 (by exact c3); have c4 := keep hb3 (by exact c4); have c5 := keep hb3 (by exact c5); have c6 := keep hb3 (by exact c6); have c7 := keep hb3 (by exact c7); clear hb3)
            | (go_at_call 17; (with_reducible refine (HA.out _ (by first | exact HB.out | exact HB.out.drew)).mono ?_); rintro e w3 ⟨rfl, hb3⟩; have HB := Lib.hid (below_step8' (by first | exact HB.out | exact HB.out.drew) hb3); have c0 := keep hb3 (by exact c0); have c1 := keep hb3 (by exact c1); have c2 := keep hb3 (by exact c2); have c3 := keep hb3 (by exact c3); have c4 := keep hb3 (by exact c4); have c5 := keep hb3 (by exact c5); have c6 := keep hb3 (by exact c6); have c7 := keep hb3 (by exact c7); clear hb3)
            | (go_at_call 16; refine (HR.out _ (by first | exact HB.out | exact HB.out.drew)).mono ?_; rintro e w3 ⟨rfl, hb3⟩; have HB := Lib.hid (below_step8' (by first | exact HB.out | exact HB.out.drew) hb3); have c0 := keep hb3 (by exact c0); have c1 := keep hb3 (by exact c1); have c2 := keep hb3 (by exact c2); have c3 := keep hb3 (by exact c3); have c4 := keep hb3 (by exact c4); have c5 := keep hb3 (by exact c5); have c6 := keep hb3 (by exact c6); have c7 := keep hb3 (by exact c7); clear hb3)
            | (go_at_call 7; refine (HW.out _ (by first | exact HB.out | exact HB.out.drew)).mono ?_; rintro e w3 ⟨rfl, hb3⟩; have HB := Lib.hid (below_step8' (by first | exact HB.out | exact HB.out.drew) hb3); have c0 := keep hb3 (by exact c0); have c1 := keep hb3 (by exact c1); have c2 := keep hb3 (by exact c2); have c3 := keep hb3 (by exact c3); have c4 := keep hb3 (by exact c4); have c5 := keep hb3 (by exact c5); have c6 := keep hb3 (by exact c6); have c7 := keep hb3 (by exact c7); clear hb3))
        go_wp2
        go_ret
        exact ⟨rfl, HB.out⟩
set_option maxRecDepth 100000 in
theorem lifted (os : Os) (started : os.Started) (H : Type) (enc : TypeId × Value → H) :
    ReturnsInHanded {} Tryd.checked os 4 .any (fun w args => (Rows.valueSameSpec.pre enc Tryd.prog Tryd.f4 Rows.valueSameRow.domain false w args ∧ laidMetH Tryd.prog Rows.valueSameRow.laid w) ∧ sizedMet enc Tryd.prog Tryd.f4 (OpenSpec.ofChange Rows.valueSameSpec) false w args)
      (Rows.valueSameSpec.post enc Tryd.prog Tryd.f4 false true false false) := by
  refine returnsInHanded_of_change_and (C := Tryd.checked) (X := fun w _ => laidMetH Tryd.prog Rows.valueSameRow.laid w) (fun _ _ _ hh h => h.of_heap hh) own started (by kernel_rfl) Tryd.func4
    (ChangeSpec.witness_shaped (enc := enc) (C := Tryd.checked) (os := os) (X := fun w _ => laidMetH Tryd.prog Rows.valueSameRow.laid w) false (World.laidAll Tryd.prog os Rows.valueSameRow.laid) #[.agg #[.int .i64 0, .int .u64 0, .string ⟨#[]⟩, .slice none 0 0], .agg #[.int .i64 0, .int .u64 0, .string ⟨#[]⟩, .slice none 0 0]] 8 (World.laidAll_os _ _ _)
      (World.shaped_of_ZipB (by kernel_rfl) (by kernel_rfl)) (by kernel_rfl) (by kernel_rfl) (by kernel_rfl)
      (by rw [MakeChecks.laidMetH_plain _ _ _ (by kernel_rfl)]; exact laidMet_laidAll _ (by kernel_rfl) (by kernel_rfl))) ?_
  intro W base args ds gs before hval0 hW hcnd hsz hL _
  have hval : ∀ (j : Nat) t v, Tryd.f4.params[j]? = some t → args[j]? = some v → Value.okWide Tryd.prog W .any base t v := hval0
  have hW' := hW
  obtain ⟨p, q, hA0, hV, rfl, hfz, hnd⟩ := hW
  have hA : DataW.TrodAll enc Tryd.prog W 0 (fun _ => true) true Tryd.f4.params.toList args.toList ds p := hA0
  rw [Tryd.params4] at hA hval
  obtain ⟨rfl, rfl⟩ := trodVars_none hV
  clear hA0 hval0
  simp only [List.append_nil] at hW'
  have hlt := hW'.lt
  have hA1 := hA
  have hsz1 : (DataW.weightsEach Tryd.prog (Tryd.f4.params.toList ++ []) (ds ++ [])).all (· ≤ reachBytes) = true := hsz
  rw [Tryd.params4, List.append_nil, List.append_nil] at hsz1
  have hrd := rdg_all _ _ _ _ hA1 (fun n hn => by simpa using List.all_eq_true.1 hsz1 n hn)
  obtain ⟨v0, vs0, d0, ds0, p0, q0, hargs, rfl, rfl, h0, r0⟩ := trodAll_cons hA
  obtain ⟨v1, vs1, d1, ds1, p1, q1, rfl, rfl, rfl, h1, r1⟩ := trodAll_cons r0
  obtain ⟨rfl, rfl, rfl⟩ := trodAll_nil r1
  obtain rfl : args = #[v0, v1] := by cases args; simp_all
  have g0 := hrd 0 25 v0 rfl rfl
  obtain ⟨cs0, rfl, hz0⟩ := ok_agg (by first | exact .inl ⟨_, Tryd.underlying25⟩ | exact .inr ⟨_, _, Tryd.underlying25⟩) (hval 0 25 v0 rfl rfl)
  have g1 := hrd 1 25 v1 rfl rfl
  obtain ⟨cs1, rfl, hz1⟩ := ok_agg (by first | exact .inl ⟨_, Tryd.underlying25⟩ | exact .inr ⟨_, _, Tryd.underlying25⟩) (hval 1 25 v1 rfl rfl)
  obtain ⟨T, hT, HT⟩ := val_of hz0 g0
  obtain ⟨U, hU, HU⟩ := val_of hz1 g1
  unfold valV at hT hU
  injection hT with hT
  injection hU with hU
  subst hT
  subst hU
  refine (walk T U _ W HT HU (tab_of hL)).mono fun e W' ⟨he, bel⟩ => ?_
  subst he
  exact ⟨_, rfl, _, _, _, [], _, [], hW', trodAll_mk1 (shut_bool Tryd.underlying4 _), trodAll_below laidOut bel [25, 25] _ _ _ (by kernel_rfl) hA1 hlt, rfl, bel.frame _, fun h => by cases h⟩
theorem over : Rows.ValueSameSaid :=
  OpenClaim.holds_of_wide 4 Tryd.f4 rfl rfl rfl rfl rfl rfl rfl ⟨rfl, rfl, rfl, rfl, rfl⟩ rfl rfl rfl rfl rfl (by kernel_rfl) Tryd.func4 (by kernel_rfl)
    (of_decide_eq_true (by kernel_rfl)) (by unfold Func.isWrapper; first | (rw [if_pos (by decide +kernel)]; kernel_rfl) | (rw [if_neg (by decide +kernel)]; exact ⟨rfl, rfl⟩))
    (fun os started H enc _ => lifted os started H enc)
theorem proved : Rows.ValueSameCardSaid :=
  Claim7.holds_tied_plain_at .later [] [.data, .data, .data] true (true, "5e6ae0d194632d9e128bcbe1ef7e6cfb1fdef7f21d416b23296765c354abf95a") false
    over (fun _ h => by cases h) (by kernel_rfl) (fun _ h => by cases h) valueSame_row_tie rfl ⟨rfl, rfl⟩ (by kernel_rfl) rfl
    (fun f fn hf hfn => by
      obtain rfl : f = 4 := Option.some.inj ((show Tryd.prog.funcNamed Rows.valueSameRow.func = some 4 by kernel_rfl).symm.trans hf) |>.symm
      obtain rfl : fn = Tryd.f4 := (Option.some.inj (Tryd.func4.symm.trans hfn)).symm
      exact ⟨by kernel_rfl, fun j t ht => by
        rw [Tryd.params4] at ht
        have hm : t ∈ [25, 25] := by simpa using Array.mem_of_getElem? ht
        have hall : ([25, 25].all fun u => !Tryd.prog.wantsStandIn u) = true := by kernel_rfl
        exact (show Tryd.prog.wantsStandIn t = false by simpa using List.all_eq_true.1 hall t hm)⟩)
    (by kernel_rfl)
#print axioms proved
end Go.Proofs.YtpclpghmahlieaaDoor.valueSame
