/- BoundsEnds: for every list of types, every type and every place the law returns true, and its arguments read as before. No condition. -/
import Derived.Test.YtblnhoagdnnjdaaGreatRdg
import Derived.Test.YtblnhoagdnnjdaaGreatBoundsRefEnd
import Derived.Test.YtblnhoagdnnjdaaGreatBoundsOpenTop
namespace Go.Proofs.YtblnhoagdnnjdaaGreat.boundsEnds
open Go.ChangeShapes Go.WideShapes Go.ChangeAt Go.RowKit
open Go.ChangeMaps (open_string shut_string)
set_option linter.unusedVariables false

set_option maxRecDepth 100000 in
set_option maxHeartbeats 4000000 in
theorem walk (ao : Option Addr) (len cap : Nat) (L : Nat → TypeV) (t at' : Int) (hcap : len ≤ cap) (hm : len ≤ 140737488351232) (w : World) (H : ∀ i, i < len → TypeAt w ao i (L i)) :
    Calls Tryz.prog 3 #[.slice ao len cap, .int .i64 t, .int .i64 at'] w fun e w' => e = .returned (.bool true) ∧ Below w.heap.size w w' := by
  have hg := fun w1 (hb : Below w.heap.size w w1) => great_any ao len cap L hm w1 (hold H hb)
  have HR := Lib.hid (Below.refl w.heap.size w)
  cases hbig : greatB L len with
  | true =>
    rw [hbig] at hg
    have HG := Lib.hid hg
    clear hg H hbig
    go_enter Tryz.func3, Tryz.ntmps3
    go_wp2_with (first
      | (go_at_call 4; refine (HG.out _ HR.out).mono ?_; rintro e w1 ⟨rfl, rfl⟩)
      | (go_at_call 5; refine (awake7_any _).mono ?_; rintro e w9 ⟨rfl, hb9⟩; have HR9 := Lib.hid (below_step6 HR.out hb9); clear hb9))
    go_ret
    exact ⟨rfl, HR9.out⟩
  | false =>
    have hl := great_lt hbig
    rw [hbig] at hg
    have hc1 := fun w1 (hb : Below w.heap.size w w1) => refCheck_any ao len cap L (by omega) w1 (hold H hb)
    unfold faultV at hc1
    have hms := fun w1 (hb : Below w.heap.size w w1) => most_any ao len cap L t at' (by omega) hcap w1 (hold H hb)
    have hls := fun w1 (hb : Below w.heap.size w w1) => least_any ao len cap L t at' (by omega) hcap w1 (hold H hb)
    have hem := fun w1 (hb : Below w.heap.size w w1) => refEnd_any ao len cap L t at' true (by omega) w1 (hold H hb)
    have hel := fun w1 (hb : Below w.heap.size w w1) => refEnd_any ao len cap L t at' false (by omega) w1 (hold H hb)
    have hop := fun w1 (hb : Below w.heap.size w w1) => open7_any ao len cap L t (by omega) hcap w1 (hold H hb)
    obtain ⟨x1, hx1⟩ : ∃ x, boundA L (openT L len) len t at' true = x := ⟨_, rfl⟩
    obtain ⟨x0, hx0⟩ : ∃ x, boundA L (openT L len) len t at' false = x := ⟨_, rfl⟩
    rw [hx1] at hms hem
    rw [hx0] at hls hel
    have HM := Lib.hid hms
    have HL := Lib.hid hls
    have HEM := Lib.hid hem
    have HEL := Lib.hid hel
    have HG := Lib.hid hg
    have hfe := fault_err
    obtain ⟨F, hF⟩ : ∃ F, fAt (oneR L len) len = F := ⟨_, rfl⟩
    rw [hF] at hc1
    clear hms hls hem hel hg hx1 hx0 hbig hF
    cases hT : hasT L len t with
    | true =>
      obtain ⟨k, rfl, hk, hv⟩ := hasT_in hT
      have hok := ok_all hv k hk
      rw [hv] at hc1
      have hro := fun w1 (hb : Below w.heap.size w w1) => refOpen8_any ao len cap L k (by omega) hk (fun h => by have := hok.tag h; omega) w1 (hold H hb)
      have ho : openA L len (k : Nat) = (((L k).kind == 14) && openT L len k) := by unfold openA; rw [hT]; rfl
      rw [ho] at hop
      obtain ⟨o, hoo⟩ : ∃ o, (((L k).kind == 14) && openT L len k) = o := ⟨_, rfl⟩
      rw [hoo] at hop hro
      have HC1 := Lib.hid hc1
      have HO := Lib.hid hro
      have HP := Lib.hid hop
      clear hc1 hro hop hoo ho hok hv hT H
      go_enter Tryz.func3, Tryz.ntmps3
      go_wp2_with (first
        | (go_at_call 4; refine (HG.out _ HR.out).mono ?_; rintro e w1 ⟨rfl, rfl⟩)
        | (go_at_call 6; refine (HC1.out _ HR.out).mono ?_; rintro e w1 ⟨rfl, hb1⟩; have HR1 := Lib.hid (below_step6 HR.out hb1); clear hb1)
        | (go_at_call 7; refine (HO.out _ HR1.out).mono ?_; rintro e w2 ⟨rfl, hb2⟩; have HR2 := Lib.hid (below_step6 HR1.out hb2); clear hb2)
        | (go_at_call 8; refine (HM.out _ HR2.out).mono ?_; rintro e w3 ⟨rfl, hb3⟩; have HR3 := Lib.hid (below_step6 HR2.out hb3); clear hb3)
        | (go_at_call 9; (with_reducible refine (HEM.out _ HR3.out).mono ?_); rintro e w4 ⟨rfl, hb4⟩; have HR4 := Lib.hid (below_step6 HR3.out hb4); clear hb4)
        | (go_at_call 10; refine (HL.out _ HR4.out).mono ?_; rintro e w5 ⟨rfl, hb5⟩; have HR5 := Lib.hid (below_step6 HR4.out hb5); clear hb5)
        | (go_at_call 9; (with_reducible refine (HEL.out _ HR5.out).mono ?_); rintro e w6 ⟨rfl, hb6⟩; have HR6 := Lib.hid (below_step6 HR5.out hb6); clear hb6)
        | (go_at_call 11; refine (HP.out _ HR6.out).mono ?_; rintro e w7 ⟨rfl, hb7⟩; have HR7 := Lib.hid (below_step6 HR6.out hb7); clear hb7)
        | (go_at_call 5; refine (awake7_any _).mono ?_; rintro e w9 ⟨rfl, hb9⟩; have HR9 := Lib.hid (below_step6 HR7.out hb9); clear hb9))
      go_ret
      exact ⟨rfl, HR9.out⟩
    | false =>
      have ho : openA L len t = false := by unfold openA; rw [hT]; rfl
      rw [ho] at hop
      have HP := Lib.hid hop
      clear hop ho
      by_cases hv : fErr (oneR L len) len = 0
      · rw [hv] at hc1
        have HC1 := Lib.hid hc1
        clear hc1
        by_cases h0 : t < 0
        · clear hT hv H
          go_enter Tryz.func3, Tryz.ntmps3
          go_wp2_with (first
        | (go_at_call 4; refine (HG.out _ HR.out).mono ?_; rintro e w1 ⟨rfl, rfl⟩)
        | (go_at_call 6; refine (HC1.out _ HR.out).mono ?_; rintro e w1 ⟨rfl, hb1⟩; have HR1 := Lib.hid (below_step6 HR.out hb1); clear hb1)
        | (go_at_call 8; refine (HM.out _ HR1.out).mono ?_; rintro e w3 ⟨rfl, hb3⟩; have HR3 := Lib.hid (below_step6 HR1.out hb3); clear hb3)
        | (go_at_call 9; (with_reducible refine (HEM.out _ HR3.out).mono ?_); rintro e w4 ⟨rfl, hb4⟩; have HR4 := Lib.hid (below_step6 HR3.out hb4); clear hb4)
        | (go_at_call 10; refine (HL.out _ HR4.out).mono ?_; rintro e w5 ⟨rfl, hb5⟩; have HR5 := Lib.hid (below_step6 HR4.out hb5); clear hb5)
        | (go_at_call 9; (with_reducible refine (HEL.out _ HR5.out).mono ?_); rintro e w6 ⟨rfl, hb6⟩; have HR6 := Lib.hid (below_step6 HR5.out hb6); clear hb6)
        | (go_at_call 11; refine (HP.out _ HR6.out).mono ?_; rintro e w7 ⟨rfl, hb7⟩; have HR7 := Lib.hid (below_step6 HR6.out hb7); clear hb7)
        | (go_at_call 5; refine (awake7_any _).mono ?_; rintro e w9 ⟨rfl, hb9⟩; have HR9 := Lib.hid (below_step6 HR7.out hb9); clear hb9))
          go_ret
          exact ⟨rfl, HR9.out⟩
        · have h1 : (len : Int) ≤ t := by
            apply Classical.byContradiction
            intro hlt
            obtain ⟨k, rfl⟩ := Int.eq_ofNat_of_zero_le (show 0 ≤ t by omega)
            rw [hasT_yes (by omega) hv] at hT; cases hT
          clear hT hv H
          go_enter Tryz.func3, Tryz.ntmps3
          go_wp2_with (first
        | (go_at_call 4; refine (HG.out _ HR.out).mono ?_; rintro e w1 ⟨rfl, rfl⟩)
        | (go_at_call 6; refine (HC1.out _ HR.out).mono ?_; rintro e w1 ⟨rfl, hb1⟩; have HR1 := Lib.hid (below_step6 HR.out hb1); clear hb1)
        | (go_at_call 8; refine (HM.out _ HR1.out).mono ?_; rintro e w3 ⟨rfl, hb3⟩; have HR3 := Lib.hid (below_step6 HR1.out hb3); clear hb3)
        | (go_at_call 9; (with_reducible refine (HEM.out _ HR3.out).mono ?_); rintro e w4 ⟨rfl, hb4⟩; have HR4 := Lib.hid (below_step6 HR3.out hb4); clear hb4)
        | (go_at_call 10; refine (HL.out _ HR4.out).mono ?_; rintro e w5 ⟨rfl, hb5⟩; have HR5 := Lib.hid (below_step6 HR4.out hb5); clear hb5)
        | (go_at_call 9; (with_reducible refine (HEL.out _ HR5.out).mono ?_); rintro e w6 ⟨rfl, hb6⟩; have HR6 := Lib.hid (below_step6 HR5.out hb6); clear hb6)
        | (go_at_call 11; refine (HP.out _ HR6.out).mono ?_; rintro e w7 ⟨rfl, hb7⟩; have HR7 := Lib.hid (below_step6 HR6.out hb7); clear hb7)
        | (go_at_call 5; refine (awake7_any _).mono ?_; rintro e w9 ⟨rfl, hb9⟩; have HR9 := Lib.hid (below_step6 HR7.out hb9); clear hb9))
          go_ret
          exact ⟨rfl, HR9.out⟩
      · obtain ⟨E, hE⟩ : ∃ E, fErr (oneR L len) len = E := ⟨_, rfl⟩
        rw [hE] at hv hc1
        have hne : (E == 0) = false := by simpa using hv
        have HC1 := Lib.hid hc1
        clear hc1 hv hE hT H
        go_enter Tryz.func3, Tryz.ntmps3
        go_wp2_with (first
        | (go_at_call 4; refine (HG.out _ HR.out).mono ?_; rintro e w1 ⟨rfl, rfl⟩)
        | (go_at_call 6; refine (HC1.out _ HR.out).mono ?_; rintro e w1 ⟨rfl, hb1⟩; have HR1 := Lib.hid (below_step6 HR.out hb1); clear hb1)
        | (go_at_call 8; refine (HM.out _ HR1.out).mono ?_; rintro e w3 ⟨rfl, hb3⟩; have HR3 := Lib.hid (below_step6 HR1.out hb3); clear hb3)
        | (go_at_call 9; (with_reducible refine (HEM.out _ HR3.out).mono ?_); rintro e w4 ⟨rfl, hb4⟩; have HR4 := Lib.hid (below_step6 HR3.out hb4); clear hb4)
        | (go_at_call 10; refine (HL.out _ HR4.out).mono ?_; rintro e w5 ⟨rfl, hb5⟩; have HR5 := Lib.hid (below_step6 HR4.out hb5); clear hb5)
        | (go_at_call 9; (with_reducible refine (HEL.out _ HR5.out).mono ?_); rintro e w6 ⟨rfl, hb6⟩; have HR6 := Lib.hid (below_step6 HR5.out hb6); clear hb6)
        | (go_at_call 11; refine (HP.out _ HR6.out).mono ?_; rintro e w7 ⟨rfl, hb7⟩; have HR7 := Lib.hid (below_step6 HR6.out hb7); clear hb7)
        | (go_at_call 5; refine (awake7_any _).mono ?_; rintro e w9 ⟨rfl, hb9⟩; have HR9 := Lib.hid (below_step6 HR7.out hb9); clear hb9))
        go_ret
        exact ⟨rfl, HR9.out⟩
set_option maxRecDepth 100000 in
theorem lifted (os : Os) (started : os.Started) (H : Type) (enc : TypeId × Value → H) :
    ReturnsInHanded {} Tryz.checked os 3 .any (Rows.boundsEndsSpec.pre6 enc Tryz.prog Tryz.f3 Rows.boundsEndsRow.domain false) (Rows.boundsEndsSpec.post enc Tryz.prog Tryz.f3 false true false false) := by
  refine returnsInHanded_of_change_sized (C := Tryz.checked) own started (by kernel_rfl) Tryz.func3
    (ChangeSpec.witness6 (enc := enc) (C := Tryz.checked) false ⟨#[], #[.slice none 0 0, .int .i64 0, .int .i64 0], []⟩ 8 (by kernel_rfl) (by kernel_rfl) (by kernel_rfl) (by kernel_rfl)) ?_
  intro W base args ds gs before hval0 hW hcnd hsz _
  have hval : ∀ (j : Nat) t v, Tryz.f3.params[j]? = some t → args[j]? = some v → Value.okWide Tryz.prog W .any base t v := hval0
  have hW' := hW
  obtain ⟨p, q, hA0, hV, rfl, hfz, hnd⟩ := hW
  have hA : DataW.TrodAll enc Tryz.prog W 0 (fun _ => true) true Tryz.f3.params.toList args.toList ds p := hA0
  rw [Tryz.params3] at hA hval
  obtain ⟨rfl, rfl⟩ := trodVars_none hV
  clear hA0 hval0
  simp only [List.append_nil] at hW'
  have hlt := hW'.lt
  have hA1 := hA
  have hsz1 : (DataW.weightsEach Tryz.prog (Tryz.f3.params.toList ++ []) (ds ++ [])).all (· ≤ reachBytes) = true := hsz
  rw [Tryz.params3, List.append_nil, List.append_nil] at hsz1
  have hrd := rdg_all _ _ _ _ hA1 (fun n hn => by simpa using List.all_eq_true.1 hsz1 n hn)
  obtain ⟨v0, vs0, d0, ds0, p0, q0, hargs, rfl, rfl, h0, r0⟩ := trodAll_cons hA
  obtain ⟨v1, vs1, d1, ds1, p1, q1, rfl, rfl, rfl, h1, r1⟩ := trodAll_cons r0
  obtain ⟨v2, vs2, d2, ds2, p2, q2, rfl, rfl, rfl, h2, r2⟩ := trodAll_cons r1
  obtain ⟨rfl, rfl, rfl⟩ := trodAll_nil r2
  obtain rfl : args = #[v0, v1, v2] := by cases args; simp_all
  obtain ⟨a1, rfl, w1⟩ := rop_int Tryz.underlying3 (hval 1 3 v1 rfl rfl) (hrd 1 3 v1 rfl rfl)
  obtain ⟨a2, rfl, w2⟩ := rop_int Tryz.underlying3 (hval 2 3 v2 rfl rfl) (hrd 2 3 v2 rfl rfl)

  obtain ⟨ao, len, cap, L, rfl, hcap, _, hm, H⟩ := types_of2 (rop_slice 6 Tryz.underlying22 (by kernel_rfl) (hval 0 22 v0 rfl rfl) (hrd 0 22 v0 rfl rfl))
  refine (walk ao len cap L a1 a2 hcap hm W H).mono fun e W' ⟨he, bel⟩ => ?_
  subst he
  exact ⟨_, rfl, _, _, _, [], _, [], hW', trodAll_mk1 (shut_bool Tryz.underlying4 _), trodAll_below laidOut bel [22, 3, 3] _ _ _ (by kernel_rfl) hA1 hlt, rfl, bel.frame _, fun h => by cases h⟩
theorem over : Rows.boundsEndsRow.holds Tryz.pinned (OpenSpec.ofChange Rows.boundsEndsSpec) :=
  OpenClaim.holds_of_wide 3 Tryz.f3 rfl rfl rfl rfl rfl rfl rfl ⟨rfl, rfl, rfl, rfl, rfl⟩ rfl rfl rfl rfl rfl (by kernel_rfl) Tryz.func3 (by kernel_rfl)
    (of_decide_eq_true (by kernel_rfl)) (by unfold Func.isWrapper; first | (rw [if_pos (by decide +kernel)]; kernel_rfl) | (rw [if_neg (by decide +kernel)]; exact ⟨rfl, rfl⟩))
    (fun os started H enc _ => lifted os started H enc)
theorem proved : Rows.BoundsEndsSaid := over
#print axioms proved
end Go.Proofs.YtblnhoagdnnjdaaGreat.boundsEnds
