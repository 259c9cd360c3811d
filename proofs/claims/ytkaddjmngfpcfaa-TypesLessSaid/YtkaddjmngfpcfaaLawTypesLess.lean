/- TypesLess: for every list of types and every number the law returns true, and its arguments read as before. No condition. -/
import Derived.Test.YtkaddjmngfpcfaaRdg
import Derived.Test.YtkaddjmngfpcfaaTypesLawMath
namespace Go.Proofs.Ytkaddjmngfpcfaa.typesLess
open Go.ChangeShapes Go.WideShapes Go.ChangeAt Go.RowKit
open Go.ChangeMaps (open_string shut_string)
set_option linter.unusedVariables false

set_option maxRecDepth 100000 in
set_option maxHeartbeats 4000000 in
theorem walk (ao : Option Addr) (len cap : Nat) (L : Nat → TypeV) (n : Int) (hcap : len ≤ cap) (hnil : ao = none → cap = 0) (hm : len ≤ 140737488351232) (w : World) (H : ∀ i, i < len → TypeAt w ao i (L i)) :
    Calls Try.prog 5 #[.slice ao len cap, .int .i64 n] w fun e w' => e = .returned (.bool true) ∧ Below w.heap.size w w' := by
  have hr := Below.refl w.heap.size w
  have HL := Lib.hid (fun w1 (hb : Below w.heap.size w w1) => hold H hb)
  have hg := fun w1 (hb : Below w.heap.size w w1) => great_any ao len cap L hm w1 (hold H hb)
  clear H
  cases hbig : greatB L len with
  | true =>
    rw [hbig] at hg
    have HG := Lib.hid hg
    clear hg hnil
    go_enter Try.func5, Try.ntmps5
    go_wp2_with (first
      | (go_at_call 6; refine (HG.out _ hr).mono ?_; rintro e w1 ⟨rfl, rfl⟩)
      | (go_at_call 9; refine (awake6_any _).mono ?_; rintro e w1 ⟨rfl, hb⟩; have hr := below_step6 hr hb; clear hb))
    go_ret
    exact ⟨rfl, hr⟩
  | false =>
    rw [hbig] at hg
    have HG := Lib.hid hg
    have hl := great_lt hbig
    have hc1 := fun w1 (hb : Below w.heap.size w w1) => check6_any ao len cap L (by omega) hcap w1 (HL.out w1 hb)
    rw [fault_same] at hc1
    unfold faultV at hc1
    obtain ⟨E, hE⟩ : ∃ E, fErr (oneR L len) len = E := ⟨_, rfl⟩
    obtain ⟨A, hA⟩ : ∃ A, fAt (oneR L len) len = A := ⟨_, rfl⟩
    rw [hE, hA] at hc1
    have HC1 := Lib.hid hc1
    have HE := Lib.hid hE
    have HA := Lib.hid hA
    have HNIL := Lib.hid hnil
    clear hg hbig hE hA hc1 hnil
    go_enter Try.func5, Try.ntmps5
    go_upto_region 4 with (first
      | (go_at_call 6; refine (HG.out _ hr).mono ?_; rintro e w1 ⟨rfl, rfl⟩)
      | (go_at_call 7; refine (HC1.out _ hr).mono ?_; rintro e w1 ⟨rfl, hb⟩; have hr1 := below_step6 hr hb; clear hb))
    go_cut [1] (fun t wx => ∃ m : Nat, m ≤ len ∧ t = .int .i64 m ∧ (w1.alloc (.cells #[.int .i64 E, .int .i64 A] 26)) = wx)
    case first =>
      by_cases h1 : n ≤ 0
      · by_cases h2 : n ≤ len
        all_goals
          go_wp2
          all_goals
            go_meet
            exact ⟨0, Nat.zero_le _, by first | rfl | (simp; done) | (simp; omega), by first | rfl | trivial⟩
      · by_cases h2 : n ≤ len
        · obtain ⟨k, rfl⟩ := Int.eq_ofNat_of_zero_le (show 0 ≤ n by omega)
          go_wp2
          all_goals
            go_meet
            exact ⟨k, by omega, by first | rfl | (simp; done) | (simp; omega), by first | rfl | trivial⟩
        · go_wp2
          all_goals
            go_meet
            exact ⟨len, Nat.le_refl _, by first | rfl | (simp; done) | (simp; omega), by first | rfl | trivial⟩
    case rest =>
      obtain ⟨m, hml, rfl, rfl⟩ := hcut
      have HQ1 := Lib.hid (alloc_at w1 (.cells #[.int .i64 E, .int .i64 A] 26))
      have HB1 := Lib.hid (hr1.alloc hr1.size (.cells #[.int .i64 E, .int .i64 A] 26))
      generalize w1.alloc (.cells #[.int .i64 E, .int .i64 A] 26) = W1 at HQ1 HB1 ⊢
      generalize w1.heap.size = g0 at HQ1 ⊢
      clear hr1 hr
      have hc2 := fun wx (hb : Below w.heap.size w wx) => check6_any ao m cap L (by omega) (by omega) wx (fun i hi => HL.out wx hb i (by omega))
      rw [fault_same] at hc2
      unfold faultV at hc2
      obtain ⟨E2, hE2⟩ : ∃ E, fErr (oneR L m) m = E := ⟨_, rfl⟩
      obtain ⟨A2, hA2⟩ : ∃ A, fAt (oneR L m) m = A := ⟨_, rfl⟩
      rw [hE2, hA2] at hc2
      have HC2 := Lib.hid hc2
      have HE2 := Lib.hid hE2
      have HA2 := Lib.hid hA2
      clear hc2 hE2 hA2
      go_upto_region 5 with (fail)
      go_cut [6] (fun t wx => ∃ g1, t = .pointer (some ⟨g1, 0, none⟩) ∧ Hid (wx.heap[g0]? = some (.cells #[.int .i64 E, .int .i64 A] 26 (0, 0))) ∧ Hid (wx.heap[g1]? = some (.cells #[.int .i64 E2, .int .i64 A2] 26 (0, 0))) ∧ Hid (Below w.heap.size w wx) ∧ Hid (g0 ≠ g1))
      case first =>
        have CK := trivial
        rcases ao with _ | a
        · have hc0 := HNIL.out rfl
          have hl0 : len = 0 := by omega
          have hm0 : m = 0 := by omega
          subst hm0 hl0 hc0
          go_wp2_with (go_at_call 7; refine (HC2.out _ HB1.out).mono ?_; rintro e w2 ⟨rfl, hb⟩; have HQ2 := Lib.hid (rblk_keep HQ1.out hb); have HB2 := Lib.hid (HB1.out.trans (hb.mono HB1.out.size)); clear hb)
          go_meet
          exact ⟨_, rfl, Lib.hid (alloc_old HQ2.out), Lib.hid (alloc_at _ _), Lib.hid (HB2.out.alloc HB2.out.size _), Lib.hid (by have := lt_of_block HQ2.out; omega)⟩
        · go_wp2_with (go_at_call 7; refine (HC2.out _ HB1.out).mono ?_; rintro e w2 ⟨rfl, hb⟩; have HQ2 := Lib.hid (rblk_keep HQ1.out hb); have HB2 := Lib.hid (HB1.out.trans (hb.mono HB1.out.size)); clear hb)
          go_meet
          exact ⟨_, rfl, Lib.hid (alloc_old HQ2.out), Lib.hid (alloc_at _ _), Lib.hid (HB2.out.alloc HB2.out.size _), Lib.hid (by have := lt_of_block HQ2.out; omega)⟩
      case rest =>
        obtain ⟨g1, rfl, HQ2, HQ3, HB2, HNE⟩ := hcut
        clear HQ1 HB1 HNIL
        have f0 := cell_at (j := 0) HQ2.out rfl
        have f1 := cell_at (j := 1) HQ2.out rfl
        have k0 := cell_at (j := 0) HQ3.out rfl
        have k1 := cell_at (j := 1) HQ3.out rfl
        by_cases h0 : E = 0
        · have HV := Lib.hid (HE.out.trans h0)
          have h2 := (valid_prefix HV.out hml).1
          have h3 := (valid_prefix HV.out hml).2
          have h4 := (valid_prefix HV.out (Nat.le_refl _)).2
          rw [HE2.out] at h2
          rw [HA2.out] at h3
          rw [HA.out] at h4
          subst h0 h2 h3 h4
          have hfe : ∀ w, (binOp .eql 26 (.agg #[.int .i64 0, .int .i64 0]) (.agg #[.int .i64 0, .int .i64 0])).run Try.prog w = .ok (.bool true) w := fun w => by rw [fault_eql]; simp
          have HFE := Lib.hid hfe
          clear hfe
          go_wp2
          clear f0 f1 k0 k1
          go_loopw [7] (fun i wr => ∃ j : Nat, j ≤ len ∧ i = .int .i64 j ∧ Hid (wr.heap[g0]? = some (.cells #[.int .i64 0, .int .i64 0] 26 (0, 0))) ∧ Hid (wr.heap[g1]? = some (.cells #[.int .i64 0, .int .i64 0] 26 (0, 0))) ∧ Hid (Below w.heap.size w wr)) (fun i _ => len - (intOf i).toNat)
          case atStart => exact ⟨0, Nat.zero_le _, rfl, HQ2, HQ3, HB2⟩
          case round =>
            obtain ⟨j, hj, rfl, HR1, HR2, HBr⟩ := hrel
            by_cases hlt : j < len
            · have hd := valid_deep ((valid_all HV.out).2 j hlt) hlt
              have hdc := deep6_any ao len cap L (by omega) (j : Nat) _ (HL.out _ HBr.out)
              rw [deepL_in hlt] at hdc
              obtain ⟨d, hdd⟩ : ∃ d, deepN L j = d := ⟨_, rfl⟩
              rw [hdd] at hd hdc
              obtain ⟨d1, d6, d2⟩ := hd
              have HD := Lib.hid hdc
              have HD2 := Lib.hid d2
              obtain ⟨b, off, hao, _⟩ := HL.out _ HBr.out j hlt
              subst hao
              obtain ⟨kd, hkd⟩ : ∃ k, (L j).kind = k := ⟨_, rfl⟩
              rw [hkd] at HD2
              have HT := Lib.hid (fun wx (hb : Below w.heap.size w wx) => (show wx.cell? ⟨b, off + j * 6, none⟩ = some (.int .i64 kd) by (obtain ⟨b', off', hao', c0, _⟩ := HL.out wx hb j hlt; cases hao'; rw [← hkd]; exact c0)))
              clear hdc hdd d2 hkd
              by_cases hk : 11 ≤ kd
              all_goals
                have hd2 := HD2.out
                first
                  | (have hd3 : 2 ≤ d := hd2 hk; clear hd2; go_wp2_with (go_at_call 16; refine (HD.out).mono ?_; rintro e w3 ⟨rfl, hb3⟩; have HB3 := Lib.hid (HBr.out.trans (hb3.mono HBr.out.size)); have c0 := HT.out _ HB3.out; have HR1 := Lib.hid (rblk_keep HR1.out hb3); have HR2 := Lib.hid (rblk_keep HR2.out hb3); clear hb3))
                  | (clear hd2; go_wp2_with (go_at_call 16; refine (HD.out).mono ?_; rintro e w3 ⟨rfl, hb3⟩; have HB3 := Lib.hid (HBr.out.trans (hb3.mono HBr.out.size)); have c0 := HT.out _ HB3.out; have HR1 := Lib.hid (rblk_keep HR1.out hb3); have HR2 := Lib.hid (rblk_keep HR2.out hb3); clear hb3))
                all_goals
                  go_roundw
                  all_goals first | exact ⟨j + 1, by omega, by go_num, HR1, HR2, HB3⟩ | (simp [intOf] <;> omega)
            · obtain rfl : j = len := by omega
              have f0 := cell_at (j := 0) HR1.out rfl
              have f1 := cell_at (j := 1) HR1.out rfl
              have k0 := cell_at (j := 0) HR2.out rfl
              have k1 := cell_at (j := 1) HR2.out rfl
              have hfe := HFE.out
              have hr := HBr.out
              go_wp2_with (go_at_call 9; refine (awake6_any _).mono ?_; rintro e w1 ⟨rfl, hb⟩; have hr := below_step6 hr hb; clear hb)
              go_ret
              exact ⟨rfl, hr⟩
        · have hE0 : (E == 0) = false := by simpa using h0
          have hr := HB2.out
          by_cases h32 : 32 < len
          · clear HE HA HE2 HA2 hE0
            have hE0 : (E == 0) = false := by simpa using h0
            have hi32 : (32 : Int) < (len : Int) := by omega
            go_wp2_with (go_at_call 9; refine (awake6_any _).mono ?_; rintro e w1 ⟨rfl, hb⟩; have hr := below_step6 hr hb; clear hb)
            go_ret
            exact ⟨rfl, hr⟩
          · obtain ⟨k, hk, hA, hy, hz⟩ := wrong_prefix (L := L) (len := len) (n := m) (by rw [HE.out]; exact h0) (by omega) hml
            rw [HE.out, HE2.out, HA2.out] at hy
            rw [HE2.out] at hz
            rw [HA.out] at hA
            subst hA
            by_cases hkm : k < m
            · obtain ⟨rfl, rfl⟩ := hy hkm
              have hfe : ∀ w, (binOp .eql 26 (.agg #[.int .i64 E2, .int .i64 (k : Nat)]) (.agg #[.int .i64 E2, .int .i64 (k : Nat)])).run Try.prog w = .ok (.bool true) w := fun w => by rw [fault_eql]; simp
              have hE1 : (E2 != 0) = true := by simpa using h0
              clear hy hz
              go_wp2_with (go_at_call 9; refine (awake6_any _).mono ?_; rintro e w1 ⟨rfl, hb⟩; have hr := below_step6 hr hb; clear hb)
              all_goals
                go_ret
                exact ⟨rfl, hr⟩
            · obtain rfl := hz (by omega)
              clear hy hz
              go_wp2_with (go_at_call 9; refine (awake6_any _).mono ?_; rintro e w1 ⟨rfl, hb⟩; have hr := below_step6 hr hb; clear hb)
              all_goals
                go_ret
                exact ⟨rfl, hr⟩
set_option maxRecDepth 100000 in
theorem lifted (os : Os) (started : os.Started) (H : Type) (enc : TypeId × Value → H) :
    ReturnsInHanded {} Try.checked os 5 .any (Rows.typesLessSpec.pre6 enc Try.prog Try.f5 Rows.typesLessRow.domain false) (Rows.typesLessSpec.post enc Try.prog Try.f5 false true false false) := by
  refine returnsInHanded_of_change_sized (C := Try.checked) own started (by kernel_rfl) Try.func5
    (ChangeSpec.witness6 (enc := enc) (C := Try.checked) false ⟨#[], #[.slice none 0 0, .int .i64 0], []⟩ 8 (by kernel_rfl) (by kernel_rfl) (by kernel_rfl) (by kernel_rfl)) ?_
  intro W base args ds gs before hval0 hW hcnd hsz _
  have hval : ∀ (j : Nat) t v, Try.f5.params[j]? = some t → args[j]? = some v → Value.okWide Try.prog W .any base t v := hval0
  have hW' := hW
  obtain ⟨p, q, hA0, hV, rfl, hfz, hnd⟩ := hW
  have hA : DataW.TrodAll enc Try.prog W 0 (fun _ => true) true Try.f5.params.toList args.toList ds p := hA0
  rw [Try.params5] at hA hval
  obtain ⟨rfl, rfl⟩ := trodVars_none hV
  clear hA0 hval0
  simp only [List.append_nil] at hW'
  have hlt := hW'.lt
  have hA1 := hA
  have hsz1 : (DataW.weightsEach Try.prog (Try.f5.params.toList ++ []) (ds ++ [])).all (· ≤ reachBytes) = true := hsz
  rw [Try.params5, List.append_nil, List.append_nil] at hsz1
  have hrd := rdg_all _ _ _ _ hA1 (fun n hn => by simpa using List.all_eq_true.1 hsz1 n hn)
  obtain ⟨v0, vs0, d0, ds0, p0, q0, hargs, rfl, rfl, h0, r0⟩ := trodAll_cons hA
  obtain ⟨v1, vs1, d1, ds1, p1, q1, rfl, rfl, rfl, h1, r1⟩ := trodAll_cons r0
  obtain ⟨rfl, rfl, rfl⟩ := trodAll_nil r1
  obtain rfl : args = #[v0, v1] := by cases args; simp_all
  obtain ⟨a1, rfl, w1⟩ := rop_int Try.underlying3 (hval 1 3 v1 rfl rfl) (hrd 1 3 v1 rfl rfl)

  obtain ⟨ao, len, cap, L, rfl, hcap, hnil, hm, H⟩ := types_of2 (rop_slice 6 Try.underlying22 (by kernel_rfl) (hval 0 22 v0 rfl rfl) (hrd 0 22 v0 rfl rfl))
  refine (walk ao len cap L a1 hcap hnil hm W H).mono fun e W' ⟨he, bel⟩ => ?_
  subst he
  exact ⟨_, rfl, _, _, _, [], _, [], hW', trodAll_mk1 (shut_bool Try.underlying4 _), trodAll_below laidOut bel [22, 3] _ _ _ (by kernel_rfl) hA1 hlt, rfl, bel.frame _, fun h => by cases h⟩
theorem over : Rows.typesLessRow.holds Try.pinned (OpenSpec.ofChange Rows.typesLessSpec) :=
  OpenClaim.holds_of_wide 5 Try.f5 rfl rfl rfl rfl rfl rfl rfl ⟨rfl, rfl, rfl, rfl, rfl⟩ rfl rfl rfl rfl rfl (by kernel_rfl) Try.func5 (by kernel_rfl)
    (of_decide_eq_true (by kernel_rfl)) (by unfold Func.isWrapper; first | (rw [if_pos (by decide +kernel)]; kernel_rfl) | (rw [if_neg (by decide +kernel)]; exact ⟨rfl, rfl⟩))
    (fun os started H enc _ => lifted os started H enc)
theorem proved : Rows.TypesLessSaid := over
#print axioms proved
end Go.Proofs.Ytkaddjmngfpcfaa.typesLess
