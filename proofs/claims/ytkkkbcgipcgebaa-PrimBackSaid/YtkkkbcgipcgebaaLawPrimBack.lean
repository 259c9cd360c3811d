/- PrimBack: for every kind and number the law returns true, and its arguments read as before. No condition. -/
import Derived.Test.YtkkkbcgipcgebaaRdg
import Derived.Test.YtkkkbcgipcgebaaPrimAwake
import Derived.Test.YtkkkbcgipcgebaaPrimBackMath
namespace Go.Proofs.Ytkkkbcgipcgebaa.primBack
open Go.ChangeShapes Go.WideShapes Go.ChangeAt Go.RowKit
open Go.ChangeMaps (open_string shut_string)
set_option linter.unusedVariables false

theorem of_dat (k : Int) (d : DatV) (hn : (Lit.int .u64 d.num).wf = true) (hs : d.text.size ≤ 281474976710656) (w : World) : Calls Try.prog 20 #[.int .i64 k, datV d] w fun e w' => e = .returned (.tuple #[.int .u64 (ofN k d), .bool (ofB k d)]) ∧ Below w.heap.size w w' := of_any k d.kind d.num d.neg d.text hn hs w
theorem of_datK (k k1 n : Int) (w : World) : Calls Try.prog 20 #[.int .i64 k, datV (datK k1 n)] w fun e w' => e = .returned (.tuple #[.int .u64 (ofN k (datK k1 n)), .bool (ofB k (datK k1 n))]) ∧ Below w.heap.size w w' :=
  of_dat k _ (wf_u64 (dat_num k1 n).1 (dat_num k1 n).2) (by rw [dat_text]; decide) w
theorem walk (k n : Int) (hn : (Lit.int .u64 n).wf = true) (w : World) :
    Calls Try.prog 5 #[.int .i64 k, .int .u64 n] w fun e w' => e = .returned (.bool true) ∧ Below w.heap.size w w' := by
  have hr := Below.refl w.heap.size w
  obtain ⟨h0, h1⟩ := bounds_u64 hn
  have hO := fun w => of_datK k k n w
  have hM := fun w => may_any k n hn w
  have HV := Lib.hid (fun w => may_any k (upK k n) (wf_u64 up_range.1 up_range.2) w)
  have hU := fun w => up_any k (lowK k n) (wf_u64 low_range.1 low_range.2) w
  have HB := Lib.hid (@up_may k n)
  cases hm : mayK k n with
  | true =>
    obtain ⟨e1, e2, e3, hk⟩ := back_may h0 h1 hm
    rw [e1, e2] at hO
    rw [e3] at hU
    rw [hm] at hM
    have HO := Lib.hid hO
    have HM := Lib.hid hM
    have HU := Lib.hid hU
    clear hO hM hU e1 e2 e3
    by_cases hk1 : k = 1
    · subst hk1
      clear HV HB
      go_enter Try.func5, Try.ntmps5
      go_wp2_with (first
          | (go_at_call 13; with_reducible refine (HM.out _).mono ?_; rintro e w1 ⟨rfl, hb⟩; have hr := below_step5 hr hb; clear hb)
          | (go_at_call 22; refine (datum_any _ _ hn _).mono ?_; rintro e w1 ⟨rfl, hb⟩; have hr := below_step5 hr hb; clear hb)
          | (go_at_call 20; refine (HO.out _).mono ?_; rintro e w1 ⟨rfl, hb⟩; have hr := below_step5 hr hb; clear hb)
          | (go_at_call 15; refine (low_any _ _ hn _).mono ?_; rintro e w1 ⟨rfl, hb⟩; have hr := below_step5 hr hb; clear hb)
          | (go_at_call 17; with_reducible refine (HU.out _).mono ?_; rintro e w1 ⟨rfl, hb⟩; have hr := below_step5 hr hb; clear hb)
          | (go_at_call 17; refine (up_any _ _ hn _).mono ?_; rintro e w1 ⟨rfl, hb⟩; have hr := below_step5 hr hb; clear hb)
          | (go_at_call 7; refine (number_any _ _).mono ?_; rintro e w1 ⟨rfl, hb⟩; have hr := below_step5 hr hb; clear hb)
          | (go_at_call 19; refine (awake5_any _).mono ?_; rintro e w1 ⟨rfl, hb⟩; have hr := below_step5 hr hb; clear hb))
      go_ret
      exact ⟨rfl, hr⟩
    · have hk1b : (k == 1) = false := by simpa using hk1
      have hv := HB.out hk hk1
      clear hk1 HB
      go_enter Try.func5, Try.ntmps5
      go_wp2_with (first
          | (go_at_call 13; with_reducible refine (HM.out _).mono ?_; rintro e w1 ⟨rfl, hb⟩; have hr := below_step5 hr hb; clear hb)
          | (go_at_call 22; refine (datum_any _ _ hn _).mono ?_; rintro e w1 ⟨rfl, hb⟩; have hr := below_step5 hr hb; clear hb)
          | (go_at_call 20; refine (HO.out _).mono ?_; rintro e w1 ⟨rfl, hb⟩; have hr := below_step5 hr hb; clear hb)
          | (go_at_call 15; refine (low_any _ _ hn _).mono ?_; rintro e w1 ⟨rfl, hb⟩; have hr := below_step5 hr hb; clear hb)
          | (go_at_call 17; with_reducible refine (HU.out _).mono ?_; rintro e w1 ⟨rfl, hb⟩; have hr := below_step5 hr hb; clear hb)
          | (go_at_call 17; refine (up_any _ _ hn _).mono ?_; rintro e w1 ⟨rfl, hb⟩; have hr := below_step5 hr hb; clear hb)
          | (go_at_call 13; refine (HV.out _).mono ?_; rintro e w1 ⟨rfl, hb⟩; have hr := below_step5 hr hb; clear hb)
          | (go_at_call 7; refine (number_any _ _).mono ?_; rintro e w1 ⟨rfl, hb⟩; have hr := below_step5 hr hb; clear hb)
          | (go_at_call 19; refine (awake5_any _).mono ?_; rintro e w1 ⟨rfl, hb⟩; have hr := below_step5 hr hb; clear hb))
      go_ret
      exact ⟨rfl, hr⟩
  | false =>
    rw [hm] at hM
    have HO := Lib.hid hO
    have HM := Lib.hid hM
    have HU := Lib.hid hU
    clear hO hM hU
    cases hk : numK k with
    | false =>
      clear HB
      go_enter Try.func5, Try.ntmps5
      go_wp2_with (first
          | (go_at_call 13; with_reducible refine (HM.out _).mono ?_; rintro e w1 ⟨rfl, hb⟩; have hr := below_step5 hr hb; clear hb)
          | (go_at_call 22; refine (datum_any _ _ hn _).mono ?_; rintro e w1 ⟨rfl, hb⟩; have hr := below_step5 hr hb; clear hb)
          | (go_at_call 20; refine (HO.out _).mono ?_; rintro e w1 ⟨rfl, hb⟩; have hr := below_step5 hr hb; clear hb)
          | (go_at_call 15; refine (low_any _ _ hn _).mono ?_; rintro e w1 ⟨rfl, hb⟩; have hr := below_step5 hr hb; clear hb)
          | (go_at_call 17; with_reducible refine (HU.out _).mono ?_; rintro e w1 ⟨rfl, hb⟩; have hr := below_step5 hr hb; clear hb)
          | (go_at_call 17; refine (up_any _ _ hn _).mono ?_; rintro e w1 ⟨rfl, hb⟩; have hr := below_step5 hr hb; clear hb)
          | (go_at_call 13; refine (HV.out _).mono ?_; rintro e w1 ⟨rfl, hb⟩; have hr := below_step5 hr hb; clear hb)
          | (go_at_call 7; refine (number_any _ _).mono ?_; rintro e w1 ⟨rfl, hb⟩; have hr := below_step5 hr hb; clear hb)
          | (go_at_call 19; refine (awake5_any _).mono ?_; rintro e w1 ⟨rfl, hb⟩; have hr := below_step5 hr hb; clear hb))
      go_ret
      exact ⟨rfl, hr⟩
    | true =>
      by_cases hk1 : k = 1
      · subst hk1
        clear HV HB
        go_enter Try.func5, Try.ntmps5
        go_wp2_with (first
          | (go_at_call 13; with_reducible refine (HM.out _).mono ?_; rintro e w1 ⟨rfl, hb⟩; have hr := below_step5 hr hb; clear hb)
          | (go_at_call 22; refine (datum_any _ _ hn _).mono ?_; rintro e w1 ⟨rfl, hb⟩; have hr := below_step5 hr hb; clear hb)
          | (go_at_call 20; refine (HO.out _).mono ?_; rintro e w1 ⟨rfl, hb⟩; have hr := below_step5 hr hb; clear hb)
          | (go_at_call 15; refine (low_any _ _ hn _).mono ?_; rintro e w1 ⟨rfl, hb⟩; have hr := below_step5 hr hb; clear hb)
          | (go_at_call 17; with_reducible refine (HU.out _).mono ?_; rintro e w1 ⟨rfl, hb⟩; have hr := below_step5 hr hb; clear hb)
          | (go_at_call 17; refine (up_any _ _ hn _).mono ?_; rintro e w1 ⟨rfl, hb⟩; have hr := below_step5 hr hb; clear hb)
          | (go_at_call 7; refine (number_any _ _).mono ?_; rintro e w1 ⟨rfl, hb⟩; have hr := below_step5 hr hb; clear hb)
          | (go_at_call 19; refine (awake5_any _).mono ?_; rintro e w1 ⟨rfl, hb⟩; have hr := below_step5 hr hb; clear hb))
        go_ret
        exact ⟨rfl, hr⟩
      · have hk1b : (k == 1) = false := by simpa using hk1
        have hv := HB.out hk hk1
        clear hk1 HB
        go_enter Try.func5, Try.ntmps5
        go_wp2_with (first
          | (go_at_call 13; with_reducible refine (HM.out _).mono ?_; rintro e w1 ⟨rfl, hb⟩; have hr := below_step5 hr hb; clear hb)
          | (go_at_call 22; refine (datum_any _ _ hn _).mono ?_; rintro e w1 ⟨rfl, hb⟩; have hr := below_step5 hr hb; clear hb)
          | (go_at_call 20; refine (HO.out _).mono ?_; rintro e w1 ⟨rfl, hb⟩; have hr := below_step5 hr hb; clear hb)
          | (go_at_call 15; refine (low_any _ _ hn _).mono ?_; rintro e w1 ⟨rfl, hb⟩; have hr := below_step5 hr hb; clear hb)
          | (go_at_call 17; with_reducible refine (HU.out _).mono ?_; rintro e w1 ⟨rfl, hb⟩; have hr := below_step5 hr hb; clear hb)
          | (go_at_call 17; refine (up_any _ _ hn _).mono ?_; rintro e w1 ⟨rfl, hb⟩; have hr := below_step5 hr hb; clear hb)
          | (go_at_call 13; refine (HV.out _).mono ?_; rintro e w1 ⟨rfl, hb⟩; have hr := below_step5 hr hb; clear hb)
          | (go_at_call 7; refine (number_any _ _).mono ?_; rintro e w1 ⟨rfl, hb⟩; have hr := below_step5 hr hb; clear hb)
          | (go_at_call 19; refine (awake5_any _).mono ?_; rintro e w1 ⟨rfl, hb⟩; have hr := below_step5 hr hb; clear hb))
        go_ret
        exact ⟨rfl, hr⟩
set_option maxRecDepth 100000 in
theorem lifted (os : Os) (started : os.Started) (H : Type) (enc : TypeId × Value → H) :
    ReturnsInHanded {} Try.checked os 5 .any (Rows.primBackSpec.pre6 enc Try.prog Try.f5 Rows.primBackRow.domain false) (Rows.primBackSpec.post enc Try.prog Try.f5 false true false false) := by
  refine returnsInHanded_of_change_sized (C := Try.checked) own started (by kernel_rfl) Try.func5
    (ChangeSpec.witness6 (enc := enc) (C := Try.checked) false ⟨#[], #[.int .i64 0, .int .u64 0], []⟩ 8 (by kernel_rfl) (by kernel_rfl) (by kernel_rfl) (by kernel_rfl)) ?_
  intro W base args ds gs before hval0 hW hcnd hsz _
  have hval : ∀ (j : Nat) t v, Try.f5.params[j]? = some t → args[j]? = some v → Value.okWide Try.prog W .any base t v := hval0
  have hW' := hW
  obtain ⟨p, q, hA0, hV, rfl, hfz, hnd⟩ := hW
  have hA : DataW.TrodAll enc Try.prog W 0 (fun _ => true) true Try.f5.params.toList args.toList ds p := hA0
  rw [Try.params5] at hA hval
  obtain ⟨rfl, rfl⟩ := trodVars_none hV
  clear hA0 hval0
  simp only [List.append_nil] at hW'
  have hlt := hW'.lt
  have hA1 := hA
  have hsz1 : (DataW.weightsEach Try.prog (Try.f5.params.toList ++ []) (ds ++ [])).all (· ≤ reachBytes) = true := hsz
  rw [Try.params5, List.append_nil, List.append_nil] at hsz1
  have hrd := rdg_all _ _ _ _ hA1 (fun n hn => by simpa using List.all_eq_true.1 hsz1 n hn)
  obtain ⟨v0, vs0, d0, ds0, p0, q0, hargs, rfl, rfl, h0, r0⟩ := trodAll_cons hA
  obtain ⟨v1, vs1, d1, ds1, p1, q1, rfl, rfl, rfl, h1, r1⟩ := trodAll_cons r0
  obtain ⟨rfl, rfl, rfl⟩ := trodAll_nil r1
  obtain rfl : args = #[v0, v1] := by cases args; simp_all
  obtain ⟨a0, rfl, w0⟩ := rop_int Try.underlying3 (hval 0 3 v0 rfl rfl) (hrd 0 3 v0 rfl rfl)
  obtain ⟨a1, rfl, w1⟩ := rop_int Try.underlying22 (hval 1 22 v1 rfl rfl) (hrd 1 22 v1 rfl rfl)
  refine (walk a0 a1 w1 W).mono fun e W' ⟨he, bel⟩ => ?_
  subst he
  exact ⟨_, rfl, _, _, _, [], _, [], hW', trodAll_mk1 (shut_bool Try.underlying4 _), trodAll_below laidOut bel [3, 22] _ _ _ (by kernel_rfl) hA1 hlt, rfl, bel.frame _, fun h => by cases h⟩
theorem over : Rows.primBackRow.holds Try.pinned (OpenSpec.ofChange Rows.primBackSpec) :=
  OpenClaim.holds_of_wide 5 Try.f5 rfl rfl rfl rfl rfl rfl rfl ⟨rfl, rfl, rfl, rfl, rfl⟩ rfl rfl rfl rfl rfl (by kernel_rfl) Try.func5 (by kernel_rfl)
    (of_decide_eq_true (by kernel_rfl)) (by unfold Func.isWrapper; first | (rw [if_pos (by decide +kernel)]; kernel_rfl) | (rw [if_neg (by decide +kernel)]; exact ⟨rfl, rfl⟩))
    (fun os started H enc _ => lifted os started H enc)
theorem proved : Rows.PrimBackSaid := over
#print axioms proved
end Go.Proofs.Ytkkkbcgipcgebaa.primBack
