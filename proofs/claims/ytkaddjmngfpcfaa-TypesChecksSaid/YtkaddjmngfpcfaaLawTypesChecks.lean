/- TypesChecks: for every list of types the law returns true, and its argument reads as before. No condition. -/
import Derived.Test.YtkaddjmngfpcfaaRdg
import Derived.Test.YtkaddjmngfpcfaaTypesLawMath
namespace Go.Proofs.Ytkaddjmngfpcfaa.typesChecks
open Go.ChangeShapes Go.WideShapes Go.ChangeAt Go.RowKit
open Go.ChangeMaps (open_string shut_string)
set_option linter.unusedVariables false

theorem walk (ao : Option Addr) (len cap : Nat) (L : Nat → TypeV) (hcap : len ≤ cap) (hm : len ≤ 140737488351232) (w : World) (H : ∀ i, i < len → TypeAt w ao i (L i)) :
    Calls Try.prog 3 #[.slice ao len cap] w fun e w' => e = .returned (.bool true) ∧ Below w.heap.size w w' := by
  have hr := Below.refl w.heap.size w
  have HL := Lib.hid (fun w1 (hb : Below w.heap.size w w1) => hold H hb)
  have hg := fun w1 (hb : Below w.heap.size w w1) => great_any ao len cap L hm w1 (hold H hb)
  clear H
  cases hbig : greatB L len with
  | true =>
    rw [hbig] at hg
    have HG := Lib.hid hg
    clear hg
    go_enter Try.func3, Try.ntmps3
    go_wp2_with (first
      | (go_at_call 6; refine (HG.out _ hr).mono ?_; rintro e w1 ⟨rfl, rfl⟩)
      | (go_at_call 9; refine (awake6_any _).mono ?_; rintro e w1 ⟨rfl, hb⟩; have hr := below_step6 hr hb; clear hb))
    go_ret
    exact ⟨rfl, hr⟩
  | false =>
    rw [hbig] at hg
    have HG := Lib.hid hg
    have hl := great_lt hbig
    have hc1 := fun w1 (hb : Below w.heap.size w w1) => check6_any ao len cap L (by omega) hcap w1 (HL.out w1 hb)
    have hc2 := fun w1 (hb : Below w.heap.size w w1) => refCheck_any ao len cap L (by omega) w1 (HL.out w1 hb)
    rw [fault_same] at hc1
    unfold faultV at hc1 hc2
    obtain ⟨E, hE⟩ : ∃ E, fErr (oneR L len) len = E := ⟨_, rfl⟩
    obtain ⟨A, hA⟩ : ∃ A, fAt (oneR L len) len = A := ⟨_, rfl⟩
    rw [hE, hA] at hc1 hc2
    have hfe : ∀ w, (binOp .eql 26 (.agg #[.int .i64 E, .int .i64 A]) (.agg #[.int .i64 E, .int .i64 A])).run Try.prog w = .ok (.bool true) w := fun w => by rw [fault_eql]; simp
    have HC1 := Lib.hid hc1
    have HC2 := Lib.hid hc2
    clear hg hbig hE hA hc1 hc2
    go_enter Try.func3, Try.ntmps3
    go_wp2_with (first
      | (go_at_call 6; refine (HG.out _ hr).mono ?_; rintro e w1 ⟨rfl, rfl⟩)
      | (go_at_call 7; refine (HC1.out _ hr).mono ?_; rintro e w1 ⟨rfl, hb⟩; have hr := below_step6 hr hb; clear hb)
      | (go_at_call 8; refine (HC2.out _ hr).mono ?_; rintro e w1 ⟨rfl, hb⟩; have hr := below_step6 hr hb; clear hb)
      | (go_at_call 9; refine (awake6_any _).mono ?_; rintro e w1 ⟨rfl, hb⟩; have hr := below_step6 hr hb; clear hb))
    go_ret
    exact ⟨rfl, hr⟩
set_option maxRecDepth 100000 in
theorem lifted (os : Os) (started : os.Started) (H : Type) (enc : TypeId × Value → H) :
    ReturnsInHanded {} Try.checked os 3 .any (Rows.typesChecksSpec.pre6 enc Try.prog Try.f3 Rows.typesChecksRow.domain false) (Rows.typesChecksSpec.post enc Try.prog Try.f3 false true false false) := by
  refine returnsInHanded_of_change_sized (C := Try.checked) own started (by kernel_rfl) Try.func3
    (ChangeSpec.witness6 (enc := enc) (C := Try.checked) false ⟨#[], #[.slice none 0 0], []⟩ 8 (by kernel_rfl) (by kernel_rfl) (by kernel_rfl) (by kernel_rfl)) ?_
  intro W base args ds gs before hval0 hW hcnd hsz _
  have hval : ∀ (j : Nat) t v, Try.f3.params[j]? = some t → args[j]? = some v → Value.okWide Try.prog W .any base t v := hval0
  have hW' := hW
  obtain ⟨p, q, hA0, hV, rfl, hfz, hnd⟩ := hW
  have hA : DataW.TrodAll enc Try.prog W 0 (fun _ => true) true Try.f3.params.toList args.toList ds p := hA0
  rw [Try.params3] at hA hval
  obtain ⟨rfl, rfl⟩ := trodVars_none hV
  clear hA0 hval0
  simp only [List.append_nil] at hW'
  have hlt := hW'.lt
  have hA1 := hA
  have hsz1 : (DataW.weightsEach Try.prog (Try.f3.params.toList ++ []) (ds ++ [])).all (· ≤ reachBytes) = true := hsz
  rw [Try.params3, List.append_nil, List.append_nil] at hsz1
  have hrd := rdg_all _ _ _ _ hA1 (fun n hn => by simpa using List.all_eq_true.1 hsz1 n hn)
  obtain ⟨v0, vs0, d0, ds0, p0, q0, hargs, rfl, rfl, h0, r0⟩ := trodAll_cons hA
  obtain ⟨rfl, rfl, rfl⟩ := trodAll_nil r0
  obtain rfl : args = #[v0] := by cases args; simp_all

  obtain ⟨ao, len, cap, L, rfl, hcap, _, hm, H⟩ := types_of2 (rop_slice 6 Try.underlying22 (by kernel_rfl) (hval 0 22 v0 rfl rfl) (hrd 0 22 v0 rfl rfl))
  refine (walk ao len cap L hcap hm W H).mono fun e W' ⟨he, bel⟩ => ?_
  subst he
  exact ⟨_, rfl, _, _, _, [], _, [], hW', trodAll_mk1 (shut_bool Try.underlying4 _), trodAll_below laidOut bel [22] _ _ _ (by kernel_rfl) hA1 hlt, rfl, bel.frame _, fun h => by cases h⟩
theorem over : Rows.typesChecksRow.holds Try.pinned (OpenSpec.ofChange Rows.typesChecksSpec) :=
  OpenClaim.holds_of_wide 3 Try.f3 rfl rfl rfl rfl rfl rfl rfl ⟨rfl, rfl, rfl, rfl, rfl⟩ rfl rfl rfl rfl rfl (by kernel_rfl) Try.func3 (by kernel_rfl)
    (of_decide_eq_true (by kernel_rfl)) (by unfold Func.isWrapper; first | (rw [if_pos (by decide +kernel)]; kernel_rfl) | (rw [if_neg (by decide +kernel)]; exact ⟨rfl, rfl⟩))
    (fun os started H enc _ => lifted os started H enc)
theorem proved : Rows.TypesChecksSaid := over
#print axioms proved
end Go.Proofs.Ytkaddjmngfpcfaa.typesChecks
