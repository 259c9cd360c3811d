/- NameFinds: for every list of texts and every text the law returns true, and its arguments read as before. No condition. -/
import Derived.Test.YtbiklbbbnbbgaaaRdg
import Derived.Test.YtbiklbbbnbbgaaaNameAwake
namespace Go.Proofs.Ytbiklbbbnbbgaaa.nameFinds
open Go.ChangeShapes Go.WideShapes Go.ChangeAt Go.RowKit
open Go.ChangeMaps (open_string shut_string)
set_option linter.unusedVariables false

theorem walk (ao : Option Addr) (len cap : Nat) (L : Nat → ByteArray) (s : ByteArray) (hm : len ≤ 140737488351232) (w : World) (H : ∀ i, i < len → StrAt w ao i (L i)) :
    Calls Try.prog 4 #[.slice ao len cap, .string s] w fun e w' => e = .returned (.bool true) ∧ Below w.heap.size w w' := by
  have hr := Below.refl w.heap.size w
  have HH := Lib.hid H
  have HL := Lib.hid (show ∀ w1, Below w.heap.size w w1 → ∀ i, i < len → StrAt w1 ao i (L i) from fun w1 hb i hi => (H i hi).held hb)
  clear H
  by_cases hbig : 500 < len
  · go_enter Try.func4, Try.ntmps4
    go_wp2_with (go_at_call 6; refine (awake4_any _).mono ?_; rintro e w1 ⟨rfl, hb⟩; have hr := below_stepN hr hb; clear hb)
    go_ret
    exact ⟨rfl, hr⟩
  · go_enter Try.func4, Try.ntmps4
    go_wp2_with (first
      | (go_at_call 13; refine (find_any ao len cap L s (by omega) _ (HL.out _ hr)).mono ?_; rintro e w1 ⟨rfl, hb⟩; have hr := below_stepN hr hb; clear hb)
      | (go_at_call 14; refine (refFind_any ao len cap L s (by omega) _ (HL.out _ hr)).mono ?_; rintro e w1 ⟨rfl, rfl⟩)
      | (go_at_call 15; refine (twice_any ao len cap L (by omega) _ (HL.out _ hr)).mono ?_; rintro e w1 ⟨rfl, hb⟩; have hr := below_stepN hr hb; clear hb)
      | (go_at_call 16; refine (refTwice_any ao len cap L (by omega) _ (HL.out _ hr)).mono ?_; rintro e w1 ⟨rfl, rfl⟩)
      | (go_at_call 6; refine (awake4_any _).mono ?_; rintro e w1 ⟨rfl, hb⟩; have hr := below_stepN hr hb; clear hb))
    go_ret
    exact ⟨rfl, hr⟩
set_option maxRecDepth 100000 in
theorem lifted (os : Os) (started : os.Started) (H : Type) (enc : TypeId × Value → H) :
    ReturnsInHanded {} Try.checked os 4 .any (Rows.nameFindsSpec.pre6 enc Try.prog Try.f4 Rows.nameFindsRow.domain false) (Rows.nameFindsSpec.post enc Try.prog Try.f4 false true false false) := by
  refine returnsInHanded_of_change_sized (C := Try.checked) own started (by kernel_rfl) Try.func4
    (ChangeSpec.witness6 (enc := enc) (C := Try.checked) false ⟨#[], #[.slice none 0 0, .string ⟨#[]⟩], []⟩ 8 (by kernel_rfl) (by kernel_rfl) (by kernel_rfl) (by kernel_rfl)) ?_
  intro W base args ds gs before hval0 hW hcnd hsz _
  have hval : ∀ (j : Nat) t v, Try.f4.params[j]? = some t → args[j]? = some v → Value.okWide Try.prog W .any base t v := hval0
  have hW' := hW
  obtain ⟨p, q, hA0, hV, rfl, hfz, hnd⟩ := hW
  have hA : DataW.TrodAll enc Try.prog W 0 (fun _ => true) true Try.f4.params.toList args.toList ds p := hA0
  rw [Try.params4] at hA hval
  obtain ⟨rfl, rfl⟩ := trodVars_none hV
  clear hA0 hval0
  simp only [List.append_nil] at hW'
  have hlt := hW'.lt
  have hA1 := hA
  have hsz1 : (DataW.weightsEach Try.prog (Try.f4.params.toList ++ []) (ds ++ [])).all (· ≤ reachBytes) = true := hsz
  rw [Try.params4, List.append_nil, List.append_nil] at hsz1
  have hrd := rdg_all _ _ _ _ hA1 (fun n hn => by simpa using List.all_eq_true.1 hsz1 n hn)
  obtain ⟨v0, vs0, d0, ds0, p0, q0, hargs, rfl, rfl, h0, r0⟩ := trodAll_cons hA
  obtain ⟨v1, vs1, d1, ds1, p1, q1, rfl, rfl, rfl, h1, r1⟩ := trodAll_cons r0
  obtain ⟨rfl, rfl, rfl⟩ := trodAll_nil r1
  obtain rfl : args = #[v0, v1] := by cases args; simp_all
  obtain ⟨a1, rfl, w1⟩ := rop_string Try.underlying9 (hval 1 9 v1 rfl rfl) (hrd 1 9 v1 rfl rfl)

  obtain ⟨ao, len, cap, L, rfl, hm, H⟩ := strs_of (rop_slice 1 Try.underlying25 (by kernel_rfl) (hval 0 25 v0 rfl rfl) (hrd 0 25 v0 rfl rfl))
  refine (walk ao len cap L a1 hm W H).mono fun e W' ⟨he, bel⟩ => ?_
  subst he
  exact ⟨_, rfl, _, _, _, [], _, [], hW', trodAll_mk1 (shut_bool Try.underlying4 _), trodAll_below laidOut bel [25, 9] _ _ _ (by kernel_rfl) hA1 hlt, rfl, bel.frame _, fun h => by cases h⟩
theorem over : Rows.nameFindsRow.holds Try.pinned (OpenSpec.ofChange Rows.nameFindsSpec) :=
  OpenClaim.holds_of_wide 4 Try.f4 rfl rfl rfl rfl rfl rfl rfl ⟨rfl, rfl, rfl, rfl, rfl⟩ rfl rfl rfl rfl rfl (by kernel_rfl) Try.func4 (by kernel_rfl)
    (of_decide_eq_true (by kernel_rfl)) (by unfold Func.isWrapper; first | (rw [if_pos (by decide +kernel)]; kernel_rfl) | (rw [if_neg (by decide +kernel)]; exact ⟨rfl, rfl⟩))
    (fun os started H enc _ => lifted os started H enc)
theorem proved : Rows.NameFindsSaid := over
#print axioms proved
end Go.Proofs.Ytbiklbbbnbbgaaa.nameFinds
