/- CrcJoins: for every two texts and sum the law returns true, and its arguments read as before. No condition. -/
import Derived.Test.YtagaaomdmjnbbaaRdg
import Derived.Test.YtagaaomdmjnbbaaCrcLawMath
namespace Go.Proofs.Ytagaaomdmjnbbaa.crcJoins
open Go.ChangeShapes Go.WideShapes Go.ChangeAt Go.RowKit
open Go.ChangeMaps (open_string shut_string)
set_option linter.unusedVariables false

theorem walk (a b : ByteArray) (m : Nat) (ha : a.size ≤ 140737488351232) (hb0 : b.size ≤ 140737488351232) (hm : m < 4294967296) (w : World) :
    Calls Try.prog 4 #[.string a, .string b, .int .u32 m] w fun e w' => e = .returned (.bool true) ∧ Below w.heap.size w w' := by
  have hr := Below.refl w.heap.size w
  have hs := crcSum_lt a
  have hn := crcMore_lt m a
  have e1 := sum_join a b
  have e2 := more_join m hm a b
  have e3 := more_nothing m hm
  by_cases hl : 5000 < a.size
  all_goals by_cases hl2 : 5000 < b.size
  all_goals
    have hab : (a ++ b).size ≤ 281474976710656 := by rw [ByteArray.size_append]; omega
    go_enter Try.func4, Try.ntmps4
    go_wp2_with (first
      | (go_at_call 6; refine (sum_any _ (by first | omega | exact hab) _).mono ?_; rintro e w1 ⟨rfl, hb⟩; have hr := below_step3 hr hb; clear hb)
      | (go_at_call 9; refine (more_any _ (by first | omega | assumption) _ (by first | omega | exact hab | decide) _).mono ?_; rintro e w1 ⟨rfl, hb⟩; have hr := below_step3 hr hb; clear hb)
      | (go_at_call 8; refine (awake3_any _).mono ?_; rintro e w1 ⟨rfl, hb⟩; have hr := below_step3 hr hb; clear hb))
    go_ret
    exact ⟨rfl, hr⟩
set_option maxRecDepth 100000 in
theorem lifted (os : Os) (started : os.Started) (H : Type) (enc : TypeId × Value → H) :
    ReturnsInHanded {} Try.checked os 4 .any (Rows.crcJoinsSpec.pre6 enc Try.prog Try.f4 Rows.crcJoinsRow.domain false) (Rows.crcJoinsSpec.post enc Try.prog Try.f4 false true false false) := by
  refine returnsInHanded_of_change_sized (C := Try.checked) own started (by kernel_rfl) Try.func4
    (ChangeSpec.witness6 (enc := enc) (C := Try.checked) false ⟨#[], #[.string ⟨#[]⟩, .string ⟨#[]⟩, .int .u32 0], []⟩ 8 (by kernel_rfl) (by kernel_rfl) (by kernel_rfl) (by kernel_rfl)) ?_
  intro W base args ds gs before hval0 hW hcnd hsz _
  have hval : ∀ (j : Nat) t v, Try.f4.params[j]? = some t → args[j]? = some v → Value.okWide Try.prog W .any base t v := hval0
  have hW' := hW
  obtain ⟨p, q, hA0, hV, rfl, hfz, hnd⟩ := hW
  have hA : DataW.TrodAll enc Try.prog W 0 (fun _ => true) true Try.f4.params.toList args.toList ds p := hA0
  rw [Try.params4] at hA hval
  obtain ⟨rfl, rfl⟩ := trodVars_none hV
  clear hA0 hval0
  simp only [List.append_nil] at hW'
  have hlt := hW'.lt
  have hA1 := hA
  have hsz1 : (DataW.weightsEach Try.prog (Try.f4.params.toList ++ []) (ds ++ [])).all (· ≤ reachBytes) = true := hsz
  rw [Try.params4, List.append_nil, List.append_nil] at hsz1
  have hrd := rdg_all _ _ _ _ hA1 (fun n hn => by simpa using List.all_eq_true.1 hsz1 n hn)
  obtain ⟨v0, vs0, d0, ds0, p0, q0, hargs, rfl, rfl, h0, r0⟩ := trodAll_cons hA
  obtain ⟨v1, vs1, d1, ds1, p1, q1, rfl, rfl, rfl, h1, r1⟩ := trodAll_cons r0
  obtain ⟨v2, vs2, d2, ds2, p2, q2, rfl, rfl, rfl, h2, r2⟩ := trodAll_cons r1
  obtain ⟨rfl, rfl, rfl⟩ := trodAll_nil r2
  obtain rfl : args = #[v0, v1, v2] := by cases args; simp_all
  obtain ⟨a0, rfl, w0⟩ := rop_string Try.underlying9 (hval 0 9 v0 rfl rfl) (hrd 0 9 v0 rfl rfl)
  obtain ⟨a1, rfl, w1⟩ := rop_string Try.underlying9 (hval 1 9 v1 rfl rfl) (hrd 1 9 v1 rfl rfl)
  obtain ⟨a2, rfl, w2⟩ := rop_int Try.underlying22 (hval 2 22 v2 rfl rfl) (hrd 2 22 v2 rfl rfl)

  obtain ⟨m, rfl⟩ := Int.eq_ofNat_of_zero_le (bounds_u32 w2).1
  refine (walk a0 a1 m w0 w1 (by have := (bounds_u32 w2).2; omega) W).mono fun e W' ⟨he, bel⟩ => ?_
  subst he
  exact ⟨_, rfl, _, _, _, [], _, [], hW', trodAll_mk1 (shut_bool Try.underlying4 _), trodAll_below laidOut bel [9, 9, 22] _ _ _ (by kernel_rfl) hA1 hlt, rfl, bel.frame _, fun h => by cases h⟩
theorem over : Rows.crcJoinsRow.holds Try.pinned (OpenSpec.ofChange Rows.crcJoinsSpec) :=
  OpenClaim.holds_of_wide 4 Try.f4 rfl rfl rfl rfl rfl rfl rfl ⟨rfl, rfl, rfl, rfl, rfl⟩ rfl rfl rfl rfl rfl (by kernel_rfl) Try.func4 (by kernel_rfl)
    (of_decide_eq_true (by kernel_rfl)) (by unfold Func.isWrapper; first | (rw [if_pos (by decide +kernel)]; kernel_rfl) | (rw [if_neg (by decide +kernel)]; exact ⟨rfl, rfl⟩))
    (fun os started H enc _ => lifted os started H enc)
theorem proved : Rows.CrcJoinsSaid := over
#print axioms proved
end Go.Proofs.Ytagaaomdmjnbbaa.crcJoins
