/- LikeJoins: for every two patterns and two texts the law returns true, and its arguments read as before. No condition. -/
import Derived.Test.YtbldhfafflobbaaRdgSlice
import Derived.Test.YtbldhfafflobbaaLikeMat
import Derived.Test.YtbldhfafflobbaaLikeLaw3
namespace Go.Proofs.Ytbldhfafflobbaa.likeJoins
open Go.ChangeShapes Go.WideShapes Go.ChangeAt Go.RowKit
open Go.ChangeMaps (open_string shut_string)
set_option linter.unusedVariables false
theorem walk (x y z u : ByteArray) (w : World) : Calls Try.prog 5 #[.string x, .string y, .agg #[.string z, .string u]] w fun e w' => e = .returned (.bool true) ∧ Below w.heap.size w w' := joins17 like_code x y z u w
set_option maxRecDepth 100000 in
theorem lifted (os : Os) (started : os.Started) (H : Type) (enc : TypeId × Value → H) :
    ReturnsInHanded {} Try.checked os 5 .any (Rows.likeJoinsSpec.pre6 enc Try.prog Try.f5 Rows.likeJoinsRow.domain false) (Rows.likeJoinsSpec.post enc Try.prog Try.f5 false true false false) := by
  refine returnsInHanded_of_change_sized (C := Try.checked) own started (by kernel_rfl) Try.func5
    (ChangeSpec.witness6 (enc := enc) (C := Try.checked) false ⟨#[], #[.string ⟨#[]⟩, .string ⟨#[]⟩, .agg #[.string ⟨#[]⟩, .string ⟨#[]⟩]], []⟩ 8 (by kernel_rfl) (by kernel_rfl) (by kernel_rfl) (by kernel_rfl)) ?_
  intro W base args ds gs before hval0 hW hcnd hsz _
  have hval : ∀ (j : Nat) t v, Try.f5.params[j]? = some t → args[j]? = some v → Value.okWide Try.prog W .any base t v := hval0
  have hW' := hW
  obtain ⟨p, q, hA0, hV, rfl, hfz, hnd⟩ := hW
  have hA : DataW.TrodAll enc Try.prog W 0 (fun _ => true) true Try.f5.params.toList args.toList ds p := hA0
  rw [Try.params5] at hA hval
  obtain ⟨rfl, rfl⟩ := trodVars_none hV
  clear hA0 hval0
  simp only [List.append_nil] at hW'
  have hlt := hW'.lt
  have hA1 := hA
  have hsz1 : (DataW.weightsEach Try.prog (Try.f5.params.toList ++ []) (ds ++ [])).all (· ≤ reachBytes) = true := hsz
  rw [Try.params5, List.append_nil, List.append_nil] at hsz1
  have hrd := rdg_all _ _ _ _ hA1 (fun n hn => by simpa using List.all_eq_true.1 hsz1 n hn)
  obtain ⟨v0, vs0, d0, ds0, p0, q0, hargs, rfl, rfl, h0, r0⟩ := trodAll_cons hA
  obtain ⟨v1, vs1, d1, ds1, p1, q1, rfl, rfl, rfl, h1, r1⟩ := trodAll_cons r0
  obtain ⟨v2, vs2, d2, ds2, p2, q2, rfl, rfl, rfl, h2, r2⟩ := trodAll_cons r1
  obtain ⟨rfl, rfl, rfl⟩ := trodAll_nil r2
  obtain rfl : args = #[v0, v1, v2] := by cases args; simp_all
  obtain ⟨a0, rfl, w0⟩ := rop_string Try.underlying9 (hval 0 9 v0 rfl rfl) (hrd 0 9 v0 rfl rfl)
  obtain ⟨a1, rfl, w1⟩ := rop_string Try.underlying9 (hval 1 9 v1 rfl rfl) (hrd 1 9 v1 rfl rfl)
  have g2 := hrd 2 26 v2 rfl rfl
  obtain ⟨cs2, rfl, hz2⟩ := ok_agg (by first | exact .inl ⟨_, Try.underlying26⟩ | exact .inr ⟨_, _, Try.underlying26⟩) (hval 2 26 v2 rfl rfl)

  obtain ⟨c0, c1, rfl⟩ := arr2 (hz2.trans (by kernel_rfl))
  obtain ⟨s0, e0, h0⟩ := rdg_string Try.underlying9 (rdg_elem Try.underlying26 g2 0 1 (by omega) (by kernel_rfl))
  obtain ⟨s1, e1, h1⟩ := rdg_string Try.underlying9 (rdg_elem Try.underlying26 g2 1 1 (by omega) (by kernel_rfl))
  simp [Value.cells] at e0 e1
  subst e0 e1
  refine (walk a0 a1 s0 s1 W).mono fun e W' ⟨he, bel⟩ => ?_
  subst he
  exact ⟨_, rfl, _, _, _, [], _, [], hW', trodAll_mk1 (shut_bool Try.underlying4 _), trodAll_below laidOut bel [9, 9, 26] _ _ _ (by kernel_rfl) hA1 hlt, rfl, bel.frame _, fun h => by cases h⟩
theorem over : Rows.likeJoinsRow.holds Try.pinned (OpenSpec.ofChange Rows.likeJoinsSpec) :=
  OpenClaim.holds_of_wide 5 Try.f5 rfl rfl rfl rfl rfl rfl rfl ⟨rfl, rfl, rfl, rfl, rfl⟩ rfl rfl rfl rfl rfl (by kernel_rfl) Try.func5 (by kernel_rfl)
    (of_decide_eq_true (by kernel_rfl)) (by unfold Func.isWrapper; first | (rw [if_pos (by decide +kernel)]; kernel_rfl) | (rw [if_neg (by decide +kernel)]; exact ⟨rfl, rfl⟩))
    (fun os started H enc _ => lifted os started H enc)
theorem proved : Rows.LikeJoinsSaid := over
#print axioms proved
end Go.Proofs.Ytbldhfafflobbaa.likeJoins
