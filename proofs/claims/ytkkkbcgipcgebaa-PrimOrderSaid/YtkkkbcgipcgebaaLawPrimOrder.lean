/- PrimOrder: for any three kinds and numbers the law returns true, and its arguments read as before. No condition. -/
import Derived.Test.YtkkkbcgipcgebaaRdg
import Derived.Test.YtkkkbcgipcgebaaPrimOrdWalk
namespace Go.Proofs.Ytkkkbcgipcgebaa.primOrder
open Go.ChangeShapes Go.WideShapes Go.ChangeAt Go.RowKit
open Go.ChangeMaps (open_string shut_string)
set_option linter.unusedVariables false

set_option maxRecDepth 100000 in
theorem lifted (os : Os) (started : os.Started) (H : Type) (enc : TypeId × Value → H) :
    ReturnsInHanded {} Try.checked os 6 .any (Rows.primOrderSpec.pre6 enc Try.prog Try.f6 Rows.primOrderRow.domain false) (Rows.primOrderSpec.post enc Try.prog Try.f6 false true false false) := by
  refine returnsInHanded_of_change_sized (C := Try.checked) own started (by kernel_rfl) Try.func6
    (ChangeSpec.witness6 (enc := enc) (C := Try.checked) false ⟨#[], #[.agg #[.int .i64 0, .int .i64 0, .int .i64 0], .agg #[.int .u64 0, .int .u64 0, .int .u64 0]], []⟩ 8 (by kernel_rfl) (by kernel_rfl) (by kernel_rfl) (by kernel_rfl)) ?_
  intro W base args ds gs before hval0 hW hcnd hsz _
  have hval : ∀ (j : Nat) t v, Try.f6.params[j]? = some t → args[j]? = some v → Value.okWide Try.prog W .any base t v := hval0
  have hW' := hW
  obtain ⟨p, q, hA0, hV, rfl, hfz, hnd⟩ := hW
  have hA : DataW.TrodAll enc Try.prog W 0 (fun _ => true) true Try.f6.params.toList args.toList ds p := hA0
  rw [Try.params6] at hA hval
  obtain ⟨rfl, rfl⟩ := trodVars_none hV
  clear hA0 hval0
  simp only [List.append_nil] at hW'
  have hlt := hW'.lt
  have hA1 := hA
  have hsz1 : (DataW.weightsEach Try.prog (Try.f6.params.toList ++ []) (ds ++ [])).all (· ≤ reachBytes) = true := hsz
  rw [Try.params6, List.append_nil, List.append_nil] at hsz1
  have hrd := rdg_all _ _ _ _ hA1 (fun n hn => by simpa using List.all_eq_true.1 hsz1 n hn)
  obtain ⟨v0, vs0, d0, ds0, p0, q0, hargs, rfl, rfl, h0, r0⟩ := trodAll_cons hA
  obtain ⟨v1, vs1, d1, ds1, p1, q1, rfl, rfl, rfl, h1, r1⟩ := trodAll_cons r0
  obtain ⟨rfl, rfl, rfl⟩ := trodAll_nil r1
  obtain rfl : args = #[v0, v1] := by cases args; simp_all
  have g0 := hrd 0 36 v0 rfl rfl
  obtain ⟨cs0, rfl, hz0⟩ := ok_agg (by first | exact .inl ⟨_, Try.underlying36⟩ | exact .inr ⟨_, _, Try.underlying36⟩) (hval 0 36 v0 rfl rfl)
  have g1 := hrd 1 37 v1 rfl rfl
  obtain ⟨cs1, rfl, hz1⟩ := ok_agg (by first | exact .inl ⟨_, Try.underlying37⟩ | exact .inr ⟨_, _, Try.underlying37⟩) (hval 1 37 v1 rfl rfl)

  obtain ⟨c0, c1, c2, rfl⟩ := arr3 (hz0.trans (by kernel_rfl))
  obtain ⟨x0, e0, hx0⟩ := rdg_int Try.underlying3 (rdg_elem Try.underlying36 g0 0 1 (by omega) (by kernel_rfl))
  obtain ⟨x1, e1, hx1⟩ := rdg_int Try.underlying3 (rdg_elem Try.underlying36 g0 1 1 (by omega) (by kernel_rfl))
  obtain ⟨x2, e2, hx2⟩ := rdg_int Try.underlying3 (rdg_elem Try.underlying36 g0 2 1 (by omega) (by kernel_rfl))
  simp [Value.cells] at e0 e1 e2
  subst e0 e1 e2
  obtain ⟨y0, y1, y2, rfl⟩ := arr3 (hz1.trans (by kernel_rfl))
  obtain ⟨z0, e0, hy0⟩ := rdg_int Try.underlying22 (rdg_elem Try.underlying37 g1 0 1 (by omega) (by kernel_rfl))
  obtain ⟨z1, e1, hy1⟩ := rdg_int Try.underlying22 (rdg_elem Try.underlying37 g1 1 1 (by omega) (by kernel_rfl))
  obtain ⟨z2, e2, hy2⟩ := rdg_int Try.underlying22 (rdg_elem Try.underlying37 g1 2 1 (by omega) (by kernel_rfl))
  simp [Value.cells] at e0 e1 e2
  subst e0 e1 e2
  refine (ord_walk x0 x1 x2 z0 z1 z2 hy0 hy1 hy2 W).mono fun e W' ⟨he, bel⟩ => ?_
  subst he
  exact ⟨_, rfl, _, _, _, [], _, [], hW', trodAll_mk1 (shut_bool Try.underlying4 _), trodAll_below laidOut bel [36, 37] _ _ _ (by kernel_rfl) hA1 hlt, rfl, bel.frame _, fun h => by cases h⟩
theorem over : Rows.primOrderRow.holds Try.pinned (OpenSpec.ofChange Rows.primOrderSpec) :=
  OpenClaim.holds_of_wide 6 Try.f6 rfl rfl rfl rfl rfl rfl rfl ⟨rfl, rfl, rfl, rfl, rfl⟩ rfl rfl rfl rfl rfl (by kernel_rfl) Try.func6 (by kernel_rfl)
    (of_decide_eq_true (by kernel_rfl)) (by unfold Func.isWrapper; first | (rw [if_pos (by decide +kernel)]; kernel_rfl) | (rw [if_neg (by decide +kernel)]; exact ⟨rfl, rfl⟩))
    (fun os started H enc _ => lifted os started H enc)
theorem proved : Rows.PrimOrderSaid := over
#print axioms proved
end Go.Proofs.Ytkkkbcgipcgebaa.primOrder
