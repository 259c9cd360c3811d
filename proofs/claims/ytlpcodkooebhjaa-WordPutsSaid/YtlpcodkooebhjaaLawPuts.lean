/- WordPuts: for every n, size, bytes and place the law returns true, and its arguments read as before. No condition. -/
import Derived.Test.YtlpcodkooebhjaaRdg
import Derived.Test.YtlpcodkooebhjaaWordAwake
namespace Go.Proofs.Ytlpcodkooebhjaa.wordPuts
open Go.ChangeShapes Go.WideShapes Go.ChangeAt Go.RowKit
open Go.ChangeMaps (open_string shut_string)
set_option linter.unusedVariables false

theorem walk (n z a : Int) (s : ByteArray) (hn : (Lit.int .u64 n).wf = true) (hs : s.size ≤ maxLen) (ha : (Lit.int .i64 a).wf = true) (w : World) :
    Calls Try.prog 3 #[.int .u64 n, .int .i64 z, .agg #[.string s, .int .i64 a]] w fun e w' => e = .returned (.bool true) ∧ Below w.heap.size w w' := by
  have hr := (Below.refl w.heap.size w).alloc (Nat.le_refl _) (.cells #[.string s, .int .i64 a] 24)
  have c0 := cell_box w [.string s, .int .i64 a] 24 (0, 0) 0 (by simp)
  have c1 := cell_box w [.string s, .int .i64 a] 24 (0, 0) 1 (by simp)
  go_enter Try.func3, Try.ntmps3
  go_wp2_with (first
    | (go_at_call 6; refine (put_any _ _ hn _).mono ?_; rintro e w1 ⟨rfl, hb⟩; have hr := below_step hr hb (by simp); have c0 := keep hb c0; have c1 := keep hb c1; clear hb)
    | (go_at_call 7; refine (refPut_any _ _ hn _).mono ?_; rintro e w1 ⟨rfl, hb⟩; have hr := below_step hr hb (by simp); have c0 := keep hb c0; have c1 := keep hb c1; clear hb)
    | (go_at_call 8; refine (take_any _ _ _ hs ha _).mono ?_; rintro e w1 ⟨rfl, rfl⟩)
    | (go_at_call 9; refine (refTake_any _ _ _ hs ha _).mono ?_; rintro e w1 ⟨rfl, rfl⟩)
    | (go_at_call 10; refine (awake_any _).mono ?_; rintro e w1 ⟨rfl, hb⟩; have hr := below_step hr hb (by simp); clear hb))

  go_ret
  exact ⟨rfl, hr⟩
set_option maxRecDepth 100000 in
theorem lifted (os : Os) (started : os.Started) (H : Type) (enc : TypeId × Value → H) :
    ReturnsInHanded {} Try.checked os 3 .any (Rows.wordPutsSpec.pre6 enc Try.prog Try.f3 Rows.wordPutsRow.domain false) (Rows.wordPutsSpec.post enc Try.prog Try.f3 false true false false) := by
  refine returnsInHanded_of_change_sized (C := Try.checked) own started (by kernel_rfl) Try.func3
    (ChangeSpec.witness6 (enc := enc) (C := Try.checked) false ⟨#[], #[.int .u64 0, .int .i64 0, .agg #[.string ⟨#[]⟩, .int .i64 0]], []⟩ 8 (by kernel_rfl) (by kernel_rfl) (by kernel_rfl) (by kernel_rfl)) ?_
  intro W base args ds gs before hval0 hW hcnd hsz _
  have hval : ∀ (j : Nat) t v, Try.f3.params[j]? = some t → args[j]? = some v → Value.okWide Try.prog W .any base t v := hval0
  have hW' := hW
  obtain ⟨p, q, hA0, hV, rfl, hfz, hnd⟩ := hW
  have hA : DataW.TrodAll enc Try.prog W 0 (fun _ => true) true Try.f3.params.toList args.toList ds p := hA0
  rw [Try.params3] at hA hval
  obtain ⟨rfl, rfl⟩ := trodVars_none hV
  clear hA0 hval0
  simp only [List.append_nil] at hW'
  have hlt := hW'.lt
  have hA1 := hA
  have hsz1 : (DataW.weightsEach Try.prog (Try.f3.params.toList ++ []) (ds ++ [])).all (· ≤ reachBytes) = true := hsz
  rw [Try.params3, List.append_nil, List.append_nil] at hsz1
  have hrd := rdg_all _ _ _ _ hA1 (fun n hn => by simpa using List.all_eq_true.1 hsz1 n hn)
  obtain ⟨v0, vs0, d0, ds0, p0, q0, hargs, rfl, rfl, h0, r0⟩ := trodAll_cons hA
  obtain ⟨v1, vs1, d1, ds1, p1, q1, rfl, rfl, rfl, h1, r1⟩ := trodAll_cons r0
  obtain ⟨v2, vs2, d2, ds2, p2, q2, rfl, rfl, rfl, h2, r2⟩ := trodAll_cons r1
  obtain ⟨rfl, rfl, rfl⟩ := trodAll_nil r2
  obtain rfl : args = #[v0, v1, v2] := by cases args; simp_all
  obtain ⟨a0, rfl, w0⟩ := rop_int Try.underlying22 (hval 0 22 v0 rfl rfl) (hrd 0 22 v0 rfl rfl)
  obtain ⟨a1, rfl, w1⟩ := rop_int Try.underlying3 (hval 1 3 v1 rfl rfl) (hrd 1 3 v1 rfl rfl)
  have g2 := hrd 2 24 v2 rfl rfl
  obtain ⟨cs2, rfl, hz2⟩ := ok_agg (by first | exact .inl ⟨_, Try.underlying24⟩ | exact .inr ⟨_, _, Try.underlying24⟩) (hval 2 24 v2 rfl rfl)

  obtain ⟨c0, c1, rfl⟩ := arr2 (hz2.trans (by kernel_rfl))
  obtain ⟨s, e0, hs⟩ := rdg_string Try.underlying9 (rdg_field Try.underlying24 g2 0 9 0 1 rfl (by kernel_rfl))
  obtain ⟨a, e1, ha⟩ := rdg_int Try.underlying3 (rdg_field Try.underlying24 g2 1 3 1 1 rfl (by kernel_rfl))
  simp [Value.cells] at e0 e1
  subst e0 e1
  have hs' : s.size ≤ maxLen := by unfold maxLen; omega
  refine (walk a0 a1 a s w0 hs' ha W).mono fun e W' ⟨he, bel⟩ => ?_
  subst he
  exact ⟨_, rfl, _, _, _, [], _, [], hW', trodAll_mk1 (shut_bool Try.underlying4 _), trodAll_below laidOut bel [22, 3, 24] _ _ _ (by kernel_rfl) hA1 hlt, rfl, bel.frame _, fun h => by cases h⟩
theorem over : Rows.wordPutsRow.holds Try.pinned (OpenSpec.ofChange Rows.wordPutsSpec) :=
  OpenClaim.holds_of_wide 3 Try.f3 rfl rfl rfl rfl rfl rfl rfl ⟨rfl, rfl, rfl, rfl, rfl⟩ rfl rfl rfl rfl rfl (by kernel_rfl) Try.func3 (by kernel_rfl)
    (of_decide_eq_true (by kernel_rfl)) (by unfold Func.isWrapper; first | (rw [if_pos (by decide +kernel)]; kernel_rfl) | (rw [if_neg (by decide +kernel)]; exact ⟨rfl, rfl⟩))
    (fun os started H enc _ => lifted os started H enc)
theorem proved : Rows.WordPutsSaid := over
#print axioms proved
end Go.Proofs.Ytlpcodkooebhjaa.wordPuts
