/- WordBack: for every n, size and pair of texts the law returns true, and its arguments read as before. No condition. -/
import Derived.Test.YtlpcodkooebhjaaRdg
import Derived.Test.YtlpcodkooebhjaaWordAwake
import Derived.Test.YtlpcodkooebhjaaWordBackMath
namespace Go.Proofs.Ytlpcodkooebhjaa.wordBack
open Go.ChangeShapes Go.WideShapes Go.ChangeAt Go.RowKit
open Go.ChangeMaps (open_string shut_string)
set_option linter.unusedVariables false

theorem sign_back (m z : Int) (h : (bitsE m z != 0) = false) (w : World) : Calls Try.prog 13 #[.int .u64 (bitsN m z), .int .i64 z] w fun e w' => e = .returned (.int .i64 m) ∧ Below w.heap.size w w' :=
  (sign_any (bitsN m z) z w).mono fun _ _ ⟨he, hb⟩ => ⟨he.trans (ret_int (sign_bits m z h)), below_quiet hb⟩
theorem bits_back (n z : Int) (hz : isSz z = true) (hn : (Lit.int .u64 n).wf = true) (hf : fits n z = true) (w : World) :
    Calls Try.prog 11 #[.int .i64 (signZ n z), .int .i64 z] w fun e w' => e = .returned (.tuple #[.int .u64 n, .int .i64 0]) ∧ Below w.heap.size w w' :=
  (bits_any (signZ n z) z w).mono fun _ _ ⟨he, hb⟩ => ⟨he.trans (ret_ui (bits_sign n z hz (bounds_u64 hn).1 hf).1 (bits_sign n z hz (bounds_u64 hn).1 hf).2), below_quiet hb⟩
theorem wide_back (n z : Int) (w : World) : Calls Try.prog 15 #[.int .u64 (IntKind.u64.wrap (signZ n z)), .int .i64 z] w fun e w' => e = .returned (.int .u64 (IntKind.u64.wrap (signZ n z))) ∧ Below w.heap.size w w' :=
  (wide_any (IntKind.u64.wrap (signZ n z)) z w).mono fun _ _ ⟨he, hb⟩ => ⟨he.trans (ret_int (wide_wide n z)), below_quiet hb⟩
theorem take_put (s0 s1 : ByteArray) (n z : Int) (hz : isSz z = true) (hn : (Lit.int .u64 n).wf = true) (hf : fits n z = true) (h0 : s0.size ≤ 140737488351232) (h1 : s1.size ≤ 140737488351232) (w : World) :
    Calls Try.prog 8 #[.string (s0 ++ putS n z ++ s1), .int .i64 (s0.size : Nat), .int .i64 z] w fun e w' => e = .returned (.tuple #[.int .u64 n, .int .i64 0]) ∧ w = w' := by
  obtain ⟨t1, t2⟩ := take_mid s0 s1 n z hz (bounds_u64 hn).1 hf
  have hzp : 0 ≤ z ∧ z ≤ 8 := by rcases isSz_cases hz with rfl | rfl | rfl | rfl <;> omega
  have hs : (s0 ++ putS n z ++ s1).size ≤ maxLen := by
    unfold maxLen; rw [ByteArray.size_append, ByteArray.size_append, putS_size]; omega
  have hk : (Lit.int .i64 ((s0.size : Nat) : Int)).wf = true := WalkArith.wf_i64 (by omega)
  have h := take_any (s0 ++ putS n z ++ s1) (s0.size : Nat) z hs hk w
  rw [t1, t2] at h
  exact h
theorem walk (n z : Int) (s0 s1 : ByteArray) (hn : (Lit.int .u64 n).wf = true) (h0 : s0.size ≤ 140737488351232) (h1 : s1.size ≤ 140737488351232) (w : World) :
    Calls Try.prog 5 #[.int .u64 n, .int .i64 z, .agg #[.string s0, .string s1]] w fun e w' => e = .returned (.bool true) ∧ Below w.heap.size w w' := by
  have hr := (Below.refl w.heap.size w).alloc (Nat.le_refl _) (.cells #[.string s0, .string s1] 36)
  have c0 := cell_box w [.string s0, .string s1] 36 (0, 0) 0 (by simp)
  have c1 := cell_box w [.string s0, .string s1] 36 (0, 0) 1 (by simp)
  have hout : putE n z ≠ 0 ∨ (isSz z = true ∧ fits n z = true) := by
    unfold putE
    cases isSz z <;> cases fits n z <;> simp
  rcases hout with hp | ⟨hz, hf⟩
  · have hp' : (putE n z == 0) = false := by simpa using hp
    have hempty : putB n z = ⟨#[]⟩ := by
      cases hz : isSz z with
      | false => exact (put_no hz).1
      | true =>
        cases hf : fits n z with
        | false => exact (put_out hz hf).1
        | true => exact absurd (put_in hz hf).2 hp
    have hput : ∀ w : World, Calls Try.prog 6 #[.int .u64 n, .int .i64 z] w fun e w' => e = .returned (.tuple #[.string ⟨#[]⟩, .int .i64 (putE n z)]) ∧ Below w.heap.size w w' := fun w => by
      have h := put_any n z hn w
      rw [hempty] at h
      exact h
    clear hempty hp
    cases hE : (bitsE (wrap64 n) z != 0) with
    | false =>
      have hE' : (bitsE (wrap64 n) z == 0) = true := by simpa using hE
      go_enter Try.func5, Try.ntmps5
      go_wp2_with (first
          | (go_at_call 6; refine (hput _).mono ?_; rintro e w1 ⟨rfl, hb⟩; have hr := below_step hr hb (by simp); clear hb)
          | (go_at_call 13; with_reducible refine (sign_back _ _ hE _).mono ?_; rintro e w1 ⟨rfl, hb⟩; have hr := below_step hr hb (by simp); clear hb)
          | (go_at_call 11; with_reducible refine (bits_any (wrap64 n) z _).mono ?_; rintro e w1 ⟨rfl, hb⟩; have hb := below_quiet hb; have hr := below_step hr hb (by simp); clear hb)
          | (go_at_call 10; refine (awake_any _).mono ?_; rintro e w1 ⟨rfl, hb⟩; have hr := below_step hr hb (by simp); clear hb))
      go_ret
      exact ⟨rfl, hr⟩
    | true =>
      go_enter Try.func5, Try.ntmps5
      go_wp2_with (first
          | (go_at_call 6; refine (hput _).mono ?_; rintro e w1 ⟨rfl, hb⟩; have hr := below_step hr hb (by simp); clear hb)
          | (go_at_call 13; with_reducible refine (sign_back _ _ hE _).mono ?_; rintro e w1 ⟨rfl, hb⟩; have hr := below_step hr hb (by simp); clear hb)
          | (go_at_call 11; with_reducible refine (bits_any (wrap64 n) z _).mono ?_; rintro e w1 ⟨rfl, hb⟩; have hb := below_quiet hb; have hr := below_step hr hb (by simp); clear hb)
          | (go_at_call 10; refine (awake_any _).mono ?_; rintro e w1 ⟨rfl, hb⟩; have hr := below_step hr hb (by simp); clear hb))
      go_ret
      exact ⟨rfl, hr⟩
  · obtain ⟨p1, p2⟩ := put_in hz hf
    have hput : ∀ w : World, Calls Try.prog 6 #[.int .u64 n, .int .i64 z] w fun e w' => e = .returned (.tuple #[.string (putS n z), .int .i64 0]) ∧ Below w.heap.size w w' := fun w => by
      have h := put_any n z hn w
      rw [p1, p2] at h
      exact h
    have hps : (putS n z).size ≤ 8 := by rw [putS_size]; rcases isSz_cases hz with rfl | rfl | rfl | rfl <;> simp
    have hlen : ((((putS n z).size : Nat) : Int) != z) = false := by
      rw [putS_size]; rcases isSz_cases hz with rfl | rfl | rfl | rfl <;> rfl
    clear p1 p2
    cases hE : (bitsE (wrap64 n) z != 0) with
    | false =>
      go_enter Try.func5, Try.ntmps5
      go_wp2_with (first
          | (go_at_call 6; refine (hput _).mono ?_; rintro e w1 ⟨rfl, hb⟩; have hr := below_step hr hb (by simp); have c0 := keep hb c0; have c1 := keep hb c1; clear hb)
          | (go_at_call 8; refine (take_put _ _ _ _ hz hn hf h0 h1 _).mono ?_; rintro e w1 ⟨rfl, rfl⟩)
          | (go_at_call 13; with_reducible refine (sign_any n z _).mono ?_; rintro e w1 ⟨rfl, hb⟩; have hb := below_quiet hb; have hr := below_step hr hb (by simp); clear hb)
          | (go_at_call 13; with_reducible refine (sign_back _ _ hE _).mono ?_; rintro e w1 ⟨rfl, hb⟩; have hr := below_step hr hb (by simp); clear hb)
          | (go_at_call 11; with_reducible refine (bits_back n z hz hn hf _).mono ?_; rintro e w1 ⟨rfl, hb⟩; have hr := below_step hr hb (by simp); clear hb)
          | (go_at_call 11; with_reducible refine (bits_any (wrap64 n) z _).mono ?_; rintro e w1 ⟨rfl, hb⟩; have hb := below_quiet hb; have hr := below_step hr hb (by simp); clear hb)
          | (go_at_call 15; with_reducible refine (wide_back n z _).mono ?_; rintro e w1 ⟨rfl, hb⟩; have hr := below_step hr hb (by simp); clear hb)
          | (go_at_call 15; with_reducible refine (wide_any n z _).mono ?_; rintro e w1 ⟨rfl, hb⟩; have hb := below_quiet hb; have hr := below_step hr hb (by simp); clear hb)
          | (go_at_call 10; refine (awake_any _).mono ?_; rintro e w1 ⟨rfl, hb⟩; have hr := below_step hr hb (by simp); clear hb))
      go_ret
      exact ⟨rfl, hr⟩
    | true =>
      go_enter Try.func5, Try.ntmps5
      go_wp2_with (first
          | (go_at_call 6; refine (hput _).mono ?_; rintro e w1 ⟨rfl, hb⟩; have hr := below_step hr hb (by simp); have c0 := keep hb c0; have c1 := keep hb c1; clear hb)
          | (go_at_call 8; refine (take_put _ _ _ _ hz hn hf h0 h1 _).mono ?_; rintro e w1 ⟨rfl, rfl⟩)
          | (go_at_call 13; with_reducible refine (sign_any n z _).mono ?_; rintro e w1 ⟨rfl, hb⟩; have hb := below_quiet hb; have hr := below_step hr hb (by simp); clear hb)
          | (go_at_call 13; with_reducible refine (sign_back _ _ hE _).mono ?_; rintro e w1 ⟨rfl, hb⟩; have hr := below_step hr hb (by simp); clear hb)
          | (go_at_call 11; with_reducible refine (bits_back n z hz hn hf _).mono ?_; rintro e w1 ⟨rfl, hb⟩; have hr := below_step hr hb (by simp); clear hb)
          | (go_at_call 11; with_reducible refine (bits_any (wrap64 n) z _).mono ?_; rintro e w1 ⟨rfl, hb⟩; have hb := below_quiet hb; have hr := below_step hr hb (by simp); clear hb)
          | (go_at_call 15; with_reducible refine (wide_back n z _).mono ?_; rintro e w1 ⟨rfl, hb⟩; have hr := below_step hr hb (by simp); clear hb)
          | (go_at_call 15; with_reducible refine (wide_any n z _).mono ?_; rintro e w1 ⟨rfl, hb⟩; have hb := below_quiet hb; have hr := below_step hr hb (by simp); clear hb)
          | (go_at_call 10; refine (awake_any _).mono ?_; rintro e w1 ⟨rfl, hb⟩; have hr := below_step hr hb (by simp); clear hb))
      go_ret
      exact ⟨rfl, hr⟩
set_option maxRecDepth 100000 in
theorem lifted (os : Os) (started : os.Started) (H : Type) (enc : TypeId × Value → H) :
    ReturnsInHanded {} Try.checked os 5 .any (Rows.wordBackSpec.pre6 enc Try.prog Try.f5 Rows.wordBackRow.domain false) (Rows.wordBackSpec.post enc Try.prog Try.f5 false true false false) := by
  refine returnsInHanded_of_change_sized (C := Try.checked) own started (by kernel_rfl) Try.func5
    (ChangeSpec.witness6 (enc := enc) (C := Try.checked) false ⟨#[], #[.int .u64 0, .int .i64 0, .agg #[.string ⟨#[]⟩, .string ⟨#[]⟩]], []⟩ 8 (by kernel_rfl) (by kernel_rfl) (by kernel_rfl) (by kernel_rfl)) ?_
  intro W base args ds gs before hval0 hW hcnd hsz _
  have hval : ∀ (j : Nat) t v, Try.f5.params[j]? = some t → args[j]? = some v → Value.okWide Try.prog W .any base t v := hval0
  have hW' := hW
  obtain ⟨p, q, hA0, hV, rfl, hfz, hnd⟩ := hW
  have hA : DataW.TrodAll enc Try.prog W 0 (fun _ => true) true Try.f5.params.toList args.toList ds p := hA0
  rw [Try.params5] at hA hval
  obtain ⟨rfl, rfl⟩ := trodVars_none hV
  clear hA0 hval0
  simp only [List.append_nil] at hW'
  have hlt := hW'.lt
  have hA1 := hA
  have hsz1 : (DataW.weightsEach Try.prog (Try.f5.params.toList ++ []) (ds ++ [])).all (· ≤ reachBytes) = true := hsz
  rw [Try.params5, List.append_nil, List.append_nil] at hsz1
  have hrd := rdg_all _ _ _ _ hA1 (fun n hn => by simpa using List.all_eq_true.1 hsz1 n hn)
  obtain ⟨v0, vs0, d0, ds0, p0, q0, hargs, rfl, rfl, h0, r0⟩ := trodAll_cons hA
  obtain ⟨v1, vs1, d1, ds1, p1, q1, rfl, rfl, rfl, h1, r1⟩ := trodAll_cons r0
  obtain ⟨v2, vs2, d2, ds2, p2, q2, rfl, rfl, rfl, h2, r2⟩ := trodAll_cons r1
  obtain ⟨rfl, rfl, rfl⟩ := trodAll_nil r2
  obtain rfl : args = #[v0, v1, v2] := by cases args; simp_all
  obtain ⟨a0, rfl, w0⟩ := rop_int Try.underlying22 (hval 0 22 v0 rfl rfl) (hrd 0 22 v0 rfl rfl)
  obtain ⟨a1, rfl, w1⟩ := rop_int Try.underlying3 (hval 1 3 v1 rfl rfl) (hrd 1 3 v1 rfl rfl)
  have g2 := hrd 2 36 v2 rfl rfl
  obtain ⟨cs2, rfl, hz2⟩ := ok_agg (by first | exact .inl ⟨_, Try.underlying36⟩ | exact .inr ⟨_, _, Try.underlying36⟩) (hval 2 36 v2 rfl rfl)

  obtain ⟨c0, c1, rfl⟩ := arr2 (hz2.trans (by kernel_rfl))
  obtain ⟨s0, e0, h0⟩ := rdg_string Try.underlying9 (rdg_elem Try.underlying36 g2 0 1 (by omega) (by kernel_rfl))
  obtain ⟨s1, e1, h1⟩ := rdg_string Try.underlying9 (rdg_elem Try.underlying36 g2 1 1 (by omega) (by kernel_rfl))
  simp [Value.cells] at e0 e1
  subst e0 e1
  refine (walk a0 a1 s0 s1 w0 h0 h1 W).mono fun e W' ⟨he, bel⟩ => ?_
  subst he
  exact ⟨_, rfl, _, _, _, [], _, [], hW', trodAll_mk1 (shut_bool Try.underlying4 _), trodAll_below laidOut bel [22, 3, 36] _ _ _ (by kernel_rfl) hA1 hlt, rfl, bel.frame _, fun h => by cases h⟩
theorem over : Rows.wordBackRow.holds Try.pinned (OpenSpec.ofChange Rows.wordBackSpec) :=
  OpenClaim.holds_of_wide 5 Try.f5 rfl rfl rfl rfl rfl rfl rfl ⟨rfl, rfl, rfl, rfl, rfl⟩ rfl rfl rfl rfl rfl (by kernel_rfl) Try.func5 (by kernel_rfl)
    (of_decide_eq_true (by kernel_rfl)) (by unfold Func.isWrapper; first | (rw [if_pos (by decide +kernel)]; kernel_rfl) | (rw [if_neg (by decide +kernel)]; exact ⟨rfl, rfl⟩))
    (fun os started H enc _ => lifted os started H enc)
theorem proved : Rows.WordBackSaid := over
#print axioms proved
end Go.Proofs.Ytlpcodkooebhjaa.wordBack
