/- AlignNone: for every n, size and text the law returns true, and its arguments read as before. No condition. -/
import Derived.Test.YtgiaidoaadjfkaaRdg
import Derived.Test.YtgiaidoaadjfkaaAlignAwake
namespace Go.Proofs.Ytgiaidoaadjfkaa.alignNone
open Go.ChangeShapes Go.WideShapes Go.ChangeAt Go.RowKit
open Go.ChangeMaps (open_string shut_string)
set_option linter.unusedVariables false

theorem cur_zero (w : World) : CurAt w.heap.size ⟨#[]⟩ 0 0 (w.alloc (.cells #[.int .i64 0, .string ⟨#[]⟩, .int .i64 0] 61 (0, 0))) := alloc_at w _
theorem done_zero (c : Nat) (w : World) (h : CurAt c ⟨#[]⟩ 0 0 w) : Calls Try.prog 23 #[.pointer (some ⟨c, 0, none⟩)] w fun e w' => e = .returned (.int .i64 0) ∧ ∃ m, w' = w.drewN m := done_any c ⟨#[]⟩ 0 0 w h
theorem take_zero (c : Nat) (w : World) (h : CurAt c ⟨#[]⟩ 0 0 w) : Calls Try.prog 20 #[.pointer (some ⟨c, 0, none⟩), .int .i64 1] w (CurTo c ⟨#[]⟩ 0 2 (.int .u64 0) w) := by
  have h1 := ctake_any c ⟨#[]⟩ 0 1 w h (by decide) (by decide) (by decide)
  have e1 : tkE ⟨#[]⟩ 0 1 = 2 := by decide
  have e2 : tkN ⟨#[]⟩ 0 1 = 0 := by decide
  have e3 : tkA ⟨#[]⟩ 0 1 = 0 := by decide
  rw [e1, e2, e3] at h1
  exact h1
theorem none_end {w w1 w2 : World} {o : Obj} {m : Nat} (ho : Only (fun k => k = w.heap.size) ((w.alloc o).drewN m) w1) (hb : Below w1.heap.size w1 w2) : Below w.heap.size w w2 :=
  below_step ((below_drewN (new_below w o) m).trans (ho.below (by omega) (by simp))) hb (by have h := ho.size; have h2 : ((w.alloc o).drewN m).heap.size = w.heap.size + 1 := (by simp); omega)
theorem walk (n z : Int) (s : ByteArray) (hn : (Lit.int .u64 n).wf = true) (w : World) :
    Calls Try.prog 6 #[.int .u64 n, .int .i64 z, .string s] w fun e w' => e = .returned (.bool true) ∧ Below w.heap.size w w' := by
  have HZ := Lib.hid (cur_zero w)
  go_enter Try.func6, Try.ntmps6
  go_wp2_with (first
    | (go_at_call 9; with_reducible refine (text_nil _ _).mono ?_; rintro e w1 ⟨rfl, rfl⟩)
    | (go_at_call 11; with_reducible refine (bput_nil _ _ _).mono ?_; rintro e w1 ⟨rfl, rfl⟩)
    | (go_at_call 12; with_reducible refine (len_nil _).mono ?_; rintro e w1 ⟨rfl, rfl⟩)
    | (go_at_call 13; with_reducible refine (bytes_nil _).mono ?_; rintro e w1 ⟨rfl, rfl⟩)
    | (go_at_call 20; with_reducible refine (ctake_nil _ _).mono ?_; rintro e w1 ⟨rfl, rfl⟩)
    | (go_at_call 18; with_reducible refine (ctext_nil _ _).mono ?_; rintro e w1 ⟨rfl, rfl⟩)
    | (go_at_call 21; with_reducible refine (at_nil _).mono ?_; rintro e w1 ⟨rfl, rfl⟩)
    | (go_at_call 22; with_reducible refine (err_nil _).mono ?_; rintro e w1 ⟨rfl, rfl⟩)
    | (go_at_call 23; with_reducible refine (done_nil _).mono ?_; rintro e w1 ⟨rfl, rfl⟩)
    | (go_at_call 23; refine (done_zero _ _ HZ.out).mono ?_; rintro e w1 ⟨rfl, m, rfl⟩)
    | (go_at_call 20; refine (take_zero _ _ (cur_drewN HZ.out _)).mono ?_; rintro e w1 ⟨rfl, ho, hc⟩; have HO := Lib.hid ho; have HC := Lib.hid hc; clear ho hc)
    | (go_at_call 22; refine (err_any _ _ _ _ _ HC.out).mono ?_; rintro e w1 ⟨rfl, rfl⟩)
    | (go_at_call 7; refine (awake2_any _).mono ?_; rintro e w1 ⟨rfl, hb⟩))
  go_ret
  exact ⟨rfl, none_end HO.out hb⟩
set_option maxRecDepth 100000 in
theorem lifted (os : Os) (started : os.Started) (H : Type) (enc : TypeId × Value → H) :
    ReturnsInHanded {} Try.checked os 6 .any (Rows.alignNoneSpec.pre6 enc Try.prog Try.f6 Rows.alignNoneRow.domain false) (Rows.alignNoneSpec.post enc Try.prog Try.f6 false true false false) := by
  refine returnsInHanded_of_change_sized (C := Try.checked) own started (by kernel_rfl) Try.func6
    (ChangeSpec.witness6 (enc := enc) (C := Try.checked) false ⟨#[], #[.int .u64 0, .int .i64 0, .string ⟨#[]⟩], []⟩ 8 (by kernel_rfl) (by kernel_rfl) (by kernel_rfl) (by kernel_rfl)) ?_
  intro W base args ds gs before hval0 hW hcnd hsz _
  have hval : ∀ (j : Nat) t v, Try.f6.params[j]? = some t → args[j]? = some v → Value.okWide Try.prog W .any base t v := hval0
  have hW' := hW
  obtain ⟨p, q, hA0, hV, rfl, hfz, hnd⟩ := hW
  have hA : DataW.TrodAll enc Try.prog W 0 (fun _ => true) true Try.f6.params.toList args.toList ds p := hA0
  rw [Try.params6] at hA hval
  obtain ⟨rfl, rfl⟩ := trodVars_none hV
  clear hA0 hval0
  simp only [List.append_nil] at hW'
  have hlt := hW'.lt
  have hA1 := hA
  have hsz1 : (DataW.weightsEach Try.prog (Try.f6.params.toList ++ []) (ds ++ [])).all (· ≤ reachBytes) = true := hsz
  rw [Try.params6, List.append_nil, List.append_nil] at hsz1
  have hrd := rdg_all _ _ _ _ hA1 (fun n hn => by simpa using List.all_eq_true.1 hsz1 n hn)
  obtain ⟨v0, vs0, d0, ds0, p0, q0, hargs, rfl, rfl, h0, r0⟩ := trodAll_cons hA
  obtain ⟨v1, vs1, d1, ds1, p1, q1, rfl, rfl, rfl, h1, r1⟩ := trodAll_cons r0
  obtain ⟨v2, vs2, d2, ds2, p2, q2, rfl, rfl, rfl, h2, r2⟩ := trodAll_cons r1
  obtain ⟨rfl, rfl, rfl⟩ := trodAll_nil r2
  obtain rfl : args = #[v0, v1, v2] := by cases args; simp_all
  obtain ⟨a0, rfl, w0⟩ := rop_int Try.underlying26 (hval 0 26 v0 rfl rfl) (hrd 0 26 v0 rfl rfl)
  obtain ⟨a1, rfl, w1⟩ := rop_int Try.underlying3 (hval 1 3 v1 rfl rfl) (hrd 1 3 v1 rfl rfl)
  obtain ⟨a2, rfl, w2⟩ := rop_string Try.underlying9 (hval 2 9 v2 rfl rfl) (hrd 2 9 v2 rfl rfl)
  refine (walk a0 a1 a2 w0 W).mono fun e W' ⟨he, bel⟩ => ?_
  subst he
  exact ⟨_, rfl, _, _, _, [], _, [], hW', trodAll_mk1 (shut_bool Try.underlying4 _), trodAll_below laidOut bel [26, 3, 9] _ _ _ (by kernel_rfl) hA1 hlt, rfl, bel.frame _, fun h => by cases h⟩
theorem over : Rows.alignNoneRow.holds Try.pinned (OpenSpec.ofChange Rows.alignNoneSpec) :=
  OpenClaim.holds_of_wide 6 Try.f6 rfl rfl rfl rfl rfl rfl rfl ⟨rfl, rfl, rfl, rfl, rfl⟩ rfl rfl rfl rfl rfl (by kernel_rfl) Try.func6 (by kernel_rfl)
    (of_decide_eq_true (by kernel_rfl)) (by unfold Func.isWrapper; first | (rw [if_pos (by decide +kernel)]; kernel_rfl) | (rw [if_neg (by decide +kernel)]; exact ⟨rfl, rfl⟩))
    (fun os started H enc _ => lifted os started H enc)
theorem proved : Rows.AlignNoneSaid := over
#print axioms proved
end Go.Proofs.Ytgiaidoaadjfkaa.alignNone
