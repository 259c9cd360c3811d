/- FitsTells: for every list of types, every number and every value the law returns true, and its arguments read as before. No condition. -/
import Derived.Test.YtohphejhlgnciaaGreatRdg
import Derived.Test.YtohphejhlgnciaaGreatFitsAwake
import Derived.Test.YtohphejhlgnciaaGreatFitsRTop
namespace Go.Proofs.YtohphejhlgnciaaGreat.fitsTells
open Go.ChangeShapes Go.WideShapes Go.ChangeAt Go.RowKit
open Go.ChangeMaps (open_string shut_string)
set_option linter.unusedVariables false

set_option maxRecDepth 100000 in
set_option maxHeartbeats 4000000 in
theorem walk (ao : Option Addr) (len cap : Nat) (L : Nat → TypeV) (t : Int) (T : VT) (S : Nat → Prop) (hcap : len ≤ cap) (hm : len ≤ 140737488351232) (hcp : ∀ i, i < len → (L i).ilen ≤ (L i).icap) (w : World) (H : ∀ i, i < len → TypeAt w ao i (L i)) (HV : ValAt w S T) :
    Calls Tryz.prog 3 #[.slice ao len cap, .int .i64 t, .agg #[.int .i64 T.kind, .int .u64 T.num, .string T.text, .slice T.ia T.len T.cap]] w fun e w' => e = .returned (.bool true) ∧ Below w.heap.size w w' := by
  have HW := Lib.hid (fun wx (hb : Below w.heap.size w wx) => awake9_any wx)
  have hg := fun wx (hb : Below w.heap.size w wx) => great_any ao len cap L hm wx (hold H hb)
  have hmu := fun wx (hb : Below w.heap.size w wx) => refMuch_any S T 0 wx (HV.next hb) (by omega)
  unfold RMuchTo at hmu
  rw [show ((0 : Nat) : Int) = 0 from rfl] at hmu
  have HQ := Lib.hid (alloc_at w (.cells #[.int .i64 T.kind, .int .u64 T.num, .string T.text, .slice T.ia T.len T.cap] 26))
  have HB := Lib.hid ((Below.refl w.heap.size w).alloc (Nat.le_refl _) (.cells #[.int .i64 T.kind, .int .u64 T.num, .string T.text, .slice T.ia T.len T.cap] 26))
  cases hbig : greatB L len with
  | true =>
    rw [hbig] at hg
    have HG := Lib.hid hg
    clear hg hmu hbig HV H hcp
    go_enter Tryz.func3, Tryz.ntmps3
    go_wp2_with (first
      | (go_at_call 5; refine (HG.out _ HB.out).mono ?_; rintro e w' ⟨rfl, rfl⟩)
      | (go_at_call 7; refine (HW.out _ HB.out).mono ?_; rintro e w9 ⟨rfl, hb9⟩; have HB9 := Lib.hid (below_step8' HB.out hb9); clear hb9))
    go_ret
    exact ⟨rfl, HB9.out⟩
  | false =>
  have hlen := great_lt hbig
  rw [hbig] at hg
  have HG := Lib.hid hg
  clear hg hbig
  cases hmt : muchT T 0 with
  | true =>
    rw [hmt] at hmu
    have HM := Lib.hid hmu
    clear hmu hmt HV H hcp
    go_enter Tryz.func3, Tryz.ntmps3
    go_wp2_with (first
      | (go_at_call 5; refine (HG.out _ HB.out).mono ?_; rintro e w' ⟨rfl, rfl⟩)
      | (go_at_call 6; refine (HM.out _ HB.out).mono ?_; rintro e w1 ⟨rfl, hb1⟩; have HB1 := Lib.hid (below_step8' HB.out hb1); have HX1 := Lib.hid (box_keep HQ.out hb1); have d0 : w1.cell? ⟨w.heap.size, 0, none⟩ = some (.int .i64 T.kind) := cell_at HX1.out rfl; have d1 : w1.cell? ⟨w.heap.size, 1, none⟩ = some (.int .u64 T.num) := cell_at HX1.out rfl; have d2 : w1.cell? ⟨w.heap.size, 2, none⟩ = some (.string T.text) := cell_at HX1.out rfl; have d3 : w1.cell? ⟨w.heap.size, 3, none⟩ = some (.slice T.ia T.len T.cap) := cell_at HX1.out rfl; clear hb1)
      | (go_at_call 7; refine (HW.out _ HB1.out).mono ?_; rintro e w9 ⟨rfl, hb9⟩; have HB9 := Lib.hid (below_step8' HB1.out hb9); clear hb9))
    go_ret
    exact ⟨rfl, HB9.out⟩
  | false =>
  rw [hmt] at hmu
  have HM := Lib.hid hmu
  clear hmu hmt
  have hfi := fun wx (hb : Below w.heap.size w wx) => fits9_any ao len cap L (by omega) hcap hcp S t T wx (HV.next hb) (hold H hb)
  have hfr := fun wx (hb : Below w.heap.size w wx) => rfits9_any ao len cap L (by omega) S t T wx (HV.next hb) (hold H hb)
  obtain ⟨q, hq⟩ : ∃ q, fitsA L len t T = q := ⟨_, rfl⟩
  rw [hq] at hfi hfr
  have HF := Lib.hid hfi
  have HR := Lib.hid hfr
  have hqq : (q == q) = true := by simp
  clear hfi hfr hq HV H hcp
  go_enter Tryz.func3, Tryz.ntmps3
  go_upto_region 3 with (first
    | (go_at_call 5; refine (HG.out _ HB.out).mono ?_; rintro e w' ⟨rfl, rfl⟩)
    | (go_at_call 6; refine (HM.out _ HB.out).mono ?_; rintro e w1 ⟨rfl, hb1⟩; have HB1 := Lib.hid (below_step8' HB.out hb1); have HX1 := Lib.hid (box_keep HQ.out hb1); have d0 : w1.cell? ⟨w.heap.size, 0, none⟩ = some (.int .i64 T.kind) := cell_at HX1.out rfl; have d1 : w1.cell? ⟨w.heap.size, 1, none⟩ = some (.int .u64 T.num) := cell_at HX1.out rfl; have d2 : w1.cell? ⟨w.heap.size, 2, none⟩ = some (.string T.text) := cell_at HX1.out rfl; have d3 : w1.cell? ⟨w.heap.size, 3, none⟩ = some (.slice T.ia T.len T.cap) := cell_at HX1.out rfl; clear hb1))
  have HX := HX1
  clear HB HX1
  have HB := HB1
  clear HB1
  go_wp2_with fail
  go_region_held3 (fun w' => w'.cell? ⟨w.heap.size, 0, none⟩ = some (.int .i64 T.kind) ∧ w'.cell? ⟨w.heap.size, 1, none⟩ = some (.int .u64 T.num) ∧ w'.cell? ⟨w.heap.size, 2, none⟩ = some (.string T.text) ∧ w'.cell? ⟨w.heap.size, 3, none⟩ = some (.slice T.ia T.len T.cap) ∧ Hid (Below w.heap.size w w'))
    (first | exact ⟨d0, d1, d2, d3, Lib.hid HB.out.drew⟩ | exact ⟨d0, d1, d2, d3, HB⟩ | fail)
    (first
      | (go_at_call 8; refine (HF.out _ (by first | exact HB.out | exact HB.out.drew)).mono ?_; rintro e w3 ⟨rfl, hb3⟩; have HB := Lib.hid (below_step8' (by first | exact HB.out | exact HB.out.drew) hb3); have d0 := keep hb3 (by exact d0); have d1 := keep hb3 (by exact d1); have d2 := keep hb3 (by exact d2); have d3 := keep hb3 (by exact d3); clear hb3)
      | (go_at_call 9; refine (HR.out _ (by first | exact HB.out | exact HB.out.drew)).mono ?_; rintro e w3 ⟨rfl, hb3⟩; have HB := Lib.hid (below_step8' (by first | exact HB.out | exact HB.out.drew) hb3); have d0 := keep hb3 (by exact d0); have d1 := keep hb3 (by exact d1); have d2 := keep hb3 (by exact d2); have d3 := keep hb3 (by exact d3); clear hb3)
      | (go_at_call 7; refine (HW.out _ (by first | exact HB.out | exact HB.out.drew)).mono ?_; rintro e w3 ⟨rfl, hb3⟩; have HB := Lib.hid (below_step8' (by first | exact HB.out | exact HB.out.drew) hb3); have d0 := keep hb3 (by exact d0); have d1 := keep hb3 (by exact d1); have d2 := keep hb3 (by exact d2); have d3 := keep hb3 (by exact d3); clear hb3))
  go_wp2
  go_ret
  exact ⟨rfl, HB.out⟩
set_option maxRecDepth 100000 in
theorem lifted (os : Os) (started : os.Started) (H : Type) (enc : TypeId × Value → H) :
    ReturnsInHanded {} Tryz.checked os 3 .any (Rows.fitsTellsSpec.pre6 enc Tryz.prog Tryz.f3 Rows.fitsTellsRow.domain false) (Rows.fitsTellsSpec.post enc Tryz.prog Tryz.f3 false true false false) := by
  refine returnsInHanded_of_change_sized (C := Tryz.checked) own started (by kernel_rfl) Tryz.func3
    (ChangeSpec.witness6 (enc := enc) (C := Tryz.checked) false ⟨#[], #[.slice none 0 0, .int .i64 0, .agg #[.int .i64 0, .int .u64 0, .string ⟨#[]⟩, .slice none 0 0]], []⟩ 8 (by kernel_rfl) (by kernel_rfl) (by kernel_rfl) (by kernel_rfl)) ?_
  intro W base args ds gs before hval0 hW hcnd hsz _
  have hval : ∀ (j : Nat) t v, Tryz.f3.params[j]? = some t → args[j]? = some v → Value.okWide Tryz.prog W .any base t v := hval0
  have hW' := hW
  obtain ⟨p, q, hA0, hV, rfl, hfz, hnd⟩ := hW
  have hA : DataW.TrodAll enc Tryz.prog W 0 (fun _ => true) true Tryz.f3.params.toList args.toList ds p := hA0
  rw [Tryz.params3] at hA hval
  obtain ⟨rfl, rfl⟩ := trodVars_none hV
  clear hA0 hval0
  simp only [List.append_nil] at hW'
  have hlt := hW'.lt
  have hA1 := hA
  have hsz1 : (DataW.weightsEach Tryz.prog (Tryz.f3.params.toList ++ []) (ds ++ [])).all (· ≤ reachBytes) = true := hsz
  rw [Tryz.params3, List.append_nil, List.append_nil] at hsz1
  have hrd := rdg_all _ _ _ _ hA1 (fun n hn => by simpa using List.all_eq_true.1 hsz1 n hn)
  obtain ⟨v0, vs0, d0, ds0, p0, q0, hargs, rfl, rfl, h0, r0⟩ := trodAll_cons hA
  obtain ⟨v1, vs1, d1, ds1, p1, q1, rfl, rfl, rfl, h1, r1⟩ := trodAll_cons r0
  obtain ⟨v2, vs2, d2, ds2, p2, q2, rfl, rfl, rfl, h2, r2⟩ := trodAll_cons r1
  obtain ⟨rfl, rfl, rfl⟩ := trodAll_nil r2
  obtain rfl : args = #[v0, v1, v2] := by cases args; simp_all
  obtain ⟨a1, rfl, w1⟩ := rop_int Tryz.underlying3 (hval 1 3 v1 rfl rfl) (hrd 1 3 v1 rfl rfl)
  have g2 := hrd 2 26 v2 rfl rfl
  obtain ⟨cs2, rfl, hz2⟩ := ok_agg (by first | exact .inl ⟨_, Tryz.underlying26⟩ | exact .inr ⟨_, _, Tryz.underlying26⟩) (hval 2 26 v2 rfl rfl)

  obtain ⟨ao, len, cap, L, rfl, hcap, hm, hcp, H⟩ := types_of3 (rop_slice 6 Tryz.underlying22 (by kernel_rfl) (hval 0 22 v0 rfl rfl) (hrd 0 22 v0 rfl rfl))
  obtain ⟨T, hT, HT⟩ := val_of hz2 g2
  unfold valV at hT
  injection hT with hT
  subst hT
  refine (walk ao len cap L a1 T _ hcap hm hcp W H HT).mono fun e W' ⟨he, bel⟩ => ?_
  subst he
  exact ⟨_, rfl, _, _, _, [], _, [], hW', trodAll_mk1 (shut_bool Tryz.underlying4 _), trodAll_below laidOut bel [22, 3, 26] _ _ _ (by kernel_rfl) hA1 hlt, rfl, bel.frame _, fun h => by cases h⟩
theorem over : Rows.fitsTellsRow.holds Tryz.pinned (OpenSpec.ofChange Rows.fitsTellsSpec) :=
  OpenClaim.holds_of_wide 3 Tryz.f3 rfl rfl rfl rfl rfl rfl rfl ⟨rfl, rfl, rfl, rfl, rfl⟩ rfl rfl rfl rfl rfl (by kernel_rfl) Tryz.func3 (by kernel_rfl)
    (of_decide_eq_true (by kernel_rfl)) (by unfold Func.isWrapper; first | (rw [if_pos (by decide +kernel)]; kernel_rfl) | (rw [if_neg (by decide +kernel)]; exact ⟨rfl, rfl⟩))
    (fun os started H enc _ => lifted os started H enc)
theorem proved : Rows.FitsTellsSaid := over
#print axioms proved
end Go.Proofs.YtohphejhlgnciaaGreat.fitsTells
