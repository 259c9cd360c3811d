/- FitsBlank: for every list of types and every number the law returns true, and its arguments read as before. No condition. -/
import Derived.Test.YtohphejhlgnciaaGreatRdg
import Derived.Test.YtohphejhlgnciaaGreatFitsAwake
import Derived.Test.YtohphejhlgnciaaGreatFitsBTop
import Derived.Test.YtohphejhlgnciaaGreatValCSame
namespace Go.Proofs.YtohphejhlgnciaaGreat.fitsBlank
open Go.ChangeShapes Go.WideShapes Go.ChangeAt Go.RowKit
open Go.ChangeMaps (open_string shut_string)
set_option linter.unusedVariables false

set_option maxRecDepth 100000 in
set_option maxHeartbeats 4000000 in
theorem walk (ao : Option Addr) (len cap : Nat) (L : Nat → TypeV) (t : Int) (hcap : len ≤ cap) (hm : len ≤ 140737488351232) (hcp : ∀ i, i < len → (L i).ilen ≤ (L i).icap) (w : World) (H : ∀ i, i < len → TypeAt w ao i (L i)) :
    Calls Tryz.prog 4 #[.slice ao len cap, .int .i64 t] w fun e w' => e = .returned (.bool true) ∧ Below w.heap.size w w' := by
  have HW := Lib.hid (fun wx (hb : Below w.heap.size w wx) => awake9_any wx)
  have hg := great_any ao len cap L hm w H
  cases hbig : greatB L len with
  | true =>
    rw [hbig] at hg
    have HG := Lib.hid hg
    clear hg hbig H hcp
    go_enter Tryz.func4, Tryz.ntmps4
    go_wp2_with (first
      | (go_at_call 5; refine (HG.out).mono ?_; rintro e w' ⟨rfl, rfl⟩)
      | (go_at_call 7; refine (HW.out _ (Below.refl _ _)).mono ?_; rintro e w9 ⟨rfl, hb9⟩; have HB9 := Lib.hid hb9; clear hb9))
    go_ret
    exact ⟨rfl, HB9.out⟩
  | false =>
  have hlen := great_lt hbig
  rw [hbig] at hg
  have HG := Lib.hid hg
  clear hg hbig
  obtain ⟨Q, hQ⟩ : ∃ q, okBl L len t = q := ⟨_, rfl⟩
  have HBK := Lib.hid (show ∀ wx, Below w.heap.size w wx → Calls Tryz.prog 10 #[.slice ao len cap, .int .i64 t] wx fun e w' => ∃ U : VT, e = .returned (.tuple #[.agg #[.int .i64 U.kind, .int .u64 U.num, .string U.text, .slice U.ia U.len U.cap], .bool Q]) ∧ Hid (Q = true → isBl L U t.toNat) ∧ Hid (Q = false → U = .nil) ∧ Hid (ValAt w' (fun b => True) U) ∧ Below wx.heap.size wx w' from fun wx hb => (Blank9_any ao len cap L (by omega) hcap hcp t wx (hold H hb)).mono fun e w' ⟨U, q, h1, h2, h3, h4, h5, h6⟩ => by
    rw [hQ] at h2
    subst h2
    exact ⟨U, h1, Lib.hid h3, Lib.hid h4, Lib.hid (h5.sub fun _ _ => trivial), h6⟩)
  have HRB := Lib.hid (show ∀ wx, Below w.heap.size w wx → Calls Tryz.prog 11 #[.slice ao len cap, .int .i64 t] wx fun e w' => ∃ U : VT, e = .returned (.tuple #[.agg #[.int .i64 U.kind, .int .u64 U.num, .string U.text, .slice U.ia U.len U.cap], .bool Q]) ∧ Hid (Q = true → isBl L U t.toNat) ∧ Hid (Q = false → U = .nil) ∧ Hid (ValAt w' (fun b => True) U) ∧ Below wx.heap.size wx w' from fun wx hb => (rBlank9_any ao len cap L (by omega) t wx (hold H hb)).mono fun e w' ⟨U, q, h1, h2, h3, h4, h5, h6⟩ => by
    rw [hQ] at h2
    subst h2
    exact ⟨U, h1, Lib.hid h3, Lib.hid h4, Lib.hid (h5.sub fun _ _ => trivial), h6⟩)
  have HFT := Lib.hid (fun (U : VT) wx (hb : Below w.heap.size w wx) (hv : ValAt wx (fun b => True) U) => fits9_any ao len cap L (by omega) hcap hcp _ t U wx hv (hold H hb))
  have HFA := Lib.hid (show Q = true → ∀ U : VT, isBl L U t.toNat → fitsA L len t U = 0 ∧ greatT U ≤ 2000 from fun hq U hu => by
    rw [hq] at hQ
    unfold okBl at hQ
    rw [Bool.and_eq_true] at hQ
    obtain ⟨hT, hsz⟩ := hQ
    obtain ⟨k, rfl, hk, hok⟩ := hasT_in hT
    rw [Int.toNat_natCast] at hu hsz
    have hv := okL_of hok
    refine ⟨?_, ?_⟩
    · unfold fitsA; rw [if_pos hT, Int.toNat_natCast]; exact bl_fits hv U k hk hu
    · rw [bl_great hv.ok U k hk hu]; simpa using hsz)
  clear H hcp hQ
  go_enter Tryz.func4, Tryz.ntmps4
  go_upto_region 5 with (first
    | (go_at_call 5; refine (HG.out).mono ?_; rintro e w' ⟨rfl, rfl⟩)
    | (go_at_call 10; refine (HBK.out _ (Below.refl _ _)).mono ?_; rintro e w1 ⟨U, rfl, HU1, HU2, HUV, hb1⟩; have HB1 := Lib.hid (hb1.alloc hb1.size (.cells #[.int .i64 U.kind, .int .u64 U.num, .string U.text, .slice U.ia U.len U.cap] 26)); have HX1 := Lib.hid (alloc_at w1 (.cells #[.int .i64 U.kind, .int .u64 U.num, .string U.text, .slice U.ia U.len U.cap] 26)); clear hb1)
    | (go_at_call 11; refine (HRB.out _ HB1.out).mono ?_; rintro e w2 ⟨V, rfl, HV1, HV2, HVV, hb2⟩; have HB2 := Lib.hid ((below_step8' HB1.out hb2).alloc (by have := (below_step8' HB1.out hb2).size; exact this) (.cells #[.int .i64 V.kind, .int .u64 V.num, .string V.text, .slice V.ia V.len V.cap] 26)); have HX2 := Lib.hid (alloc_old (o := (.cells #[.int .i64 V.kind, .int .u64 V.num, .string V.text, .slice V.ia V.len V.cap] 26)) (box_keep HX1.out hb2)); have HY2 := Lib.hid (alloc_at w2 (.cells #[.int .i64 V.kind, .int .u64 V.num, .string V.text, .slice V.ia V.len V.cap] 26)); have HUV2 := Lib.hid (((HUV.out.next ((Below.refl _ _).alloc (Nat.le_refl _) (.cells #[.int .i64 U.kind, .int .u64 U.num, .string U.text, .slice U.ia U.len U.cap] 26))).next hb2).next ((Below.refl _ _).alloc (Nat.le_refl _) (.cells #[.int .i64 V.kind, .int .u64 V.num, .string V.text, .slice V.ia V.len V.cap] 26))); have HVV2 := Lib.hid (HVV.out.next ((Below.refl _ _).alloc (Nat.le_refl _) (.cells #[.int .i64 V.kind, .int .u64 V.num, .string V.text, .slice V.ia V.len V.cap] 26))); clear hb2))
  generalize w1.heap.size = g1 at *
  generalize w2.alloc (.cells #[.int .i64 V.kind, .int .u64 V.num, .string V.text, .slice V.ia V.len V.cap] 26) = W5 at *
  generalize w2.heap.size = g2 at *
  clear HB1 HX1 HUV HVV HBK HRB HG
  have d0 : W5.cell? ⟨g1, 0, none⟩ = some (.int .i64 U.kind) := cell_at HX2.out rfl
  have d1 : W5.cell? ⟨g1, 1, none⟩ = some (.int .u64 U.num) := cell_at HX2.out rfl
  have d2 : W5.cell? ⟨g1, 2, none⟩ = some (.string U.text) := cell_at HX2.out rfl
  have d3 : W5.cell? ⟨g1, 3, none⟩ = some (.slice U.ia U.len U.cap) := cell_at HX2.out rfl
  have e0 : W5.cell? ⟨g2, 0, none⟩ = some (.int .i64 V.kind) := cell_at HY2.out rfl
  have e1 : W5.cell? ⟨g2, 1, none⟩ = some (.int .u64 V.num) := cell_at HY2.out rfl
  have e2 : W5.cell? ⟨g2, 2, none⟩ = some (.string V.text) := cell_at HY2.out rfl
  have e3 : W5.cell? ⟨g2, 3, none⟩ = some (.slice V.ia V.len V.cap) := cell_at HY2.out rfl
  have HSM := Lib.hid (refSame_any _ _ U V W5 HUV2.out HVV2.out)
  have hsm : sameT U V = true := by
    cases Q with
    | true => exact bl_same U V _ (HU1.out rfl) (HV1.out rfl)
    | false => rw [HU2.out rfl, HV2.out rfl]; exact sameT_refl _
  unfold RSameTo at HSM
  rw [hsm] at HSM
  clear hsm
  cases Q with
  | false =>
    clear HFA HU1 HU2 HV1 HV2
    go_wp2_with (first
      | (go_at_call 12; refine (HSM.out).mono ?_; rintro e w6 ⟨rfl, hb6⟩; have HB6 := Lib.hid (below_step8' HB2.out hb6); clear hb6)
      | (go_at_call 7; refine (HW.out _ HB6.out).mono ?_; rintro e w9 ⟨rfl, hb9⟩; have HB9 := Lib.hid (below_step8' HB6.out hb9); clear hb9))
    go_ret
    exact ⟨rfl, HB9.out⟩
  | true =>
    obtain ⟨hfa, hgr⟩ := HFA.out rfl U (HU1.out rfl)
    have hft := fun wx hb hv => HFT.out U wx hb hv
    rw [hfa] at hft
    have HF := Lib.hid hft
    have HGR := Lib.hid (fun wx (hv : ValAt wx (fun b => True) U) => great8_any _ U wx hv (by omega))
    unfold CGreatTo at HGR
    obtain ⟨s, hs⟩ : ∃ s, greatT U = s := ⟨_, rfl⟩
    rw [hs] at HGR hgr
    have hgr2 : (s : Int) ≤ 2000 := by omega
    clear hfa hft HFA HFT HU1 HU2 HV1 HV2 hs
    go_wp2_with (first
      | (go_at_call 12; refine (HSM.out).mono ?_; rintro e w6 ⟨rfl, hb6⟩; have HB6 := Lib.hid (below_step8' HB2.out hb6); have HUV6 := Lib.hid (HUV2.out.next hb6); have d0 := keep hb6 (by exact d0); have d1 := keep hb6 (by exact d1); have d2 := keep hb6 (by exact d2); have d3 := keep hb6 (by exact d3); clear hb6)
      | (go_at_call 8; refine (HF.out _ HB6.out HUV6.out).mono ?_; rintro e w7 ⟨rfl, hb7⟩; have HB7 := Lib.hid (below_step8' HB6.out hb7); have HUV7 := Lib.hid (HUV6.out.next hb7); have d0 := keep hb7 (by exact d0); have d1 := keep hb7 (by exact d1); have d2 := keep hb7 (by exact d2); have d3 := keep hb7 (by exact d3); clear hb7)
      | (go_at_call 13; refine (HGR.out _ HUV7.out).mono ?_; rintro e w8 ⟨rfl, hb8⟩; have HB8 := Lib.hid (below_step8' HB7.out hb8); clear hb8)
      | (go_at_call 7; refine (HW.out _ HB8.out).mono ?_; rintro e w9 ⟨rfl, hb9⟩; have HB9 := Lib.hid (below_step8' HB8.out hb9); clear hb9))
    go_ret
    exact ⟨rfl, HB9.out⟩
set_option maxRecDepth 100000 in
theorem lifted (os : Os) (started : os.Started) (H : Type) (enc : TypeId × Value → H) :
    ReturnsInHanded {} Tryz.checked os 4 .any (Rows.fitsBlankSpec.pre6 enc Tryz.prog Tryz.f4 Rows.fitsBlankRow.domain false) (Rows.fitsBlankSpec.post enc Tryz.prog Tryz.f4 false true false false) := by
  refine returnsInHanded_of_change_sized (C := Tryz.checked) own started (by kernel_rfl) Tryz.func4
    (ChangeSpec.witness6 (enc := enc) (C := Tryz.checked) false ⟨#[], #[.slice none 0 0, .int .i64 0], []⟩ 8 (by kernel_rfl) (by kernel_rfl) (by kernel_rfl) (by kernel_rfl)) ?_
  intro W base args ds gs before hval0 hW hcnd hsz _
  have hval : ∀ (j : Nat) t v, Tryz.f4.params[j]? = some t → args[j]? = some v → Value.okWide Tryz.prog W .any base t v := hval0
  have hW' := hW
  obtain ⟨p, q, hA0, hV, rfl, hfz, hnd⟩ := hW
  have hA : DataW.TrodAll enc Tryz.prog W 0 (fun _ => true) true Tryz.f4.params.toList args.toList ds p := hA0
  rw [Tryz.params4] at hA hval
  obtain ⟨rfl, rfl⟩ := trodVars_none hV
  clear hA0 hval0
  simp only [List.append_nil] at hW'
  have hlt := hW'.lt
  have hA1 := hA
  have hsz1 : (DataW.weightsEach Tryz.prog (Tryz.f4.params.toList ++ []) (ds ++ [])).all (· ≤ reachBytes) = true := hsz
  rw [Tryz.params4, List.append_nil, List.append_nil] at hsz1
  have hrd := rdg_all _ _ _ _ hA1 (fun n hn => by simpa using List.all_eq_true.1 hsz1 n hn)
  obtain ⟨v0, vs0, d0, ds0, p0, q0, hargs, rfl, rfl, h0, r0⟩ := trodAll_cons hA
  obtain ⟨v1, vs1, d1, ds1, p1, q1, rfl, rfl, rfl, h1, r1⟩ := trodAll_cons r0
  obtain ⟨rfl, rfl, rfl⟩ := trodAll_nil r1
  obtain rfl : args = #[v0, v1] := by cases args; simp_all
  obtain ⟨a1, rfl, w1⟩ := rop_int Tryz.underlying3 (hval 1 3 v1 rfl rfl) (hrd 1 3 v1 rfl rfl)

  obtain ⟨ao, len, cap, L, rfl, hcap, hm, hcp, H⟩ := types_of3 (rop_slice 6 Tryz.underlying22 (by kernel_rfl) (hval 0 22 v0 rfl rfl) (hrd 0 22 v0 rfl rfl))
  refine (walk ao len cap L a1 hcap hm hcp W H).mono fun e W' ⟨he, bel⟩ => ?_
  subst he
  exact ⟨_, rfl, _, _, _, [], _, [], hW', trodAll_mk1 (shut_bool Tryz.underlying4 _), trodAll_below laidOut bel [22, 3] _ _ _ (by kernel_rfl) hA1 hlt, rfl, bel.frame _, fun h => by cases h⟩
theorem over : Rows.fitsBlankRow.holds Tryz.pinned (OpenSpec.ofChange Rows.fitsBlankSpec) :=
  OpenClaim.holds_of_wide 4 Tryz.f4 rfl rfl rfl rfl rfl rfl rfl ⟨rfl, rfl, rfl, rfl, rfl⟩ rfl rfl rfl rfl rfl (by kernel_rfl) Tryz.func4 (by kernel_rfl)
    (of_decide_eq_true (by kernel_rfl)) (by unfold Func.isWrapper; first | (rw [if_pos (by decide +kernel)]; kernel_rfl) | (rw [if_neg (by decide +kernel)]; exact ⟨rfl, rfl⟩))
    (fun os started H enc _ => lifted os started H enc)
theorem proved : Rows.FitsBlankSaid := over
#print axioms proved
end Go.Proofs.YtohphejhlgnciaaGreat.fitsBlank
