/- CheckData: for every list of types, type and two operands the law returns true, and its arguments read as before. No condition. -/
import Derived.Test.YtcojomkpogikiaaGreatDoorTie
import Derived.SevenTiedAt
import Derived.Lay
import Derived.Stop.Joined
import Derived.Test.YtcojomkpogikiaaGreatDoorQ10
import Derived.Test.YtcojomkpogikiaaGreatDoorQ51
namespace Go.Proofs.YtcojomkpogikiaaGreatDoor.checkData
open Go.ChangeShapes Go.WideShapes Go.ChangeAt Go.RowKit
open Go.ChangeMaps (open_string shut_string)
set_option linter.unusedVariables false
set_option linter.unusedSimpArgs false
theorem arr8c {cs : Array Value} (h : cs.size = 8) : ∃ a b c d e f g i, cs = #[a, b, c, d, e, f, g, i] := by
  obtain ⟨l⟩ := cs
  match l, h with
  | [a, b, c, d, e, f, g, i], _ => exact ⟨a, b, c, d, e, f, g, i, rfl⟩
theorem o_of18 {H : Type} {enc : TypeId × Value → H} {w : World} {c : List Value} (hl : c.length = 4) (h : Rdg enc Tryz.prog w 40 c) : ∃ o : Opd, c = opdC o ∧ OpX o := by
  obtain ⟨fuel, d, p, h1, h2⟩ := h
  exact opd_of (enc := enc) (w := w) (m := fuel) hl ⟨d, p, h1, h2⟩
set_option maxRecDepth 100000 in
theorem lifted (os : Os) (started : os.Started) (H : Type) (enc : TypeId × Value → H) :
    ReturnsInHanded {} Tryz.checked os 5 .any (fun w args => (Rows.checkDataSpec.pre enc Tryz.prog Tryz.f5 Rows.checkDataRow.domain false w args ∧ laidMetH Tryz.prog Rows.checkDataRow.laid w) ∧ sizedMet enc Tryz.prog Tryz.f5 (OpenSpec.ofChange Rows.checkDataSpec) false w args)
      (Rows.checkDataSpec.post enc Tryz.prog Tryz.f5 false true false false) := by
  refine handed_shaped_and (C := Tryz.checked) (X := fun w _ => laidMetH Tryz.prog Rows.checkDataRow.laid w) (fun _ _ _ hh h => h.of_heap hh) own started (by kernel_rfl) Tryz.func5
    (ChangeSpec.witness_shaped (enc := enc) (C := Tryz.checked) (os := os) (X := fun w _ => laidMetH Tryz.prog Rows.checkDataRow.laid w) false (World.laidAll Tryz.prog os Rows.checkDataRow.laid) #[.slice none 0 0, .int .i64 0, .agg #[.int .i64 0, .string ⟨#[]⟩, .bool false, .int .u64 0, .int .i64 0, .string ⟨#[]⟩, .bool false, .int .u64 0]] 8 (World.laidAll_os _ _ _)
      (World.shaped_of_ZipB (by kernel_rfl) (by kernel_rfl)) (by kernel_rfl) (by kernel_rfl) (by kernel_rfl)
      (by rw [MakeChecks.laidMetH_plain _ _ _ (by kernel_rfl)]; exact laidMet_laidAll _ (by kernel_rfl) (by kernel_rfl))) ?_
  intro W base args ds gs before hval0 hW hcnd hsz hL hsh _
  have hLib := lib_of hsh hL
  have hval : ∀ (j : Nat) t v, Tryz.f5.params[j]? = some t → args[j]? = some v → Value.okWide Tryz.prog W .any base t v := hval0
  have hW' := hW
  obtain ⟨p, q, hA0, hV, rfl, hfz, hnd⟩ := hW
  have hA : DataW.TrodAll enc Tryz.prog W 0 (fun _ => true) true Tryz.f5.params.toList args.toList ds p := hA0
  rw [Tryz.params5] at hA hval
  obtain ⟨rfl, rfl⟩ := trodVars_none hV
  clear hA0 hval0
  simp only [List.append_nil] at hW'
  have hlt := hW'.lt
  have hA1 := hA
  have hsz1 : (DataW.weightsEach Tryz.prog (Tryz.f5.params.toList ++ []) (ds ++ [])).all (· ≤ reachBytes) = true := hsz
  rw [Tryz.params5, List.append_nil, List.append_nil] at hsz1
  have hrd := rdg_all _ _ _ _ hA1 (fun n hn => by simpa using List.all_eq_true.1 hsz1 n hn)
  obtain ⟨v0, vs0, d0, ds0, p0, q0, hargs, rfl, rfl, h0, r0⟩ := trodAll_cons hA
  obtain ⟨v1, vs1, d1, ds1, p1, q1, rfl, rfl, rfl, h1, r1⟩ := trodAll_cons r0
  obtain ⟨v2, vs2, d2, ds2, p2, q2, rfl, rfl, rfl, h2, r2⟩ := trodAll_cons r1
  obtain ⟨rfl, rfl, rfl⟩ := trodAll_nil r2
  obtain rfl : args = #[v0, v1, v2] := by cases args; simp_all
  obtain ⟨a1, rfl, w1⟩ := rop_int Tryz.underlying3 (hval 1 3 v1 rfl rfl) (hrd 1 3 v1 rfl rfl)
  have g2 := hrd 2 41 v2 rfl rfl
  obtain ⟨cs2, rfl, hz2⟩ := ok_agg (by first | exact .inl ⟨_, Tryz.underlying41⟩ | exact .inr ⟨_, _, Tryz.underlying41⟩) (hval 2 41 v2 rfl rfl)
  obtain ⟨ao, len, cap, L, rfl, hcap, hm, hcp, H⟩ := Pa.types_of3 (rop_slice 6 Tryz.underlying22 (by kernel_rfl) (hval 0 22 v0 rfl rfl) (hrd 0 22 v0 rfl rfl))
  obtain ⟨y0, y1, y2, y3, y4, y5, y6, y7, rfl⟩ := arr8c (hz2.trans (by kernel_rfl))
  have s1 := rdg_elem Tryz.underlying41 g2 0 4 (by omega) (by kernel_rfl)
  have s2 := rdg_elem Tryz.underlying41 g2 1 4 (by omega) (by kernel_rfl)
  obtain ⟨o0, hT, hx0⟩ := o_of18 (c := [y0, y1, y2, y3]) rfl (by simpa [Value.cells] using s1)
  obtain ⟨o1, hU, hx1⟩ := o_of18 (c := [y4, y5, y6, y7]) rfl (by simpa [Value.cells] using s2)
  unfold opdC at hT hU
  simp only [List.cons.injEq, and_true] at hT hU
  obtain ⟨rfl, rfl, rfl, rfl⟩ := hT
  obtain ⟨rfl, rfl, rfl, rfl⟩ := hU
  refine (data18 checkC L ao len cap a1 o0 o1 W hm hcap H hcp hx0 hx1 hLib).mono fun e W' ⟨he, bel⟩ => ?_
  subst he
  exact ⟨_, rfl, _, _, _, [], _, [], hW', trodAll_mk1 (shut_bool Tryz.underlying4 _), trodAll_below laidOut bel [22, 3, 41] _ _ _ (by kernel_rfl) hA1 hlt, rfl, bel.frame _, fun h => by cases h⟩
theorem over : Rows.CheckDataSaid :=
  OpenClaim.holds_of_wide 5 Tryz.f5 rfl rfl rfl rfl rfl rfl rfl ⟨rfl, rfl, rfl, rfl, rfl⟩ rfl rfl rfl rfl rfl (by kernel_rfl) Tryz.func5 (by kernel_rfl)
    (of_decide_eq_true (by kernel_rfl)) (by unfold Func.isWrapper; first | (rw [if_pos (by decide +kernel)]; kernel_rfl) | (rw [if_neg (by decide +kernel)]; exact ⟨rfl, rfl⟩))
    (fun os started H enc _ => lifted os started H enc)
theorem proved : Rows.CheckDataCardSaid :=
  Claim7.holds_tied_plain_at .later [] [.data, .data, .data, .data, .sentinel, .sentinel, .pinned] true (true, "600ef41c505ea5f637b4f9fa150e486597b7a32cb2d19977d3521876672bf3af") true
    over (fun _ h => by cases h) (by kernel_rfl) (fun _ h => by cases h) checkData_row_tie rfl ⟨rfl, rfl⟩ (by kernel_rfl) rfl
    (fun f fn hf hfn => by
      obtain rfl : f = 5 := Option.some.inj ((show Tryz.prog.funcNamed Rows.checkDataRow.func = some 5 by kernel_rfl).symm.trans hf) |>.symm
      obtain rfl : fn = Tryz.f5 := (Option.some.inj (Tryz.func5.symm.trans hfn)).symm
      exact ⟨by kernel_rfl, fun j t ht => by
        rw [Tryz.params5] at ht
        have hm : t ∈ [22, 3, 41] := by simpa using Array.mem_of_getElem? ht
        have hall : ([22, 3, 41].all fun u => !Tryz.prog.wantsStandIn u) = true := by kernel_rfl
        exact (show Tryz.prog.wantsStandIn t = false by simpa using List.all_eq_true.1 hall t hm)⟩)
    (by kernel_rfl)
#print axioms proved
end Go.Proofs.YtcojomkpogikiaaGreatDoor.checkData
