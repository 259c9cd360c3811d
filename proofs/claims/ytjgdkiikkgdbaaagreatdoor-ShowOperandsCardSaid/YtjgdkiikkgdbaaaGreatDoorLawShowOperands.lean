/- ShowOperands: for every operand the law returns true, and its argument reads as before. No condition. -/
import Derived.Test.YtjgdkiikkgdbaaaGreatDoorTie
import Derived.SevenTiedAt
import Derived.Lay
import Derived.Stop.Joined
import Derived.Test.YtjgdkiikkgdbaaaGreatDoorQ24
import Derived.Test.YtjgdkiikkgdbaaaGreatDoorQ48
import Derived.Test.YtjgdkiikkgdbaaaGreatDoorQ49
namespace Go.Proofs.YtjgdkiikkgdbaaaGreatDoor.showOperands
open Go.ChangeShapes Go.WideShapes Go.ChangeAt Go.RowKit
open Go.ChangeMaps (open_string shut_string)
set_option linter.unusedVariables false
set_option linter.unusedSimpArgs false
section
variable {H : Type} {enc : TypeId × Value → H} {w : World}
theorem o_of {cs : Array Value} (hl : cs.size = Tryz.prog.cellsOf 34) (h : Rdg enc Tryz.prog w 34 (Value.agg cs).cells.toList) : ∃ o : Opd, Value.agg cs = .agg #[.int .i64 o.kind, .string o.text, .bool o.neg, .int .u64 o.num] ∧ OpX o := by
  obtain ⟨fuel, d, p, h1, h2⟩ := h
  have hc : Tryz.prog.cellsOf 34 = 4 := by kernel_rfl
  obtain ⟨o, ho, hx⟩ := opd_of (enc := enc) (w := w) (m := fuel) (c := cs.toList) (by simp; omega) ⟨d, p, by simpa [Value.cells] using h1, h2⟩
  refine ⟨o, ?_, hx⟩
  refine congrArg Value.agg ?_
  exact Array.toList_inj.1 (by simpa using ho)
end
set_option maxHeartbeats 4000000 in
set_option maxRecDepth 100000 in
theorem walk (o : Opd) (ho : OpX o) (w : World) (hV : LibAt w) (hT : Tab w) : Calls Tryz.prog 4 #[.agg #[.int .i64 o.kind, .string o.text, .bool o.neg, .int .u64 o.num]] w fun e w' => e = .returned (.bool true) ∧ Below w.heap.size w w' := by
  have HAW := Lib.hid (fun wx (hb : Below w.heap.size w wx) => awake16 wx (hV.held hb) (hT.next hb))
  by_cases hlen : 1000 < o.text.size
  · have hl2 : (1000 : Int) < (o.text.size : Int) := by omega
    clear hV hT ho
    go_enter Tryz.func4, Tryz.ntmps4
    go_wp2_with (go_at_call 7; refine (HAW.out _ bel1).mono ?_; rintro e w2 ⟨rfl, hb⟩; have HB2 := Lib.hid (bthN bel1 hb); clear hb)
    go_ret
    exact ⟨rfl, HB2.out⟩
  · have hl2 : ¬ (1000 : Int) < (o.text.size : Int) := by omega
    obtain ⟨s, k, HC, HR⟩ : ∃ (s : ByteArray) (k : Int), Hid (∀ wx, Below w.heap.size w wx → COpTo o wx s k) ∧ Hid (∀ wx, RTxTo o wx s k) := by
      cases hm : mayOB o with
      | false => exact ⟨⟨#[]⟩, 1, Lib.hid (fun wx hb => cOp_bad o ho (by omega) wx (hV.held hb) hm), Lib.hid (fun wx => rtx_bad o ho (by omega) wx hm)⟩
      | true => exact ⟨bs (opTx o), 0, Lib.hid (fun wx hb => cOp_good o ho (by omega) wx (hV.held hb) (hT.next hb) hm), Lib.hid (fun wx => rtx_good o ho (by omega) wx hm)⟩
    unfold COpTo at HC
    unfold RTxTo at HR
    clear hV hT ho
    go_enter Tryz.func4, Tryz.ntmps4
    go_wp2_with (first
      | (go_at_call 7; refine (HAW.out _ HB3.out).mono ?_; rintro e w4 ⟨rfl, hb⟩; have HB4 := Lib.hid (bthN HB3.out hb); clear hb)
      | (go_at_call 11; refine (HR.out _).mono ?_; rintro e w3 ⟨rfl, hb⟩; have HB3 := Lib.hid (bthN HB2.out hb); clear hb)
      | (go_at_call 10; refine (HC.out _ bel1).mono ?_; rintro e w2 ⟨rfl, hb⟩; have HB2 := Lib.hid (bthN bel1 hb); have Q2 := Lib.hid (rowKeep hb (alloc_at w _)); have d0 : w2.cell? ⟨w.heap.size, 0, none⟩ = some (.int .i64 o.kind) := cell_at Q2.out rfl; have d1 : w2.cell? ⟨w.heap.size, 1, none⟩ = some (.string o.text) := cell_at Q2.out rfl; have d2 : w2.cell? ⟨w.heap.size, 2, none⟩ = some (.bool o.neg) := cell_at Q2.out rfl; have d3 : w2.cell? ⟨w.heap.size, 3, none⟩ = some (.int .u64 o.num) := cell_at Q2.out rfl; clear hb))
    go_ret
    exact ⟨rfl, HB4.out⟩
set_option maxRecDepth 100000 in
theorem lifted (os : Os) (started : os.Started) (H : Type) (enc : TypeId × Value → H) :
    ReturnsInHanded {} Tryz.checked os 4 .any (fun w args => (Rows.showOperandsSpec.pre enc Tryz.prog Tryz.f4 Rows.showOperandsRow.domain false w args ∧ laidMetH Tryz.prog Rows.showOperandsRow.laid w) ∧ sizedMet enc Tryz.prog Tryz.f4 (OpenSpec.ofChange Rows.showOperandsSpec) false w args)
      (Rows.showOperandsSpec.post enc Tryz.prog Tryz.f4 false true false false) := by
  refine handed_shaped_and (C := Tryz.checked) (X := fun w _ => laidMetH Tryz.prog Rows.showOperandsRow.laid w) (fun _ _ _ hh h => h.of_heap hh) own started (by kernel_rfl) Tryz.func4
    (ChangeSpec.witness_shaped (enc := enc) (C := Tryz.checked) (os := os) (X := fun w _ => laidMetH Tryz.prog Rows.showOperandsRow.laid w) false (World.laidAll Tryz.prog os Rows.showOperandsRow.laid) #[.agg #[.int .i64 0, .string ⟨#[]⟩, .bool false, .int .u64 0]] 8 (World.laidAll_os _ _ _)
      (World.shaped_of_ZipB (by kernel_rfl) (by kernel_rfl)) (by kernel_rfl) (by kernel_rfl) (by kernel_rfl)
      (by rw [MakeChecks.laidMetH_plain _ _ _ (by kernel_rfl)]; exact laidMet_laidAll _ (by kernel_rfl) (by kernel_rfl))) ?_
  intro W base args ds gs before hval0 hW hcnd hsz hL hsh _
  have hLib := lib_of hsh hL
  have hTab := pow_of hL
  have hval : ∀ (j : Nat) t v, Tryz.f4.params[j]? = some t → args[j]? = some v → Value.okWide Tryz.prog W .any base t v := hval0
  have hW' := hW
  obtain ⟨p, q, hA0, hV, rfl, hfz, hnd⟩ := hW
  have hA : DataW.TrodAll enc Tryz.prog W 0 (fun _ => true) true Tryz.f4.params.toList args.toList ds p := hA0
  rw [Tryz.params4] at hA hval
  obtain ⟨rfl, rfl⟩ := trodVars_none hV
  clear hA0 hval0
  simp only [List.append_nil] at hW'
  have hlt := hW'.lt
  have hA1 := hA
  have hsz1 : (DataW.weightsEach Tryz.prog (Tryz.f4.params.toList ++ []) (ds ++ [])).all (· ≤ reachBytes) = true := hsz
  rw [Tryz.params4, List.append_nil, List.append_nil] at hsz1
  have hrd := rdg_all _ _ _ _ hA1 (fun n hn => by simpa using List.all_eq_true.1 hsz1 n hn)
  obtain ⟨v0, vs0, d0, ds0, p0, q0, hargs, rfl, rfl, h0, r0⟩ := trodAll_cons hA
  obtain ⟨rfl, rfl, rfl⟩ := trodAll_nil r0
  obtain rfl : args = #[v0] := by cases args; simp_all
  have g0 := hrd 0 34 v0 rfl rfl
  obtain ⟨cs0, rfl, hz0⟩ := ok_agg (by first | exact .inl ⟨_, Tryz.underlying34⟩ | exact .inr ⟨_, _, Tryz.underlying34⟩) (hval 0 34 v0 rfl rfl)
  obtain ⟨o, hT, HX⟩ := o_of hz0 g0
  injection hT with hT
  subst hT
  refine (walk o HX W hLib hTab).mono fun e W' ⟨he, bel⟩ => ?_
  subst he
  exact ⟨_, rfl, _, _, _, [], _, [], hW', trodAll_mk1 (shut_bool Tryz.underlying4 _), trodAll_below laidOut bel [34] _ _ _ (by kernel_rfl) hA1 hlt, rfl, bel.frame _, fun h => by cases h⟩
theorem over : Rows.ShowOperandsSaid :=
  OpenClaim.holds_of_wide 4 Tryz.f4 rfl rfl rfl rfl rfl rfl rfl ⟨rfl, rfl, rfl, rfl, rfl⟩ rfl rfl rfl rfl rfl (by kernel_rfl) Tryz.func4 (by kernel_rfl)
    (of_decide_eq_true (by kernel_rfl)) (by unfold Func.isWrapper; first | (rw [if_pos (by decide +kernel)]; kernel_rfl) | (rw [if_neg (by decide +kernel)]; exact ⟨rfl, rfl⟩))
    (fun os started H enc _ => lifted os started H enc)
theorem proved : Rows.ShowOperandsCardSaid :=
  Claim7.holds_tied_plain_at .later [] [.data, .data, .data, .data, .sentinel, .sentinel, .pinned] true (true, "81d537aab9978a2ad0b26c335d74c8e8c208e5cdf99a313e378e8ca58d19d8c9") true
    over (fun _ h => by cases h) (by kernel_rfl) (fun _ h => by cases h) showOperands_row_tie rfl ⟨rfl, rfl⟩ (by kernel_rfl) rfl
    (fun f fn hf hfn => by
      obtain rfl : f = 4 := Option.some.inj ((show Tryz.prog.funcNamed Rows.showOperandsRow.func = some 4 by kernel_rfl).symm.trans hf) |>.symm
      obtain rfl : fn = Tryz.f4 := (Option.some.inj (Tryz.func4.symm.trans hfn)).symm
      exact ⟨by kernel_rfl, fun j t ht => by
        rw [Tryz.params4] at ht
        have hm : t ∈ [34] := by simpa using Array.mem_of_getElem? ht
        have hall : ([34].all fun u => !Tryz.prog.wantsStandIn u) = true := by kernel_rfl
        exact (show Tryz.prog.wantsStandIn t = false by simpa using List.all_eq_true.1 hall t hm)⟩)
    (by kernel_rfl)
#print axioms proved
end Go.Proofs.YtjgdkiikkgdbaaaGreatDoor.showOperands
