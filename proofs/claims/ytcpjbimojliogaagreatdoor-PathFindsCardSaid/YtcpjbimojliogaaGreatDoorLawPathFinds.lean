/- PathFinds: for every list of types, every ask and every path the law returns true, and its arguments read as before. No condition. -/
import Derived.Test.YtcpjbimojliogaaGreatDoorRdgSlice
import Derived.Test.YtcpjbimojliogaaGreatDoorTie
import Derived.Test.YtcpjbimojliogaaGreatDoorCards
import Derived.SevenTiedAt
import Derived.LaidMore
import Derived.Lay
import Derived.Stop.Joined
import Derived.Test.YtcpjbimojliogaaGreatDoorPathAwake
namespace Go.Proofs.YtcpjbimojliogaaGreatDoor.pathFinds
open Go.ChangeShapes Go.WideShapes Go.ChangeAt Go.RowKit
open Go.ChangeMaps (open_string shut_string)
set_option linter.unusedVariables false
theorem findG_len (L : Nat → TypeV) (len : Nat) : ∀ (xs : List (PieceV × Bool)) (u : Nat) (st : List StepV), (findG L len xs u st).steps.length ≤ xs.length + st.length
  | [], u, st => by simp [findG]
  | x :: r, u, st => by
    simp only [findG]
    split
    · refine Nat.le_trans (findG_len L len r _ _) ?_
      simp
      omega
    · simp
theorem find_len (L : Nat → TypeV) (len : Nat) (t : Int) (s : ByteArray) (hs : s.size ≤ 1000) : (findA L len t s).steps.length ≤ 1000000 := by
  unfold findA
  split
  · split
    · have h1 := findG_len L len (piecesS s 0) t.toNat []
      have h2 := piecesF_len s (s.size - 0) 0
      have h3 : (piecesS s 0).length ≤ s.size - 0 := h2
      simp at h1
      omega
    · simp
  · simp
set_option maxRecDepth 100000 in
set_option maxHeartbeats 4000000 in
theorem walk_big (ao : Option Addr) (len cap : Nat) (t : Int) (S : ByteArray) (pa : Option Addr) (n pc : Nat) (w : World) (hw : ∀ wx, Below w.heap.size w wx → Calls Tryz.prog 7 #[] wx fun e w' => e = .returned (.bool true) ∧ Below wx.heap.size wx w') (hg : ∀ wx, Below w.heap.size w wx → Calls Tryz.prog 6 #[.slice ao len cap] wx fun e w' => e = .returned (.bool true) ∧ wx = w') :
    Calls Tryz.prog 3 #[.slice ao len cap, .agg #[.int .i64 t, .string S], .slice pa n pc] w (fun e w' => e = .returned (.bool true) ∧ Below w.heap.size w w') := by
  have HW := Lib.hid hw
  have HG := Lib.hid hg
  have HA := Lib.hid (alloc_at w (.cells #[.int .i64 t, .string S] 24))
  have HB := Lib.hid ((Below.refl w.heap.size w).alloc (Nat.le_refl _) (.cells #[.int .i64 t, .string S] 24))
  clear hw hg
  go_enter Tryz.func3, Tryz.ntmps3
  go_wp2_with (first
    | (go_at_call 6; refine (HG.out _ HB.out).mono ?_; rintro e w' ⟨rfl, rfl⟩)
    | (go_at_call 7; refine (HW.out _ HB.out).mono ?_; rintro e w9 ⟨rfl, hb9⟩; have HB9 := Lib.hid (below_step8' HB.out hb9); clear hb9))
  go_ret
  exact ⟨rfl, HB9.out⟩
set_option maxRecDepth 100000 in
set_option maxHeartbeats 4000000 in
theorem walk_long (ao : Option Addr) (len cap : Nat) (t : Int) (S : ByteArray) (pa : Option Addr) (n pc : Nat) (w : World) (hS : 400 < S.size) (hS2 : S.size ≤ 140737488351232) (hw : ∀ wx, Below w.heap.size w wx → Calls Tryz.prog 7 #[] wx fun e w' => e = .returned (.bool true) ∧ Below wx.heap.size wx w') (hg : ∀ wx, Below w.heap.size w wx → Calls Tryz.prog 6 #[.slice ao len cap] wx fun e w' => e = .returned (.bool false) ∧ wx = w') :
    Calls Tryz.prog 3 #[.slice ao len cap, .agg #[.int .i64 t, .string S], .slice pa n pc] w (fun e w' => e = .returned (.bool true) ∧ Below w.heap.size w w') := by
  have HW := Lib.hid hw
  have HG := Lib.hid hg
  have HA := Lib.hid (alloc_at w (.cells #[.int .i64 t, .string S] 24))
  have HB := Lib.hid ((Below.refl w.heap.size w).alloc (Nat.le_refl _) (.cells #[.int .i64 t, .string S] 24))
  have d9 : decide ((400 : Int) < (S.size : Nat)) = true := decide_eq_true (by omega)
  have hmx : S.size ≤ maxLen := by unfold maxLen; omega
  clear hw hg
  go_enter Tryz.func3, Tryz.ntmps3
  go_wp2_with (first
    | (go_at_call 6; refine (HG.out _ HB.out).mono ?_; rintro e w' ⟨rfl, rfl⟩)
    | (go_at_call 7; refine (HW.out _ HB.out).mono ?_; rintro e w9 ⟨rfl, hb9⟩; have HB9 := Lib.hid (below_step8' HB.out hb9); clear hb9))
  go_ret
  exact ⟨rfl, HB9.out⟩
set_option maxRecDepth 100000 in
set_option maxHeartbeats 4000000 in
theorem walk_many (ao : Option Addr) (len cap : Nat) (t : Int) (S : ByteArray) (pa : Option Addr) (n pc : Nat) (w : World) (hS : S.size ≤ 400) (hn : 100 < n) (hw : ∀ wx, Below w.heap.size w wx → Calls Tryz.prog 7 #[] wx fun e w' => e = .returned (.bool true) ∧ Below wx.heap.size wx w') (hg : ∀ wx, Below w.heap.size w wx → Calls Tryz.prog 6 #[.slice ao len cap] wx fun e w' => e = .returned (.bool false) ∧ wx = w') :
    Calls Tryz.prog 3 #[.slice ao len cap, .agg #[.int .i64 t, .string S], .slice pa n pc] w (fun e w' => e = .returned (.bool true) ∧ Below w.heap.size w w') := by
  have HW := Lib.hid hw
  have HG := Lib.hid hg
  have HA := Lib.hid (alloc_at w (.cells #[.int .i64 t, .string S] 24))
  have HB := Lib.hid ((Below.refl w.heap.size w).alloc (Nat.le_refl _) (.cells #[.int .i64 t, .string S] 24))
  have d9 : decide ((400 : Int) < (S.size : Nat)) = false := decide_eq_false (by omega)
  have d8 : decide ((100 : Int) < (n : Nat)) = true := decide_eq_true (by omega)
  have hmx : S.size ≤ maxLen := by unfold maxLen; omega
  clear hw hg
  go_enter Tryz.func3, Tryz.ntmps3
  go_wp2_with (first
    | (go_at_call 6; refine (HG.out _ HB.out).mono ?_; rintro e w' ⟨rfl, rfl⟩)
    | (go_at_call 7; refine (HW.out _ HB.out).mono ?_; rintro e w9 ⟨rfl, hb9⟩; have HB9 := Lib.hid (below_step8' HB.out hb9); clear hb9))
  go_ret
  exact ⟨rfl, HB9.out⟩
set_option maxRecDepth 100000 in
set_option maxHeartbeats 8000000 in
theorem walk_ok (ao : Option Addr) (len cap : Nat) (t : Int) (S : ByteArray) (pa : Option Addr) (n pc : Nat) (w : World) (hS : S.size ≤ 400) (hn : n ≤ 100) (R : FindR) (hR : R.steps.length ≤ 1000000) (tx : ByteArray) (tu : Int) (ti : Bool) (hw : ∀ wx, Below w.heap.size w wx → Calls Tryz.prog 7 #[] wx fun e w' => e = .returned (.bool true) ∧ Below wx.heap.size wx w') (hg : ∀ wx, Below w.heap.size w wx → Calls Tryz.prog 6 #[.slice ao len cap] wx fun e w' => e = .returned (.bool false) ∧ wx = w')
    (hf : ∀ wx, Below w.heap.size w wx → Calls Tryz.prog 8 #[.slice ao len cap, .int .i64 t, .string S] wx (FindTo R wx))
    (hrf : ∀ wx, Below w.heap.size w wx → Calls Tryz.prog 9 #[.slice ao len cap, .int .i64 t, .string S] wx (FindTo R wx))
    (ht : ∀ wx, Below w.heap.size w wx → Calls Tryz.prog 10 #[.slice ao len cap, .int .i64 t, .slice pa n pc] wx (fun e w' => e = .returned (.tuple #[.string tx, .int .i64 tu, .bool ti]) ∧ Below wx.heap.size wx w'))
    (hrt : ∀ wx, Below w.heap.size w wx → Calls Tryz.prog 11 #[.slice ao len cap, .int .i64 t, .slice pa n pc] wx (fun e w' => e = .returned (.tuple #[.string tx, .int .i64 tu, .bool ti]) ∧ Below wx.heap.size wx w')) :
    Calls Tryz.prog 3 #[.slice ao len cap, .agg #[.int .i64 t, .string S], .slice pa n pc] w (fun e w' => e = .returned (.bool true) ∧ Below w.heap.size w w') := by
  have HW := Lib.hid hw
  have HG := Lib.hid hg
  have HF := Lib.hid hf
  have HRF := Lib.hid hrf
  have HT := Lib.hid ht
  have HRT := Lib.hid hrt
  have HA := Lib.hid (alloc_at w (.cells #[.int .i64 t, .string S] 24))
  have HB := Lib.hid ((Below.refl w.heap.size w).alloc (Nat.le_refl _) (.cells #[.int .i64 t, .string S] 24))
  have d9 : decide ((400 : Int) < (S.size : Nat)) = false := decide_eq_false (by omega)
  have d8 : decide ((100 : Int) < (n : Nat)) = false := decide_eq_false (by omega)
  have hmx : S.size ≤ maxLen := by unfold maxLen; omega
  have hbb : (tx.toList == tx.toList) = true := by simp
  have HRL := Lib.hid hR
  obtain ⟨m, hm⟩ : ∃ m, R.steps.length = m := ⟨_, rfl⟩
  obtain ⟨ru, hru⟩ : ∃ ru : Int, ((R.at' : Nat) : Int) = ru := ⟨_, rfl⟩
  obtain ⟨re, hre⟩ : ∃ re, R.err = re := ⟨_, rfl⟩
  unfold FindTo at HF HRF
  rw [hm, hru, hre] at HF HRF
  have HM := Lib.hid hm
  clear hw hg hf hrf ht hrt hR hm hru hre
  go_enter Tryz.func3, Tryz.ntmps3
  go_wp2_with (first
    | (go_at_call 6; refine (HG.out _ HB.out).mono ?_; rintro e w' ⟨rfl, rfl⟩)
    | (go_at_call 8; refine (HF.out _ HB.out).mono ?_; rintro e w1 ⟨v1, rfl, ho1, hb1⟩; obtain ⟨ia1, c1, rfl, hc1⟩ := own_steps ho1 HM.out.symm; have HC1 := Lib.hid hc1; have HA1 := Lib.hid (box_keep HA.out hb1); have k0 : w1.cell? ⟨w.heap.size, 0, none⟩ = some (.int .i64 t) := cell_at (j := 0) HA1.out rfl; have k1 : w1.cell? ⟨w.heap.size, 1, none⟩ = some (.string S) := cell_at (j := 1) HA1.out rfl; have HB1 := Lib.hid (below_step8' HB.out hb1); clear ho1 hc1 hb1)
    | (go_at_call 9; refine (HRF.out _ HB1.out).mono ?_; rintro e w2 ⟨v2, rfl, ho2, hb2⟩; obtain ⟨ia2, c2, rfl, hc2⟩ := own_steps ho2 HM.out.symm; have HC2 := Lib.hid hc2; have HD2 := Lib.hid (fun i hi => (HC1.out i hi).held hb2); clear k0 k1; have HA2 := Lib.hid (box_keep HA1.out hb2); have k0 : w2.cell? ⟨w.heap.size, 0, none⟩ = some (.int .i64 t) := cell_at (j := 0) HA2.out rfl; have k1 : w2.cell? ⟨w.heap.size, 1, none⟩ = some (.string S) := cell_at (j := 1) HA2.out rfl; have HB2 := Lib.hid (below_step8' HB1.out hb2); clear ho2 hc2 hb2)
    | (go_at_call 10; refine (HT.out _ HB2.out).mono ?_; rintro e w3 ⟨rfl, hb3⟩; have HC3 := Lib.hid (fun i hi => (HC2.out i hi).held hb3); have HD3 := Lib.hid (fun i hi => (HD2.out i hi).held hb3); clear k0 k1; have HA3 := Lib.hid (box_keep HA2.out hb3); have k0 : w3.cell? ⟨w.heap.size, 0, none⟩ = some (.int .i64 t) := cell_at (j := 0) HA3.out rfl; have k1 : w3.cell? ⟨w.heap.size, 1, none⟩ = some (.string S) := cell_at (j := 1) HA3.out rfl; have HB3 := Lib.hid (below_step8' HB2.out hb3); clear hb3)
    | (go_at_call 11; refine (HRT.out _ HB3.out).mono ?_; rintro e w4 ⟨rfl, hb4⟩; have HC4 := Lib.hid (fun i hi => (HC3.out i hi).held hb4); have HD4 := Lib.hid (fun i hi => (HD3.out i hi).held hb4); clear k0 k1; have HA4 := Lib.hid (box_keep HA3.out hb4); have k0 : w4.cell? ⟨w.heap.size, 0, none⟩ = some (.int .i64 t) := cell_at (j := 0) HA4.out rfl; have k1 : w4.cell? ⟨w.heap.size, 1, none⟩ = some (.string S) := cell_at (j := 1) HA4.out rfl; have HB4 := Lib.hid (below_step8' HB3.out hb4); clear hb4)
    | (go_at_call 12; refine (refSameC_any _ _ _ _ _ _ _ _ (by rw [← HM.out]; exact HRL.out) _ HD4.out HC4.out).mono ?_; rintro e w5 ⟨rfl, hb5⟩; rw [samePB_refl]; have HB5 := Lib.hid (below_step8' HB4.out hb5); clear hb5)
    | (go_at_call 7; refine (HW.out _ HB5.out).mono ?_; rintro e w9 ⟨rfl, hb9⟩; have HB9 := Lib.hid (below_step8' HB5.out hb9); clear hb9))
  go_ret
  exact ⟨rfl, HB9.out⟩
set_option maxRecDepth 100000 in
set_option maxHeartbeats 4000000 in
theorem walk (ao : Option Addr) (len cap : Nat) (L : Nat → TypeV) (t : Int) (S : ByteArray) (pa : Option Addr) (n pc : Nat) (P : Nat → StepV) (hcap : len ≤ cap) (hm : len ≤ 140737488351232) (hS2 : S.size ≤ 140737488351232) (w : World) (H : ∀ i, i < len → TypeAt w ao i (L i)) (HP : ∀ i, i < n → StepAt w pa i (P i)) :
    Calls Tryz.prog 3 #[.slice ao len cap, .agg #[.int .i64 t, .string S], .slice pa n pc] w (fun e w' => e = .returned (.bool true) ∧ Below w.heap.size w w') := by
  have hw := fun wx (hb : Below w.heap.size w wx) => awake12_any wx
  have hg := fun wx (hb : Below w.heap.size w wx) => great_any ao len cap L hm wx (hold H hb)
  cases hbig : greatB L len with
  | true =>
    rw [hbig] at hg
    exact walk_big ao len cap t S pa n pc w hw hg
  | false =>
    rw [hbig] at hg
    have hl : len ≤ 1000000 := by
      unfold greatB at hbig
      simp at hbig
      omega
    by_cases hS : 400 < S.size
    · exact walk_long ao len cap t S pa n pc w hS hS2 hw hg
    · by_cases hn : 100 < n
      · exact walk_many ao len cap t S pa n pc w (by omega) hn hw hg
      · obtain ⟨tx, tu, ti, hX⟩ : ∃ (tx : ByteArray) (tu : Int) (ti : Bool), textV (textA L len t (stepsL P n)) = .tuple #[.string tx, .int .i64 tu, .bool ti] := by
          cases textA L len t (stepsL P n) with
          | none => exact ⟨_, _, _, rfl⟩
          | some x => exact ⟨_, _, _, rfl⟩
        refine walk_ok ao len cap t S pa n pc w (by omega) (by omega) (findA L len t S) (find_len L len t S (by omega)) tx tu ti hw hg (fun wx hb => ?_) (fun wx hb => ?_) (fun wx hb => ?_) (fun wx hb => ?_)
        · exact find12_any ao len cap L hl hcap t S (by omega) wx (hold H hb)
        · exact rfind12_any ao len cap L hl t S (by omega) wx (hold H hb)
        · have := text12_any ao len cap L hl hcap t pa n pc P (by omega) wx (hold H hb) (holdP HP hb)
          rwa [hX] at this
        · have := rtext12_any ao len cap L hl t pa n pc P (by omega) wx (hold H hb) (holdP HP hb)
          rwa [hX] at this
set_option maxRecDepth 100000 in
theorem lifted (os : Os) (started : os.Started) (H : Type) (enc : TypeId × Value → H) :
    ReturnsInHanded {} Tryz.checked os 3 .any (fun w args => (Rows.pathFindsSpec.pre enc Tryz.prog Tryz.f3 Rows.pathFindsRow.domain false w args ∧ laidMetH Tryz.prog Rows.pathFindsRow.laid w) ∧ sizedMet enc Tryz.prog Tryz.f3 (OpenSpec.ofChange Rows.pathFindsSpec) false w args)
      (Rows.pathFindsSpec.post enc Tryz.prog Tryz.f3 false true false false) := by
  refine returnsInHanded_of_change_and (C := Tryz.checked) (X := fun w _ => laidMetH Tryz.prog Rows.pathFindsRow.laid w) (fun _ _ _ hh h => h.of_heap hh) own started (by kernel_rfl) Tryz.func3
    (ChangeSpec.witness_shaped (enc := enc) (C := Tryz.checked) (os := os) (X := fun w _ => laidMetH Tryz.prog Rows.pathFindsRow.laid w) false (World.laidAll Tryz.prog os Rows.pathFindsRow.laid) #[.slice none 0 0, .agg #[.int .i64 0, .string ⟨#[]⟩], .slice none 0 0] 8 (World.laidAll_os _ _ _)
      (World.shaped_of_ZipB (by kernel_rfl) (by kernel_rfl)) (by kernel_rfl) (by kernel_rfl) (by kernel_rfl)
      (by rw [MakeChecks.laidMetH_plain _ _ _ (by kernel_rfl)]; exact laidMet_laidAll _ (by kernel_rfl) (by kernel_rfl))) ?_
  intro W base args ds gs before hval0 hW hcnd hsz hL _
  have hval : ∀ (j : Nat) t v, Tryz.f3.params[j]? = some t → args[j]? = some v → Value.okWide Tryz.prog W .any base t v := hval0
  have hW' := hW
  obtain ⟨p, q, hA0, hV, rfl, hfz, hnd⟩ := hW
  have hA : DataW.TrodAll enc Tryz.prog W 0 (fun _ => true) true Tryz.f3.params.toList args.toList ds p := hA0
  rw [Tryz.params3] at hA hval
  obtain ⟨rfl, rfl⟩ := trodVars_none hV
  clear hA0 hval0
  simp only [List.append_nil] at hW'
  have hlt := hW'.lt
  have hA1 := hA
  have hsz1 : (DataW.weightsEach Tryz.prog (Tryz.f3.params.toList ++ []) (ds ++ [])).all (· ≤ reachBytes) = true := hsz
  rw [Tryz.params3, List.append_nil, List.append_nil] at hsz1
  have hrd := rdg_all _ _ _ _ hA1 (fun n hn => by simpa using List.all_eq_true.1 hsz1 n hn)
  obtain ⟨v0, vs0, d0, ds0, p0, q0, hargs, rfl, rfl, h0, r0⟩ := trodAll_cons hA
  obtain ⟨v1, vs1, d1, ds1, p1, q1, rfl, rfl, rfl, h1, r1⟩ := trodAll_cons r0
  obtain ⟨v2, vs2, d2, ds2, p2, q2, rfl, rfl, rfl, h2, r2⟩ := trodAll_cons r1
  obtain ⟨rfl, rfl, rfl⟩ := trodAll_nil r2
  obtain rfl : args = #[v0, v1, v2] := by cases args; simp_all
  have g1 := hrd 1 24 v1 rfl rfl
  obtain ⟨cs1, rfl, hz1⟩ := ok_agg (by first | exact .inl ⟨_, Tryz.underlying24⟩ | exact .inr ⟨_, _, Tryz.underlying24⟩) (hval 1 24 v1 rfl rfl)
  obtain ⟨ao, len, cap, L, rfl, hcap, hm, hcp, H⟩ := types_of3 (rop_slice 6 Tryz.underlying22 (by kernel_rfl) (hval 0 22 v0 rfl rfl) (hrd 0 22 v0 rfl rfl))
  obtain ⟨y0, y1, rfl⟩ := arr2 (hz1.trans (by kernel_rfl))
  obtain ⟨x0, e0, hx0⟩ := rdg_int Tryz.underlying3 (rdg_field Tryz.underlying24 g1 0 3 0 1 rfl (by kernel_rfl))
  obtain ⟨x1, e1, hx1⟩ := rdg_string Tryz.underlying9 (rdg_field Tryz.underlying24 g1 1 9 1 1 rfl (by kernel_rfl))
  simp [Value.cells] at e0 e1
  subst e0 e1
  obtain ⟨pa, n, pc, P, rfl, hpc, hpm, HP⟩ := steps_of (rop_slice 2 Tryz.underlying25 (by kernel_rfl) (hval 2 25 v2 rfl rfl) (hrd 2 25 v2 rfl rfl))
  refine (walk ao len cap L x0 x1 pa n pc P hcap hm hx1 W H HP).mono fun e W' ⟨he, bel⟩ => ?_
  subst he
  exact ⟨_, rfl, _, _, _, [], _, [], hW', trodAll_mk1 (shut_bool Tryz.underlying4 _), trodAll_below laidOut bel [22, 24, 25] _ _ _ (by kernel_rfl) hA1 hlt, rfl, bel.frame _, fun h => by cases h⟩
theorem over : Rows.PathFindsSaid :=
  OpenClaim.holds_of_wide 3 Tryz.f3 rfl rfl rfl rfl rfl rfl rfl ⟨rfl, rfl, rfl, rfl, rfl⟩ rfl rfl rfl rfl rfl (by kernel_rfl) Tryz.func3 (by kernel_rfl)
    (of_decide_eq_true (by kernel_rfl)) (by unfold Func.isWrapper; first | (rw [if_pos (by decide +kernel)]; kernel_rfl) | (rw [if_neg (by decide +kernel)]; exact ⟨rfl, rfl⟩))
    (fun os started H enc _ => lifted os started H enc)
theorem proved : Rows.PathFindsCardSaid :=
  Claim7.holds_tied_plain_at .later [] [.data, .data, .data, .sentinel, .sentinel] true (true, "7b702cd6da088cc7231233d3e78dbc4c63220be846549c3ac8d0e6802275358d") true
    over (fun _ h => by cases h) (by kernel_rfl) (fun _ h => by cases h) pathFinds_row_tie rfl ⟨rfl, rfl⟩ (by kernel_rfl) rfl
    (fun f fn hf hfn => by
      obtain rfl : f = 3 := Option.some.inj ((show Tryz.prog.funcNamed Rows.pathFindsRow.func = some 3 by kernel_rfl).symm.trans hf) |>.symm
      obtain rfl : fn = Tryz.f3 := (Option.some.inj (Tryz.func3.symm.trans hfn)).symm
      exact ⟨by kernel_rfl, fun j t ht => by
        rw [Tryz.params3] at ht
        have hm : t ∈ [22, 24, 25] := by simpa using Array.mem_of_getElem? ht
        have hall : ([22, 24, 25].all fun u => !Tryz.prog.wantsStandIn u) = true := by kernel_rfl
        exact (show Tryz.prog.wantsStandIn t = false by simpa using List.all_eq_true.1 hall t hm)⟩)
    (by kernel_rfl)
#print axioms proved
end Go.Proofs.YtcpjbimojliogaaGreatDoor.pathFinds
