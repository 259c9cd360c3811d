/- GetTells: for every list of types, every place and every text the law returns true, and its arguments read as before. No condition. -/
import Derived.Test.YtmnemddagcfjgaaGreatDoorRdgSlice
import Derived.Test.YtmnemddagcfjgaaGreatDoorTie
import Derived.Test.YtmnemddagcfjgaaGreatDoorCards
import Derived.SevenTiedAt
import Derived.LaidMore
import Derived.Lay
import Derived.Stop.Joined
import Derived.Test.YtmnemddagcfjgaaGreatDoorGetRFirst
import Derived.Test.YtmnemddagcfjgaaGreatDoorGetAwake
import Derived.Test.YtmnemddagcfjgaaGreatDoorValLaid
import Derived.Test.YtmnemddagcfjgaaGreatDoorValCSame
import Derived.Test.YtmnemddagcfjgaaGreatDoorFitsAwake
namespace Go.Proofs.YtmnemddagcfjgaaGreatDoor.getTells
open Go.ChangeShapes Go.WideShapes Go.ChangeAt Go.RowKit
open Go.ChangeMaps (open_string shut_string)
set_option linter.unusedVariables false
def valD : DR → VT
  | .bad _ => .nil
  | .ok V _ => V
def errD : DR → Int
  | .bad x => x
  | .ok _ _ => 0
def plcD : DR → Int
  | .bad _ => 0
  | .ok _ n => (n : Nat)
def G2 (d : DR) (w : World) (e : Ending) (w' : World) : Prop :=
  ∃ U : VT, e = .returned (.tuple #[.agg #[.int .i64 U.kind, .int .u64 U.num, .string U.text, .slice U.ia U.len U.cap], .int .i64 (errD d)]) ∧ sameT (valD d) U = true ∧ ValAt w' (fun k => w.heap.size ≤ k) U ∧ Below w.heap.size w w'
def G3 (d : DR) (w : World) (e : Ending) (w' : World) : Prop :=
  ∃ U : VT, e = .returned (.tuple #[.agg #[.int .i64 U.kind, .int .u64 U.num, .string U.text, .slice U.ia U.len U.cap], .int .i64 (plcD d), .int .i64 (errD d)]) ∧ sameT (valD d) U = true ∧ ValAt w' (fun k => w.heap.size ≤ k) U ∧ Below w.heap.size w w'
theorem g2_of {d : DR} {w : World} {e : Ending} {w' : World} (h : GetRes d w e w') : G2 d w e w' := by
  cases d with
  | bad x => exact ⟨.nil, h.1, sameT_refl _, trivial, h.2⟩
  | ok V n => exact h
theorem g3_of {d : DR} {w : World} {e : Ending} {w' : World} (h : FirstRes d w e w') : G3 d w e w' := by
  cases d with
  | bad x => exact ⟨.nil, h.1, sameT_refl _, trivial, h.2⟩
  | ok V n => exact h
theorem same_yes {V U U' : VT} {S S' : Nat → Prop} (h1 : sameT V U = true) (h2 : sameT V U' = true) (wx : World) (v1 : ValAt wx S U) (v2 : ValAt wx S' U') : Calls Tryz.prog 12 #[.agg #[.int .i64 U.kind, .int .u64 U.num, .string U.text, .slice U.ia U.len U.cap], .agg #[.int .i64 U'.kind, .int .u64 U'.num, .string U'.text, .slice U'.ia U'.len U'.cap]] wx fun e w' => e = .returned (.bool true) ∧ Below wx.heap.size wx w' := by
  have h := refSame_any S S' U U' wx v1 v2
  have e := sameT_trans U V U' (sameT_symm _ _ h1) h2
  unfold RSameTo at h
  rw [e] at h
  exact h
set_option maxRecDepth 100000 in
set_option maxHeartbeats 4000000 in
theorem walk_both (ao : Option Addr) (len cap : Nat) (t : Int) (b : ByteArray) (w : World) (hb : b.size ≤ 2000) (d f : DR) (hw : ∀ wx, Below w.heap.size w wx → Calls Tryz.prog 7 #[] wx fun e w' => e = .returned (.bool true) ∧ Below wx.heap.size wx w') (hg : ∀ wx, Below w.heap.size w wx → Calls Tryz.prog 6 #[.slice ao len cap] wx fun e w' => e = .returned (.bool false) ∧ wx = w') (h1 : ∀ wx, Below w.heap.size w wx → Calls Tryz.prog 8 #[.slice ao len cap, .int .i64 t, .string b] wx (G2 d wx)) (h2 : ∀ wx, Below w.heap.size w wx → Calls Tryz.prog 9 #[.slice ao len cap, .int .i64 t, .string b] wx (G2 d wx)) (h3 : ∀ wx, Below w.heap.size w wx → Calls Tryz.prog 10 #[.slice ao len cap, .int .i64 t, .string b] wx (G3 f wx)) (h4 : ∀ wx, Below w.heap.size w wx → Calls Tryz.prog 11 #[.slice ao len cap, .int .i64 t, .string b] wx (G3 f wx)) :
    Calls Tryz.prog 3 #[.slice ao len cap, .int .i64 t, .string b] w (fun e w' => e = .returned (.bool true) ∧ Below w.heap.size w w') := by
  have HW := Lib.hid hw
  have HG := Lib.hid hg
  have H1 := Lib.hid h1
  have H2 := Lib.hid h2
  have H3 := Lib.hid h3
  have H4 := Lib.hid h4
  have HR := Lib.hid (Below.refl w.heap.size w)
  have d0 : decide ((2000 : Int) < (b.size : Nat)) = false := decide_eq_false (by omega)
  obtain ⟨x, hx⟩ : ∃ x, errD d = x := ⟨_, rfl⟩
  obtain ⟨y, hy⟩ : ∃ y, errD f = y := ⟨_, rfl⟩
  obtain ⟨p, hp⟩ : ∃ p, plcD f = p := ⟨_, rfl⟩
  unfold G2 at H1 H2
  unfold G3 at H3 H4
  rw [hx] at H1 H2
  rw [hy, hp] at H3 H4
  clear hw hg h1 h2 h3 h4 hx hy hp
  go_enter Tryz.func3, Tryz.ntmps3
  go_upto_region 7 with (first
    | (go_at_call 6; refine (HG.out _ HR.out).mono ?_; rintro e w' ⟨rfl, rfl⟩)
    | (go_at_call 8; refine (H1.out _ HR.out).mono ?_; rintro e w1 ⟨U1, rfl, hs1, hv1, hb1⟩; have HS1 := Lib.hid hs1; have HV1 := Lib.hid (hv1.next ((Below.refl _ _).alloc (Nat.le_refl _) (.cells #[.int .i64 U1.kind, .int .u64 U1.num, .string U1.text, .slice U1.ia U1.len U1.cap] 28))); have HO1 := Lib.hid (hb1.alloc hb1.size (.cells #[.int .i64 U1.kind, .int .u64 U1.num, .string U1.text, .slice U1.ia U1.len U1.cap] 28)); have HB1 := Lib.hid (below_step8' HR.out HO1.out); have HQ1 := Lib.hid (alloc_at w1 (.cells #[.int .i64 U1.kind, .int .u64 U1.num, .string U1.text, .slice U1.ia U1.len U1.cap] 28)); clear hs1 hv1 hb1)
    | (go_at_call 9; refine (H2.out _ HB1.out).mono ?_; rintro e w2 ⟨U2, rfl, hs2, hv2, hb2⟩; have HS2 := Lib.hid hs2; have HV2 := Lib.hid (hv2.next ((Below.refl _ _).alloc (Nat.le_refl _) (.cells #[.int .i64 U2.kind, .int .u64 U2.num, .string U2.text, .slice U2.ia U2.len U2.cap] 28))); have HO2 := Lib.hid (hb2.alloc hb2.size (.cells #[.int .i64 U2.kind, .int .u64 U2.num, .string U2.text, .slice U2.ia U2.len U2.cap] 28)); have HB2 := Lib.hid (below_step8' HB1.out HO2.out); have HQ2 := Lib.hid (alloc_at w2 (.cells #[.int .i64 U2.kind, .int .u64 U2.num, .string U2.text, .slice U2.ia U2.len U2.cap] 28)); clear hs2 hv2 hb2)
    | (go_at_call 10; refine (H3.out _ HB2.out).mono ?_; rintro e w3 ⟨U3, rfl, hs3, hv3, hb3⟩; have HS3 := Lib.hid hs3; have HV3 := Lib.hid (hv3.next ((Below.refl _ _).alloc (Nat.le_refl _) (.cells #[.int .i64 U3.kind, .int .u64 U3.num, .string U3.text, .slice U3.ia U3.len U3.cap] 28))); have HO3 := Lib.hid (hb3.alloc hb3.size (.cells #[.int .i64 U3.kind, .int .u64 U3.num, .string U3.text, .slice U3.ia U3.len U3.cap] 28)); have HB3 := Lib.hid (below_step8' HB2.out HO3.out); have HQ3 := Lib.hid (alloc_at w3 (.cells #[.int .i64 U3.kind, .int .u64 U3.num, .string U3.text, .slice U3.ia U3.len U3.cap] 28)); clear hs3 hv3 hb3)
    | (go_at_call 11; refine (H4.out _ HB3.out).mono ?_; rintro e w4 ⟨U4, rfl, hs4, hv4, hb4⟩; have HS4 := Lib.hid hs4; have HV4 := Lib.hid (hv4.next ((Below.refl _ _).alloc (Nat.le_refl _) (.cells #[.int .i64 U4.kind, .int .u64 U4.num, .string U4.text, .slice U4.ia U4.len U4.cap] 28))); have HO4 := Lib.hid (hb4.alloc hb4.size (.cells #[.int .i64 U4.kind, .int .u64 U4.num, .string U4.text, .slice U4.ia U4.len U4.cap] 28)); have HB4 := Lib.hid (below_step8' HB3.out HO4.out); have HQ4 := Lib.hid (alloc_at w4 (.cells #[.int .i64 U4.kind, .int .u64 U4.num, .string U4.text, .slice U4.ia U4.len U4.cap] 28)); clear hs4 hv4 hb4))
  have Q1 := Lib.hid (box_keep (box_keep (box_keep HQ1.out HO2.out) HO3.out) HO4.out)
  have Q2 := Lib.hid (box_keep (box_keep HQ2.out HO3.out) HO4.out)
  have Q3 := Lib.hid (box_keep HQ3.out HO4.out)
  have V1 := Lib.hid (((HV1.out.next HO2.out).next HO3.out).next HO4.out)
  have V2 := Lib.hid ((HV2.out.next HO3.out).next HO4.out)
  have V3 := Lib.hid (HV3.out.next HO4.out)
  generalize w4.alloc (.cells #[.int .i64 U4.kind, .int .u64 U4.num, .string U4.text, .slice U4.ia U4.len U4.cap] 28) = W at *
  have a0 := cell_at (j := 0) Q1.out rfl
  have a1 := cell_at (j := 1) Q1.out rfl
  have a2 := cell_at (j := 2) Q1.out rfl
  have a3 := cell_at (j := 3) Q1.out rfl
  have c0 := cell_at (j := 0) Q2.out rfl
  have c1 := cell_at (j := 1) Q2.out rfl
  have c2 := cell_at (j := 2) Q2.out rfl
  have c3 := cell_at (j := 3) Q2.out rfl
  go_wp2_with (first
    | (go_at_call 12; (with_reducible refine (same_yes HS1.out HS2.out _ V1.out V2.out).mono ?_); rintro e w5 ⟨rfl, hb5⟩; have HB5 := Lib.hid (below_step8' HB4.out hb5); have Q3 := Lib.hid (box_keep Q3.out hb5); have Q4 := Lib.hid (box_keep HQ4.out hb5); have V3 := Lib.hid (V3.out.next hb5); have V4 := Lib.hid (HV4.out.next hb5); clear hb5 a0 a1 a2 a3 c0 c1 c2 c3; have a0 := cell_at (j := 0) Q3.out rfl; have c0 := cell_at (j := 0) Q4.out rfl; have a1 := cell_at (j := 1) Q3.out rfl; have c1 := cell_at (j := 1) Q4.out rfl; have a2 := cell_at (j := 2) Q3.out rfl; have c2 := cell_at (j := 2) Q4.out rfl; have a3 := cell_at (j := 3) Q3.out rfl; have c3 := cell_at (j := 3) Q4.out rfl)
    | (go_at_call 12; (with_reducible refine (same_yes HS3.out HS4.out _ V3.out V4.out).mono ?_); rintro e w6 ⟨rfl, hb6⟩; have HB6 := Lib.hid (below_step8' HB5.out hb6); clear hb6)
    | (go_at_call 7; refine (HW.out _ HB6.out).mono ?_; rintro e w7 ⟨rfl, hb7⟩; have HB7 := Lib.hid (below_step8' HB6.out hb7); clear hb7))
  go_ret
  exact ⟨rfl, HB7.out⟩
set_option maxRecDepth 100000 in
set_option maxHeartbeats 4000000 in
theorem walk (ao : Option Addr) (len cap : Nat) (L : Nat → TypeV) (t : Int) (b : ByteArray) (hcap : len ≤ cap) (hm : len ≤ 140737488351232) (hcp : ∀ i, i < len → (L i).ilen ≤ (L i).icap) (hbs : b.size ≤ 140737488351232) (w : World) (H : ∀ i, i < len → TypeAt w ao i (L i)) (htab : Tab w) :
    Calls Tryz.prog 3 #[.slice ao len cap, .int .i64 t, .string b] w (fun e w' => e = .returned (.bool true) ∧ Below w.heap.size w w') := by
  have hw := fun wx (hb : Below w.heap.size w wx) => awake11_any wx (htab.next hb)
  have hg := fun wx (hb : Below w.heap.size w wx) => great_any ao len cap L hm wx (hold H hb)
  cases hbig : greatB L len with
  | true =>
    rw [hbig] at hg
    have HW := Lib.hid hw
    have HG := Lib.hid hg
    have HR := Lib.hid (Below.refl w.heap.size w)
    clear hw hg hbig H hcp
    go_enter Tryz.func3, Tryz.ntmps3
    go_wp2_with (first
      | (go_at_call 6; refine (HG.out _ HR.out).mono ?_; rintro e w' ⟨rfl, rfl⟩)
      | (go_at_call 7; refine (HW.out _ HR.out).mono ?_; rintro e w9 ⟨rfl, hb9⟩; have HB9 := Lib.hid hb9; clear hb9))
    go_ret
    exact ⟨rfl, HB9.out⟩
  | false =>
    rw [hbig] at hg
    have hl : len ≤ 1000000 := by
      unfold greatB at hbig
      simp at hbig
      omega
    by_cases hb2 : 2000 < b.size
    · have HW := Lib.hid hw
      have HG := Lib.hid hg
      have HR := Lib.hid (Below.refl w.heap.size w)
      have d0 : decide ((2000 : Int) < (b.size : Nat)) = true := decide_eq_true (by omega)
      have hmx : b.size ≤ maxLen := by unfold maxLen; omega
      clear hw hg hbig H hcp
      go_enter Tryz.func3, Tryz.ntmps3
      go_wp2_with (first
        | (go_at_call 6; refine (HG.out _ HR.out).mono ?_; rintro e w' ⟨rfl, rfl⟩)
        | (go_at_call 7; refine (HW.out _ HR.out).mono ?_; rintro e w9 ⟨rfl, hb9⟩; have HB9 := Lib.hid hb9; clear hb9))
      go_ret
      exact ⟨rfl, HB9.out⟩
    · exact walk_both ao len cap t b w (by omega) _ _ hw hg (fun wx hx => (get_any ao len cap L hl hcap hcp t b (by omega) wx (hold H hx)).mono fun e w' h => g2_of h) (fun wx hx => (rget_any ao len cap L hl t b (by omega) wx (hold H hx)).mono fun e w' h => g2_of h)
        (fun wx hx => (first_any ao len cap L hl hcap hcp t b (by omega) wx (hold H hx)).mono fun e w' h => g3_of h) (fun wx hx => (rfirst_any ao len cap L hl t b (by omega) wx (hold H hx)).mono fun e w' h => g3_of h)
set_option maxRecDepth 100000 in
theorem lifted (os : Os) (started : os.Started) (H : Type) (enc : TypeId × Value → H) :
    ReturnsInHanded {} Tryz.checked os 3 .any (fun w args => (Rows.getTellsSpec.pre enc Tryz.prog Tryz.f3 Rows.getTellsRow.domain false w args ∧ laidMetH Tryz.prog Rows.getTellsRow.laid w) ∧ sizedMet enc Tryz.prog Tryz.f3 (OpenSpec.ofChange Rows.getTellsSpec) false w args)
      (Rows.getTellsSpec.post enc Tryz.prog Tryz.f3 false true false false) := by
  refine returnsInHanded_of_change_and (C := Tryz.checked) (X := fun w _ => laidMetH Tryz.prog Rows.getTellsRow.laid w) (fun _ _ _ hh h => h.of_heap hh) own started (by kernel_rfl) Tryz.func3
    (ChangeSpec.witness_shaped (enc := enc) (C := Tryz.checked) (os := os) (X := fun w _ => laidMetH Tryz.prog Rows.getTellsRow.laid w) false (World.laidAll Tryz.prog os Rows.getTellsRow.laid) #[.slice none 0 0, .int .i64 0, .string ⟨#[]⟩] 8 (World.laidAll_os _ _ _)
      (World.shaped_of_ZipB (by kernel_rfl) (by kernel_rfl)) (by kernel_rfl) (by kernel_rfl) (by kernel_rfl)
      (by rw [MakeChecks.laidMetH_plain _ _ _ (by kernel_rfl)]; exact laidMet_laidAll _ (by kernel_rfl) (by kernel_rfl))) ?_
  intro W base args ds gs before hval0 hW hcnd hsz hL _
  have hval : ∀ (j : Nat) t v, Tryz.f3.params[j]? = some t → args[j]? = some v → Value.okWide Tryz.prog W .any base t v := hval0
  have hW' := hW
  obtain ⟨p, q, hA0, hV, rfl, hfz, hnd⟩ := hW
  have hA : DataW.TrodAll enc Tryz.prog W 0 (fun _ => true) true Tryz.f3.params.toList args.toList ds p := hA0
  rw [Tryz.params3] at hA hval
  obtain ⟨rfl, rfl⟩ := trodVars_none hV
  clear hA0 hval0
  simp only [List.append_nil] at hW'
  have hlt := hW'.lt
  have hA1 := hA
  have hsz1 : (DataW.weightsEach Tryz.prog (Tryz.f3.params.toList ++ []) (ds ++ [])).all (· ≤ reachBytes) = true := hsz
  rw [Tryz.params3, List.append_nil, List.append_nil] at hsz1
  have hrd := rdg_all _ _ _ _ hA1 (fun n hn => by simpa using List.all_eq_true.1 hsz1 n hn)
  obtain ⟨v0, vs0, d0, ds0, p0, q0, hargs, rfl, rfl, h0, r0⟩ := trodAll_cons hA
  obtain ⟨v1, vs1, d1, ds1, p1, q1, rfl, rfl, rfl, h1, r1⟩ := trodAll_cons r0
  obtain ⟨v2, vs2, d2, ds2, p2, q2, rfl, rfl, rfl, h2, r2⟩ := trodAll_cons r1
  obtain ⟨rfl, rfl, rfl⟩ := trodAll_nil r2
  obtain rfl : args = #[v0, v1, v2] := by cases args; simp_all
  obtain ⟨a1, rfl, w1⟩ := rop_int Tryz.underlying3 (hval 1 3 v1 rfl rfl) (hrd 1 3 v1 rfl rfl)
  obtain ⟨a2, rfl, w2⟩ := rop_string Tryz.underlying9 (hval 2 9 v2 rfl rfl) (hrd 2 9 v2 rfl rfl)
  obtain ⟨ao, len, cap, L, rfl, hcap, hm, hcp, H⟩ := types_of3 (rop_slice 6 Tryz.underlying22 (by kernel_rfl) (hval 0 22 v0 rfl rfl) (hrd 0 22 v0 rfl rfl))
  refine (walk ao len cap L a1 a2 hcap hm hcp w2 W H (tab_of hL)).mono fun e W' ⟨he, bel⟩ => ?_
  subst he
  exact ⟨_, rfl, _, _, _, [], _, [], hW', trodAll_mk1 (shut_bool Tryz.underlying4 _), trodAll_below laidOut bel [22, 3, 9] _ _ _ (by kernel_rfl) hA1 hlt, rfl, bel.frame _, fun h => by cases h⟩
theorem over : Rows.GetTellsSaid :=
  OpenClaim.holds_of_wide 3 Tryz.f3 rfl rfl rfl rfl rfl rfl rfl ⟨rfl, rfl, rfl, rfl, rfl⟩ rfl rfl rfl rfl rfl (by kernel_rfl) Tryz.func3 (by kernel_rfl)
    (of_decide_eq_true (by kernel_rfl)) (by unfold Func.isWrapper; first | (rw [if_pos (by decide +kernel)]; kernel_rfl) | (rw [if_neg (by decide +kernel)]; exact ⟨rfl, rfl⟩))
    (fun os started H enc _ => lifted os started H enc)
theorem proved : Rows.GetTellsCardSaid :=
  Claim7.holds_tied_plain_at .later [] [.data, .data, .data] true (true, "dadb9d5fddc86713dba2efca73868156abe7a88d1618315ae04e561a1f5caa72") true
    over (fun _ h => by cases h) (by kernel_rfl) (fun _ h => by cases h) getTells_row_tie rfl ⟨rfl, rfl⟩ (by kernel_rfl) rfl
    (fun f fn hf hfn => by
      obtain rfl : f = 3 := Option.some.inj ((show Tryz.prog.funcNamed Rows.getTellsRow.func = some 3 by kernel_rfl).symm.trans hf) |>.symm
      obtain rfl : fn = Tryz.f3 := (Option.some.inj (Tryz.func3.symm.trans hfn)).symm
      exact ⟨by kernel_rfl, fun j t ht => by
        rw [Tryz.params3] at ht
        have hm : t ∈ [22, 3, 9] := by simpa using Array.mem_of_getElem? ht
        have hall : ([22, 3, 9].all fun u => !Tryz.prog.wantsStandIn u) = true := by kernel_rfl
        exact (show Tryz.prog.wantsStandIn t = false by simpa using List.all_eq_true.1 hall t hm)⟩)
    (by kernel_rfl)
#print axioms proved
end Go.Proofs.YtmnemddagcfjgaaGreatDoor.getTells
