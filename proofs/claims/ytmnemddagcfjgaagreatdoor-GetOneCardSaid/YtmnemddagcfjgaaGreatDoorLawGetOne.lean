/- GetOne: for every list of types, every place and every text the law returns true, and its arguments read as before. No condition. -/
import Derived.Test.YtmnemddagcfjgaaGreatDoorRdgSlice
import Derived.Test.YtmnemddagcfjgaaGreatDoorTie
import Derived.Test.YtmnemddagcfjgaaGreatDoorCards
import Derived.SevenTiedAt
import Derived.LaidMore
import Derived.Lay
import Derived.Stop.Joined
import Derived.Test.YtmnemddagcfjgaaGreatDoorGetLaw
import Derived.Test.YtmnemddagcfjgaaGreatDoorGetAwake
import Derived.Test.YtmnemddagcfjgaaGreatDoorValLaid
import Derived.Test.YtmnemddagcfjgaaGreatDoorValCSame
import Derived.Test.YtmnemddagcfjgaaGreatDoorFitsAwake
namespace Go.Proofs.YtmnemddagcfjgaaGreatDoor.getOne
open Go.ChangeShapes Go.WideShapes Go.ChangeAt Go.RowKit
open Go.ChangeMaps (open_string shut_string)
set_option linter.unusedVariables false
set_option maxRecDepth 100000 in
set_option maxHeartbeats 4000000 in
theorem walk_bad (ao : Option Addr) (len cap : Nat) (t : Int) (b : ByteArray) (w : World) (hb : b.size ≤ 2000) (d : DR) (x : Int) (hd : d = .bad x) (hx : x ≠ 0) (hw : ∀ wx, Below w.heap.size w wx → Calls Tryz.prog 7 #[] wx fun e w' => e = .returned (.bool true) ∧ Below wx.heap.size wx w') (hg : ∀ wx, Below w.heap.size w wx → Calls Tryz.prog 6 #[.slice ao len cap] wx fun e w' => e = .returned (.bool false) ∧ wx = w') (hget : Calls Tryz.prog 8 #[.slice ao len cap, .int .i64 t, .string b] w (GetRes d w))
    (hs : ∀ wx, Calls Tryz.prog 15 #[.agg #[.int .i64 0, .int .u64 0, .string ⟨#[]⟩, .slice none 0 0], .agg #[.int .i64 0, .int .u64 0, .string ⟨#[]⟩, .slice none 0 0]] wx fun e w' => e = .returned (.bool true) ∧ Below wx.heap.size wx w') :
    Calls Tryz.prog 5 #[.slice ao len cap, .int .i64 t, .string b] w (fun e w' => e = .returned (.bool true) ∧ Below w.heap.size w w') := by
  rw [hd] at hget
  have HW := Lib.hid hw
  have HG := Lib.hid hg
  have HT := Lib.hid hget
  have HS := Lib.hid hs
  have HR := Lib.hid (Below.refl w.heap.size w)
  have d0 : decide ((2000 : Int) < (b.size : Nat)) = false := decide_eq_false (by omega)
  have hne : (x != 0) = true := by simpa using hx
  clear hw hg hget hs hd hx
  go_enter Tryz.func5, Tryz.ntmps5
  go_wp2_with (first
    | (go_at_call 6; refine (HG.out _ HR.out).mono ?_; rintro e w' ⟨rfl, rfl⟩)
    | (go_at_call 8; refine (HT.out).mono ?_; rintro e w1 ⟨rfl, hb1⟩; have HB1 := Lib.hid hb1; clear hb1)
    | (go_at_call 15; refine (HS.out _).mono ?_; rintro e w2 ⟨rfl, hb2⟩; have HB2 := Lib.hid (below_step8' (HB1.out.alloc HB1.out.size _) hb2); clear hb2)
    | (go_at_call 7; refine (HW.out _ HB2.out).mono ?_; rintro e w3 ⟨rfl, hb3⟩; have HB3 := Lib.hid (below_step8' HB2.out hb3); clear hb3))
  go_ret
  exact ⟨rfl, HB3.out⟩
set_option maxRecDepth 100000 in
set_option maxHeartbeats 4000000 in
theorem walk_ok (ao : Option Addr) (len cap : Nat) (t : Int) (b : ByteArray) (w : World) (hb : b.size ≤ 2000) (d : DR) (V : VT) (n : Nat) (hd : d = .ok V n) (hw : ∀ wx, Below w.heap.size w wx → Calls Tryz.prog 7 #[] wx fun e w' => e = .returned (.bool true) ∧ Below wx.heap.size wx w') (hg : ∀ wx, Below w.heap.size w wx → Calls Tryz.prog 6 #[.slice ao len cap] wx fun e w' => e = .returned (.bool false) ∧ wx = w') (hget : Calls Tryz.prog 8 #[.slice ao len cap, .int .i64 t, .string b] w (GetRes d w))
    (hp : ∀ (U : VT) (wx : World), Below w.heap.size w wx → sameT V U = true → ValAt wx (fun k => w.heap.size ≤ k) U → Calls Tryz.prog 14 #[.slice ao len cap, .int .i64 t, .agg #[.int .i64 U.kind, .int .u64 U.num, .string U.text, .slice U.ia U.len U.cap]] wx fun e w' => e = .returned (.tuple #[.string b, .int .i64 0]) ∧ Below wx.heap.size wx w')
    (hf : ∀ (U : VT) (wx : World), Below w.heap.size w wx → sameT V U = true → ValAt wx (fun k => w.heap.size ≤ k) U → Calls Tryz.prog 16 #[.slice ao len cap, .int .i64 t, .agg #[.int .i64 U.kind, .int .u64 U.num, .string U.text, .slice U.ia U.len U.cap]] wx fun e w' => e = .returned (.int .i64 0) ∧ Below wx.heap.size wx w') :
    Calls Tryz.prog 5 #[.slice ao len cap, .int .i64 t, .string b] w (fun e w' => e = .returned (.bool true) ∧ Below w.heap.size w w') := by
  rw [hd] at hget
  have HW := Lib.hid hw
  have HG := Lib.hid hg
  have HT := Lib.hid hget
  have HP := Lib.hid hp
  have HF := Lib.hid hf
  have HR := Lib.hid (Below.refl w.heap.size w)
  have d9 : decide ((2000 : Int) < (b.size : Nat)) = false := decide_eq_false (by omega)
  have hbb : (b.toList == b.toList) = true := by simp
  clear hw hg hget hp hf hd
  go_enter Tryz.func5, Tryz.ntmps5
  go_wp2_with (first
    | (go_at_call 6; refine (HG.out _ HR.out).mono ?_; rintro e w' ⟨rfl, rfl⟩)
    | (go_at_call 8; refine (HT.out).mono ?_; rintro e w1 ⟨U, rfl, hU, hv, hb1⟩; have HU := Lib.hid hU; have HV := Lib.hid (hv.next ((Below.refl _ _).alloc (Nat.le_refl _) (.cells #[.int .i64 U.kind, .int .u64 U.num, .string U.text, .slice U.ia U.len U.cap] 28))); have HB1 := Lib.hid (hb1.alloc hb1.size (.cells #[.int .i64 U.kind, .int .u64 U.num, .string U.text, .slice U.ia U.len U.cap] 28)); have HQ := Lib.hid (alloc_at w1 (.cells #[.int .i64 U.kind, .int .u64 U.num, .string U.text, .slice U.ia U.len U.cap] 28)); clear hU hv hb1)
    | (go_at_call 14; refine (HP.out U _ HB1.out HU.out HV.out).mono ?_; rintro e w2 ⟨rfl, hb2⟩; have HV := Lib.hid (HV.out.next hb2); have HB2 := Lib.hid (below_step8' HB1.out hb2); have HX := Lib.hid (box_keep HQ.out hb2); have d0 : w2.cell? ⟨w1.heap.size, 0, none⟩ = some (.int .i64 U.kind) := cell_at (j := 0) HX.out rfl; have d1 : w2.cell? ⟨w1.heap.size, 1, none⟩ = some (.int .u64 U.num) := cell_at (j := 1) HX.out rfl; have d2 : w2.cell? ⟨w1.heap.size, 2, none⟩ = some (.string U.text) := cell_at (j := 2) HX.out rfl; have d3 : w2.cell? ⟨w1.heap.size, 3, none⟩ = some (.slice U.ia U.len U.cap) := cell_at (j := 3) HX.out rfl; clear hb2)
    | (go_at_call 16; refine (HF.out U _ HB2.out HU.out HV.out).mono ?_; rintro e w3 ⟨rfl, hb3⟩; have HB3 := Lib.hid (below_step8' HB2.out hb3); clear hb3)
    | (go_at_call 7; refine (HW.out _ HB3.out).mono ?_; rintro e w4 ⟨rfl, hb4⟩; have HB4 := Lib.hid (below_step8' HB3.out hb4); clear hb4))
  go_ret
  exact ⟨rfl, HB4.out⟩
set_option maxRecDepth 100000 in
set_option maxHeartbeats 4000000 in
theorem walk (ao : Option Addr) (len cap : Nat) (L : Nat → TypeV) (t : Int) (b : ByteArray) (hcap : len ≤ cap) (hm : len ≤ 140737488351232) (hcp : ∀ i, i < len → (L i).ilen ≤ (L i).icap) (hbs : b.size ≤ 140737488351232) (w : World) (H : ∀ i, i < len → TypeAt w ao i (L i)) (htab : Tab w) :
    Calls Tryz.prog 5 #[.slice ao len cap, .int .i64 t, .string b] w (fun e w' => e = .returned (.bool true) ∧ Below w.heap.size w w') := by
  have hw := fun wx (hb : Below w.heap.size w wx) => awake11_any wx (htab.next hb)
  have hg := fun wx (hb : Below w.heap.size w wx) => great_any ao len cap L hm wx (hold H hb)
  cases hbig : greatB L len with
  | true =>
    rw [hbig] at hg
    have HW := Lib.hid hw
    have HG := Lib.hid hg
    have HR := Lib.hid (Below.refl w.heap.size w)
    clear hw hg hbig H hcp
    go_enter Tryz.func5, Tryz.ntmps5
    go_wp2_with (first
      | (go_at_call 6; refine (HG.out _ HR.out).mono ?_; rintro e w' ⟨rfl, rfl⟩)
      | (go_at_call 7; refine (HW.out _ HR.out).mono ?_; rintro e w9 ⟨rfl, hb9⟩; have HB9 := Lib.hid hb9; clear hb9))
    go_ret
    exact ⟨rfl, HB9.out⟩
  | false =>
    rw [hbig] at hg
    have hl : len ≤ 1000000 := by
      unfold greatB at hbig
      simp at hbig
      omega
    by_cases hb2 : 2000 < b.size
    · have HW := Lib.hid hw
      have HG := Lib.hid hg
      have HR := Lib.hid (Below.refl w.heap.size w)
      have d0 : decide ((2000 : Int) < (b.size : Nat)) = true := decide_eq_true (by omega)
      have hmx : b.size ≤ maxLen := by unfold maxLen; omega
      clear hw hg hbig H hcp
      go_enter Tryz.func5, Tryz.ntmps5
      go_wp2_with (first
        | (go_at_call 6; refine (HG.out _ HR.out).mono ?_; rintro e w' ⟨rfl, rfl⟩)
        | (go_at_call 7; refine (HW.out _ HR.out).mono ?_; rintro e w9 ⟨rfl, hb9⟩; have HB9 := Lib.hid hb9; clear hb9))
      go_ret
      exact ⟨rfl, HB9.out⟩
    · have hget := get_any ao len cap L hl hcap hcp t b (by omega) w H
      cases hd : getD L len t b with
      | bad x => exact walk_bad ao len cap t b w (by omega) _ x hd (getD_bad hd) hw hg hget (fun wx => same8_any (fun _ => False) (fun _ => False) .nil .nil wx trivial trivial)
      | ok V n =>
        obtain ⟨k, rfl, hk, hok, hl2, hdd, hn⟩ := getD_ok hd
        have key := fun (U : VT) (hU : sameT V U = true) => one_put hok hk hl2 hdd hn hU
        refine walk_ok ao len cap (k : Nat) b w (by omega) _ V n hd hw hg hget (fun U wx hb hU hv => ?_) (fun U wx hb hU hv => ?_)
        · have := put_any10 ao len cap L hl hcap hcp _ (k : Nat) U wx hv (hold H hb)
          rw [(key U hU).2.1, (key U hU).2.2] at this
          exact this
        · have := fits9_any ao len cap L hl hcap hcp _ (k : Nat) U wx hv (hold H hb)
          rw [(key U hU).1] at this
          exact this
set_option maxRecDepth 100000 in
theorem lifted (os : Os) (started : os.Started) (H : Type) (enc : TypeId × Value → H) :
    ReturnsInHanded {} Tryz.checked os 5 .any (fun w args => (Rows.getOneSpec.pre enc Tryz.prog Tryz.f5 Rows.getOneRow.domain false w args ∧ laidMetH Tryz.prog Rows.getOneRow.laid w) ∧ sizedMet enc Tryz.prog Tryz.f5 (OpenSpec.ofChange Rows.getOneSpec) false w args)
      (Rows.getOneSpec.post enc Tryz.prog Tryz.f5 false true false false) := by
  refine returnsInHanded_of_change_and (C := Tryz.checked) (X := fun w _ => laidMetH Tryz.prog Rows.getOneRow.laid w) (fun _ _ _ hh h => h.of_heap hh) own started (by kernel_rfl) Tryz.func5
    (ChangeSpec.witness_shaped (enc := enc) (C := Tryz.checked) (os := os) (X := fun w _ => laidMetH Tryz.prog Rows.getOneRow.laid w) false (World.laidAll Tryz.prog os Rows.getOneRow.laid) #[.slice none 0 0, .int .i64 0, .string ⟨#[]⟩] 8 (World.laidAll_os _ _ _)
      (World.shaped_of_ZipB (by kernel_rfl) (by kernel_rfl)) (by kernel_rfl) (by kernel_rfl) (by kernel_rfl)
      (by rw [MakeChecks.laidMetH_plain _ _ _ (by kernel_rfl)]; exact laidMet_laidAll _ (by kernel_rfl) (by kernel_rfl))) ?_
  intro W base args ds gs before hval0 hW hcnd hsz hL _
  have hval : ∀ (j : Nat) t v, Tryz.f5.params[j]? = some t → args[j]? = some v → Value.okWide Tryz.prog W .any base t v := hval0
  have hW' := hW
  obtain ⟨p, q, hA0, hV, rfl, hfz, hnd⟩ := hW
  have hA : DataW.TrodAll enc Tryz.prog W 0 (fun _ => true) true Tryz.f5.params.toList args.toList ds p := hA0
  rw [Tryz.params5] at hA hval
  obtain ⟨rfl, rfl⟩ := trodVars_none hV
  clear hA0 hval0
  simp only [List.append_nil] at hW'
  have hlt := hW'.lt
  have hA1 := hA
  have hsz1 : (DataW.weightsEach Tryz.prog (Tryz.f5.params.toList ++ []) (ds ++ [])).all (· ≤ reachBytes) = true := hsz
  rw [Tryz.params5, List.append_nil, List.append_nil] at hsz1
  have hrd := rdg_all _ _ _ _ hA1 (fun n hn => by simpa using List.all_eq_true.1 hsz1 n hn)
  obtain ⟨v0, vs0, d0, ds0, p0, q0, hargs, rfl, rfl, h0, r0⟩ := trodAll_cons hA
  obtain ⟨v1, vs1, d1, ds1, p1, q1, rfl, rfl, rfl, h1, r1⟩ := trodAll_cons r0
  obtain ⟨v2, vs2, d2, ds2, p2, q2, rfl, rfl, rfl, h2, r2⟩ := trodAll_cons r1
  obtain ⟨rfl, rfl, rfl⟩ := trodAll_nil r2
  obtain rfl : args = #[v0, v1, v2] := by cases args; simp_all
  obtain ⟨a1, rfl, w1⟩ := rop_int Tryz.underlying3 (hval 1 3 v1 rfl rfl) (hrd 1 3 v1 rfl rfl)
  obtain ⟨a2, rfl, w2⟩ := rop_string Tryz.underlying9 (hval 2 9 v2 rfl rfl) (hrd 2 9 v2 rfl rfl)
  obtain ⟨ao, len, cap, L, rfl, hcap, hm, hcp, H⟩ := types_of3 (rop_slice 6 Tryz.underlying22 (by kernel_rfl) (hval 0 22 v0 rfl rfl) (hrd 0 22 v0 rfl rfl))
  refine (walk ao len cap L a1 a2 hcap hm hcp w2 W H (tab_of hL)).mono fun e W' ⟨he, bel⟩ => ?_
  subst he
  exact ⟨_, rfl, _, _, _, [], _, [], hW', trodAll_mk1 (shut_bool Tryz.underlying4 _), trodAll_below laidOut bel [22, 3, 9] _ _ _ (by kernel_rfl) hA1 hlt, rfl, bel.frame _, fun h => by cases h⟩
theorem over : Rows.GetOneSaid :=
  OpenClaim.holds_of_wide 5 Tryz.f5 rfl rfl rfl rfl rfl rfl rfl ⟨rfl, rfl, rfl, rfl, rfl⟩ rfl rfl rfl rfl rfl (by kernel_rfl) Tryz.func5 (by kernel_rfl)
    (of_decide_eq_true (by kernel_rfl)) (by unfold Func.isWrapper; first | (rw [if_pos (by decide +kernel)]; kernel_rfl) | (rw [if_neg (by decide +kernel)]; exact ⟨rfl, rfl⟩))
    (fun os started H enc _ => lifted os started H enc)
theorem proved : Rows.GetOneCardSaid :=
  Claim7.holds_tied_plain_at .later [] [.data, .data, .data] true (true, "dadb9d5fddc86713dba2efca73868156abe7a88d1618315ae04e561a1f5caa72") true
    over (fun _ h => by cases h) (by kernel_rfl) (fun _ h => by cases h) getOne_row_tie rfl ⟨rfl, rfl⟩ (by kernel_rfl) rfl
    (fun f fn hf hfn => by
      obtain rfl : f = 5 := Option.some.inj ((show Tryz.prog.funcNamed Rows.getOneRow.func = some 5 by kernel_rfl).symm.trans hf) |>.symm
      obtain rfl : fn = Tryz.f5 := (Option.some.inj (Tryz.func5.symm.trans hfn)).symm
      exact ⟨by kernel_rfl, fun j t ht => by
        rw [Tryz.params5] at ht
        have hm : t ∈ [22, 3, 9] := by simpa using Array.mem_of_getElem? ht
        have hall : ([22, 3, 9].all fun u => !Tryz.prog.wantsStandIn u) = true := by kernel_rfl
        exact (show Tryz.prog.wantsStandIn t = false by simpa using List.all_eq_true.1 hall t hm)⟩)
    (by kernel_rfl)
#print axioms proved
end Go.Proofs.YtmnemddagcfjgaaGreatDoor.getOne
