/- TokenReads: for every text the law returns true, and its argument reads as before. No condition. -/
import Derived.Test.YtcdplpdgokhopaaDoorRdgSlice
import Derived.Test.YtcdplpdgokhopaaDoorTie
import Derived.Test.YtcdplpdgokhopaaDoorCards
import Derived.SevenTiedAt
import Derived.LaidMore
import Derived.Lay
import Derived.Stop.Joined
import Derived.Test.YtcdplpdgokhopaaDoorTokShape
import Derived.Test.YtcdplpdgokhopaaDoorTokAns
import Derived.Test.YtcdplpdgokhopaaDoorTokRTok
import Derived.Test.YtcdplpdgokhopaaDoorTokOneEq
namespace Go.Proofs.YtcdplpdgokhopaaDoor.tokenReads
open Go.ChangeShapes Go.WideShapes Go.ChangeAt Go.RowKit
open Go.ChangeMaps (open_string shut_string)
set_option linter.unusedVariables false
set_option maxRecDepth 100000 in
set_option maxHeartbeats 8000000 in
theorem walk_of (s : ByteArray) (n : Nat) (L : Nat → TkV) (E A : Nat) (hn : n ≤ 1000) (w : World) (hV : LibAt w)
    (hT : ∀ wx, Below w.heap.size w wx → Calls Tryd.prog 6 #[.string s] wx fun x w' => ∃ ao ca, x = .returned (.tuple #[.slice ao n ca, .agg #[.int .i64 (E : Nat), .int .i64 (A : Nat)]]) ∧ (∀ i, i < n → TkAt w' ao i (L i)) ∧ Below wx.heap.size wx w')
    (hR : ∀ wx, Below w.heap.size w wx → Calls Tryd.prog 7 #[.string s] wx fun x w' => ∃ ao ca, x = .returned (.tuple #[.slice ao n ca, .agg #[.int .i64 (E : Nat), .int .i64 (A : Nat)]]) ∧ (∀ i, i < n → TkAt w' ao i (L i)) ∧ Below wx.heap.size wx w') :
    Calls Tryd.prog 3 #[.string s] w fun e w' => e = .returned (.bool true) ∧ Below w.heap.size w w' := by
  have HT := Lib.hid hT
  have HR := Lib.hid hR
  have HAW := Lib.hid (fun wx (hb : Below w.heap.size w wx) => awake_any wx (hV.held hb))
  have HSA := Lib.hid (fun (ao bo : Option Addr) (ca cb : Nat) (wx : World) (h1 : ∀ i, i < n → TkAt wx ao i (L i)) (h2 : ∀ i, i < n → TkAt wx bo i (L i)) => same_any ao bo n ca cb L L true hn wx h1 h2 (fun i _ => ⟨rfl, rfl, rfl, fun _ => rfl⟩))
  have heq := flt_eq (E : Int) (A : Int)
  clear hT hR hV
  go_enter Tryd.func3, Tryd.ntmps3
  go_wp2_with (first
    | (go_at_call 6; refine (HT.out _ (Below.refl _ _)).mono ?_; rintro x w1 ⟨ao, ca, rfl, h1, hb1⟩; have H1 := Lib.hid h1; have HB1 := Lib.hid hb1; clear h1 hb1)
    | (go_at_call 7; refine (HR.out _ (HB1.out.alloc HB1.out.size _)).mono ?_; rintro x w2 ⟨bo, cb, rfl, h2, hb2⟩; have HR2 := Lib.hid (newRow hb2); have H1b := Lib.hid (fun i hi => (H1.out i hi).held (newBelow hb2)); have H2 := Lib.hid h2; have HB2 := Lib.hid (onBelow HB1.out (Nat.le_refl _) (newBelow hb2)); clear h2 hb2)
    | (go_at_call 8; refine (HSA.out _ _ _ _ _ (fun i hi => (H1b.out i hi).held ((Below.refl w2.heap.size w2).alloc (Nat.le_refl _) _)) (fun i hi => (H2.out i hi).held ((Below.refl w2.heap.size w2).alloc (Nat.le_refl _) _))).mono ?_; rintro x w3 ⟨rfl, hb3⟩; have HR4 := Lib.hid (newRow hb3); have HR3 := Lib.hid (rowKeep (newBelow hb3) HR2.out); have HB3 := Lib.hid (onBelow HB2.out (Nat.le_refl _) (newBelow hb3)); have c0 : w3.cell? ⟨w1.heap.size, 0, none⟩ = some (.int .i64 (E : Nat)) := cell_at HR3.out rfl; have c1 : w3.cell? ⟨w1.heap.size, 1, none⟩ = some (.int .i64 (A : Nat)) := cell_at HR3.out rfl; have c2 : w3.cell? ⟨w2.heap.size, 0, none⟩ = some (.int .i64 (E : Nat)) := cell_at HR4.out rfl; have c3 : w3.cell? ⟨w2.heap.size, 1, none⟩ = some (.int .i64 (A : Nat)) := cell_at HR4.out rfl; clear hb3)
    | (go_at_call 9; refine (HAW.out _ HB3.out).mono ?_; rintro x w4 ⟨rfl, hb4⟩; have HB4 := Lib.hid (onBelow HB3.out (Nat.le_refl _) hb4); clear hb4))
  go_ret
  exact ⟨rfl, HB4.out⟩
theorem walk (s : ByteArray) (hs : s.size ≤ 140737488351232) (w : World) (hV : LibAt w) :
    Calls Tryd.prog 3 #[.string s] w fun e w' => e = .returned (.bool true) ∧ Below w.heap.size w w' := by
  have hsz := Lib.size_eq s
  by_cases h : 256 < s.size
  · refine walk_of s 0 (ansL (.bad 3 0)) 3 0 (by omega) w hV (fun wx hb => ?_) (fun wx hb => ?_)
    · exact (tokens_long s h (by omega) wx).mono fun x w' hx => hx.gen
    · exact (rtokens_long s h (by omega) wx).mono fun x w' hx => hx.gen
  · obtain ⟨l, hl⟩ : ∃ l, s.data.toList = l := ⟨_, rfl⟩
    have hsl : s = bs l := by rw [← hl]; exact (bs_data s).symm
    rw [hl] at hsz
    subst hsl
    refine walk_of (bs l) (ansN (tokA l)) (ansL (tokA l)) (ansE (tokA l)) (ansF (tokA l)) (by have := tokA_len l; omega) w hV (fun wx hb => ?_) (fun wx hb => ?_)
    · exact (tokens_any l (by omega) wx (hV.held hb)).mono fun x w' hx => hx.gen
    · exact (rtokens_any one_first l (by omega) wx).mono fun x w' hx => hx.gen
set_option maxRecDepth 100000 in
theorem lifted (os : Os) (started : os.Started) (H : Type) (enc : TypeId × Value → H) :
    ReturnsInHanded {} Tryd.checked os 3 .any (fun w args => (Rows.tokenReadsSpec.pre enc Tryd.prog Tryd.f3 Rows.tokenReadsRow.domain false w args ∧ laidMetH Tryd.prog Rows.tokenReadsRow.laid w) ∧ sizedMet enc Tryd.prog Tryd.f3 (OpenSpec.ofChange Rows.tokenReadsSpec) false w args)
      (Rows.tokenReadsSpec.post enc Tryd.prog Tryd.f3 false true false false) := by
  refine handed_shaped_and (C := Tryd.checked) (X := fun w _ => laidMetH Tryd.prog Rows.tokenReadsRow.laid w) (fun _ _ _ hh h => h.of_heap hh) own started (by kernel_rfl) Tryd.func3
    (ChangeSpec.witness_shaped (enc := enc) (C := Tryd.checked) (os := os) (X := fun w _ => laidMetH Tryd.prog Rows.tokenReadsRow.laid w) false (World.laidAll Tryd.prog os Rows.tokenReadsRow.laid) #[.string ⟨#[]⟩] 8 (World.laidAll_os _ _ _)
      (World.shaped_of_ZipB (by kernel_rfl) (by kernel_rfl)) (by kernel_rfl) (by kernel_rfl) (by kernel_rfl)
      (by rw [MakeChecks.laidMetH_plain _ _ _ (by kernel_rfl)]; exact laidMet_laidAll _ (by kernel_rfl) (by kernel_rfl))) ?_
  intro W base args ds gs before hval0 hW hcnd hsz hL hsh _
  have hLib := lib_of hsh hL
  have hval : ∀ (j : Nat) t v, Tryd.f3.params[j]? = some t → args[j]? = some v → Value.okWide Tryd.prog W .any base t v := hval0
  have hW' := hW
  obtain ⟨p, q, hA0, hV, rfl, hfz, hnd⟩ := hW
  have hA : DataW.TrodAll enc Tryd.prog W 0 (fun _ => true) true Tryd.f3.params.toList args.toList ds p := hA0
  rw [Tryd.params3] at hA hval
  obtain ⟨rfl, rfl⟩ := trodVars_none hV
  clear hA0 hval0
  simp only [List.append_nil] at hW'
  have hlt := hW'.lt
  have hA1 := hA
  have hsz1 : (DataW.weightsEach Tryd.prog (Tryd.f3.params.toList ++ []) (ds ++ [])).all (· ≤ reachBytes) = true := hsz
  rw [Tryd.params3, List.append_nil, List.append_nil] at hsz1
  have hrd := rdg_all _ _ _ _ hA1 (fun n hn => by simpa using List.all_eq_true.1 hsz1 n hn)
  obtain ⟨v0, vs0, d0, ds0, p0, q0, hargs, rfl, rfl, h0, r0⟩ := trodAll_cons hA
  obtain ⟨rfl, rfl, rfl⟩ := trodAll_nil r0
  obtain rfl : args = #[v0] := by cases args; simp_all
  obtain ⟨a0, rfl, w0⟩ := rop_string Tryd.underlying9 (hval 0 9 v0 rfl rfl) (hrd 0 9 v0 rfl rfl)
  refine (walk a0 w0 W hLib).mono fun e W' ⟨he, bel⟩ => ?_
  subst he
  exact ⟨_, rfl, _, _, _, [], _, [], hW', trodAll_mk1 (shut_bool Tryd.underlying4 _), trodAll_below laidOut bel [9] _ _ _ (by kernel_rfl) hA1 hlt, rfl, bel.frame _, fun h => by cases h⟩
theorem over : Rows.TokenReadsSaid :=
  OpenClaim.holds_of_wide 3 Tryd.f3 rfl rfl rfl rfl rfl rfl rfl ⟨rfl, rfl, rfl, rfl, rfl⟩ rfl rfl rfl rfl rfl (by kernel_rfl) Tryd.func3 (by kernel_rfl)
    (of_decide_eq_true (by kernel_rfl)) (by unfold Func.isWrapper; first | (rw [if_pos (by decide +kernel)]; kernel_rfl) | (rw [if_neg (by decide +kernel)]; exact ⟨rfl, rfl⟩))
    (fun os started H enc _ => lifted os started H enc)
theorem proved : Rows.TokenReadsCardSaid :=
  Claim7.holds_tied_plain_at .later [] [.data, .data, .data, .data, .sentinel, .sentinel, .pinned] true (true, "c66cfda9486a50f7449a849e1e1cc8c622f171421fc2243bcef6e4990266e4b0") true
    over (fun _ h => by cases h) (by kernel_rfl) (fun _ h => by cases h) tokenReads_row_tie rfl ⟨rfl, rfl⟩ (by kernel_rfl) rfl
    (fun f fn hf hfn => by
      obtain rfl : f = 3 := Option.some.inj ((show Tryd.prog.funcNamed Rows.tokenReadsRow.func = some 3 by kernel_rfl).symm.trans hf) |>.symm
      obtain rfl : fn = Tryd.f3 := (Option.some.inj (Tryd.func3.symm.trans hfn)).symm
      exact ⟨by kernel_rfl, fun j t ht => by
        rw [Tryd.params3] at ht
        have hm : t ∈ [9] := by simpa using Array.mem_of_getElem? ht
        have hall : ([9].all fun u => !Tryd.prog.wantsStandIn u) = true := by kernel_rfl
        exact (show Tryd.prog.wantsStandIn t = false by simpa using List.all_eq_true.1 hall t hm)⟩)
    (by kernel_rfl)
#print axioms proved
end Go.Proofs.YtcdplpdgokhopaaDoor.tokenReads
