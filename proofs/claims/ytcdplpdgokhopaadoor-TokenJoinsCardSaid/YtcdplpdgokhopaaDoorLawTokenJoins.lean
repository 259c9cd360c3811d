/- TokenJoins: for every list of tokens and every text the law returns true, and its arguments read as before. No condition. -/
import Derived.Test.YtcdplpdgokhopaaDoorRdgSlice
import Derived.Test.YtcdplpdgokhopaaDoorTie
import Derived.Test.YtcdplpdgokhopaaDoorCards
import Derived.SevenTiedAt
import Derived.LaidMore
import Derived.Lay
import Derived.Stop.Joined
import Derived.Test.YtcdplpdgokhopaaDoorTokShape
import Derived.Test.YtcdplpdgokhopaaDoorTokAwake
namespace Go.Proofs.YtcdplpdgokhopaaDoor.tokenJoins
open Go.ChangeShapes Go.WideShapes Go.ChangeAt Go.RowKit
open Go.ChangeMaps (open_string shut_string)
set_option linter.unusedVariables false
def sumF (L : Nat → TkV) : Nat → Nat
  | 0 => 0
  | k + 1 => min (sumF L k + (L k).t.size) 1048576
theorem sumF_le (L : Nat → TkV) : ∀ k, sumF L k ≤ 1048576
  | 0 => Nat.zero_le _
  | k + 1 => Nat.min_le_right _ _
theorem sumF_each (L : Nat → TkV) : ∀ k, sumF L k ≤ 5000 → ∀ i, i < k → (L i).t.size ≤ 5000
  | 0, _, i, hi => by omega
  | k + 1, h, i, hi => by
    have h1 : min (sumF L k + (L k).t.size) 1048576 ≤ 5000 := h
    have h2 : sumF L k + (L k).t.size ≤ 5000 := by omega
    rcases Nat.lt_succ_iff_lt_or_eq.1 hi with h3 | h3
    · exact sumF_each L k (by omega) i h3
    · subst h3; omega
set_option maxRecDepth 100000 in
set_option maxHeartbeats 4000000 in
theorem walk_long (ao : Option Addr) (len cap : Nat) (s : ByteArray) (hlen : len ≤ maxLen) (hs : s.size ≤ maxLen) (w : World) (hV : LibAt w) (h : 200 < len ∨ 2000 < s.size) :
    Calls Tryd.prog 4 #[.slice ao len cap, .string s] w fun e w' => e = .returned (.bool true) ∧ Below w.heap.size w w' := by
  have HA := Lib.hid (awake_any w hV)
  have hlen' : len ≤ 9223372036854775807 := hlen
  have hs' : s.size ≤ 9223372036854775807 := hs
  by_cases h1 : (200 : Int) < (len : Int)
  · go_enter Tryd.func4, Tryd.ntmps4
    go_wp2_with (go_at_call 9; refine (HA.out).mono ?_; rintro e w1 ⟨rfl, hb⟩)
    go_ret
    exact ⟨rfl, hb⟩
  · have h2 : (2000 : Int) < (s.size : Int) := by rcases h with h | h <;> omega
    go_enter Tryd.func4, Tryd.ntmps4
    go_wp2_with (go_at_call 9; refine (HA.out).mono ?_; rintro e w1 ⟨rfl, hb⟩)
    go_ret
    exact ⟨rfl, hb⟩
set_option maxRecDepth 100000 in
set_option maxHeartbeats 4000000 in
theorem walk_short (ao : Option Addr) (len cap : Nat) (L : Nat → TkV) (s : ByteArray) (hlen : len ≤ 200) (hs : s.size ≤ 2000) (w : World) (H : ∀ i, i < len → TkAt w ao i (L i)) (hz : ∀ i, i < len → (L i).t.size ≤ 140737488351232) (hV : LibAt w) :
    Calls Tryd.prog 4 #[.slice ao len cap, .string s] w fun e w' => e = .returned (.bool true) ∧ Below w.heap.size w w' := by
  have HA := Lib.hid (fun wx (hb : Below w.heap.size w wx) => awake_any wx (hV.held hb))
  have HH := Lib.hid H
  have HZ := Lib.hid hz
  have HSL := Lib.hid (sumF_le L)
  have HJ := Lib.hid (fun (h : sumF L len ≤ 5000) => join_any ao len cap L (by omega) w H (fun i hi => by have := sumF_each L len h i hi; omega) hV)
  have HRJ := Lib.hid (fun (h : sumF L len ≤ 5000) wx (hb : Below w.heap.size w wx) => refJoin_any ao len cap L (by omega) wx (fun i hi => (H i hi).held hb) (fun i hi => by have := sumF_each L len h i hi; omega))
  have HQ := Lib.hid (fun wx (hb : Below w.heap.size w wx) => quote_any s (by omega) wx (hV.held hb))
  have HRQ := Lib.hid (fun wx => refQuote_any s (by omega) wx)
  obtain ⟨Q, hQ⟩ : ∃ Q, bs (quoteL s.data.toList) = Q := ⟨_, rfl⟩
  obtain ⟨J, hJ⟩ : ∃ J, bs (joinF L len) = J := ⟨_, rfl⟩
  rw [hQ] at HQ HRQ
  rw [hJ] at HJ HRJ
  have hml : s.size ≤ maxLen := by show s.size ≤ 9223372036854775807; omega
  have n1 : ¬ (200 : Int) < (len : Int) := by omega
  have n2 : ¬ (2000 : Int) < (s.size : Int) := by omega
  clear hQ hJ H hz hV
  go_enter Tryd.func4, Tryd.ntmps4
  go_wp2_with (fail)
  go_loopw [5, 6] (fun n i wr => ∃ j : Nat, j ≤ len ∧ i = .int .i64 j ∧ n = .int .i64 (sumF L j : Nat) ∧ wr = w) (fun _ i _ => len - (intOf i).toNat)
  case atStart => exact ⟨0, Nat.zero_le _, rfl, rfl, rfl⟩
  case round =>
    obtain ⟨j, hj, rfl, rfl, rfl⟩ := hrel
    have hle := HSL.out j
    by_cases hlt : j < len
    · have hx : sumF L (j + 1) = min (sumF L j + (L j).t.size) 1048576 := rfl
      have hzj := HZ.out j hlt
      obtain ⟨b, off, rfl, c0, c1, c2, c3⟩ := HH.out j hlt
      obtain ⟨z, hzz⟩ : ∃ z, (L j).t = z := ⟨_, rfl⟩
      rw [hzz] at hx c1 hzj
      obtain ⟨S, hS⟩ : ∃ S, sumF L j = S := ⟨_, rfl⟩
      rw [hS] at hx hle
      rw [hS]
      have hmz : z.size ≤ maxLen := by show z.size ≤ 9223372036854775807; omega
      clear hzz hS
      by_cases hc : S + z.size < 1048576
      · have HX := Lib.hid (show sumF L (j + 1) = S + z.size by rw [hx]; omega)
        have hci : (S : Int) + (z.size : Int) < 1048576 := by omega
        clear hx hc
        go_wp2_with (fail)
        all_goals
          first
          | (exfalso; omega)
          | (go_roundw
             case rel => exact ⟨j + 1, by omega, by go_num, by rw [HX.out]; first | (go_num; done) | (congr 1; omega) | (congr 1; push_cast; omega), by first | rfl | trivial⟩
             case measure => simp [intOf]; omega)
      · have HX := Lib.hid (show sumF L (j + 1) = 1048576 by rw [hx]; omega)
        have hci : ¬ (S : Int) + (z.size : Int) < 1048576 := by omega
        clear hx hc
        go_wp2_with (fail)
        all_goals
          first
          | (exfalso; omega)
          | (go_roundw
             case rel => exact ⟨j + 1, by omega, by go_num, by rw [HX.out]; first | rfl | (congr 1; omega), by first | rfl | trivial⟩
             case measure => simp [intOf]; omega)
    · obtain rfl : j = len := by omega
      have hJ := HJ.out
      have hRJ := HRJ.out
      obtain ⟨S, hS⟩ : ∃ S, sumF L j = S := ⟨_, rfl⟩
      rw [hS] at hJ hRJ hle
      rw [hS]
      clear hS
      by_cases hc : S ≤ 5000
      · have HJX := Lib.hid (hJ hc)
        have HRX := Lib.hid (hRJ hc)
        have hci : ¬ (5000 : Int) < (S : Int) := by omega
        clear hJ hRJ
        go_wp2_with (first
          | (go_at_call 10; refine (HJX.out).mono ?_; rintro e w1 ⟨rfl, hb1⟩; have HB1 := Lib.hid hb1; clear hb1)
          | (go_at_call 11; refine (HRX.out _ HB1.out).mono ?_; rintro e w2 ⟨rfl, rfl⟩)
          | (go_at_call 12; refine (HQ.out _ HB1.out).mono ?_; rintro e w3 ⟨rfl, hb3⟩; have HB3 := Lib.hid (onBelow HB1.out (Nat.le_refl _) hb3); clear hb3)
          | (go_at_call 13; refine (HRQ.out _).mono ?_; rintro e w4 ⟨rfl, rfl⟩)
          | (go_at_call 9; refine (HA.out _ HB3.out).mono ?_; rintro e w5 ⟨rfl, hb5⟩; have HB5 := Lib.hid (onBelow HB3.out (Nat.le_refl _) hb5); clear hb5))
        go_ret
        exact ⟨rfl, HB5.out⟩
      · have hci : (5000 : Int) < (S : Int) := by omega
        clear hJ hRJ
        go_wp2_with (first
          | (go_at_call 12; refine (HQ.out _ (Below.refl _ _)).mono ?_; rintro e w3 ⟨rfl, hb3⟩; have HB3 := Lib.hid hb3; clear hb3)
          | (go_at_call 13; refine (HRQ.out _).mono ?_; rintro e w4 ⟨rfl, rfl⟩)
          | (go_at_call 9; refine (HA.out _ HB3.out).mono ?_; rintro e w5 ⟨rfl, hb5⟩; have HB5 := Lib.hid (onBelow HB3.out (Nat.le_refl _) hb5); clear hb5))
        go_ret
        exact ⟨rfl, HB5.out⟩
theorem walk (ao : Option Addr) (len cap : Nat) (L : Nat → TkV) (s : ByteArray) (hlen : len ≤ maxLen) (hs : s.size ≤ 140737488351232) (w : World) (H : ∀ i, i < len → TkAt w ao i (L i)) (hz : ∀ i, i < len → (L i).t.size ≤ 140737488351232) (hV : LibAt w) :
    Calls Tryd.prog 4 #[.slice ao len cap, .string s] w fun e w' => e = .returned (.bool true) ∧ Below w.heap.size w w' := by
  by_cases h : 200 < len ∨ 2000 < s.size
  · exact walk_long ao len cap s hlen (by show s.size ≤ 9223372036854775807; omega) w hV h
  · exact walk_short ao len cap L s (by omega) (by omega) w H hz hV
set_option maxRecDepth 100000 in
theorem lifted (os : Os) (started : os.Started) (H : Type) (enc : TypeId × Value → H) :
    ReturnsInHanded {} Tryd.checked os 4 .any (fun w args => (Rows.tokenJoinsSpec.pre enc Tryd.prog Tryd.f4 Rows.tokenJoinsRow.domain false w args ∧ laidMetH Tryd.prog Rows.tokenJoinsRow.laid w) ∧ sizedMet enc Tryd.prog Tryd.f4 (OpenSpec.ofChange Rows.tokenJoinsSpec) false w args)
      (Rows.tokenJoinsSpec.post enc Tryd.prog Tryd.f4 false true false false) := by
  refine handed_shaped_and (C := Tryd.checked) (X := fun w _ => laidMetH Tryd.prog Rows.tokenJoinsRow.laid w) (fun _ _ _ hh h => h.of_heap hh) own started (by kernel_rfl) Tryd.func4
    (ChangeSpec.witness_shaped (enc := enc) (C := Tryd.checked) (os := os) (X := fun w _ => laidMetH Tryd.prog Rows.tokenJoinsRow.laid w) false (World.laidAll Tryd.prog os Rows.tokenJoinsRow.laid) #[.slice none 0 0, .string ⟨#[]⟩] 8 (World.laidAll_os _ _ _)
      (World.shaped_of_ZipB (by kernel_rfl) (by kernel_rfl)) (by kernel_rfl) (by kernel_rfl) (by kernel_rfl)
      (by rw [MakeChecks.laidMetH_plain _ _ _ (by kernel_rfl)]; exact laidMet_laidAll _ (by kernel_rfl) (by kernel_rfl))) ?_
  intro W base args ds gs before hval0 hW hcnd hsz hL hsh _
  have hLib := lib_of hsh hL
  have hval : ∀ (j : Nat) t v, Tryd.f4.params[j]? = some t → args[j]? = some v → Value.okWide Tryd.prog W .any base t v := hval0
  have hW' := hW
  obtain ⟨p, q, hA0, hV, rfl, hfz, hnd⟩ := hW
  have hA : DataW.TrodAll enc Tryd.prog W 0 (fun _ => true) true Tryd.f4.params.toList args.toList ds p := hA0
  rw [Tryd.params4] at hA hval
  obtain ⟨rfl, rfl⟩ := trodVars_none hV
  clear hA0 hval0
  simp only [List.append_nil] at hW'
  have hlt := hW'.lt
  have hA1 := hA
  have hsz1 : (DataW.weightsEach Tryd.prog (Tryd.f4.params.toList ++ []) (ds ++ [])).all (· ≤ reachBytes) = true := hsz
  rw [Tryd.params4, List.append_nil, List.append_nil] at hsz1
  have hrd := rdg_all _ _ _ _ hA1 (fun n hn => by simpa using List.all_eq_true.1 hsz1 n hn)
  obtain ⟨v0, vs0, d0, ds0, p0, q0, hargs, rfl, rfl, h0, r0⟩ := trodAll_cons hA
  obtain ⟨v1, vs1, d1, ds1, p1, q1, rfl, rfl, rfl, h1, r1⟩ := trodAll_cons r0
  obtain ⟨rfl, rfl, rfl⟩ := trodAll_nil r1
  obtain rfl : args = #[v0, v1] := by cases args; simp_all
  obtain ⟨a1, rfl, w1⟩ := rop_string Tryd.underlying9 (hval 1 9 v1 rfl rfl) (hrd 1 9 v1 rfl rfl)
  obtain ⟨ao, len, cap, L, rfl, hm, HL, hz⟩ := toks_of (rop_slice 4 Tryd.underlying22 (by kernel_rfl) (hval 0 22 v0 rfl rfl) (hrd 0 22 v0 rfl rfl))
  refine (walk ao len cap L a1 hm w1 W HL hz hLib).mono fun e W' ⟨he, bel⟩ => ?_
  subst he
  exact ⟨_, rfl, _, _, _, [], _, [], hW', trodAll_mk1 (shut_bool Tryd.underlying4 _), trodAll_below laidOut bel [22, 9] _ _ _ (by kernel_rfl) hA1 hlt, rfl, bel.frame _, fun h => by cases h⟩
theorem over : Rows.TokenJoinsSaid :=
  OpenClaim.holds_of_wide 4 Tryd.f4 rfl rfl rfl rfl rfl rfl rfl ⟨rfl, rfl, rfl, rfl, rfl⟩ rfl rfl rfl rfl rfl (by kernel_rfl) Tryd.func4 (by kernel_rfl)
    (of_decide_eq_true (by kernel_rfl)) (by unfold Func.isWrapper; first | (rw [if_pos (by decide +kernel)]; kernel_rfl) | (rw [if_neg (by decide +kernel)]; exact ⟨rfl, rfl⟩))
    (fun os started H enc _ => lifted os started H enc)
theorem proved : Rows.TokenJoinsCardSaid :=
  Claim7.holds_tied_plain_at .later [] [.data, .data, .data, .data, .sentinel, .sentinel, .pinned] true (true, "c66cfda9486a50f7449a849e1e1cc8c622f171421fc2243bcef6e4990266e4b0") true
    over (fun _ h => by cases h) (by kernel_rfl) (fun _ h => by cases h) tokenJoins_row_tie rfl ⟨rfl, rfl⟩ (by kernel_rfl) rfl
    (fun f fn hf hfn => by
      obtain rfl : f = 4 := Option.some.inj ((show Tryd.prog.funcNamed Rows.tokenJoinsRow.func = some 4 by kernel_rfl).symm.trans hf) |>.symm
      obtain rfl : fn = Tryd.f4 := (Option.some.inj (Tryd.func4.symm.trans hfn)).symm
      exact ⟨by kernel_rfl, fun j t ht => by
        rw [Tryd.params4] at ht
        have hm : t ∈ [22, 9] := by simpa using Array.mem_of_getElem? ht
        have hall : ([22, 9].all fun u => !Tryd.prog.wantsStandIn u) = true := by kernel_rfl
        exact (show Tryd.prog.wantsStandIn t = false by simpa using List.all_eq_true.1 hall t hm)⟩)
    (by kernel_rfl)
#print axioms proved
end Go.Proofs.YtcdplpdgokhopaaDoor.tokenJoins
