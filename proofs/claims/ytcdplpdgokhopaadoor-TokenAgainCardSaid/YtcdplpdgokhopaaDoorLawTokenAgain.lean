/- TokenAgain: for every text the law returns true, and its argument reads as before. No condition. -/
import Derived.Test.YtcdplpdgokhopaaDoorRdgSlice
import Derived.Test.YtcdplpdgokhopaaDoorTie
import Derived.Test.YtcdplpdgokhopaaDoorCards
import Derived.SevenTiedAt
import Derived.LaidMore
import Derived.Lay
import Derived.Stop.Joined
import Derived.Test.YtcdplpdgokhopaaDoorTokShape
import Derived.Test.YtcdplpdgokhopaaDoorTokAgV
import Derived.Test.YtcdplpdgokhopaaDoorTokSame
namespace Go.Proofs.YtcdplpdgokhopaaDoor.tokenAgain
open Go.ChangeShapes Go.WideShapes Go.ChangeAt Go.RowKit
open Go.ChangeMaps (open_string shut_string)
set_option linter.unusedVariables false
theorem walk (s : ByteArray) (hs : s.size ≤ 140737488351232) (w : World) (hV : LibAt w) :
    Calls Tryd.prog 5 #[.string s] w fun e w' => e = .returned (.bool true) ∧ Below w.heap.size w w' := by
  have hsz := Lib.size_eq s
  by_cases h : 256 < s.size
  · exact again_bad s 3 0 (by omega) (by omega) w hV hs (fun wx hb => (tokens_long s h (by omega) wx).mono fun x w' hx => ⟨none, 0, hx.1, hx.2⟩)
  · obtain ⟨l, hl⟩ : ∃ l, s.data.toList = l := ⟨_, rfl⟩
    have hsl : s = bs l := by rw [← hl]; exact (bs_data s).symm
    subst hsl
    have hbs := bs_size l
    have hll : l.length ≤ 256 := by omega
    cases ht : tokA l with
    | bad e a =>
      obtain ⟨he, ha⟩ := told_bad l e a hll ht
      exact again_bad (bs l) e a he (by omega) w hV hs (fun wx hb => (tokens_any l hll wx (hV.held hb)).mono fun x w' hx => by rw [ht] at hx; exact ⟨none, 0, hx.1, hx.2⟩)
    | good r =>
      obtain ⟨hTo, hor⟩ := told l r ht
      obtain ⟨N, hN⟩ : ∃ N, r.length = N + 1 := ⟨r.length - 1, by have := hTo.n1; omega⟩
      have hja := joinF_all r
      rw [hN] at hTo hja
      have h65 := hTo.n65
      have hjl := joinF_le (atV r) 256 (N + 1) hTo.sz (N + 1) (Nat.le_refl _)
      rw [hja] at hjl
      have hJs : (joinL r).length ≤ 33475 := by omega
      have hbj := bs_size (joinL r)
      have HT : ∀ wx, Below w.heap.size w wx → Calls Tryd.prog 6 #[.string (bs l)] wx fun x w' => ∃ ao ca, x = .returned (.tuple #[.slice ao (N + 1) ca, .agg #[.int .i64 0, .int .i64 0]]) ∧ (∀ i, i < N + 1 → TkAt w' ao i (atV r i)) ∧ Below wx.heap.size wx w' := fun wx hb => (tokens_any l hll wx (hV.held hb)).mono fun x w' hx => by
        rw [ht] at hx
        obtain ⟨⟨ao, ca, h1, h2⟩, h3⟩ := hx
        rw [hN] at h1 h2
        exact ⟨ao, ca, h1, h2, h3⟩
      have HJ : ∀ (ao : Option Addr) (ca : Nat) wx, Below w.heap.size w wx → (∀ i, i < N + 1 → TkAt wx ao i (atV r i)) → Calls Tryd.prog 10 #[.slice ao (N + 1) ca] wx fun e w' => e = .returned (.string (bs (joinL r))) ∧ Below wx.heap.size wx w' := fun ao ca wx hb H => by
        have h1 := join_any ao (N + 1) ca (atV r) (by omega) wx H (fun i hi => by have := hTo.sz i hi; omega) (hV.held hb)
        rw [hja] at h1
        exact h1
      have hTo2 : Told (atV r) (N + 1) (bs l).size := by rw [hbs]; exact hTo
      by_cases h2 : 256 < (joinL r).length
      · exact again_good (bs l) N (atV r) (atV r) (bs (joinL r)) hTo2 w hV (by omega) (by omega) HT HJ (.inl ⟨by omega, fun wx hb => (tokens_long (bs (joinL r)) (by omega) (by omega) wx).mono fun x w' hx => ⟨none, 0, hx.1, hx.2⟩⟩)
      · rcases hor with h3 | ⟨ys, hy, hk⟩
        · exact absurd h3 h2
        · obtain ⟨hyl, hyk⟩ := ktn_get hk
          have hyl : ys.length = N + 1 := by omega
          have hk1 : ∀ i, (atV ys i).k = (atV r i).k := fun i => congrArg (fun n : Nat => (n : Int)) (hyk i).1
          have hk2 : ∀ i, (atV ys i).t = (atV r i).t := fun i => congrArg bs (hyk i).2.1
          have hk3 : ∀ i, (atV ys i).n = (atV r i).n := fun i => congrArg (fun n : Nat => (n : Int)) (hyk i).2.2
          have hcg : joinF (atV ys) (N + 1) = joinL r := by rw [← hja]; exact joinF_congr _ _ _ (fun i _ => ⟨hk1 i, hk2 i⟩)
          refine again_good (bs l) N (atV r) (atV ys) (bs (joinL r)) hTo2 w hV (by omega) (by omega) HT HJ (.inr ⟨by omega, fun wx hb => ?_, fun ao bo ca cb wx g1 g2 => ?_, fun ao ca wx hb H => ?_⟩)
          · exact (tokens_any (joinL r) (by omega) wx (hV.held hb)).mono fun x w' hx => by
              rw [hy] at hx
              obtain ⟨⟨ao, ca, h1, h2⟩, h3⟩ := hx
              rw [hyl] at h1 h2
              exact ⟨ao, ca, h1, h2, h3⟩
          · exact same_any ao bo (N + 1) ca cb (atV r) (atV ys) false (by omega) wx g1 g2 (fun i _ => ⟨(hk1 i).symm, (hk2 i).symm, (hk3 i).symm, fun h => by cases h⟩)
          · have h1 := join_any ao (N + 1) ca (atV ys) (by omega) wx H (fun i hi => by rw [hk2 i]; have := hTo.sz i hi; omega) (hV.held hb)
            rw [hcg] at h1
            exact h1
set_option maxRecDepth 100000 in
theorem lifted (os : Os) (started : os.Started) (H : Type) (enc : TypeId × Value → H) :
    ReturnsInHanded {} Tryd.checked os 5 .any (fun w args => (Rows.tokenAgainSpec.pre enc Tryd.prog Tryd.f5 Rows.tokenAgainRow.domain false w args ∧ laidMetH Tryd.prog Rows.tokenAgainRow.laid w) ∧ sizedMet enc Tryd.prog Tryd.f5 (OpenSpec.ofChange Rows.tokenAgainSpec) false w args)
      (Rows.tokenAgainSpec.post enc Tryd.prog Tryd.f5 false true false false) := by
  refine handed_shaped_and (C := Tryd.checked) (X := fun w _ => laidMetH Tryd.prog Rows.tokenAgainRow.laid w) (fun _ _ _ hh h => h.of_heap hh) own started (by kernel_rfl) Tryd.func5
    (ChangeSpec.witness_shaped (enc := enc) (C := Tryd.checked) (os := os) (X := fun w _ => laidMetH Tryd.prog Rows.tokenAgainRow.laid w) false (World.laidAll Tryd.prog os Rows.tokenAgainRow.laid) #[.string ⟨#[]⟩] 8 (World.laidAll_os _ _ _)
      (World.shaped_of_ZipB (by kernel_rfl) (by kernel_rfl)) (by kernel_rfl) (by kernel_rfl) (by kernel_rfl)
      (by rw [MakeChecks.laidMetH_plain _ _ _ (by kernel_rfl)]; exact laidMet_laidAll _ (by kernel_rfl) (by kernel_rfl))) ?_
  intro W base args ds gs before hval0 hW hcnd hsz hL hsh _
  have hLib := lib_of hsh hL
  have hval : ∀ (j : Nat) t v, Tryd.f5.params[j]? = some t → args[j]? = some v → Value.okWide Tryd.prog W .any base t v := hval0
  have hW' := hW
  obtain ⟨p, q, hA0, hV, rfl, hfz, hnd⟩ := hW
  have hA : DataW.TrodAll enc Tryd.prog W 0 (fun _ => true) true Tryd.f5.params.toList args.toList ds p := hA0
  rw [Tryd.params5] at hA hval
  obtain ⟨rfl, rfl⟩ := trodVars_none hV
  clear hA0 hval0
  simp only [List.append_nil] at hW'
  have hlt := hW'.lt
  have hA1 := hA
  have hsz1 : (DataW.weightsEach Tryd.prog (Tryd.f5.params.toList ++ []) (ds ++ [])).all (· ≤ reachBytes) = true := hsz
  rw [Tryd.params5, List.append_nil, List.append_nil] at hsz1
  have hrd := rdg_all _ _ _ _ hA1 (fun n hn => by simpa using List.all_eq_true.1 hsz1 n hn)
  obtain ⟨v0, vs0, d0, ds0, p0, q0, hargs, rfl, rfl, h0, r0⟩ := trodAll_cons hA
  obtain ⟨rfl, rfl, rfl⟩ := trodAll_nil r0
  obtain rfl : args = #[v0] := by cases args; simp_all
  obtain ⟨a0, rfl, w0⟩ := rop_string Tryd.underlying9 (hval 0 9 v0 rfl rfl) (hrd 0 9 v0 rfl rfl)
  refine (walk a0 w0 W hLib).mono fun e W' ⟨he, bel⟩ => ?_
  subst he
  exact ⟨_, rfl, _, _, _, [], _, [], hW', trodAll_mk1 (shut_bool Tryd.underlying4 _), trodAll_below laidOut bel [9] _ _ _ (by kernel_rfl) hA1 hlt, rfl, bel.frame _, fun h => by cases h⟩
theorem over : Rows.TokenAgainSaid :=
  OpenClaim.holds_of_wide 5 Tryd.f5 rfl rfl rfl rfl rfl rfl rfl ⟨rfl, rfl, rfl, rfl, rfl⟩ rfl rfl rfl rfl rfl (by kernel_rfl) Tryd.func5 (by kernel_rfl)
    (of_decide_eq_true (by kernel_rfl)) (by unfold Func.isWrapper; first | (rw [if_pos (by decide +kernel)]; kernel_rfl) | (rw [if_neg (by decide +kernel)]; exact ⟨rfl, rfl⟩))
    (fun os started H enc _ => lifted os started H enc)
theorem proved : Rows.TokenAgainCardSaid :=
  Claim7.holds_tied_plain_at .later [] [.data, .data, .data, .data, .sentinel, .sentinel, .pinned] true (true, "c66cfda9486a50f7449a849e1e1cc8c622f171421fc2243bcef6e4990266e4b0") true
    over (fun _ h => by cases h) (by kernel_rfl) (fun _ h => by cases h) tokenAgain_row_tie rfl ⟨rfl, rfl⟩ (by kernel_rfl) rfl
    (fun f fn hf hfn => by
      obtain rfl : f = 5 := Option.some.inj ((show Tryd.prog.funcNamed Rows.tokenAgainRow.func = some 5 by kernel_rfl).symm.trans hf) |>.symm
      obtain rfl : fn = Tryd.f5 := (Option.some.inj (Tryd.func5.symm.trans hfn)).symm
      exact ⟨by kernel_rfl, fun j t ht => by
        rw [Tryd.params5] at ht
        have hm : t ∈ [9] := by simpa using Array.mem_of_getElem? ht
        have hall : ([9].all fun u => !Tryd.prog.wantsStandIn u) = true := by kernel_rfl
        exact (show Tryd.prog.wantsStandIn t = false by simpa using List.all_eq_true.1 hall t hm)⟩)
    (by kernel_rfl)
#print axioms proved
end Go.Proofs.YtcdplpdgokhopaaDoor.tokenAgain
