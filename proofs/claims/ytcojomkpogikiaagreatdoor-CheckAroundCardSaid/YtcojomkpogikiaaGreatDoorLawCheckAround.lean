/- CheckAround: for every list of types, type, tree and list of texts the law returns true, and its arguments read as before. No condition. -/
import Derived.Test.YtcojomkpogikiaaGreatDoorTie
import Derived.SevenTiedAt
import Derived.Lay
import Derived.Stop.Joined
import Derived.Test.YtcojomkpogikiaaGreatDoorA10
import Derived.Test.YtcojomkpogikiaaGreatDoorA46
import Derived.Test.YtcojomkpogikiaaGreatDoorA48
namespace Go.Proofs.YtcojomkpogikiaaGreatDoor.checkAround
open Go.ChangeShapes Go.WideShapes Go.ChangeAt Go.RowKit
open Go.ChangeMaps (open_string shut_string)
set_option linter.unusedVariables false
set_option linter.unusedSimpArgs false
theorem arr5c {cs : Array Value} (h : cs.size = 5) : ∃ a b c d e, cs = #[a, b, c, d, e] := by
  obtain ⟨l⟩ := cs
  match l, h with
  | [a, b, c, d, e], _ => exact ⟨a, b, c, d, e, rfl⟩
theorem psr_of {H : Type} {enc : TypeId × Value → H} {w : World} {v : Value} (h : v = .slice none 0 0 ∨ ∃ (a : Addr) (len cap : Nat), v = .slice (some a) len cap ∧ len ≤ cap ∧ cap ≤ maxLen ∧ cap * Tryz.prog.bytesOf 9 ≤ 140737488351232 ∧
      ∀ i, i < cap → ∃ c : List Value, w.cells? 0 (a.add (i * 1)) 1 = some c ∧ Rdg enc Tryz.prog w 9 c) :
    ∃ (pa : Option Addr) (pn pc : Nat) (P : Nat → List UInt8), v = .slice pa pn pc ∧ pn ≤ pc ∧ pn ≤ 140737488351232 ∧ PsR w pa pn P := by
  rcases h with rfl | ⟨a, len, cap, rfl, hl, hm, hby, hx⟩
  · exact ⟨none, 0, 0, fun _ => [], rfl, Nat.le_refl _, Nat.zero_le _, fun i hi => absurd hi (Nat.not_lt_zero i)⟩
  · have hq : ∀ i, i < len → ∃ p : List UInt8, p.length ≤ 140737488351232 ∧ ∃ b off, some a = some (⟨b, off, none⟩ : Addr) ∧ w.cell? ⟨b, off + i, none⟩ = some (.string (bs p)) := by
      intro i hi
      obtain ⟨b, off, rfl, hc⟩ := slice_at (by omega) (by omega) hx
      obtain ⟨c, hcl, hat, hr⟩ := hc i (by omega)
      obtain ⟨x0, e0, w0⟩ := rdg_string Tryz.underlying9 hr
      match c, hcl with
      | [c0], _ =>
        simp at e0
        subst e0
        have hb : bs x0.data.toList = x0 := by cases x0; rfl
        refine ⟨x0.data.toList, ?_, b, off, rfl, ?_⟩
        · have := bs_size x0.data.toList
          rw [hb] at this
          omega
        · rw [hb]
          simpa using hat 0 (by omega)
    have hne : Inhabited (List UInt8) := ⟨[]⟩
    obtain ⟨L, hL⟩ : ∃ L : Nat → List UInt8, ∀ i, i < len → (L i).length ≤ 140737488351232 ∧ ∃ b off, some a = some (⟨b, off, none⟩ : Addr) ∧ w.cell? ⟨b, off + i, none⟩ = some (.string (bs (L i))) := by
      classical
      refine ⟨fun i => if h : i < len then Classical.choose (hq i h) else [], fun i hi => ?_⟩
      simp only [dif_pos hi]
      exact Classical.choose_spec (hq i hi)
    refine ⟨some a, len, cap, L, rfl, hl, ?_, hL⟩
    have hz : Tryz.prog.bytesOf 9 = 16 := by kernel_rfl
    rw [hz] at hby
    omega
set_option maxRecDepth 100000 in
theorem lifted (os : Os) (started : os.Started) (H : Type) (enc : TypeId × Value → H) :
    ReturnsInHanded {} Tryz.checked os 6 .any (fun w args => (Rows.checkAroundSpec.pre enc Tryz.prog Tryz.f6 Rows.checkAroundRow.domain false w args ∧ laidMetH Tryz.prog Rows.checkAroundRow.laid w) ∧ sizedMet enc Tryz.prog Tryz.f6 (OpenSpec.ofChange Rows.checkAroundSpec) false w args)
      (Rows.checkAroundSpec.post enc Tryz.prog Tryz.f6 false true false false) := by
  refine handed_shaped_and (C := Tryz.checked) (X := fun w _ => laidMetH Tryz.prog Rows.checkAroundRow.laid w) (fun _ _ _ hh h => h.of_heap hh) own started (by kernel_rfl) Tryz.func6
    (ChangeSpec.witness_shaped (enc := enc) (C := Tryz.checked) (os := os) (X := fun w _ => laidMetH Tryz.prog Rows.checkAroundRow.laid w) false (World.laidAll Tryz.prog os Rows.checkAroundRow.laid) #[.slice none 0 0, .int .i64 0, .agg #[.int .i64 0, .int .i64 0, .slice none 0 0, .slice none 0 0, .slice none 0 0]] 8 (World.laidAll_os _ _ _)
      (World.shaped_of_ZipB (by kernel_rfl) (by kernel_rfl)) (by kernel_rfl) (by kernel_rfl) (by kernel_rfl)
      (by rw [MakeChecks.laidMetH_plain _ _ _ (by kernel_rfl)]; exact laidMet_laidAll _ (by kernel_rfl) (by kernel_rfl))) ?_
  intro W base args ds gs before hval0 hW hcnd hsz hL hsh _
  have hLib := lib_of hsh hL
  have hval : ∀ (j : Nat) t v, Tryz.f6.params[j]? = some t → args[j]? = some v → Value.okWide Tryz.prog W .any base t v := hval0
  have hW' := hW
  obtain ⟨p, q, hA0, hV, rfl, hfz, hnd⟩ := hW
  have hA : DataW.TrodAll enc Tryz.prog W 0 (fun _ => true) true Tryz.f6.params.toList args.toList ds p := hA0
  rw [Tryz.params6] at hA hval
  obtain ⟨rfl, rfl⟩ := trodVars_none hV
  clear hA0 hval0
  simp only [List.append_nil] at hW'
  have hlt := hW'.lt
  have hA1 := hA
  have hsz1 : (DataW.weightsEach Tryz.prog (Tryz.f6.params.toList ++ []) (ds ++ [])).all (· ≤ reachBytes) = true := hsz
  rw [Tryz.params6, List.append_nil, List.append_nil] at hsz1
  have hrd := rdg_all _ _ _ _ hA1 (fun n hn => by simpa using List.all_eq_true.1 hsz1 n hn)
  obtain ⟨v0, vs0, d0, ds0, p0, q0, hargs, rfl, rfl, h0, r0⟩ := trodAll_cons hA
  obtain ⟨v1, vs1, d1, ds1, p1, q1, rfl, rfl, rfl, h1, r1⟩ := trodAll_cons r0
  obtain ⟨v2, vs2, d2, ds2, p2, q2, rfl, rfl, rfl, h2, r2⟩ := trodAll_cons r1
  obtain ⟨rfl, rfl, rfl⟩ := trodAll_nil r2
  obtain rfl : args = #[v0, v1, v2] := by cases args; simp_all
  obtain ⟨a1, rfl, w1⟩ := rop_int Tryz.underlying3 (hval 1 3 v1 rfl rfl) (hrd 1 3 v1 rfl rfl)
  have g2 := hrd 2 47 v2 rfl rfl
  obtain ⟨cs2, rfl, hz2⟩ := ok_agg (by first | exact .inl ⟨_, Tryz.underlying47⟩ | exact .inr ⟨_, _, Tryz.underlying47⟩) (hval 2 47 v2 rfl rfl)
  obtain ⟨ao, len, cap, L, rfl, hcap, hm, hcp, H⟩ := Pa.types_of3 (rop_slice 6 Tryz.underlying22 (by kernel_rfl) (hval 0 22 v0 rfl rfl) (hrd 0 22 v0 rfl rfl))
  obtain ⟨y0, y1, y2, y3, y4, rfl⟩ := arr5c (hz2.trans (by kernel_rfl))
  have s0 := rdg_field Tryz.underlying47 g2 0 26 0 4 rfl (by kernel_rfl)
  have s1 := rdg_field Tryz.underlying47 g2 1 33 4 1 rfl (by kernel_rfl)
  obtain ⟨T, hT, HT, HX⟩ := x_of (cs := #[y0, y1, y2, y3]) ((rfl : (#[y0, y1, y2, y3] : Array Value).size = 4).trans (by kernel_rfl)) (by simpa [Value.cells] using s0)
  injection hT with hT
  simp only [Array.mk.injEq, List.cons.injEq, and_true] at hT
  obtain ⟨rfl, rfl, rfl, rfl⟩ := hT
  have hv4 : y4 = .slice none 0 0 ∨ ∃ (a : Addr) (len cap : Nat), y4 = .slice (some a) len cap ∧ len ≤ cap ∧ cap ≤ maxLen ∧ cap * Tryz.prog.bytesOf 9 ≤ 140737488351232 ∧
      ∀ i, i < cap → ∃ c : List Value, W.cells? 0 (a.add (i * 1)) 1 = some c ∧ Rdg enc Tryz.prog W 9 c := by
    rcases rdg_slice 1 Tryz.underlying33 (by kernel_rfl) (show Rdg enc Tryz.prog W 33 [y4] by simpa [Value.cells] using s1) with e | ⟨a, l, c, e, h⟩
    · injection e with e; exact .inl e
    · injection e with e; exact .inr ⟨a, l, c, e, h⟩
  obtain ⟨pa, pn, pc, P, rfl, hpc, hpl, HP⟩ := psr_of hv4
  refine (around18 checkC cbindC _ L ao len cap a1 P pa pn pc T W hm hcap H hcp hpl hpc HP HT HX hLib).mono fun e W' ⟨he, bel⟩ => ?_
  subst he
  exact ⟨_, rfl, _, _, _, [], _, [], hW', trodAll_mk1 (shut_bool Tryz.underlying4 _), trodAll_below laidOut bel [22, 3, 47] _ _ _ (by kernel_rfl) hA1 hlt, rfl, bel.frame _, fun h => by cases h⟩
theorem over : Rows.CheckAroundSaid :=
  OpenClaim.holds_of_wide 6 Tryz.f6 rfl rfl rfl rfl rfl rfl rfl ⟨rfl, rfl, rfl, rfl, rfl⟩ rfl rfl rfl rfl rfl (by kernel_rfl) Tryz.func6 (by kernel_rfl)
    (of_decide_eq_true (by kernel_rfl)) (by unfold Func.isWrapper; first | (rw [if_pos (by decide +kernel)]; kernel_rfl) | (rw [if_neg (by decide +kernel)]; exact ⟨rfl, rfl⟩))
    (fun os started H enc _ => lifted os started H enc)
theorem proved : Rows.CheckAroundCardSaid :=
  Claim7.holds_tied_plain_at .later [] [.data, .data, .data, .data, .sentinel, .sentinel, .pinned] true (true, "600ef41c505ea5f637b4f9fa150e486597b7a32cb2d19977d3521876672bf3af") true
    over (fun _ h => by cases h) (by kernel_rfl) (fun _ h => by cases h) checkAround_row_tie rfl ⟨rfl, rfl⟩ (by kernel_rfl) rfl
    (fun f fn hf hfn => by
      obtain rfl : f = 6 := Option.some.inj ((show Tryz.prog.funcNamed Rows.checkAroundRow.func = some 6 by kernel_rfl).symm.trans hf) |>.symm
      obtain rfl : fn = Tryz.f6 := (Option.some.inj (Tryz.func6.symm.trans hfn)).symm
      exact ⟨by kernel_rfl, fun j t ht => by
        rw [Tryz.params6] at ht
        have hm : t ∈ [22, 3, 47] := by simpa using Array.mem_of_getElem? ht
        have hall : ([22, 3, 47].all fun u => !Tryz.prog.wantsStandIn u) = true := by kernel_rfl
        exact (show Tryz.prog.wantsStandIn t = false by simpa using List.all_eq_true.1 hall t hm)⟩)
    (by kernel_rfl)
#print axioms proved
end Go.Proofs.YtcojomkpogikiaaGreatDoor.checkAround
