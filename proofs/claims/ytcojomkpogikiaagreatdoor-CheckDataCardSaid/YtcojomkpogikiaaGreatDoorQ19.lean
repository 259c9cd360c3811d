/- Contract of chapter 6's reference: one. -/
import Derived.Test.YtcojomkpogikiaaGreatDoorQ18
import Derived.Test.YtcojomkpogikiaaGreatDoorQ22
namespace Go.Proofs.YtcojomkpogikiaaGreatDoor.Pa
open Go.RowKit
set_option linter.unusedVariables false
def kindBad (T : TypeV) : Bool := decide (T.kind < 1) || decide (14 < T.kind)
def bndR (T : TypeV) : Bool := (T.kind == 10 && decide (T.bound < 0)) || ((T.kind == 11 || T.kind == 12) && decide (T.bound < 1)) || decide (64 < T.bound)
def partOut (at' : Nat) (p : Int) : Bool := decide (p < 0) || decide ((at' : Int) ≤ p)
def orderR (T : TypeV) (at' : Nat) : Bool := hasB (fun j => partOut at' ((partsL T).getD j 0)) (partsL T).length
def tagR (L : Nat → TypeV) (T : TypeV) : Bool := T.kind == 14 && !numK (L T.tag.toNat).kind
def oneT (L : Nat → TypeV) (len at' : Nat) (T : TypeV) : Int :=
  if kindBad T then 4 else if moreB T then 1 else if namedK T.kind && !nameS T.name then 5 else if namedK T.kind && nameTw L T at' then 6 else if bndR T then 7 else if orderR T at' then 14
  else if tagR L T then 8 else if namedK T.kind && decide (T.ilen = 0) then 18 else if 16 < T.ilen then 3 else if firstE (itemE L T) T.ilen ≠ 0 then firstE (itemE L T) T.ilen else if 6 < deepL L len (at' : Nat) then 9 else 0
def oneR (L : Nat → TypeV) (len at' : Nat) : Int := oneT L len at' (L at')
theorem order_in {T : TypeV} {at' : Nat} (h : orderR T at' = false) (p : Int) (hp : p ∈ partsL T) : 0 ≤ p ∧ p < at' := by
  obtain ⟨j, hj, he⟩ := List.getElem_of_mem hp
  cases hq : partOut at' ((partsL T).getD j 0) with
  | true =>
    have := hasB_some (p := fun j => partOut at' ((partsL T).getD j 0)) hj hq
    unfold orderR at h
    rw [h] at this; cases this
  | false =>
    rw [List.getD_eq_getElem?_getD, List.getElem?_eq_getElem hj] at hq
    simp only [Option.getD_some] at hq
    rw [he] at hq
    unfold partOut at hq
    simp at hq
    omega
theorem tag_in {T : TypeV} {at' : Nat} (h : orderR T at' = false) (hk : (T.kind == 14) = true) : 0 ≤ T.tag ∧ T.tag < at' :=
  order_in h T.tag (by rw [partsL_union (by simpa using hk)]; exact List.mem_cons_self)
theorem type_in {T : TypeV} {at' : Nat} (h : orderR T at' = false) (hk : T.kind = 13 ∨ T.kind = 14) {j : Nat} (hj : j < T.ilen) : 0 ≤ (T.items j).type ∧ (T.items j).type < at' := by
  refine order_in h _ ?_
  have hm : (T.items j).type ∈ (List.range T.ilen).map fun j => (T.items j).type := List.mem_map.2 ⟨j, List.mem_range.2 hj, rfl⟩
  rcases hk with hk | hk
  · rw [partsL_struct hk]; exact hm
  · rw [partsL_union hk]; exact List.mem_cons_of_mem _ hm
theorem named_of {T : TypeV} (h : moreB T = false) {j : Nat} (hj : j < T.ilen) : namedK T.kind = true := by
  unfold moreB c1B at h
  rw [Bool.or_eq_false_iff, Bool.or_eq_false_iff, Bool.or_eq_false_iff] at h
  have h2 := h.1.1.2
  rw [decide_eq_true (show 0 < T.ilen by omega)] at h2
  simpa using h2
theorem named_cases {k : Int} (h : namedK k = true) : k = 9 ∨ k = 13 ∨ k = 14 := by
  unfold namedK at h; simp at h; omega
theorem tag_for {T : TypeV} {at' len : Nat} (h : moreB T = false) (ho : orderR T at' = false) (hat : at' < len) {j : Nat} (hj : j < T.ilen) : T.kind = 13 ∨ T.kind = 9 ∨ (0 ≤ T.tag ∧ T.tag < len) := by
  rcases named_cases (named_of h hj) with h | h | h
  · exact .inr (.inl h)
  · exact .inl h
  · have := tag_in ho (by simpa using h); exact .inr (.inr (by omega))
theorem BoxT.drewN {g : Nat} {T : TypeV} {w0 w : World} (h : BoxT g T w0 w) (m : Nat) : BoxT g T w0 (w.drewN m) := h.keep (drewN_below (Below.refl _ _) m)
set_option maxRecDepth 100000 in
set_option maxHeartbeats 8000000 in
theorem refOne_any (ao : Option Addr) (len cap : Nat) (L : Nat → TypeV) (hlen : len ≤ 1000000) (at' : Nat) (hat : at' < len) (w : World) (H : ∀ i, i < len → TypeAt w ao i (L i)) :
    Calls Tryz.prog 44 #[.slice ao len cap, .int .i64 at'] w fun e w' => e = .returned (.int .i64 (oneR L len at')) ∧ Below w.heap.size w w' := by
  have HH := Lib.hid H
  obtain ⟨b, off, hao, x0, x1, x2, x3, x4, x5, wf, hit⟩ := H at' hat
  subst hao
  have hbl : b < w.heap.size := World.block_lt_of_cell? w _ x0
  have hne : ¬ b = w.heap.size := by omega
  obtain ⟨R, hR⟩ : ∃ R, oneR L len at' = R := ⟨_, rfl⟩
  rw [hR]
  have HR := Lib.hid hR
  obtain ⟨T, hT⟩ : ∃ T, L at' = T := ⟨_, rfl⟩
  have HE := Lib.hid (show oneT L len at' T = R by rw [← hR, ← hT]; rfl)
  rw [hT] at x0 x1 x2 x3 x4 x5 wf hit
  have HT := Lib.hid hT
  have HI := Lib.hid hit
  have HB := Lib.hid (BoxT.start T w)
  clear hR hT H hit
  go_enter Tryz.func44, Tryz.ntmps44
  go_upto_region 2 with (fail)
  have hb0 : typO T = (.cells #[.int .i64 T.kind, .string T.name, .int .i64 T.bound, .int .i64 T.of, .int .i64 T.tag, .slice T.ia T.ilen T.icap] 52) := rfl
  rw [← hb0]
  clear hb0 x0 x1 x2 x3 x4 x5 hbl hne
  generalize w.alloc (typO T) = W0 at *
  obtain ⟨d0, d1, d2, d3, d4, d5⟩ := HB.out.cells
  cases h1 : kindBad T with
  | true =>
    have HF := Lib.hid (show R = 4 by rw [← HE.out]; unfold oneT; rw [h1]; rfl)
    by_cases hk : T.kind < 1
    · go_wp2
      go_ret
      exact ⟨ret_i HF.out.symm, HB.out.2⟩
    · have hk2 : 14 < T.kind := by unfold kindBad at h1; rw [decide_eq_false hk] at h1; simpa using h1
      go_wp2
      go_ret
      exact ⟨ret_i HF.out.symm, HB.out.2⟩
  | false =>
    have hk1 : ¬ T.kind < 1 := by intro h; unfold kindBad at h1; rw [decide_eq_true h] at h1; simp at h1
    have hk2 : ¬ 14 < T.kind := by intro h; unfold kindBad at h1; rw [decide_eq_true h] at h1; simp at h1
    have HM := Lib.hid (refMore_any T W0 (HI.out.held HB.out.2))
    have hm := HM.out
    unfold typV at hm
    cases h2 : moreB T with
    | true =>
      rw [h2] at hm
      have HM := Lib.hid hm
      have HF := Lib.hid (show R = 1 by rw [← HE.out]; unfold oneT; rw [h1, h2]; rfl)
      clear hm h1 h2
      go_wp2_with (go_at_call 82; refine (HM.out).mono ?_; rintro e w2 ⟨rfl, hb2⟩; have HB2 := Lib.hid (HB.out.keep hb2); clear hb2)
      go_ret
      exact ⟨ret_i HF.out.symm, HB2.out.2⟩
    | false =>
      rw [h2] at hm
      have HM := Lib.hid hm
      clear hm
      have hE2 := HE.out
      unfold oneT at hE2
      rw [h1, h2] at hE2
      simp only [Bool.false_eq_true, if_false] at hE2
      have HE := Lib.hid hE2
      have HC1 := Lib.hid h2
      clear hE2 h1 h2
      go_upto_region 6 with (go_at_call 82; refine (HM.out).mono ?_; rintro e w2 ⟨rfl, hb2⟩; have HB2 := Lib.hid (HB.out.keep hb2); clear hb2)
      clear d0 d1 d2 d3 d4 d5 HM HB
      obtain ⟨d0, d1, d2, d3, d4, d5⟩ := HB2.out.cells
      go_upto_if 27 with (go_at_call 60; refine (refNamed_any _ _).mono ?_; rintro e w' ⟨rfl, rfl⟩)
      go_cut [] (fun wx => Hid (BoxT w.heap.size T w wx) ∧ Hid ((namedK T.kind && !nameS T.name) = false ∧ (namedK T.kind && nameTw L T at') = false))
      case first =>
        cases hn : namedK T.kind with
        | false =>
          go_wp2
          go_meet
          exact ⟨HB2, Lib.hid ⟨by rw [hn]; rfl, by rw [hn]; rfl⟩⟩
        | true =>
          have hnm := fun w => refName_any T.name (Nat.le_trans wf.2.2.2.2 (by decide)) w
          cases hs : nameS T.name with
          | false =>
            rw [hs] at hnm
            have HN := Lib.hid hnm
            have HF := Lib.hid (show R = 5 by rw [← HE.out, hn, hs]; rfl)
            clear hnm hs
            go_wp2_with (go_at_call 83; refine (HN.out _).mono ?_; rintro e w3 ⟨rfl, hb3⟩; have HB3 := Lib.hid (HB2.out.keep hb3); clear hb3)
            go_ret
            exact ⟨ret_i HF.out.symm, HB3.out.2⟩
          | true =>
            rw [hs] at hnm
            have HN := Lib.hid hnm
            clear hnm
            go_wp2_with (go_at_call 83; refine (HN.out _).mono ?_; rintro e w3 ⟨rfl, hb3⟩; have HB3 := Lib.hid (HB2.out.keep hb3); clear hb3)
            clear d0 d1 d2 d3 d4 d5
            go_loopw [6] (fun i wr => ∃ j : Nat, j ≤ at' ∧ i = .int .i64 j ∧ Hid (∀ m, m < j → ((L m).name.toList == T.name.toList) = false) ∧ Hid (BoxT w.heap.size T w wr)) (fun i _ => at' - (intOf i).toNat)
            case atStart => exact ⟨0, Nat.zero_le _, rfl, Lib.hid (fun m hm => absurd hm (Nat.not_lt_zero _)), HB3⟩
            case round =>
              obtain ⟨j, hj, rfl, HFN, HBr⟩ := hrel
              by_cases hlt : j < at'
              · obtain ⟨b', off', ha, x0, x1, x2, x3, x4, x5, wf', _⟩ := (HH.out j (by omega)).held (w1 := wr) HBr.out.2
                cases ha
                obtain ⟨d0, d1, d2, d3, d4, d5⟩ := HBr.out.cells
                have hll : j < len := by omega
                cases hq : ((L j).name.toList == T.name.toList) with
                | true =>
                  have HTW := Lib.hid (show nameTw L T at' = true from hasB_some (p := fun i => (L i).name.toList == T.name.toList) hlt hq)
                  have HF := Lib.hid (show R = 6 by rw [← HE.out, hn, hs, HTW.out]; rfl)
                  go_upto_region 12 with (fail)
                  go_wp2_with fail
                  go_big_quiet (fail)
                  go_wp2
                  go_ret
                  exact ⟨ret_i HF.out.symm, (HBr.out.drewN _).2⟩
                | false =>
                  have HF2 := Lib.hid (none_next (p := fun i => (L i).name.toList == T.name.toList) HFN.out hq)
                  go_upto_region 12 with (fail)
                  go_wp2_with fail
                  go_big_quiet (fail)
                  go_wp2
                  go_roundw
                  case rel => exact ⟨j + 1, by omega, by go_num, HF2, Lib.hid (HBr.out.drewN _)⟩
                  case measure => simp [intOf]; omega
              · obtain rfl : j = at' := by omega
                have HTW := Lib.hid (show nameTw L T j = false from hasB_none (p := fun i => (L i).name.toList == T.name.toList) HFN.out)
                go_wp2
                go_meet
                exact ⟨HBr, Lib.hid ⟨by rw [hs, hn]; rfl, by rw [HTW.out, hn]; rfl⟩⟩
      case rest =>
        obtain ⟨HB3, HN3⟩ := hcut
        have hE3 := HE.out
        rw [HN3.out.1, HN3.out.2] at hE3
        simp only [Bool.false_eq_true, if_false] at hE3
        have HE := Lib.hid hE3
        clear hE3
        obtain ⟨d0, d1, d2, d3, d4, d5⟩ := HB3.out.cells
        go_upto_region 14 with (fail)
        go_cut [72] (fun t wx => t = .bool (bndR T) ∧ wc = wx)
        case first =>
          have H3 := Lib.hid (show bndR T = ((T.kind == 10 && decide (T.bound < 0)) || ((T.kind == 11 || T.kind == 12) && decide (T.bound < 1)) || decide (64 < T.bound)) from rfl)
          obtain ⟨b1, hb1⟩ : ∃ b, (T.kind == 10) = b := ⟨_, rfl⟩
          obtain ⟨b2, hb2⟩ : ∃ b, decide (T.bound < 0) = b := ⟨_, rfl⟩
          obtain ⟨b3, hb3⟩ : ∃ b, (T.kind == 11) = b := ⟨_, rfl⟩
          obtain ⟨b4, hb4⟩ : ∃ b, (T.kind == 12) = b := ⟨_, rfl⟩
          obtain ⟨b5, hb5⟩ : ∃ b, decide (T.bound < 1) = b := ⟨_, rfl⟩
          obtain ⟨b6, hb6⟩ : ∃ b, decide (64 < T.bound) = b := ⟨_, rfl⟩
          have H4 := Lib.hid (H3.out.trans (by rw [hb1, hb2, hb3, hb4, hb5, hb6] : _ = ((b1 && b2) || ((b3 || b4) && b5) || b6)))
          clear H3
          go_wp2
          all_goals
            go_meet
            exact ⟨by rw [H4.out]; simp_all, by first | rfl | trivial⟩
        case rest =>
          obtain ⟨rfl, rfl⟩ := hcut
          cases h7 : bndR T with
          | true =>
            have HF := Lib.hid (show R = 7 by rw [← HE.out, h7]; rfl)
            go_wp2
            go_ret
            exact ⟨ret_i HF.out.symm, HB3.out.2⟩
          | false =>
            go_upto_region 16 with (fail)
            have hE4 := HE.out
            rw [h7] at hE4
            simp only [Bool.false_eq_true, if_false] at hE4
            have HE := Lib.hid hE4
            clear hE4 h7
            have hll := partsL_len HI.out.1
            have hcall := refParts_any T wc (HI.out.held HB3.out.2)
            unfold typV at hcall
            obtain ⟨l, hl⟩ : ∃ l, partsL T = l := ⟨_, rfl⟩
            rw [hl] at hcall hll
            have HC := Lib.hid hcall
            have HPL := Lib.hid hl
            clear hcall hl
            go_upto_region 18 with (go_at_call 84; refine (HC.out).mono ?_; rintro e w4 ⟨v, rfl, hown, hb4⟩; obtain ⟨va, vc, rfl, hva⟩ := row_form hown; have HV := Lib.hid hva; have HO := Lib.hid hown; have HB4 := Lib.hid (HB3.out.keep hb4); clear hown hva hb4)
            clear d0 d1 d2 d3 d4 d5 HC
            go_loopw [8] (fun i wr => ∃ j : Nat, j ≤ l.length ∧ i = .int .i64 j ∧ Hid (∀ m, m < j → partOut at' (l.getD m 0) = false) ∧ wr = w4) (fun i _ => l.length - (intOf i).toNat)
            case atStart => exact ⟨0, Nat.zero_le _, rfl, Lib.hid (fun m hm => absurd hm (Nat.not_lt_zero _)), rfl⟩
            case round =>
              obtain ⟨j, hj, rfl, HFN, rfl⟩ := hrel
              by_cases hlt : j < l.length
              · obtain ⟨g', rfl⟩ := HV.out (by omega)
                have c := cell_int HO.out j hlt
                obtain ⟨p, hp⟩ : ∃ p, l.getD j 0 = p := ⟨_, rfl⟩
                rw [hp] at c
                cases hq : partOut at' p with
                | true =>
                  have HOR := Lib.hid (show orderR T at' = true by unfold orderR; rw [HPL.out]; exact hasB_some (p := fun j => partOut at' (l.getD j 0)) hlt (by show partOut at' (l.getD j 0) = true; rw [hp]; exact hq))
                  have HF := Lib.hid (show R = 14 by rw [← HE.out, HOR.out]; rfl)
                  clear hp
                  by_cases hneg : p < 0
                  · have t1 : decide (p < 0) = true := by simpa using hneg
                    clear hneg
                    go_wp2
                    go_ret
                    exact ⟨ret_i HF.out.symm, HB4.out.2⟩
                  · have t1 : decide (p < 0) = false := by simpa using hneg
                    have t2 : decide ((at' : Int) ≤ p) = true := by unfold partOut at hq; rw [t1] at hq; simpa using hq
                    clear hneg
                    go_wp2
                    go_ret
                    exact ⟨ret_i HF.out.symm, HB4.out.2⟩
                | false =>
                  have HF2 := Lib.hid (none_next (p := fun m => partOut at' (l.getD m 0)) HFN.out (by show partOut at' (l.getD j 0) = false; rw [hp]; exact hq))
                  clear hp
                  have hq2 := hq
                  unfold partOut at hq2
                  rw [Bool.or_eq_false_iff] at hq2
                  obtain ⟨t1, t2⟩ := hq2
                  clear hq
                  go_wp2
                  go_roundw
                  case rel => exact ⟨j + 1, by omega, by go_num, HF2, by first | rfl | trivial⟩
                  case measure => simp [intOf]; omega
              · obtain rfl : j = l.length := by omega
                have HOR := Lib.hid (show orderR T at' = false by unfold orderR; rw [HPL.out]; exact hasB_none (p := fun j => partOut at' (l.getD j 0)) HFN.out)
                have hE5 := HE.out
                rw [HOR.out] at hE5
                simp only [Bool.false_eq_true, if_false] at hE5
                have HE := Lib.hid hE5
                clear hE5
                obtain ⟨d0, d1, d2, d3, d4, d5⟩ := HB4.out.cells
                go_upto_region 22 with (fail)
                clear HV HO HPL hll
                go_cut [106] (fun t wx => t = .bool (tagR L T) ∧ wr = wx)
                case first =>
                  cases k14 : (T.kind == 14) with
                  | false =>
                    have H1 := Lib.hid (show tagR L T = false by unfold tagR; rw [k14]; rfl)
                    go_wp2
                    go_meet
                    exact ⟨by rw [H1.out], by first | rfl | trivial⟩
                  | true =>
                    obtain ⟨ht0, ht1⟩ := tag_in HOR.out k14
                    obtain ⟨y, hy⟩ := Int.eq_ofNat_of_zero_le ht0
                    have hyl : y < len := by omega
                    obtain ⟨b', off', ha, z0, _⟩ := (HH.out y hyl).held (w1 := wr) HB4.out.2
                    cases ha
                    have H1 := Lib.hid (show tagR L T = !numK (L y).kind by unfold tagR; rw [k14, hy]; rfl)
                    rw [hy] at d4
                    clear hy ht0 ht1
                    go_wp2_with (go_at_call 59; refine (refNumber_any _ _).mono ?_; rintro e w2 ⟨rfl, rfl⟩)
                    go_meet
                    exact ⟨by rw [H1.out], by first | rfl | trivial⟩
                case rest =>
                  obtain ⟨rfl, rfl⟩ := hcut
                  cases h8 : tagR L T with
                  | true =>
                    have HF := Lib.hid (show R = 8 by rw [← HE.out, h8]; rfl)
                    go_wp2
                    go_ret
                    exact ⟨ret_i HF.out.symm, HB4.out.2⟩
                  | false =>
                    go_upto_region 24 with (fail)
                    have hE6 := HE.out
                    rw [h8] at hE6
                    simp only [Bool.false_eq_true, if_false] at hE6
                    have HE := Lib.hid hE6
                    have HTR := Lib.hid h8
                    clear hE6 h8
                    go_cut [115] (fun t wx => t = .bool (namedK T.kind && decide (T.ilen = 0)) ∧ wr = wx)
                    case first =>
                      obtain ⟨nb, hnb⟩ : ∃ b, namedK T.kind = b := ⟨_, rfl⟩
                      have hrn := fun w => refNamed_any T.kind w
                      rw [hnb] at hrn
                      have HRN := Lib.hid hrn
                      have HNB := Lib.hid hnb
                      clear hrn hnb
                      by_cases hz : T.ilen = 0
                      all_goals
                        cases nb
                        all_goals
                          go_wp2_with (go_at_call 60; refine (HRN.out _).mono ?_; rintro e w2 ⟨rfl, rfl⟩)
                          go_meet
                          exact ⟨by rw [HNB.out]; simp [hz], by first | rfl | trivial⟩
                    case rest =>
                      obtain ⟨rfl, rfl⟩ := hcut
                      cases h18 : (namedK T.kind && decide (T.ilen = 0)) with
                      | true =>
                        have HF := Lib.hid (show R = 18 by rw [← HE.out, h18]; rfl)
                        go_wp2
                        go_ret
                        exact ⟨ret_i HF.out.symm, HB4.out.2⟩
                      | false =>
                        have hE7 := HE.out
                        rw [h18] at hE7
                        simp only [Bool.false_eq_true, if_false] at hE7
                        have hil := HI.out.1
                        clear h18
                        by_cases h16 : 16 < T.ilen
                        · have HF := Lib.hid (show R = 3 by rw [← hE7, if_pos h16])
                          clear hE7
                          go_wp2
                          go_ret
                          exact ⟨ret_i HF.out.symm, HB4.out.2⟩
                        · rw [if_neg h16] at hE7
                          have HE := Lib.hid hE7
                          have HCI := Lib.hid (fun j (hj : j < T.ilen) wx (hb : Below w.heap.size w wx) => refItemE_any (some ⟨b, off, none⟩) len cap L T j (by omega) hj (tag_for HC1.out HOR.out hat hj) (fun h => by have := type_in HOR.out (.inl h) hj; omega) wx (HI.out.held hb) (hold HH.out hb))
                          clear hE7
                          go_upto_region 29 with (fail)
                          clear d0 d1 d2 d3 d4 d5
                          go_loopw [9] (fun i wr => ∃ j : Nat, j ≤ T.ilen ∧ i = .int .i64 j ∧ Hid (∀ m, m < j → (itemE L T m != 0) = false) ∧ Hid (BoxT w.heap.size T w wr)) (fun i _ => T.ilen - (intOf i).toNat)
                          case atStart => exact ⟨0, Nat.zero_le _, rfl, Lib.hid (fun m hm => absurd hm (Nat.not_lt_zero _)), HB4⟩
                          case round =>
                            obtain ⟨j, hj, rfl, HFI, HB5⟩ := hrel
                            obtain ⟨d0, d1, d2, d3, d4, d5⟩ := HB5.out.cells
                            by_cases hlt : j < T.ilen
                            · have hci := HCI.out j hlt _ HB5.out.2
                              unfold typV at hci
                              obtain ⟨q, hq⟩ : ∃ q, itemE L T j = q := ⟨_, rfl⟩
                              rw [hq] at hci
                              have HQ := Lib.hid hci
                              clear hci
                              cases hz : (q != 0) with
                              | true =>
                                have HFE := Lib.hid (firstE_at (e := itemE L T) HFI.out hlt (by rw [hq]; exact hz))
                                have HF := Lib.hid (show R = q by rw [← HE.out, HFE.out, hq, if_pos (by simpa using hz)])
                                clear hq
                                go_wp2_with (go_at_call 85; refine (HQ.out).mono ?_; rintro e w6 ⟨rfl, hb6⟩; have HB6 := Lib.hid (HB5.out.keep hb6); clear hb6)
                                go_ret
                                exact ⟨ret_i HF.out.symm, HB6.out.2⟩
                              | false =>
                                have HF2 := Lib.hid (none_next (p := fun m => itemE L T m != 0) HFI.out (by rw [hq]; exact hz))
                                clear hq
                                go_wp2_with (go_at_call 85; refine (HQ.out).mono ?_; rintro e w6 ⟨rfl, hb6⟩; have HB6 := Lib.hid (HB5.out.keep hb6); clear hb6)
                                go_roundw
                                case rel => exact ⟨j + 1, by omega, by go_num, HF2, HB6⟩
                                case measure => simp [intOf]; omega
                            · obtain rfl : j = T.ilen := by omega
                              have HFE := Lib.hid (firstE_none (e := itemE L T) HFI.out)
                              have hE8 := HE.out
                              rw [HFE.out, if_neg (by decide)] at hE8
                              have hdp := fun wx (hb : Below w.heap.size w wx) => refDeep_any (some ⟨b, off, none⟩) len cap L (by omega) (at' : Nat) wx (hold HH.out hb)
                              unfold DeepTo at hdp
                              obtain ⟨d, hd⟩ : ∃ d, deepL L len (at' : Nat) = d := ⟨_, rfl⟩
                              rw [hd] at hdp hE8
                              have HD := Lib.hid hdp
                              have HE8 := Lib.hid hE8
                              clear hdp hE8 hd
                              by_cases h6 : 6 < d
                              all_goals
                                go_wp2_with (go_at_call 86; refine (HD.out _ HB5.out.2).mono ?_; rintro e w6 ⟨rfl, hb6⟩; have HB6 := Lib.hid (HB5.out.keep hb6); clear hb6)
                                go_ret
                                exact ⟨ret_i (by rw [← HE8.out]; simp [h6]), HB6.out.2⟩
end Go.Proofs.YtcojomkpogikiaaGreatDoor.Pa
namespace Go.Proofs.YtcojomkpogikiaaGreatDoor.Pa
open Go.RowKit
set_option linter.unusedVariables false
set_option maxHeartbeats 2000000 in
theorem refCheck_any (ao : Option Addr) (len cap : Nat) (L : Nat → TypeV) (hlen : len ≤ 1000000) (w : World) (H : ∀ i, i < len → TypeAt w ao i (L i)) :
    Calls Tryz.prog 23 #[.slice ao len cap] w fun e w' => e = .returned (faultV (oneR L len) len) ∧ Below w.heap.size w w' := by
  have HH := Lib.hid H
  clear H
  by_cases h32 : 32 < len
  · rw [fault_long h32]
    go_enter Tryz.func23, Tryz.ntmps23
    go_wp2
    go_returns
    exact ⟨rfl, by go_grown⟩
  · have h32' : len ≤ 32 := by omega
    have HQ := Lib.hid (alloc_at w (.cells #[.int .i64 0, .int .i64 0] 57))
    have HB := Lib.hid ((Below.refl w.heap.size w).alloc (Nat.le_refl _) (.cells #[.int .i64 0, .int .i64 0] 57))
    obtain ⟨R, hR⟩ : ∃ R, faultV (oneR L len) len = R := ⟨_, rfl⟩
    rw [hR]
    have HR := Lib.hid hR
    clear hR
    go_enter Tryz.func23, Tryz.ntmps23
    go_wp2
    go_loopw [3] (fun i wr => ∃ k : Nat, k ≤ len ∧ i = .int .i64 k ∧ Hid (∀ m, m < k → (oneR L len m != 0) = false) ∧ Hid (wr.heap[w.heap.size]? = some (.cells #[.int .i64 0, .int .i64 0] 57 (0, 0))) ∧ Hid (Below w.heap.size w wr)) (fun i _ => len - (intOf i).toNat)
    case atStart => exact ⟨0, Nat.zero_le _, rfl, Lib.hid (fun m hm => absurd hm (Nat.not_lt_zero _)), HQ, HB⟩
    case round =>
      obtain ⟨k, hk, rfl, HF, HQr, HBr⟩ := hrel
      by_cases hlt : k < len
      · have hcall := refOne_any ao len cap L hlen k hlt wr (hold HH.out HBr.out)
        obtain ⟨q, hq⟩ : ∃ q, oneR L len k = q := ⟨_, rfl⟩
        rw [hq] at hcall
        have HC := Lib.hid hcall
        clear hcall
        cases hz : (q != 0) with
        | true =>
          have HA := Lib.hid (fault_at (one := oneR L len) h32' HF.out hlt (by rw [hq]; exact hz))
          have HQ1 := Lib.hid hq
          clear hq
          go_wp2_with (first
            | (go_at_call 44; refine (HC.out).mono ?_; rintro r w3 ⟨rfl, hb3⟩; have HQ3 := Lib.hid (rblk_keep HQr.out hb3); have HW3 := Lib.hid (HBr.out.trans (hb3.mono HBr.out.size)); clear hb3)
            | (refine wpList_store_rowTo rfl 57 _ _ rfl rfl w.heap.size #[.int .i64 q, .int .i64 k] rfl rfl _ _ HQ3.out (by kernel_rfl) (by kernel_rfl) (by kernel_rfl) ?_))
          refine bodyPost_ret (v := .agg #[.int .i64 q, .int .i64 k]) ?_ rfl ⟨by rw [← HR.out, HA.out, HQ1.out], below_setRow HW3.out (Nat.le_refl _) _⟩
          have hl := run_loadVar_row (P := Tryz.prog) _ w.heap.size _ 57 _ _ _ (setRow_heap _ _ _ #[.int .i64 q, .int .i64 k] _ _ HQ3.out) Tryz.underlying57 rfl (by kernel_rfl)
          simp [results, Tryz.results23, asAddr]
          exact hl
        | false =>
          have HF2 := Lib.hid (none_next (p := fun m => oneR L len m != 0) HF.out (by rw [hq]; exact hz))
          clear hq
          go_wp2_with (go_at_call 44; refine (HC.out).mono ?_; rintro r w3 ⟨rfl, hb3⟩; have HQ3 := Lib.hid (rblk_keep HQr.out hb3); have HW3 := Lib.hid (HBr.out.trans (hb3.mono HBr.out.size)); clear hb3)
          go_roundw
          case rel => exact ⟨k + 1, by omega, by go_num, HF2, HQ3, HW3⟩
          case measure => simp [intOf]; omega
      · obtain rfl : k = len := by omega
        have HA := Lib.hid (fault_none (one := oneR L k) h32' HF.out)
        go_wp2_with (refine wpList_store_rowTo rfl 57 _ _ rfl rfl w.heap.size #[.int .i64 0, .int .i64 0] rfl rfl _ _ HQr.out (by kernel_rfl) (by kernel_rfl) (by kernel_rfl) ?_)
        refine bodyPost_ret (v := .agg #[.int .i64 0, .int .i64 0]) ?_ rfl ⟨by rw [← HR.out, HA.out], below_setRow HBr.out (Nat.le_refl _) _⟩
        have hl := run_loadVar_row (P := Tryz.prog) _ w.heap.size _ 57 _ _ _ (setRow_heap _ _ _ #[.int .i64 0, .int .i64 0] _ _ HQr.out) Tryz.underlying57 rfl (by kernel_rfl)
        simp [results, Tryz.results23, asAddr]
        exact hl
end Go.Proofs.YtcojomkpogikiaaGreatDoor.Pa
namespace Go.Proofs.YtcojomkpogikiaaGreatDoor.Pa
open Go.RowKit
set_option linter.unusedVariables false
theorem firstE_cons (e : Nat → Int) (n : Nat) : firstE e (n + 1) = if e 0 ≠ 0 then e 0 else firstE (fun j => e (j + 1)) n := by
  by_cases h : e 0 ≠ 0
  · rw [if_pos h]; exact firstE_at (fun i hi => absurd hi (Nat.not_lt_zero _)) (Nat.succ_pos _) (by simpa using h)
  · rw [if_neg h]
    have h0 : e 0 = 0 := by simpa using h
    obtain ⟨h1, h2, h3⟩ := firstN_is (fun j => e (j + 1) != 0) n
    by_cases c : firstN (fun j => e (j + 1) != 0) n < n
    · rw [firstE_at (e := fun j => e (j + 1)) h2 c (h3 c)]
      refine firstE_at (fun i hi => ?_) (by omega) (h3 c)
      rcases i with _ | i
      · simp [h0]
      · exact h2 i (by omega)
    · rw [firstE_none (e := fun j => e (j + 1)) (fun i hi => h2 i (by omega))]
      refine firstE_none (fun i hi => ?_)
      rcases i with _ | i
      · simp [h0]
      · exact h2 i (by omega)
theorem firstE_zero (e : Nat → Int) : firstE e 0 = 0 := firstE_none (fun i hi => absurd hi (Nat.not_lt_zero _))
theorem firstE_congr {e f : Nat → Int} {n : Nat} (h : ∀ i, i < n → e i = f i) : firstE e n = firstE f n := by
  induction n generalizing e f with
  | zero => rw [firstE_zero, firstE_zero]
  | succ n ih => rw [firstE_cons, firstE_cons, h 0 (by omega), ih (fun i hi => h (i + 1) (by omega))]
theorem hasB_congr {p q : Nat → Bool} {n : Nat} (h : ∀ i, i < n → p i = q i) : hasB p n = hasB q n := by
  induction n with
  | zero => rw [hasB_zero, hasB_zero]
  | succ n ih => rw [hasB_next, hasB_next, ih (fun i hi => h i (by omega)), h n (by omega)]
theorem hasB_firstN (p : Nat → Bool) (n : Nat) : decide (firstN p n < n) = hasB p n := rfl
/-- the form -/
theorem name_eq_self (s : ByteArray) : (s.toList == s.toList) = true := by simp
theorem item_same {k : Int} (h : namedK k = true) (x : ItemV) : itemBad k x = itemMore k x := by
  have hs := name_eq_self x.name
  rcases named_cases h with rfl | rfl | rfl
  · have e : ownI 9 x = ⟨x.name, x.num, 0, false, false⟩ := by simp [ownI, tysK]
    unfold itemBad itemMore sameI
    rw [e]
    dsimp only
    rw [hs]
    cases x.key <;> cases x.rest <;> simp [bne]
  · have e : ownI 13 x = ⟨x.name, 0, x.type, x.key, false⟩ := by simp [ownI, tysK]
    unfold itemBad itemMore sameI
    rw [e]
    dsimp only
    rw [hs]
    cases x.key <;> cases x.rest <;> simp [bne]
  · cases hr : x.rest with
    | false =>
      have e : ownI 14 x = ⟨x.name, x.num, x.type, false, false⟩ := by simp [ownI, tysK, hr]
      unfold itemBad itemMore sameI
      rw [e]
      dsimp only
      rw [hs, hr]
      cases x.key <;> simp [bne]
    | true =>
      have e : ownI 14 x = ⟨x.name, 0, x.type, false, true⟩ := by simp [ownI, tysK, hr]
      unfold itemBad itemMore sameI
      rw [e]
      dsimp only
      rw [hs, hr]
      cases x.key <;> simp [bne]
theorem form_same {T : TypeV} (h1 : 1 ≤ T.kind) (h2 : T.kind ≤ 14) : formB T = moreB T := by
  have hk : c3B T = (f2B T || f3B T || f4B T) := by
    unfold c3B f2B f3B f4B
    have e1 : (decide (T.kind < 10) || decide (12 < T.kind)) = !boundK T.kind := by
      unfold boundK ofK; rw [Bool.eq_iff_iff]; simp; omega
    have e2 : (T.kind != 11 && T.kind != 12) = !ofK T.kind := by
      unfold ofK; rw [Bool.eq_iff_iff]; simp
    have e3 : (T.kind != 14) = !(T.kind == 14) := rfl
    rw [e1, e2, e3]
  have hc : c1B T = (f1B T || f5B T) := rfl
  unfold formB moreB
  rw [hc, hk, hasB_firstN]
  cases hf5 : f5B T with
  | true => cases f1B T <;> cases f2B T <;> cases f3B T <;> cases f4B T <;> rfl
  | false =>
    have hh : hasB (fun j => itemBad T.kind (T.items j)) T.ilen = hasB (fun j => itemMore T.kind (T.items j)) T.ilen := by
      refine hasB_congr fun i hi => item_same ?_ _
      unfold f5B at hf5
      rw [decide_eq_true (show 0 < T.ilen by omega)] at hf5
      simpa using hf5
    rw [hh]
    cases f1B T <;> cases f2B T <;> cases f3B T <;> cases f4B T <;> rfl
theorem bound_same {T : TypeV} (h : moreB T = false) : boundBad T = bndR T := by
  have h3 : c3B T = false := by
    unfold moreB at h
    rw [Bool.or_eq_false_iff, Bool.or_eq_false_iff] at h
    exact h.1.2
  unfold c3B at h3
  rw [Bool.or_eq_false_iff, Bool.or_eq_false_iff] at h3
  have hb := h3.1.1
  unfold boundBad bndR boundK ofK
  by_cases h10 : T.kind = 10
  · rw [h10]; simp
  · by_cases h11 : T.kind = 11
    · rw [h11]; simp
    · by_cases h12 : T.kind = 12
      · rw [h12]; simp
      · have hz : T.bound = 0 := by
          simp at hb
          by_cases z : T.bound = 0
          · exact z
          · have := hb z; omega
        rw [hz]; simp [h10, h11, h12]
theorem order_same (T : TypeV) (at' : Nat) : orderBad T at' = orderR T at' := by
  unfold orderBad orderR
  refine hasB_congr fun j _ => ?_
  unfold inL partOut
  rw [Bool.eq_iff_iff]; simp <;> omega
theorem kindL_in {L : Nat → TypeV} {len : Nat} {t : Int} (h0 : 0 ≤ t) (h1 : t < len) : kindL L len t = (L t.toNat).kind := by
  unfold kindL inL
  rw [decide_eq_true h0, decide_eq_true h1]; rfl
theorem tag_same {L : Nat → TypeV} {len at' : Nat} {T : TypeV} (hat : at' < len) (h : orderR T at' = false) : (T.kind == 14 && !numK (kindL L len T.tag)) = tagR L T := by
  unfold tagR
  cases hk : (T.kind == 14) with
  | false => rfl
  | true =>
    obtain ⟨h0, h1⟩ := tag_in h hk
    rw [kindL_in h0 (by omega)]
/-- what is found of an item at its own place -/
theorem first_lt {p : Nat → Bool} {n i : Nat} (hi : i < n) (hp : p i = true) : decide (posZ (firstZ p n) < i) = hasB p i := by
  rcases firstZ_cases p n with ⟨k, hk, e, h1, h2⟩ | ⟨e, h1⟩
  · rw [e]
    have e2 : posZ (k : Nat) = k := by unfold posZ; rw [if_neg (by omega)]
    rw [e2]
    rcases Nat.lt_or_ge k i with c | c
    · rw [hasB_some c h1, decide_eq_true (by omega)]
    · rw [hasB_none (fun j hj => h2 j (by omega)), decide_eq_false (by omega)]
  · rw [h1 i hi] at hp; cases hp
theorem ite_dec {p : Prop} [Decidable p] {b : Bool} {x y : Int} (h : decide p = b) : (if p then x else y) = if b then x else y := by
  subst h; by_cases c : p <;> simp [c]
theorem itemL_own {L : Nat → TypeV} {len at' : Nat} {T : TypeV} (hat : at' < len) (hT : L at' = T) (hn : namedK T.kind = true) (s : ByteArray) : itemL L len (at' : Nat) s = firstZ (fun j => (T.items j).name.toList == s.toList) T.ilen := by
  unfold itemL itemZ
  rw [inL_yes hat, if_pos rfl, Int.toNat_natCast, hT, hn, if_pos rfl]
theorem valueL_own {L : Nat → TypeV} {len at' : Nat} {T : TypeV} (hat : at' < len) (hT : L at' = T) (h9 : T.kind = 9) (n : Int) : valueL L len (at' : Nat) n = firstZ (fun j => (T.items j).num == n) T.ilen := by
  unfold valueL valueZ
  rw [inL_yes hat, if_pos rfl, Int.toNat_natCast, hT, if_pos h9]
theorem branchL_own {L : Nat → TypeV} {len at' : Nat} {T : TypeV} (hat : at' < len) (hT : L at' = T) (n : Int) : branchL L len (at' : Nat) n = branchZ T n := by
  unfold branchL
  rw [inL_yes hat, if_pos rfl, Int.toNat_natCast, hT]
/-- ahead of an item no branch is the rest: an item by item reckoning -/
theorem branch_lt {T : TypeV} {n : Int} {i : Nat} (h14 : T.kind = 14) (hi : i < T.ilen) (hp : tagB T n i = true) (hr : ∀ m, m < i → (T.items m).rest = false) : decide (posZ (branchZ T n) < i) = hasB (fun k => (T.items k).num == n) i := by
  have hfirst : okZ (firstZ (tagB T n) T.ilen) = true := by
    rcases firstZ_cases (tagB T n) T.ilen with ⟨k, hk, e, h1, h2⟩ | ⟨e, h1⟩
    · rw [e]; unfold okZ; rw [decide_eq_true (by omega)]
    · rw [h1 i hi] at hp; cases hp
  rw [(branchZ_hit h14 hfirst).1, first_lt hi hp]
  refine hasB_congr fun m hm => ?_
  unfold tagB
  rw [hr m hm]; rfl
theorem isTag_same {L : Nat → TypeV} {len at' : Nat} {T : TypeV} (hat : at' < len) (h14 : T.kind = 14) (ho : orderR T at' = false) (n : Int) : isTagB L len T n = numberB L T n := by
  obtain ⟨h0, h1⟩ := tag_in ho (by simpa using h14)
  unfold isTagB numberB
  rw [kindL_in h0 (by omega), if_neg (show ¬ T.kind = 9 by omega)]
  by_cases h9 : (L T.tag.toNat).kind = 9
  · rw [if_pos h9, if_pos h9]
    unfold okZ valueL inL
    rw [decide_eq_true h0, decide_eq_true (show T.tag < (len : Int) by omega)]
    rfl
  · rw [if_neg h9, if_neg h9]
theorem more_item {T : TypeV} (h : moreB T = false) {i : Nat} (hi : i < T.ilen) : itemMore T.kind (T.items i) = false := by
  cases hq : itemMore T.kind (T.items i) with
  | false => rfl
  | true =>
    have := hasB_some (p := fun j => itemMore T.kind (T.items j)) hi hq
    unfold moreB at h
    rw [Bool.or_eq_false_iff] at h
    have h2 : hasB (fun j => itemMore T.kind (T.items j)) T.ilen = false := h.2
    rw [h2] at this; cases this
/-- an item ahead of which none is wrong -/
theorem item_e_same {L : Nat → TypeV} {len at' : Nat} {T : TypeV} (hat : at' < len) (hT : L at' = T) (hm : moreB T = false) (ho : orderR T at' = false) {i : Nat} (hi : i < T.ilen) (hp : ∀ m, m < i → itemE L T m = 0) : ckItem L len at' T i = itemE L T i := by
  have hn := named_of hm hi
  have hmi := more_item hm hi
  unfold ckItem itemE
  by_cases hs : nameS (T.items i).name = false
  · rw [if_pos hs, if_pos hs]
  · rw [if_neg hs, if_neg hs]
    rw [ite_dec (show decide (posZ (itemL L len (at' : Nat) (T.items i).name) < i) = hasB (nameEq T (T.items i)) i by
      rw [itemL_own hat hT hn]; exact first_lt (p := nameEq T (T.items i)) hi (by unfold nameEq; simp))]
    cases hnm : hasB (nameEq T (T.items i)) i with
    | true => rfl
    | false =>
      simp only [Bool.false_eq_true, if_false]
      rcases named_cases hn with h9 | h13 | h14
      · rw [if_pos h9, if_neg (show ¬ T.kind = 13 by omega)]
        have hr : (T.items i).rest = false := by
          unfold itemMore at hmi
          rw [h9] at hmi
          simp at hmi
          exact hmi.2
        rw [hr]
        simp only [Bool.false_eq_true, if_false]
        unfold ckValue
        have e1 : numberB L T (T.items i).num = mayK 9 (T.items i).num := by unfold numberB; rw [if_pos h9]
        rw [e1]
        by_cases hy : mayK 9 (T.items i).num = false
        · rw [if_pos hy, if_pos hy]
        · rw [if_neg hy, if_neg hy]
          rw [ite_dec (show decide (posZ (valueL L len (at' : Nat) (T.items i).num) < i) = hasB (numEq T (T.items i)) i by
            rw [valueL_own hat hT h9]; exact first_lt (p := numEq T (T.items i)) hi (by unfold numEq; simp))]
      · rw [if_neg (show ¬ T.kind = 9 by omega), if_pos h13, if_pos h13]
        obtain ⟨t0, t1⟩ := type_in ho (.inl h13) hi
        unfold ckField
        rw [kindL_in t0 (by omega)]
      · rw [if_neg (show ¬ T.kind = 9 by omega), if_neg (show ¬ T.kind = 13 by omega), if_neg (show ¬ T.kind = 13 by omega)]
        unfold ckBranch
        cases hr : (T.items i).rest with
        | true => rfl
        | false =>
          simp only [Bool.false_eq_true, if_false]
          rw [isTag_same hat h14 ho]
          by_cases hy : numberB L T (T.items i).num = false
          · rw [if_pos hy, if_pos hy]
          · rw [if_neg hy, if_neg hy]
            have hrm : ∀ m, m < i → (T.items m).rest = false := by
              intro m hmi'
              cases hq : (T.items m).rest with
              | false => rfl
              | true =>
                have h0 := hp m hmi'
                unfold itemE at h0
                rw [if_neg (show ¬ T.kind = 13 by omega), hq] at h0
                simp only [if_true] at h0
                rw [if_pos (show m + 1 < T.ilen by omega)] at h0
                split at h0
                · cases h0
                · split at h0
                  · cases h0
                  · cases h0
            rw [ite_dec (show decide (posZ (branchL L len (at' : Nat) (T.items i).num) < i) = hasB (numEq T (T.items i)) i by
              rw [branchL_own hat hT]; exact branch_lt h14 hi (by unfold tagB; rw [hr]; simp) hrm)]
theorem items_same {L : Nat → TypeV} {len at' : Nat} {T : TypeV} (hat : at' < len) (hT : L at' = T) (hm : moreB T = false) (ho : orderR T at' = false) : ckItems L len at' T = firstE (itemE L T) T.ilen := by
  unfold ckItems
  obtain ⟨h1, h2, h3⟩ := firstN_is (fun j => itemE L T j != 0) T.ilen
  have hz : ∀ i, i < firstN (fun j => itemE L T j != 0) T.ilen → itemE L T i = 0 := fun i hi => by have := h2 i hi; simpa using this
  have hz2 : ∀ i, i < firstN (fun j => itemE L T j != 0) T.ilen → ckItem L len at' T i = 0 := fun i hi => by
    rw [item_e_same hat hT hm ho (by omega) (fun m hm' => hz m (by omega))]; exact hz i hi
  by_cases c : firstN (fun j => itemE L T j != 0) T.ilen < T.ilen
  · rw [firstE_at h2 c (h3 c)]
    have e := item_e_same hat hT hm ho c hz
    rw [← e]
    refine firstE_at (fun i hi => by rw [hz2 i hi]; rfl) c ?_
    rw [e]; exact h3 c
  · rw [firstE_none (fun i hi => h2 i (by omega))]
    exact firstE_none (fun i hi => by rw [hz2 i (by omega)]; rfl)
theorem if_chain {b : Bool} {c x : Int} (hc : c ≠ 0) : (if (if b = true then c else 0) ≠ 0 then (if b = true then c else 0) else x) = if b = true then c else x := by
  cases b <;> simp [hc]
theorem one_same {L : Nat → TypeV} {len at' : Nat} (hat : at' < len) : oneC L len at' = oneR L len at' := by
  unfold oneC oneR
  obtain ⟨T, hT⟩ : ∃ T, L at' = T := ⟨_, rfl⟩
  rw [hT]
  have e : firstE (ckAt L len at') 9 = (if ckKind T ≠ 0 then ckKind T else if ckForm T ≠ 0 then ckForm T else if ckName L T at' ≠ 0 then ckName L T at' else if ckBound T ≠ 0 then ckBound T else if ckOrder T at' ≠ 0 then ckOrder T at' else
      if ckTag L len T ≠ 0 then ckTag L len T else if ckCount T ≠ 0 then ckCount T else if ckItems L len at' T ≠ 0 then ckItems L len at' T else if ckDepth L len at' ≠ 0 then ckDepth L len at' else 0) := by
    rw [← hT]
    simp only [firstE_cons, firstE_zero]
    rfl
  rw [e]
  clear e
  unfold oneT
  have e1 : ckKind T = if kindBad T = true then 4 else 0 := by unfold ckKind kindBad; by_cases h : T.kind < 1 <;> by_cases h' : 14 < T.kind <;> simp [h, h']
  rw [e1, if_chain (by decide)]
  cases hkb : kindBad T with
  | true => rfl
  | false =>
    simp only [Bool.false_eq_true, if_false]
    have hk : 1 ≤ T.kind ∧ T.kind ≤ 14 := by unfold kindBad at hkb; simp at hkb; omega
    have e2 : ckForm T = if moreB T = true then 1 else 0 := by unfold ckForm; rw [form_same hk.1 hk.2]
    rw [e2, if_chain (by decide)]
    cases hm : moreB T with
    | true => rfl
    | false =>
      simp only [Bool.false_eq_true, if_false]
      have e3 : ckName L T at' = if (namedK T.kind && !nameS T.name) = true then 5 else if (namedK T.kind && nameTw L T at') = true then 6 else 0 := by
        unfold ckName
        cases namedK T.kind <;> cases nameS T.name <;> cases nameTw L T at' <;> rfl
      rw [e3]
      cases hn1 : (namedK T.kind && !nameS T.name) with
      | true => rfl
      | false =>
        simp only [Bool.false_eq_true, if_false]
        rw [if_chain (by decide)]
        cases hn2 : (namedK T.kind && nameTw L T at') with
        | true => rfl
        | false =>
          simp only [Bool.false_eq_true, if_false]
          have e4 : ckBound T = if bndR T = true then 7 else 0 := by unfold ckBound; rw [bound_same hm]
          rw [e4, if_chain (by decide)]
          cases hb : bndR T with
          | true => rfl
          | false =>
            simp only [Bool.false_eq_true, if_false]
            have e5 : ckOrder T at' = if orderR T at' = true then 14 else 0 := by unfold ckOrder; rw [order_same]
            rw [e5, if_chain (by decide)]
            cases ho : orderR T at' with
            | true => rfl
            | false =>
              simp only [Bool.false_eq_true, if_false]
              have e6 : ckTag L len T = if tagR L T = true then 8 else 0 := by unfold ckTag; rw [tag_same hat ho]
              rw [e6, if_chain (by decide)]
              cases ht : tagR L T with
              | true => rfl
              | false =>
                simp only [Bool.false_eq_true, if_false]
                have e7 : ckCount T = if (namedK T.kind && decide (T.ilen = 0)) = true then 18 else if 16 < T.ilen then 3 else 0 := by
                  unfold ckCount
                  cases hn : namedK T.kind with
                  | true => by_cases h : T.ilen = 0 <;> simp [h]
                  | false =>
                    have : ¬ 16 < T.ilen := fun h => by
                      have := named_of hm (j := 0) (by omega)
                      rw [hn] at this; cases this
                    simp [this]
                rw [e7]
                cases hc : (namedK T.kind && decide (T.ilen = 0)) with
                | true => rfl
                | false =>
                  simp only [Bool.false_eq_true, if_false]
                  by_cases h16 : 16 < T.ilen
                  · rw [if_pos h16, if_pos h16]; rfl
                  · rw [if_neg h16, if_neg h16, if_neg (by simp), items_same hat hT hm ho]
                    split
                    · rfl
                    · unfold ckDepth
                      by_cases h6 : 6 < deepL L len (at' : Nat) <;> simp [h6]
theorem fault_same (L : Nat → TypeV) (len : Nat) : faultV (oneC L len) len = faultV (oneR L len) len := by
  unfold faultV fErr fAt
  rw [firstE_congr (e := oneC L len) (f := oneR L len) (fun i hi => one_same hi)]
  have h : ∀ n, n ≤ len → firstN (fun i => oneC L len i != 0) n = firstN (fun i => oneR L len i != 0) n := by
    intro n hn
    obtain ⟨h1, h2, h3⟩ := firstN_is (fun i => oneR L len i != 0) n
    by_cases c : firstN (fun i => oneR L len i != 0) n < n
    · exact first_at (fun i hi => by show (oneC L len i != 0) = false; rw [one_same (by omega)]; exact h2 i hi) c (by show (oneC L len _ != 0) = true; rw [one_same (by omega)]; exact h3 c)
    · have e : firstN (fun i => oneR L len i != 0) n = n := by omega
      rw [e]
      exact first_none (fun i hi => by show (oneC L len i != 0) = false; rw [one_same (by omega)]; exact h2 i (by omega))
  rw [h len (Nat.le_refl _)]
end Go.Proofs.YtcojomkpogikiaaGreatDoor.Pa
namespace Go.Proofs.YtcojomkpogikiaaGreatDoor.Pa
open Go.ChangeShapes Go.WideShapes Go.ChangeAt Go.RowKit
set_option linter.unusedVariables false
theorem fault_eql (a b c d : Int) (w : World) : (binOp .eql 57 (.agg #[.int .i64 a, .int .i64 b]) (.agg #[.int .i64 c, .int .i64 d])).run Tryz.prog w = .ok (.bool ((a == c) && (b == d))) w := by
  have hu := Tryz.underlying57
  have hi := Tryz.underlying3
  have he := Tryz.underlying30
  have p0 := fun a c w => run_equalIn_int (P := Tryz.prog) w 9998 3 .i64 .i64 a c hi
  have p1 := fun a c w => run_equalIn_int (P := Tryz.prog) w 9998 30 .i64 .i64 a c he
  rw [run_eql_struct, run_equalIn_agg _ 9999 _ _ _ (by kernel_rfl) (by kernel_rfl)]
  simp only [Program.fieldsOf, hu]
  simp [Op.eqFields, go_sem, p0, p1]
  (repeat' split) <;> simp_all
theorem fault_err (a b : Int) (w : World) : (Instr.field 57 (.agg #[.int .i64 a, .int .i64 b]) 0).run Tryz.prog w = .ok (.int .i64 a) w := by kernel_rfl
def noneT (k b o : Int) : TypeV := ⟨k, ⟨#[]⟩, b, o, 0, none, 0, 0, default⟩
end Go.Proofs.YtcojomkpogikiaaGreatDoor.Pa
namespace Go.Proofs.YtcojomkpogikiaaGreatDoor.Pa
open Go.ChangeShapes Go.WideShapes Go.ChangeAt Go.RowKit
set_option linter.unusedVariables false
theorem great_lt {L : Nat → TypeV} {len : Nat} (h : greatB L len = false) : len ≤ 100 := by
  unfold greatB at h; simp at h; omega
theorem deepL_in {L : Nat → TypeV} {len i : Nat} (h : i < len) : deepL L len (i : Nat) = (deepN L i : Nat) := by unfold deepL; rw [inL_yes h]; rfl
theorem one_prefix {L : Nat → TypeV} {n len i : Nat} (hn : n ≤ len) (hi : i < n) : oneR L n i = oneR L len i := by
  unfold oneR oneT
  rw [deepL_in hi, deepL_in (show i < len by omega)]
/-- a list that may be: so may its beginning -/
theorem valid_all {L : Nat → TypeV} {len : Nat} (h : fErr (oneR L len) len = 0) : len ≤ 32 ∧ ∀ i, i < len → oneR L len i = 0 := by
  unfold fErr at h
  by_cases h32 : 32 < len
  · rw [if_pos h32] at h; cases h
  · rw [if_neg h32] at h
    refine ⟨by omega, fun i hi => ?_⟩
    obtain ⟨h1, h2, h3⟩ := firstN_is (fun j => oneR L len j != 0) len
    by_cases c : firstN (fun j => oneR L len j != 0) len < len
    · rw [firstE_at h2 c (h3 c)] at h
      have h4 : (oneR L len (firstN (fun j => oneR L len j != 0) len) != 0) = true := h3 c
      rw [h] at h4; cases h4
    · have := h2 i (by omega); simpa using this
theorem valid_prefix {L : Nat → TypeV} {len n : Nat} (h : fErr (oneR L len) len = 0) (hn : n ≤ len) : fErr (oneR L n) n = 0 ∧ fAt (oneR L n) n = 0 := by
  obtain ⟨h32, ha⟩ := valid_all h
  have hf : ∀ i, i < n → (oneR L n i != 0) = false := fun i hi => by rw [one_prefix hn hi, ha i (by omega)]; rfl
  unfold fErr fAt
  rw [if_neg (by omega), if_neg (by omega), firstE_none hf, first_none hf, if_neg (Nat.lt_irrefl _)]
  exact ⟨rfl, rfl⟩
theorem fold_has {D : Nat → Nat} {t : Nat} {p : Int} (h0 : 0 ≤ p) (h1 : p < t) : ∀ (l : List Int) (a : Nat), p ∈ l → D p.toNat + 1 ≤ l.foldl (deepStep D t) a
  | q :: l, a, h => by
    rw [List.foldl_cons]
    rcases List.mem_cons.1 h with rfl | h
    · refine Nat.le_trans ?_ (fold_ge l _)
      unfold deepStep
      rw [if_pos ⟨h0, h1⟩]
      omega
    · exact fold_has h0 h1 l _ h
/-- a type that may be is no deeper than may be, and deeper than its parts -/
theorem valid_deep {L : Nat → TypeV} {len i : Nat} (h : oneR L len i = 0) (hi : i < len) : 1 ≤ deepN L i ∧ deepN L i ≤ 6 ∧ (11 ≤ (L i).kind → 2 ≤ deepN L i) := by
  obtain ⟨T, hT⟩ : ∃ T, L i = T := ⟨_, rfl⟩
  unfold oneR oneT at h
  rw [hT] at h
  have hp := deepN_pos L i
  split at h; · cases h
  rename_i hkb
  split at h; · cases h
  rename_i hm
  split at h; · cases h
  split at h; · cases h
  split at h; · cases h
  split at h; · cases h
  rename_i ho
  split at h; · cases h
  split at h; · cases h
  rename_i hc
  split at h; · cases h
  split at h; · rename_i hne; exact absurd h hne
  split at h; · cases h
  rename_i hd
  rw [deepL_in hi] at hd
  refine ⟨hp, by omega, fun hk => ?_⟩
  rw [hT] at hk
  have hk14 : T.kind ≤ 14 := by unfold kindBad at hkb; simp at hkb; omega
  have ho' : orderR T i = false := by simpa using ho
  have key : ∀ p, p ∈ partsL T → 2 ≤ deepN L i := fun p hp => by
    obtain ⟨h0, h1⟩ := order_in ho' p hp
    rw [deepN_eq]
    have := fold_has (D := deepN L) h0 h1 (partsL (L i)) 1 (by rw [hT]; exact hp)
    have := deepN_pos L p.toNat
    omega
  have hk4 : (T.kind = 11 ∨ T.kind = 12) ∨ T.kind = 13 ∨ T.kind = 14 := by omega
  rcases hk4 with h1 | h1 | h1
  · exact key T.of (by rw [partsL_one h1]; exact List.mem_cons_self)
  · have hn : namedK T.kind = true := by unfold namedK; rw [h1]; rfl
    have hil : 0 < T.ilen := by
      rw [hn] at hc
      simp at hc; omega
    exact key (T.items 0).type (by rw [partsL_struct h1]; exact List.mem_map.2 ⟨0, List.mem_range.2 hil, rfl⟩)
  · exact key T.tag (by rw [partsL_union h1]; exact List.mem_cons_self)
end Go.Proofs.YtcojomkpogikiaaGreatDoor.Pa
/- Plain mathematics of chapter 7: the ends of a type's values, uncapped and capped. -/
namespace Go.Proofs.YtcojomkpogikiaaGreatDoor.Pa
open Go.RowKit
set_option linter.unusedVariables false
structure OkT (L : Nat → TypeV) (t : Nat) : Prop where
  kind : 1 ≤ (L t).kind ∧ (L t).kind ≤ 14
  of : (L t).kind = 11 ∨ (L t).kind = 12 → 0 ≤ (L t).of ∧ (L t).of < t ∧ deepN L (L t).of.toNat + 1 ≤ deepN L t
  tag : (L t).kind = 14 → 0 ≤ (L t).tag ∧ (L t).tag < t ∧ deepN L (L t).tag.toNat + 1 ≤ deepN L t ∧ numK (L (L t).tag.toNat).kind = true
  items : (L t).kind = 13 ∨ (L t).kind = 14 → ∀ j, j < (L t).ilen → 0 ≤ ((L t).items j).type ∧ ((L t).items j).type < t ∧ deepN L ((L t).items j).type.toNat + 1 ≤ deepN L t
  count : (L t).kind = 13 ∨ (L t).kind = 14 → 1 ≤ (L t).ilen ∧ (L t).ilen ≤ 16
  bound : (L t).kind = 10 ∨ (L t).kind = 11 ∨ (L t).kind = 12 → 0 ≤ (L t).bound ∧ (L t).bound ≤ 64
  least : (L t).kind = 11 ∨ (L t).kind = 12 → 1 ≤ (L t).bound
  deep : 1 ≤ deepN L t ∧ deepN L t ≤ 6
end Go.Proofs.YtcojomkpogikiaaGreatDoor.Pa
namespace Go.Proofs.YtcojomkpogikiaaGreatDoor.Pa
open Go.RowKit
set_option linter.unusedVariables false
theorem part_deep {L : Nat → TypeV} {t : Nat} {p : Int} (hp : p ∈ partsL (L t)) (h0 : 0 ≤ p) (h1 : p < t) : deepN L p.toNat + 1 ≤ deepN L t := by
  rw [deepN_eq L t]; exact fold_has h0 h1 _ _ hp
theorem ok_of {L : Nat → TypeV} {len i : Nat} (h : oneR L len i = 0) (hi : i < len) : OkT L i := by
  have hdp := valid_deep h hi
  unfold oneR oneT at h
  split at h; · cases h
  rename_i hkb
  split at h; · cases h
  rename_i hm
  split at h; · cases h
  split at h; · cases h
  split at h; · cases h
  rename_i hb
  split at h; · cases h
  rename_i ho
  split at h; · cases h
  rename_i htg
  split at h; · cases h
  rename_i hc
  split at h; · cases h
  rename_i hc16
  have ho' : orderR (L i) i = false := by simpa using ho
  have hin := fun p (hp : p ∈ partsL (L i)) => order_in ho' p hp
  have hk14 : 1 ≤ (L i).kind ∧ (L i).kind ≤ 14 := by unfold kindBad at hkb; simp at hkb; omega
  have hbd : bndR (L i) = false := by simpa using hb
  unfold bndR at hbd
  simp at hbd
  have pof : (L i).kind = 11 ∨ (L i).kind = 12 → (L i).of ∈ partsL (L i) := fun h => by rw [partsL_one h]; exact List.mem_cons_self
  have ptg : (L i).kind = 14 → (L i).tag ∈ partsL (L i) := fun h => by rw [partsL_union h]; exact List.mem_cons_self
  have pit : (L i).kind = 13 ∨ (L i).kind = 14 → ∀ j, j < (L i).ilen → ((L i).items j).type ∈ partsL (L i) := fun h j hj => by
    have hmm : ((L i).items j).type ∈ (List.range (L i).ilen).map fun j => ((L i).items j).type := List.mem_map.2 ⟨j, List.mem_range.2 hj, rfl⟩
    rcases h with h | h
    · rw [partsL_struct h]; exact hmm
    · rw [partsL_union h]; exact List.mem_cons_of_mem _ hmm
  refine ⟨hk14, fun hk => ?_, fun hk => ?_, fun hk j hj => ?_, fun hk => ?_, fun hk => ?_, fun hk => ?_, ⟨hdp.1, hdp.2.1⟩⟩
  · have h2 := hin _ (pof hk)
    exact ⟨h2.1, h2.2, part_deep (pof hk) h2.1 h2.2⟩
  · have h2 := hin _ (ptg hk)
    refine ⟨h2.1, h2.2, part_deep (ptg hk) h2.1 h2.2, ?_⟩
    unfold tagR at htg
    rw [hk] at htg
    simpa using htg
  · have h2 := hin _ (pit hk j hj)
    exact ⟨h2.1, h2.2, part_deep (pit hk j hj) h2.1 h2.2⟩
  · have hn : namedK (L i).kind = true := by unfold namedK; rcases hk with hk | hk <;> rw [hk] <;> rfl
    rw [hn] at hc
    simp at hc
    omega
  · obtain ⟨⟨h1, h2⟩, h3⟩ := hbd
    rcases hk with hk | hk | hk
    · exact ⟨h1 hk, by omega⟩
    · exact ⟨by have := h2 (.inl hk); omega, by omega⟩
    · exact ⟨by have := h2 (.inr hk); omega, by omega⟩
  · obtain ⟨⟨h1, h2⟩, h3⟩ := hbd
    exact h2 hk
theorem ok_all {L : Nat → TypeV} {len : Nat} (h : fErr (oneR L len) len = 0) : ∀ i, i < len → OkT L i := fun i hi => ok_of ((valid_all h).2 i hi) hi
/-- whether a list is valid and has a type -/
def hasT (L : Nat → TypeV) (len : Nat) (t : Int) : Bool := inL len t && (fErr (oneR L len) len == 0 && fAt (oneR L len) len == 0)
theorem fAt_ok {L : Nat → TypeV} {len : Nat} (h : fErr (oneR L len) len = 0) : fAt (oneR L len) len = 0 := (valid_prefix h (Nat.le_refl _)).2
theorem hasT_in {L : Nat → TypeV} {len : Nat} {t : Int} (h : hasT L len t = true) : ∃ k : Nat, t = k ∧ k < len ∧ fErr (oneR L len) len = 0 := by
  unfold hasT inL at h
  simp at h
  exact ⟨t.toNat, by omega, by omega, h.2.1⟩
end Go.Proofs.YtcojomkpogikiaaGreatDoor.Pa
