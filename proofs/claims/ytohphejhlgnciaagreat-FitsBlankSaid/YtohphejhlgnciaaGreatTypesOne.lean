/- Contract of chapter 6's reference: one. -/
import Derived.Test.YtohphejhlgnciaaGreatTypesItem
import Derived.Test.YtohphejhlgnciaaGreatTypesItems2
namespace Go.Proofs.YtohphejhlgnciaaGreat
open Go.RowKit
set_option linter.unusedVariables false
def kindBad (T : TypeV) : Bool := decide (T.kind < 1) || decide (14 < T.kind)
def bndR (T : TypeV) : Bool := (T.kind == 10 && decide (T.bound < 0)) || ((T.kind == 11 || T.kind == 12) && decide (T.bound < 1)) || decide (64 < T.bound)
def partOut (at' : Nat) (p : Int) : Bool := decide (p < 0) || decide ((at' : Int) ≤ p)
def orderR (T : TypeV) (at' : Nat) : Bool := hasB (fun j => partOut at' ((partsL T).getD j 0)) (partsL T).length
def tagR (L : Nat → TypeV) (T : TypeV) : Bool := T.kind == 14 && !numK (L T.tag.toNat).kind
def oneT (L : Nat → TypeV) (len at' : Nat) (T : TypeV) : Int :=
  if kindBad T then 4 else if moreB T then 1 else if namedK T.kind && !nameS T.name then 5 else if namedK T.kind && nameTw L T at' then 6 else if bndR T then 7 else if orderR T at' then 14
  else if tagR L T then 8 else if namedK T.kind && decide (T.ilen = 0) then 18 else if 16 < T.ilen then 3 else if firstE (itemE L T) T.ilen ≠ 0 then firstE (itemE L T) T.ilen else if 6 < deepL L len (at' : Nat) then 9 else 0
def oneR (L : Nat → TypeV) (len at' : Nat) : Int := oneT L len at' (L at')
theorem order_in {T : TypeV} {at' : Nat} (h : orderR T at' = false) (p : Int) (hp : p ∈ partsL T) : 0 ≤ p ∧ p < at' := by
  obtain ⟨j, hj, he⟩ := List.getElem_of_mem hp
  cases hq : partOut at' ((partsL T).getD j 0) with
  | true =>
    have := hasB_some (p := fun j => partOut at' ((partsL T).getD j 0)) hj hq
    unfold orderR at h
    rw [h] at this; cases this
  | false =>
    rw [List.getD_eq_getElem?_getD, List.getElem?_eq_getElem hj] at hq
    simp only [Option.getD_some] at hq
    rw [he] at hq
    unfold partOut at hq
    simp at hq
    omega
theorem tag_in {T : TypeV} {at' : Nat} (h : orderR T at' = false) (hk : (T.kind == 14) = true) : 0 ≤ T.tag ∧ T.tag < at' :=
  order_in h T.tag (by rw [partsL_union (by simpa using hk)]; exact List.mem_cons_self)
theorem type_in {T : TypeV} {at' : Nat} (h : orderR T at' = false) (hk : T.kind = 13 ∨ T.kind = 14) {j : Nat} (hj : j < T.ilen) : 0 ≤ (T.items j).type ∧ (T.items j).type < at' := by
  refine order_in h _ ?_
  have hm : (T.items j).type ∈ (List.range T.ilen).map fun j => (T.items j).type := List.mem_map.2 ⟨j, List.mem_range.2 hj, rfl⟩
  rcases hk with hk | hk
  · rw [partsL_struct hk]; exact hm
  · rw [partsL_union hk]; exact List.mem_cons_of_mem _ hm
theorem named_of {T : TypeV} (h : moreB T = false) {j : Nat} (hj : j < T.ilen) : namedK T.kind = true := by
  unfold moreB c1B at h
  rw [Bool.or_eq_false_iff, Bool.or_eq_false_iff, Bool.or_eq_false_iff] at h
  have h2 := h.1.1.2
  rw [decide_eq_true (show 0 < T.ilen by omega)] at h2
  simpa using h2
theorem named_cases {k : Int} (h : namedK k = true) : k = 9 ∨ k = 13 ∨ k = 14 := by
  unfold namedK at h; simp at h; omega
theorem tag_for {T : TypeV} {at' len : Nat} (h : moreB T = false) (ho : orderR T at' = false) (hat : at' < len) {j : Nat} (hj : j < T.ilen) : T.kind = 13 ∨ T.kind = 9 ∨ (0 ≤ T.tag ∧ T.tag < len) := by
  rcases named_cases (named_of h hj) with h | h | h
  · exact .inr (.inl h)
  · exact .inl h
  · have := tag_in ho (by simpa using h); exact .inr (.inr (by omega))
theorem BoxT.drewN {g : Nat} {T : TypeV} {w0 w : World} (h : BoxT g T w0 w) (m : Nat) : BoxT g T w0 (w.drewN m) := h.keep (drewN_below (Below.refl _ _) m)
set_option maxRecDepth 100000 in
set_option maxHeartbeats 8000000 in
theorem refOne_any (ao : Option Addr) (len cap : Nat) (L : Nat → TypeV) (hlen : len ≤ 1000000) (at' : Nat) (hat : at' < len) (w : World) (H : ∀ i, i < len → TypeAt w ao i (L i)) :
    Calls Tryz.prog 32 #[.slice ao len cap, .int .i64 at'] w fun e w' => e = .returned (.int .i64 (oneR L len at')) ∧ Below w.heap.size w w' := by
  have HH := Lib.hid H
  obtain ⟨b, off, hao, x0, x1, x2, x3, x4, x5, wf, hit⟩ := H at' hat
  subst hao
  have hbl : b < w.heap.size := World.block_lt_of_cell? w _ x0
  have hne : ¬ b = w.heap.size := by omega
  obtain ⟨R, hR⟩ : ∃ R, oneR L len at' = R := ⟨_, rfl⟩
  rw [hR]
  have HR := Lib.hid hR
  obtain ⟨T, hT⟩ : ∃ T, L at' = T := ⟨_, rfl⟩
  have HE := Lib.hid (show oneT L len at' T = R by rw [← hR, ← hT]; rfl)
  rw [hT] at x0 x1 x2 x3 x4 x5 wf hit
  have HT := Lib.hid hT
  have HI := Lib.hid hit
  have HB := Lib.hid (BoxT.start T w)
  clear hR hT H hit
  go_enter Tryz.func32, Tryz.ntmps32
  go_upto_region 2 with (fail)
  have hb0 : typO T = (.cells #[.int .i64 T.kind, .string T.name, .int .i64 T.bound, .int .i64 T.of, .int .i64 T.tag, .slice T.ia T.ilen T.icap] 40) := rfl
  rw [← hb0]
  clear hb0 x0 x1 x2 x3 x4 x5 hbl hne
  generalize w.alloc (typO T) = W0 at *
  obtain ⟨d0, d1, d2, d3, d4, d5⟩ := HB.out.cells
  cases h1 : kindBad T with
  | true =>
    have HF := Lib.hid (show R = 4 by rw [← HE.out]; unfold oneT; rw [h1]; rfl)
    by_cases hk : T.kind < 1
    · go_wp2
      go_ret
      exact ⟨ret_i HF.out.symm, HB.out.2⟩
    · have hk2 : 14 < T.kind := by unfold kindBad at h1; rw [decide_eq_false hk] at h1; simpa using h1
      go_wp2
      go_ret
      exact ⟨ret_i HF.out.symm, HB.out.2⟩
  | false =>
    have hk1 : ¬ T.kind < 1 := by intro h; unfold kindBad at h1; rw [decide_eq_true h] at h1; simp at h1
    have hk2 : ¬ 14 < T.kind := by intro h; unfold kindBad at h1; rw [decide_eq_true h] at h1; simp at h1
    have HM := Lib.hid (refMore_any T W0 (HI.out.held HB.out.2))
    have hm := HM.out
    unfold typV at hm
    cases h2 : moreB T with
    | true =>
      rw [h2] at hm
      have HM := Lib.hid hm
      have HF := Lib.hid (show R = 1 by rw [← HE.out]; unfold oneT; rw [h1, h2]; rfl)
      clear hm h1 h2
      go_wp2_with (go_at_call 49; refine (HM.out).mono ?_; rintro e w2 ⟨rfl, hb2⟩; have HB2 := Lib.hid (HB.out.keep hb2); clear hb2)
      go_ret
      exact ⟨ret_i HF.out.symm, HB2.out.2⟩
    | false =>
      rw [h2] at hm
      have HM := Lib.hid hm
      clear hm
      have hE2 := HE.out
      unfold oneT at hE2
      rw [h1, h2] at hE2
      simp only [Bool.false_eq_true, if_false] at hE2
      have HE := Lib.hid hE2
      have HC1 := Lib.hid h2
      clear hE2 h1 h2
      go_upto_region 6 with (go_at_call 49; refine (HM.out).mono ?_; rintro e w2 ⟨rfl, hb2⟩; have HB2 := Lib.hid (HB.out.keep hb2); clear hb2)
      clear d0 d1 d2 d3 d4 d5 HM HB
      obtain ⟨d0, d1, d2, d3, d4, d5⟩ := HB2.out.cells
      go_upto_if 27 with (go_at_call 50; refine (refNamed_any _ _).mono ?_; rintro e w' ⟨rfl, rfl⟩)
      go_cut [] (fun wx => Hid (BoxT w.heap.size T w wx) ∧ Hid ((namedK T.kind && !nameS T.name) = false ∧ (namedK T.kind && nameTw L T at') = false))
      case first =>
        cases hn : namedK T.kind with
        | false =>
          go_wp2
          go_meet
          exact ⟨HB2, Lib.hid ⟨by rw [hn]; rfl, by rw [hn]; rfl⟩⟩
        | true =>
          have hnm := fun w => refName_any T.name (Nat.le_trans wf.2.2.2.2 (by decide)) w
          cases hs : nameS T.name with
          | false =>
            rw [hs] at hnm
            have HN := Lib.hid hnm
            have HF := Lib.hid (show R = 5 by rw [← HE.out, hn, hs]; rfl)
            clear hnm hs
            go_wp2_with (go_at_call 51; refine (HN.out _).mono ?_; rintro e w3 ⟨rfl, hb3⟩; have HB3 := Lib.hid (HB2.out.keep hb3); clear hb3)
            go_ret
            exact ⟨ret_i HF.out.symm, HB3.out.2⟩
          | true =>
            rw [hs] at hnm
            have HN := Lib.hid hnm
            clear hnm
            go_wp2_with (go_at_call 51; refine (HN.out _).mono ?_; rintro e w3 ⟨rfl, hb3⟩; have HB3 := Lib.hid (HB2.out.keep hb3); clear hb3)
            clear d0 d1 d2 d3 d4 d5
            go_loopw [6] (fun i wr => ∃ j : Nat, j ≤ at' ∧ i = .int .i64 j ∧ Hid (∀ m, m < j → ((L m).name.toList == T.name.toList) = false) ∧ Hid (BoxT w.heap.size T w wr)) (fun i _ => at' - (intOf i).toNat)
            case atStart => exact ⟨0, Nat.zero_le _, rfl, Lib.hid (fun m hm => absurd hm (Nat.not_lt_zero _)), HB3⟩
            case round =>
              obtain ⟨j, hj, rfl, HFN, HBr⟩ := hrel
              by_cases hlt : j < at'
              · obtain ⟨b', off', ha, x0, x1, x2, x3, x4, x5, wf', _⟩ := (HH.out j (by omega)).held (w1 := wr) HBr.out.2
                cases ha
                obtain ⟨d0, d1, d2, d3, d4, d5⟩ := HBr.out.cells
                have hll : j < len := by omega
                cases hq : ((L j).name.toList == T.name.toList) with
                | true =>
                  have HTW := Lib.hid (show nameTw L T at' = true from hasB_some (p := fun i => (L i).name.toList == T.name.toList) hlt hq)
                  have HF := Lib.hid (show R = 6 by rw [← HE.out, hn, hs, HTW.out]; rfl)
                  go_upto_region 12 with (fail)
                  go_wp2_with fail
                  go_big_quiet (fail)
                  go_wp2
                  go_ret
                  exact ⟨ret_i HF.out.symm, (HBr.out.drewN _).2⟩
                | false =>
                  have HF2 := Lib.hid (none_next (p := fun i => (L i).name.toList == T.name.toList) HFN.out hq)
                  go_upto_region 12 with (fail)
                  go_wp2_with fail
                  go_big_quiet (fail)
                  go_wp2
                  go_roundw
                  case rel => exact ⟨j + 1, by omega, by go_num, HF2, Lib.hid (HBr.out.drewN _)⟩
                  case measure => simp [intOf]; omega
              · obtain rfl : j = at' := by omega
                have HTW := Lib.hid (show nameTw L T j = false from hasB_none (p := fun i => (L i).name.toList == T.name.toList) HFN.out)
                go_wp2
                go_meet
                exact ⟨HBr, Lib.hid ⟨by rw [hs, hn]; rfl, by rw [HTW.out, hn]; rfl⟩⟩
      case rest =>
        obtain ⟨HB3, HN3⟩ := hcut
        have hE3 := HE.out
        rw [HN3.out.1, HN3.out.2] at hE3
        simp only [Bool.false_eq_true, if_false] at hE3
        have HE := Lib.hid hE3
        clear hE3
        obtain ⟨d0, d1, d2, d3, d4, d5⟩ := HB3.out.cells
        go_upto_region 14 with (fail)
        go_cut [72] (fun t wx => t = .bool (bndR T) ∧ wc = wx)
        case first =>
          have H3 := Lib.hid (show bndR T = ((T.kind == 10 && decide (T.bound < 0)) || ((T.kind == 11 || T.kind == 12) && decide (T.bound < 1)) || decide (64 < T.bound)) from rfl)
          obtain ⟨b1, hb1⟩ : ∃ b, (T.kind == 10) = b := ⟨_, rfl⟩
          obtain ⟨b2, hb2⟩ : ∃ b, decide (T.bound < 0) = b := ⟨_, rfl⟩
          obtain ⟨b3, hb3⟩ : ∃ b, (T.kind == 11) = b := ⟨_, rfl⟩
          obtain ⟨b4, hb4⟩ : ∃ b, (T.kind == 12) = b := ⟨_, rfl⟩
          obtain ⟨b5, hb5⟩ : ∃ b, decide (T.bound < 1) = b := ⟨_, rfl⟩
          obtain ⟨b6, hb6⟩ : ∃ b, decide (64 < T.bound) = b := ⟨_, rfl⟩
          have H4 := Lib.hid (H3.out.trans (by rw [hb1, hb2, hb3, hb4, hb5, hb6] : _ = ((b1 && b2) || ((b3 || b4) && b5) || b6)))
          clear H3
          go_wp2
          all_goals
            go_meet
            exact ⟨by rw [H4.out]; simp_all, by first | rfl | trivial⟩
        case rest =>
          obtain ⟨rfl, rfl⟩ := hcut
          cases h7 : bndR T with
          | true =>
            have HF := Lib.hid (show R = 7 by rw [← HE.out, h7]; rfl)
            go_wp2
            go_ret
            exact ⟨ret_i HF.out.symm, HB3.out.2⟩
          | false =>
            go_upto_region 16 with (fail)
            have hE4 := HE.out
            rw [h7] at hE4
            simp only [Bool.false_eq_true, if_false] at hE4
            have HE := Lib.hid hE4
            clear hE4 h7
            have hll := partsL_len HI.out.1
            have hcall := refParts_any T wc (HI.out.held HB3.out.2)
            unfold typV at hcall
            obtain ⟨l, hl⟩ : ∃ l, partsL T = l := ⟨_, rfl⟩
            rw [hl] at hcall hll
            have HC := Lib.hid hcall
            have HPL := Lib.hid hl
            clear hcall hl
            go_upto_region 18 with (go_at_call 52; refine (HC.out).mono ?_; rintro e w4 ⟨v, rfl, hown, hb4⟩; obtain ⟨va, vc, rfl, hva⟩ := row_form hown; have HV := Lib.hid hva; have HO := Lib.hid hown; have HB4 := Lib.hid (HB3.out.keep hb4); clear hown hva hb4)
            clear d0 d1 d2 d3 d4 d5 HC
            go_loopw [8] (fun i wr => ∃ j : Nat, j ≤ l.length ∧ i = .int .i64 j ∧ Hid (∀ m, m < j → partOut at' (l.getD m 0) = false) ∧ wr = w4) (fun i _ => l.length - (intOf i).toNat)
            case atStart => exact ⟨0, Nat.zero_le _, rfl, Lib.hid (fun m hm => absurd hm (Nat.not_lt_zero _)), rfl⟩
            case round =>
              obtain ⟨j, hj, rfl, HFN, rfl⟩ := hrel
              by_cases hlt : j < l.length
              · obtain ⟨g', rfl⟩ := HV.out (by omega)
                have c := cell_int HO.out j hlt
                obtain ⟨p, hp⟩ : ∃ p, l.getD j 0 = p := ⟨_, rfl⟩
                rw [hp] at c
                cases hq : partOut at' p with
                | true =>
                  have HOR := Lib.hid (show orderR T at' = true by unfold orderR; rw [HPL.out]; exact hasB_some (p := fun j => partOut at' (l.getD j 0)) hlt (by show partOut at' (l.getD j 0) = true; rw [hp]; exact hq))
                  have HF := Lib.hid (show R = 14 by rw [← HE.out, HOR.out]; rfl)
                  clear hp
                  by_cases hneg : p < 0
                  · have t1 : decide (p < 0) = true := by simpa using hneg
                    clear hneg
                    go_wp2
                    go_ret
                    exact ⟨ret_i HF.out.symm, HB4.out.2⟩
                  · have t1 : decide (p < 0) = false := by simpa using hneg
                    have t2 : decide ((at' : Int) ≤ p) = true := by unfold partOut at hq; rw [t1] at hq; simpa using hq
                    clear hneg
                    go_wp2
                    go_ret
                    exact ⟨ret_i HF.out.symm, HB4.out.2⟩
                | false =>
                  have HF2 := Lib.hid (none_next (p := fun m => partOut at' (l.getD m 0)) HFN.out (by show partOut at' (l.getD j 0) = false; rw [hp]; exact hq))
                  clear hp
                  have hq2 := hq
                  unfold partOut at hq2
                  rw [Bool.or_eq_false_iff] at hq2
                  obtain ⟨t1, t2⟩ := hq2
                  clear hq
                  go_wp2
                  go_roundw
                  case rel => exact ⟨j + 1, by omega, by go_num, HF2, by first | rfl | trivial⟩
                  case measure => simp [intOf]; omega
              · obtain rfl : j = l.length := by omega
                have HOR := Lib.hid (show orderR T at' = false by unfold orderR; rw [HPL.out]; exact hasB_none (p := fun j => partOut at' (l.getD j 0)) HFN.out)
                have hE5 := HE.out
                rw [HOR.out] at hE5
                simp only [Bool.false_eq_true, if_false] at hE5
                have HE := Lib.hid hE5
                clear hE5
                obtain ⟨d0, d1, d2, d3, d4, d5⟩ := HB4.out.cells
                go_upto_region 22 with (fail)
                clear HV HO HPL hll
                go_cut [106] (fun t wx => t = .bool (tagR L T) ∧ wr = wx)
                case first =>
                  cases k14 : (T.kind == 14) with
                  | false =>
                    have H1 := Lib.hid (show tagR L T = false by unfold tagR; rw [k14]; rfl)
                    go_wp2
                    go_meet
                    exact ⟨by rw [H1.out], by first | rfl | trivial⟩
                  | true =>
                    obtain ⟨ht0, ht1⟩ := tag_in HOR.out k14
                    obtain ⟨y, hy⟩ := Int.eq_ofNat_of_zero_le ht0
                    have hyl : y < len := by omega
                    obtain ⟨b', off', ha, z0, _⟩ := (HH.out y hyl).held (w1 := wr) HB4.out.2
                    cases ha
                    have H1 := Lib.hid (show tagR L T = !numK (L y).kind by unfold tagR; rw [k14, hy]; rfl)
                    rw [hy] at d4
                    clear hy ht0 ht1
                    go_wp2_with (go_at_call 53; refine (refNumber_any _ _).mono ?_; rintro e w2 ⟨rfl, rfl⟩)
                    go_meet
                    exact ⟨by rw [H1.out], by first | rfl | trivial⟩
                case rest =>
                  obtain ⟨rfl, rfl⟩ := hcut
                  cases h8 : tagR L T with
                  | true =>
                    have HF := Lib.hid (show R = 8 by rw [← HE.out, h8]; rfl)
                    go_wp2
                    go_ret
                    exact ⟨ret_i HF.out.symm, HB4.out.2⟩
                  | false =>
                    go_upto_region 24 with (fail)
                    have hE6 := HE.out
                    rw [h8] at hE6
                    simp only [Bool.false_eq_true, if_false] at hE6
                    have HE := Lib.hid hE6
                    have HTR := Lib.hid h8
                    clear hE6 h8
                    go_cut [115] (fun t wx => t = .bool (namedK T.kind && decide (T.ilen = 0)) ∧ wr = wx)
                    case first =>
                      obtain ⟨nb, hnb⟩ : ∃ b, namedK T.kind = b := ⟨_, rfl⟩
                      have hrn := fun w => refNamed_any T.kind w
                      rw [hnb] at hrn
                      have HRN := Lib.hid hrn
                      have HNB := Lib.hid hnb
                      clear hrn hnb
                      by_cases hz : T.ilen = 0
                      all_goals
                        cases nb
                        all_goals
                          go_wp2_with (go_at_call 50; refine (HRN.out _).mono ?_; rintro e w2 ⟨rfl, rfl⟩)
                          go_meet
                          exact ⟨by rw [HNB.out]; simp [hz], by first | rfl | trivial⟩
                    case rest =>
                      obtain ⟨rfl, rfl⟩ := hcut
                      cases h18 : (namedK T.kind && decide (T.ilen = 0)) with
                      | true =>
                        have HF := Lib.hid (show R = 18 by rw [← HE.out, h18]; rfl)
                        go_wp2
                        go_ret
                        exact ⟨ret_i HF.out.symm, HB4.out.2⟩
                      | false =>
                        have hE7 := HE.out
                        rw [h18] at hE7
                        simp only [Bool.false_eq_true, if_false] at hE7
                        have hil := HI.out.1
                        clear h18
                        by_cases h16 : 16 < T.ilen
                        · have HF := Lib.hid (show R = 3 by rw [← hE7, if_pos h16])
                          clear hE7
                          go_wp2
                          go_ret
                          exact ⟨ret_i HF.out.symm, HB4.out.2⟩
                        · rw [if_neg h16] at hE7
                          have HE := Lib.hid hE7
                          have HCI := Lib.hid (fun j (hj : j < T.ilen) wx (hb : Below w.heap.size w wx) => refItemE_any (some ⟨b, off, none⟩) len cap L T j (by omega) hj (tag_for HC1.out HOR.out hat hj) (fun h => by have := type_in HOR.out (.inl h) hj; omega) wx (HI.out.held hb) (hold HH.out hb))
                          clear hE7
                          go_upto_region 29 with (fail)
                          clear d0 d1 d2 d3 d4 d5
                          go_loopw [9] (fun i wr => ∃ j : Nat, j ≤ T.ilen ∧ i = .int .i64 j ∧ Hid (∀ m, m < j → (itemE L T m != 0) = false) ∧ Hid (BoxT w.heap.size T w wr)) (fun i _ => T.ilen - (intOf i).toNat)
                          case atStart => exact ⟨0, Nat.zero_le _, rfl, Lib.hid (fun m hm => absurd hm (Nat.not_lt_zero _)), HB4⟩
                          case round =>
                            obtain ⟨j, hj, rfl, HFI, HB5⟩ := hrel
                            obtain ⟨d0, d1, d2, d3, d4, d5⟩ := HB5.out.cells
                            by_cases hlt : j < T.ilen
                            · have hci := HCI.out j hlt _ HB5.out.2
                              unfold typV at hci
                              obtain ⟨q, hq⟩ : ∃ q, itemE L T j = q := ⟨_, rfl⟩
                              rw [hq] at hci
                              have HQ := Lib.hid hci
                              clear hci
                              cases hz : (q != 0) with
                              | true =>
                                have HFE := Lib.hid (firstE_at (e := itemE L T) HFI.out hlt (by rw [hq]; exact hz))
                                have HF := Lib.hid (show R = q by rw [← HE.out, HFE.out, hq, if_pos (by simpa using hz)])
                                clear hq
                                go_wp2_with (go_at_call 54; refine (HQ.out).mono ?_; rintro e w6 ⟨rfl, hb6⟩; have HB6 := Lib.hid (HB5.out.keep hb6); clear hb6)
                                go_ret
                                exact ⟨ret_i HF.out.symm, HB6.out.2⟩
                              | false =>
                                have HF2 := Lib.hid (none_next (p := fun m => itemE L T m != 0) HFI.out (by rw [hq]; exact hz))
                                clear hq
                                go_wp2_with (go_at_call 54; refine (HQ.out).mono ?_; rintro e w6 ⟨rfl, hb6⟩; have HB6 := Lib.hid (HB5.out.keep hb6); clear hb6)
                                go_roundw
                                case rel => exact ⟨j + 1, by omega, by go_num, HF2, HB6⟩
                                case measure => simp [intOf]; omega
                            · obtain rfl : j = T.ilen := by omega
                              have HFE := Lib.hid (firstE_none (e := itemE L T) HFI.out)
                              have hE8 := HE.out
                              rw [HFE.out, if_neg (by decide)] at hE8
                              have hdp := fun wx (hb : Below w.heap.size w wx) => refDeep_any (some ⟨b, off, none⟩) len cap L (by omega) (at' : Nat) wx (hold HH.out hb)
                              unfold DeepTo at hdp
                              obtain ⟨d, hd⟩ : ∃ d, deepL L len (at' : Nat) = d := ⟨_, rfl⟩
                              rw [hd] at hdp hE8
                              have HD := Lib.hid hdp
                              have HE8 := Lib.hid hE8
                              clear hdp hE8 hd
                              by_cases h6 : 6 < d
                              all_goals
                                go_wp2_with (go_at_call 55; refine (HD.out _ HB5.out.2).mono ?_; rintro e w6 ⟨rfl, hb6⟩; have HB6 := Lib.hid (HB5.out.keep hb6); clear hb6)
                                go_ret
                                exact ⟨ret_i (by rw [← HE8.out]; simp [h6]), HB6.out.2⟩
end Go.Proofs.YtohphejhlgnciaaGreat
