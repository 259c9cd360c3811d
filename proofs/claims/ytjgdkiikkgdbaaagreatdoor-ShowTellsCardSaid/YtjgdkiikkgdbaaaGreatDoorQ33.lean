/- The reference's path of chapter 16: is a text made of steps? -/
import Derived.Test.YtjgdkiikkgdbaaaGreatDoorQ32
namespace Go.Proofs.YtjgdkiikkgdbaaaGreatDoor
open Go.RowKit
set_option linter.unusedVariables false
/-- what the walk over an item knows of its digits -/
structure DigAt (l : List UInt8) (j : Nat) (d : List UInt8) : Prop where
  le : j + 1 + d.length ≤ l.length
  all : ∀ k, k < d.length → dig (l.getD (j + 1 + k) 0) = true
  stop : j + 1 + d.length < l.length → dig (l.getD (j + 1 + d.length) 0) = false
  seg : ((l.drop (j + 1)).take (j + 1 + d.length - (j + 1))) = d
  digs : d.all dig = true
  rest : (l.drop (j + 1)).drop d.length = l.drop (j + 1 + d.length)
  fst : 0 < d.length → l.getD (j + 1) 0 = d.headD 0
theorem digAt (l : List UInt8) (j : Nat) (hj : j < l.length) : DigAt l j ((l.drop (j + 1)).takeWhile dig) := by
  have h := tw_spec dig (l.drop (j + 1))
  have hg : ∀ k, (l.drop (j + 1)).getD k 0 = l.getD (j + 1 + k) 0 := fun k => by simp [List.getD_eq_getElem?_getD, List.getElem?_drop]
  obtain ⟨h1, h2, h3⟩ := h
  rw [List.length_drop] at h2 h3
  have ht := sh_take dig (l.drop (j + 1))
  refine ⟨by omega, fun k hk => by rw [← hg]; exact h1 k hk, fun hk => by rw [← hg]; exact h2 (by omega), by rw [Nat.add_sub_cancel_left]; exact ht, ?_, by rw [List.drop_drop], fun h0 => ?_⟩
  · rw [List.all_eq_true]; exact tw_dig _
  · have e := hg 0
    rw [Nat.add_zero] at e
    rw [← e]
    cases hm : l.drop (j + 1) with
    | nil => rw [hm] at h0; simp at h0
    | cons c r =>
      rw [hm] at h0
      rw [List.takeWhile_cons] at h0 ⊢
      cases hc : dig c with
      | false => rw [hc] at h0; simp at h0
      | true => rfl
/-- the index's steps, as they are asked -/
def stepI (l : List UInt8) (j : Nat) (d : List UInt8) : Bool := badIx d || !(l.getD (j + 1 + d.length) 0 == 93)
theorem pth_ix (f : Nat) (b : Bool) (l : List UInt8) (j : Nat) (hj : j < l.length) (h91 : l.getD j 0 = 91) (d : List UInt8) (hd : (l.drop (j + 1)).takeWhile dig = d) : pthB (f + 1) b (l.drop j) = if stepI l j d = true then false else pthB f false (l.drop (j + 1 + d.length + 1)) := by
  have hcr : l.drop j = l.getD j 0 :: l.drop (j + 1) := by rw [List.drop_eq_getElem_cons hj]; simp [List.getD_eq_getElem?_getD, List.getElem?_eq_getElem hj]
  have hD := digAt l j hj
  rw [hd] at hD
  rw [pthB, hcr, h91, if_neg (by simp), if_pos ⟨by simp, rfl⟩]
  show (if badIx ((l.drop (j + 1)).takeWhile dig) = true ∨ ((l.drop (j + 1)).drop ((l.drop (j + 1)).takeWhile dig).length).headD 0 ≠ 93 then false else pthB f false ((l.drop (j + 1)).drop ((l.drop (j + 1)).takeWhile dig).length).tail) = _
  rw [hd, hD.rest, List.tail_drop]
  have hh : (l.drop (j + 1 + d.length)).headD 0 = l.getD (j + 1 + d.length) 0 := by rw [List.headD_eq_head?_getD, List.head?_drop, List.getD_eq_getElem?_getD]
  rw [hh]
  unfold stepI
  cases badIx d with
  | true => rfl
  | false =>
    by_cases h93 : l.getD (j + 1 + d.length) 0 = 93
    · rw [h93]; rfl
    · rw [show (l.getD (j + 1 + d.length) 0 == 93) = false from beq_eq_false_iff_ne.2 h93, if_pos (.inr h93)]; rfl
theorem pth_first (f : Nat) (l : List UInt8) (h91 : l = [] ∨ l.headD 0 ≠ 91) : pthB (f + 1) true l = if (wl l == 0 || wordsL.contains (l.take (wl l))) = true then false else pthB f false (l.drop (wl l)) := by
  rw [pthB, if_neg (by simp), if_neg (by rintro ⟨h1, h2⟩; rcases h91 with h | h; exact h1 h; exact h h2), if_pos rfl]
  by_cases h : wl l = 0 ∨ wordsL.contains (l.take (wl l)) = true
  · rw [if_pos h, if_pos (by rcases h with h | h; (rw [h]; rfl); (rw [h, Bool.or_true]))]
  · rw [if_neg h, if_neg (by rw [Bool.or_eq_true, beq_iff_eq]; exact h)]
theorem pth_next (f : Nat) (l : List UInt8) (hne : l ≠ []) (h91 : l.headD 0 ≠ 91) : pthB (f + 1) false l = if (!(l.headD 0 == 46) || (wl l.tail == 0 || wordsL.contains (l.tail.take (wl l.tail)))) = true then false else pthB f false (l.tail.drop (wl l.tail)) := by
  rw [pthB, if_neg (by rintro ⟨_, h⟩; exact hne h), if_neg (by rintro ⟨_, h⟩; exact h91 h), if_neg (by decide)]
  by_cases h46 : l.headD 0 = 46
  · rw [if_neg (by rw [h46]; simp), h46]
    by_cases h : wl l.tail = 0 ∨ wordsL.contains (l.tail.take (wl l.tail)) = true
    · rw [if_pos h, if_pos (by rcases h with h | h; (rw [h]; rfl); (rw [h, Bool.or_true, Bool.or_true]))]
    · rw [if_neg h, if_neg (by rw [Bool.or_eq_true, Bool.or_eq_true, beq_iff_eq]; rintro (h2 | h2); (cases h2); (exact h h2))]
  · rw [if_pos h46, if_pos (by rw [show (l.headD 0 == 46) = false from beq_eq_false_iff_ne.2 h46]; rfl)]
set_option maxRecDepth 100000 in
set_option maxHeartbeats 4000000 in
theorem shpath_any (l : List UInt8) (hl : l.length ≤ 1000000000) (w : World) : Calls Tryz.prog 43 #[.string (bs l)] w fun e w' => e = .returned (.bool (pthA l)) ∧ Below w.heap.size w w' := by
  have hsz : (bs l).size = l.length := bs_size l
  have hGG : ∀ i (h : i < (bs l).size), (bs l)[i]'h = l.getD i 0 := fun i h => by
    have h2 : i < l.length := by rw [hsz] at h; exact h
    rw [bs_get l i h h2, List.getD_eq_getElem?_getD, List.getElem?_eq_getElem h2]; rfl
  have HSM := Lib.hid (sl_mid l)
  have HSF := Lib.hid (sl_from l)
  have HSZ := Lib.hid (fun m : List UInt8 => bs_size m)
  have HLD := Lib.hid (fun (j : Nat) (hj : j ≤ l.length) (wx : World) => by
    have h := refLead_any (bs (l.drop j)) (by rw [bs_size, List.length_drop]; omega) wx
    rw [leadN_eq, show (bs (l.drop j)).data.toList = l.drop j by simp [bs]] at h
    exact h)
  have HLD : Hid (∀ (j : Nat) (hj : j ≤ l.length) (wx : World), Calls Tryz.prog 63 #[.string (bs (l.drop j))] wx fun e w' => e = .returned (.int .i64 (wl (l.drop j) : Nat)) ∧ wx = w') := HLD
  have HWD := Lib.hid (fun (m : List UInt8) (wx : World) => by
    have h := refWord_any (bs m) wx
    rw [show wordS (bs m) = wordsL.contains m from rfl] at h
    exact h)
  have HWD : Hid (∀ (m : List UInt8) (wx : World), Calls Tryz.prog 64 #[.string (bs m)] wx fun e w' => e = .returned (.bool (wordsL.contains m)) ∧ Below wx.heap.size wx w') := HWD
  obtain ⟨AA, hAA⟩ : ∃ AA, pthA l = AA := ⟨_, rfl⟩
  rw [hAA]
  have HE0 := Lib.hid (show pthB (l.length + 1) true (l.drop 0) = AA from hAA)
  obtain ⟨s, hs⟩ : ∃ s, bs l = s := ⟨_, rfl⟩
  rw [hs] at hsz hGG HSM HSF ⊢
  have HG := Lib.hid hGG
  have hml : s.size ≤ maxLen := by show s.size ≤ 9223372036854775807; omega
  clear hs hAA hGG
  go_enter Tryz.func43, Tryz.ntmps43
  go_wp2_with (fail)
  go_loopw [3, 4] (fun a fi wr => ∃ (j f : Nat) (b : Bool), j ≤ l.length ∧ a = .int .i64 j ∧ fi = .bool b ∧ l.length - j < f ∧ (b = true → j = 0) ∧ Hid (pthB f b (l.drop j) = AA) ∧ Hid (Below w.heap.size w wr)) (fun a _ _ => l.length - (intOf a).toNat)
  case atStart => exact ⟨0, l.length + 1, true, Nat.zero_le _, rfl, rfl, by omega, fun _ => rfl, HE0, Lib.hid (Below.refl _ _)⟩
  case round =>
    obtain ⟨j, f, b, hj, rfl, rfl, hf, hb0, HE, HB⟩ := hrel
    obtain ⟨g, rfl⟩ : ∃ g, f = g + 1 := ⟨f - 1, by omega⟩
    by_cases hend : b = false ∧ j = l.length
    · obtain ⟨rfl, rfl⟩ := hend
      have hE := HE.out
      rw [List.drop_eq_nil_of_le (Nat.le_refl _), pth_end] at hE
      have HX := Lib.hid hE
      clear hE hb0
      go_wp2_with (fail)
      go_ret
      exact ⟨by have h := HX.out; subst h; rfl, HB.out⟩
    · have hlt : b = false → j < l.length := fun h => by
        rcases Nat.lt_or_ge j l.length with h2 | h2
        · exact h2
        · exact absurd ⟨h, by omega⟩ hend
      have HLT := Lib.hid hlt
      clear hend hlt
      by_cases h91 : j < l.length ∧ l.getD j 0 = 91
      · obtain ⟨hjl, hj91⟩ := h91
        have hjs : j < s.size := by omega
        have hg := HG.out j hjs
        rw [hj91] at hg
        obtain ⟨d, hd⟩ : ∃ d, (l.drop (j + 1)).takeWhile dig = d := ⟨_, rfl⟩
        have hD := digAt l j hjl
        have hE := HE.out
        rw [pth_ix g b l j hjl hj91 d hd] at hE
        rw [hd] at hD
        have HD := Lib.hid hD
        have HX := Lib.hid hE
        have hdl := hD.le
        have q1 : ((((s[j]'hjs).toNat : Nat) : Int) == 91) = true := by rw [hg]; rfl
        have hji : (j : Int) < (l.length : Int) := by omega
        clear hd hD hE hg hj91 hb0
        cases b
        all_goals
          go_wp2_with (fail)
          go_loopw [5] (fun e wx => ∃ (k q : Nat), k ≤ d.length ∧ q ≤ j + 1 + k ∧ j + 1 + k ≤ q ∧ e = .int .i64 (q : Nat) ∧ wr = wx) (fun e _ => l.length - (intOf e).toNat)
          case atStart => exact ⟨0, j + 1, Nat.zero_le _, by omega, by omega, by go_num, rfl⟩
          case round =>
            obtain ⟨k, q, hk, hq1, hq2, rfl, rfl⟩ := hrel
            by_cases hkd : k < d.length
            · have hqs : q < s.size := by omega
              have hqi : (q : Int) < (l.length : Int) := by omega
              have hgq := HG.out q hqs
              have hdg := HD.out.all k hkd
              rw [show j + 1 + k = q by omega] at hdg
              obtain ⟨x, hx⟩ : ∃ x, l.getD q 0 = x := ⟨_, rfl⟩
              rw [hx] at hgq hdg
              have hx256 := UInt8.toNat_lt x
              have HDI := Lib.hid (fun (wx : World) => refDigit_any x.toNat hx256 wx)
              rw [show isD x.toNat = true from hdg] at HDI
              clear hx hdg q1
              go_wp2_with (go_at_call 62; refine (HDI.out _).mono ?_; rintro e w1 ⟨rfl, rfl⟩)
              go_roundw
              case rel => exact ⟨k + 1, q + 1, by omega, by omega, by omega, by go_num, by first | rfl | trivial⟩
              case measure => simp [intOf]; omega
            · have hkd2 : k = d.length := by omega
              subst hkd2
              have hst : q = l.length ∨ (q < l.length ∧ dig (l.getD q 0) = false) := by
                rcases Nat.lt_or_ge q l.length with h | h
                · right
                  have h2 := HD.out.stop (by omega)
                  rw [show j + 1 + d.length = q by omega] at h2
                  exact ⟨h, h2⟩
                · left; omega
              have HEN := Lib.hid hst
              have hql : q ≤ l.length := by omega
              have hsub : (q : Int) - (j : Int) - 1 = (d.length : Int) := by omega
              have HQ := Lib.hid (show j + 1 + d.length = q by omega)
              clear hk q1
              rcases hst with hst | ⟨hst, hdg⟩
              · have hqi : ¬ (q : Int) < (l.length : Int) := by omega
                clear hst
                go_upto_region 9 with (fail)
                go_cut [6] (fun v wx => v = .int .i64 (d.length : Nat) ∧ wr = wx)
                case first => as_aux_lemma =>
                  go_wp2_with (fail)
                  go_meet
                  exact ⟨by rw [← hsub], by first | rfl | trivial⟩
                case rest => as_aux_lemma =>
                  obtain ⟨rfl, rfl⟩ := hcut
                  have hst : ∀ wx, (Instr.slice 9 (.string s) (some (.int .i64 ((j : Int) + 1))) (some (.int .i64 (q : Nat))) none).run Tryz.prog wx = .ok (.string (bs d)) wx := fun wx => by
                    have h := HSM.out (j + 1) q (by omega) hql wx
                    rw [show q - (j + 1) = j + 1 + d.length - (j + 1) by omega, HD.out.seg, show ((j + 1 : Nat) : Int) = (j : Int) + 1 by omega] at h
                    exact h
                  have hgn := great_ok d HD.out.digs
                  obtain ⟨gr, hgr⟩ : ∃ gr, greatD d = gr := ⟨_, rfl⟩
                  have HGR := Lib.hid hgr
                  rw [hgr] at hgn
                  have HGN := Lib.hid hgn
                  clear hgr hgn hsub
                  go_upto_region 10 with (fail)
                  go_cut [7] (fun v wx => v = .bool gr ∧ wr = wx)
                  case first => as_aux_lemma =>
                    have hg1 := HGR.out
                    rcases Nat.lt_trichotomy d.length 20 with h20 | h20 | h20
                    · have z1 : ¬ (20 : Int) < (d.length : Int) := by omega
                      have z2 : ((d.length : Int) == 20) = false := beq_eq_false_iff_ne.2 (by omega)
                      have hgf : gr = false := by rw [← hg1]; unfold greatD; rw [decide_eq_false (by omega), show (d.length == 20) = false from beq_eq_false_iff_ne.2 (by omega)]; rfl
                      clear hg1 h20
                      subst hgf
                      go_wp2_with (fail)
                      go_meet
                      exact ⟨by first | rfl | trivial, by first | rfl | trivial⟩
                    · have z1 : ¬ (20 : Int) < (d.length : Int) := by omega
                      have z2 : ((d.length : Int) == 20) = true := beq_iff_eq.2 (by omega)
                      obtain ⟨lt, hlt⟩ : ∃ lt, (Op.bytesLess d maxD || d == maxD) = lt := ⟨_, rfl⟩
                      have hgt : ∀ wx : World, (binOp .gtr 9 (.string (bs d)) (.string ⟨#[49, 56, 52, 52, 54, 55, 52, 52, 48, 55, 51, 55, 48, 57, 53, 53, 49, 54, 49, 53]⟩)).run Tryz.prog wx = .ok (.bool (!lt)) wx := fun wx => by
                        rw [str_gtr, ByteArray.toList_eq, bs_toList, show (⟨#[49, 56, 52, 52, 54, 55, 52, 52, 48, 55, 51, 55, 48, 57, 53, 53, 49, 54, 49, 53]⟩ : ByteArray).toList = maxD from by rw [ByteArray.toList_eq]; rfl, hlt]
                        rfl
                      have hgf : gr = !lt := by
                        rw [HGN.out]
                        unfold numOk
                        rw [decide_eq_false (by omega), decide_eq_true h20, hlt]
                        cases lt <;> rfl
                      clear hg1 h20 hlt
                      subst hgf
                      go_wp2_with (fail)
                      go_meet
                      exact ⟨by first | rfl | trivial, by first | rfl | trivial⟩
                    · have z1 : (20 : Int) < (d.length : Int) := by omega
                      have hgf : gr = true := by rw [← hg1]; unfold greatD; rw [decide_eq_true h20]; rfl
                      clear hg1 h20
                      subst hgf
                      go_wp2_with (fail)
                      go_meet
                      exact ⟨by first | rfl | trivial, by first | rfl | trivial⟩
                  case rest => as_aux_lemma =>
                    obtain ⟨rfl, rfl⟩ := hcut
                    clear hst
                    obtain ⟨st, hstp⟩ : ∃ st, stepI l j d = st := ⟨_, rfl⟩
                    have HST := Lib.hid hstp
                    have HX2 := Lib.hid (show (if st = true then false else pthB g false (l.drop (q + 1))) = AA from by rw [← hstp, ← HQ.out]; exact HX.out)
                    clear hstp
                    go_upto_region 11 with (fail)
                    go_cut [85] (fun v wx => v = .bool st ∧ wr = wx)
                    case first => as_aux_lemma =>
                      have hs1 := HST.out
                      unfold stepI badIx at hs1
                      rw [HGR.out] at hs1
                      by_cases hD0 : d.length = 0
                      · have z1 : ((d.length : Int) == 0) = true := beq_iff_eq.2 (by omega)
                        have hv : st = true := by rw [← hs1, hD0]; rfl
                        clear hs1 hD0
                        subst hv
                        go_wp2_with (fail)
                        go_meet
                        exact ⟨by first | rfl | trivial, by first | rfl | trivial⟩
                      · have z1 : ((d.length : Int) == 0) = false := beq_eq_false_iff_ne.2 (by omega)
                        rw [show (d.length == 0) = false from beq_eq_false_iff_ne.2 hD0, Bool.false_or] at hs1
                        cases gr with
                        | true =>
                          have hv : st = true := by rw [← hs1]; rfl
                          clear hs1 hD0
                          subst hv
                          go_wp2_with (fail)
                          go_meet
                          exact ⟨by first | rfl | trivial, by first | rfl | trivial⟩
                        | false =>
                          rw [Bool.false_or] at hs1
                          have hj1s : j + 1 < s.size := by omega
                          have hg1 := HG.out (j + 1) hj1s
                          rw [HD.out.fst (by omega)] at hg1
                          obtain ⟨x1, hx1⟩ : ∃ x, d.headD 0 = x := ⟨_, rfl⟩
                          rw [hx1] at hg1 hs1
                          rw [HQ.out] at hs1
                          have hji1 : (j : Int) + 1 < (l.length : Int) := by omega
                          clear hx1
                          by_cases hld : 1 < d.length ∧ x1 = 48
                          · obtain ⟨hl1, rfl⟩ := hld
                            have z2 : (1 : Int) < (d.length : Int) := by omega
                            have z3 : ((((s[j + 1]'hj1s).toNat : Nat) : Int) == 48) = true := by rw [hg1]; rfl
                            have hv : st = true := by rw [← hs1, decide_eq_true hl1]; rfl
                            clear hs1 hD0 hl1 hg1
                            subst hv
                            go_wp2_with (fail)
                            go_meet
                            exact ⟨by first | rfl | trivial, by first | rfl | trivial⟩
                          · have hb : (decide (1 < d.length) && x1 == 48) = false := by
                              rw [Bool.and_eq_false_iff]
                              by_cases h1 : 1 < d.length
                              · exact .inr (beq_eq_false_iff_ne.2 (fun e => hld ⟨h1, e⟩))
                              · exact .inl (decide_eq_false h1)
                            rw [hb, Bool.false_or] at hs1
                            have hld2 : (¬ (1 : Int) < (d.length : Int)) ∨ ((1 : Int) < (d.length : Int) ∧ ((((s[j + 1]'hj1s).toNat : Nat) : Int) == 48) = false) := by
                              by_cases h1 : 1 < d.length
                              · refine .inr ⟨by omega, ?_⟩
                                rw [hg1]
                                refine beq_eq_false_iff_ne.2 (fun e => hld ⟨h1, ?_⟩)
                                exact UInt8.toNat_inj.1 (show x1.toNat = 48 by omega)
                              · exact .inl (by omega)
                            clear hld hb hD0
                            have hend : (((q : Int) == (l.length : Int)) = true ∧ st = true) ∨ (((q : Int) == (l.length : Int)) = false ∧ ∃ hqs : q < s.size, (((((s[q]'hqs).toNat : Nat) : Int) != 93) = st)) := by
                              rcases Nat.lt_or_ge q l.length with h | h
                              · have hqs : q < s.size := by omega
                                refine .inr ⟨beq_eq_false_iff_ne.2 (by omega), hqs, ?_⟩
                                rw [HG.out q hqs, ← hs1]
                                obtain ⟨y, hy⟩ : ∃ y, l.getD q 0 = y := ⟨_, rfl⟩
                                rw [hy]
                                show (!((((y.toNat : Nat) : Int)) == 93)) = !(y == 93)
                                congr 1
                                rw [Bool.eq_iff_iff, beq_iff_eq, beq_iff_eq]
                                exact ⟨fun e => UInt8.toNat_inj.1 (show y.toNat = 93 by omega), fun e => by rw [e]; rfl⟩
                              · refine .inl ⟨beq_iff_eq.2 (by omega), ?_⟩
                                rw [← hs1, List.getD_eq_getElem?_getD, List.getElem?_eq_none (by omega)]; rfl
                            clear hs1 hg1
                            rcases hend with ⟨z4, rfl⟩ | ⟨z4, hqs, z5⟩
                            · rcases hld2 with z2 | ⟨z2, z3⟩
                              all_goals
                                go_wp2_with (fail)
                                go_meet
                                exact ⟨by first | rfl | trivial, by first | rfl | trivial⟩
                            · have hqi2 : (q : Int) < (l.length : Int) := by omega
                              rcases hld2 with z2 | ⟨z2, z3⟩
                              all_goals first
                                | exact absurd hqi2 hqi
                                | (go_wp2_with (fail); go_meet; exact ⟨by first | rfl | trivial, by first | rfl | trivial⟩)
                    case rest => as_aux_lemma =>
                      obtain ⟨rfl, rfl⟩ := hcut
                      cases st with
                      | true =>
                        have HX3 := Lib.hid (show false = AA from HX2.out)
                        go_wp2_with (fail)
                        go_ret
                        exact ⟨by have h := HX3.out; subst h; rfl, HB.out⟩
                      | false =>
                        have HX3 := Lib.hid (show pthB g false (l.drop (q + 1)) = AA from HX2.out)
                        have hq93 : q < l.length := by
                          rcases Nat.lt_or_ge q l.length with h | h
                          · exact h
                          · exfalso
                            have h2 := HST.out
                            unfold stepI at h2
                            rw [HQ.out, List.getD_eq_getElem?_getD, List.getElem?_eq_none (by omega), Bool.or_eq_false_iff] at h2
                            exact absurd h2.2 (by decide)
                        go_wp2_with (fail)
                        go_roundw
                        case rel => exact ⟨q + 1, g, false, by omega, by go_num, rfl, by omega, (fun h => by cases h), HX3, HB⟩
                        case measure => simp [intOf]; omega
              · have hqs : q < s.size := by omega
                have hqi : (q : Int) < (l.length : Int) := by omega
                have hgq := HG.out q hqs
                obtain ⟨x, hx⟩ : ∃ x, l.getD q 0 = x := ⟨_, rfl⟩
                rw [hx] at hgq hdg
                have hx256 := UInt8.toNat_lt x
                have HDI := Lib.hid (fun (wx : World) => refDigit_any x.toNat hx256 wx)
                rw [show isD x.toNat = false from hdg] at HDI
                clear hx hdg
                go_upto_region 9 with (go_at_call 62; refine (HDI.out _).mono ?_; rintro e w1 ⟨rfl, rfl⟩)
                clear hgq HDI hst
                go_cut [6] (fun v wx => v = .int .i64 (d.length : Nat) ∧ wr = wx)
                case first => as_aux_lemma =>
                  go_wp2_with (fail)
                  go_meet
                  exact ⟨by rw [← hsub], by first | rfl | trivial⟩
                case rest => as_aux_lemma =>
                  obtain ⟨rfl, rfl⟩ := hcut
                  have hst : ∀ wx, (Instr.slice 9 (.string s) (some (.int .i64 ((j : Int) + 1))) (some (.int .i64 (q : Nat))) none).run Tryz.prog wx = .ok (.string (bs d)) wx := fun wx => by
                    have h := HSM.out (j + 1) q (by omega) hql wx
                    rw [show q - (j + 1) = j + 1 + d.length - (j + 1) by omega, HD.out.seg, show ((j + 1 : Nat) : Int) = (j : Int) + 1 by omega] at h
                    exact h
                  have hgn := great_ok d HD.out.digs
                  obtain ⟨gr, hgr⟩ : ∃ gr, greatD d = gr := ⟨_, rfl⟩
                  have HGR := Lib.hid hgr
                  rw [hgr] at hgn
                  have HGN := Lib.hid hgn
                  clear hgr hgn hsub
                  go_upto_region 10 with (fail)
                  go_cut [7] (fun v wx => v = .bool gr ∧ wr = wx)
                  case first => as_aux_lemma =>
                    have hg1 := HGR.out
                    rcases Nat.lt_trichotomy d.length 20 with h20 | h20 | h20
                    · have z1 : ¬ (20 : Int) < (d.length : Int) := by omega
                      have z2 : ((d.length : Int) == 20) = false := beq_eq_false_iff_ne.2 (by omega)
                      have hgf : gr = false := by rw [← hg1]; unfold greatD; rw [decide_eq_false (by omega), show (d.length == 20) = false from beq_eq_false_iff_ne.2 (by omega)]; rfl
                      clear hg1 h20
                      subst hgf
                      go_wp2_with (fail)
                      go_meet
                      exact ⟨by first | rfl | trivial, by first | rfl | trivial⟩
                    · have z1 : ¬ (20 : Int) < (d.length : Int) := by omega
                      have z2 : ((d.length : Int) == 20) = true := beq_iff_eq.2 (by omega)
                      obtain ⟨lt, hlt⟩ : ∃ lt, (Op.bytesLess d maxD || d == maxD) = lt := ⟨_, rfl⟩
                      have hgt : ∀ wx : World, (binOp .gtr 9 (.string (bs d)) (.string ⟨#[49, 56, 52, 52, 54, 55, 52, 52, 48, 55, 51, 55, 48, 57, 53, 53, 49, 54, 49, 53]⟩)).run Tryz.prog wx = .ok (.bool (!lt)) wx := fun wx => by
                        rw [str_gtr, ByteArray.toList_eq, bs_toList, show (⟨#[49, 56, 52, 52, 54, 55, 52, 52, 48, 55, 51, 55, 48, 57, 53, 53, 49, 54, 49, 53]⟩ : ByteArray).toList = maxD from by rw [ByteArray.toList_eq]; rfl, hlt]
                        rfl
                      have hgf : gr = !lt := by
                        rw [HGN.out]
                        unfold numOk
                        rw [decide_eq_false (by omega), decide_eq_true h20, hlt]
                        cases lt <;> rfl
                      clear hg1 h20 hlt
                      subst hgf
                      go_wp2_with (fail)
                      go_meet
                      exact ⟨by first | rfl | trivial, by first | rfl | trivial⟩
                    · have z1 : (20 : Int) < (d.length : Int) := by omega
                      have hgf : gr = true := by rw [← hg1]; unfold greatD; rw [decide_eq_true h20]; rfl
                      clear hg1 h20
                      subst hgf
                      go_wp2_with (fail)
                      go_meet
                      exact ⟨by first | rfl | trivial, by first | rfl | trivial⟩
                  case rest => as_aux_lemma =>
                    obtain ⟨rfl, rfl⟩ := hcut
                    clear hst
                    obtain ⟨st, hstp⟩ : ∃ st, stepI l j d = st := ⟨_, rfl⟩
                    have HST := Lib.hid hstp
                    have HX2 := Lib.hid (show (if st = true then false else pthB g false (l.drop (q + 1))) = AA from by rw [← hstp, ← HQ.out]; exact HX.out)
                    clear hstp
                    go_upto_region 11 with (fail)
                    go_cut [85] (fun v wx => v = .bool st ∧ wr = wx)
                    case first => as_aux_lemma =>
                      have hs1 := HST.out
                      unfold stepI badIx at hs1
                      rw [HGR.out] at hs1
                      by_cases hD0 : d.length = 0
                      · have z1 : ((d.length : Int) == 0) = true := beq_iff_eq.2 (by omega)
                        have hv : st = true := by rw [← hs1, hD0]; rfl
                        clear hs1 hD0
                        subst hv
                        go_wp2_with (fail)
                        go_meet
                        exact ⟨by first | rfl | trivial, by first | rfl | trivial⟩
                      · have z1 : ((d.length : Int) == 0) = false := beq_eq_false_iff_ne.2 (by omega)
                        rw [show (d.length == 0) = false from beq_eq_false_iff_ne.2 hD0, Bool.false_or] at hs1
                        cases gr with
                        | true =>
                          have hv : st = true := by rw [← hs1]; rfl
                          clear hs1 hD0
                          subst hv
                          go_wp2_with (fail)
                          go_meet
                          exact ⟨by first | rfl | trivial, by first | rfl | trivial⟩
                        | false =>
                          rw [Bool.false_or] at hs1
                          have hj1s : j + 1 < s.size := by omega
                          have hg1 := HG.out (j + 1) hj1s
                          rw [HD.out.fst (by omega)] at hg1
                          obtain ⟨x1, hx1⟩ : ∃ x, d.headD 0 = x := ⟨_, rfl⟩
                          rw [hx1] at hg1 hs1
                          rw [HQ.out] at hs1
                          have hji1 : (j : Int) + 1 < (l.length : Int) := by omega
                          clear hx1
                          by_cases hld : 1 < d.length ∧ x1 = 48
                          · obtain ⟨hl1, rfl⟩ := hld
                            have z2 : (1 : Int) < (d.length : Int) := by omega
                            have z3 : ((((s[j + 1]'hj1s).toNat : Nat) : Int) == 48) = true := by rw [hg1]; rfl
                            have hv : st = true := by rw [← hs1, decide_eq_true hl1]; rfl
                            clear hs1 hD0 hl1 hg1
                            subst hv
                            go_wp2_with (fail)
                            go_meet
                            exact ⟨by first | rfl | trivial, by first | rfl | trivial⟩
                          · have hb : (decide (1 < d.length) && x1 == 48) = false := by
                              rw [Bool.and_eq_false_iff]
                              by_cases h1 : 1 < d.length
                              · exact .inr (beq_eq_false_iff_ne.2 (fun e => hld ⟨h1, e⟩))
                              · exact .inl (decide_eq_false h1)
                            rw [hb, Bool.false_or] at hs1
                            have hld2 : (¬ (1 : Int) < (d.length : Int)) ∨ ((1 : Int) < (d.length : Int) ∧ ((((s[j + 1]'hj1s).toNat : Nat) : Int) == 48) = false) := by
                              by_cases h1 : 1 < d.length
                              · refine .inr ⟨by omega, ?_⟩
                                rw [hg1]
                                refine beq_eq_false_iff_ne.2 (fun e => hld ⟨h1, ?_⟩)
                                exact UInt8.toNat_inj.1 (show x1.toNat = 48 by omega)
                              · exact .inl (by omega)
                            clear hld hb hD0
                            have hend : (((q : Int) == (l.length : Int)) = true ∧ st = true) ∨ (((q : Int) == (l.length : Int)) = false ∧ ∃ hqs : q < s.size, (((((s[q]'hqs).toNat : Nat) : Int) != 93) = st)) := by
                              rcases Nat.lt_or_ge q l.length with h | h
                              · have hqs : q < s.size := by omega
                                refine .inr ⟨beq_eq_false_iff_ne.2 (by omega), hqs, ?_⟩
                                rw [HG.out q hqs, ← hs1]
                                obtain ⟨y, hy⟩ : ∃ y, l.getD q 0 = y := ⟨_, rfl⟩
                                rw [hy]
                                show (!((((y.toNat : Nat) : Int)) == 93)) = !(y == 93)
                                congr 1
                                rw [Bool.eq_iff_iff, beq_iff_eq, beq_iff_eq]
                                exact ⟨fun e => UInt8.toNat_inj.1 (show y.toNat = 93 by omega), fun e => by rw [e]; rfl⟩
                              · refine .inl ⟨beq_iff_eq.2 (by omega), ?_⟩
                                rw [← hs1, List.getD_eq_getElem?_getD, List.getElem?_eq_none (by omega)]; rfl
                            clear hs1 hg1
                            rcases hend with ⟨z4, rfl⟩ | ⟨z4, hqs, z5⟩
                            · rcases hld2 with z2 | ⟨z2, z3⟩
                              all_goals
                                go_wp2_with (fail)
                                go_meet
                                exact ⟨by first | rfl | trivial, by first | rfl | trivial⟩
                            · have hqi2 : (q : Int) < (l.length : Int) := by omega
                              rcases hld2 with z2 | ⟨z2, z3⟩
                              all_goals first
                                | exact absurd hqi2 hqi
                                | (go_wp2_with (fail); go_meet; exact ⟨by first | rfl | trivial, by first | rfl | trivial⟩)
                    case rest => as_aux_lemma =>
                      obtain ⟨rfl, rfl⟩ := hcut
                      cases st with
                      | true =>
                        have HX3 := Lib.hid (show false = AA from HX2.out)
                        go_wp2_with (fail)
                        go_ret
                        exact ⟨by have h := HX3.out; subst h; rfl, HB.out⟩
                      | false =>
                        have HX3 := Lib.hid (show pthB g false (l.drop (q + 1)) = AA from HX2.out)
                        have hq93 : q < l.length := by
                          rcases Nat.lt_or_ge q l.length with h | h
                          · exact h
                          · exfalso
                            have h2 := HST.out
                            unfold stepI at h2
                            rw [HQ.out, List.getD_eq_getElem?_getD, List.getElem?_eq_none (by omega), Bool.or_eq_false_iff] at h2
                            exact absurd h2.2 (by decide)
                        go_wp2_with (fail)
                        go_roundw
                        case rel => exact ⟨q + 1, g, false, by omega, by go_num, rfl, by omega, (fun h => by cases h), HX3, HB⟩
                        case measure => simp [intOf]; omega
      · have hE := HE.out
        have hhd : (l.drop j).headD 0 = l.getD j 0 := by rw [List.headD_eq_head?_getD, List.head?_drop, List.getD_eq_getElem?_getD]
        cases b with
        | true =>
          have h0 : l.drop j = [] ∨ (l.drop j).headD 0 ≠ 91 := by
            rcases Nat.lt_or_ge j l.length with h | h
            · exact .inr (fun e => h91 ⟨h, by rw [← hhd]; exact e⟩)
            · exact .inl (List.drop_eq_nil_of_le h)
          rw [pth_first g _ h0] at hE
          obtain ⟨p, hp⟩ : ∃ p, p = j := ⟨_, rfl⟩
          rw [← hp] at hE
          have hE2 := hE
          have hpl : p ≤ l.length := by omega
          have hpj : j ≤ p := by omega
          have hend : (¬ (j : Int) < (l.length : Int)) ∨ ((j : Int) < (l.length : Int) ∧ ∃ hjs : j < s.size, ((((s[j]'hjs).toNat : Nat) : Int) == 91) = false) := by
            rcases Nat.lt_or_ge j l.length with h | h
            · have hjs : j < s.size := by omega
              refine .inr ⟨by omega, hjs, ?_⟩
              rw [HG.out j hjs]
              exact beq_eq_false_iff_ne.2 (fun e => h91 ⟨h, UInt8.toNat_inj.1 (show (l.getD j 0).toNat = 91 by omega)⟩)
            · exact .inl (by omega)
          subst hp
          clear hE h0 hhd h91 hb0
          rcases hend with z0 | ⟨z0, hjs, z00⟩
          · go_upto_region 18 with (fail)
            have hnl := wl_le (l.drop p)
            rw [List.length_drop] at hnl
            obtain ⟨n, hn⟩ : ∃ n, wl (l.drop p) = n := ⟨_, rfl⟩
            obtain ⟨wd, hwd⟩ : ∃ wd, wordsL.contains ((l.drop p).take n) = wd := ⟨_, rfl⟩
            have HLP := Lib.hid (HLD.out p hpl)
            have HFP := HSF.out p hpl
            have HMP : ∀ wx, (Instr.slice 9 (.string s) (some (.int .i64 (p : Nat))) (some (.int .i64 ((p : Int) + (n : Int)))) none).run Tryz.prog wx = .ok (.string (bs ((l.drop p).take n))) wx := fun wx => by
              have h := HSM.out p (p + n) (by omega) (by omega) wx
              rw [Nat.add_sub_cancel_left, show ((p + n : Nat) : Int) = (p : Int) + (n : Int) by omega] at h
              exact h
            have HWP := Lib.hid (HWD.out ((l.drop p).take n))
            rw [hn] at HLP hnl hE2
            rw [hwd] at HWP hE2
            have HX := Lib.hid hE2
            have HDP := Lib.hid (show (l.drop p).drop n = l.drop (p + n) by rw [List.drop_drop])
            clear hE2 hn hwd
            go_cut [8] (fun v wx => v = .int .i64 (n : Nat) ∧ wr = wx)
            case first => as_aux_lemma =>
              go_wp2_with (go_at_call 63; refine (HLP.out _).mono ?_; rintro e w1 ⟨rfl, rfl⟩)
              go_meet
              exact ⟨by first | rfl | trivial, by first | rfl | trivial⟩
            case rest => as_aux_lemma =>
              obtain ⟨rfl, rfl⟩ := hcut
              clear HLP HFP
              go_upto_region 19 with (fail)
              go_cut [110] (fun v wx => v = .bool (n == 0 || wd) ∧ Hid (Below w.heap.size w wx))
              case first => as_aux_lemma =>
                by_cases hn0 : n = 0
                · have z1 : ((n : Int) == 0) = true := beq_iff_eq.2 (by omega)
                  have z2 : (n == 0 || wd) = true := by rw [hn0]; rfl
                  have HZ2 := Lib.hid z2
                  clear hn0 z2
                  go_wp2_with (fail)
                  go_meet
                  exact ⟨by rw [HZ2.out], HB⟩
                · have z1 : ((n : Int) == 0) = false := beq_eq_false_iff_ne.2 (by omega)
                  have z2 : (n == 0 || wd) = wd := by rw [show (n == 0) = false from beq_eq_false_iff_ne.2 hn0]; rfl
                  have HZ2 := Lib.hid z2
                  clear hn0 z2
                  go_wp2_with (go_at_call 64; refine (HWP.out _).mono ?_; rintro e w1 ⟨rfl, hb1⟩; have HB1 := Lib.hid (bthN HB.out hb1); clear hb1)
                  go_meet
                  exact ⟨by rw [HZ2.out], HB1⟩
              case rest => as_aux_lemma =>
                obtain ⟨rfl, HB2⟩ := hcut
                cases hz : (n == 0 || wd) with
                | true =>
                  have HX3 := Lib.hid (show false = AA from by have h := HX.out; rw [hz] at h; exact h)
                  clear hz
                  go_wp2_with (fail)
                  go_ret
                  exact ⟨by have h := HX3.out; subst h; rfl, HB2.out⟩
                | false =>
                  have HX3 := Lib.hid (show pthB g false (l.drop (p + n)) = AA from by have h := HX.out; rw [hz, HDP.out] at h; exact h)
                  have hn1 : n ≠ 0 := fun e => by rw [e] at hz; cases hz
                  clear hz
                  go_wp2_with (fail)
                  go_roundw
                  case rel => exact ⟨p + n, g, false, by omega, by go_num, rfl, by omega, (fun h => by cases h), HX3, HB2⟩
                  case measure => simp [intOf]; omega
          · go_upto_region 18 with (fail)
            have hnl := wl_le (l.drop p)
            rw [List.length_drop] at hnl
            obtain ⟨n, hn⟩ : ∃ n, wl (l.drop p) = n := ⟨_, rfl⟩
            obtain ⟨wd, hwd⟩ : ∃ wd, wordsL.contains ((l.drop p).take n) = wd := ⟨_, rfl⟩
            have HLP := Lib.hid (HLD.out p hpl)
            have HFP := HSF.out p hpl
            have HMP : ∀ wx, (Instr.slice 9 (.string s) (some (.int .i64 (p : Nat))) (some (.int .i64 ((p : Int) + (n : Int)))) none).run Tryz.prog wx = .ok (.string (bs ((l.drop p).take n))) wx := fun wx => by
              have h := HSM.out p (p + n) (by omega) (by omega) wx
              rw [Nat.add_sub_cancel_left, show ((p + n : Nat) : Int) = (p : Int) + (n : Int) by omega] at h
              exact h
            have HWP := Lib.hid (HWD.out ((l.drop p).take n))
            rw [hn] at HLP hnl hE2
            rw [hwd] at HWP hE2
            have HX := Lib.hid hE2
            have HDP := Lib.hid (show (l.drop p).drop n = l.drop (p + n) by rw [List.drop_drop])
            clear hE2 hn hwd
            go_cut [8] (fun v wx => v = .int .i64 (n : Nat) ∧ wr = wx)
            case first => as_aux_lemma =>
              go_wp2_with (go_at_call 63; refine (HLP.out _).mono ?_; rintro e w1 ⟨rfl, rfl⟩)
              go_meet
              exact ⟨by first | rfl | trivial, by first | rfl | trivial⟩
            case rest => as_aux_lemma =>
              obtain ⟨rfl, rfl⟩ := hcut
              clear HLP HFP
              go_upto_region 19 with (fail)
              go_cut [110] (fun v wx => v = .bool (n == 0 || wd) ∧ Hid (Below w.heap.size w wx))
              case first => as_aux_lemma =>
                by_cases hn0 : n = 0
                · have z1 : ((n : Int) == 0) = true := beq_iff_eq.2 (by omega)
                  have z2 : (n == 0 || wd) = true := by rw [hn0]; rfl
                  have HZ2 := Lib.hid z2
                  clear hn0 z2
                  go_wp2_with (fail)
                  go_meet
                  exact ⟨by rw [HZ2.out], HB⟩
                · have z1 : ((n : Int) == 0) = false := beq_eq_false_iff_ne.2 (by omega)
                  have z2 : (n == 0 || wd) = wd := by rw [show (n == 0) = false from beq_eq_false_iff_ne.2 hn0]; rfl
                  have HZ2 := Lib.hid z2
                  clear hn0 z2
                  go_wp2_with (go_at_call 64; refine (HWP.out _).mono ?_; rintro e w1 ⟨rfl, hb1⟩; have HB1 := Lib.hid (bthN HB.out hb1); clear hb1)
                  go_meet
                  exact ⟨by rw [HZ2.out], HB1⟩
              case rest => as_aux_lemma =>
                obtain ⟨rfl, HB2⟩ := hcut
                cases hz : (n == 0 || wd) with
                | true =>
                  have HX3 := Lib.hid (show false = AA from by have h := HX.out; rw [hz] at h; exact h)
                  clear hz
                  go_wp2_with (fail)
                  go_ret
                  exact ⟨by have h := HX3.out; subst h; rfl, HB2.out⟩
                | false =>
                  have HX3 := Lib.hid (show pthB g false (l.drop (p + n)) = AA from by have h := HX.out; rw [hz, HDP.out] at h; exact h)
                  have hn1 : n ≠ 0 := fun e => by rw [e] at hz; cases hz
                  clear hz
                  go_wp2_with (fail)
                  go_roundw
                  case rel => exact ⟨p + n, g, false, by omega, by go_num, rfl, by omega, (fun h => by cases h), HX3, HB2⟩
                  case measure => simp [intOf]; omega
        | false =>
          have hjl := HLT.out rfl
          have hjs : j < s.size := by omega
          have hne : l.drop j ≠ [] := fun e => by have := congrArg List.length e; simp at this; omega
          have hx91 : l.getD j 0 ≠ 91 := fun e => h91 ⟨hjl, e⟩
          rw [pth_next g _ hne (by rw [hhd]; exact hx91), hhd, List.tail_drop] at hE
          have hg := HG.out j hjs
          obtain ⟨x, hx⟩ : ∃ x, l.getD j 0 = x := ⟨_, rfl⟩
          rw [hx] at hE hg hx91
          have hji : (j : Int) < (l.length : Int) := by omega
          have z0 : ((((s[j]'hjs).toNat : Nat) : Int) == 91) = false := by
            rw [hg]; exact beq_eq_false_iff_ne.2 (fun e => hx91 (UInt8.toNat_inj.1 (show x.toNat = 91 by omega)))
          by_cases h46 : x = 46
          · have z1 : ((((s[j]'hjs).toNat : Nat) : Int) != 46) = false := by rw [hg, h46]; rfl
            rw [h46] at hE
            obtain ⟨p, hp⟩ : ∃ p, p = j + 1 := ⟨_, rfl⟩
            rw [← hp] at hE
            have hE2 : (if (wl (l.drop p) == 0 || wordsL.contains ((l.drop p).take (wl (l.drop p)))) = true then false else pthB g false ((l.drop p).drop (wl (l.drop p)))) = AA := hE
            have hpl : p ≤ l.length := by omega
            have hpj : j ≤ p := by omega
            clear hE hhd h91 hb0 hx hg h46 hx91 hne
            go_upto_region 18 with (fail)
            have hpi : (j : Int) + 1 = (p : Int) := by omega
            rw [hpi]
            clear hp
            have hnl := wl_le (l.drop p)
            rw [List.length_drop] at hnl
            obtain ⟨n, hn⟩ : ∃ n, wl (l.drop p) = n := ⟨_, rfl⟩
            obtain ⟨wd, hwd⟩ : ∃ wd, wordsL.contains ((l.drop p).take n) = wd := ⟨_, rfl⟩
            have HLP := Lib.hid (HLD.out p hpl)
            have HFP := HSF.out p hpl
            have HMP : ∀ wx, (Instr.slice 9 (.string s) (some (.int .i64 (p : Nat))) (some (.int .i64 ((p : Int) + (n : Int)))) none).run Tryz.prog wx = .ok (.string (bs ((l.drop p).take n))) wx := fun wx => by
              have h := HSM.out p (p + n) (by omega) (by omega) wx
              rw [Nat.add_sub_cancel_left, show ((p + n : Nat) : Int) = (p : Int) + (n : Int) by omega] at h
              exact h
            have HWP := Lib.hid (HWD.out ((l.drop p).take n))
            rw [hn] at HLP hnl hE2
            rw [hwd] at HWP hE2
            have HX := Lib.hid hE2
            have HDP := Lib.hid (show (l.drop p).drop n = l.drop (p + n) by rw [List.drop_drop])
            clear hE2 hn hwd
            go_cut [8] (fun v wx => v = .int .i64 (n : Nat) ∧ wr = wx)
            case first => as_aux_lemma =>
              go_wp2_with (go_at_call 63; refine (HLP.out _).mono ?_; rintro e w1 ⟨rfl, rfl⟩)
              go_meet
              exact ⟨by first | rfl | trivial, by first | rfl | trivial⟩
            case rest => as_aux_lemma =>
              obtain ⟨rfl, rfl⟩ := hcut
              clear HLP HFP
              go_upto_region 19 with (fail)
              go_cut [110] (fun v wx => v = .bool (n == 0 || wd) ∧ Hid (Below w.heap.size w wx))
              case first => as_aux_lemma =>
                by_cases hn0 : n = 0
                · have z1 : ((n : Int) == 0) = true := beq_iff_eq.2 (by omega)
                  have z2 : (n == 0 || wd) = true := by rw [hn0]; rfl
                  have HZ2 := Lib.hid z2
                  clear hn0 z2
                  go_wp2_with (fail)
                  go_meet
                  exact ⟨by rw [HZ2.out], HB⟩
                · have z1 : ((n : Int) == 0) = false := beq_eq_false_iff_ne.2 (by omega)
                  have z2 : (n == 0 || wd) = wd := by rw [show (n == 0) = false from beq_eq_false_iff_ne.2 hn0]; rfl
                  have HZ2 := Lib.hid z2
                  clear hn0 z2
                  go_wp2_with (go_at_call 64; refine (HWP.out _).mono ?_; rintro e w1 ⟨rfl, hb1⟩; have HB1 := Lib.hid (bthN HB.out hb1); clear hb1)
                  go_meet
                  exact ⟨by rw [HZ2.out], HB1⟩
              case rest => as_aux_lemma =>
                obtain ⟨rfl, HB2⟩ := hcut
                cases hz : (n == 0 || wd) with
                | true =>
                  have HX3 := Lib.hid (show false = AA from by have h := HX.out; rw [hz] at h; exact h)
                  clear hz
                  go_wp2_with (fail)
                  go_ret
                  exact ⟨by have h := HX3.out; subst h; rfl, HB2.out⟩
                | false =>
                  have HX3 := Lib.hid (show pthB g false (l.drop (p + n)) = AA from by have h := HX.out; rw [hz, HDP.out] at h; exact h)
                  have hn1 : n ≠ 0 := fun e => by rw [e] at hz; cases hz
                  clear hz
                  go_wp2_with (fail)
                  go_roundw
                  case rel => exact ⟨p + n, g, false, by omega, by go_num, rfl, by omega, (fun h => by cases h), HX3, HB2⟩
                  case measure => simp [intOf]; omega
          · have z1 : ((((s[j]'hjs).toNat : Nat) : Int) != 46) = true := by
              rw [hg]
              show (!(((x.toNat : Nat) : Int) == 46)) = true
              rw [show (((x.toNat : Nat) : Int) == 46) = false from beq_eq_false_iff_ne.2 (fun e => h46 (UInt8.toNat_inj.1 (show x.toNat = 46 by omega)))]; rfl
            have HX3 := Lib.hid (show false = AA from by
              rw [show (x == 46) = false from beq_eq_false_iff_ne.2 h46] at hE; exact hE)
            clear hE hhd h91 hb0 hx hg h46 hx91 hne
            go_wp2_with (fail)
            go_ret
            exact ⟨by have h := HX3.out; subst h; rfl, HB.out⟩
end Go.Proofs.YtjgdkiikkgdbaaaGreatDoor
