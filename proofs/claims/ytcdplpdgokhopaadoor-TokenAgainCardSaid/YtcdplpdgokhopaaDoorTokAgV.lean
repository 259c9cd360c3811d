/- The walk of TokenAgain, where the text has tokens. -/
import Derived.Test.YtcdplpdgokhopaaDoorTokAgW
import Derived.IntWalk
import Derived.Deep.QuietTactic
import Derived.BigQuiet
namespace Go.Proofs.YtcdplpdgokhopaaDoor
open Go.RowKit
set_option linter.unusedVariables false
set_option maxRecDepth 100000 in
set_option maxHeartbeats 8000000 in
theorem again_good (s : ByteArray) (N : Nat) (L M : Nat → TkV) (J : ByteArray) (hL : Told L (N + 1) s.size) (w : World) (hV : LibAt w) (hs : s.size ≤ 256) (hJs : J.size ≤ 1000000)
    (hT : ∀ wx, Below w.heap.size w wx → Calls Tryd.prog 6 #[.string s] wx fun x w' => ∃ ao ca, x = .returned (.tuple #[.slice ao (N + 1) ca, .agg #[.int .i64 0, .int .i64 0]]) ∧ (∀ i, i < N + 1 → TkAt w' ao i (L i)) ∧ Below wx.heap.size wx w')
    (hJ : ∀ (ao : Option Addr) (ca : Nat) wx, Below w.heap.size w wx → (∀ i, i < N + 1 → TkAt wx ao i (L i)) → Calls Tryd.prog 10 #[.slice ao (N + 1) ca] wx fun e w' => e = .returned (.string J) ∧ Below wx.heap.size wx w')
    (hT2 : (256 < J.size ∧ ∀ wx, Below w.heap.size w wx → Calls Tryd.prog 6 #[.string J] wx fun x w' => ∃ ao ca, x = .returned (.tuple #[.slice ao 0 ca, .agg #[.int .i64 3, .int .i64 0]]) ∧ Below wx.heap.size wx w')
      ∨ (J.size ≤ 256 ∧ (∀ wx, Below w.heap.size w wx → Calls Tryd.prog 6 #[.string J] wx fun x w' => ∃ ao ca, x = .returned (.tuple #[.slice ao (N + 1) ca, .agg #[.int .i64 0, .int .i64 0]]) ∧ (∀ i, i < N + 1 → TkAt w' ao i (M i)) ∧ Below wx.heap.size wx w')
        ∧ (∀ (ao bo : Option Addr) (ca cb : Nat) (wx : World), (∀ i, i < N + 1 → TkAt wx ao i (L i)) → (∀ i, i < N + 1 → TkAt wx bo i (M i)) → Calls Tryd.prog 8 #[.slice ao (N + 1) ca, .slice bo (N + 1) cb, .bool false] wx fun e w' => e = .returned (.bool true) ∧ Below wx.heap.size wx w')
        ∧ (∀ (ao : Option Addr) (ca : Nat) wx, Below w.heap.size w wx → (∀ i, i < N + 1 → TkAt wx ao i (M i)) → Calls Tryd.prog 10 #[.slice ao (N + 1) ca] wx fun e w' => e = .returned (.string J) ∧ Below wx.heap.size wx w'))) :
    Calls Tryd.prog 5 #[.string s] w fun e w' => e = .returned (.bool true) ∧ Below w.heap.size w w' := by
  have HT := Lib.hid hT
  have HJ := Lib.hid hJ
  have HT2 := Lib.hid hT2
  have HL := Lib.hid hL
  have HAW := Lib.hid (fun wx (hb : Below w.heap.size w wx) => awake_any wx (hV.held hb))
  have hml : s.size ≤ maxLen := by show s.size ≤ 9223372036854775807; omega
  have hn65 : N + 1 ≤ 65 := hL.n65
  have heq0 := flt_eq 0 0
  have heq3 := flt_eq 3 0
  have HS := Lib.hid hs
  have HJS := Lib.hid hJs
  clear hT hV hJ hT2 hL hs hJs
  go_enter Tryd.func5, Tryd.ntmps5
  go_wp2_with (go_at_call 6; refine (HT.out _ (Below.refl _ _)).mono ?_; rintro x w1 ⟨ao, ca, rfl, h1, hb1⟩; have H1 := Lib.hid h1; have HB1 := Lib.hid hb1; clear h1 hb1)
  go_loopw [5] (fun i wr => ∃ j : Nat, j ≤ N + 1 ∧ i = .int .i64 j ∧ Hid (∀ i, i < N + 1 → TkAt wr ao i (L i)) ∧ Hid (Below w.heap.size w wr)) (fun i _ => (N + 1) - (intOf i).toNat)
  case atStart => exact ⟨0, Nat.zero_le _, rfl, Lib.hid (fun i hi => (H1.out i hi).held ((Below.refl w1.heap.size w1).alloc (Nat.le_refl _) _)), Lib.hid (HB1.out.alloc HB1.out.size _)⟩
  case round =>
    obtain ⟨j, hj, rfl, HTK, HB⟩ := hrel
    by_cases hlt : j < N + 1
    · obtain ⟨b, off, rfl, c0, c1, c2, c3⟩ := HTK.out j hlt
      have f1 : ¬ (L j).a < 0 := by have := HL.out.a0 j hlt; omega
      have f2 : ¬ (s.size : Int) < (L j).a := by have := HL.out.ale j hlt; omega
      have f3 : ((L j).k == 6) = ((j : Int) == (N : Int)) := by
        by_cases hx : j = N
        · have h6 : (L j).k = 6 := by have := HL.out.last; rw [Nat.add_sub_cancel] at this; rw [hx]; exact this
          rw [h6, hx]; simp
        · have h6 := HL.out.mid j (by omega)
          rw [beq_eq_false_iff_ne.2 h6, beq_eq_false_iff_ne.2 (by omega)]
      have hw1 : IntKind.i64.wrap ((N : Int) + 1 - 1) = (N : Int) := by rw [Int.add_sub_cancel]; exact IntWalk.i64_in _ (by omega)
      have hw3 : ((N + 1 : Nat) : Int) - 1 = (N : Int) := by omega
      by_cases hj0 : 0 < j
      · obtain ⟨b', off', hbb, d0, d1, d2, d3⟩ := HTK.out (j - 1) (by omega)
        injection hbb with hbb
        injection hbb with hb1 hb2
        subst hb1 hb2
        have f6 : ¬ (L j).a ≤ (L (j - 1)).a := by
          have := HL.out.inc (j - 1) (by omega)
          rw [show j - 1 + 1 = j by omega] at this; omega
        obtain ⟨X, hX⟩ : ∃ X, L j = X := ⟨_, rfl⟩
        obtain ⟨Y, hY⟩ : ∃ Y, L (j - 1) = Y := ⟨_, rfl⟩
        rw [hX] at c0 c1 c2 c3 f1 f2 f3 f6
        rw [hY] at d0 d1 d2 d3 f6
        obtain ⟨k, t, m, a⟩ := X
        obtain ⟨k', t', m', a'⟩ := Y
        dsimp only at c0 c1 c2 c3 d0 d1 d2 d3 f1 f2 f3 f6
        have f1b : decide (a < 0) = false := decide_eq_false f1
        have f2b : decide ((s.size : Int) < a) = false := decide_eq_false f2
        have f6b : decide (a ≤ a') = false := decide_eq_false f6
        have f0 : (0 : Int) < (j : Int) := by omega
        have f0b : decide ((0 : Int) < (j : Int)) = true := decide_eq_true f0
        have f0c : decide (0 < j) = true := decide_eq_true hj0
        have w1e : IntKind.i64.wrap ((j : Int) - 1) = (j : Int) - 1 := IntWalk.i64_in _ (by omega)
        have w2e : (0 : Int) ≤ (j : Int) - 1 := by omega
        have w2f : ¬ (j : Int) - 1 < 0 := by omega
        have w3e : (j : Int) - 1 < (N : Int) + 1 := by omega
        have w4e : ((j : Int) - 1).toNat = j - 1 := by omega
        by_cases hjN : j = N
        · have f4 : (k == 6) = true := f3.trans (beq_iff_eq.2 (by omega))
          have f4b : k = 6 := beq_iff_eq.1 f4
          subst f4b
          clear f4
          have f5 : ((j : Int) == (N : Int)) = true := beq_iff_eq.2 (by omega)
          have f5c : decide ((j : Int) = (N : Int)) = true := decide_eq_true (by omega)
          have f5d : decide (j = N) = true := decide_eq_true hjN
          clear c1 c2 hX f3 d0 d1 d2 hY
          clear HL HT HJ HT2 HAW heq0 heq3 hj0 hjN HB1 H1
          have hbr := Below.refl wr.heap.size wr
          go_wp2_with fail
          go_quiet (fail)
          all_goals go_wp2_with fail
          all_goals exact ⟨⟨j + 1, by omega, by go_num, Lib.hid (fun i hi => (HTK.out i hi).held ⟨hbr.os, hbr.tape, hbr.output, hbr.size, hbr.block⟩), Lib.hid ⟨HB.out.os, HB.out.tape, HB.out.output, HB.out.size, HB.out.block⟩⟩, by simp [intOf]; omega⟩
        · have f4 : (k == 6) = false := f3.trans (beq_eq_false_iff_ne.2 (by omega))
          have f4b : ¬ k = 6 := beq_eq_false_iff_ne.1 f4
          have f4c : decide (k = 6) = false := decide_eq_false f4b
          have f5 : ((j : Int) == (N : Int)) = false := beq_eq_false_iff_ne.2 (by omega)
          have f5c : decide ((j : Int) = (N : Int)) = false := decide_eq_false (by omega)
          have f5d : decide (j = N) = false := decide_eq_false hjN
          clear c1 c2 hX f3 d0 d1 d2 hY
          clear HL HT HJ HT2 HAW heq0 heq3 hj0 hjN HB1 H1
          have hbr := Below.refl wr.heap.size wr
          go_wp2_with fail
          go_quiet (fail)
          all_goals go_wp2_with fail
          all_goals exact ⟨⟨j + 1, by omega, by go_num, Lib.hid (fun i hi => (HTK.out i hi).held ⟨hbr.os, hbr.tape, hbr.output, hbr.size, hbr.block⟩), Lib.hid ⟨HB.out.os, HB.out.tape, HB.out.output, HB.out.size, HB.out.block⟩⟩, by simp [intOf]; omega⟩
      · obtain ⟨X, hX⟩ : ∃ X, L j = X := ⟨_, rfl⟩
        rw [hX] at c0 c1 c2 c3 f1 f2 f3
        obtain ⟨k, t, m, a⟩ := X
        dsimp only at c0 c1 c2 c3 f1 f2 f3
        have f1b : decide (a < 0) = false := decide_eq_false f1
        have f2b : decide ((s.size : Int) < a) = false := decide_eq_false f2
        have f0 : ¬ (0 : Int) < (j : Int) := by omega
        have f0b : decide ((0 : Int) < (j : Int)) = false := decide_eq_false f0
        have f0c : decide (0 < j) = false := decide_eq_false hj0
        by_cases hjN : j = N
        · have f4 : (k == 6) = true := f3.trans (beq_iff_eq.2 (by omega))
          have f4b : k = 6 := beq_iff_eq.1 f4
          subst f4b
          clear f4
          have f5 : ((j : Int) == (N : Int)) = true := beq_iff_eq.2 (by omega)
          have f5c : decide ((j : Int) = (N : Int)) = true := decide_eq_true (by omega)
          have f5d : decide (j = N) = true := decide_eq_true hjN
          clear c1 c2 hX f3 f0
          clear HL HT HJ HT2 HAW heq0 heq3 hj0 hjN HB1 H1
          have hbr := Below.refl wr.heap.size wr
          go_wp2_with fail
          go_quiet (fail)
          all_goals go_wp2_with fail
          all_goals exact ⟨⟨j + 1, by omega, by go_num, Lib.hid (fun i hi => (HTK.out i hi).held ⟨hbr.os, hbr.tape, hbr.output, hbr.size, hbr.block⟩), Lib.hid ⟨HB.out.os, HB.out.tape, HB.out.output, HB.out.size, HB.out.block⟩⟩, by simp [intOf]; omega⟩
        · have f4 : (k == 6) = false := f3.trans (beq_eq_false_iff_ne.2 (by omega))
          have f4b : ¬ k = 6 := beq_eq_false_iff_ne.1 f4
          have f4c : decide (k = 6) = false := decide_eq_false f4b
          have f5 : ((j : Int) == (N : Int)) = false := beq_eq_false_iff_ne.2 (by omega)
          have f5c : decide ((j : Int) = (N : Int)) = false := decide_eq_false (by omega)
          have f5d : decide (j = N) = false := decide_eq_false hjN
          clear c1 c2 hX f3 f0
          clear HL HT HJ HT2 HAW heq0 heq3 hj0 hjN HB1 H1
          have hbr := Below.refl wr.heap.size wr
          go_wp2_with fail
          go_quiet (fail)
          all_goals go_wp2_with fail
          all_goals exact ⟨⟨j + 1, by omega, by go_num, Lib.hid (fun i hi => (HTK.out i hi).held ⟨hbr.os, hbr.tape, hbr.output, hbr.size, hbr.block⟩), Lib.hid ⟨HB.out.os, HB.out.tape, HB.out.output, HB.out.size, HB.out.block⟩⟩, by simp [intOf]; omega⟩
    · have hjx : ¬ (j : Int) < (N : Int) + 1 := by omega
      have hmj : J.size ≤ maxLen := by have := HJS.out; show J.size ≤ 9223372036854775807; omega
      clear HT HB1 H1 HL HS HJS
      rcases HT2.out with ⟨hlen, hK⟩ | ⟨hlen, hK, hSame, hK2⟩
      · have HK := Lib.hid hK
        have hl1 : (256 : Int) < (J.size : Int) := by omega
        clear hK HT2 hlen heq0
        go_wp2_with (first
          | (go_at_call 10; refine (HJ.out _ _ _ HB.out HTK.out).mono ?_; rintro x w2 ⟨rfl, hb2⟩; have HB2 := Lib.hid (onBelow HB.out (Nat.le_refl _) hb2); clear hb2)
          | (go_at_call 6; refine (HK.out _ HB2.out).mono ?_; rintro x w3 ⟨bo, cb, rfl, hb3⟩; have HB3 := Lib.hid (onBelow HB2.out (Nat.le_refl _) hb3); clear hb3)
          | (go_at_call 9; refine (HAW.out _ (HB3.out.alloc HB3.out.size _)).mono ?_; rintro x w4 ⟨rfl, hb4⟩; have HB4 := Lib.hid (onBelow HB3.out (Nat.le_refl _) (newBelow hb4)); clear hb4))
        go_ret
        exact ⟨rfl, HB4.out⟩
      · have HK := Lib.hid hK
        have HSA := Lib.hid hSame
        have HK2 := Lib.hid hK2
        have hl1 : ¬ (256 : Int) < (J.size : Int) := by omega
        clear hK hSame hK2 HT2 hlen heq3
        go_wp2_with (first
          | (go_at_call 10; refine (HK2.out _ _ _ HB4.out HM4.out).mono ?_; rintro x w5 ⟨rfl, hb5⟩; have HB5 := Lib.hid (onBelow HB4.out (Nat.le_refl _) hb5); clear hb5)
          | (go_at_call 10; refine (HJ.out _ _ _ HB.out HTK.out).mono ?_; rintro x w2 ⟨rfl, hb2⟩; have HTK2 := Lib.hid (fun i hi => (HTK.out i hi).held hb2); have HB2 := Lib.hid (onBelow HB.out (Nat.le_refl _) hb2); clear hb2)
          | (go_at_call 6; refine (HK.out _ HB2.out).mono ?_; rintro x w3 ⟨bo, cb, rfl, h3, hb3⟩; have HM3 := Lib.hid h3; have HTK3 := Lib.hid (fun i hi => (HTK2.out i hi).held hb3); have HB3 := Lib.hid (onBelow HB2.out (Nat.le_refl _) hb3); clear h3 hb3)
          | (go_at_call 8; refine (HSA.out _ _ _ _ _ (fun i hi => (HTK3.out i hi).held ((Below.refl w3.heap.size w3).alloc (Nat.le_refl _) _)) (fun i hi => (HM3.out i hi).held ((Below.refl w3.heap.size w3).alloc (Nat.le_refl _) _))).mono ?_; rintro x w4 ⟨rfl, hb4⟩; have HM4 := Lib.hid (fun i hi => (HM3.out i hi).held (newBelow hb4)); have HB4 := Lib.hid (onBelow HB3.out (Nat.le_refl _) (newBelow hb4)); clear hb4)
          | (go_at_call 9; refine (HAW.out _ HB5.out).mono ?_; rintro x w6 ⟨rfl, hb6⟩; have HB6 := Lib.hid (onBelow HB5.out (Nat.le_refl _) hb6); clear hb6))
        go_ret
        exact ⟨rfl, HB6.out⟩
end Go.Proofs.YtcdplpdgokhopaaDoor
