/- The reference's kind (whole), longest, odd, bad, num. -/
import Derived.Test.YtbejpgoedenpmaaGreatDoorTokRefK
import Derived.Test.YtbejpgoedenpmaaGreatDoorTokRead
namespace Go.Proofs.YtbejpgoedenpmaaGreatDoor
open Go.RowKit
set_option linter.unusedVariables false
set_option maxRecDepth 100000 in
set_option maxHeartbeats 4000000 in
theorem kind_any (l : List UInt8) (hl : l.length ≤ 1000) (w : World) : Calls Tryz.prog 69 #[.string (bs l)] w fun e w' => e = .returned (.int .i64 (kindN l : Nat)) ∧ Below w.heap.size w w' := by
  by_cases h1 : wl l = l.length
  · have hk : kindN l = 1 := by unfold kindN; rw [if_pos h1]
    have HL := Lib.hid (fun wx => refLeadL l hl wx)
    rw [hk]
    have hsz : (bs l).size = l.length := bs_size l
    obtain ⟨s, hs⟩ : ∃ s, bs l = s := ⟨_, rfl⟩
    rw [hs] at HL hsz ⊢
    have hml : s.size ≤ maxLen := by show s.size ≤ 9223372036854775807; omega
    have h1b : (((wl l : Nat) : Int) == (l.length : Int)) = true := beq_iff_eq.2 (by omega)
    clear hs hk h1
    go_enter Tryz.func69, Tryz.ntmps69
    go_wp2_with (go_at_call 82; refine (HL.out _).mono ?_; rintro e w1 ⟨rfl, rfl⟩)
    go_ret
    exact ⟨rfl, Below.refl _ _⟩
  · have hdd := refDigits_any l hl
    cases h2 : (l.all dig && !l.isEmpty) with
    | true =>
      have hk : kindN l = 2 := by unfold kindN; rw [if_neg h1, if_pos h2]
      rw [h2] at hdd
      have HL := Lib.hid (fun wx => refLeadL l hl wx)
      have HD := Lib.hid hdd
      rw [hk]
      have hsz : (bs l).size = l.length := bs_size l
      obtain ⟨s, hs⟩ : ∃ s, bs l = s := ⟨_, rfl⟩
      rw [hs] at HL HD hsz ⊢
      have hml : s.size ≤ maxLen := by show s.size ≤ 9223372036854775807; omega
      have h1b : (((wl l : Nat) : Int) == (l.length : Int)) = false := beq_eq_false_iff_ne.2 (by omega)
      clear hs hk h1 h2 hdd
      go_enter Tryz.func69, Tryz.ntmps69
      go_wp2_with (first
        | (go_at_call 82; refine (HL.out _).mono ?_; rintro e w1 ⟨rfl, rfl⟩)
        | (go_at_call 83; refine (HD.out _).mono ?_; rintro e w2 ⟨rfl, rfl⟩))
      go_ret
      exact ⟨rfl, Below.refl _ _⟩
    | false =>
      cases h3 : quoD l with
      | none => exact kind_tail l hl w h1 h2 h3
      | some t =>
        have hk : kindN l = 3 := by unfold kindN; rw [if_neg h1, if_neg (by rw [h2]; decide), if_pos (by rw [h3]; rfl)]
        rw [h2] at hdd
        have hqq := refQuoted_any l hl
        rw [h3] at hqq
        have HQ := Lib.hid (show ∀ wx, Calls Tryz.prog 45 #[.string (bs l)] wx fun e w' => e = .returned (.tuple #[.string (bs t), .bool true]) ∧ wx = w' from hqq)
        have HL := Lib.hid (fun wx => refLeadL l hl wx)
        have HD := Lib.hid hdd
        rw [hk]
        have hsz : (bs l).size = l.length := bs_size l
        obtain ⟨s, hs⟩ : ∃ s, bs l = s := ⟨_, rfl⟩
        rw [hs] at HL HD HQ hsz ⊢
        have hml : s.size ≤ maxLen := by show s.size ≤ 9223372036854775807; omega
        have h1b : (((wl l : Nat) : Int) == (l.length : Int)) = false := beq_eq_false_iff_ne.2 (by omega)
        clear hs hk h1 h2 h3 hdd hqq
        go_enter Tryz.func69, Tryz.ntmps69
        go_wp2_with (first
          | (go_at_call 82; refine (HL.out _).mono ?_; rintro e w1 ⟨rfl, rfl⟩)
          | (go_at_call 83; refine (HD.out _).mono ?_; rintro e w2 ⟨rfl, rfl⟩)
          | (go_at_call 45; refine (HQ.out _).mono ?_; rintro e w3 ⟨rfl, rfl⟩))
        go_ret
        exact ⟨rfl, Below.refl _ _⟩
/-- the longest beginning that is a token: by the reference's loop -/
def lgA (l : List UInt8) : Nat → Nat → Nat → Nat → Nat × Nat
  | 0, _, best, k => if k = 3 then (0, 0) else (best, k)
  | f + 1, n, best, k =>
    if kindN (l.take n) = 3 ∧ (n = l.length ∨ l.getD n 0 ≠ 39) then (n, 3)
    else if l.getD 0 0 ≠ 39 ∧ kindN (l.take n) = 0 ∧ 1 < n then (best, k)
    else if kindN (l.take n) = 0 then lgA l f (n + 1) best k else lgA l f (n + 1) n (kindN (l.take n))
def lgN (l : List UInt8) : Nat × Nat := lgA l l.length 1 0 0
set_option maxRecDepth 100000 in
set_option maxHeartbeats 4000000 in
theorem longest_any (l : List UInt8) (h0 : l ≠ []) (hl : l.length ≤ 1000) (w : World) : Calls Tryz.prog 42 #[.string (bs l)] w fun e w' => e = .returned (.tuple #[.int .i64 ((lgN l).1 : Nat), .int .i64 ((lgN l).2 : Nat)]) ∧ Below w.heap.size w w' := by
  have HKD := Lib.hid (fun (n : Nat) (wx : World) => kind_any (l.take n) (by rw [List.length_take]; omega) wx)
  have HTO := Lib.hid (sl_to l)
  have HG := Lib.hid (bs_get l)
  have hsz : (bs l).size = l.length := bs_size l
  have hpos : 0 < l.length := List.length_pos_iff.2 h0
  obtain ⟨x0, hx0⟩ : ∃ x, l[0]'hpos = x := ⟨_, rfl⟩
  have hd0 := (getD_get l 0 hpos).trans hx0
  have hgq : ∀ h : 0 < (bs l).size, (bs l)[0]'h = x0 := fun h => (bs_get l 0 h hpos).trans hx0
  obtain ⟨Z, hZ⟩ : ∃ Z, lgN l = Z := ⟨_, rfl⟩
  have HZ := Lib.hid (show lgA l l.length 1 0 0 = Z from hZ)
  rw [hZ]
  obtain ⟨z1, z2⟩ := Z
  have hGG : ∀ i (h : i < (bs l).size) (h' : i < l.length), (bs l)[i]'h = l[i]'h' := bs_get l
  clear HG
  obtain ⟨s, hs⟩ : ∃ s, bs l = s := ⟨_, rfl⟩
  rw [hs] at HTO hsz hgq hGG ⊢
  have HG := Lib.hid hGG
  have hlt0 : 0 < s.size := by omega
  have hg0 := hgq hlt0
  have hml : s.size ≤ maxLen := by show s.size ≤ 9223372036854775807; omega
  clear hs hGG hZ hx0 hgq
  go_enter Tryz.func42, Tryz.ntmps42
  go_wp2_with (fail)
  go_loopw [4, 5, 6] (fun b k i wr => ∃ j best kk : Nat, 1 ≤ j ∧ j ≤ l.length + 1 ∧ i = .int .i64 j ∧ b = .int .i64 (best : Nat) ∧ k = .int .i64 (kk : Nat) ∧ best ≤ l.length ∧ Hid (lgA l (l.length + 1 - j) j best kk = (z1, z2)) ∧ Hid (Below w.heap.size w wr)) (fun _ _ i _ => l.length + 1 - (intOf i).toNat)
  case atStart => exact ⟨1, 0, 0, Nat.le_refl _, by omega, rfl, rfl, rfl, Nat.zero_le _, HZ, Lib.hid (Below.refl _ _)⟩
  case round =>
    obtain ⟨j, best, kk, hj1, hj, rfl, rfl, rfl, hb, HR, HB⟩ := hrel
    by_cases hlt : j ≤ l.length
    · have hf : l.length + 1 - j = (l.length + 1 - (j + 1)) + 1 := by omega
      have hr := HR.out
      rw [hf, lgA] at hr
      have hsl := HTO.out j hlt
      have hkd := HKD.out j
      obtain ⟨X, hX⟩ : ∃ X, bs (l.take j) = X := ⟨_, rfl⟩
      rw [hX] at hsl hkd
      obtain ⟨c, hc⟩ : ∃ c, kindN (l.take j) = c := ⟨_, rfl⟩
      rw [hc] at hkd hr
      rw [hd0] at hr
      have HKX := Lib.hid hkd
      clear hX hc hkd hf
      by_cases hc3 : c = 3
      · subst hc3
        by_cases hend : j = l.length
        · rw [if_pos ⟨rfl, .inl hend⟩] at hr
          injection hr with e1 e2
          have HE1 := Lib.hid e1
          have HE2 := Lib.hid e2
          have hei : ((j : Int) == (l.length : Int)) = true := beq_iff_eq.2 (by omega)
          clear e1 e2 hend
          go_wp2_with (go_at_call 69; refine (HKX.out _).mono ?_; rintro e w1 ⟨rfl, hb1⟩; have HB1 := Lib.hid (onBelow HB.out (Nat.le_refl _) hb1); clear hb1)
          go_ret2
          exact ⟨by have a := HE1.out; have b := HE2.out; subst a; subst b; rfl, HB1.out⟩
        · have hlt2 : j < s.size := by omega
          have hgj := HG.out j hlt2 (by omega)
          have hdj := getD_get l j (by omega)
          obtain ⟨y, hy⟩ : ∃ y, l[j]'(by omega) = y := ⟨_, rfl⟩
          rw [hy] at hgj hdj
          rw [hdj] at hr
          have hei : ((j : Int) == (l.length : Int)) = false := beq_eq_false_iff_ne.2 (by omega)
          clear hy hdj
          by_cases hy39 : y = 39
          · rw [if_neg (fun h => by rcases h.2 with h2 | h2; exact hend h2; exact h2 hy39), if_neg (fun h => absurd h.2.1 (by decide)), if_neg (by decide)] at hr
            have HE := Lib.hid hr
            have hyi := u8_39 hy39
            clear hr hend hy39
            by_cases hx39 : x0 = 39
            · have hxi := u8_39 hx39
              clear hx39
              go_wp2_with (go_at_call 69; refine (HKX.out _).mono ?_; rintro e w1 ⟨rfl, hb1⟩; have HB1 := Lib.hid (onBelow HB.out (Nat.le_refl _) hb1); clear hb1)
              go_roundw
              case rel => exact ⟨j + 1, j, _, by omega, by omega, by go_num, by first | rfl | go_num, rfl, by omega, HE, HB1⟩
              case measure => simp [intOf]; omega
            · have hxi := u8_m39 hx39
              clear hx39
              go_wp2_with (go_at_call 69; refine (HKX.out _).mono ?_; rintro e w1 ⟨rfl, hb1⟩; have HB1 := Lib.hid (onBelow HB.out (Nat.le_refl _) hb1); clear hb1)
              go_roundw
              case rel => exact ⟨j + 1, j, _, by omega, by omega, by go_num, by first | rfl | go_num, rfl, by omega, HE, HB1⟩
              case measure => simp [intOf]; omega
          · rw [if_pos ⟨rfl, .inr hy39⟩] at hr
            injection hr with e1 e2
            have HE1 := Lib.hid e1
            have HE2 := Lib.hid e2
            have hyi := u8_m39 hy39
            clear e1 e2 hy39 hend
            go_wp2_with (go_at_call 69; refine (HKX.out _).mono ?_; rintro e w1 ⟨rfl, hb1⟩; have HB1 := Lib.hid (onBelow HB.out (Nat.le_refl _) hb1); clear hb1)
            go_ret2
            exact ⟨by have a := HE1.out; have b := HE2.out; subst a; subst b; rfl, HB1.out⟩
      · rw [if_neg (fun h => hc3 h.1)] at hr
        have hci3 : ((c : Int) == 3) = false := beq_eq_false_iff_ne.2 (by omega)
        by_cases hc0 : c = 0
        · subst hc0
          by_cases hx39 : x0 = 39
          · rw [if_neg (fun h => h.1 hx39), if_pos rfl] at hr
            have HE := Lib.hid hr
            have hxi := u8_39 hx39
            clear hr hx39 hc3
            go_wp2_with (go_at_call 69; refine (HKX.out _).mono ?_; rintro e w1 ⟨rfl, hb1⟩; have HB1 := Lib.hid (onBelow HB.out (Nat.le_refl _) hb1); clear hb1)
            go_roundw
            case rel => exact ⟨j + 1, best, kk, by omega, by omega, by go_num, rfl, rfl, hb, HE, HB1⟩
            case measure => simp [intOf]; omega
          · have hxi := u8_m39 hx39
            by_cases hj2 : 1 < j
            · rw [if_pos ⟨hx39, rfl, hj2⟩] at hr
              injection hr with e1 e2
              have HE1 := Lib.hid e1
              have HE2 := Lib.hid e2
              have hji : (1 : Int) < (j : Int) := by omega
              clear e1 e2 hx39 hj2 hc3
              go_wp2_with (go_at_call 69; refine (HKX.out _).mono ?_; rintro e w1 ⟨rfl, hb1⟩; have HB1 := Lib.hid (onBelow HB.out (Nat.le_refl _) hb1); clear hb1)
              go_ret2
              exact ⟨by have a := HE1.out; have b := HE2.out; subst a; subst b; rfl, HB1.out⟩
            · rw [if_neg (fun h => hj2 h.2.2), if_pos rfl] at hr
              have HE := Lib.hid hr
              have hji : ¬ (1 : Int) < (j : Int) := by omega
              clear hr hx39 hj2 hc3
              go_wp2_with (go_at_call 69; refine (HKX.out _).mono ?_; rintro e w1 ⟨rfl, hb1⟩; have HB1 := Lib.hid (onBelow HB.out (Nat.le_refl _) hb1); clear hb1)
              go_roundw
              case rel => exact ⟨j + 1, best, kk, by omega, by omega, by go_num, rfl, rfl, hb, HE, HB1⟩
              case measure => simp [intOf]; omega
        · have hcp : (0 : Int) < (c : Int) := by omega
          have hci0 : ((c : Int) == 0) = false := beq_eq_false_iff_ne.2 (by omega)
          rw [if_neg (fun h => hc0 h.2.1), if_neg hc0] at hr
          have HE := Lib.hid hr
          clear hr hc0 hc3
          by_cases hx39 : x0 = 39
          · have hxi := u8_39 hx39
            clear hx39
            go_wp2_with (go_at_call 69; refine (HKX.out _).mono ?_; rintro e w1 ⟨rfl, hb1⟩; have HB1 := Lib.hid (onBelow HB.out (Nat.le_refl _) hb1); clear hb1)
            go_roundw
            case rel => exact ⟨j + 1, j, _, by omega, by omega, by go_num, by first | rfl | go_num, rfl, by omega, HE, HB1⟩
            case measure => simp [intOf]; omega
          · have hxi := u8_m39 hx39
            clear hx39
            go_wp2_with (go_at_call 69; refine (HKX.out _).mono ?_; rintro e w1 ⟨rfl, hb1⟩; have HB1 := Lib.hid (onBelow HB.out (Nat.le_refl _) hb1); clear hb1)
            go_roundw
            case rel => exact ⟨j + 1, j, _, by omega, by omega, by go_num, by first | rfl | go_num, rfl, by omega, HE, HB1⟩
            case measure => simp [intOf]; omega
    · obtain rfl : j = l.length + 1 := by omega
      have hr := HR.out
      rw [Nat.sub_self] at hr
      have hr2 : (if kk = 3 then (0, 0) else (best, kk)) = (z1, z2) := hr
      clear hr
      by_cases hk3 : kk = 3
      · rw [if_pos hk3] at hr2
        injection hr2 with e1 e2
        have HE1 := Lib.hid e1
        have HE2 := Lib.hid e2
        have hki : ((kk : Int) == 3) = true := beq_iff_eq.2 (by omega)
        clear e1 e2 hk3
        go_wp2_with (fail)
        go_ret2
        exact ⟨by have a := HE1.out; have b := HE2.out; subst a; subst b; rfl, HB.out⟩
      · rw [if_neg hk3] at hr2
        injection hr2 with e1 e2
        have HE1 := Lib.hid e1
        have HE2 := Lib.hid e2
        have hki : ((kk : Int) == 3) = false := beq_eq_false_iff_ne.2 (by omega)
        clear e1 e2 hk3
        go_wp2_with (fail)
        go_ret2
        exact ⟨by have a := HE1.out; have b := HE2.out; subst a; subst b; rfl, HB.out⟩
end Go.Proofs.YtbejpgoedenpmaaGreatDoor
