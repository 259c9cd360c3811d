/- The reference's kind (whole), longest, odd, bad, num. -/
import Derived.Test.YtjgdkiikkgdbaaaGreatDoorQ32
import Derived.Test.YtjgdkiikkgdbaaaGreatDoorQ54
namespace Go.Proofs.YtjgdkiikkgdbaaaGreatDoor
open Go.RowKit
set_option linter.unusedVariables false
set_option maxRecDepth 100000 in
set_option maxHeartbeats 4000000 in
theorem kind_any (l : List UInt8) (hl : l.length ≤ 1000) (w : World) : Calls Tryz.prog 114 #[.string (bs l)] w fun e w' => e = .returned (.int .i64 (kindN l : Nat)) ∧ Below w.heap.size w w' := by
  by_cases h1 : wl l = l.length
  · have hk : kindN l = 1 := by unfold kindN; rw [if_pos h1]
    have HL := Lib.hid (fun wx => refLeadL l hl wx)
    rw [hk]
    have hsz : (bs l).size = l.length := bs_size l
    obtain ⟨s, hs⟩ : ∃ s, bs l = s := ⟨_, rfl⟩
    rw [hs] at HL hsz ⊢
    have hml : s.size ≤ maxLen := by show s.size ≤ 9223372036854775807; omega
    have h1b : (((wl l : Nat) : Int) == (l.length : Int)) = true := beq_iff_eq.2 (by omega)
    clear hs hk h1
    go_enter Tryz.func114, Tryz.ntmps114
    go_wp2_with (go_at_call 63; refine (HL.out _).mono ?_; rintro e w1 ⟨rfl, rfl⟩)
    go_ret
    exact ⟨rfl, Below.refl _ _⟩
  · have hdd := refDigits_any l hl
    cases h2 : (l.all dig && !l.isEmpty) with
    | true =>
      have hk : kindN l = 2 := by unfold kindN; rw [if_neg h1, if_pos h2]
      rw [h2] at hdd
      have HL := Lib.hid (fun wx => refLeadL l hl wx)
      have HD := Lib.hid hdd
      rw [hk]
      have hsz : (bs l).size = l.length := bs_size l
      obtain ⟨s, hs⟩ : ∃ s, bs l = s := ⟨_, rfl⟩
      rw [hs] at HL HD hsz ⊢
      have hml : s.size ≤ maxLen := by show s.size ≤ 9223372036854775807; omega
      have h1b : (((wl l : Nat) : Int) == (l.length : Int)) = false := beq_eq_false_iff_ne.2 (by omega)
      clear hs hk h1 h2 hdd
      go_enter Tryz.func114, Tryz.ntmps114
      go_wp2_with (first
        | (go_at_call 63; refine (HL.out _).mono ?_; rintro e w1 ⟨rfl, rfl⟩)
        | (go_at_call 136; refine (HD.out _).mono ?_; rintro e w2 ⟨rfl, rfl⟩))
      go_ret
      exact ⟨rfl, Below.refl _ _⟩
    | false =>
      cases h3 : quoD l with
      | none => exact kind_tail l hl w h1 h2 h3
      | some t =>
        have hk : kindN l = 3 := by unfold kindN; rw [if_neg h1, if_neg (by rw [h2]; decide), if_pos (by rw [h3]; rfl)]
        rw [h2] at hdd
        have hqq := refQuoted_any l hl
        rw [h3] at hqq
        have HQ := Lib.hid (show ∀ wx, Calls Tryz.prog 78 #[.string (bs l)] wx fun e w' => e = .returned (.tuple #[.string (bs t), .bool true]) ∧ wx = w' from hqq)
        have HL := Lib.hid (fun wx => refLeadL l hl wx)
        have HD := Lib.hid hdd
        rw [hk]
        have hsz : (bs l).size = l.length := bs_size l
        obtain ⟨s, hs⟩ : ∃ s, bs l = s := ⟨_, rfl⟩
        rw [hs] at HL HD HQ hsz ⊢
        have hml : s.size ≤ maxLen := by show s.size ≤ 9223372036854775807; omega
        have h1b : (((wl l : Nat) : Int) == (l.length : Int)) = false := beq_eq_false_iff_ne.2 (by omega)
        clear hs hk h1 h2 h3 hdd hqq
        go_enter Tryz.func114, Tryz.ntmps114
        go_wp2_with (first
          | (go_at_call 63; refine (HL.out _).mono ?_; rintro e w1 ⟨rfl, rfl⟩)
          | (go_at_call 136; refine (HD.out _).mono ?_; rintro e w2 ⟨rfl, rfl⟩)
          | (go_at_call 78; refine (HQ.out _).mono ?_; rintro e w3 ⟨rfl, rfl⟩))
        go_ret
        exact ⟨rfl, Below.refl _ _⟩
/-- the longest beginning that is a token: by the reference's loop -/
def lgA (l : List UInt8) : Nat → Nat → Nat → Nat → Nat × Nat
  | 0, _, best, k => if k = 3 then (0, 0) else (best, k)
  | f + 1, n, best, k =>
    if kindN (l.take n) = 3 ∧ (n = l.length ∨ l.getD n 0 ≠ 39) then (n, 3)
    else if l.getD 0 0 ≠ 39 ∧ kindN (l.take n) = 0 ∧ 1 < n then (best, k)
    else if kindN (l.take n) = 0 then lgA l f (n + 1) best k else lgA l f (n + 1) n (kindN (l.take n))
def lgN (l : List UInt8) : Nat × Nat := lgA l l.length 1 0 0
set_option maxRecDepth 100000 in
set_option maxHeartbeats 4000000 in
theorem longest_any (l : List UInt8) (h0 : l ≠ []) (hl : l.length ≤ 1000) (w : World) : Calls Tryz.prog 75 #[.string (bs l)] w fun e w' => e = .returned (.tuple #[.int .i64 ((lgN l).1 : Nat), .int .i64 ((lgN l).2 : Nat)]) ∧ Below w.heap.size w w' := by
  have HKD := Lib.hid (fun (n : Nat) (wx : World) => kind_any (l.take n) (by rw [List.length_take]; omega) wx)
  have HTO := Lib.hid (sl_to l)
  have HG := Lib.hid (bs_get l)
  have hsz : (bs l).size = l.length := bs_size l
  have hpos : 0 < l.length := List.length_pos_iff.2 h0
  obtain ⟨x0, hx0⟩ : ∃ x, l[0]'hpos = x := ⟨_, rfl⟩
  have hd0 := (getD_get l 0 hpos).trans hx0
  have hgq : ∀ h : 0 < (bs l).size, (bs l)[0]'h = x0 := fun h => (bs_get l 0 h hpos).trans hx0
  obtain ⟨Z, hZ⟩ : ∃ Z, lgN l = Z := ⟨_, rfl⟩
  have HZ := Lib.hid (show lgA l l.length 1 0 0 = Z from hZ)
  rw [hZ]
  obtain ⟨z1, z2⟩ := Z
  have hGG : ∀ i (h : i < (bs l).size) (h' : i < l.length), (bs l)[i]'h = l[i]'h' := bs_get l
  clear HG
  obtain ⟨s, hs⟩ : ∃ s, bs l = s := ⟨_, rfl⟩
  rw [hs] at HTO hsz hgq hGG ⊢
  have HG := Lib.hid hGG
  have hlt0 : 0 < s.size := by omega
  have hg0 := hgq hlt0
  have hml : s.size ≤ maxLen := by show s.size ≤ 9223372036854775807; omega
  clear hs hGG hZ hx0 hgq
  go_enter Tryz.func75, Tryz.ntmps75
  go_wp2_with (fail)
  go_loopw [4, 5, 6] (fun b k i wr => ∃ j best kk : Nat, 1 ≤ j ∧ j ≤ l.length + 1 ∧ i = .int .i64 j ∧ b = .int .i64 (best : Nat) ∧ k = .int .i64 (kk : Nat) ∧ best ≤ l.length ∧ Hid (lgA l (l.length + 1 - j) j best kk = (z1, z2)) ∧ Hid (Below w.heap.size w wr)) (fun _ _ i _ => l.length + 1 - (intOf i).toNat)
  case atStart => exact ⟨1, 0, 0, Nat.le_refl _, by omega, rfl, rfl, rfl, Nat.zero_le _, HZ, Lib.hid (Below.refl _ _)⟩
  case round =>
    obtain ⟨j, best, kk, hj1, hj, rfl, rfl, rfl, hb, HR, HB⟩ := hrel
    by_cases hlt : j ≤ l.length
    · have hf : l.length + 1 - j = (l.length + 1 - (j + 1)) + 1 := by omega
      have hr := HR.out
      rw [hf, lgA] at hr
      have hsl := HTO.out j hlt
      have hkd := HKD.out j
      obtain ⟨X, hX⟩ : ∃ X, bs (l.take j) = X := ⟨_, rfl⟩
      rw [hX] at hsl hkd
      obtain ⟨c, hc⟩ : ∃ c, kindN (l.take j) = c := ⟨_, rfl⟩
      rw [hc] at hkd hr
      rw [hd0] at hr
      have HKX := Lib.hid hkd
      clear hX hc hkd hf
      by_cases hc3 : c = 3
      · subst hc3
        by_cases hend : j = l.length
        · rw [if_pos ⟨rfl, .inl hend⟩] at hr
          injection hr with e1 e2
          have HE1 := Lib.hid e1
          have HE2 := Lib.hid e2
          have hei : ((j : Int) == (l.length : Int)) = true := beq_iff_eq.2 (by omega)
          clear e1 e2 hend
          go_wp2_with (go_at_call 114; refine (HKX.out _).mono ?_; rintro e w1 ⟨rfl, hb1⟩; have HB1 := Lib.hid (onBelow HB.out (Nat.le_refl _) hb1); clear hb1)
          go_ret2
          exact ⟨by have a := HE1.out; have b := HE2.out; subst a; subst b; rfl, HB1.out⟩
        · have hlt2 : j < s.size := by omega
          have hgj := HG.out j hlt2 (by omega)
          have hdj := getD_get l j (by omega)
          obtain ⟨y, hy⟩ : ∃ y, l[j]'(by omega) = y := ⟨_, rfl⟩
          rw [hy] at hgj hdj
          rw [hdj] at hr
          have hei : ((j : Int) == (l.length : Int)) = false := beq_eq_false_iff_ne.2 (by omega)
          clear hy hdj
          by_cases hy39 : y = 39
          · rw [if_neg (fun h => by rcases h.2 with h2 | h2; exact hend h2; exact h2 hy39), if_neg (fun h => absurd h.2.1 (by decide)), if_neg (by decide)] at hr
            have HE := Lib.hid hr
            have hyi := u8_39 hy39
            clear hr hend hy39
            by_cases hx39 : x0 = 39
            · have hxi := u8_39 hx39
              clear hx39
              go_wp2_with (go_at_call 114; refine (HKX.out _).mono ?_; rintro e w1 ⟨rfl, hb1⟩; have HB1 := Lib.hid (onBelow HB.out (Nat.le_refl _) hb1); clear hb1)
              go_roundw
              case rel => exact ⟨j + 1, j, _, by omega, by omega, by go_num, by first | rfl | go_num, rfl, by omega, HE, HB1⟩
              case measure => simp [intOf]; omega
            · have hxi := u8_m39 hx39
              clear hx39
              go_wp2_with (go_at_call 114; refine (HKX.out _).mono ?_; rintro e w1 ⟨rfl, hb1⟩; have HB1 := Lib.hid (onBelow HB.out (Nat.le_refl _) hb1); clear hb1)
              go_roundw
              case rel => exact ⟨j + 1, j, _, by omega, by omega, by go_num, by first | rfl | go_num, rfl, by omega, HE, HB1⟩
              case measure => simp [intOf]; omega
          · rw [if_pos ⟨rfl, .inr hy39⟩] at hr
            injection hr with e1 e2
            have HE1 := Lib.hid e1
            have HE2 := Lib.hid e2
            have hyi := u8_m39 hy39
            clear e1 e2 hy39 hend
            go_wp2_with (go_at_call 114; refine (HKX.out _).mono ?_; rintro e w1 ⟨rfl, hb1⟩; have HB1 := Lib.hid (onBelow HB.out (Nat.le_refl _) hb1); clear hb1)
            go_ret2
            exact ⟨by have a := HE1.out; have b := HE2.out; subst a; subst b; rfl, HB1.out⟩
      · rw [if_neg (fun h => hc3 h.1)] at hr
        have hci3 : ((c : Int) == 3) = false := beq_eq_false_iff_ne.2 (by omega)
        by_cases hc0 : c = 0
        · subst hc0
          by_cases hx39 : x0 = 39
          · rw [if_neg (fun h => h.1 hx39), if_pos rfl] at hr
            have HE := Lib.hid hr
            have hxi := u8_39 hx39
            clear hr hx39 hc3
            go_wp2_with (go_at_call 114; refine (HKX.out _).mono ?_; rintro e w1 ⟨rfl, hb1⟩; have HB1 := Lib.hid (onBelow HB.out (Nat.le_refl _) hb1); clear hb1)
            go_roundw
            case rel => exact ⟨j + 1, best, kk, by omega, by omega, by go_num, rfl, rfl, hb, HE, HB1⟩
            case measure => simp [intOf]; omega
          · have hxi := u8_m39 hx39
            by_cases hj2 : 1 < j
            · rw [if_pos ⟨hx39, rfl, hj2⟩] at hr
              injection hr with e1 e2
              have HE1 := Lib.hid e1
              have HE2 := Lib.hid e2
              have hji : (1 : Int) < (j : Int) := by omega
              clear e1 e2 hx39 hj2 hc3
              go_wp2_with (go_at_call 114; refine (HKX.out _).mono ?_; rintro e w1 ⟨rfl, hb1⟩; have HB1 := Lib.hid (onBelow HB.out (Nat.le_refl _) hb1); clear hb1)
              go_ret2
              exact ⟨by have a := HE1.out; have b := HE2.out; subst a; subst b; rfl, HB1.out⟩
            · rw [if_neg (fun h => hj2 h.2.2), if_pos rfl] at hr
              have HE := Lib.hid hr
              have hji : ¬ (1 : Int) < (j : Int) := by omega
              clear hr hx39 hj2 hc3
              go_wp2_with (go_at_call 114; refine (HKX.out _).mono ?_; rintro e w1 ⟨rfl, hb1⟩; have HB1 := Lib.hid (onBelow HB.out (Nat.le_refl _) hb1); clear hb1)
              go_roundw
              case rel => exact ⟨j + 1, best, kk, by omega, by omega, by go_num, rfl, rfl, hb, HE, HB1⟩
              case measure => simp [intOf]; omega
        · have hcp : (0 : Int) < (c : Int) := by omega
          have hci0 : ((c : Int) == 0) = false := beq_eq_false_iff_ne.2 (by omega)
          rw [if_neg (fun h => hc0 h.2.1), if_neg hc0] at hr
          have HE := Lib.hid hr
          clear hr hc0 hc3
          by_cases hx39 : x0 = 39
          · have hxi := u8_39 hx39
            clear hx39
            go_wp2_with (go_at_call 114; refine (HKX.out _).mono ?_; rintro e w1 ⟨rfl, hb1⟩; have HB1 := Lib.hid (onBelow HB.out (Nat.le_refl _) hb1); clear hb1)
            go_roundw
            case rel => exact ⟨j + 1, j, _, by omega, by omega, by go_num, by first | rfl | go_num, rfl, by omega, HE, HB1⟩
            case measure => simp [intOf]; omega
          · have hxi := u8_m39 hx39
            clear hx39
            go_wp2_with (go_at_call 114; refine (HKX.out _).mono ?_; rintro e w1 ⟨rfl, hb1⟩; have HB1 := Lib.hid (onBelow HB.out (Nat.le_refl _) hb1); clear hb1)
            go_roundw
            case rel => exact ⟨j + 1, j, _, by omega, by omega, by go_num, by first | rfl | go_num, rfl, by omega, HE, HB1⟩
            case measure => simp [intOf]; omega
    · obtain rfl : j = l.length + 1 := by omega
      have hr := HR.out
      rw [Nat.sub_self] at hr
      have hr2 : (if kk = 3 then (0, 0) else (best, kk)) = (z1, z2) := hr
      clear hr
      by_cases hk3 : kk = 3
      · rw [if_pos hk3] at hr2
        injection hr2 with e1 e2
        have HE1 := Lib.hid e1
        have HE2 := Lib.hid e2
        have hki : ((kk : Int) == 3) = true := beq_iff_eq.2 (by omega)
        clear e1 e2 hk3
        go_wp2_with (fail)
        go_ret2
        exact ⟨by have a := HE1.out; have b := HE2.out; subst a; subst b; rfl, HB.out⟩
      · rw [if_neg hk3] at hr2
        injection hr2 with e1 e2
        have HE1 := Lib.hid e1
        have HE2 := Lib.hid e2
        have hki : ((kk : Int) == 3) = false := beq_eq_false_iff_ne.2 (by omega)
        clear e1 e2 hk3
        go_wp2_with (fail)
        go_ret2
        exact ⟨by have a := HE1.out; have b := HE2.out; subst a; subst b; rfl, HB.out⟩
end Go.Proofs.YtjgdkiikkgdbaaaGreatDoor
/- The reference's odd, bad, num. -/
namespace Go.Proofs.YtjgdkiikkgdbaaaGreatDoor
open Go.RowKit
set_option linter.unusedVariables false
theorem getD_take (l : List UInt8) (n i : Nat) (h : i < n) : (l.take n).getD i 0 = l.getD i 0 := by
  rw [List.getD_eq_getElem?_getD, List.getD_eq_getElem?_getD, List.getElem?_take, if_pos h]
theorem getD_drop (l : List UInt8) (j i : Nat) : (l.drop j).getD i 0 = l.getD (j + i) 0 := by
  rw [List.getD_eq_getElem?_getD, List.getD_eq_getElem?_getD, List.getElem?_drop]
/-- the bytes that a text in quotes has, or all -/
def segOf (t : List UInt8) (n : Nat) : List UInt8 := if 0 < n then t.take n else t
def oddV (j : Nat) (o : Option Nat) : Int := match o with | some i => ((j + i : Nat) : Int) | none => -1
theorem seg_len (t : List UInt8) (n : Nat) (h : n ≤ t.length) : (segOf t n).length = if 0 < n then n else t.length := by
  unfold segOf; split
  · rw [List.length_take]; omega
  · rfl
theorem seg_get (t : List UInt8) (n i : Nat) (h : i < (segOf t n).length) : (segOf t n).getD i 0 = t.getD i 0 := by
  unfold segOf at h ⊢; split
  · rename_i hn; rw [if_pos hn, List.length_take] at h; exact getD_take t n i (by omega)
  · rfl
set_option maxRecDepth 100000 in
set_option maxHeartbeats 4000000 in
theorem odd_any (l : List UInt8) (j : Nat) (hj : j < l.length) (hl : l.length ≤ 1000) (hle : (lgN (l.drop j)).1 ≤ (l.drop j).length) (w : World) : Calls Tryz.prog 74 #[.string (bs l), .int .i64 (j : Nat)] w fun e w' => e = .returned (.int .i64 (oddV j ((segOf (l.drop j) (lgN (l.drop j)).1).findIdx? badB))) ∧ Below w.heap.size w w' := by
  have HLG := Lib.hid (fun wx => longest_any (l.drop j) (by intro h; rw [List.drop_eq_nil_iff] at h; omega) (by rw [List.length_drop]; omega) wx)
  have hsl := sl_from l j (by omega)
  have hsz : (bs l).size = l.length := bs_size l
  have hGG : ∀ i (h : i < (bs l).size) (h' : i < l.length), (bs l)[i]'h = l[i]'h' := bs_get l
  obtain ⟨n, hn⟩ : ∃ n, (lgN (l.drop j)).1 = n := ⟨_, rfl⟩
  obtain ⟨k, hk⟩ : ∃ k, (lgN (l.drop j)).2 = k := ⟨_, rfl⟩
  rw [hn, hk] at HLG
  rw [hn] at hle ⊢
  have hlen := seg_len (l.drop j) n hle
  rw [List.length_drop] at hle hlen
  have HSG := Lib.hid (seg_get (l.drop j) n)
  have HHIT := Lib.hid (findIdx_hit badB (segOf (l.drop j) n))
  have HMISS := Lib.hid (findIdx_miss badB (segOf (l.drop j) n))
  have HGD := Lib.hid (fun i => getD_drop l j i)
  obtain ⟨S, hS⟩ : ∃ S, segOf (l.drop j) n = S := ⟨_, rfl⟩
  rw [hS] at hlen HSG HHIT HMISS ⊢
  obtain ⟨o, ho⟩ : ∃ o, S.findIdx? badB = o := ⟨_, rfl⟩
  rw [ho] at HHIT HMISS ⊢
  obtain ⟨m, hm⟩ : ∃ m, S.length = m := ⟨_, rfl⟩
  rw [hm] at hlen HSG HHIT HMISS
  obtain ⟨s, hs⟩ : ∃ s, bs l = s := ⟨_, rfl⟩
  rw [hs] at hsl hsz hGG ⊢
  obtain ⟨X, hX⟩ : ∃ X, bs (l.drop j) = X := ⟨_, rfl⟩
  rw [hX] at hsl HLG
  have HG := Lib.hid hGG
  have hml : s.size ≤ maxLen := by show s.size ≤ 9223372036854775807; omega
  have hme : j + m ≤ l.length := by split at hlen <;> omega
  clear hn hk hS ho hm hs hX hGG
  have main : ∀ cnd : Prop, (cnd ↔ (0 : Int) < (n : Int)) → True := fun _ _ => trivial
  clear main
  by_cases h0 : (0 : Int) < (n : Int)
  · obtain ⟨E, hE⟩ : ∃ E, j + n = E := ⟨_, rfl⟩
    have HEM := Lib.hid (show j + m = E by rw [hlen, if_pos (by omega)]; exact hE)
    have hEi : (j : Int) + (n : Int) = (E : Int) := by omega
    have hEl : E ≤ l.length := by omega
    have hjE : j ≤ E := by omega
    clear hlen hE hme hle
    go_enter Tryz.func74, Tryz.ntmps74
    go_wp2_with (go_at_call 75; refine (HLG.out _).mono ?_; rintro e w1 ⟨rfl, hb1⟩; have HB1 := Lib.hid hb1; clear hb1)
    go_loopw [8] (fun i wr => ∃ q : Nat, j ≤ q ∧ q ≤ E ∧ i = .int .i64 q ∧ Hid (∀ i, i < q - j → badB (S.getD i 0) = false) ∧ wr = w1) (fun i _ => E - (intOf i).toNat)
    case atStart => exact ⟨j, Nat.le_refl _, by omega, rfl, Lib.hid (fun i hi => by omega), rfl⟩
    case round =>
      obtain ⟨q, hjq, hq, rfl, HR, rfl⟩ := hrel
      by_cases hlt : q < E
      · have hlt2 : q < s.size := by omega
        have hg := HG.out q hlt2 (by omega)
        have hqm : q - j < m := by have := HEM.out; omega
        have hgd : S.getD (q - j) 0 = l[q]'(by omega) := by rw [HSG.out (q - j) hqm, HGD.out (q - j), show j + (q - j) = q by omega, getD_get l q (by omega)]
        have hhit := HHIT.out (q - j) HR.out hqm
        have hnx := none_next (p := fun i => badB (S.getD i 0)) HR.out
        rw [hgd] at hhit hnx
        obtain ⟨x, hx⟩ : ∃ x, l[q]'(by omega) = x := ⟨_, rfl⟩
        rw [hx] at hg hhit hnx
        have hc : x.toNat < 256 := UInt8.toNat_lt x
        clear hgd hx hqm
        by_cases hbad : (x.toNat : Int) < 32 ∨ (126 : Int) < (x.toNat : Int)
        · have hb : badB x = true := by unfold badB; rw [Bool.or_eq_true, decide_eq_true_iff, decide_eq_true_iff]; omega
          have HE := Lib.hid (show oddV j o = (q : Int) by rw [hhit hb]; show ((j + (q - j) : Nat) : Int) = _; omega)
          clear hhit hnx hb
          rcases hbad with h | h
          · go_wp2_with (fail)
            go_ret
            exact ⟨by rw [HE.out]; rfl, HB1.out⟩
          · have h32 : ¬ (x.toNat : Int) < 32 := by omega
            go_wp2_with (fail)
            go_ret
            exact ⟨by rw [HE.out]; rfl, HB1.out⟩
        · have hb : badB x = false := by unfold badB; rw [Bool.or_eq_false_iff, decide_eq_false_iff_not, decide_eq_false_iff_not]; omega
          have HN := Lib.hid (show ∀ i, i < q + 1 - j → badB (S.getD i 0) = false by have h := hnx hb; rwa [show q - j + 1 = q + 1 - j by omega] at h)
          have h1 : ¬ (x.toNat : Int) < 32 := by omega
          have h2 : ¬ (126 : Int) < (x.toNat : Int) := by omega
          clear hhit hnx hb hbad
          go_wp2_with (fail)
          go_roundw
          case rel => exact ⟨q + 1, by omega, by omega, by go_num, HN, by first | rfl | trivial⟩
          case measure => simp [intOf]; omega
      · have HE := Lib.hid (show oddV j o = -1 by rw [HMISS.out (fun i hi => HR.out i (by have := HEM.out; omega))]; rfl)
        go_wp2_with (fail)
        go_ret
        exact ⟨by rw [HE.out]; rfl, HB1.out⟩
  · have HEM := Lib.hid (show j + m = l.length by rw [if_neg (by omega)] at hlen; omega)
    clear hlen hme hle
    go_enter Tryz.func74, Tryz.ntmps74
    go_wp2_with (go_at_call 75; refine (HLG.out _).mono ?_; rintro e w1 ⟨rfl, hb1⟩; have HB1 := Lib.hid hb1; clear hb1)
    go_loopw [8] (fun i wr => ∃ q : Nat, j ≤ q ∧ q ≤ l.length ∧ i = .int .i64 q ∧ Hid (∀ i, i < q - j → badB (S.getD i 0) = false) ∧ wr = w1) (fun i _ => l.length - (intOf i).toNat)
    case atStart => exact ⟨j, Nat.le_refl _, by omega, rfl, Lib.hid (fun i hi => by omega), rfl⟩
    case round =>
      obtain ⟨q, hjq, hq, rfl, HR, rfl⟩ := hrel
      by_cases hlt : q < l.length
      · have hlt2 : q < s.size := by omega
        have hg := HG.out q hlt2 (by omega)
        have hqm : q - j < m := by have := HEM.out; omega
        have hgd : S.getD (q - j) 0 = l[q]'(by omega) := by rw [HSG.out (q - j) hqm, HGD.out (q - j), show j + (q - j) = q by omega, getD_get l q (by omega)]
        have hhit := HHIT.out (q - j) HR.out hqm
        have hnx := none_next (p := fun i => badB (S.getD i 0)) HR.out
        rw [hgd] at hhit hnx
        obtain ⟨x, hx⟩ : ∃ x, l[q]'(by omega) = x := ⟨_, rfl⟩
        rw [hx] at hg hhit hnx
        have hc : x.toNat < 256 := UInt8.toNat_lt x
        clear hgd hx hqm
        by_cases hbad : (x.toNat : Int) < 32 ∨ (126 : Int) < (x.toNat : Int)
        · have hb : badB x = true := by unfold badB; rw [Bool.or_eq_true, decide_eq_true_iff, decide_eq_true_iff]; omega
          have HE := Lib.hid (show oddV j o = (q : Int) by rw [hhit hb]; show ((j + (q - j) : Nat) : Int) = _; omega)
          clear hhit hnx hb
          rcases hbad with h | h
          · go_wp2_with (fail)
            go_ret
            exact ⟨by rw [HE.out]; rfl, HB1.out⟩
          · have h32 : ¬ (x.toNat : Int) < 32 := by omega
            go_wp2_with (fail)
            go_ret
            exact ⟨by rw [HE.out]; rfl, HB1.out⟩
        · have hb : badB x = false := by unfold badB; rw [Bool.or_eq_false_iff, decide_eq_false_iff_not, decide_eq_false_iff_not]; omega
          have HN := Lib.hid (show ∀ i, i < q + 1 - j → badB (S.getD i 0) = false by have h := hnx hb; rwa [show q - j + 1 = q + 1 - j by omega] at h)
          have h1 : ¬ (x.toNat : Int) < 32 := by omega
          have h2 : ¬ (126 : Int) < (x.toNat : Int) := by omega
          clear hhit hnx hb hbad
          go_wp2_with (fail)
          go_roundw
          case rel => exact ⟨q + 1, by omega, by omega, by go_num, HN, by first | rfl | trivial⟩
          case measure => simp [intOf]; omega
      · have HE := Lib.hid (show oddV j o = -1 by rw [HMISS.out (fun i hi => HR.out i (by have := HEM.out; omega))]; rfl)
        go_wp2_with (fail)
        go_ret
        exact ⟨by rw [HE.out]; rfl, HB1.out⟩
theorem bad_any (l : List UInt8) (j : Nat) (hj : j < l.length) (hl : l.length ≤ 1000) (w : World) : Calls Tryz.prog 76 #[.string (bs l), .int .i64 (j : Nat)] w fun e w' => e = .returned (.agg #[.int .i64 (if l.getD j 0 = 39 then 2 else 11), .int .i64 (j : Nat)]) ∧ Below w.heap.size w w' := by
  have hsz : (bs l).size = l.length := bs_size l
  have hlt : j < (bs l).size := by omega
  obtain ⟨x, hx⟩ : ∃ x, l[j]'hj = x := ⟨_, rfl⟩
  have hd := (getD_get l j hj).trans hx
  have hgq : ∀ h : j < (bs l).size, (bs l)[j]'h = x := fun h => (bs_get l j h hj).trans hx
  rw [hd]
  obtain ⟨s, hs⟩ : ∃ s, bs l = s := ⟨_, rfl⟩
  rw [hs] at hsz hlt hgq ⊢
  have hg := hgq hlt
  clear hs hx hd hgq
  by_cases h39 : x = 39
  · rw [if_pos h39]
    have hi := u8_39 h39
    clear h39
    go_enter Tryz.func76, Tryz.ntmps76
    go_wp2_with (fail)
    go_returns
    exact ⟨rfl, by go_grown⟩
  · rw [if_neg h39]
    have hi := u8_m39 h39
    clear h39
    go_enter Tryz.func76, Tryz.ntmps76
    go_wp2_with (fail)
    go_returns
    exact ⟨rfl, by go_grown⟩
end Go.Proofs.YtjgdkiikkgdbaaaGreatDoor
/- The reference's num, and when two lists of tokens are the same. -/
namespace Go.Proofs.YtjgdkiikkgdbaaaGreatDoor
open Go.RowKit
set_option linter.unusedVariables false
theorem nval_snoc (l : List UInt8) (x : UInt8) : nval (l ++ [x]) = nval l * 10 + (x.toNat - 48) := by
  unfold nval; rw [List.foldl_append]; rfl
theorem nval_take_le (l : List UInt8) : ∀ j, nval (l.take j) ≤ nval l := by
  intro j
  have h := fold_acc (l.drop j) (nval (l.take j))
  have e : nval l = (l.drop j).foldl (fun n b => n * 10 + (b.toNat - 48)) (nval (l.take j)) := by
    conv => lhs; rw [← List.take_append_drop j l]
    unfold nval; rw [List.foldl_append]
  rw [e, h]
  have h2 : 1 ≤ 10 ^ (l.drop j).length := Nat.one_le_pow _ _ (by decide)
  have h3 := Nat.mul_le_mul_left (nval (l.take j)) h2
  omega
set_option maxRecDepth 100000 in
set_option maxHeartbeats 4000000 in
theorem num_any (l : List UInt8) (hl : l.length ≤ 1000) (hd : l.all dig = true) (w : World) : Calls Tryz.prog 77 #[.string (bs l)] w fun e w' => e = .returned (.tuple #[.int .u64 (if numOk l = true then nval l else 0 : Nat), .bool (numOk l)]) ∧ w = w' := by
  have hsz : (bs l).size = l.length := bs_size l
  have hGG : ∀ i (h : i < (bs l).size) (h' : i < l.length), (bs l)[i]'h = l[i]'h' := bs_get l
  have htl : (bs l).toList = l := by rw [ByteArray.toList_eq, bs_toList]
  have hok : numOk l = !(decide (20 < l.length) || (decide (l.length = 20) && !(Op.bytesLess l maxD || l == maxD))) := rfl
  have HLT := Lib.hid (numOk_lt l hd)
  have HD := Lib.hid (List.all_eq_true.1 hd)
  have HLE := Lib.hid (nval_take_le l)
  have HSN := Lib.hid (fun j (hj : j < l.length) => show nval (l.take (j + 1)) = nval (l.take j) * 10 + (l[j].toNat - 48) by rw [take_next l j hj, nval_snoc])
  obtain ⟨ok, hk⟩ : ∃ ok, numOk l = ok := ⟨_, rfl⟩
  rw [hk] at hok HLT ⊢
  obtain ⟨lt, hlt⟩ : ∃ lt, (Op.bytesLess l maxD || l == maxD) = lt := ⟨_, rfl⟩
  rw [hlt] at hok
  obtain ⟨s, hs⟩ : ∃ s, bs l = s := ⟨_, rfl⟩
  rw [hs] at hsz hGG htl ⊢
  have hgt : ∀ wx : World, (binOp .gtr 9 (.string s) (.string ⟨#[49, 56, 52, 52, 54, 55, 52, 52, 48, 55, 51, 55, 48, 57, 53, 53, 49, 54, 49, 53]⟩)).run Tryz.prog wx = .ok (.bool (!lt)) wx := fun wx => by
    rw [str_gtr, htl, show (⟨#[49, 56, 52, 52, 54, 55, 52, 52, 48, 55, 51, 55, 48, 57, 53, 53, 49, 54, 49, 53]⟩ : ByteArray).toList = maxD from by rw [ByteArray.toList_eq]; rfl, hlt]
    rfl
  have HG := Lib.hid hGG
  have HV := Lib.hid (show nval (l.take l.length) = nval l by rw [List.take_length])
  have hml : s.size ≤ maxLen := by show s.size ≤ 9223372036854775807; omega
  have HOK := Lib.hid hok
  clear hs hGG htl hlt hk hok
  have no : ok = false → (20 < l.length ∨ (l.length = 20 ∧ lt = false)) → Calls Tryz.prog 77 #[.string s] w fun e w' => e = .returned (.tuple #[.int .u64 (if ok = true then nval l else 0 : Nat), .bool ok]) ∧ w = w' := by
    intro hf hcase
    subst hf
    rw [if_neg (by decide)]
    clear HOK
    rcases hcase with h | ⟨h, rfl⟩
    · have hi : (20 : Int) < (l.length : Int) := by omega
      go_enter Tryz.func77, Tryz.ntmps77
      go_wp2_with (fail)
      go_ret2
      exact ⟨rfl, rfl⟩
    · have hi : ¬ (20 : Int) < (l.length : Int) := by omega
      have hi2 : ((l.length : Int) == 20) = true := beq_iff_eq.2 (by omega)
      clear h
      go_enter Tryz.func77, Tryz.ntmps77
      go_wp2_with (fail)
      all_goals first | (go_ret2; exact ⟨rfl, rfl⟩) | trace_state
  have yes : ok = true → (l.length < 20 ∨ (l.length = 20 ∧ lt = true)) → Calls Tryz.prog 77 #[.string s] w fun e w' => e = .returned (.tuple #[.int .u64 (if ok = true then nval l else 0 : Nat), .bool ok]) ∧ w = w' := by
    intro hf hcase
    subst hf
    rw [if_pos rfl]
    have hv := HLT.out rfl
    have hi : ¬ (20 : Int) < (l.length : Int) := by rcases hcase with h | ⟨h, _⟩ <;> omega
    have hc2 : ((l.length : Int) == 20) = false ∨ (((l.length : Int) == 20) = true ∧ lt = true) := by
      rcases hcase with h | ⟨h, h2⟩
      · exact .inl (beq_eq_false_iff_ne.2 (by omega))
      · exact .inr ⟨beq_iff_eq.2 (by omega), h2⟩
    clear hcase HOK no HLT
    rcases hc2 with hi2 | ⟨hi2, rfl⟩
    all_goals
      go_enter Tryz.func77, Tryz.ntmps77
      go_wp2_with (fail)
      go_loopw [4, 5] (fun n i wr => ∃ j : Nat, j ≤ l.length ∧ i = .int .i64 j ∧ n = .int .u64 (nval (l.take j) : Nat) ∧ wr = w) (fun _ i _ => l.length - (intOf i).toNat)
      case atStart => exact ⟨0, Nat.zero_le _, rfl, rfl, rfl⟩
      case round =>
        obtain ⟨j, hj, rfl, rfl, rfl⟩ := hrel
        by_cases hlt : j < l.length
        · have hlt2 : j < s.size := by omega
          have hg := HG.out j hlt2 hlt
          have hsn := HSN.out j hlt
          have hle := HLE.out (j + 1)
          have hdx := HD.out (l[j]) (List.getElem_mem hlt)
          obtain ⟨x, hx⟩ : ∃ x, l[j] = x := ⟨_, rfl⟩
          rw [hx] at hg hsn hdx
          have hx2 := dig_le hdx
          obtain ⟨N, hN⟩ : ∃ N, nval (l.take j) = N := ⟨_, rfl⟩
          rw [hN] at hsn
          rw [hN]
          have HS := Lib.hid hsn
          have hb : N * 10 + (x.toNat - 48) < 18446744073709551616 := by omega
          have w1 : IntKind.u64.wrap ((N : Int) * 10) = (N : Int) * 10 := by rw [IntKind.wrap_u64]; omega
          have w2 : IntKind.u8.wrap ((x.toNat : Int) - 48) = (x.toNat : Int) - 48 := by rw [IntKind.wrap_u8]; omega
          have w3 : IntKind.u64.wrap ((x.toNat : Int) - 48) = (x.toNat : Int) - 48 := by rw [IntKind.wrap_u64]; omega
          have w4 : IntKind.u64.wrap ((N : Int) * 10 + ((x.toNat : Int) - 48)) = (N : Int) * 10 + ((x.toNat : Int) - 48) := by rw [IntKind.wrap_u64]; omega
          have HX := Lib.hid (show ((nval (l.take (j + 1)) : Nat) : Int) = (N : Int) * 10 + ((x.toNat : Int) - 48) by rw [hsn]; omega)
          clear hx hN hsn hle hdx
          go_wp2_with (fail)
          go_roundw
          case rel => exact ⟨j + 1, by omega, by go_num, by rw [HX.out], by first | rfl | trivial⟩
          case measure => simp [intOf]; omega
        · obtain rfl : j = l.length := by omega
          go_wp2_with (fail)
          go_ret2
          exact ⟨by rw [← HV.out]; rfl, rfl⟩
  by_cases h1 : 20 < l.length
  · exact no (by rw [HOK.out, decide_eq_true h1]; rfl) (.inl h1)
  · by_cases h2 : l.length = 20
    · cases lt with
      | true => exact yes (by rw [HOK.out, decide_eq_false h1, decide_eq_true h2]; rfl) (.inr ⟨h2, rfl⟩)
      | false => exact no (by rw [HOK.out, decide_eq_false h1, decide_eq_true h2]; rfl) (.inr ⟨h2, rfl⟩)
    · exact yes (by rw [HOK.out, decide_eq_false h1, decide_eq_false h2]; rfl) (.inl (by omega))
end Go.Proofs.YtjgdkiikkgdbaaaGreatDoor
