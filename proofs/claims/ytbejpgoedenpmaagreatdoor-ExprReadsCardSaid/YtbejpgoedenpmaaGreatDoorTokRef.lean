/- The reference's small functions of chapter 14: digits, Quoted, kind, longest, odd, bad, num. -/
import Derived.Test.YtbejpgoedenpmaaGreatDoorTokLead
namespace Go.Proofs.YtbejpgoedenpmaaGreatDoor
open Go.RowKit
set_option linter.unusedVariables false
theorem getD_get (l : List UInt8) (j : Nat) (h : j < l.length) : l.getD j 0 = l[j] := by rw [List.getD_eq_getElem?_getD, List.getElem?_eq_getElem h]; rfl
theorem digit_at (x : UInt8) (w : World) : Calls Tryz.prog 84 #[.int .u8 (x.toNat : Nat)] w fun e w' => e = .returned (.bool (dig x)) ∧ w = w' := refDigit_any x.toNat (UInt8.toNat_lt x) w
theorem all_of_getD (p : UInt8 → Bool) (l : List UInt8) (h : ∀ i, i < l.length → p (l.getD i 0) = true) : l.all p = true := by
  rw [List.all_eq_true]
  intro x hx
  obtain ⟨i, hi, rfl⟩ := List.getElem_of_mem hx
  rw [← getD_get l i hi]; exact h i hi
set_option maxRecDepth 100000 in
set_option maxHeartbeats 2000000 in
theorem refDigits_any (l : List UInt8) (hl : l.length ≤ 1000) (w : World) : Calls Tryz.prog 83 #[.string (bs l)] w fun e w' => e = .returned (.bool (l.all dig && !l.isEmpty)) ∧ w = w' := by
  have HG := Lib.hid (bs_get l)
  have HALL := Lib.hid (all_of_getD dig l)
  have hsz : (bs l).size = l.length := bs_size l
  have hem : ((bs l).toList == []) = l.isEmpty := by rw [ByteArray.toList_eq, bs_toList]; cases l <;> rfl
  obtain ⟨s, hs⟩ : ∃ s, bs l = s := ⟨_, rfl⟩
  rw [hs] at HG hsz hem ⊢
  have hml : s.size ≤ maxLen := by show s.size ≤ 9223372036854775807; omega
  have HEM := Lib.hid hem
  obtain ⟨R, hR⟩ : ∃ R, (l.all dig && !l.isEmpty) = R := ⟨_, rfl⟩
  rw [hR]
  have HRR := Lib.hid hR
  clear hs hem hR
  go_enter Tryz.func83, Tryz.ntmps83
  go_wp2_with (fail)
  go_loopw [3] (fun i wr => ∃ j : Nat, j ≤ l.length ∧ i = .int .i64 j ∧ Hid (∀ i, i < j → dig (l.getD i 0) = true) ∧ wr = w) (fun i _ => l.length - (intOf i).toNat)
  case atStart => exact ⟨0, Nat.zero_le _, rfl, Lib.hid (fun i hi => absurd hi (Nat.not_lt_zero _)), rfl⟩
  case round =>
    obtain ⟨j, hj, rfl, HR, rfl⟩ := hrel
    by_cases hlt : j < l.length
    · have hlt2 : j < s.size := by omega
      have hg := HG.out j hlt2 hlt
      have hgd := getD_get l j hlt
      obtain ⟨x, hx⟩ : ∃ x, l[j] = x := ⟨_, rfl⟩
      rw [hx] at hg hgd
      have HD := Lib.hid (digit_at x)
      cases hd : dig x with
      | true =>
        rw [hd] at HD
        have HN := Lib.hid (show ∀ i, i < j + 1 → dig (l.getD i 0) = true from fun i hi => by
          rcases Nat.lt_succ_iff_lt_or_eq.1 hi with h | h
          · exact HR.out i h
          · rw [h, hgd]; exact hd)
        clear hd hx hgd
        go_wp2_with (go_at_call 84; refine (HD.out _).mono ?_; rintro e w1 ⟨rfl, rfl⟩)
        go_roundw
        case rel => exact ⟨j + 1, by omega, by go_num, HN, by first | rfl | trivial⟩
        case measure => simp [intOf]; omega
      | false =>
        rw [hd] at HD
        have HN := Lib.hid (show R = false by
          rw [← HRR.out]
          have hmem : x ∈ l := by rw [← hx]; exact List.getElem_mem hlt
          have : l.all dig = false := by
            rw [List.all_eq_false]
            exact ⟨x, hmem, by simp [hd]⟩
          rw [this]; rfl)
        clear hd hx hgd
        go_wp2_with (go_at_call 84; refine (HD.out _).mono ?_; rintro e w1 ⟨rfl, rfl⟩)
        go_ret
        exact ⟨by rw [HN.out]; rfl, rfl⟩
    · have HN := Lib.hid (HALL.out (fun i hi => HR.out i (by omega)))
      obtain ⟨em, hem2⟩ : ∃ em, l.isEmpty = em := ⟨_, rfl⟩
      have heq := HEM.out
      rw [hem2] at heq
      have HX := Lib.hid (show R = !em by rw [← HRR.out, HN.out, hem2]; cases em <;> rfl)
      clear hem2
      cases em with
      | true =>
        go_wp2_with (fail)
        go_ret
        exact ⟨by rw [HX.out]; rfl, rfl⟩
      | false =>
        go_wp2_with (fail)
        go_ret
        exact ⟨by rw [HX.out]; rfl, rfl⟩
/-- what stands between quotes, as the reference reads it -/
def qr : List UInt8 → List UInt8 → Option (List UInt8)
  | [], _ => none
  | [c], out => if c = 39 then some out else none
  | c :: d :: r, out => if c = 39 then (if d = 39 then qr r (out ++ [39]) else none) else qr (d :: r) (out ++ [c])
def quoD (l : List UInt8) : Option (List UInt8) := if 2 ≤ l.length ∧ l.getD 0 0 = 39 then qr (l.drop 1) [] else none
def quV (o : Option (List UInt8)) : Value := match o with
  | some t => .tuple #[.string (bs t), .bool true]
  | none => .tuple #[.string ⟨#[]⟩, .bool false]
theorem qr_next (c : UInt8) (r out : List UInt8) (h : ¬ c = 39) : qr (c :: r) out = qr r (out ++ [c]) := by
  cases r with
  | nil => simp [qr, h]
  | cons d q => rw [qr, if_neg h]
theorem u8_39 {x : UInt8} (h : x = 39) : (x.toNat : Int) = 39 := by rw [h]; rfl
theorem u8_n39 {x : UInt8} (h : ¬ x = 39) : ((x.toNat : Int) == 39) = false := beq_eq_false_iff_ne.2 (fun e => h (UInt8.toNat_inj.1 (by exact_mod_cast e)))
theorem u8_m39 {x : UInt8} (h : ¬ x = 39) : ((x.toNat : Int) != 39) = true := by unfold bne; rw [u8_n39 h]; rfl
set_option maxRecDepth 100000 in
set_option maxHeartbeats 4000000 in
theorem refQuoted_any (l : List UInt8) (hl : l.length ≤ 1000) (w : World) : Calls Tryz.prog 45 #[.string (bs l)] w fun e w' => e = .returned (quV (quoD l)) ∧ w = w' := by
  have HG := Lib.hid (bs_get l)
  have HSM := Lib.hid (sl_mid l)
  have hsz : (bs l).size = l.length := bs_size l
  have hq : quoD l = if 2 ≤ l.length ∧ l.getD 0 0 = 39 then qr (l.drop 1) [] else none := rfl
  obtain ⟨s, hs⟩ : ∃ s, bs l = s := ⟨_, rfl⟩
  obtain ⟨Q, hQ⟩ : ∃ Q, quoD l = Q := ⟨_, rfl⟩
  rw [hQ] at hq ⊢
  rw [hs] at HG HSM hsz ⊢
  have hml : s.size ≤ maxLen := by show s.size ≤ 9223372036854775807; omega
  have HQ := Lib.hid hq
  clear hs hQ hq
  by_cases h2 : 2 ≤ l.length
  · have h0 : 0 < s.size := by omega
    have hg0 := HG.out 0 h0 (by omega)
    have hgd0 := getD_get l 0 (by omega)
    obtain ⟨x0, hx0⟩ : ∃ x, l[0] = x := ⟨_, rfl⟩
    rw [hx0] at hg0 hgd0
    have h2i : ¬ (l.length : Int) < 2 := by omega
    by_cases h39 : x0 = 39
    · have HQ1 := Lib.hid (show qr (l.drop 1) [] = Q by rw [HQ.out, if_pos ⟨h2, by rw [hgd0]; exact h39⟩])
      have h39i := u8_39 h39
      have hsz2 := bs_size
      have HA := Lib.hid bs_append
      clear h39 hx0 hgd0
      go_enter Tryz.func45, Tryz.ntmps45
      go_wp2_with (fail)
      go_loopw [4, 5] (fun o i wr => ∃ (j : Nat) (out : List UInt8), 1 ≤ j ∧ j ≤ l.length ∧ i = .int .i64 j ∧ o = .string (bs out) ∧ out.length ≤ j ∧ Hid (qr (l.drop j) out = Q) ∧ wr = w) (fun _ i _ => l.length - (intOf i).toNat)
      case atStart => exact ⟨1, [], Nat.le_refl _, by omega, rfl, rfl, Nat.zero_le _, HQ1, rfl⟩
      case round =>
        obtain ⟨j, out, hj1, hj, rfl, rfl, ho, HR, rfl⟩ := hrel
        by_cases hlt : j < l.length
        · have hlt2 : j < s.size := by omega
          have hg := HG.out j hlt2 hlt
          have hdr := drop_at l j hlt
          have hst : ∀ wx, (Instr.slice 9 (.string s) (some (.int .i64 (j : Int))) (some (.int .i64 ((j : Int) + 1))) none).run Tryz.prog wx = .ok (.string (bs [l[j]])) wx := fun wx => by
            have h := HSM.out j (j + 1) (by omega) (by omega) wx
            rw [hdr, Nat.add_sub_cancel_left] at h
            exact h
          obtain ⟨x, hx⟩ : ∃ x, l[j] = x := ⟨_, rfl⟩
          rw [hx] at hg hdr hst
          have q1 : ¬ 9223372036854775807 < out.length + 1 := by omega
          by_cases hx39 : x = 39
          · have hxi := u8_39 hx39
            by_cases hend : j + 1 = l.length
            · have hdn : l.drop (j + 1) = [] := List.drop_eq_nil_of_le (by omega)
              have HE := Lib.hid (show Q = some out by rw [← HR.out, hdr, hdn, hx39]; rfl)
              have hei : ((j : Int) == (l.length : Int) - 1) = true := beq_iff_eq.2 (by omega)
              clear hx hdr hdn hst hx39
              go_wp2_with (fail)
              go_ret2
              exact ⟨by rw [HE.out]; rfl, rfl⟩
            · have hlt3 : j + 1 < l.length := by omega
              have hlt4 : j + 1 < s.size := by omega
              have hg2 := HG.out (j + 1) hlt4 hlt3
              have hdr2 := drop_at l (j + 1) hlt3
              have hst2 : ∀ wx, (Instr.slice 9 (.string s) (some (.int .i64 ((j : Int) + 1))) (some (.int .i64 ((j : Int) + 1 + 1))) none).run Tryz.prog wx = .ok (.string (bs [l[j + 1]])) wx := fun wx => by
                have h := HSM.out (j + 1) (j + 1 + 1) (by omega) (by omega) wx
                rw [hdr2, Nat.add_sub_cancel_left] at h
                exact h
              have hst3 : ∀ wx, (Instr.slice 9 (.string s) (some (.int .i64 ((j : Int) + 1))) (some (.int .i64 ((j : Int) + 2))) none).run Tryz.prog wx = .ok (.string (bs [l[j + 1]])) wx := hst2
              obtain ⟨y, hy⟩ : ∃ y, l[j + 1] = y := ⟨_, rfl⟩
              rw [hy] at hg2 hdr2 hst2 hst3
              have hei : ((j : Int) == (l.length : Int) - 1) = false := beq_eq_false_iff_ne.2 (by omega)
              by_cases hy39 : y = 39
              · have HE := Lib.hid (show qr (l.drop (j + 2)) (out ++ [39]) = Q by
                  rw [← HR.out, hdr, hdr2, hx39, hy39, qr, if_pos rfl, if_pos rfl])
                have hyi := u8_39 hy39
                rw [hy39] at hst2 hst3
                clear hx hdr hdr2 hst hx39 hy hy39
                go_wp2_with (fail)
                have HAA := HA.out out [39]
                go_roundw
                case rel => exact ⟨j + 2, out ++ [39], by omega, by omega, by go_num, by rw [HAA], by simp; omega, HE, by first | rfl | trivial⟩
                case measure => simp [intOf]; omega
              · have HE := Lib.hid (show Q = none by rw [← HR.out, hdr, hdr2, hx39, qr, if_pos rfl, if_neg hy39])
                have hyi := u8_m39 hy39
                clear hx hdr hdr2 hst hst2 hst3 hx39 hy hy39
                go_wp2_with (fail)
                go_ret2
                exact ⟨by rw [HE.out]; rfl, rfl⟩
          · have HE := Lib.hid (show qr (l.drop (j + 1)) (out ++ [x]) = Q by rw [← HR.out, hdr, qr_next _ _ _ hx39])
            have hxi := u8_n39 hx39
            clear hx hdr hx39
            go_wp2_with (fail)
            have HAA := HA.out out [x]
            go_roundw
            case rel => exact ⟨j + 1, out ++ [x], by omega, by omega, by go_num, by rw [HAA], by simp; omega, HE, by first | rfl | trivial⟩
            case measure => simp [intOf]; omega
        · have HE := Lib.hid (show Q = none by rw [← HR.out, List.drop_eq_nil_of_le (by omega)]; rfl)
          go_wp2_with (fail)
          go_ret2
          exact ⟨by rw [HE.out]; rfl, rfl⟩
    · have HQ1 := Lib.hid (show Q = none by rw [HQ.out, if_neg (fun h => h39 (by rw [← hgd0]; exact h.2))])
      have h39i := u8_m39 h39
      clear h39 hx0 hgd0
      go_enter Tryz.func45, Tryz.ntmps45
      go_wp2_with (fail)
      go_ret2
      exact ⟨by rw [HQ1.out]; rfl, rfl⟩
  · have HQ1 := Lib.hid (show Q = none by rw [HQ.out, if_neg (fun h => h2 h.1)])
    have h2i : (l.length : Int) < 2 := by omega
    go_enter Tryz.func45, Tryz.ntmps45
    go_wp2_with (fail)
    go_ret2
    exact ⟨by rw [HQ1.out]; rfl, rfl⟩
end Go.Proofs.YtbejpgoedenpmaaGreatDoor
