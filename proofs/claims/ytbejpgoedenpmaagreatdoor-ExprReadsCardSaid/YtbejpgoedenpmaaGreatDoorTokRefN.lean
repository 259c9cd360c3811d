/- The reference's odd, bad, num. -/
import Derived.Test.YtbejpgoedenpmaaGreatDoorTokRefL
namespace Go.Proofs.YtbejpgoedenpmaaGreatDoor
open Go.RowKit
set_option linter.unusedVariables false
theorem getD_take (l : List UInt8) (n i : Nat) (h : i < n) : (l.take n).getD i 0 = l.getD i 0 := by
  rw [List.getD_eq_getElem?_getD, List.getD_eq_getElem?_getD, List.getElem?_take, if_pos h]
theorem getD_drop (l : List UInt8) (j i : Nat) : (l.drop j).getD i 0 = l.getD (j + i) 0 := by
  rw [List.getD_eq_getElem?_getD, List.getD_eq_getElem?_getD, List.getElem?_drop]
/-- the bytes that a text in quotes has, or all -/
def segOf (t : List UInt8) (n : Nat) : List UInt8 := if 0 < n then t.take n else t
def oddV (j : Nat) (o : Option Nat) : Int := match o with | some i => ((j + i : Nat) : Int) | none => -1
theorem seg_len (t : List UInt8) (n : Nat) (h : n ≤ t.length) : (segOf t n).length = if 0 < n then n else t.length := by
  unfold segOf; split
  · rw [List.length_take]; omega
  · rfl
theorem seg_get (t : List UInt8) (n i : Nat) (h : i < (segOf t n).length) : (segOf t n).getD i 0 = t.getD i 0 := by
  unfold segOf at h ⊢; split
  · rename_i hn; rw [if_pos hn, List.length_take] at h; exact getD_take t n i (by omega)
  · rfl
set_option maxRecDepth 100000 in
set_option maxHeartbeats 4000000 in
theorem odd_any (l : List UInt8) (j : Nat) (hj : j < l.length) (hl : l.length ≤ 1000) (hle : (lgN (l.drop j)).1 ≤ (l.drop j).length) (w : World) : Calls Tryz.prog 41 #[.string (bs l), .int .i64 (j : Nat)] w fun e w' => e = .returned (.int .i64 (oddV j ((segOf (l.drop j) (lgN (l.drop j)).1).findIdx? badB))) ∧ Below w.heap.size w w' := by
  have HLG := Lib.hid (fun wx => longest_any (l.drop j) (by intro h; rw [List.drop_eq_nil_iff] at h; omega) (by rw [List.length_drop]; omega) wx)
  have hsl := sl_from l j (by omega)
  have hsz : (bs l).size = l.length := bs_size l
  have hGG : ∀ i (h : i < (bs l).size) (h' : i < l.length), (bs l)[i]'h = l[i]'h' := bs_get l
  obtain ⟨n, hn⟩ : ∃ n, (lgN (l.drop j)).1 = n := ⟨_, rfl⟩
  obtain ⟨k, hk⟩ : ∃ k, (lgN (l.drop j)).2 = k := ⟨_, rfl⟩
  rw [hn, hk] at HLG
  rw [hn] at hle ⊢
  have hlen := seg_len (l.drop j) n hle
  rw [List.length_drop] at hle hlen
  have HSG := Lib.hid (seg_get (l.drop j) n)
  have HHIT := Lib.hid (findIdx_hit badB (segOf (l.drop j) n))
  have HMISS := Lib.hid (findIdx_miss badB (segOf (l.drop j) n))
  have HGD := Lib.hid (fun i => getD_drop l j i)
  obtain ⟨S, hS⟩ : ∃ S, segOf (l.drop j) n = S := ⟨_, rfl⟩
  rw [hS] at hlen HSG HHIT HMISS ⊢
  obtain ⟨o, ho⟩ : ∃ o, S.findIdx? badB = o := ⟨_, rfl⟩
  rw [ho] at HHIT HMISS ⊢
  obtain ⟨m, hm⟩ : ∃ m, S.length = m := ⟨_, rfl⟩
  rw [hm] at hlen HSG HHIT HMISS
  obtain ⟨s, hs⟩ : ∃ s, bs l = s := ⟨_, rfl⟩
  rw [hs] at hsl hsz hGG ⊢
  obtain ⟨X, hX⟩ : ∃ X, bs (l.drop j) = X := ⟨_, rfl⟩
  rw [hX] at hsl HLG
  have HG := Lib.hid hGG
  have hml : s.size ≤ maxLen := by show s.size ≤ 9223372036854775807; omega
  have hme : j + m ≤ l.length := by split at hlen <;> omega
  clear hn hk hS ho hm hs hX hGG
  have main : ∀ cnd : Prop, (cnd ↔ (0 : Int) < (n : Int)) → True := fun _ _ => trivial
  clear main
  by_cases h0 : (0 : Int) < (n : Int)
  · obtain ⟨E, hE⟩ : ∃ E, j + n = E := ⟨_, rfl⟩
    have HEM := Lib.hid (show j + m = E by rw [hlen, if_pos (by omega)]; exact hE)
    have hEi : (j : Int) + (n : Int) = (E : Int) := by omega
    have hEl : E ≤ l.length := by omega
    have hjE : j ≤ E := by omega
    clear hlen hE hme hle
    go_enter Tryz.func41, Tryz.ntmps41
    go_wp2_with (go_at_call 42; refine (HLG.out _).mono ?_; rintro e w1 ⟨rfl, hb1⟩; have HB1 := Lib.hid hb1; clear hb1)
    go_loopw [8] (fun i wr => ∃ q : Nat, j ≤ q ∧ q ≤ E ∧ i = .int .i64 q ∧ Hid (∀ i, i < q - j → badB (S.getD i 0) = false) ∧ wr = w1) (fun i _ => E - (intOf i).toNat)
    case atStart => exact ⟨j, Nat.le_refl _, by omega, rfl, Lib.hid (fun i hi => by omega), rfl⟩
    case round =>
      obtain ⟨q, hjq, hq, rfl, HR, rfl⟩ := hrel
      by_cases hlt : q < E
      · have hlt2 : q < s.size := by omega
        have hg := HG.out q hlt2 (by omega)
        have hqm : q - j < m := by have := HEM.out; omega
        have hgd : S.getD (q - j) 0 = l[q]'(by omega) := by rw [HSG.out (q - j) hqm, HGD.out (q - j), show j + (q - j) = q by omega, getD_get l q (by omega)]
        have hhit := HHIT.out (q - j) HR.out hqm
        have hnx := none_next (p := fun i => badB (S.getD i 0)) HR.out
        rw [hgd] at hhit hnx
        obtain ⟨x, hx⟩ : ∃ x, l[q]'(by omega) = x := ⟨_, rfl⟩
        rw [hx] at hg hhit hnx
        have hc : x.toNat < 256 := UInt8.toNat_lt x
        clear hgd hx hqm
        by_cases hbad : (x.toNat : Int) < 32 ∨ (126 : Int) < (x.toNat : Int)
        · have hb : badB x = true := by unfold badB; rw [Bool.or_eq_true, decide_eq_true_iff, decide_eq_true_iff]; omega
          have HE := Lib.hid (show oddV j o = (q : Int) by rw [hhit hb]; show ((j + (q - j) : Nat) : Int) = _; omega)
          clear hhit hnx hb
          rcases hbad with h | h
          · go_wp2_with (fail)
            go_ret
            exact ⟨by rw [HE.out]; rfl, HB1.out⟩
          · have h32 : ¬ (x.toNat : Int) < 32 := by omega
            go_wp2_with (fail)
            go_ret
            exact ⟨by rw [HE.out]; rfl, HB1.out⟩
        · have hb : badB x = false := by unfold badB; rw [Bool.or_eq_false_iff, decide_eq_false_iff_not, decide_eq_false_iff_not]; omega
          have HN := Lib.hid (show ∀ i, i < q + 1 - j → badB (S.getD i 0) = false by have h := hnx hb; rwa [show q - j + 1 = q + 1 - j by omega] at h)
          have h1 : ¬ (x.toNat : Int) < 32 := by omega
          have h2 : ¬ (126 : Int) < (x.toNat : Int) := by omega
          clear hhit hnx hb hbad
          go_wp2_with (fail)
          go_roundw
          case rel => exact ⟨q + 1, by omega, by omega, by go_num, HN, by first | rfl | trivial⟩
          case measure => simp [intOf]; omega
      · have HE := Lib.hid (show oddV j o = -1 by rw [HMISS.out (fun i hi => HR.out i (by have := HEM.out; omega))]; rfl)
        go_wp2_with (fail)
        go_ret
        exact ⟨by rw [HE.out]; rfl, HB1.out⟩
  · have HEM := Lib.hid (show j + m = l.length by rw [if_neg (by omega)] at hlen; omega)
    clear hlen hme hle
    go_enter Tryz.func41, Tryz.ntmps41
    go_wp2_with (go_at_call 42; refine (HLG.out _).mono ?_; rintro e w1 ⟨rfl, hb1⟩; have HB1 := Lib.hid hb1; clear hb1)
    go_loopw [8] (fun i wr => ∃ q : Nat, j ≤ q ∧ q ≤ l.length ∧ i = .int .i64 q ∧ Hid (∀ i, i < q - j → badB (S.getD i 0) = false) ∧ wr = w1) (fun i _ => l.length - (intOf i).toNat)
    case atStart => exact ⟨j, Nat.le_refl _, by omega, rfl, Lib.hid (fun i hi => by omega), rfl⟩
    case round =>
      obtain ⟨q, hjq, hq, rfl, HR, rfl⟩ := hrel
      by_cases hlt : q < l.length
      · have hlt2 : q < s.size := by omega
        have hg := HG.out q hlt2 (by omega)
        have hqm : q - j < m := by have := HEM.out; omega
        have hgd : S.getD (q - j) 0 = l[q]'(by omega) := by rw [HSG.out (q - j) hqm, HGD.out (q - j), show j + (q - j) = q by omega, getD_get l q (by omega)]
        have hhit := HHIT.out (q - j) HR.out hqm
        have hnx := none_next (p := fun i => badB (S.getD i 0)) HR.out
        rw [hgd] at hhit hnx
        obtain ⟨x, hx⟩ : ∃ x, l[q]'(by omega) = x := ⟨_, rfl⟩
        rw [hx] at hg hhit hnx
        have hc : x.toNat < 256 := UInt8.toNat_lt x
        clear hgd hx hqm
        by_cases hbad : (x.toNat : Int) < 32 ∨ (126 : Int) < (x.toNat : Int)
        · have hb : badB x = true := by unfold badB; rw [Bool.or_eq_true, decide_eq_true_iff, decide_eq_true_iff]; omega
          have HE := Lib.hid (show oddV j o = (q : Int) by rw [hhit hb]; show ((j + (q - j) : Nat) : Int) = _; omega)
          clear hhit hnx hb
          rcases hbad with h | h
          · go_wp2_with (fail)
            go_ret
            exact ⟨by rw [HE.out]; rfl, HB1.out⟩
          · have h32 : ¬ (x.toNat : Int) < 32 := by omega
            go_wp2_with (fail)
            go_ret
            exact ⟨by rw [HE.out]; rfl, HB1.out⟩
        · have hb : badB x = false := by unfold badB; rw [Bool.or_eq_false_iff, decide_eq_false_iff_not, decide_eq_false_iff_not]; omega
          have HN := Lib.hid (show ∀ i, i < q + 1 - j → badB (S.getD i 0) = false by have h := hnx hb; rwa [show q - j + 1 = q + 1 - j by omega] at h)
          have h1 : ¬ (x.toNat : Int) < 32 := by omega
          have h2 : ¬ (126 : Int) < (x.toNat : Int) := by omega
          clear hhit hnx hb hbad
          go_wp2_with (fail)
          go_roundw
          case rel => exact ⟨q + 1, by omega, by omega, by go_num, HN, by first | rfl | trivial⟩
          case measure => simp [intOf]; omega
      · have HE := Lib.hid (show oddV j o = -1 by rw [HMISS.out (fun i hi => HR.out i (by have := HEM.out; omega))]; rfl)
        go_wp2_with (fail)
        go_ret
        exact ⟨by rw [HE.out]; rfl, HB1.out⟩
theorem bad_any (l : List UInt8) (j : Nat) (hj : j < l.length) (hl : l.length ≤ 1000) (w : World) : Calls Tryz.prog 43 #[.string (bs l), .int .i64 (j : Nat)] w fun e w' => e = .returned (.agg #[.int .i64 (if l.getD j 0 = 39 then 2 else 11), .int .i64 (j : Nat)]) ∧ Below w.heap.size w w' := by
  have hsz : (bs l).size = l.length := bs_size l
  have hlt : j < (bs l).size := by omega
  obtain ⟨x, hx⟩ : ∃ x, l[j]'hj = x := ⟨_, rfl⟩
  have hd := (getD_get l j hj).trans hx
  have hgq : ∀ h : j < (bs l).size, (bs l)[j]'h = x := fun h => (bs_get l j h hj).trans hx
  rw [hd]
  obtain ⟨s, hs⟩ : ∃ s, bs l = s := ⟨_, rfl⟩
  rw [hs] at hsz hlt hgq ⊢
  have hg := hgq hlt
  clear hs hx hd hgq
  by_cases h39 : x = 39
  · rw [if_pos h39]
    have hi := u8_39 h39
    clear h39
    go_enter Tryz.func43, Tryz.ntmps43
    go_wp2_with (fail)
    go_returns
    exact ⟨rfl, by go_grown⟩
  · rw [if_neg h39]
    have hi := u8_m39 h39
    clear h39
    go_enter Tryz.func43, Tryz.ntmps43
    go_wp2_with (fail)
    go_returns
    exact ⟨rfl, by go_grown⟩
end Go.Proofs.YtbejpgoedenpmaaGreatDoor
