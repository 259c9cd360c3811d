/- Contract of package types: Deep. -/
import Derived.Test.YtohphejhlgnciaaGreatTypesCParts
import Derived.OwnWalk
namespace Go.Proofs.YtohphejhlgnciaaGreat
open Go.RowKit
set_option linter.unusedVariables false
def mostStep (D : Nat → Nat) (t : Nat) (acc : Nat) (p : Int) : Nat := if 0 ≤ p ∧ p < t then max acc (D p.toNat) else acc
theorem most_deep (D : Nat → Nat) (t : Nat) : ∀ (l : List Int) (a : Nat), l.foldl (deepStep D t) (a + 1) = l.foldl (mostStep D t) a + 1
  | [], _ => rfl
  | p :: l, a => by
    rw [List.foldl_cons, List.foldl_cons, show deepStep D t (a + 1) p = mostStep D t a p + 1 by unfold deepStep mostStep; split <;> omega]
    exact most_deep D t l _
theorem most_next {D : Nat → Nat} {t : Nat} (l : List Int) (j : Nat) (hj : j < l.length) : (l.take (j + 1)).foldl (mostStep D t) 0 = mostStep D t ((l.take j).foldl (mostStep D t) 0) (l.getD j 0) := by
  rw [List.take_succ_eq_append_getElem hj, List.foldl_append, List.getD_eq_getElem?_getD, List.getElem?_eq_getElem hj]; rfl
/-- the depths so far -/
def depL (D : Nat → Nat) (n i : Nat) : List Int := (List.range n).map fun k => if k < i then (D k : Int) else 0
theorem depL_len (D : Nat → Nat) (n i : Nat) : (depL D n i).length = n := by simp [depL]
theorem depL_zero (D : Nat → Nat) (n : Nat) : (depL D n 0).map (Value.int .i64) = List.replicate n (.int .i64 0) := by
  unfold depL
  rw [List.map_map]
  refine List.ext_getElem (by simp) fun j h1 h2 => ?_
  simp
theorem depL_get {D : Nat → Nat} {n i k : Nat} (hk : k < n) (hi : k < i) : (depL D n i).getD k 0 = (D k : Int) := by
  unfold depL
  rw [List.getD_eq_getElem?_getD, List.getElem?_map, List.getElem?_range hk]
  simp [hi]
theorem depL_set {D : Nat → Nat} {n i : Nat} : (depL D n i).set i (D i : Int) = depL D n (i + 1) := by
  unfold depL
  refine List.ext_getElem (by simp) fun j h1 h2 => ?_
  rw [List.getElem_set]
  simp only [List.getElem_map, List.getElem_range]
  by_cases h : i = j
  · subst h; rw [if_pos rfl, if_pos (Nat.lt_succ_self _)]
  · rw [if_neg h]
    by_cases c : j < i
    · rw [if_pos c, if_pos (by omega)]
    · rw [if_neg c, if_neg (by omega)]
theorem store_int {w : World} {base g n cap : Nat} {l : List Int} (h : w.ownsRow base 3 1 (.slice (some ⟨g, 0, none⟩) n cap) n (l.map (Value.int .i64))) (j : Nat) (b : Int) : (w.setCell ⟨g, j, none⟩ (.int .i64 b)).ownsRow base 3 1 (.slice (some ⟨g, 0, none⟩) n cap) n ((l.set j b).map (Value.int .i64)) := by
  have := (h.stored j (.int .i64 b)).1
  rwa [← List.map_set] at this
set_option maxHeartbeats 4000000 in
theorem deep6_any (ao : Option Addr) (len cap : Nat) (L : Nat → TypeV) (hlen : len ≤ 1000000) (t : Int) (w : World) (H : ∀ i, i < len → TypeAt w ao i (L i)) :
    Calls Tryz.prog 91 #[.slice ao len cap, .int .i64 t] w fun e w' => e = .returned (.int .i64 (deepL L len t)) ∧ Below w.heap.size w w' := by
  have hi0 := isIn_any ao len cap (by omega) t
  by_cases ht : 0 ≤ t ∧ t < len
  · obtain ⟨h0, h1⟩ := ht
    obtain ⟨T, rfl⟩ := Int.eq_ofNat_of_zero_le h0
    have hT : T < len := by omega
    have e0 : deepL L len (T : Nat) = (deepN L T : Nat) := by unfold deepL; rw [inL_yes hT]; rfl
    rw [e0]
    rw [inL_yes hT] at hi0
    have HIN := Lib.hid hi0
    have HH := Lib.hid H
    obtain ⟨i0, hi, hz0, hz1, hz2⟩ := info_parts infoInt
    obtain ⟨n, hn⟩ : ∃ n, T + 1 = n := ⟨_, rfl⟩
    have HDB := Lib.hid (fun k (hk : k < n) => deepN_le L (k + 1) k (Nat.lt_succ_self k))
    clear hi0 e0 H
    go_enter Tryz.func91, Tryz.ntmps91
    go_wp2_with (first
      | (go_at_call 89; refine (HIN.out _).mono ?_; rintro e w' ⟨rfl, rfl⟩)
      | (refine wpList_make_full _ rfl (.tmp 15) (.tmp 15) 50 rfl w.heap.size 3 i0 (.int .i64 0) 1 Tryz.underlying50 hi hz0 hz1 .i64 .i64 _ _ n rfl rfl (by omega) (by omega) (by rw [hz2]; omega) (by unfold maxLen; omega) (Nat.le_refl _) ?_))
    intro w1 hown hg
    have hown' : w1.ownsRow w.heap.size 3 1 (.slice (some ⟨w.heap.size, 0, none⟩) n n) n ((depL (deepN L) n 0).map (Value.int .i64)) := by
      rw [depL_zero]
      have e : (madeCells #[Value.int .i64 0] n).toList = List.replicate n (.int .i64 0) := toList_madeCells_one _ _
      rw [← e]; simpa using hown
    have HB := Lib.hid ((Below.refl w.heap.size w).grown hg (Nat.le_refl _) (fun k hk => by cases hk))
    have HO := Lib.hid hown'
    clear hown hg hown'
    go_wp2
    go_loopw [19] (fun i wr => ∃ k : Nat, k ≤ n ∧ i = .int .i64 k ∧ Hid (wr.ownsRow w.heap.size 3 1 (.slice (some ⟨w.heap.size, 0, none⟩) n n) n ((depL (deepN L) n k).map (Value.int .i64))) ∧ Hid (Below w.heap.size w wr)) (fun i _ => n - (intOf i).toNat)
    case atStart => exact ⟨0, Nat.zero_le _, rfl, HO, HB⟩
    case round =>
      obtain ⟨k, hk, rfl, HR, HBr⟩ := hrel
      by_cases hlt : k < n
      · have hkl : k < len := by omega
        obtain ⟨b, off, rfl, c0, c1, c2, c3, c4, c5, wf, hit⟩ := (HH.out k hkl).held (w1 := wr) HBr.out
        have hll := partsL_len hit.1
        have hcall := parts6_any (L k) wr hit
        obtain ⟨l, hl⟩ : ∃ l, partsL (L k) = l := ⟨_, rfl⟩
        have HE := Lib.hid (show deepN L k = l.foldl (mostStep (deepN L) k) 0 + 1 by rw [deepN_eq, hl]; exact most_deep _ _ l 0)
        rw [hl] at hcall hll
        unfold typV at hcall
        have HC := Lib.hid hcall
        clear hcall hl hit
        obtain ⟨wo, rfl⟩ : ∃ wo : World, wo = wr := ⟨_, rfl⟩
        go_upto_region 9 with (go_at_call 88; refine (HC.out).mono ?_; rintro e w2 ⟨v, rfl, hown, hb2⟩; obtain ⟨va, vc, rfl, hva⟩ := row_form hown; have HR2 := Lib.hid (row_keep HR.out hb2); have HB2 := Lib.hid (HBr.out.trans (hb2.mono HBr.out.size)); have HV := Lib.hid hva; have HO2 := Lib.hid hown; clear hown hva hb2)
        go_loopw [7, 28] (fun q i wr => ∃ (j m : Nat), j ≤ l.length ∧ i = .int .i64 j ∧ q = .int .i64 m ∧ Hid ((l.take j).foldl (mostStep (deepN L) k) 0 = m) ∧ m ≤ k ∧ wr = w2) (fun _ i _ => l.length - (intOf i).toNat)
        case atStart => exact ⟨0, 0, Nat.zero_le _, rfl, rfl, Lib.hid rfl, by omega, rfl⟩
        case round =>
          obtain ⟨j, m, hj, rfl, rfl, HM, hm, rfl⟩ := hrel
          by_cases hjl : j < l.length
          · obtain ⟨g', rfl⟩ := HV.out (by omega)
            have c := cell_int HO2.out j hjl
            obtain ⟨p, hp⟩ : ∃ p, l.getD j 0 = p := ⟨_, rfl⟩
            rw [hp] at c
            have hnx := most_next (D := deepN L) (t := k) l j hjl
            rw [HM.out, hp] at hnx
            by_cases hin : 0 ≤ p ∧ p < k
            · obtain ⟨hp0, hpt⟩ := hin
              obtain ⟨y, rfl⟩ := Int.eq_ofNat_of_zero_le hp0
              have hyk : y < k := by omega
              have hst : mostStep (deepN L) k m (y : Nat) = max m (deepN L y) := by unfold mostStep; rw [if_pos ⟨hp0, hpt⟩]; rfl
              rw [hst] at hnx
              have hdk := HDB.out y (by omega)
              have cy := cell_int HR2.out y (by omega)
              rw [depL_get (by omega) hyk] at cy
              obtain ⟨d, hd⟩ : ∃ d, deepN L y = d := ⟨_, rfl⟩
              rw [hd] at cy hnx hdk
              have HN := Lib.hid hnx
              have tp : decide ((y : Int) < k) = true := by simp; omega
              have tq : decide (0 ≤ (y : Int)) = true := by simp
              have tp2 : decide (y < k) = true := by simpa using hyk
              have tn : y < n := by omega
              clear hnx hst hp hp0 hd
              by_cases hmd : m ≤ d
              · have HN2 := Lib.hid (HN.out.trans (Nat.max_eq_right hmd))
                go_wp2
                all_goals
                  go_roundw
                  case rel => exact ⟨j + 1, d, by omega, by go_num, by go_num, HN2, by omega, by first | rfl | trivial⟩
                  case measure => simp [intOf]; omega
              · have HN2 := Lib.hid (HN.out.trans (Nat.max_eq_left (by omega)))
                go_wp2
                all_goals
                  go_roundw
                  case rel => exact ⟨j + 1, m, by omega, by go_num, by go_num, HN2, by omega, by first | rfl | trivial⟩
                  case measure => simp [intOf]; omega
            · have hst : mostStep (deepN L) k m p = m := by unfold mostStep; rw [if_neg hin]
              rw [hst] at hnx
              have HN := Lib.hid hnx
              clear hnx hst hp
              by_cases hp0 : 0 ≤ p
              · have tq : decide (0 ≤ p) = true := by simpa using hp0
                have tp : decide (p < (k : Int)) = false := by simp; omega
                clear hin
                go_wp2
                go_roundw
                case rel => exact ⟨j + 1, m, by omega, by go_num, rfl, HN, hm, by first | rfl | trivial⟩
                case measure => simp [intOf]; omega
              · have tq : decide (0 ≤ p) = false := by simp; omega
                clear hin
                go_wp2
                go_roundw
                case rel => exact ⟨j + 1, m, by omega, by go_num, rfl, HN, hm, by first | rfl | trivial⟩
                case measure => simp [intOf]; omega
          · obtain rfl : j = l.length := by omega
            have HD := Lib.hid (show deepN L k = m + 1 by rw [HE.out, ← HM.out, List.take_length])
            have f0 := HR2.out.frozenAt k
            have HS := Lib.hid (store_int HR2.out k ((m : Int) + 1))
            have HS2 := Lib.hid (show (depL (deepN L) n k).set k ((m : Int) + 1) = depL (deepN L) n (k + 1) by rw [← depL_set, HD.out]; rfl)
            have ck := cell_int HR2.out k hlt
            go_wp2
            go_roundw
            case rel => exact ⟨k + 1, by omega, by go_num, Lib.hid (by rw [← HS2.out]; exact HS.out), Lib.hid (HB2.out.setCell (Nat.le_refl _) _)⟩
            case measure => simp [intOf]; omega
      · obtain rfl : k = n := by omega
        have cT := cell_int HR.out T (by omega)
        rw [depL_get (by omega) (by omega)] at cT
        go_wp2
        go_ret
        exact ⟨rfl, HBr.out⟩
  · have e0 : deepL L len t = 0 := by unfold deepL; rw [inL_no ht]; rfl
    rw [e0]
    rw [inL_no ht] at hi0
    have HI := Lib.hid hi0
    clear hi0 e0 H ht
    go_enter Tryz.func91, Tryz.ntmps91
    go_wp2_with (go_at_call 89; refine (HI.out _).mono ?_; rintro e w' ⟨rfl, rfl⟩)
    go_ret
    exact ⟨rfl, Below.refl _ _⟩
end Go.Proofs.YtohphejhlgnciaaGreat
