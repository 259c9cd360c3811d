/- The walk of NameLeads. -/
import Derived.Test.YtbiklbbbnbbgaaaNameAwake
import Derived.Deep.RegionHeld3
import Derived.Deep.DeepCutAuto
import Derived.BigQuiet
import Derived.BigGuardPart
namespace Go.Proofs.Ytbiklbbbnbbgaaa
open Go.RowKit
set_option linter.unusedVariables false
theorem keepN {w w1 : World} {a : Addr} {v : Value} (hb : Below w.heap.size w w1) (h : w.cell? a = some v) : w1.cell? a = some v := (hb.cell (World.block_lt_of_cell? w _ h)).trans h
theorem drewN_below {B : Nat} {w w1 : World} (h : Below B w w1) : ∀ m, Below B w (w1.drewN m)
  | 0 => h
  | m + 1 => (drewN_below h m).drew
theorem lead_take (s : ByteArray) : leadN (s.extract 0 (leadN s)) = leadN s := by
  have h := firstN_is (badAt s) s.size
  have hle := leadN_le s
  have hz : (s.extract 0 (leadN s)).size = leadN s := by simp; omega
  have h2 : leadN (s.extract 0 (leadN s)) = (s.extract 0 (leadN s)).size := lead_all (fun j hj => by
    rw [hz] at hj
    have : badAt (s.extract 0 (leadN s)) j = badAt s j := by unfold badAt; rw [charAt_take s (leadN s) j hj]
    rw [this]; exact h.2.1 j hj)
  rw [h2, hz]
theorem charAt_left (s t : ByteArray) (i : Nat) (hi : i < s.size) : charAt (s ++ t) i = charAt s i := by
  unfold charAt
  congr 1
  have hl : i < s.data.toList.length := by simpa using hi
  rw [List.getD_eq_getElem?_getD, List.getD_eq_getElem?_getD]
  congr 1
  rw [show (s ++ t).data.toList = s.data.toList ++ t.data.toList by simp, List.getElem?_append_left hl]
theorem lead_more (s t : ByteArray) (h : leadN s ≠ s.size) : leadN (s ++ t) = leadN s := by
  have h1 := firstN_is (badAt s) s.size
  have hle := leadN_le s
  have hlt : leadN s < s.size := by omega
  have hb : ∀ j, j < s.size → badAt (s ++ t) j = badAt s j := fun j hj => by unfold badAt; rw [charAt_left s t j hj]
  exact lead_at (fun j hj => by rw [hb j (by omega)]; exact h1.2.1 j hj) (by simp; omega) (by rw [hb _ hlt]; exact h1.2.2 hlt)
theorem name_says {s : ByteArray} (h : nameS s = true) : leadN s = s.size ∧ s.size ≤ 16 ∧ wordS s = false := by
  unfold nameS formedS at h; simp at h; exact ⟨h.1.1.2, h.1.2, h.2⟩
theorem find_own (L : Nat → ByteArray) (k n : Nat) (h : k < n) : ∃ q : Nat, q ≤ k ∧ findZ L (L k) n = q ∧ ((L q).toList == (L k).toList) = true := by
  rcases firstZ_cases (fun j => (L j).toList == (L k).toList) n with ⟨q, hq, e, h1, h2⟩ | ⟨e, h1⟩
  · refine ⟨q, ?_, e, h1⟩
    rcases Nat.lt_or_ge k q with c | c
    · have := h2 k c; simp at this
    · exact c
  · have := h1 k h; simp at this
theorem twice_own (L : Nat → ByteArray) (k q n : Nat) (h : k < n) (hq : q < k) (he : ((L q).toList == (L k).toList) = true) : ∃ t : Nat, t ≤ k ∧ twiceZ L n = t := by
  have ha : aheadB L k = true := (aheadB_iff L k).2 ⟨q, hq, he⟩
  rcases firstZ_cases (aheadB L) n with ⟨t, ht, e, h1, h2⟩ | ⟨e, h1⟩
  · refine ⟨t, ?_, e⟩
    rcases Nat.lt_or_ge k t with c | c
    · have := h2 k c; rw [ha] at this; cases this
    · exact c
  · have := h1 k h; rw [ha] at this; cases this
set_option maxRecDepth 100000 in
set_option maxHeartbeats 1000000 in
theorem leads_walk (s : ByteArray) (ao : Option Addr) (len cap : Nat) (L : Nat → ByteArray) (hs : s.size ≤ 140737488351232) (hm : len ≤ 140737488351232) (w : World) (H : ∀ i, i < len → StrAt w ao i (L i)) :
    Calls Try.prog 5 #[.string s, .slice ao len cap] w fun e w' => e = .returned (.bool true) ∧ Below w.heap.size w w' := by
  have hr := Below.refl w.heap.size w
  have HH := Lib.hid (show ∀ w1, Below w.heap.size w w1 → ∀ i, i < len → StrAt w1 ao i (L i) from fun w1 hb i hi => (H i hi).held hb)
  clear H
  have hle := leadN_le s
  have HM := Lib.hid (lead_more s ⟨#[95]⟩)
  have hX := fun w => lead_any (s.extract 0 (leadN s)) (by simp; omega) w
  rw [lead_take] at hX
  have HX := Lib.hid hX
  have HA := Lib.hid (fun w => lead_any s (by omega) w)
  have HY := Lib.hid (fun w => lead_any (s ++ ⟨#[95]⟩) (by simp; have : (⟨#[95]⟩ : ByteArray).size = 1 := rfl; omega) w)
  have HN := Lib.hid (fun w => name_any s (by omega) w)
  have HW := Lib.hid (fun w => word_any s (by omega) w)
  have HS := Lib.hid (@name_says s)
  clear hX
  generalize hn : leadN s = n at *
  generalize leadN (s ++ ⟨#[95]⟩) = m at *
  clear hn
  go_enter Try.func5, Try.ntmps5
  go_upto_region 2 with (go_at_call 11; with_reducible refine (HA.out _).mono ?_; rintro e w1 ⟨rfl, hb⟩; have hr := below_stepN hr hb; clear hb)
  go_cut [56] (fun t wx => t = .bool false ∧ Below w.heap.size w wx)
  case first =>
    have hn0 : decide ((n : Int) < 0) = false := by simp
    have hn1 : decide ((s.size : Int) < n) = false := by simp; omega
    cases hname : nameS s with
    | true =>
      have hq := HS.out hname
      obtain ⟨rfl, h16, hw⟩ := hq
      have h17 : decide (16 < (s.size : Int)) = false := by simp; omega
      clear HM
      go_wp2_with (first
        | (go_at_call 9; with_reducible refine (HN.out _).mono ?_; rintro e w1 ⟨rfl, hb⟩; have hr := below_stepN hr hb; clear hb)
        | (go_at_call 7; with_reducible refine (HW.out _).mono ?_; rintro e w1 ⟨rfl, hb⟩; have hr := below_stepN hr hb; clear hb)
        | (go_at_call 11; with_reducible refine (HA.out _).mono ?_; rintro e w1 ⟨rfl, hb⟩; have hr := below_stepN hr hb; clear hb)
        | (go_at_call 11; with_reducible refine (HX.out _).mono ?_; rintro e w1 ⟨rfl, hb⟩; have hr := below_stepN hr hb; clear hb)
        | (go_at_call 11; with_reducible refine (HY.out _).mono ?_; rintro e w1 ⟨rfl, hb⟩; have hr := below_stepN hr hb; clear hb))
      all_goals
        go_meet
        exact ⟨rfl, hr⟩
    | false =>
      by_cases hfull : n = s.size
      · subst hfull
        clear HM
        go_wp2_with (first
          | (go_at_call 9; with_reducible refine (HN.out _).mono ?_; rintro e w1 ⟨rfl, hb⟩; have hr := below_stepN hr hb; clear hb)
          | (go_at_call 7; with_reducible refine (HW.out _).mono ?_; rintro e w1 ⟨rfl, hb⟩; have hr := below_stepN hr hb; clear hb)
          | (go_at_call 11; with_reducible refine (HA.out _).mono ?_; rintro e w1 ⟨rfl, hb⟩; have hr := below_stepN hr hb; clear hb)
          | (go_at_call 11; with_reducible refine (HX.out _).mono ?_; rintro e w1 ⟨rfl, hb⟩; have hr := below_stepN hr hb; clear hb)
          | (go_at_call 11; with_reducible refine (HY.out _).mono ?_; rintro e w1 ⟨rfl, hb⟩; have hr := below_stepN hr hb; clear hb))
        all_goals
          go_meet
          exact ⟨rfl, hr⟩
      · obtain rfl := HM.out hfull
        go_wp2_with (first
          | (go_at_call 9; with_reducible refine (HN.out _).mono ?_; rintro e w1 ⟨rfl, hb⟩; have hr := below_stepN hr hb; clear hb)
          | (go_at_call 7; with_reducible refine (HW.out _).mono ?_; rintro e w1 ⟨rfl, hb⟩; have hr := below_stepN hr hb; clear hb)
          | (go_at_call 11; with_reducible refine (HA.out _).mono ?_; rintro e w1 ⟨rfl, hb⟩; have hr := below_stepN hr hb; clear hb)
          | (go_at_call 11; with_reducible refine (HX.out _).mono ?_; rintro e w1 ⟨rfl, hb⟩; have hr := below_stepN hr hb; clear hb)
          | (go_at_call 11; with_reducible refine (HY.out _).mono ?_; rintro e w1 ⟨rfl, hb⟩; have hr := below_stepN hr hb; clear hb))
        go_meet
        exact ⟨by first | rfl | (congr 1; simp; omega) | (congr 1; simp), hr⟩
  case rest =>
    obtain ⟨rfl, hrc⟩ := hcut
    clear HM HX HA HY HN HW HS
    go_wp2
    go_loopw [6] (fun i wr => ∃ k : Nat, k ≤ len ∧ k ≤ 300 ∧ i = .int .i64 k ∧ Below w.heap.size w wr) (fun i _ => 300 - (intOf i).toNat)
    case atStart => exact ⟨0, by omega, by omega, rfl, hrc⟩
    case round =>
      obtain ⟨k, hk, hk3, rfl, hb⟩ := hrel
      by_cases hlt : k < len
      · by_cases hlt3 : k < 300
        · obtain ⟨q, hq, hqe, hql⟩ := find_own L k len hlt
          obtain ⟨b, off, rfl, c0, z0⟩ := (HH.out wr hb) k hlt
          obtain ⟨b', off', e', c1, z1⟩ := (HH.out wr hb) q (by omega)
          cases e'
          have HF := Lib.hid (fun w1 h => find_any (some ⟨b, off, none⟩) len cap L (L k) (by omega) w1 (HH.out w1 h))
          rcases Nat.lt_or_ge q k with hqk | hqk
          · obtain ⟨t, htk, hte⟩ := twice_own L k q len hlt hqk hql
            have HT := Lib.hid (fun w1 h => twice_any (some ⟨b, off, none⟩) len cap L (by omega) w1 (HH.out w1 h))
            rw [hqe] at HF
            rw [hte] at HT
            go_upto_region 8 with (go_at_call 13; refine (HF.out _ hb).mono ?_; rintro e w1 ⟨rfl, hb1⟩)
            have c2 := keepN hb1 c0
            have c3 := keepN hb1 c1
            have t0 : decide ((q : Int) < 0) = false := by simp
            have t1 : decide ((k : Int) < (q : Int)) = false := by simp; omega
            have t2 : ((L q).toList != (L k).toList) = false := by simpa using hql
            have t3 : decide ((q : Int) < (k : Int)) = true := by simp; omega
            have t4 : decide ((t : Int) < 0) = false := by simp
            have t5 : decide ((k : Int) < (t : Int)) = false := by simp; omega
            have s1 : decide (k < q) = false := by simp; omega
            have s3 : decide (q < k) = true := by simp; omega
            have s5 : decide (k < t) = false := by simp; omega
            have r0 : (0 : Int) ≤ q := by omega
            have r1 : (q : Int) < len := by omega
            have r2 : (0 : Int) ≤ k := by omega
            have r3 : (k : Int) < len := by omega
            have HB := Lib.hid (below_stepN hb hb1)
            have t7 : (!((L q).toList == (L k).toList)) = false := by rw [hql]; rfl
            clear c0 c1 HF hqe hte hqk
            go_wp2_with fail
            go_region_held3 (fun w' => w'.cell? ⟨b, off + k, none⟩ = some (.string (L k)) ∧ w'.cell? ⟨b, off + q, none⟩ = some (.string (L q)) ∧ Hid (Below w.heap.size w w'))
              (first | exact ⟨c2, c3, Lib.hid HB.out.drew⟩ | exact ⟨c2, c3, HB⟩ | fail)
              (first | (go_at_call 15; refine (HT.out _ (by first | exact HB.out | exact HB.out.drew)).mono ?_; rintro e w3 ⟨rfl, hb3⟩; have HB := Lib.hid (below_stepN (by first | exact HB.out | exact HB.out.drew) hb3); have c2 := keepN hb3 (by exact c2); have c3 := keepN hb3 (by exact c3); clear hb3))
            go_wp2_with fail
            go_roundw
            case rel => exact ⟨k + 1, by omega, by omega, by go_num, HB.out⟩
            case measure => simp [intOf]; omega
          · obtain rfl : q = k := by omega
            rw [hqe] at HF
            go_upto_region 8 with (go_at_call 13; refine (HF.out _ hb).mono ?_; rintro e w1 ⟨rfl, hb1⟩)
            have c2 := keepN hb1 c0
            have t0 : decide ((q : Int) < 0) = false := by simp
            have t1 : decide ((q : Int) < (q : Int)) = false := by simp
            have t2 : ((L q).toList != (L q).toList) = false := by simp
            clear c0 c1 HF HH hql hqe
            go_wp2_with fail
            go_big_quiet (fail)
            go_wp2
            go_roundw
            case rel => exact ⟨q + 1, by omega, by omega, by go_num, drewN_below (below_stepN hb hb1) _⟩
            case measure => simp [intOf]; omega
        · go_wp2_with (go_at_call 6; refine (awake4_any _).mono ?_; rintro e w1 ⟨rfl, hb1⟩)
          go_ret
          exact ⟨rfl, below_stepN hb hb1⟩
      · go_wp2_with (go_at_call 6; refine (awake4_any _).mono ?_; rintro e w1 ⟨rfl, hb1⟩)
        go_ret
        exact ⟨rfl, below_stepN hb hb1⟩
end Go.Proofs.Ytbiklbbbnbbgaaa
