/- Contract of chapter 6's reference: Deep. -/
import Derived.Test.YtohphejhlgnciaaGreatTypesParts
namespace Go.Proofs.YtohphejhlgnciaaGreat
open Go.RowKit
set_option linter.unusedVariables false
def deepStep (D : Nat → Nat) (t : Nat) (acc : Nat) (p : Int) : Nat := if 0 ≤ p ∧ p < t then max acc (D p.toNat + 1) else acc
def deepF (L : Nat → TypeV) : Nat → Nat → Nat
  | 0, _ => 0
  | f + 1, t => (partsL (L t)).foldl (deepStep (deepF L f) t) 1
theorem fold_congr {t : Nat} {D E : Nat → Nat} (h : ∀ k, k < t → D k = E k) : ∀ (l : List Int) (a : Nat), l.foldl (deepStep D t) a = l.foldl (deepStep E t) a
  | [], _ => rfl
  | p :: l, a => by
    rw [List.foldl_cons, List.foldl_cons]
    have : deepStep D t a p = deepStep E t a p := by
      unfold deepStep
      by_cases c : 0 ≤ p ∧ p < t
      · rw [if_pos c, if_pos c, h p.toNat (by omega)]
      · rw [if_neg c, if_neg c]
    rw [this]
    exact fold_congr h l _
theorem deepF_eq (L : Nat → TypeV) : ∀ (n t f g : Nat), t < n → t < f → t < g → deepF L f t = deepF L g t
  | 0, _, _, _, h, _, _ => by omega
  | n + 1, t, f + 1, g + 1, h, hf, hg => fold_congr (fun k hk => deepF_eq L n k f g (by omega) (by omega) (by omega)) _ _
/-- how deep a type is -/
def deepN (L : Nat → TypeV) (t : Nat) : Nat := deepF L (t + 1) t
theorem deepN_eq (L : Nat → TypeV) (t : Nat) : deepN L t = (partsL (L t)).foldl (deepStep (deepN L) t) 1 :=
  fold_congr (fun k hk => deepF_eq L (k + 1) k t (k + 1) (by omega) hk (by omega)) _ _
theorem fold_le {t m : Nat} {D : Nat → Nat} (h : ∀ k, k < t → D k + 1 ≤ m) : ∀ (l : List Int) (a : Nat), a ≤ m → l.foldl (deepStep D t) a ≤ m
  | [], _, ha => ha
  | p :: l, a, ha => by
    rw [List.foldl_cons]
    refine fold_le h l _ ?_
    unfold deepStep
    split
    · rename_i c; have := h p.toNat (by omega); omega
    · exact ha
theorem deepN_le (L : Nat → TypeV) : ∀ (n t : Nat), t < n → deepN L t ≤ t + 1
  | 0, _, h => by omega
  | n + 1, t, h => by
    rw [deepN_eq]
    exact fold_le (fun k hk => by have := deepN_le L n k (by omega); omega) _ _ (by omega)
theorem fold_ge {t : Nat} {D : Nat → Nat} : ∀ (l : List Int) (a : Nat), a ≤ l.foldl (deepStep D t) a
  | [], _ => Nat.le_refl _
  | p :: l, a => by
    rw [List.foldl_cons]
    refine Nat.le_trans ?_ (fold_ge l _)
    unfold deepStep; split <;> omega
theorem deepN_pos (L : Nat → TypeV) (t : Nat) : 1 ≤ deepN L t := by rw [deepN_eq]; exact fold_ge _ _
def deepL (L : Nat → TypeV) (len : Nat) (t : Int) : Int := if inL len t then (deepN L t.toNat : Nat) else 0
theorem row_keep {w w1 : World} {base : Nat} {e : TypeId} {size : Nat} {v : Value} {n : Nat} {xs : List Value} (h : w.ownsRow base e size v n xs) (hb : Below w.heap.size w w1) : w1.ownsRow base e size v n xs := (Only.of_below (S := fun _ => False) hb).row h (fun _ _ f => f)
theorem cell_int {w : World} {base g n cap : Nat} {l : List Int} (h : w.ownsRow base 3 1 (.slice (some ⟨g, 0, none⟩) n cap) n (l.map (Value.int .i64))) (j : Nat) (hj : j < n) : w.cell? ⟨g, j, none⟩ = some (.int .i64 (l.getD j 0)) := by
  have hl : l.length = n := by have := h.1; simpa using this
  rw [h.cellAt j (by omega), List.getElem?_map, List.getElem?_eq_getElem (by omega), List.getD_eq_getElem?_getD, List.getElem?_eq_getElem (by omega)]
  rfl
theorem fold_next {D : Nat → Nat} {t : Nat} (l : List Int) (j : Nat) (hj : j < l.length) : (l.take (j + 1)).foldl (deepStep D t) 1 = deepStep D t ((l.take j).foldl (deepStep D t) 1) (l.getD j 0) := by
  rw [List.take_succ_eq_append_getElem hj, List.foldl_append, List.getD_eq_getElem?_getD, List.getElem?_eq_getElem hj]; rfl
theorem row_form {w : World} {base n : Nat} {e : TypeId} {size : Nat} {v : Value} {xs : List Value} (h : w.ownsRow base e size v n xs) : ∃ (a : Option Addr) (cap : Nat), v = .slice a n cap ∧ (0 < n → ∃ g, a = some ⟨g, 0, none⟩) := by
  rcases h.2 with ⟨rfl, rfl⟩ | ⟨g, cap, cur, rfl, _⟩
  · exact ⟨none, 0, rfl, fun h => by omega⟩
  · exact ⟨_, cap, rfl, fun _ => ⟨g, rfl⟩⟩
def DeepTo (L : Nat → TypeV) (ao : Option Addr) (len cap : Nat) (t : Int) (w : World) : Prop := Calls Tryz.prog 55 #[.slice ao len cap, .int .i64 t] w fun e w' => e = .returned (.int .i64 (deepL L len t)) ∧ Below w.heap.size w w'
theorem partsL_len {T : TypeV} (h : T.ilen ≤ 3518437208780) : (partsL T).length ≤ 3518437208782 := by
  unfold partsL
  simp only [List.length_append]
  split <;> split <;> split <;> simp <;> omega
set_option maxHeartbeats 2000000 in
theorem refDeep_step (ao : Option Addr) (len cap : Nat) (L : Nat → TypeV) (hlen : len ≤ 140737488351232) (t : Nat) (ht : t < len)
    (ih : ∀ k, k < t → ∀ (w : World), (∀ i, i < len → TypeAt w ao i (L i)) → DeepTo L ao len cap (k : Nat) w) (w : World) (H : ∀ i, i < len → TypeAt w ao i (L i)) : DeepTo L ao len cap (t : Nat) w := by
  have HR := Lib.hid ih
  clear ih
  have HH := Lib.hid H
  clear H
  have e0 : deepL L len (t : Nat) = (deepN L t : Nat) := by unfold deepL; rw [inL_yes ht]; rfl
  unfold DeepTo
  rw [e0]
  obtain ⟨b, off, rfl, c0, c1, c2, c3, c4, c5, wf, hi⟩ := HH.out t ht
  have hn0 : decide ((t : Int) < 0) = false := by simp
  have hn1 : decide ((len : Int) ≤ t) = false := by simp; omega
  have hll := partsL_len hi.1
  have HP := Lib.hid (fun wx (hb : Below w.heap.size w wx) => refParts_any (L t) wx (hi.held hb))
  clear hi
  go_enter Tryz.func55, Tryz.ntmps55
  go_wp2_with (go_at_call 52; refine (HP.out _ (Below.refl _ _)).mono ?_; rintro e w1 ⟨v, rfl, hown, hb1⟩)
  obtain ⟨va, vc, rfl, hva⟩ := row_form hown
  obtain ⟨l, hl⟩ : ∃ l, partsL (L t) = l := ⟨_, rfl⟩
  have HE := Lib.hid (show deepN L t = l.foldl (deepStep (deepN L) t) 1 by rw [deepN_eq, hl])
  rw [hl] at hown hva hll
  have hnn : (partsL (L t)).length = l.length := by rw [hl]
  rw [hnn]
  have HO := Lib.hid hown
  have HV := Lib.hid hva
  have HB1 := Lib.hid hb1
  have HDB := Lib.hid (fun k (hk : k < t) => deepN_le L (k + 1) k (Nat.lt_succ_self k))
  clear hl hown hva hnn hb1 c0 c1 c2 c3 c4 c5
  obtain ⟨D, hD⟩ : ∃ D, deepN L = D := ⟨_, rfl⟩
  go_loopw [6, 7] (fun q i wr => ∃ (j m : Nat), j ≤ l.length ∧ i = .int .i64 j ∧ q = .int .i64 m ∧ Hid ((l.take j).foldl (deepStep (deepN L) t) 1 = m) ∧ m ≤ t + 1 ∧ Hid (wr.ownsRow w.heap.size 3 1 (.slice va l.length vc) l.length (l.map (Value.int .i64))) ∧ Hid (Below w.heap.size w wr)) (fun _ i _ => l.length - (intOf i).toNat)
  case atStart => exact ⟨0, 1, Nat.zero_le _, rfl, rfl, Lib.hid rfl, by omega, HO, HB1⟩
  case round =>
    obtain ⟨j, m, hj, rfl, rfl, HM, hm, HR1, HBr⟩ := hrel
    by_cases hlt : j < l.length
    · obtain ⟨g, rfl⟩ := HV.out (by omega)
      have c := cell_int HR1.out j hlt
      obtain ⟨p, hp⟩ : ∃ p, l.getD j 0 = p := ⟨_, rfl⟩
      rw [hp] at c
      have hnx := fold_next (D := deepN L) (t := t) l j hlt
      rw [HM.out, hp] at hnx
      by_cases hin : 0 ≤ p ∧ p < t
      · obtain ⟨hp0, hpt⟩ := hin
        obtain ⟨k, rfl⟩ := Int.eq_ofNat_of_zero_le hp0
        have hkt : k < t := by omega
        have hst : deepStep (deepN L) t m (k : Nat) = max m (deepN L k + 1) := by unfold deepStep; rw [if_pos ⟨hp0, hpt⟩]; rfl
        rw [hst] at hnx
        have hdk := HDB.out k hkt
        have hcall := HR.out k (by omega) wr (fun i hi => (HH.out i hi).held HBr.out)
        unfold DeepTo at hcall
        have e1 : deepL L len (k : Nat) = (deepN L k : Nat) := by unfold deepL; rw [inL_yes (by omega)]; rfl
        rw [e1] at hcall
        have HC := Lib.hid hcall
        obtain ⟨d, hd⟩ : ∃ d, deepN L k = d := ⟨_, rfl⟩
        rw [hd] at HC hnx hdk
        have HN := Lib.hid hnx
        have tp : decide ((k : Int) < t) = true := by simp; omega
        have tp2 : decide (k < t) = true := by simpa using hkt
        have tq : decide (0 ≤ (k : Int)) = true := by simp
        have HTK := Lib.hid hkt
        have hd1 : d + 1 ≤ t + 1 := by omega
        clear hnx hcall e1 hst hp hp0 hpt hd hkt
        go_wp2_with (go_at_call 55; refine (HC.out).mono ?_; rintro e w2 ⟨rfl, hb2⟩)
        · have HR2 := Lib.hid (row_keep HR1.out hb2)
          have HB2 := Lib.hid (HBr.out.trans (hb2.mono HBr.out.size))
          have hgt : (m : Int) < (d : Int) + 1 := by assumption
          go_roundw
          case rel => exact ⟨j + 1, d + 1, by omega, by go_num, by go_num, Lib.hid (HN.out.trans (Nat.max_eq_right (by omega))), hd1, HR2, HB2⟩
          case measure => simp [intOf]; omega
        · have HR2 := Lib.hid (row_keep HR1.out hb2)
          have HB2 := Lib.hid (HBr.out.trans (hb2.mono HBr.out.size))
          have hgt : (d : Int) + 1 ≤ (m : Int) := by assumption
          go_roundw
          case rel => exact ⟨j + 1, m, by omega, by go_num, rfl, Lib.hid (HN.out.trans (Nat.max_eq_left (by omega))), hm, HR2, HB2⟩
          case measure => simp [intOf]; omega
      · have hst : deepStep (deepN L) t m p = m := by unfold deepStep; rw [if_neg hin]
        rw [hst] at hnx
        have HN := Lib.hid hnx
        clear hnx hst hp
        by_cases hpt : p < t
        · have tp : decide (p < (t : Int)) = true := by simpa using hpt
          have tq : decide (0 ≤ p) = false := by simp; omega
          clear hin
          go_wp2
          go_roundw
          case rel => exact ⟨j + 1, m, by omega, by go_num, rfl, HN, hm, HR1, HBr⟩
          case measure => simp [intOf]; omega
        · have tp : decide (p < (t : Int)) = false := by simpa using hpt
          clear hin
          go_wp2
          go_roundw
          case rel => exact ⟨j + 1, m, by omega, by go_num, rfl, HN, hm, HR1, HBr⟩
          case measure => simp [intOf]; omega
    · obtain rfl : j = l.length := by omega
      have HN := Lib.hid (HM.out.symm.trans (by rw [List.take_length] : _ = l.foldl (deepStep (deepN L) t) 1))
      go_wp2
      go_ret
      exact ⟨ret_i (by rw [HE.out, ← HN.out]), HBr.out⟩
theorem refDeep_in (ao : Option Addr) (len cap : Nat) (L : Nat → TypeV) (hlen : len ≤ 140737488351232) : ∀ (n t : Nat), t < n → t < len → ∀ (w : World), (∀ i, i < len → TypeAt w ao i (L i)) → DeepTo L ao len cap (t : Nat) w
  | 0, t, h, _, _, _ => absurd h (Nat.not_lt_zero _)
  | n + 1, t, h, ht, w, H => refDeep_step ao len cap L hlen t ht (fun k hk w' H' => refDeep_in ao len cap L hlen n k (by omega) (by omega) w' H') w H
theorem refDeep_any (ao : Option Addr) (len cap : Nat) (L : Nat → TypeV) (hlen : len ≤ 140737488351232) (t : Int) (w : World) (H : ∀ i, i < len → TypeAt w ao i (L i)) : DeepTo L ao len cap t w := by
  by_cases ht : 0 ≤ t ∧ t < len
  · obtain ⟨h0, h1⟩ := ht
    obtain ⟨k, rfl⟩ := Int.eq_ofNat_of_zero_le h0
    exact refDeep_in ao len cap L hlen (k + 1) k (Nat.lt_succ_self _) (by omega) w H
  · unfold DeepTo
    have e0 : deepL L len t = 0 := by unfold deepL; rw [inL_no ht]; rfl
    rw [e0]
    by_cases h0 : 0 ≤ t
    · have hn0 : decide (t < 0) = false := by simp; omega
      have hn1 : decide ((len : Int) ≤ t) = true := by simp; omega
      go_enter Tryz.func55, Tryz.ntmps55
      go_wp2
      go_ret
      exact ⟨rfl, Below.refl _ _⟩
    · have hn0 : decide (t < 0) = true := by simp; omega
      go_enter Tryz.func55, Tryz.ntmps55
      go_wp2
      go_ret
      exact ⟨rfl, Below.refl _ _⟩
end Go.Proofs.YtohphejhlgnciaaGreat
