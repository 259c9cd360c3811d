/- Chapter 11's consequences in plain words, of what First and Get answer. -/
import Derived.Test.YtmnemddagcfjgaaGreatDoorGetTop
import Derived.Test.YtmnemddagcfjgaaGreatDoorPutAwake
namespace Go.Proofs.YtmnemddagcfjgaaGreatDoor
open Go.RowKit
set_option linter.unusedVariables false
theorem same_fits (L : Nat → TypeV) : ∀ (T U : VT) (t : Nat), sameT T U = true → fitsT L T t = fitsT L U t := by
  refine VT.ind fun T ih U t h => ?_
  obtain ⟨h1, h2, h3, h4, h5⟩ := sameT_iff.1 h
  have e : headE L t T = headE L t U := by unfold headE formT; rw [h1, h2, h3, h4]
  rw [fitsT_eq, fitsT_eq, e, ← h2, ← h4, firstE_congr (fun i hi => ih i hi (U.kid i) (partT L t T.num i) (h5 i hi))]
theorem pre_zero (b : ByteArray) : preB11 b 0 = ⟨#[]⟩ := by
  apply data_ext
  rw [pre_list]
  simp
theorem pre_all (b : ByteArray) : preB11 b b.size = b := by
  apply data_ext
  rw [pre_list]
  exact List.take_of_length_le (by rw [len_list]; exact Nat.le_refl _)
/-- what is got is put as those bytes -/
theorem one_put {L : Nat → TypeV} {len k : Nat} {b : ByteArray} {V : VT} {n : Nat} (hok : fErr (oneR L len) len = 0) (hk : k < len) (hl : ¬ 512 < b.size) (hd : decF L b (k + 1) k 0 = .ok V n) (hn : ¬ n < b.size) {U : VT} (hU : sameT V U = true) :
    fitsA L len (k : Nat) U = 0 ∧ putErr L len (k : Nat) U = 0 ∧ putBytes L len (k : Nat) U = b := by
  have hv := ok_all hok
  obtain ⟨f1, f2, f3, f4⟩ := dec_one hv b (k + 1) k 0 V n (Nat.lt_succ_self k) hk (Nat.zero_le _) hd
  have hnb : n = b.size := by omega
  rw [hnb, pre_all, pre_zero] at f4
  have hf : fitsT L U k = 0 := by rw [← same_fits L V U k hU]; exact f1
  have hT : hasT L len (k : Nat) = true := hasT_yes hk hok
  have hfa : fitsA L len (k : Nat) U = 0 := by unfold fitsA; rw [hT, if_pos rfl, Int.toNat_natCast]; exact hf
  have hr : bytR (rowT L U k) ⟨#[]⟩ = b := by rw [← same_row L V U k hU]; exact f4
  have hz := bytR_size (rowT L U k) (row_okP hv U k hk hf) ⟨#[]⟩
  rw [hr] at hz
  have hz' : b.size = endR (rowT L U k) 0 := hz
  have hp : putErr L len (k : Nat) U = 0 := by unfold putErr; rw [if_neg (by rw [hfa]; decide), Int.toNat_natCast, if_neg (by omega)]
  exact ⟨hfa, hp, by unfold putBytes; rw [if_pos hp, Int.toNat_natCast]; exact hr⟩
theorem getD_ok {L : Nat → TypeV} {len : Nat} {t : Int} {b : ByteArray} {V : VT} {n : Nat} (h : getD L len t b = .ok V n) : ∃ k : Nat, t = k ∧ k < len ∧ fErr (oneR L len) len = 0 ∧ ¬ 512 < b.size ∧ decF L b (k + 1) k 0 = .ok V n ∧ ¬ n < b.size := by
  unfold getD at h
  cases hT : hasT L len t with
  | false => rw [hT] at h; cases h
  | true =>
    obtain ⟨k, rfl, hk, hok⟩ := hasT_in hT
    rw [hT, if_pos rfl, Int.toNat_natCast] at h
    by_cases hl : 512 < b.size
    · rw [if_pos hl] at h; cases h
    · rw [if_neg hl] at h
      cases hd : decF L b (k + 1) k 0 with
      | bad x => rw [hd] at h; cases h
      | ok U m =>
        rw [hd] at h
        have h : (if m < b.size then DR.bad 1 else DR.ok U m) = .ok V n := h
        by_cases hm : m < b.size
        · rw [if_pos hm] at h; cases h
        · rw [if_neg hm] at h
          injection h with h1 h2
          subst h1 h2
          exact ⟨k, rfl, hk, hok, hl, hd, hm⟩
theorem getD_bad {L : Nat → TypeV} {len : Nat} {t : Int} {b : ByteArray} {x : Int} (h : getD L len t b = .bad x) : x ≠ 0 := by
  unfold getD at h
  cases hT : hasT L len t with
  | false => rw [hT] at h; injection h with h; subst h; decide
  | true =>
    obtain ⟨k, rfl, hk, hok⟩ := hasT_in hT
    rw [hT, if_pos rfl, Int.toNat_natCast] at h
    by_cases hl : 512 < b.size
    · rw [if_pos hl] at h; injection h with h; subst h; decide
    · rw [if_neg hl] at h
      cases hd : decF L b (k + 1) k 0 with
      | bad y =>
        rw [hd] at h
        have h : DR.bad y = .bad x := h
        injection h with h
        subst h
        exact (dec_err (ok_all hok) b (k + 1) k 0 y (Nat.lt_succ_self k) hk hd).ne.1
      | ok U m =>
        rw [hd] at h
        have h : (if m < b.size then DR.bad 1 else DR.ok U m) = .bad x := h
        by_cases hm : m < b.size
        · rw [if_pos hm] at h; injection h with h; subst h; decide
        · rw [if_neg hm] at h; cases h
/-- what is put is got, whatever stands behind it; each beginning is too short; with a byte more bytes are left -/
theorem put_got {L : Nat → TypeV} {len : Nat} {t : Int} {T : VT} (hw : T.wfN) (hp : putErr L len t T = 0) :
    0 < (putBytes L len t T).size ∧ (putBytes L len t T).size ≤ 512 ∧ (∃ V, getD L len t (putBytes L len t T) = .ok V (putBytes L len t T).size ∧ sameT T V = true) ∧
    (∀ R, ∃ V, firstD L len t (putBytes L len t T ++ R) = .ok V (putBytes L len t T).size ∧ sameT T V = true) ∧
    (∀ c, c < (putBytes L len t T).size → getD L len t ((putBytes L len t T).extract 0 c) = .bad 2) ∧
    (getD L len t (putBytes L len t T ++ ⟨#[0]⟩) = .bad 1 ∨ getD L len t (putBytes L len t T ++ ⟨#[0]⟩) = .bad 3) := by
  have hfa : fitsA L len t T = 0 := by
    unfold putErr at hp
    split at hp
    · rename_i c; exact absurd hp c
    · rename_i c; simpa using c
  obtain ⟨k, rfl, hk, hok, hft⟩ := fitsA_zero hfa
  have hv := ok_all hok
  have he := enum_ok hok
  have hT : hasT L len (k : Nat) = true := hasT_yes hk hok
  have hle : ¬ 512 < endR (rowT L T k) 0 := by
    unfold putErr at hp
    rw [if_neg (by rw [hfa]; decide), Int.toNat_natCast] at hp
    split at hp
    · cases hp
    · assumption
  have hs : putBytes L len (k : Nat) T = bytR (rowT L T k) ⟨#[]⟩ := by unfold putBytes; rw [if_pos hp, Int.toNat_natCast]
  rw [hs]
  have hz : (bytR (rowT L T k) ⟨#[]⟩).size = endR (rowT L T k) 0 := bytR_size (rowT L T k) (row_okP hv T k hk hft) ⟨#[]⟩
  have h1 := (fits_ends (op := fun _ => true) hv (fun _ _ _ e => by cases e) T k hk hw hft 0).1
  have h2 := (end_good (op := fun _ => true) (most := false) hv hk).inc 0
  have hback := fun R => dec_back hv he (k + 1) k T ⟨#[]⟩ R (Nat.lt_succ_self k) hk hw hft
  have hcut := fun c => dec_cut hv he (k + 1) k T ⟨#[]⟩ c (Nat.lt_succ_self k) hk hw hft (Nat.zero_le c)
  have z0 : (⟨#[]⟩ : ByteArray).size = 0 := rfl
  rw [z0] at hback
  simp only [z0] at hcut
  generalize bytR (rowT L T k) ⟨#[]⟩ = s at *
  have hnil : s ++ (⟨#[]⟩ : ByteArray) = s := by apply ByteArray.ext; simp
  have hge : ∀ b, getD L len (k : Nat) b = if 512 < b.size then .bad 3 else leftD b (decF L b (k + 1) k 0) := fun b => by unfold getD; rw [hT, if_pos rfl, Int.toNat_natCast]
  refine ⟨by omega, by omega, ?_, fun R => ?_, fun c hc => ?_, ?_⟩
  · obtain ⟨V, hV, hS⟩ := hback ⟨#[]⟩
    rw [hnil] at hV
    refine ⟨V, ?_, hS⟩
    rw [hge, if_neg (by omega), hV]
    exact if_neg (Nat.lt_irrefl _)
  · obtain ⟨V, hV, hS⟩ := hback R
    refine ⟨V, ?_, hS⟩
    unfold firstD
    rw [hT, if_pos rfl, Int.toNat_natCast]
    exact hV
  · have h3 := hcut c hc
    have h4 : (s.extract 0 c).size = c := by rw [ByteArray.size_extract]; omega
    rw [hge, if_neg (by omega)]
    show leftD _ (decF L (preB11 s c) (k + 1) k 0) = _
    rw [h3]
    rfl
  · have h4 : (s ++ (⟨#[0]⟩ : ByteArray)).size = s.size + 1 := by rw [ByteArray.size_append]; rfl
    obtain ⟨V, hV, hS⟩ := hback ⟨#[0]⟩
    rw [hge]
    by_cases h5 : 512 < (s ++ (⟨#[0]⟩ : ByteArray)).size
    · rw [if_pos h5]; exact .inr rfl
    · rw [if_neg h5, hV]
      exact .inl (if_pos (by omega))
end Go.Proofs.YtmnemddagcfjgaaGreatDoor
