/- What the statements of chapter 6 ask, of lists of types as the program sees them. -/
import Derived.Test.YtohphejhlgnciaaGreatTypesAwake
namespace Go.Proofs.YtohphejhlgnciaaGreat
open Go.ChangeShapes Go.WideShapes Go.ChangeAt Go.RowKit
set_option linter.unusedVariables false
section
variable {H : Type} {enc : TypeId × Value → H} {w : World}
theorem types_of2 {v : Value} (h : v = .slice none 0 0 ∨ ∃ (a : Addr) (len cap : Nat), v = .slice (some a) len cap ∧ len ≤ cap ∧ cap ≤ maxLen ∧ cap * Tryz.prog.bytesOf 40 ≤ 140737488351232 ∧
      ∀ i, i < cap → ∃ c : List Value, w.cells? 0 (a.add (i * 6)) 6 = some c ∧ Rdg enc Tryz.prog w 40 c) :
    ∃ (ao : Option Addr) (len cap : Nat) (L : Nat → TypeV), v = .slice ao len cap ∧ len ≤ cap ∧ (ao = none → cap = 0) ∧ len ≤ 140737488351232 ∧ ∀ i, i < len → TypeAt w ao i (L i) := by
  obtain ⟨ao, len, cap, L, e, hm, H⟩ := types_of h
  rcases h with rfl | ⟨a, len', cap', rfl, hl, hc, _⟩
  · injection e with e1 e2 e3; subst e2 e3; exact ⟨ao, 0, 0, L, by rw [e1], Nat.le_refl _, fun _ => rfl, hm, H⟩
  · injection e with e1 e2 e3; subst e1 e2 e3; exact ⟨some a, len', cap', L, rfl, hl, (fun h => by cases h), hm, H⟩
end
theorem great_lt {L : Nat → TypeV} {len : Nat} (h : greatB L len = false) : len ≤ 100 := by
  unfold greatB at h; simp at h; omega
theorem deepL_in {L : Nat → TypeV} {len i : Nat} (h : i < len) : deepL L len (i : Nat) = (deepN L i : Nat) := by unfold deepL; rw [inL_yes h]; rfl
theorem one_prefix {L : Nat → TypeV} {n len i : Nat} (hn : n ≤ len) (hi : i < n) : oneR L n i = oneR L len i := by
  unfold oneR oneT
  rw [deepL_in hi, deepL_in (show i < len by omega)]
/-- a list that may be: so may its beginning -/
theorem valid_all {L : Nat → TypeV} {len : Nat} (h : fErr (oneR L len) len = 0) : len ≤ 32 ∧ ∀ i, i < len → oneR L len i = 0 := by
  unfold fErr at h
  by_cases h32 : 32 < len
  · rw [if_pos h32] at h; cases h
  · rw [if_neg h32] at h
    refine ⟨by omega, fun i hi => ?_⟩
    obtain ⟨h1, h2, h3⟩ := firstN_is (fun j => oneR L len j != 0) len
    by_cases c : firstN (fun j => oneR L len j != 0) len < len
    · rw [firstE_at h2 c (h3 c)] at h
      have h4 : (oneR L len (firstN (fun j => oneR L len j != 0) len) != 0) = true := h3 c
      rw [h] at h4; cases h4
    · have := h2 i (by omega); simpa using this
theorem valid_prefix {L : Nat → TypeV} {len n : Nat} (h : fErr (oneR L len) len = 0) (hn : n ≤ len) : fErr (oneR L n) n = 0 ∧ fAt (oneR L n) n = 0 := by
  obtain ⟨h32, ha⟩ := valid_all h
  have hf : ∀ i, i < n → (oneR L n i != 0) = false := fun i hi => by rw [one_prefix hn hi, ha i (by omega)]; rfl
  unfold fErr fAt
  rw [if_neg (by omega), if_neg (by omega), firstE_none hf, first_none hf, if_neg (Nat.lt_irrefl _)]
  exact ⟨rfl, rfl⟩
theorem wrong_prefix {L : Nat → TypeV} {len n : Nat} (h : fErr (oneR L len) len ≠ 0) (h32 : len ≤ 32) (hn : n ≤ len) :
    ∃ k : Nat, k < len ∧ fAt (oneR L len) len = k ∧ (k < n → fErr (oneR L n) n = fErr (oneR L len) len ∧ fAt (oneR L n) n = k) ∧ (n ≤ k → fErr (oneR L n) n = 0) := by
  obtain ⟨h1, h2, h3⟩ := firstN_is (fun j => oneR L len j != 0) len
  by_cases c : firstN (fun j => oneR L len j != 0) len < len
  · refine ⟨_, c, ?_, fun hk => ?_, fun hk => ?_⟩
    · unfold fAt; rw [if_neg (by omega), if_pos c]
    · have hf : ∀ i, i < firstN (fun j => oneR L len j != 0) len → (oneR L n i != 0) = false := fun i hi => by rw [one_prefix hn (by omega)]; exact h2 i hi
      have hp : (oneR L n (firstN (fun j => oneR L len j != 0) len) != 0) = true := by rw [one_prefix hn hk]; exact h3 c
      unfold fErr fAt
      rw [if_neg (show ¬ 32 < n by omega), if_neg (show ¬ 32 < n by omega), if_neg (show ¬ 32 < len by omega), firstE_at hf hk hp, first_at hf hk hp, if_pos hk, firstE_at h2 c (h3 c), one_prefix hn hk]
      exact ⟨rfl, rfl⟩
    · have hf : ∀ i, i < n → (oneR L n i != 0) = false := fun i hi => by rw [one_prefix hn hi]; exact h2 i (by omega)
      unfold fErr
      rw [if_neg (by omega), firstE_none hf]
  · exfalso
    apply h
    unfold fErr
    rw [if_neg (by omega), firstE_none (fun i hi => h2 i (by omega))]
theorem fold_has {D : Nat → Nat} {t : Nat} {p : Int} (h0 : 0 ≤ p) (h1 : p < t) : ∀ (l : List Int) (a : Nat), p ∈ l → D p.toNat + 1 ≤ l.foldl (deepStep D t) a
  | q :: l, a, h => by
    rw [List.foldl_cons]
    rcases List.mem_cons.1 h with rfl | h
    · refine Nat.le_trans ?_ (fold_ge l _)
      unfold deepStep
      rw [if_pos ⟨h0, h1⟩]
      omega
    · exact fold_has h0 h1 l _ h
/-- a type that may be is no deeper than may be, and deeper than its parts -/
theorem valid_deep {L : Nat → TypeV} {len i : Nat} (h : oneR L len i = 0) (hi : i < len) : 1 ≤ deepN L i ∧ deepN L i ≤ 6 ∧ (11 ≤ (L i).kind → 2 ≤ deepN L i) := by
  obtain ⟨T, hT⟩ : ∃ T, L i = T := ⟨_, rfl⟩
  unfold oneR oneT at h
  rw [hT] at h
  have hp := deepN_pos L i
  split at h; · cases h
  rename_i hkb
  split at h; · cases h
  rename_i hm
  split at h; · cases h
  split at h; · cases h
  split at h; · cases h
  split at h; · cases h
  rename_i ho
  split at h; · cases h
  split at h; · cases h
  rename_i hc
  split at h; · cases h
  split at h; · rename_i hne; exact absurd h hne
  split at h; · cases h
  rename_i hd
  rw [deepL_in hi] at hd
  refine ⟨hp, by omega, fun hk => ?_⟩
  rw [hT] at hk
  have hk14 : T.kind ≤ 14 := by unfold kindBad at hkb; simp at hkb; omega
  have ho' : orderR T i = false := by simpa using ho
  have key : ∀ p, p ∈ partsL T → 2 ≤ deepN L i := fun p hp => by
    obtain ⟨h0, h1⟩ := order_in ho' p hp
    rw [deepN_eq]
    have := fold_has (D := deepN L) h0 h1 (partsL (L i)) 1 (by rw [hT]; exact hp)
    have := deepN_pos L p.toNat
    omega
  have hk4 : (T.kind = 11 ∨ T.kind = 12) ∨ T.kind = 13 ∨ T.kind = 14 := by omega
  rcases hk4 with h1 | h1 | h1
  · exact key T.of (by rw [partsL_one h1]; exact List.mem_cons_self)
  · have hn : namedK T.kind = true := by unfold namedK; rw [h1]; rfl
    have hil : 0 < T.ilen := by
      rw [hn] at hc
      simp at hc; omega
    exact key (T.items 0).type (by rw [partsL_struct h1]; exact List.mem_map.2 ⟨0, List.mem_range.2 hil, rfl⟩)
  · exact key T.tag (by rw [partsL_union h1]; exact List.mem_cons_self)
end Go.Proofs.YtohphejhlgnciaaGreat
