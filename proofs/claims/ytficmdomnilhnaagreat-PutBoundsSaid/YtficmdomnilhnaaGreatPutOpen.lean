/- Where a union is not open, every number of its tag has a branch. -/
import Derived.Test.YtficmdomnilhnaaGreatPutMath
import Derived.Test.YtficmdomnilhnaaGreatBoundsOpen
namespace Go.Proofs.YtficmdomnilhnaaGreat
open Go.RowKit
set_option linter.unusedVariables false
theorem pigeon : ∀ (m : Nat) (f : Nat → Nat), (∀ i, i < m + 1 → f i < m) → (∀ i j, i < m + 1 → j < m + 1 → f i = f j → i = j) → False
  | 0, f, h, _ => absurd (h 0 (by omega)) (by omega)
  | m + 1, f, h, hj => by
    refine pigeon m (fun i => if f i = m then f (m + 1) else f i) (fun i hi => ?_) (fun i j hi hj' e => ?_)
    · have h1 := h i (by omega)
      have h2 := h (m + 1) (by omega)
      by_cases c : f i = m
      · simp only [if_pos c]
        by_cases d : f (m + 1) = m
        · have := hj i (m + 1) (by omega) (by omega) (c.trans d.symm); omega
        · omega
      · simp only [if_neg c]; omega
    · by_cases c : f i = m
      · by_cases d : f j = m
        · exact hj i j (by omega) (by omega) (c.trans d.symm)
        · simp only [if_pos c, if_neg d] at e
          have := hj (m + 1) j (by omega) (by omega) e; omega
      · by_cases d : f j = m
        · simp only [if_neg c, if_pos d] at e
          have := hj i (m + 1) (by omega) (by omega) e; omega
        · simp only [if_neg c, if_neg d] at e
          exact hj i j (by omega) (by omega) e
theorem mem_mayL {k : Int} {m : Nat} (h : mayK k (m : Nat) = true) : ∀ N, m < N → ((m : Nat) : Int) ∈ mayL k N
  | 0, h0 => by omega
  | N + 1, h0 => by
    unfold mayL
    by_cases c : m = N
    · subst c; rw [if_pos h]; exact List.mem_append_right _ List.mem_cons_self
    · have := mem_mayL h N (by omega)
      split
      · exact List.mem_append_left _ this
      · exact this
theorem may_small {k : Int} (hk : numK k = true) (h1 : k ≠ 1) {m : Nat} (hm : m < 17) : mayK k (m : Nat) = true := by
  have hc : k = 2 ∨ k = 3 ∨ k = 4 ∨ k = 5 ∨ k = 6 ∨ k = 7 ∨ k = 8 ∨ k = 9 := by unfold numK at hk; simp at hk; omega
  have hall : ∀ m, m < 17 → (mayK 2 (m : Nat) && mayK 3 (m : Nat) && mayK 4 (m : Nat) && mayK 5 (m : Nat) && mayK 6 (m : Nat) && mayK 7 (m : Nat) && mayK 8 (m : Nat) && mayK 9 (m : Nat)) = true := by decide +kernel
  have := hall m hm
  simp only [Bool.and_eq_true] at this
  obtain ⟨⟨⟨⟨⟨⟨⟨a2, a3⟩, a4⟩, a5⟩, a6⟩, a7⟩, a8⟩, a9⟩ := this
  rcases hc with rfl | rfl | rfl | rfl | rfl | rfl | rfl | rfl
  · exact a2
  · exact a3
  · exact a4
  · exact a5
  · exact a6
  · exact a7
  · exact a8
  · exact a9
/-- no branch: nowhere the number, nowhere Rest -/
theorem branch_none {T : TypeV} {n : Int} (h14 : T.kind = 14) (h : okZ (branchZ T n) = false) : (∀ j, j < T.ilen → (T.items j).rest = false) ∧ ∀ j, j < T.ilen → (T.items j).num ≠ n := by
  obtain ⟨_, h2, h3⟩ := firstN_is (tagB T n) T.ilen
  unfold branchZ at h
  rw [if_pos h14] at h
  split at h
  · rename_i c
    unfold okZ at h
    simp at h
  · rename_i c
    have hr : ∀ j, j < T.ilen → (T.items j).rest = false := by
      rcases firstZ_cases (fun j => (T.items j).rest) T.ilen with ⟨k, hk, e, _, _⟩ | ⟨e, h4⟩
      · rw [e] at h; unfold okZ at h; simp at h
      · exact h4
    refine ⟨hr, fun j hj e => ?_⟩
    have := h2 j (by omega)
    unfold tagB at this
    rw [hr j hj, e] at this
    simp at this
theorem branch_some {T : TypeV} {n : Int} (h14 : T.kind = 14) (hr : ∀ j, j < T.ilen → (T.items j).rest = false) (h : okZ (branchZ T n) = true) : ∃ j, j < T.ilen ∧ (T.items j).num = n := by
  obtain ⟨_, h2, h3⟩ := firstN_is (tagB T n) T.ilen
  unfold branchZ at h
  rw [if_pos h14] at h
  split at h
  · rename_i c
    have := h3 c
    unfold tagB at this
    simp at this
    exact ⟨_, c, this.2⟩
  · rcases firstZ_cases (fun j => (T.items j).rest) T.ilen with ⟨k, hk, e, h4, _⟩ | ⟨e, h4⟩
    · have := hr k hk; rw [this] at h4; cases h4
    · rw [e] at h; exact absurd h (by decide)
theorem open_none {L : Nat → TypeV} {len : Nat} (hv : ∀ i, i < len → OkT L i) (t : Nat) (ht : t < len) (h14 : (L t).kind = 14) (ho : openT L len t = false) (n : Int) (h0 : 0 ≤ n) (h1 : n ≤ 18446744073709551615)
    (hn : numE9 L (L t).tag.toNat n = 0) : okZ (branchZ (L t) n) = true := by
  have hall : ∀ m ∈ tagsT (L (L t).tag.toNat), okZ (branchZ (L t) m) = true := fun m hm => by
    unfold openT at ho
    have := (List.any_eq_false.1 ho) m hm
    have e : branchL L len (t : Nat) m = branchZ (L t) m := by unfold branchL; rw [inL_yes ht]; rfl
    rw [e] at this
    unfold okZ
    simp at this ⊢
    omega
  have hok : numOk L (L t).tag.toNat n = true := by
    unfold numE9 at hn
    split at hn
    · assumption
    · cases hn
  obtain ⟨_, _, _, hk⟩ := (hv t ht).tag h14
  have hc := (hv t ht).count (.inr h14)
  generalize (L t).tag.toNat = p at hall hok hk
  unfold numOk at hok
  unfold tagsT at hall
  by_cases h9 : (L p).kind = 9
  · rw [if_pos h9] at hok hall
    unfold okZ valueZ at hok
    rw [if_pos h9] at hok
    rcases firstZ_cases (fun j => ((L p).items j).num == n) (L p).ilen with ⟨k, hk', e, h4, _⟩ | ⟨e, _⟩
    · refine hall n (List.mem_map.2 ⟨k, List.mem_range.2 hk', by simpa using h4⟩)
    · rw [e] at hok; exact absurd hok (by decide)
  rw [if_neg h9] at hok hall
  cases hb : okZ (branchZ (L t) n) with
  | true => rfl
  | false =>
    exfalso
    obtain ⟨hr, hnn⟩ := branch_none h14 hb
    by_cases k1 : (L p).kind = 1
    · rw [k1] at hok hall
      have h2 : n < 2 := by unfold mayK at hok; simpa using hok
      obtain ⟨m, rfl⟩ : ∃ m : Nat, n = m := ⟨n.toNat, by omega⟩
      have := hall _ (mem_mayL hok 17 (by omega))
      rw [hb] at this; cases this
    · have hj : ∀ m, m < 17 → ∃ j, j < (L t).ilen ∧ ((L t).items j).num = (m : Nat) := fun m hm => branch_some h14 hr (hall _ (mem_mayL (may_small hk k1 hm) 17 hm))
      have hf : ∃ f : Nat → Nat, ∀ m, m < 17 → f m < (L t).ilen ∧ ((L t).items (f m)).num = (m : Nat) := by
        refine ⟨fun m => if h : m < 17 then Classical.choose (hj m h) else 0, fun m hm => ?_⟩
        simp only [dif_pos hm]
        exact Classical.choose_spec (hj m hm)
      obtain ⟨f, hf⟩ := hf
      refine pigeon 16 f (fun i hi => by have := hf i (by omega); omega) (fun i j hi hj' e => ?_)
      have a := (hf i (by omega)).2
      have b := (hf j (by omega)).2
      rw [e] at a
      omega
end Go.Proofs.YtficmdomnilhnaaGreat
