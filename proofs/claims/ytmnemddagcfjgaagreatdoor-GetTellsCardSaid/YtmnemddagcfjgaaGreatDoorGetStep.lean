/- Chapter 11: which errors there are; where a value ends; one after the other. -/
import Derived.Test.YtmnemddagcfjgaaGreatDoorGetCut
namespace Go.Proofs.YtmnemddagcfjgaaGreatDoor
open Go.RowKit
set_option linter.unusedVariables false
def okErr (e : Int) : Prop := e = 1 ∨ e = 2 ∨ e = 3 ∨ e = 7 ∨ e = 10 ∨ e = 12
theorem okErr.ne {e : Int} (h : okErr e) : e ≠ 0 ∧ e ≠ 8 := by unfold okErr at h; omega
theorem okErr.wf {e : Int} (h : okErr e) : 0 ≤ e ∧ e ≤ 12 := by unfold okErr at h; omega
theorem scan_err (s : ByteArray) : ∀ (g a : Nat), scanE s a g = 0 ∨ okErr (scanE s a g)
  | 0, a => .inl rfl
  | g + 1, a => by
    by_cases c : s.size ≤ a
    · rw [scan_short c]; exact .inr (.inr (.inl rfl))
    · by_cases d : byteAt s a = 0
      · rw [scan_ok (by omega) d]; exact scan_err s g (a + 1)
      · rw [scan_pad (by omega) d]; exact .inr (by unfold okErr; omega)
theorem tk_err {b : ByteArray} {a : Nat} {z : Int} (hz : isSz z = true) : tkE b a z = 0 ∨ okErr (tkE b a z) := by
  unfold tkE
  split
  · unfold takeE
    rw [hz, if_pos rfl]
    split
    · exact .inr (by unfold okErr; omega)
    · split
      · exact .inr (by unfold okErr; omega)
      · exact .inl rfl
  · exact scan_err b _ a
theorem size_sz {k : Int} (h : numK k = true) : isSz (szK k) = true := by
  unfold numK at h
  simp at h
  have : k = 1 ∨ k = 2 ∨ k = 3 ∨ k = 4 ∨ k = 5 ∨ k = 6 ∨ k = 7 ∨ k = 8 ∨ k = 9 := by omega
  rcases this with rfl | rfl | rfl | rfl | rfl | rfl | rfl | rfl | rfl <;> rfl
theorem n_err {L : Nat → TypeV} {p : Nat} {b : ByteArray} {a : Nat} (h : numK (L p).kind = true) : nE L p b a = 0 ∨ okErr (nE L p b a) := by
  unfold nE
  split
  · rename_i c
    exact .inr ((tk_err (size_sz h)).resolve_left c)
  · split
    · exact .inl rfl
    · exact .inr (by unfold okErr; omega)
theorem x_err {bound : Int} {b : ByteArray} {a : Nat} : xE bound b a = 0 ∨ okErr (xE bound b a) := by
  unfold xE
  split
  · rename_i c
    exact .inr ((tk_err (z := 4) rfl).resolve_left c)
  split
  · exact .inr (by unfold okErr; omega)
  split
  · exact .inr (by unfold okErr; omega)
  split
  · rename_i c
    unfold txE at c ⊢
    split at c <;> split <;> first | omega | exact .inr (by unfold okErr; omega) | skip
    all_goals (split <;> first | exact .inl rfl | exact .inr (by unfold okErr; omega))
  split
  · exact .inr (by unfold okErr; omega)
  split
  · exact .inr (by unfold okErr; omega)
  · exact .inl rfl
theorem l_err {bound : Int} {b : ByteArray} {a : Nat} : lE bound b a = 0 ∨ okErr (lE bound b a) := by
  unfold lE
  split
  · rename_i c
    exact .inr ((tk_err (z := 4) rfl).resolve_left c)
  split
  · exact .inr (by unfold okErr; omega)
  · exact .inl rfl
/-- behind an error -/
theorem seq_up {D : Nat → Nat → DR} {a j : Nat} {e : Int} (h : seqD D a j = .bad e) : ∀ {n : Nat}, j ≤ n → seqD D a n = .bad e := by
  intro n hn
  induction n with
  | zero => obtain rfl : j = 0 := by omega
            exact h
  | succ n ih =>
    by_cases c : j = n + 1
    · subst c; exact h
    · show stepD D n (seqD D a n) = _
      exact stepD_bad (ih (by omega))
theorem seq_next {D : Nat → Nat → DR} {a j a1 : Nat} {K : Nat → VT} (h : seqD D a j = .ok K a1) {V : VT} {a2 : Nat} (h2 : D j a1 = .ok V a2) : seqD D a (j + 1) = .ok (putK K j V) a2 := by
  show stepD D j (seqD D a j) = _
  rw [h]
  show (match D j a1 with | .bad e => DS.bad e | .ok v a' => .ok (putK K j v) a') = _
  rw [h2]
theorem seq_stop {D : Nat → Nat → DR} {a j a1 : Nat} {K : Nat → VT} (h : seqD D a j = .ok K a1) {e : Int} (h2 : D j a1 = .bad e) : seqD D a (j + 1) = .bad e := by
  show stepD D j (seqD D a j) = _
  rw [h]
  show (match D j a1 with | .bad e => DS.bad e | .ok v a' => .ok (putK K j v) a') = _
  rw [h2]
theorem seq_err {D : Nat → Nat → DR} {a : Nat} : ∀ {n : Nat}, (∀ i, i < n → ∀ a e, D i a = .bad e → okErr e) → ∀ {e : Int}, seqD D a n = .bad e → okErr e
  | 0, _, e, h => by cases h
  | n + 1, hd, e, h => by
    have h : stepD D n (seqD D a n) = .bad e := h
    cases hs : seqD D a n with
    | bad f =>
      rw [stepD_bad hs] at h
      injection h with h
      subst h
      exact seq_err (fun i hi => hd i (by omega)) hs
    | ok K a1 =>
      rw [hs] at h
      have h : (match D n a1 with | .bad e => DS.bad e | .ok v a' => .ok (putK K n v) a') = DS.bad e := h
      cases hq : D n a1 with
      | bad f => rw [hq] at h; injection h with h; subst h; exact hd n (by omega) a1 f hq
      | ok v a2 => rw [hq] at h; cases h
/-- a beginning of the Items -/
theorem seq_part {D : Nat → Nat → DR} {a : Nat} : ∀ {n : Nat} {K : Nat → VT} {a' : Nat}, seqD D a n = .ok K a' → ∀ {j : Nat}, j ≤ n → ∃ K1 a1, seqD D a j = .ok K1 a1
  | 0, K, a', h, j, hj => by obtain rfl : j = 0 := by omega
                             exact ⟨_, _, h⟩
  | n + 1, K, a', h, j, hj => by
    by_cases c : j = n + 1
    · subst c; exact ⟨_, _, h⟩
    · have h : stepD D n (seqD D a n) = .ok K a' := h
      cases hs : seqD D a n with
      | bad f => rw [stepD_bad hs] at h; cases h
      | ok K1 a1 => exact seq_part hs (by omega)
theorem nodeD_bad {k n : Int} {m : Nat} {S : DS} {e : Int} (h : nodeD k n m S = .bad e) : S = .bad e := by
  cases S with
  | bad f => injection h with h; rw [h]
  | ok K a => cases h
theorem br_item {L : Nat → TypeV} {t : Nat} (ok : OkT L t) (e4 : (L t).kind = 14) {n : Int} {i : Nat} (hi : i < brN (L t) n) :
    (branchZ (L t) n).toNat + i < (L t).ilen ∧ 0 ≤ ((L t).items ((branchZ (L t) n).toNat + i)).type ∧ ((L t).items ((branchZ (L t) n).toNat + i)).type < t := by
  have ho : (branchZ (L t) n).toNat + i < (L t).ilen := by
    unfold brN at hi
    split at hi
    · rename_i c
      have := (br_part (T := .node 14 n ⟨#[]⟩ none 0 0 (fun _ => .nil)) e4 c).1
      have : (branchZ (L t) n).toNat < (L t).ilen := this
      omega
    · omega
  have := ok.items (.inr e4) _ ho
  exact ⟨ho, this.1, this.2.1⟩
/-- what is wrong with a value is one of these -/
theorem dec_err {L : Nat → TypeV} {len : Nat} (hv : ∀ i, i < len → OkT L i) (b : ByteArray) : ∀ (k t a : Nat) (e : Int), t < k → t < len → decF L b k t a = .bad e → okErr e := by
  intro k
  induction k with
  | zero => intro t a e h; omega
  | succ k ih =>
    intro t a e hk ht hd
    have ok := hv t ht
    unfold decF at hd
    by_cases e0 : (L t).kind = 10
    · rw [if_pos e0] at hd
      split at hd
      · rename_i c; injection hd with hd; subst hd; exact x_err.resolve_left c
      · cases hd
    rw [if_neg e0] at hd
    by_cases e1 : (L t).kind = 11
    · rw [if_pos e1] at hd
      have hof := ok.of (.inl e1)
      split at hd
      · rename_i c; injection hd with hd; subst hd; exact l_err.resolve_left c
      · exact seq_err (fun i _ a e h => ih _ a e (by omega) (by omega) h) (nodeD_bad hd)
    rw [if_neg e1] at hd
    by_cases e2 : (L t).kind = 12
    · rw [if_pos e2] at hd
      have hof := ok.of (.inr e2)
      exact seq_err (fun i _ a e h => ih _ a e (by omega) (by omega) h) (nodeD_bad hd)
    rw [if_neg e2] at hd
    by_cases e3 : (L t).kind = 13
    · rw [if_pos e3] at hd
      refine seq_err (fun i hi a e h => ?_) (nodeD_bad hd)
      have := ok.items (.inl e3) i hi
      exact ih _ a e (by omega) (by omega) h
    rw [if_neg e3] at hd
    by_cases e4 : (L t).kind = 14
    · rw [if_pos e4] at hd
      have htg := ok.tag e4
      split at hd
      · rename_i c; injection hd with hd; subst hd; exact (n_err htg.2.2.2).resolve_left c
      · refine seq_err (fun i hi a e h => ?_) (nodeD_bad hd)
        have := br_item ok e4 hi
        exact ih _ a e (by omega) (by omega) h
    rw [if_neg e4] at hd
    split at hd
    · rename_i c; injection hd with hd; subst hd; exact (n_err (ok_num ok e0 e1 e2 e3 e4)).resolve_left c
    · cases hd
theorem dec_le {L : Nat → TypeV} {len : Nat} (hv : ∀ i, i < len → OkT L i) {b : ByteArray} {k t a : Nat} {U : VT} {a' : Nat} (hk : t < k) (ht : t < len) (ha : a ≤ b.size) (h : decF L b k t a = .ok U a') : a' ≤ b.size :=
  (dec_one hv b k t a U a' hk ht ha h).2.2.1
end Go.Proofs.YtmnemddagcfjgaaGreatDoor
