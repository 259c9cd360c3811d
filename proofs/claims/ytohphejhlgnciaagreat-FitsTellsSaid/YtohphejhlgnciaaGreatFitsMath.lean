/- Chapter 9 in plain words: what is wrong first with a value of a type. -/
import Derived.Test.YtohphejhlgnciaaGreatBoundsMath2
import Derived.Test.YtohphejhlgnciaaGreatValSame
import Derived.Lib.Bytealg
import Derived.Lib.IndexLaws
namespace Go.Proofs.YtohphejhlgnciaaGreat
open Go.RowKit
set_option linter.unusedVariables false
/-- what a kind has not is its zero value -/
def formT (T : VT) : Bool := ((numK T.kind || T.kind == 14) || T.num == 0) && ((T.kind == 10 || T.text.toList.isEmpty) && ((!numK T.kind && !(T.kind == 10)) || (T.len : Int) == 0))
/-- a byte 0 in a text -/
def zeroIn (s : ByteArray) : Bool := decide (0 ≤ Lib.indexByte s.data.toList 0)
/-- a number that a type of numbers has -/
def numOk (L : Nat → TypeV) (t : Nat) (n : Int) : Bool := if (L t).kind = 9 then okZ (valueZ (L t) n) else mayK (L t).kind n
def textE (s : ByteArray) (bound : Int) : Int := if bound < s.size then 3 else if zeroIn s then 10 else 0
def numE9 (L : Nat → TypeV) (t : Nat) (n : Int) : Int := if numOk L t n then 0 else 7
/-- how many Items a TUnion's value has -/
def brN (T : TypeV) (n : Int) : Nat := if okZ (branchZ T n) then 1 else 0
/-- what is wrong with a value itself -/
def headE (L : Nat → TypeV) (t : Nat) (T : VT) : Int :=
  if T.kind ≠ (L t).kind then 4 else if formT T = false then 1
  else if (L t).kind = 10 then textE T.text (L t).bound
  else if (L t).kind = 11 then (if (L t).bound < T.len then 3 else 0)
  else if (L t).kind = 12 then (if (T.len : Int) ≠ (L t).bound then 18 else 0)
  else if (L t).kind = 13 then (if T.len ≠ (L t).ilen then 18 else 0)
  else if (L t).kind = 14 then (if numE9 L (L t).tag.toNat T.num ≠ 0 then numE9 L (L t).tag.toNat T.num else if T.len ≠ brN (L t) T.num then 18 else 0)
  else numE9 L t T.num
/-- the type of an Item -/
def partT (L : Nat → TypeV) (t : Nat) (n : Int) (i : Nat) : Nat :=
  if (L t).kind = 13 then ((L t).items i).type.toNat else if (L t).kind = 14 then ((L t).items ((branchZ (L t) n).toNat + i)).type.toNat else (L t).of.toNat
/-- what is wrong first with a value -/
def fitsT (L : Nat → TypeV) : VT → Nat → Int
  | .nil, t => headE L t .nil
  | .node k n s a l c f, t => if headE L t (.node k n s a l c f) ≠ 0 then headE L t (.node k n s a l c f) else firstE (fun i => fitsT L (f i) (partT L t n i)) l
theorem fitsT_eq (L : Nat → TypeV) (T : VT) (t : Nat) : fitsT L T t = if headE L t T ≠ 0 then headE L t T else firstE (fun i => fitsT L (T.kid i) (partT L t T.num i)) T.len := by
  cases T with
  | nil =>
    have : firstE (fun i => fitsT L (VT.nil.kid i) (partT L t VT.nil.num i)) VT.nil.len = 0 := firstE_none (fun i hi => absurd hi (Nat.not_lt_zero i))
    rw [this]
    show headE L t .nil = _
    by_cases h : headE L t .nil ≠ 0
    · rw [if_pos h]
    · rw [if_neg h]; exact Classical.not_not.1 h
  | node => rfl
theorem fits_head {L : Nat → TypeV} {T : VT} {t : Nat} (h : headE L t T ≠ 0) : fitsT L T t = headE L t T := by rw [fitsT_eq, if_pos h]
theorem fits_kids {L : Nat → TypeV} {T : VT} {t : Nat} (h : headE L t T = 0) : fitsT L T t = firstE (fun i => fitsT L (T.kid i) (partT L t T.num i)) T.len := by rw [fitsT_eq, if_neg (by rw [h]; decide)]
/-- the parts of a type that may be: ahead of it, and less deep -/
theorem part_ok {L : Nat → TypeV} {t : Nat} {T : VT} (h : OkT L t) (h0 : headE L t T = 0) {i : Nat} (hi : i < T.len) : partT L t T.num i < t ∧ deepN L (partT L t T.num i) + 1 ≤ deepN L t := by
  unfold headE at h0
  split at h0; · cases h0
  rename_i hk
  have hk : T.kind = (L t).kind := Classical.not_not.1 hk
  split at h0; · cases h0
  rename_i hf
  have hf : formT T = true := by simpa using hf
  unfold formT at hf
  simp only [Bool.and_eq_true, Bool.or_eq_true, Bool.not_eq_true', beq_iff_eq, beq_eq_false_iff_ne] at hf
  obtain ⟨_, _, hl⟩ := hf
  have hl : numK T.kind = false ∧ T.kind ≠ 10 := by
    rcases hl with h | h
    · exact h
    · omega
  unfold partT
  split at h0
  · rename_i h10; exact absurd (hk.trans h10) hl.2
  rename_i n10
  split at h0
  · rename_i h11
    rw [if_neg (by omega), if_neg (by omega)]
    have := h.of (.inl h11)
    omega
  rename_i n11
  split at h0
  · rename_i h12
    rw [if_neg (by omega), if_neg (by omega)]
    have := h.of (.inr h12)
    omega
  rename_i n12
  split at h0
  · rename_i h13
    rw [if_pos h13]
    split at h0; · cases h0
    rename_i hn
    have := h.items (.inl h13) i (by omega)
    omega
  rename_i n13
  split at h0
  · rename_i h14
    rw [if_neg n13, if_pos h14]
    split at h0; · rename_i hne; exact absurd h0 hne
    split at h0; · cases h0
    rename_i hn
    have hn : T.len = brN (L t) T.num := Classical.not_not.1 hn
    unfold brN at hn
    by_cases hb : okZ (branchZ (L t) T.num) = true
    · rw [if_pos hb] at hn
      have hz : 0 ≤ branchZ (L t) T.num := by unfold okZ at hb; simpa using hb
      have hz2 : branchZ (L t) T.num < (L t).ilen := by
        have e : branchZ (L t) T.num = branchZ (L t) T.num := rfl
        have hlt : ∀ p, 0 ≤ firstZ p (L t).ilen → firstZ p (L t).ilen < (L t).ilen := fun p hp => by
          rcases firstZ_cases p (L t).ilen with ⟨k, hk, e, _, _⟩ | ⟨e, _⟩ <;> omega
        unfold branchZ at hz ⊢
        rw [if_pos h14] at hz ⊢
        split
        · rename_i hc; omega
        · rename_i hc; rw [if_neg hc] at hz; exact hlt _ hz
      have := h.items (.inr h14) ((branchZ (L t) T.num).toNat + i) (by omega)
      omega
    · rw [if_neg hb] at hn; omega
  rename_i n14
  exfalso
  have := h.kind
  have : numK (L t).kind = true := by unfold numK; simp; omega
  rw [hk, this] at hl
  exact absurd hl.1 (by decide)
/-- what is of a type is no deeper than it -/
theorem fits_deep {L : Nat → TypeV} {len : Nat} (hv : ∀ i, i < len → OkT L i) : ∀ (T : VT) (t : Nat), t < len → fitsT L T t = 0 → deepT T ≤ deepN L t := by
  refine VT.ind fun T ih t ht h => ?_
  have hh : headE L t T = 0 := by
    by_cases c : headE L t T = 0
    · exact c
    · rw [fits_head c] at h; exact h
  rw [fits_kids hh] at h
  have hz : ∀ i, i < T.len → fitsT L (T.kid i) (partT L t T.num i) = 0 := by
    obtain ⟨h1, h2, h3⟩ := firstN_is (fun j => fitsT L (T.kid j) (partT L t T.num j) != 0) T.len
    by_cases c : firstN (fun j => fitsT L (T.kid j) (partT L t T.num j) != 0) T.len < T.len
    · rw [firstE_at (e := fun j => fitsT L (T.kid j) (partT L t T.num j)) h2 c (h3 c)] at h
      have h4 := h3 c
      simp only at h h4
      rw [h] at h4; cases h4
    · intro i hi
      have := h2 i (by omega)
      simpa using this
  rw [deepT_eq]
  have hd := (hv t ht).deep
  have := maxTo_le (f := fun i => deepT (T.kid i)) (m := deepN L t - 1) T.len (fun i hi => by
    have hp := part_ok (hv t ht) hh hi
    have := ih i hi _ (by omega) (hz i hi)
    show deepT (T.kid i) ≤ _
    omega)
  omega
theorem fits_zero {L : Nat → TypeV} {T : VT} {t : Nat} (h : fitsT L T t = 0) : headE L t T = 0 ∧ ∀ i, i < T.len → fitsT L (T.kid i) (partT L t T.num i) = 0 := by
  have hh : headE L t T = 0 := by
    by_cases c : headE L t T = 0
    · exact c
    · rw [fits_head c] at h; exact h
  refine ⟨hh, ?_⟩
  rw [fits_kids hh] at h
  obtain ⟨h1, h2, h3⟩ := firstN_is (fun j => fitsT L (T.kid j) (partT L t T.num j) != 0) T.len
  by_cases c : firstN (fun j => fitsT L (T.kid j) (partT L t T.num j) != 0) T.len < T.len
  · rw [firstE_at (e := fun j => fitsT L (T.kid j) (partT L t T.num j)) h2 c (h3 c)] at h
    have h4 := h3 c
    simp only at h h4
    rw [h] at h4; cases h4
  · intro i hi
    have := h2 i (by omega)
    simpa using this
/-- the answer of Fits -/
def fitsA (L : Nat → TypeV) (len : Nat) (t : Int) (T : VT) : Int := if hasT L len t then fitsT L T t.toNat else 8
end Go.Proofs.YtohphejhlgnciaaGreat
