/- Plain mathematics of chapter 7: the ends of a type's values, uncapped and capped. -/
import Derived.Test.YtinmdkhafamibaaGreatTypesLawMath
import Derived.Test.YtinmdkhafamibaaGreatAlignMath
namespace Go.Proofs.YtinmdkhafamibaaGreat
open Go.RowKit
set_option linter.unusedVariables false
/-- the end of a number of a size -/
def numE (s a : Nat) : Nat := a + (s - a % s) % s + s
def SzN (s : Nat) : Prop := s = 1 ∨ s = 2 ∨ s = 4 ∨ s = 8
theorem szN_of {k : Int} (h : numK k = true) : SzN (szK k).toNat ∧ 0 ≤ szK k := by
  rcases isSz_cases (szK_sz h) with e | e | e | e <;> rw [e] <;> refine ⟨?_, by decide⟩ <;> unfold SzN <;> decide
theorem numE_gap {s : Nat} (hs : SzN s) (a : Nat) : (a : Int) + gapZ (a : Int) (s : Int) + (s : Int) = (numE s a : Nat) := by
  have hz : isSz (s : Int) = true := by rcases hs with rfl | rfl | rfl | rfl <;> rfl
  rw [gapZ_in (by omega) hz]
  unfold numE
  rcases hs with rfl | rfl | rfl | rfl <;> omega
structure Good (f : Nat → Nat) : Prop where
  inc : ∀ a, a < f a
  mono : ∀ a b, a ≤ b → f a ≤ f b
  shift : ∀ a, f (a + 8) = f a + 8
theorem numE_good {s : Nat} (hs : SzN s) : Good (numE s) := by
  refine ⟨fun a => ?_, fun a b h => ?_, fun a => ?_⟩ <;> unfold numE <;> rcases hs with rfl | rfl | rfl | rfl <;> omega
theorem numE_le {s : Nat} (hs : SzN s) (a : Nat) : numE s a ≤ a + 15 := by
  unfold numE; rcases hs with rfl | rfl | rfl | rfl <;> omega
theorem numE4_le (a : Nat) : numE 4 a ≤ a + 7 := by unfold numE; omega
/-- one behind the other -/
def seqE (F : Nat → Nat → Nat) : Nat → Nat → Nat
  | 0, a => a
  | j + 1, a => F j (seqE F j a)
theorem seqE_cmp {F G : Nat → Nat → Nat} : ∀ (n a b : Nat), (∀ j, j < n → ∀ a b, a ≤ b → F j a ≤ G j b) → a ≤ b → seqE F n a ≤ seqE G n b
  | 0, a, b, h, hab => hab
  | n + 1, a, b, h, hab => h n (Nat.lt_succ_self n) _ _ (seqE_cmp n a b (fun j hj => h j (Nat.lt_succ_of_lt hj)) hab)
theorem seqE_ge {F : Nat → Nat → Nat} : ∀ (n a : Nat), (∀ j, j < n → ∀ a, a < F j a) → a + n ≤ seqE F n a
  | 0, a, h => Nat.le_refl _
  | n + 1, a, h => by
    have h1 := seqE_ge n a (fun j hj => h j (Nat.lt_succ_of_lt hj))
    have h2 := h n (Nat.lt_succ_self n) (seqE F n a)
    show _ ≤ F n (seqE F n a)
    omega
theorem seqE_shift {F : Nat → Nat → Nat} : ∀ (n a : Nat), (∀ j, j < n → ∀ a, F j (a + 8) = F j a + 8) → seqE F n (a + 8) = seqE F n a + 8
  | 0, a, h => rfl
  | n + 1, a, h => by
    show F n (seqE F n (a + 8)) = F n (seqE F n a) + 8
    rw [seqE_shift n a (fun j hj => h j (Nat.lt_succ_of_lt hj)), h n (Nat.lt_succ_self n)]
theorem seqE_congr {F G : Nat → Nat → Nat} : ∀ (n a : Nat), (∀ j, j < n → F j = G j) → seqE F n a = seqE G n a
  | 0, a, h => rfl
  | n + 1, a, h => by
    show F n (seqE F n a) = G n (seqE G n a)
    rw [seqE_congr n a (fun j hj => h j (Nat.lt_succ_of_lt hj)), h n (Nat.lt_succ_self n)]
theorem seqE_bnd {F : Nat → Nat → Nat} {X : Nat} : ∀ (n a : Nat), (∀ j, j < n → ∀ a, F j a ≤ a + X) → seqE F n a ≤ a + n * X
  | 0, a, h => by simp [seqE]
  | n + 1, a, h => by
    have h1 := seqE_bnd n a (fun j hj => h j (Nat.lt_succ_of_lt hj))
    have h2 := h n (Nat.lt_succ_self n) (seqE F n a)
    show F n (seqE F n a) ≤ _
    rw [Nat.succ_mul]
    omega
theorem seqE_step {F : Nat → Nat → Nat} {n a j : Nat} (hF : ∀ j, j < n → ∀ a, a < F j a) (hj : j ≤ n) : seqE F j a ≤ seqE F n a := by
  induction n with
  | zero => obtain rfl : j = 0 := by omega
            exact Nat.le_refl _
  | succ n ih =>
    by_cases h : j = n + 1
    · subst h; exact Nat.le_refl _
    · have h1 := ih (fun j hj => hF j (by omega)) (by omega)
      have h2 := hF n (Nat.lt_succ_self n) (seqE F n a)
      show _ ≤ F n (seqE F n a)
      omega
/-- the greatest or the least of the first ones -/
def pickN (most : Bool) (x : Nat → Nat) : Nat → Nat
  | 0 => x 0
  | j + 1 => if most then max (pickN most x j) (x (j + 1)) else min (pickN most x j) (x (j + 1))
theorem pick_cmp {m : Bool} {x y : Nat → Nat} : ∀ (n : Nat), (∀ i, i ≤ n → x i ≤ y i) → pickN m x n ≤ pickN m y n
  | 0, h => h 0 (Nat.le_refl _)
  | n + 1, h => by
    have h1 := pick_cmp (m := m) n (fun i hi => h i (Nat.le_succ_of_le hi))
    have h2 := h (n + 1) (Nat.le_refl _)
    unfold pickN
    cases m <;> simp <;> omega
theorem pick_shift {m : Bool} {x y : Nat → Nat} {c : Nat} : ∀ (n : Nat), (∀ i, i ≤ n → y i = x i + c) → pickN m y n = pickN m x n + c
  | 0, h => h 0 (Nat.le_refl _)
  | n + 1, h => by
    have h1 := pick_shift (m := m) n (fun i hi => h i (Nat.le_succ_of_le hi))
    have h2 := h (n + 1) (Nat.le_refl _)
    unfold pickN
    cases m <;> simp <;> omega
theorem pick_congr {m : Bool} {x y : Nat → Nat} (n : Nat) (h : ∀ i, i ≤ n → y i = x i) : pickN m y n = pickN m x n := pick_shift (c := 0) n h
theorem pick_lo {m : Bool} {x : Nat → Nat} {c : Nat} : ∀ (n : Nat), (∀ i, i ≤ n → c ≤ x i) → c ≤ pickN m x n
  | 0, h => h 0 (Nat.le_refl _)
  | n + 1, h => by
    have h1 := pick_lo (m := m) n (fun i hi => h i (Nat.le_succ_of_le hi))
    have h2 := h (n + 1) (Nat.le_refl _)
    unfold pickN
    cases m <;> simp <;> omega
theorem pick_hi {m : Bool} {x : Nat → Nat} {c : Nat} : ∀ (n : Nat), (∀ i, i ≤ n → x i ≤ c) → pickN m x n ≤ c
  | 0, h => h 0 (Nat.le_refl _)
  | n + 1, h => by
    have h1 := pick_hi (m := m) n (fun i hi => h i (Nat.le_succ_of_le hi))
    have h2 := h (n + 1) (Nat.le_refl _)
    unfold pickN
    cases m <;> simp <;> omega
theorem pick_first {x : Nat → Nat} : ∀ (n : Nat), pickN false x n ≤ x 0 ∧ x 0 ≤ pickN true x n
  | 0 => ⟨Nat.le_refl _, Nat.le_refl _⟩
  | n + 1 => by
    have := pick_first (x := x) n
    simp only [pickN]
    simp; omega
theorem pick_min {m : Bool} {x y : Nat → Nat} : ∀ (n : Nat), (∀ i, i ≤ n → min (x i) 513 = min (y i) 513) → min (pickN m x n) 513 = min (pickN m y n) 513
  | 0, h => h 0 (Nat.le_refl _)
  | n + 1, h => by
    have h1 := pick_min (m := m) n (fun i hi => h i (Nat.le_succ_of_le hi))
    have h2 := h (n + 1) (Nat.le_refl _)
    unfold pickN
    cases m <;> simp <;> omega
/-- the ends behind a tag: none, where some tag has no branch, and each branch -/
def unX (op : Bool) (b : Nat) (y : Nat → Nat) (i : Nat) : Nat := if op then (if i = 0 then b else y (i - 1)) else y i
def unN (op : Bool) (n : Nat) : Nat := if op then n else n - 1
def unionE (most op : Bool) (b : Nat) (y : Nat → Nat) (n : Nat) : Nat := pickN most (unX op b y) (unN op n)
theorem unX_all {op : Bool} {b n : Nat} {y : Nat → Nat} {P : Nat → Prop} (hn : 1 ≤ n) (hb : P b) (hy : ∀ j, j < n → P (y j)) (i : Nat) (hi : i ≤ unN op n) : P (unX op b y i) := by
  unfold unX; unfold unN at hi
  cases op with
  | true =>
    simp at hi ⊢
    by_cases h : i = 0
    · rw [if_pos h]; exact hb
    · rw [if_neg h]; exact hy _ (by omega)
  | false => simp at hi ⊢; exact hy _ (by omega)
theorem unX_two {op : Bool} {b c n : Nat} {y z : Nat → Nat} {P : Nat → Nat → Prop} (hn : 1 ≤ n) (hb : P b c) (hy : ∀ j, j < n → P (y j) (z j)) (i : Nat) (hi : i ≤ unN op n) : P (unX op b y i) (unX op c z i) := by
  unfold unX; unfold unN at hi
  cases op with
  | true =>
    simp at hi ⊢
    by_cases h : i = 0
    · rw [if_pos h, if_pos h]; exact hb
    · rw [if_neg h, if_neg h]; exact hy _ (by omega)
  | false => simp at hi ⊢; exact hy _ (by omega)
/-- by the types ahead -/
def tabF (step : (Nat → Nat → Nat) → Nat → Nat → Nat) : Nat → Nat → Nat → Nat
  | 0, _, _ => 0
  | n + 1, t, a => if t = n then step (tabF step n) n a else tabF step n t a
def fixF (step : (Nat → Nat → Nat) → Nat → Nat → Nat) (t a : Nat) : Nat := tabF step (t + 1) t a
theorem tab_fix (step : (Nat → Nat → Nat) → Nat → Nat → Nat) : ∀ (n t : Nat), t < n → tabF step n t = fixF step t
  | 0, t, h => by omega
  | n + 1, t, h => by
    funext a
    by_cases e : t = n
    · subst e; rfl
    · have := congrFun (tab_fix step n t (by omega)) a
      rw [← this]
      show (if t = n then _ else _) = _
      rw [if_neg e]
theorem fix_eq {step : (Nat → Nat → Nat) → Nat → Nat → Nat} {t : Nat} (hl : ∀ F G : Nat → Nat → Nat, (∀ p, p < t → F p = G p) → ∀ a, step F t a = step G t a) (a : Nat) : fixF step t a = step (fixF step) t a := by
  show (if t = t then _ else _) = _
  rw [if_pos rfl]
  exact hl _ _ (fun p hp => tab_fix step t p hp) a
def ptE (E : Nat → Nat → Nat) (T : TypeV) (j : Nat) : Nat → Nat := E (T.items j).type.toNat
def cntE (most : Bool) (T : TypeV) : Nat := if most then T.bound.toNat else 0
def stepE (L : Nat → TypeV) (op : Nat → Bool) (most : Bool) (E : Nat → Nat → Nat) (t a : Nat) : Nat :=
  if (L t).kind = 10 then numE 4 a + cntE most (L t) + 1
  else if (L t).kind = 11 then seqE (fun _ => E (L t).of.toNat) (cntE most (L t)) (numE 4 a)
  else if (L t).kind = 12 then seqE (fun _ => E (L t).of.toNat) (L t).bound.toNat a
  else if (L t).kind = 13 then seqE (ptE E (L t)) (L t).ilen a
  else if (L t).kind = 14 then unionE most (op t) (E (L t).tag.toNat a) (fun j => ptE E (L t) j (E (L t).tag.toNat a)) (L t).ilen
  else numE (szK (L t).kind).toNat a
structure OkT (L : Nat → TypeV) (t : Nat) : Prop where
  kind : 1 ≤ (L t).kind ∧ (L t).kind ≤ 14
  of : (L t).kind = 11 ∨ (L t).kind = 12 → 0 ≤ (L t).of ∧ (L t).of < t ∧ deepN L (L t).of.toNat + 1 ≤ deepN L t
  tag : (L t).kind = 14 → 0 ≤ (L t).tag ∧ (L t).tag < t ∧ deepN L (L t).tag.toNat + 1 ≤ deepN L t ∧ numK (L (L t).tag.toNat).kind = true
  items : (L t).kind = 13 ∨ (L t).kind = 14 → ∀ j, j < (L t).ilen → 0 ≤ ((L t).items j).type ∧ ((L t).items j).type < t ∧ deepN L ((L t).items j).type.toNat + 1 ≤ deepN L t
  count : (L t).kind = 13 ∨ (L t).kind = 14 → 1 ≤ (L t).ilen ∧ (L t).ilen ≤ 16
  bound : (L t).kind = 10 ∨ (L t).kind = 11 ∨ (L t).kind = 12 → 0 ≤ (L t).bound ∧ (L t).bound ≤ 64
  least : (L t).kind = 11 ∨ (L t).kind = 12 → 1 ≤ (L t).bound
  deep : 1 ≤ deepN L t ∧ deepN L t ≤ 6
theorem stepE_local {L : Nat → TypeV} {op : Nat → Bool} {most : Bool} {t : Nat} (h : OkT L t) (F G : Nat → Nat → Nat) (hp : ∀ p, p < t → F p = G p) (a : Nat) : stepE L op most F t a = stepE L op most G t a := by
  unfold stepE
  split; · rfl
  split
  · rename_i h1
    have := h.of (.inl h1)
    rw [hp _ (by omega)]
  split
  · rename_i h1
    have := h.of (.inr h1)
    rw [hp _ (by omega)]
  split
  · rename_i h1
    exact seqE_congr _ _ fun j hj => by
      have := h.items (.inl h1) j hj
      unfold ptE; rw [hp _ (by omega)]
  split
  · rename_i h1
    have h2 := h.tag h1
    have h3 := h.count (.inr h1)
    rw [hp (L t).tag.toNat (by omega)]
    refine pick_congr _ fun i hi => ?_
    refine unX_two (P := fun a b => a = b) h3.1 rfl (fun j hj => ?_) i hi
    have := h.items (.inr h1) j hj
    unfold ptE; rw [hp _ (by omega)]
  · rfl
/-- the end, uncapped -/
def endE (L : Nat → TypeV) (op : Nat → Bool) (most : Bool) : Nat → Nat → Nat := fixF (stepE L op most)
/-- the end, capped -/
def capS (L : Nat → TypeV) (op : Nat → Bool) (most : Bool) (F : Nat → Nat → Nat) (t a : Nat) : Nat := min (a - a % 8 + stepE L op most F t (a % 8)) 513
def endC (L : Nat → TypeV) (op : Nat → Bool) (most : Bool) : Nat → Nat → Nat := fixF (capS L op most)
theorem endE_eq {L : Nat → TypeV} {op : Nat → Bool} {most : Bool} {t : Nat} (h : OkT L t) (a : Nat) : endE L op most t a = stepE L op most (endE L op most) t a := fix_eq (fun F G hp a => stepE_local h F G hp a) a
theorem endC_eq {L : Nat → TypeV} {op : Nat → Bool} {most : Bool} {t : Nat} (h : OkT L t) (a : Nat) : endC L op most t a = min (a - a % 8 + stepE L op most (endC L op most) t (a % 8)) 513 :=
  fix_eq (step := capS L op most) (fun F G hp a => by unfold capS; rw [stepE_local h F G hp]) a
theorem good_step {L : Nat → TypeV} {op : Nat → Bool} {most : Bool} {E : Nat → Nat → Nat} {t : Nat} (h : OkT L t) (hE : ∀ p, p < t → Good (E p)) : Good (stepE L op most E t) := by
  have g4 := numE_good (s := 4) (by unfold SzN; omega)
  by_cases h10 : (L t).kind = 10
  · have e : ∀ a, stepE L op most E t a = numE 4 a + cntE most (L t) + 1 := fun a => by unfold stepE; rw [if_pos h10]
    refine ⟨fun a => ?_, fun a b hab => ?_, fun a => ?_⟩
    · rw [e]; have := g4.inc a; omega
    · rw [e, e]; have := g4.mono a b hab; omega
    · rw [e, e]; have := g4.shift a; omega
  by_cases h11 : (L t).kind = 11
  · have ho := h.of (.inl h11)
    have gp := hE (L t).of.toNat (by omega)
    have e : ∀ a, stepE L op most E t a = seqE (fun _ => E (L t).of.toNat) (cntE most (L t)) (numE 4 a) := fun a => by unfold stepE; rw [if_neg h10, if_pos h11]
    refine ⟨fun a => ?_, fun a b hab => ?_, fun a => ?_⟩
    · rw [e]; have := g4.inc a; have := seqE_ge (F := fun _ => E (L t).of.toNat) (cntE most (L t)) (numE 4 a) (fun j hj => gp.inc); omega
    · rw [e, e]; exact seqE_cmp _ _ _ (fun j hj => gp.mono) (g4.mono a b hab)
    · rw [e, e, g4.shift]; exact seqE_shift _ _ (fun j hj => gp.shift)
  by_cases h12 : (L t).kind = 12
  · have ho := h.of (.inr h12)
    have hl := h.least (.inr h12)
    have gp := hE (L t).of.toNat (by omega)
    have e : ∀ a, stepE L op most E t a = seqE (fun _ => E (L t).of.toNat) (L t).bound.toNat a := fun a => by unfold stepE; rw [if_neg h10, if_neg h11, if_pos h12]
    refine ⟨fun a => ?_, fun a b hab => ?_, fun a => ?_⟩
    · rw [e]; have := seqE_ge (F := fun _ => E (L t).of.toNat) (L t).bound.toNat a (fun j hj => gp.inc); omega
    · rw [e, e]; exact seqE_cmp _ _ _ (fun j hj => gp.mono) hab
    · rw [e, e]; exact seqE_shift _ _ (fun j hj => gp.shift)
  by_cases h13 : (L t).kind = 13
  · have hc := h.count (.inl h13)
    have gp := fun j (hj : j < (L t).ilen) => hE ((L t).items j).type.toNat (by have := h.items (.inl h13) j hj; omega)
    have e : ∀ a, stepE L op most E t a = seqE (ptE E (L t)) (L t).ilen a := fun a => by unfold stepE; rw [if_neg h10, if_neg h11, if_neg h12, if_pos h13]
    refine ⟨fun a => ?_, fun a b hab => ?_, fun a => ?_⟩
    · rw [e]; have := seqE_ge (F := ptE E (L t)) (L t).ilen a (fun j hj => (gp j hj).inc); omega
    · rw [e, e]; exact seqE_cmp _ _ _ (fun j hj => (gp j hj).mono) hab
    · rw [e, e]; exact seqE_shift _ _ (fun j hj => (gp j hj).shift)
  by_cases h14 : (L t).kind = 14
  · have hc := h.count (.inr h14)
    have ht := h.tag h14
    have gt := hE (L t).tag.toNat (by omega)
    have gp := fun j (hj : j < (L t).ilen) => hE ((L t).items j).type.toNat (by have := h.items (.inr h14) j hj; omega)
    have e : ∀ a, stepE L op most E t a = unionE most (op t) (E (L t).tag.toNat a) (fun j => ptE E (L t) j (E (L t).tag.toNat a)) (L t).ilen := fun a => by unfold stepE; rw [if_neg h10, if_neg h11, if_neg h12, if_neg h13, if_pos h14]
    refine ⟨fun a => ?_, fun a b hab => ?_, fun a => ?_⟩
    · rw [e]
      have h1 := gt.inc a
      refine Nat.lt_of_lt_of_le h1 (pick_lo _ (unX_all hc.1 (Nat.le_refl _) fun j hj => ?_))
      have := (gp j hj).inc (E (L t).tag.toNat a)
      unfold ptE; omega
    · rw [e, e]
      refine pick_cmp _ (unX_two (P := fun a b => a ≤ b) hc.1 (gt.mono a b hab) fun j hj => ?_)
      exact (gp j hj).mono _ _ (gt.mono a b hab)
    · rw [e, e]
      refine pick_shift _ (unX_two (P := fun y x => y = x + 8) hc.1 (gt.shift a) fun j hj => ?_)
      unfold ptE
      rw [gt.shift, (gp j hj).shift]
  · have hk := h.kind
    have hn : numK (L t).kind = true := by unfold numK; simp; omega
    have e : ∀ a, stepE L op most E t a = numE (szK (L t).kind).toNat a := fun a => by unfold stepE; rw [if_neg h10, if_neg h11, if_neg h12, if_neg h13, if_neg h14]
    have g := numE_good (szN_of hn).1
    exact ⟨fun a => by rw [e]; exact g.inc a, fun a b hab => by rw [e, e]; exact g.mono a b hab, fun a => by rw [e, e]; exact g.shift a⟩
theorem good_end {L : Nat → TypeV} {op : Nat → Bool} {most : Bool} {len : Nat} (h : ∀ t, t < len → OkT L t) : ∀ (n t : Nat), t < n → t < len → Good (endE L op most t)
  | 0, t, h0, _ => by omega
  | n + 1, t, h0, h1 => by
    have e : endE L op most t = stepE L op most (endE L op most) t := funext fun a => endE_eq (h t h1) a
    rw [e]
    exact good_step (h t h1) fun p hp => good_end h n p (by omega) (by omega)
theorem end_good {L : Nat → TypeV} {op : Nat → Bool} {most : Bool} {len : Nat} (h : ∀ t, t < len → OkT L t) {t : Nat} (ht : t < len) : Good (endE L op most t) := good_end h (t + 1) t (by omega) ht
theorem good_rest {f : Nat → Nat} (h : Good f) (r : Nat) : ∀ q : Nat, f (q * 8 + r) = q * 8 + f r
  | 0 => by simp
  | q + 1 => by
    have h1 := good_rest h r q
    have h2 := h.shift (q * 8 + r)
    have e : (q + 1) * 8 + r = q * 8 + r + 8 := by omega
    rw [e, h2, h1]; omega
theorem good_mod {f : Nat → Nat} (h : Good f) (a : Nat) : f a = a - a % 8 + f (a % 8) := by
  have h1 := good_rest h (a % 8) (a / 8)
  have e : a / 8 * 8 + a % 8 = a := by omega
  rw [e] at h1
  rw [h1]; omega
end Go.Proofs.YtinmdkhafamibaaGreat
namespace Go.Proofs.YtinmdkhafamibaaGreat
open Go.RowKit
set_option linter.unusedVariables false
theorem part_deep {L : Nat → TypeV} {t : Nat} {p : Int} (hp : p ∈ partsL (L t)) (h0 : 0 ≤ p) (h1 : p < t) : deepN L p.toNat + 1 ≤ deepN L t := by
  rw [deepN_eq L t]; exact fold_has h0 h1 _ _ hp
theorem ok_of {L : Nat → TypeV} {len i : Nat} (h : oneR L len i = 0) (hi : i < len) : OkT L i := by
  have hdp := valid_deep h hi
  unfold oneR oneT at h
  split at h; · cases h
  rename_i hkb
  split at h; · cases h
  rename_i hm
  split at h; · cases h
  split at h; · cases h
  split at h; · cases h
  rename_i hb
  split at h; · cases h
  rename_i ho
  split at h; · cases h
  rename_i htg
  split at h; · cases h
  rename_i hc
  split at h; · cases h
  rename_i hc16
  have ho' : orderR (L i) i = false := by simpa using ho
  have hin := fun p (hp : p ∈ partsL (L i)) => order_in ho' p hp
  have hk14 : 1 ≤ (L i).kind ∧ (L i).kind ≤ 14 := by unfold kindBad at hkb; simp at hkb; omega
  have hbd : bndR (L i) = false := by simpa using hb
  unfold bndR at hbd
  simp at hbd
  have pof : (L i).kind = 11 ∨ (L i).kind = 12 → (L i).of ∈ partsL (L i) := fun h => by rw [partsL_one h]; exact List.mem_cons_self
  have ptg : (L i).kind = 14 → (L i).tag ∈ partsL (L i) := fun h => by rw [partsL_union h]; exact List.mem_cons_self
  have pit : (L i).kind = 13 ∨ (L i).kind = 14 → ∀ j, j < (L i).ilen → ((L i).items j).type ∈ partsL (L i) := fun h j hj => by
    have hmm : ((L i).items j).type ∈ (List.range (L i).ilen).map fun j => ((L i).items j).type := List.mem_map.2 ⟨j, List.mem_range.2 hj, rfl⟩
    rcases h with h | h
    · rw [partsL_struct h]; exact hmm
    · rw [partsL_union h]; exact List.mem_cons_of_mem _ hmm
  refine ⟨hk14, fun hk => ?_, fun hk => ?_, fun hk j hj => ?_, fun hk => ?_, fun hk => ?_, fun hk => ?_, ⟨hdp.1, hdp.2.1⟩⟩
  · have h2 := hin _ (pof hk)
    exact ⟨h2.1, h2.2, part_deep (pof hk) h2.1 h2.2⟩
  · have h2 := hin _ (ptg hk)
    refine ⟨h2.1, h2.2, part_deep (ptg hk) h2.1 h2.2, ?_⟩
    unfold tagR at htg
    rw [hk] at htg
    simpa using htg
  · have h2 := hin _ (pit hk j hj)
    exact ⟨h2.1, h2.2, part_deep (pit hk j hj) h2.1 h2.2⟩
  · have hn : namedK (L i).kind = true := by unfold namedK; rcases hk with hk | hk <;> rw [hk] <;> rfl
    rw [hn] at hc
    simp at hc
    omega
  · obtain ⟨⟨h1, h2⟩, h3⟩ := hbd
    rcases hk with hk | hk | hk
    · exact ⟨h1 hk, by omega⟩
    · exact ⟨by have := h2 (.inl hk); omega, by omega⟩
    · exact ⟨by have := h2 (.inr hk); omega, by omega⟩
  · obtain ⟨⟨h1, h2⟩, h3⟩ := hbd
    exact h2 hk
theorem ok_all {L : Nat → TypeV} {len : Nat} (h : fErr (oneR L len) len = 0) : ∀ i, i < len → OkT L i := fun i hi => ok_of ((valid_all h).2 i hi) hi
theorem pow_part {d e : Nat} (h : d + 1 ≤ e) : 72 * 72 ^ d ≤ 72 ^ e := by
  have := Nat.pow_le_pow_right (n := 72) (by decide) h
  rw [Nat.pow_succ] at this
  omega
theorem pow_six {e : Nat} (h : e ≤ 6) : 72 ^ e ≤ 139314069504 := Nat.le_trans (Nat.pow_le_pow_right (by decide) h) (by decide)
theorem step_le {L : Nat → TypeV} {op : Nat → Bool} {most : Bool} {E : Nat → Nat → Nat} {t : Nat} (h : OkT L t) (hE : ∀ p, p < t → ∀ a, E p a ≤ a + 72 ^ deepN L p) (a : Nat) : stepE L op most E t a ≤ a + 72 ^ deepN L t := by
  have h1 : 72 ^ 1 ≤ 72 ^ deepN L t := Nat.pow_le_pow_right (by decide) h.deep.1
  obtain ⟨X, hX⟩ : ∃ X, 72 ^ deepN L t = 72 * X := by
    obtain ⟨e, he⟩ : ∃ e, deepN L t = e + 1 := ⟨deepN L t - 1, by have := h.deep.1; omega⟩
    exact ⟨72 ^ e, by rw [he, Nat.pow_succ, Nat.mul_comm]⟩
  have hpX : ∀ p : Int, 0 ≤ p → p < t → deepN L p.toNat + 1 ≤ deepN L t → ∀ a, E p.toNat a ≤ a + X := fun p h0 h1 h2 a => by
    have h3 := pow_part h2
    have h4 := hE p.toNat (by omega) a
    rw [hX] at h3
    omega
  rw [hX] at h1 ⊢
  have g4 := numE4_le a
  unfold stepE
  split
  · rename_i hk
    have hb := h.bound (.inl hk)
    unfold cntE; split <;> omega
  split
  · rename_i hk
    have hb := h.bound (.inr (.inl hk))
    have ho := h.of (.inl hk)
    have := seqE_bnd (F := fun _ => E (L t).of.toNat) (X := X) (cntE most (L t)) (numE 4 a) (fun j hj a => hpX _ ho.1 ho.2.1 ho.2.2 a)
    have hc : cntE most (L t) * X ≤ 64 * X := Nat.mul_le_mul_right _ (by unfold cntE; split <;> omega)
    omega
  split
  · rename_i hk
    have hb := h.bound (.inr (.inr hk))
    have ho := h.of (.inr hk)
    have := seqE_bnd (F := fun _ => E (L t).of.toNat) (X := X) (L t).bound.toNat a (fun j hj a => hpX _ ho.1 ho.2.1 ho.2.2 a)
    have hc : (L t).bound.toNat * X ≤ 64 * X := Nat.mul_le_mul_right _ (by omega)
    omega
  split
  · rename_i hk
    have hcn := h.count (.inl hk)
    have := seqE_bnd (F := ptE E (L t)) (X := X) (L t).ilen a (fun j hj a => by have ho := h.items (.inl hk) j hj; exact hpX _ ho.1 ho.2.1 ho.2.2 a)
    have hc : (L t).ilen * X ≤ 16 * X := Nat.mul_le_mul_right _ hcn.2
    omega
  split
  · rename_i hk
    have hcn := h.count (.inr hk)
    have htg := h.tag hk
    have hb := hpX _ htg.1 htg.2.1 htg.2.2.1 a
    refine Nat.le_trans (pick_hi (c := a + X + X) _ (unX_all (P := fun x => x ≤ a + X + X) hcn.1 (by omega) fun j hj => ?_)) (by omega)
    have ho := h.items (.inr hk) j hj
    have := hpX _ ho.1 ho.2.1 ho.2.2 (E (L t).tag.toNat a)
    unfold ptE; omega
  · rename_i h10 h11 h12 h13 h14
    have hk := h.kind
    have hn : numK (L t).kind = true := by unfold numK; simp; omega
    have := numE_le (szN_of hn).1 a
    omega
theorem end_le_in {L : Nat → TypeV} {op : Nat → Bool} {most : Bool} {len : Nat} (h : ∀ t, t < len → OkT L t) : ∀ (n t : Nat), t < n → t < len → ∀ a, endE L op most t a ≤ a + 72 ^ deepN L t
  | 0, t, h0, _, a => by omega
  | n + 1, t, h0, h1, a => by
    rw [endE_eq (h t h1)]
    exact step_le (h t h1) (fun p hp => end_le_in h n p (by omega) (by omega)) a
theorem end_le {L : Nat → TypeV} {op : Nat → Bool} {most : Bool} {len : Nat} (h : ∀ t, t < len → OkT L t) {t : Nat} (ht : t < len) (a : Nat) : endE L op most t a ≤ a + 139314069504 :=
  Nat.le_trans (end_le_in h (t + 1) t (by omega) ht a) (by have := pow_six (h t ht).deep.2; omega)
theorem seqE_min {F G : Nat → Nat → Nat} : ∀ (n a b : Nat), (∀ j, j < n → ∀ a, F j a = min (G j a) 513) → (∀ j, j < n → ∀ a, a < G j a) → min a 513 = min b 513 → min (seqE F n a) 513 = min (seqE G n b) 513
  | 0, a, b, h, hg, hab => hab
  | n + 1, a, b, h, hg, hab => by
    have h1 := seqE_min n a b (fun j hj => h j (Nat.lt_succ_of_lt hj)) (fun j hj => hg j (Nat.lt_succ_of_lt hj)) hab
    show min (F n (seqE F n a)) 513 = min (G n (seqE G n b)) 513
    rw [h n (Nat.lt_succ_self n)]
    have h2 := hg n (Nat.lt_succ_self n) (seqE F n a)
    have h3 := hg n (Nat.lt_succ_self n) (seqE G n b)
    by_cases e : seqE F n a = seqE G n b
    · rw [e]; omega
    · omega
theorem step_min {L : Nat → TypeV} {op : Nat → Bool} {most : Bool} {F G : Nat → Nat → Nat} {t : Nat} (h : OkT L t) (hF : ∀ p, p < t → ∀ a, F p a = min (G p a) 513) (hG : ∀ p, p < t → ∀ a, a < G p a) (a : Nat) :
    min (stepE L op most F t a) 513 = min (stepE L op most G t a) 513 := by
  unfold stepE
  split; · rfl
  split
  · rename_i hk
    have ho := h.of (.inl hk)
    exact seqE_min _ _ _ (fun j hj => hF _ (by omega)) (fun j hj => hG _ (by omega)) rfl
  split
  · rename_i hk
    have ho := h.of (.inr hk)
    exact seqE_min _ _ _ (fun j hj => hF _ (by omega)) (fun j hj => hG _ (by omega)) rfl
  split
  · rename_i hk
    have ho := h.items (.inl hk)
    exact seqE_min _ _ _ (fun j hj => hF _ (by have := ho j hj; omega)) (fun j hj => hG _ (by have := ho j hj; omega)) rfl
  split
  · rename_i hk
    have hcn := h.count (.inr hk)
    have htg := h.tag hk
    have hi := h.items (.inr hk)
    have h1 := hF (L t).tag.toNat (by omega) a
    refine pick_min _ (unX_two (P := fun x y => min x 513 = min y 513) hcn.1 (by omega) fun j hj => ?_)
    have ho := hi j hj
    unfold ptE
    rw [hF _ (by omega), h1]
    have h2 := hG ((L t).items j).type.toNat (by omega) (min (G (L t).tag.toNat a) 513)
    have h3 := hG ((L t).items j).type.toNat (by omega) (G (L t).tag.toNat a)
    by_cases e : G (L t).tag.toNat a ≤ 513
    · rw [Nat.min_eq_left e]; omega
    · omega
  · rfl
theorem endC_in {L : Nat → TypeV} {op : Nat → Bool} {most : Bool} {len : Nat} (h : ∀ t, t < len → OkT L t) : ∀ (n t : Nat), t < n → t < len → ∀ a, endC L op most t a = min (endE L op most t a) 513
  | 0, t, h0, _, a => by omega
  | n + 1, t, h0, h1, a => by
    have g := end_good (op := op) (most := most) h h1
    have hm := step_min (op := op) (most := most) (F := endC L op most) (G := endE L op most) (h t h1) (fun p hp => endC_in h n p (by omega) (by omega)) (fun p hp => (end_good h (by omega)).inc) (a % 8)
    rw [endC_eq (h t h1), good_mod g a, endE_eq (h t h1)]
    omega
/-- the capped end -/
theorem endC_min {L : Nat → TypeV} {op : Nat → Bool} {most : Bool} {len : Nat} (h : ∀ t, t < len → OkT L t) {t : Nat} (ht : t < len) (a : Nat) : endC L op most t a = min (endE L op most t a) 513 := endC_in h (t + 1) t (by omega) ht a
theorem endC_le {L : Nat → TypeV} {op : Nat → Bool} {most : Bool} {len : Nat} (h : ∀ t, t < len → OkT L t) {t : Nat} (ht : t < len) (a : Nat) : endC L op most t a ≤ 513 := by rw [endC_min h ht]; omega
theorem least_in {L : Nat → TypeV} {op : Nat → Bool} {len : Nat} (h : ∀ t, t < len → OkT L t) : ∀ (n t : Nat), t < n → t < len → ∀ a, endE L op false t a ≤ endE L op true t a
  | 0, t, h0, _, a => by omega
  | n + 1, t, h0, h1, a => by
    have hk := h t h1
    have hp := fun p (hp : p < t) => least_in (op := op) h n p (by omega) (by omega)
    have hc : ∀ p, p < t → ∀ a b, a ≤ b → endE L op false p a ≤ endE L op true p b := fun p hpt a b hab => Nat.le_trans (hp p hpt a) ((end_good (op := op) (most := true) h (by omega)).mono a b hab)
    rw [endE_eq hk, endE_eq hk]
    unfold stepE
    split
    · unfold cntE; simp
    split
    · rename_i hkk
      have ho := hk.of (.inl hkk)
      have h3 := seqE_ge (F := fun _ => endE L op true (L t).of.toNat) (cntE true (L t)) (numE 4 a) (fun j hj => (end_good h (by omega)).inc)
      show numE 4 a ≤ _
      omega
    split
    · rename_i hkk
      have ho := hk.of (.inr hkk)
      exact seqE_cmp _ _ _ (fun j hj => hc _ (by omega)) (Nat.le_refl _)
    split
    · rename_i hkk
      have ho := hk.items (.inl hkk)
      exact seqE_cmp _ _ _ (fun j hj => hc _ (by have := ho j hj; omega)) (Nat.le_refl _)
    split
    · rename_i hkk
      have hcn := hk.count (.inr hkk)
      have htg := hk.tag hkk
      have hi := hk.items (.inr hkk)
      have h2 := hp (L t).tag.toNat (by omega) a
      refine Nat.le_trans (pick_first _).1 (Nat.le_trans ?_ (pick_first _).2)
      exact unX_two (P := fun x y => x ≤ y) hcn.1 h2 (fun j hj => by have ho := hi j hj; exact hc _ (by omega) _ _ h2) 0 (Nat.zero_le _)
    · exact Nat.le_refl _
theorem least_most {L : Nat → TypeV} {op : Nat → Bool} {len : Nat} (h : ∀ t, t < len → OkT L t) {t : Nat} (ht : t < len) (a : Nat) : endE L op false t a ≤ endE L op true t a := least_in h (t + 1) t (by omega) ht a
/-- whether a list is valid and has a type -/
def hasT (L : Nat → TypeV) (len : Nat) (t : Int) : Bool := inL len t && (fErr (oneR L len) len == 0 && fAt (oneR L len) len == 0)
def placeN (at' : Int) : Nat := (min (max at' 0) 513).toNat
/-- what Most and Least answer -/
def boundA (L : Nat → TypeV) (op : Nat → Bool) (len : Nat) (t at' : Int) (most : Bool) : Int := if hasT L len t then (min (endE L op most t.toNat (placeN at')) 513 : Nat) else -1
theorem fAt_ok {L : Nat → TypeV} {len : Nat} (h : fErr (oneR L len) len = 0) : fAt (oneR L len) len = 0 := (valid_prefix h (Nat.le_refl _)).2
theorem hasT_in {L : Nat → TypeV} {len : Nat} {t : Int} (h : hasT L len t = true) : ∃ k : Nat, t = k ∧ k < len ∧ fErr (oneR L len) len = 0 := by
  unfold hasT inL at h
  simp at h
  exact ⟨t.toNat, by omega, by omega, h.2.1⟩
theorem hasT_yes {L : Nat → TypeV} {len k : Nat} (hk : k < len) (h : fErr (oneR L len) len = 0) : hasT L len (k : Nat) = true := by
  unfold hasT; rw [inL_yes hk, h, fAt_ok h]; rfl
end Go.Proofs.YtinmdkhafamibaaGreat
