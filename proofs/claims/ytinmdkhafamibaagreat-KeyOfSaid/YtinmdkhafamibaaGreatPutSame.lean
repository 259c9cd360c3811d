/- Chapter 10 in plain words: a value of a type as a row of numbers and texts; where the row ends; its bytes. -/
import Derived.Test.YtinmdkhafamibaaGreatFitsAwake
import Derived.Test.YtinmdkhafamibaaGreatAlignBuf
namespace Go.Proofs.YtinmdkhafamibaaGreat
open Go.RowKit
set_option linter.unusedVariables false
/-- a part of a row: a number of a size, or a text -/
inductive RPart where
  | num (n z : Int)
  | text (s : ByteArray)
def endP : RPart → Nat → Nat
  | .num _ z, a => numE z.toNat a
  | .text s, a => a + s.size
def bytP : RPart → ByteArray → ByteArray
  | .num n z, t => t ++ zerosB (gapZ (t.size : Nat) z).toNat ++ putS n z
  | .text s, t => t ++ s
def okPart : RPart → Prop
  | .num n z => isSz z = true ∧ fits n z = true ∧ 0 ≤ n ∧ n ≤ 18446744073709551615
  | .text s => 0 < s.size ∧ s.size ≤ 1000
/-- the place behind a row -/
def endR (r : List RPart) (a : Nat) : Nat := r.foldl (fun a p => endP p a) a
/-- a row's bytes behind others -/
def bytR (r : List RPart) (t : ByteArray) : ByteArray := r.foldl (fun t p => bytP p t) t
theorem endR_app (r q : List RPart) (a : Nat) : endR (r ++ q) a = endR q (endR r a) := List.foldl_append ..
theorem bytR_app (r q : List RPart) (t : ByteArray) : bytR (r ++ q) t = bytR q (bytR r t) := List.foldl_append ..
theorem endR_cons (p : RPart) (r : List RPart) (a : Nat) : endR (p :: r) a = endR r (endP p a) := rfl
theorem endP_ge (p : RPart) (a : Nat) : a ≤ endP p a := by
  cases p with
  | num n z => show a ≤ numE z.toNat a; unfold numE; omega
  | text s => show a ≤ a + s.size; omega
theorem endR_ge : ∀ (r : List RPart) (a : Nat), a ≤ endR r a
  | [], a => Nat.le_refl _
  | p :: r, a => Nat.le_trans (endP_ge p a) (endR_ge r _)
theorem sz_nat {z : Int} (h : isSz z = true) : SzN z.toNat ∧ ((z.toNat : Nat) : Int) = z := by
  rcases isSz_cases h with rfl | rfl | rfl | rfl <;> refine ⟨?_, by decide⟩ <;> unfold SzN <;> decide
theorem bytP_size {p : RPart} (h : okPart p) (t : ByteArray) : (bytP p t).size = endP p t.size := by
  cases p with
  | num n z =>
    obtain ⟨h1, h2⟩ := sz_nat h.1
    have h3 := numE_gap h1 t.size
    rw [h2] at h3
    have h4 := (gapZ_rng (t.size : Nat) z).1
    show (t ++ zerosB (gapZ (t.size : Nat) z).toNat ++ putS n z).size = numE z.toNat t.size
    rw [ByteArray.size_append, ByteArray.size_append, zerosB_size, putS_size]
    omega
  | text s => show (t ++ s).size = t.size + s.size; rw [ByteArray.size_append]
theorem bytR_size : ∀ (r : List RPart), (∀ p ∈ r, okPart p) → ∀ t, (bytR r t).size = endR r t.size
  | [], _, t => rfl
  | p :: r, h, t => by
    show (bytR r (bytP p t)).size = endR r (endP p t.size)
    rw [bytR_size r (fun q hq => h q (List.mem_cons_of_mem _ hq)), bytP_size (h p List.mem_cons_self)]
/-- rows one behind the other -/
def catTo (f : Nat → List RPart) : Nat → List RPart
  | 0 => []
  | n + 1 => catTo f n ++ f n
theorem cat_congr {f g : Nat → List RPart} : ∀ n, (∀ i, i < n → f i = g i) → catTo f n = catTo g n
  | 0, _ => rfl
  | n + 1, h => by
    show catTo f n ++ f n = catTo g n ++ g n
    rw [cat_congr n (fun i hi => h i (by omega)), h n (by omega)]
theorem cat_mem {f : Nat → List RPart} {p : RPart} : ∀ n, p ∈ catTo f n → ∃ i, i < n ∧ p ∈ f i
  | 0, h => by cases h
  | n + 1, h => by
    rcases List.mem_append.1 h with h | h
    · obtain ⟨i, hi, h⟩ := cat_mem n h; exact ⟨i, by omega, h⟩
    · exact ⟨n, by omega, h⟩
theorem cat_end (f : Nat → List RPart) : ∀ n a, endR (catTo f n) a = seqE (fun j => endR (f j)) n a
  | 0, a => rfl
  | n + 1, a => by
    show endR (catTo f n ++ f n) a = endR (f n) (seqE (fun j => endR (f j)) n a)
    rw [endR_app, cat_end f n a]
theorem cat_le (f : Nat → List RPart) (a : Nat) : ∀ {n m : Nat}, n ≤ m → endR (catTo f n) a ≤ endR (catTo f m) a := by
  intro n m h
  induction m with
  | zero => obtain rfl : n = 0 := by omega
            exact Nat.le_refl _
  | succ m ih =>
    by_cases c : n = m + 1
    · subst c; exact Nat.le_refl _
    · refine Nat.le_trans (ih (by omega)) ?_
      show _ ≤ endR (catTo f m ++ f m) a
      rw [endR_app]; exact endR_ge _ _
/-- what of a value stands ahead of its Items -/
def headR (L : Nat → TypeV) (t : Nat) (T : VT) : List RPart :=
  if (L t).kind = 10 then [.num (((T.text.size : Nat) : Int) + 1) 4, .text (T.text ++ ⟨#[0]⟩)]
  else if (L t).kind = 11 then [.num ((T.len : Nat) : Int) 4]
  else if (L t).kind = 12 ∨ (L t).kind = 13 then []
  else if (L t).kind = 14 then [.num (lowK (L (L t).tag.toNat).kind T.num) (szK (L (L t).tag.toNat).kind)]
  else [.num (lowK (L t).kind T.num) (szK (L t).kind)]
/-- a value of a type as a row -/
def rowT (L : Nat → TypeV) : VT → Nat → List RPart
  | .nil, t => headR L t .nil
  | .node k n s a l c f, t => headR L t (.node k n s a l c f) ++ catTo (fun i => rowT L (f i) (partT L t n i)) l
theorem rowT_eq (L : Nat → TypeV) (T : VT) (t : Nat) : rowT L T t = headR L t T ++ catTo (fun i => rowT L (T.kid i) (partT L t T.num i)) T.len := by
  cases T with
  | nil => exact (List.append_nil _).symm
  | node => rfl
/-- what of a value itself is right -/
structure HeadOk (L : Nat → TypeV) (t : Nat) (T : VT) : Prop where
  kind : T.kind = (L t).kind
  form : formT T = true
  text : (L t).kind = 10 → ((T.text.size : Nat) : Int) ≤ (L t).bound
  seq : (L t).kind = 11 → ((T.len : Nat) : Int) ≤ (L t).bound
  arr : (L t).kind = 12 → ((T.len : Nat) : Int) = (L t).bound
  str : (L t).kind = 13 → T.len = (L t).ilen
  uni : (L t).kind = 14 → numE9 L (L t).tag.toNat T.num = 0 ∧ T.len = brN (L t) T.num
  num : (L t).kind ≠ 10 → (L t).kind ≠ 11 → (L t).kind ≠ 12 → (L t).kind ≠ 13 → (L t).kind ≠ 14 → numE9 L t T.num = 0
theorem head_ok {L : Nat → TypeV} {t : Nat} {T : VT} (h : headE L t T = 0) : HeadOk L t T := by
  unfold headE at h
  split at h; · cases h
  rename_i hk
  split at h; · cases h
  rename_i hf
  refine ⟨Classical.not_not.1 hk, by simpa using hf, fun e => ?_, fun e => ?_, fun e => ?_, fun e => ?_, fun e => ?_, fun e0 e1 e2 e3 e4 => ?_⟩
  · rw [if_pos e] at h
    unfold textE at h
    split at h; · cases h
    rename_i hb; omega
  · rw [if_neg (by omega), if_pos e] at h
    split at h; · cases h
    rename_i hb; omega
  · rw [if_neg (by omega), if_neg (by omega), if_pos e] at h
    split at h; · cases h
    rename_i hb; omega
  · rw [if_neg (by omega), if_neg (by omega), if_neg (by omega), if_pos e] at h
    split at h; · cases h
    rename_i hb; omega
  · rw [if_neg (by omega), if_neg (by omega), if_neg (by omega), if_neg (by omega), if_pos e] at h
    split at h; · rename_i hne; exact absurd h hne
    rename_i hne
    split at h; · cases h
    rename_i hb
    exact ⟨Classical.not_not.1 hne, Classical.not_not.1 hb⟩
  · rw [if_neg e0, if_neg e1, if_neg e2, if_neg e3, if_neg e4] at h
    exact h
theorem ok_num {L : Nat → TypeV} {t : Nat} (h : OkT L t) (e0 : (L t).kind ≠ 10) (e1 : (L t).kind ≠ 11) (e2 : (L t).kind ≠ 12) (e3 : (L t).kind ≠ 13) (e4 : (L t).kind ≠ 14) : numK (L t).kind = true := by
  have := h.kind
  unfold numK; simp; omega
theorem low_ok {k n : Int} (hk : numK k = true) : okPart (.num (lowK k n) (szK k)) := by
  have hz := szK_sz hk
  have e : lowK k n = lowZ n (szK k) := by unfold lowK; rw [if_pos hk]
  have h1 := lowZ_in n hz
  have h2 := lowZ_range n _ hz
  refine ⟨hz, ?_, by omega, by omega⟩
  unfold fits
  rw [e]
  simp; omega
theorem four_ok {n : Int} (h0 : 0 ≤ n) (h1 : n ≤ 1000000) : okPart (.num n 4) := by
  refine ⟨rfl, ?_, h0, by omega⟩
  unfold fits pw
  simp; omega
theorem head_okP {L : Nat → TypeV} {t : Nat} {T : VT} (hv : OkT L t) (ht : (L t).kind = 14 → OkT L (L t).tag.toNat) (h : HeadOk L t T) : ∀ p ∈ headR L t T, okPart p := by
  intro p hp
  unfold headR at hp
  have hb := hv.bound
  split at hp
  · rename_i e
    have := h.text e
    have := hb (.inl e)
    rcases List.mem_cons.1 hp with rfl | hp
    · exact four_ok (by omega) (by omega)
    · rcases List.mem_cons.1 hp with rfl | hp
      · show 0 < (T.text ++ ⟨#[0]⟩).size ∧ (T.text ++ ⟨#[0]⟩).size ≤ 1000
        rw [ByteArray.size_append]
        have : (⟨#[0]⟩ : ByteArray).size = 1 := rfl
        omega
      · cases hp
  split at hp
  · rename_i e
    have := h.seq e
    have := hb (.inr (.inl e))
    rcases List.mem_cons.1 hp with rfl | hp
    · exact four_ok (by omega) (by omega)
    · cases hp
  split at hp
  · cases hp
  split at hp
  · rename_i e
    rcases List.mem_cons.1 hp with rfl | hp
    · exact low_ok (hv.tag e).2.2.2
    · cases hp
  · rename_i e0 e1 e2 e4
    rcases List.mem_cons.1 hp with rfl | hp
    · exact low_ok (ok_num hv e0 e1 (by omega) (by omega) e4)
    · cases hp
theorem row_okP {L : Nat → TypeV} {len : Nat} (hv : ∀ i, i < len → OkT L i) : ∀ (T : VT) (t : Nat), t < len → fitsT L T t = 0 → ∀ p ∈ rowT L T t, okPart p := by
  refine VT.ind fun T ih t ht h p hp => ?_
  obtain ⟨hh, hz⟩ := fits_zero h
  rw [rowT_eq] at hp
  rcases List.mem_append.1 hp with hp | hp
  · refine head_okP (hv t ht) (fun e => ?_) (head_ok hh) p hp
    have := (hv t ht).tag e
    exact hv _ (by omega)
  · obtain ⟨i, hi, hp⟩ := cat_mem _ hp
    have := part_ok (hv t ht) hh hi
    exact ih i hi _ (by omega) (hz i hi) p hp
theorem pick_mem {x : Nat → Nat} : ∀ (n i : Nat), i ≤ n → pickN false x n ≤ x i ∧ x i ≤ pickN true x n
  | 0, i, h => by obtain rfl : i = 0 := by omega
                  exact ⟨Nat.le_refl _, Nat.le_refl _⟩
  | n + 1, i, h => by
    have e1 : pickN false x (n + 1) = min (pickN false x n) (x (n + 1)) := rfl
    have e2 : pickN true x (n + 1) = max (pickN true x n) (x (n + 1)) := rfl
    by_cases c : i = n + 1
    · subst c; omega
    · have := pick_mem (x := x) n i (by omega); omega
theorem rnum_end {L : Nat → TypeV} {op : Nat → Bool} {m : Bool} {t : Nat} (h : OkT L t) (hk : numK (L t).kind = true) (a : Nat) : endE L op m t a = numE (szK (L t).kind).toNat a := by
  have hk' : (L t).kind ≤ 9 := by unfold numK at hk; simp at hk; omega
  rw [endE_eq h]
  unfold stepE
  rw [if_neg (by omega), if_neg (by omega), if_neg (by omega), if_neg (by omega), if_neg (by omega)]
theorem br_part {L : Nat → TypeV} {t : Nat} {T : VT} (e : (L t).kind = 14) (hb : okZ (branchZ (L t) T.num) = true) : (branchZ (L t) T.num).toNat < (L t).ilen ∧ partT L t T.num 0 = ((L t).items (branchZ (L t) T.num).toNat).type.toNat := by
  have h0 : 0 ≤ branchZ (L t) T.num := by unfold okZ at hb; simpa using hb
  have := branchZ_lt h0
  refine ⟨by omega, ?_⟩
  unfold partT
  rw [if_neg (by omega), if_pos e, Nat.add_zero]
theorem form_len0 {T : VT} (hf : formT T = true) (h : T.kind = 10 ∨ (1 ≤ T.kind ∧ T.kind < 10)) : T.len = 0 := by
  unfold formT at hf
  simp only [Bool.and_eq_true, Bool.or_eq_true, Bool.not_eq_true', beq_iff_eq, beq_eq_false_iff_ne] at hf
  obtain ⟨_, _, hl⟩ := hf
  rcases hl with ⟨h1, h2⟩ | h1
  · rcases h with h | ⟨h3, h4⟩
    · exact absurd h h2
    · unfold numK at h1; simp at h1; omega
  · omega
/-- a value ends between the least and the greatest end of its type -/
theorem fits_ends {L : Nat → TypeV} {op : Nat → Bool} {len : Nat} (hv : ∀ i, i < len → OkT L i)
    (hop : ∀ t, t < len → (L t).kind = 14 → op t = false → ∀ n, 0 ≤ n → n ≤ 18446744073709551615 → numE9 L (L t).tag.toNat n = 0 → okZ (branchZ (L t) n) = true) :
    ∀ (T : VT) (t : Nat), t < len → T.wfN → fitsT L T t = 0 → ∀ a, endE L op false t a ≤ endR (rowT L T t) a ∧ endR (rowT L T t) a ≤ endE L op true t a := by
  refine VT.ind fun T ih t ht hw h a => ?_
  obtain ⟨hh, hz⟩ := fits_zero h
  have H := head_ok hh
  have ok := hv t ht
  obtain ⟨w0, w1, wk⟩ := (wfN_iff T).1 hw
  have hp := fun i (hi : i < T.len) => part_ok ok hh hi
  have hk := fun i (hi : i < T.len) => ih i hi (partT L t T.num i) (by have := hp i hi; omega) (wk i hi) (hz i hi)
  have gd := fun (m : Bool) i (hi : i < T.len) => end_good (op := op) (most := m) hv (t := partT L t T.num i) (by have := hp i hi; omega)
  have lo : ∀ i, i < T.len → ∀ a b, a ≤ b → endE L op false (partT L t T.num i) a ≤ endR (rowT L (T.kid i) (partT L t T.num i)) b := fun i hi a b hab => Nat.le_trans ((gd false i hi).mono a b hab) (hk i hi b).1
  have hi' : ∀ i, i < T.len → ∀ a b, a ≤ b → endR (rowT L (T.kid i) (partT L t T.num i)) a ≤ endE L op true (partT L t T.num i) b := fun i hi a b hab => Nat.le_trans (hk i hi a).2 ((gd true i hi).mono a b hab)
  have es : ∀ m, endE L op m t a = stepE L op m (endE L op m) t a := fun m => endE_eq ok a
  rw [es, es, rowT_eq, endR_app, cat_end]
  unfold headR stepE
  by_cases e0 : (L t).kind = 10
  · rw [if_pos e0, if_pos e0, if_pos e0]
    have hl : T.len = 0 := form_len0 H.form (by rw [H.kind]; exact .inl e0)
    have ht := H.text e0
    rw [hl]
    show numE 4 a + 0 + 1 ≤ numE 4 a + (T.text ++ ⟨#[0]⟩).size ∧ numE 4 a + (T.text ++ ⟨#[0]⟩).size ≤ numE 4 a + (L t).bound.toNat + 1
    rw [ByteArray.size_append]
    have : (⟨#[0]⟩ : ByteArray).size = 1 := rfl
    omega
  rw [if_neg e0, if_neg e0, if_neg e0]
  by_cases e1 : (L t).kind = 11
  · rw [if_pos e1, if_pos e1, if_pos e1]
    have hs := H.seq e1
    have ep : ∀ i, partT L t T.num i = (L t).of.toNat := fun i => by unfold partT; rw [if_neg (by omega), if_neg (by omega)]
    show numE 4 a ≤ seqE _ T.len (numE 4 a) ∧ seqE _ T.len (numE 4 a) ≤ seqE _ (L t).bound.toNat (numE 4 a)
    refine ⟨?_, ?_⟩
    · rw [← cat_end]; exact endR_ge _ _
    · have g : ∀ j, j < (L t).bound.toNat → ∀ a, a < endE L op true (L t).of.toNat a := fun j hj => by
        have := ok.of (.inl e1)
        exact (end_good hv (by omega)).inc
      refine Nat.le_trans (seqE_cmp T.len _ _ (fun j hj => ?_) (Nat.le_refl _)) (seqE_step (F := fun _ => endE L op true (L t).of.toNat) g (by omega))
      have := hi' j hj
      rw [ep j] at this
      rw [ep j]
      exact this
  rw [if_neg e1, if_neg e1, if_neg e1]
  by_cases e2 : (L t).kind = 12
  · rw [if_pos e2, if_pos (Or.inl e2), if_pos e2]
    have hs := H.arr e2
    have ep : ∀ i, partT L t T.num i = (L t).of.toNat := fun i => by unfold partT; rw [if_neg (by omega), if_neg (by omega)]
    have en : (L t).bound.toNat = T.len := by omega
    rw [en]
    refine ⟨seqE_cmp T.len _ _ (fun j hj => ?_) (Nat.le_refl _), seqE_cmp T.len _ _ (fun j hj => ?_) (Nat.le_refl _)⟩
    · have := lo j hj
      rw [ep j] at this
      rw [ep j]; exact this
    · have := hi' j hj
      rw [ep j] at this
      rw [ep j]; exact this
  rw [if_neg e2, if_neg e2]
  by_cases e3 : (L t).kind = 13
  · rw [if_pos e3, if_pos (Or.inr e3), if_pos e3]
    have hs := H.str e3
    have ep : ∀ i, partT L t T.num i = ((L t).items i).type.toNat := fun i => by unfold partT; rw [if_pos e3]
    rw [← hs]
    refine ⟨seqE_cmp T.len _ _ (fun j hj => ?_) (Nat.le_refl _), seqE_cmp T.len _ _ (fun j hj => ?_) (Nat.le_refl _)⟩
    · have := lo j hj
      rw [ep j] at this
      rw [ep j]; exact this
    · have := hi' j hj
      rw [ep j] at this
      rw [ep j]; exact this
  have e23 : ¬ ((L t).kind = 12 ∨ (L t).kind = 13) := by omega
  rw [if_neg e3, if_neg e23, if_neg e3]
  by_cases e4 : (L t).kind = 14
  · rw [if_pos e4, if_pos e4, if_pos e4]
    obtain ⟨hn, hl⟩ := H.uni e4
    have otg := ok.tag e4
    have oc := ok.count (.inr e4)
    have et : ∀ m, endE L op m (L t).tag.toNat a = numE (szK (L (L t).tag.toNat).kind).toNat a := fun m => rnum_end (hv _ (by omega)) otg.2.2.2 a
    rw [et, et]
    generalize hc : numE (szK (L (L t).tag.toNat).kind).toNat a = c
    have hc' : endR [RPart.num (lowK (L (L t).tag.toNat).kind T.num) (szK (L (L t).tag.toNat).kind)] a = c := hc
    rw [hc']
    unfold unionE
    by_cases hb : okZ (branchZ (L t) T.num) = true
    · have hl1 : T.len = 1 := by rw [hl]; unfold brN; rw [if_pos hb]
      obtain ⟨q1, q2⟩ := br_part (T := T) e4 hb
      rw [hl1]
      show _ ≤ endR (rowT L (T.kid 0) (partT L t T.num 0)) c ∧ endR (rowT L (T.kid 0) (partT L t T.num 0)) c ≤ _
      have h1 := lo 0 (by omega) c c (Nat.le_refl _)
      have h2 := hi' 0 (by omega) c c (Nat.le_refl _)
      rw [q2] at h1 h2 ⊢
      generalize hj : (branchZ (L t) T.num).toNat = j at h1 h2 q1 ⊢
      have hx : ∀ m, ∃ i, i ≤ unN (op t) (L t).ilen ∧ unX (op t) c (fun j => ptE (endE L op m) (L t) j c) i = endE L op m ((L t).items j).type.toNat c := fun m => by
        unfold unN unX
        cases op t with
        | true => exact ⟨j + 1, by simp; omega, by simp [ptE]⟩
        | false => exact ⟨j, by simp; omega, by simp [ptE]⟩
      obtain ⟨i1, g1, g2⟩ := hx false
      obtain ⟨i2, g3, g4⟩ := hx true
      have p1 := (pick_mem (x := unX (op t) c (fun j => ptE (endE L op false) (L t) j c)) _ i1 g1).1
      have p2 := (pick_mem (x := unX (op t) c (fun j => ptE (endE L op true) (L t) j c)) _ i2 g3).2
      rw [g2] at p1
      rw [g4] at p2
      exact ⟨Nat.le_trans p1 h1, Nat.le_trans h2 p2⟩
    · have hl0 : T.len = 0 := by rw [hl]; unfold brN; rw [if_neg hb]
      have ho : op t = true := by
        cases c : op t with
        | true => rfl
        | false => exact absurd (hop t ht e4 c T.num w0 (by omega) hn) hb
      rw [hl0, ho]
      show _ ≤ c ∧ c ≤ _
      have x0 : ∀ y, unX true c y 0 = c := fun y => by unfold unX; simp
      have p1 := (pick_mem (x := unX true c (fun j => ptE (endE L op false) (L t) j c)) (unN true (L t).ilen) 0 (Nat.zero_le _)).1
      have p2 := (pick_mem (x := unX true c (fun j => ptE (endE L op true) (L t) j c)) (unN true (L t).ilen) 0 (Nat.zero_le _)).2
      rw [x0] at p1 p2
      exact ⟨p1, p2⟩
  rw [if_neg e4, if_neg e4, if_neg e4]
  have hl : T.len = 0 := form_len0 H.form (by rw [H.kind]; have := ok.kind; omega)
  rw [hl]
  exact ⟨Nat.le_refl _, Nat.le_refl _⟩
/-- a row never goes beyond what a place may be -/
theorem row_far {L : Nat → TypeV} {len : Nat} (hv : ∀ i, i < len → OkT L i) {T : VT} {t : Nat} (ht : t < len) (hw : T.wfN) (h : fitsT L T t = 0) (a : Nat) : endR (rowT L T t) a ≤ a + 139314069504 := by
  have h1 := (fits_ends (op := fun _ => true) hv (fun _ _ _ e => by cases e) T t ht hw h a).2
  have h2 := end_le (op := fun _ => true) (most := true) hv ht a
  omega
/-- what Check says of each Item -/
theorem item_zero {L : Nat → TypeV} {len : Nat} (h : fErr (oneR L len) len = 0) {t j : Nat} (ht : t < len) (hj : j < (L t).ilen) : itemE L (L t) j = 0 ∧ itemMore (L t).kind ((L t).items j) = false := by
  have h1 := (valid_all h).2 t ht
  unfold oneR oneT at h1
  split at h1; · cases h1
  split at h1; · cases h1
  rename_i hm
  split at h1; · cases h1
  split at h1; · cases h1
  split at h1; · cases h1
  split at h1; · cases h1
  split at h1; · cases h1
  split at h1; · cases h1
  split at h1; · cases h1
  split at h1
  · rename_i hne; exact absurd h1 hne
  rename_i hE
  have hE : firstE (itemE L (L t)) (L t).ilen = 0 := Classical.not_not.1 hE
  refine ⟨?_, ?_⟩
  · obtain ⟨_, h2, h3⟩ := firstN_is (fun j => itemE L (L t) j != 0) (L t).ilen
    by_cases c : firstN (fun j => itemE L (L t) j != 0) (L t).ilen < (L t).ilen
    · rw [firstE_at (e := itemE L (L t)) h2 c (h3 c)] at hE
      have h4 := h3 c
      simp only [hE] at h4
      cases h4
    · have := h2 j (by omega)
      simpa using this
  · have hm' : moreB (L t) = false := by simpa using hm
    unfold moreB at hm'
    simp only [Bool.or_eq_false_iff, decide_eq_false_iff_not] at hm'
    obtain ⟨_, h2, _⟩ := firstN_is (fun j => itemMore (L t).kind ((L t).items j)) (L t).ilen
    exact h2 j (by omega)
/-- Rest stands last -/
def RestLast (T : TypeV) : Prop := ∀ j, j < T.ilen → (T.items j).rest = true → j + 1 = T.ilen
theorem rest_last {L : Nat → TypeV} {len : Nat} (h : fErr (oneR L len) len = 0) {t : Nat} (ht : t < len) (h14 : (L t).kind = 14) : RestLast (L t) := by
  intro j hj hr
  obtain ⟨hi, _⟩ := item_zero h ht hj
  unfold itemE at hi
  split at hi; · cases hi
  split at hi; · cases hi
  have n13 : ¬ (L t).kind = 13 := by omega
  rw [if_neg n13] at hi
  split at hi
  · cases hi
  · omega
/-- the first Item that has the number or Rest is the branch -/
theorem branch_is {T : TypeV} {n : Int} (h14 : T.kind = 14) (hl : RestLast T) (hb : okZ (branchZ T n) = true) : firstZ (fun j => (T.items j).num == n || (T.items j).rest) T.ilen = branchZ T n := by
  obtain ⟨_, h2, h3⟩ := firstN_is (tagB T n) T.ilen
  have hz : 0 ≤ branchZ T n := by unfold okZ at hb; simpa using hb
  rcases firstZ_cases (fun j => (T.items j).num == n || (T.items j).rest) T.ilen with ⟨k, hk, e, h4, h5⟩ | ⟨e, h5⟩
  · rw [e]
    unfold branchZ
    rw [if_pos h14]
    cases hr : (T.items k).rest with
    | false =>
      have hn : tagB T n k = true := by
        unfold tagB
        simp only [hr, Bool.or_false] at h4
        simp [hr, h4]
      have ef : firstN (tagB T n) T.ilen = k := by
        by_cases c : firstN (tagB T n) T.ilen < k
        · have := h3 (by omega)
          have h6 := h5 _ c
          unfold tagB at this
          simp at this h6
          exact absurd this.2 h6.1
        · by_cases d : k < firstN (tagB T n) T.ilen
          · have := h2 k d; rw [hn] at this; cases this
          · omega
      rw [if_pos (by omega), ef]
    | true =>
      have hlast := hl k hk hr
      have nt : ¬ firstN (tagB T n) T.ilen < T.ilen := fun c => by
        have := h3 c
        by_cases d : firstN (tagB T n) T.ilen = k
        · rw [d] at this; unfold tagB at this; rw [hr] at this; cases this
        · have h6 := h5 (firstN (tagB T n) T.ilen) (by omega)
          unfold tagB at this
          simp at this h6
          exact absurd this.2 h6.1
      rw [if_neg nt]
      rcases firstZ_cases (fun j => (T.items j).rest) T.ilen with ⟨k', hk', e', h6, h7⟩ | ⟨e', h7⟩
      · rw [e']
        by_cases d : k' < k
        · have h8 := h5 k' d
          simp at h8 h6
          rw [h6] at h8; simp at h8
        · by_cases d' : k < k'
          · have h8 := h7 k d'; simp only [hr] at h8; cases h8
          · have : k = k' := by omega
            rw [this]
      · have := h7 k hk; simp only [hr] at this; cases this
  · exfalso
    unfold branchZ at hz
    rw [if_pos h14] at hz
    split at hz
    · rename_i c
      have := h3 c
      have h6 := h5 _ c
      unfold tagB at this
      simp at this h6
      exact absurd this.2 h6.1
    · rcases firstZ_cases (fun j => (T.items j).rest) T.ilen with ⟨k', hk', e', h6, h7⟩ | ⟨e', h7⟩
      · have h8 := h5 k' hk'
        simp at h8 h6
        rw [h6] at h8; simp at h8
      · omega
end Go.Proofs.YtinmdkhafamibaaGreat
namespace Go.Proofs.YtinmdkhafamibaaGreat
open Go.RowKit
set_option linter.unusedVariables false
def addL : RPart → Nat → List UInt8
  | .num n z, a => List.replicate (gapZ (a : Nat) z).toNat 0 ++ (putS n z).data.toList
  | .text s, _ => s.data.toList
/-- the bytes that a row adds at a place -/
def bytL : List RPart → Nat → List UInt8
  | [], _ => []
  | p :: r, a => addL p a ++ bytL r (endP p a)
theorem bytL_app : ∀ (r q : List RPart) (a : Nat), bytL (r ++ q) a = bytL r a ++ bytL q (endR r a)
  | [], q, a => rfl
  | p :: r, q, a => by
    show addL p a ++ bytL (r ++ q) (endP p a) = (addL p a ++ bytL r (endP p a)) ++ bytL q (endR r (endP p a))
    rw [bytL_app r q, List.append_assoc]
theorem bytP_list (p : RPart) (t : ByteArray) : (bytP p t).data.toList = t.data.toList ++ addL p t.size := by
  cases p with
  | num n z => simp [bytP, addL, zerosB]
  | text s => simp [bytP, addL]
theorem bytR_list : ∀ (r : List RPart), (∀ p ∈ r, okPart p) → ∀ t, (bytR r t).data.toList = t.data.toList ++ bytL r t.size
  | [], _, t => by simp [bytR, bytL]
  | p :: r, h, t => by
    show (bytR r (bytP p t)).data.toList = t.data.toList ++ (addL p t.size ++ bytL r (endP p t.size))
    rw [bytR_list r (fun q hq => h q (List.mem_cons_of_mem _ hq)), bytP_list, bytP_size (h p List.mem_cons_self), List.append_assoc]
theorem putS_inj {n m z : Int} (hn : okPart (.num n z)) (hm : okPart (.num m z)) (h : putS n z = putS m z) : n = m := by
  have h1 := (take_mid ⟨#[]⟩ ⟨#[]⟩ n z hn.1 hn.2.2.1 hn.2.1).2
  have h2 := (take_mid ⟨#[]⟩ ⟨#[]⟩ m z hm.1 hm.2.2.1 hm.2.1).2
  rw [h] at h1
  exact h1.symm.trans h2
theorem data_ext {s t : ByteArray} (h : s.data.toList = t.data.toList) : s = t := ByteArray.ext (Array.toList_inj.1 h)
theorem addL_num {n m z : Int} {a : Nat} {x y : List UInt8} (hn : okPart (.num n z)) (hm : okPart (.num m z)) (h : addL (.num n z) a ++ x = addL (.num m z) a ++ y) : n = m ∧ x = y := by
  unfold addL at h
  rw [List.append_assoc, List.append_assoc] at h
  have h1 := List.append_cancel_left h
  have hl : (putS n z).data.toList.length = (putS m z).data.toList.length := by
    have e1 : (putS n z).data.toList.length = (putS n z).size := rfl
    have e2 : (putS m z).data.toList.length = (putS m z).size := rfl
    rw [e1, e2, putS_size, putS_size]
  obtain ⟨h2, h3⟩ := List.append_inj h1 hl
  exact ⟨putS_inj hn hm (data_ext h2), h3⟩
theorem may_inj {k n m : Int} (hn0 : 0 ≤ n) (hn1 : n ≤ 18446744073709551615) (hm0 : 0 ≤ m) (hm1 : m ≤ 18446744073709551615) (hn : mayK k n = true) (hm : mayK k m = true) (h : lowK k n = lowK k m) : n = m := by
  have h1 := (may_val hn0 hn1 hn).2
  have h2 := (may_val hm0 hm1 hm).2
  rw [h] at h1
  exact h1.symm.trans h2
/-- the numbers of a TEnum's Items fit their size -/
def EnumOk (L : Nat → TypeV) (len : Nat) : Prop := ∀ t, t < len → (L t).kind = 9 → ∀ j, j < (L t).ilen → mayK 9 ((L t).items j).num = true
theorem numE9_may {L : Nat → TypeV} {len t : Nat} (he : EnumOk L len) (ht : t < len) {n : Int} (h : numE9 L t n = 0) : mayK (L t).kind n = true := by
  unfold numE9 at h
  split at h
  · rename_i ho
    unfold numOk at ho
    split at ho
    · rename_i h9
      unfold okZ valueZ at ho
      rw [if_pos h9] at ho
      rcases firstZ_cases (fun j => ((L t).items j).num == n) (L t).ilen with ⟨k, hk, e, h1, _⟩ | ⟨e, _⟩
      · have : ((L t).items k).num = n := by simpa using h1
        rw [h9, ← this]
        exact he t ht h9 k hk
      · rw [e] at ho; exact absurd ho (by decide)
    · exact ho
  · cases h
theorem low_inj {L : Nat → TypeV} {len t : Nat} (he : EnumOk L len) (ht : t < len) {n m : Int} (hn0 : 0 ≤ n) (hn1 : n ≤ 18446744073709551615) (hm0 : 0 ≤ m) (hm1 : m ≤ 18446744073709551615)
    (hn : numE9 L t n = 0) (hm : numE9 L t m = 0) (h : lowK (L t).kind n = lowK (L t).kind m) : n = m := may_inj hn0 hn1 hm0 hm1 (numE9_may he ht hn) (numE9_may he ht hm) h
/-- alike values are one row -/
theorem same_row (L : Nat → TypeV) : ∀ (T U : VT) (t : Nat), sameT T U = true → rowT L T t = rowT L U t := by
  refine VT.ind fun T ih U t h => ?_
  obtain ⟨h1, h2, h3, h4, h5⟩ := sameT_iff.1 h
  rw [rowT_eq, rowT_eq, ← h2, ← h4]
  have e : headR L t T = headR L t U := by unfold headR; rw [h2, h3, h4]
  rw [e, cat_congr T.len (fun i hi => ih i hi (U.kid i) (partT L t T.num i) (h5 i hi))]
theorem form_parts {T : VT} (h : formT T = true) : ((numK T.kind = true ∨ T.kind = 14) ∨ T.num = 0) ∧ (T.kind = 10 ∨ T.text.data.toList = []) ∧ ((numK T.kind = false ∧ T.kind ≠ 10) ∨ T.len = 0) := by
  unfold formT at h
  simp only [Bool.and_eq_true, Bool.or_eq_true, Bool.not_eq_true', beq_iff_eq, beq_eq_false_iff_ne] at h
  obtain ⟨h1, h2, h3⟩ := h
  refine ⟨h1, ?_, ?_⟩
  · rcases h2 with h | h
    · exact .inl h
    · right
      have : T.text.toList = [] := by simpa using h
      have e := bytes_len T.text
      rw [this] at e
      have e2 : T.text.data.toList.length = T.text.size := rfl
      exact List.eq_nil_of_length_eq_zero (by rw [e2, ← e]; rfl)
  · rcases h3 with h | h
    · exact .inl h
    · right; omega
theorem kids_inj {f g : Nat → List RPart} {K : Nat → Prop} : ∀ (n : Nat) (a : Nat) (x y : List UInt8),
    (∀ i, i < n → ∀ a x y, bytL (f i) a ++ x = bytL (g i) a ++ y → (K i ∧ f i = g i) ∧ x = y) →
    bytL (catTo f n) a ++ x = bytL (catTo g n) a ++ y → ((∀ i, i < n → K i) ∧ catTo f n = catTo g n) ∧ x = y
  | 0, a, x, y, _, h => ⟨⟨fun i hi => absurd hi (Nat.not_lt_zero i), rfl⟩, by simpa [catTo, bytL] using h⟩
  | n + 1, a, x, y, hk, h => by
    have e1 : catTo f (n + 1) = catTo f n ++ f n := rfl
    have e2 : catTo g (n + 1) = catTo g n ++ g n := rfl
    rw [e1, e2, bytL_app, bytL_app, List.append_assoc, List.append_assoc] at h
    obtain ⟨⟨h1, h2⟩, h3⟩ := kids_inj n a _ _ (fun i hi => hk i (by omega)) h
    rw [h2] at h3
    obtain ⟨⟨h4, h5⟩, h6⟩ := hk n (by omega) _ _ _ h3
    refine ⟨⟨fun i hi => ?_, by rw [e1, e2, h2, h5]⟩, h6⟩
    by_cases c : i = n
    · subst c; exact h4
    · exact h1 i (by omega)
theorem row_inj {L : Nat → TypeV} {len : Nat} (hv : ∀ i, i < len → OkT L i) (he : EnumOk L len) : ∀ (T : VT) (t : Nat) (U : VT) (a : Nat) (x y : List UInt8), t < len → T.wfN → U.wfN → fitsT L T t = 0 → fitsT L U t = 0 →
    bytL (rowT L T t) a ++ x = bytL (rowT L U t) a ++ y → sameT T U = true ∧ x = y := by
  refine VT.ind fun T ih t U a x y ht hw hu hT hU h => ?_
  obtain ⟨hh, hz⟩ := fits_zero hT
  obtain ⟨gh, gz⟩ := fits_zero hU
  have H := head_ok hh
  have G := head_ok gh
  have ok := hv t ht
  obtain ⟨w0, w1, wk⟩ := (wfN_iff T).1 hw
  obtain ⟨u0, u1, uk⟩ := (wfN_iff U).1 hu
  have hp := fun i (hi : i < T.len) => part_ok ok hh hi
  have htg : (L t).kind = 14 → OkT L (L t).tag.toNat := fun e => by have := ok.tag e; exact hv _ (by omega)
  have pT := head_okP ok htg H
  have pU := head_okP ok htg G
  have hkind : T.kind = U.kind := H.kind.trans G.kind.symm
  obtain ⟨fT1, fT2, fT3⟩ := form_parts H.form
  obtain ⟨fU1, fU2, fU3⟩ := form_parts G.form
  rw [H.kind] at fT1 fT2 fT3
  rw [G.kind] at fU1 fU2 fU3
  -- the Items, once the rest is known
  have fin : ∀ (b : Nat) (x' y' : List UInt8), T.num = U.num → T.text = U.text → T.len = U.len →
      bytL (catTo (fun i => rowT L (T.kid i) (partT L t T.num i)) T.len) b ++ x' = bytL (catTo (fun i => rowT L (U.kid i) (partT L t U.num i)) U.len) b ++ y' → sameT T U = true ∧ x' = y' := by
    intro b x' y' e1 e2 e3 e4
    rw [← e1, ← e3] at e4
    obtain ⟨⟨q1, _⟩, q2⟩ := kids_inj (K := fun i => sameT (T.kid i) (U.kid i) = true) T.len b x' y' (fun i hi a x y hxy => by
      have hz' := gz i (by omega)
      rw [← e1] at hz'
      have := ih i hi (partT L t T.num i) (U.kid i) a x y (by have := hp i hi; omega) (wk i hi) (uk i (by omega)) (hz i hi) hz' hxy
      exact ⟨⟨this.1, same_row L _ _ _ this.1⟩, this.2⟩) e4
    exact ⟨sameT_iff.2 ⟨hkind, e1, e2, e3, q1⟩, q2⟩
  rw [rowT_eq, rowT_eq, bytL_app, bytL_app, List.append_assoc, List.append_assoc] at h
  have notext : (L t).kind ≠ 10 → T.text = U.text := fun e => by
    rcases fT2 with c | c
    · exact absurd c e
    rcases fU2 with d | d
    · exact absurd d e
    exact data_ext (c.trans d.symm)
  have nonum : numK (L t).kind = false → (L t).kind ≠ 14 → T.num = U.num := fun e e' => by
    rcases fT1 with (c | c) | c
    · rw [e] at c; cases c
    · exact absurd c e'
    rcases fU1 with (d | d) | d
    · rw [e] at d; cases d
    · exact absurd d e'
    exact c.trans d.symm
  unfold headR at h pT pU
  by_cases e0 : (L t).kind = 10
  · rw [if_pos e0] at h pT pU
    rw [if_pos e0] at h
    have hn : numK (L t).kind = false := by rw [e0]; rfl
    have l0 : T.len = U.len := by
      rcases fT3 with c | c
      · exact absurd e0 c.2
      rcases fU3 with d | d
      · exact absurd e0 d.2
      omega
    simp only [bytL, List.append_nil] at h
    rw [List.append_assoc, List.append_assoc] at h
    obtain ⟨g1, g2⟩ := addL_num (pT _ List.mem_cons_self) (pU _ List.mem_cons_self) h
    have hl : (T.text ++ ⟨#[0]⟩ : ByteArray).data.toList.length = (U.text ++ ⟨#[0]⟩ : ByteArray).data.toList.length := by
      show (T.text ++ ⟨#[0]⟩ : ByteArray).size = (U.text ++ ⟨#[0]⟩ : ByteArray).size
      rw [ByteArray.size_append, ByteArray.size_append]; omega
    obtain ⟨g3, g4⟩ := List.append_inj g2 hl
    have g5 : T.text = U.text := by
      have : T.text.data.toList ++ [0] = U.text.data.toList ++ [0] := by
        have e1 : (T.text ++ ⟨#[0]⟩ : ByteArray).data.toList = T.text.data.toList ++ [0] := by simp
        have e2 : (U.text ++ ⟨#[0]⟩ : ByteArray).data.toList = U.text.data.toList ++ [0] := by simp
        rw [← e1, ← e2]; exact g3
      exact data_ext (List.append_cancel_right this)
    have ee : endR [RPart.num (((T.text.size : Nat) : Int) + 1) 4, RPart.text (T.text ++ ⟨#[0]⟩)] a = endR [RPart.num (((U.text.size : Nat) : Int) + 1) 4, RPart.text (U.text ++ ⟨#[0]⟩)] a := by rw [g5]
    rw [← ee] at g4
    exact fin _ _ _ (nonum hn (by omega)) g5 l0 g4
  rw [if_neg e0] at h pT pU
  rw [if_neg e0] at h
  by_cases e1 : (L t).kind = 11
  · rw [if_pos e1] at h pT pU
    rw [if_pos e1] at h
    have hn : numK (L t).kind = false := by rw [e1]; rfl
    simp only [bytL, List.append_nil] at h
    obtain ⟨g1, g2⟩ := addL_num (pT _ List.mem_cons_self) (pU _ List.mem_cons_self) h
    exact fin _ _ _ (nonum hn (by omega)) (notext e0) (by omega) g2
  rw [if_neg e1] at h pT pU
  rw [if_neg e1] at h
  by_cases e23 : (L t).kind = 12 ∨ (L t).kind = 13
  · rw [if_pos e23] at h
    rw [if_pos e23] at h
    have hn : numK (L t).kind = false := by rcases e23 with e | e <;> rw [e] <;> rfl
    have hl : T.len = U.len := by
      rcases e23 with e | e
      · have := H.arr e; have := G.arr e; omega
      · have := H.str e; have := G.str e; omega
    exact fin _ _ _ (nonum hn (by omega)) (notext e0) hl h
  rw [if_neg e23] at h pT pU
  rw [if_neg e23] at h
  by_cases e4 : (L t).kind = 14
  · rw [if_pos e4] at h pT pU
    rw [if_pos e4] at h
    have otg := ok.tag e4
    simp only [bytL, List.append_nil] at h
    obtain ⟨g1, g2⟩ := addL_num (pT _ List.mem_cons_self) (pU _ List.mem_cons_self) h
    obtain ⟨a1, a2⟩ := H.uni e4
    obtain ⟨b1, b2⟩ := G.uni e4
    have hnn := low_inj he (t := (L t).tag.toNat) (by omega) w0 (by omega) u0 (by omega) a1 b1 g1
    exact fin _ _ _ hnn (notext e0) (by rw [a2, b2, hnn]) g2
  rw [if_neg e4] at h pT pU
  rw [if_neg e4] at h
  simp only [bytL, List.append_nil] at h
  obtain ⟨g1, g2⟩ := addL_num (pT _ List.mem_cons_self) (pU _ List.mem_cons_self) h
  have hk := ok_num ok e0 e1 (by omega) (by omega) e4
  have hnn := low_inj he ht w0 (by omega) u0 (by omega) (H.num e0 e1 (by omega) (by omega) e4) (G.num e0 e1 (by omega) (by omega) e4) g1
  have l0 : T.len = U.len := by
    rcases fT3 with c | c
    · rw [hk] at c; exact absurd c.1 (by decide)
    rcases fU3 with d | d
    · rw [hk] at d; exact absurd d.1 (by decide)
    omega
  exact fin _ _ _ hnn (notext e0) l0 g2
/-- what Check says of a TEnum -/
theorem enum_ok {L : Nat → TypeV} {len : Nat} (h : fErr (oneR L len) len = 0) : EnumOk L len := by
  intro t ht h9 j hj
  obtain ⟨hi, hm⟩ := item_zero h ht hj
  have hrest : ((L t).items j).rest = false := by
    unfold itemMore at hm
    rw [h9] at hm
    simp at hm
    exact hm.2
  unfold itemE at hi
  split at hi; · cases hi
  split at hi; · cases hi
  have n13 : ¬ (L t).kind = 13 := by omega
  rw [if_neg n13, if_neg (by rw [hrest]; decide)] at hi
  split at hi; · cases hi
  rename_i hnb
  unfold numberB at hnb
  rw [if_pos h9] at hnb
  simpa using hnb
end Go.Proofs.YtinmdkhafamibaaGreat
