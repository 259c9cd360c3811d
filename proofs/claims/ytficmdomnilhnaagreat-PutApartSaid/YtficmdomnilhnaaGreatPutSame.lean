/- Unlike values of a type have unlike bytes, none of which are the others' beginning. -/
import Derived.Test.YtficmdomnilhnaaGreatPutMath
namespace Go.Proofs.YtficmdomnilhnaaGreat
open Go.RowKit
set_option linter.unusedVariables false
def addL : RPart → Nat → List UInt8
  | .num n z, a => List.replicate (gapZ (a : Nat) z).toNat 0 ++ (putS n z).data.toList
  | .text s, _ => s.data.toList
/-- the bytes that a row adds at a place -/
def bytL : List RPart → Nat → List UInt8
  | [], _ => []
  | p :: r, a => addL p a ++ bytL r (endP p a)
theorem bytL_app : ∀ (r q : List RPart) (a : Nat), bytL (r ++ q) a = bytL r a ++ bytL q (endR r a)
  | [], q, a => rfl
  | p :: r, q, a => by
    show addL p a ++ bytL (r ++ q) (endP p a) = (addL p a ++ bytL r (endP p a)) ++ bytL q (endR r (endP p a))
    rw [bytL_app r q, List.append_assoc]
theorem bytP_list (p : RPart) (t : ByteArray) : (bytP p t).data.toList = t.data.toList ++ addL p t.size := by
  cases p with
  | num n z => simp [bytP, addL, zerosB]
  | text s => simp [bytP, addL]
theorem bytR_list : ∀ (r : List RPart), (∀ p ∈ r, okPart p) → ∀ t, (bytR r t).data.toList = t.data.toList ++ bytL r t.size
  | [], _, t => by simp [bytR, bytL]
  | p :: r, h, t => by
    show (bytR r (bytP p t)).data.toList = t.data.toList ++ (addL p t.size ++ bytL r (endP p t.size))
    rw [bytR_list r (fun q hq => h q (List.mem_cons_of_mem _ hq)), bytP_list, bytP_size (h p List.mem_cons_self), List.append_assoc]
theorem putS_inj {n m z : Int} (hn : okPart (.num n z)) (hm : okPart (.num m z)) (h : putS n z = putS m z) : n = m := by
  have h1 := (take_mid ⟨#[]⟩ ⟨#[]⟩ n z hn.1 hn.2.2.1 hn.2.1).2
  have h2 := (take_mid ⟨#[]⟩ ⟨#[]⟩ m z hm.1 hm.2.2.1 hm.2.1).2
  rw [h] at h1
  exact h1.symm.trans h2
theorem data_ext {s t : ByteArray} (h : s.data.toList = t.data.toList) : s = t := ByteArray.ext (Array.toList_inj.1 h)
theorem addL_num {n m z : Int} {a : Nat} {x y : List UInt8} (hn : okPart (.num n z)) (hm : okPart (.num m z)) (h : addL (.num n z) a ++ x = addL (.num m z) a ++ y) : n = m ∧ x = y := by
  unfold addL at h
  rw [List.append_assoc, List.append_assoc] at h
  have h1 := List.append_cancel_left h
  have hl : (putS n z).data.toList.length = (putS m z).data.toList.length := by
    have e1 : (putS n z).data.toList.length = (putS n z).size := rfl
    have e2 : (putS m z).data.toList.length = (putS m z).size := rfl
    rw [e1, e2, putS_size, putS_size]
  obtain ⟨h2, h3⟩ := List.append_inj h1 hl
  exact ⟨putS_inj hn hm (data_ext h2), h3⟩
theorem may_inj {k n m : Int} (hn0 : 0 ≤ n) (hn1 : n ≤ 18446744073709551615) (hm0 : 0 ≤ m) (hm1 : m ≤ 18446744073709551615) (hn : mayK k n = true) (hm : mayK k m = true) (h : lowK k n = lowK k m) : n = m := by
  have h1 := (may_val hn0 hn1 hn).2
  have h2 := (may_val hm0 hm1 hm).2
  rw [h] at h1
  exact h1.symm.trans h2
/-- the numbers of a TEnum's Items fit their size -/
def EnumOk (L : Nat → TypeV) (len : Nat) : Prop := ∀ t, t < len → (L t).kind = 9 → ∀ j, j < (L t).ilen → mayK 9 ((L t).items j).num = true
theorem numE9_may {L : Nat → TypeV} {len t : Nat} (he : EnumOk L len) (ht : t < len) {n : Int} (h : numE9 L t n = 0) : mayK (L t).kind n = true := by
  unfold numE9 at h
  split at h
  · rename_i ho
    unfold numOk at ho
    split at ho
    · rename_i h9
      unfold okZ valueZ at ho
      rw [if_pos h9] at ho
      rcases firstZ_cases (fun j => ((L t).items j).num == n) (L t).ilen with ⟨k, hk, e, h1, _⟩ | ⟨e, _⟩
      · have : ((L t).items k).num = n := by simpa using h1
        rw [h9, ← this]
        exact he t ht h9 k hk
      · rw [e] at ho; exact absurd ho (by decide)
    · exact ho
  · cases h
theorem low_inj {L : Nat → TypeV} {len t : Nat} (he : EnumOk L len) (ht : t < len) {n m : Int} (hn0 : 0 ≤ n) (hn1 : n ≤ 18446744073709551615) (hm0 : 0 ≤ m) (hm1 : m ≤ 18446744073709551615)
    (hn : numE9 L t n = 0) (hm : numE9 L t m = 0) (h : lowK (L t).kind n = lowK (L t).kind m) : n = m := may_inj hn0 hn1 hm0 hm1 (numE9_may he ht hn) (numE9_may he ht hm) h
/-- alike values are one row -/
theorem same_row (L : Nat → TypeV) : ∀ (T U : VT) (t : Nat), sameT T U = true → rowT L T t = rowT L U t := by
  refine VT.ind fun T ih U t h => ?_
  obtain ⟨h1, h2, h3, h4, h5⟩ := sameT_iff.1 h
  rw [rowT_eq, rowT_eq, ← h2, ← h4]
  have e : headR L t T = headR L t U := by unfold headR; rw [h2, h3, h4]
  rw [e, cat_congr T.len (fun i hi => ih i hi (U.kid i) (partT L t T.num i) (h5 i hi))]
theorem form_parts {T : VT} (h : formT T = true) : ((numK T.kind = true ∨ T.kind = 14) ∨ T.num = 0) ∧ (T.kind = 10 ∨ T.text.data.toList = []) ∧ ((numK T.kind = false ∧ T.kind ≠ 10) ∨ T.len = 0) := by
  unfold formT at h
  simp only [Bool.and_eq_true, Bool.or_eq_true, Bool.not_eq_true', beq_iff_eq, beq_eq_false_iff_ne] at h
  obtain ⟨h1, h2, h3⟩ := h
  refine ⟨h1, ?_, ?_⟩
  · rcases h2 with h | h
    · exact .inl h
    · right
      have : T.text.toList = [] := by simpa using h
      have e := bytes_len T.text
      rw [this] at e
      have e2 : T.text.data.toList.length = T.text.size := rfl
      exact List.eq_nil_of_length_eq_zero (by rw [e2, ← e]; rfl)
  · rcases h3 with h | h
    · exact .inl h
    · right; omega
theorem kids_inj {f g : Nat → List RPart} {K : Nat → Prop} : ∀ (n : Nat) (a : Nat) (x y : List UInt8),
    (∀ i, i < n → ∀ a x y, bytL (f i) a ++ x = bytL (g i) a ++ y → (K i ∧ f i = g i) ∧ x = y) →
    bytL (catTo f n) a ++ x = bytL (catTo g n) a ++ y → ((∀ i, i < n → K i) ∧ catTo f n = catTo g n) ∧ x = y
  | 0, a, x, y, _, h => ⟨⟨fun i hi => absurd hi (Nat.not_lt_zero i), rfl⟩, by simpa [catTo, bytL] using h⟩
  | n + 1, a, x, y, hk, h => by
    have e1 : catTo f (n + 1) = catTo f n ++ f n := rfl
    have e2 : catTo g (n + 1) = catTo g n ++ g n := rfl
    rw [e1, e2, bytL_app, bytL_app, List.append_assoc, List.append_assoc] at h
    obtain ⟨⟨h1, h2⟩, h3⟩ := kids_inj n a _ _ (fun i hi => hk i (by omega)) h
    rw [h2] at h3
    obtain ⟨⟨h4, h5⟩, h6⟩ := hk n (by omega) _ _ _ h3
    refine ⟨⟨fun i hi => ?_, by rw [e1, e2, h2, h5]⟩, h6⟩
    by_cases c : i = n
    · subst c; exact h4
    · exact h1 i (by omega)
theorem row_inj {L : Nat → TypeV} {len : Nat} (hv : ∀ i, i < len → OkT L i) (he : EnumOk L len) : ∀ (T : VT) (t : Nat) (U : VT) (a : Nat) (x y : List UInt8), t < len → T.wfN → U.wfN → fitsT L T t = 0 → fitsT L U t = 0 →
    bytL (rowT L T t) a ++ x = bytL (rowT L U t) a ++ y → sameT T U = true ∧ x = y := by
  refine VT.ind fun T ih t U a x y ht hw hu hT hU h => ?_
  obtain ⟨hh, hz⟩ := fits_zero hT
  obtain ⟨gh, gz⟩ := fits_zero hU
  have H := head_ok hh
  have G := head_ok gh
  have ok := hv t ht
  obtain ⟨w0, w1, wk⟩ := (wfN_iff T).1 hw
  obtain ⟨u0, u1, uk⟩ := (wfN_iff U).1 hu
  have hp := fun i (hi : i < T.len) => part_ok ok hh hi
  have htg : (L t).kind = 14 → OkT L (L t).tag.toNat := fun e => by have := ok.tag e; exact hv _ (by omega)
  have pT := head_okP ok htg H
  have pU := head_okP ok htg G
  have hkind : T.kind = U.kind := H.kind.trans G.kind.symm
  obtain ⟨fT1, fT2, fT3⟩ := form_parts H.form
  obtain ⟨fU1, fU2, fU3⟩ := form_parts G.form
  rw [H.kind] at fT1 fT2 fT3
  rw [G.kind] at fU1 fU2 fU3
  -- the Items, once the rest is known
  have fin : ∀ (b : Nat) (x' y' : List UInt8), T.num = U.num → T.text = U.text → T.len = U.len →
      bytL (catTo (fun i => rowT L (T.kid i) (partT L t T.num i)) T.len) b ++ x' = bytL (catTo (fun i => rowT L (U.kid i) (partT L t U.num i)) U.len) b ++ y' → sameT T U = true ∧ x' = y' := by
    intro b x' y' e1 e2 e3 e4
    rw [← e1, ← e3] at e4
    obtain ⟨⟨q1, _⟩, q2⟩ := kids_inj (K := fun i => sameT (T.kid i) (U.kid i) = true) T.len b x' y' (fun i hi a x y hxy => by
      have hz' := gz i (by omega)
      rw [← e1] at hz'
      have := ih i hi (partT L t T.num i) (U.kid i) a x y (by have := hp i hi; omega) (wk i hi) (uk i (by omega)) (hz i hi) hz' hxy
      exact ⟨⟨this.1, same_row L _ _ _ this.1⟩, this.2⟩) e4
    exact ⟨sameT_iff.2 ⟨hkind, e1, e2, e3, q1⟩, q2⟩
  rw [rowT_eq, rowT_eq, bytL_app, bytL_app, List.append_assoc, List.append_assoc] at h
  have notext : (L t).kind ≠ 10 → T.text = U.text := fun e => by
    rcases fT2 with c | c
    · exact absurd c e
    rcases fU2 with d | d
    · exact absurd d e
    exact data_ext (c.trans d.symm)
  have nonum : numK (L t).kind = false → (L t).kind ≠ 14 → T.num = U.num := fun e e' => by
    rcases fT1 with (c | c) | c
    · rw [e] at c; cases c
    · exact absurd c e'
    rcases fU1 with (d | d) | d
    · rw [e] at d; cases d
    · exact absurd d e'
    exact c.trans d.symm
  unfold headR at h pT pU
  by_cases e0 : (L t).kind = 10
  · rw [if_pos e0] at h pT pU
    rw [if_pos e0] at h
    have hn : numK (L t).kind = false := by rw [e0]; rfl
    have l0 : T.len = U.len := by
      rcases fT3 with c | c
      · exact absurd e0 c.2
      rcases fU3 with d | d
      · exact absurd e0 d.2
      omega
    simp only [bytL, List.append_nil] at h
    rw [List.append_assoc, List.append_assoc] at h
    obtain ⟨g1, g2⟩ := addL_num (pT _ List.mem_cons_self) (pU _ List.mem_cons_self) h
    have hl : (T.text ++ ⟨#[0]⟩ : ByteArray).data.toList.length = (U.text ++ ⟨#[0]⟩ : ByteArray).data.toList.length := by
      show (T.text ++ ⟨#[0]⟩ : ByteArray).size = (U.text ++ ⟨#[0]⟩ : ByteArray).size
      rw [ByteArray.size_append, ByteArray.size_append]; omega
    obtain ⟨g3, g4⟩ := List.append_inj g2 hl
    have g5 : T.text = U.text := by
      have : T.text.data.toList ++ [0] = U.text.data.toList ++ [0] := by
        have e1 : (T.text ++ ⟨#[0]⟩ : ByteArray).data.toList = T.text.data.toList ++ [0] := by simp
        have e2 : (U.text ++ ⟨#[0]⟩ : ByteArray).data.toList = U.text.data.toList ++ [0] := by simp
        rw [← e1, ← e2]; exact g3
      exact data_ext (List.append_cancel_right this)
    have ee : endR [RPart.num (((T.text.size : Nat) : Int) + 1) 4, RPart.text (T.text ++ ⟨#[0]⟩)] a = endR [RPart.num (((U.text.size : Nat) : Int) + 1) 4, RPart.text (U.text ++ ⟨#[0]⟩)] a := by rw [g5]
    rw [← ee] at g4
    exact fin _ _ _ (nonum hn (by omega)) g5 l0 g4
  rw [if_neg e0] at h pT pU
  rw [if_neg e0] at h
  by_cases e1 : (L t).kind = 11
  · rw [if_pos e1] at h pT pU
    rw [if_pos e1] at h
    have hn : numK (L t).kind = false := by rw [e1]; rfl
    simp only [bytL, List.append_nil] at h
    obtain ⟨g1, g2⟩ := addL_num (pT _ List.mem_cons_self) (pU _ List.mem_cons_self) h
    exact fin _ _ _ (nonum hn (by omega)) (notext e0) (by omega) g2
  rw [if_neg e1] at h pT pU
  rw [if_neg e1] at h
  by_cases e23 : (L t).kind = 12 ∨ (L t).kind = 13
  · rw [if_pos e23] at h
    rw [if_pos e23] at h
    have hn : numK (L t).kind = false := by rcases e23 with e | e <;> rw [e] <;> rfl
    have hl : T.len = U.len := by
      rcases e23 with e | e
      · have := H.arr e; have := G.arr e; omega
      · have := H.str e; have := G.str e; omega
    exact fin _ _ _ (nonum hn (by omega)) (notext e0) hl h
  rw [if_neg e23] at h pT pU
  rw [if_neg e23] at h
  by_cases e4 : (L t).kind = 14
  · rw [if_pos e4] at h pT pU
    rw [if_pos e4] at h
    have otg := ok.tag e4
    simp only [bytL, List.append_nil] at h
    obtain ⟨g1, g2⟩ := addL_num (pT _ List.mem_cons_self) (pU _ List.mem_cons_self) h
    obtain ⟨a1, a2⟩ := H.uni e4
    obtain ⟨b1, b2⟩ := G.uni e4
    have hnn := low_inj he (t := (L t).tag.toNat) (by omega) w0 (by omega) u0 (by omega) a1 b1 g1
    exact fin _ _ _ hnn (notext e0) (by rw [a2, b2, hnn]) g2
  rw [if_neg e4] at h pT pU
  rw [if_neg e4] at h
  simp only [bytL, List.append_nil] at h
  obtain ⟨g1, g2⟩ := addL_num (pT _ List.mem_cons_self) (pU _ List.mem_cons_self) h
  have hk := ok_num ok e0 e1 (by omega) (by omega) e4
  have hnn := low_inj he ht w0 (by omega) u0 (by omega) (H.num e0 e1 (by omega) (by omega) e4) (G.num e0 e1 (by omega) (by omega) e4) g1
  have l0 : T.len = U.len := by
    rcases fT3 with c | c
    · rw [hk] at c; exact absurd c.1 (by decide)
    rcases fU3 with d | d
    · rw [hk] at d; exact absurd d.1 (by decide)
    omega
  exact fin _ _ _ hnn (notext e0) l0 g2
/-- what Check says of a TEnum -/
theorem enum_ok {L : Nat → TypeV} {len : Nat} (h : fErr (oneR L len) len = 0) : EnumOk L len := by
  intro t ht h9 j hj
  obtain ⟨hi, hm⟩ := item_zero h ht hj
  have hrest : ((L t).items j).rest = false := by
    unfold itemMore at hm
    rw [h9] at hm
    simp at hm
    exact hm.2
  unfold itemE at hi
  split at hi; · cases hi
  split at hi; · cases hi
  have n13 : ¬ (L t).kind = 13 := by omega
  rw [if_neg n13, if_neg (by rw [hrest]; decide)] at hi
  split at hi; · cases hi
  rename_i hnb
  unfold numberB at hnb
  rw [if_pos h9] at hnb
  simpa using hnb
end Go.Proofs.YtficmdomnilhnaaGreat
