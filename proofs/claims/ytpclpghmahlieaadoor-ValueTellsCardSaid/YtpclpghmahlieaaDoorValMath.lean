/- Values as trees: their depth, size, text and sameness, and when one is too great to be asked; in plain words. -/
import Derived.Test.YtpclpghmahlieaaDoorPrimBackMath
import Derived.Lib.ItoaNum
namespace Go.Proofs.YtpclpghmahlieaaDoor
set_option linter.unusedVariables false
/-- a value, its Items by their place; nil: the zero value -/
inductive VT where
  | nil
  | node (kind num : Int) (text : ByteArray) (ia : Option Addr) (len cap : Nat) (kid : Nat → VT)
instance : Inhabited VT := ⟨.nil⟩
namespace VT
def kind : VT → Int | .nil => 0 | .node k _ _ _ _ _ _ => k
def num : VT → Int | .nil => 0 | .node _ n _ _ _ _ _ => n
def text : VT → ByteArray | .nil => ⟨#[]⟩ | .node _ _ s _ _ _ _ => s
def ia : VT → Option Addr | .nil => none | .node _ _ _ a _ _ _ => a
def len : VT → Nat | .nil => 0 | .node _ _ _ _ l _ _ => l
def cap : VT → Nat | .nil => 0 | .node _ _ _ _ _ c _ => c
def kid : VT → Nat → VT | .nil => fun _ => .nil | .node _ _ _ _ _ _ k => k
/-- what holds of a value if it holds of its Items holds of all -/
theorem ind {Q : VT → Prop} (h : ∀ T : VT, (∀ i, i < T.len → Q (T.kid i)) → Q T) : ∀ T, Q T
  | .nil => h _ (fun i hi => absurd hi (Nat.not_lt_zero i))
  | .node k n s a l c f => h _ (fun i _ => ind h (f i))
end VT
def maxTo (f : Nat → Nat) : Nat → Nat | 0 => 0 | n + 1 => max (maxTo f n) (f n)
def sumTo (f : Nat → Nat) : Nat → Nat | 0 => 0 | n + 1 => sumTo f n + f n
def allTo (f : Nat → Bool) : Nat → Bool | 0 => true | n + 1 => allTo f n && f n
def anyTo (f : Nat → Bool) : Nat → Bool | 0 => false | n + 1 => anyTo f n || f n
/-- the texts, with what stands ahead of each -/
def joinTo (sep : Nat → List UInt8) (f : Nat → List UInt8) : Nat → List UInt8 | 0 => [] | n + 1 => joinTo sep f n ++ (sep n ++ f n)
theorem maxTo_congr {f g : Nat → Nat} : ∀ n, (∀ i, i < n → f i = g i) → maxTo f n = maxTo g n
  | 0, _ => rfl
  | n + 1, h => by rw [maxTo, maxTo, maxTo_congr n (fun i hi => h i (by omega)), h n (by omega)]
theorem sumTo_congr {f g : Nat → Nat} : ∀ n, (∀ i, i < n → f i = g i) → sumTo f n = sumTo g n
  | 0, _ => rfl
  | n + 1, h => by rw [sumTo, sumTo, sumTo_congr n (fun i hi => h i (by omega)), h n (by omega)]
theorem joinTo_congr {s f g : Nat → List UInt8} : ∀ n, (∀ i, i < n → f i = g i) → joinTo s f n = joinTo s g n
  | 0, _ => rfl
  | n + 1, h => by rw [joinTo, joinTo, joinTo_congr n (fun i hi => h i (by omega)), h n (by omega)]
theorem allTo_iff {f : Nat → Bool} : ∀ n, allTo f n = true ↔ ∀ i, i < n → f i = true
  | 0 => by simp [allTo]
  | n + 1 => by
    rw [allTo, Bool.and_eq_true, allTo_iff n]
    constructor
    · rintro ⟨h, h2⟩ i hi
      rcases Nat.lt_succ_iff_lt_or_eq.1 hi with h' | rfl
      · exact h i h'
      · exact h2
    · exact fun h => ⟨fun i hi => h i (by omega), h n (by omega)⟩
theorem allTo_false {f : Nat → Bool} {n j : Nat} (hj : j < n) (h : f j = false) : allTo f n = false := by
  cases hx : allTo f n with
  | false => rfl
  | true => rw [(allTo_iff n).1 hx j hj] at h; cases h
theorem anyTo_iff {f : Nat → Bool} : ∀ n, anyTo f n = true ↔ ∃ i, i < n ∧ f i = true
  | 0 => by simp [anyTo]
  | n + 1 => by
    rw [anyTo, Bool.or_eq_true, anyTo_iff n]
    constructor
    · rintro (⟨i, hi, h⟩ | h)
      · exact ⟨i, by omega, h⟩
      · exact ⟨n, by omega, h⟩
    · rintro ⟨i, hi, h⟩
      rcases Nat.lt_succ_iff_lt_or_eq.1 hi with h' | rfl
      · exact .inl ⟨i, h', h⟩
      · exact .inr h
theorem anyTo_false {f : Nat → Bool} {n : Nat} (h : anyTo f n = false) (i : Nat) (hi : i < n) : f i = false := by
  cases hx : f i with
  | false => rfl
  | true => rw [(anyTo_iff n).2 ⟨i, hi, hx⟩] at h; cases h
theorem maxTo_ge {f : Nat → Nat} : ∀ {n i : Nat}, i < n → f i ≤ maxTo f n
  | n + 1, i, hi => by
    rw [maxTo]
    rcases Nat.lt_succ_iff_lt_or_eq.1 hi with h | rfl
    · have := maxTo_ge (f := f) h; omega
    · omega
theorem maxTo_le {f : Nat → Nat} {m : Nat} : ∀ n, (∀ i, i < n → f i ≤ m) → maxTo f n ≤ m
  | 0, _ => Nat.zero_le _
  | n + 1, h => by have := maxTo_le n (fun i hi => h i (by omega)); have := h n (by omega); rw [maxTo]; omega
theorem sumTo_ge {f : Nat → Nat} : ∀ {n i : Nat}, i < n → f i ≤ sumTo f n
  | n + 1, i, hi => by
    rw [sumTo]
    rcases Nat.lt_succ_iff_lt_or_eq.1 hi with h | rfl
    · have := sumTo_ge (f := f) h; omega
    · omega
theorem sumTo_le {f : Nat → Nat} : ∀ {n m : Nat}, m ≤ n → sumTo f m ≤ sumTo f n
  | 0, m, h => by obtain rfl : m = 0 := by omega
                  exact Nat.le_refl _
  | n + 1, m, h => by
    rcases Nat.eq_or_lt_of_le h with rfl | h
    · exact Nat.le_refl _
    · have := sumTo_le (f := f) (n := n) (m := m) (by omega); rw [sumTo]; omega
/-- how deep -/
def deepT : VT → Nat
  | .nil => 1
  | .node _ _ _ _ l _ f => 1 + maxTo (fun i => deepT (f i)) l
theorem deepT_eq (T : VT) : deepT T = 1 + maxTo (fun i => deepT (T.kid i)) T.len := by cases T <;> rfl
/-- how great -/
def greatT : VT → Nat
  | .nil => 1
  | .node _ _ s _ l _ f => 1 + s.size + sumTo (fun i => greatT (f i)) l
theorem greatT_eq (T : VT) : greatT T = 1 + T.text.size + sumTo (fun i => greatT (T.kid i)) T.len := by cases T <;> rfl
/-- too much to be asked -/
def muchT : VT → Nat → Bool
  | .nil, d => decide (40 < d)
  | .node _ _ s _ l _ f, d => decide (40 < d) || decide (300 < l) || decide (1000 < s.size) || anyTo (fun i => muchT (f i) (d + 1 + l / 4)) l || decide (10000 < sumTo (fun i => greatT (f i)) l)
theorem muchT_eq (T : VT) (d : Nat) : muchT T d = (decide (40 < d) || decide (300 < T.len) || decide (1000 < T.text.size) || anyTo (fun i => muchT (T.kid i) (d + 1 + T.len / 4)) T.len || decide (10000 < sumTo (fun i => greatT (T.kid i)) T.len)) := by
  cases T with
  | nil => simp [muchT, VT.len, VT.text, anyTo, sumTo, ByteArray.size]
  | node => rfl
theorem much_no {T : VT} {d : Nat} (h : muchT T d = false) : d ≤ 40 ∧ T.len ≤ 300 ∧ T.text.size ≤ 1000 ∧ (∀ i, i < T.len → muchT (T.kid i) (d + 1 + T.len / 4) = false) ∧ sumTo (fun i => greatT (T.kid i)) T.len ≤ 10000 ∧ greatT T ≤ 11001 := by
  rw [muchT_eq] at h
  simp only [Bool.or_eq_false_iff, decide_eq_false_iff_not, Nat.not_lt] at h
  obtain ⟨⟨⟨⟨h1, h2⟩, h3⟩, h4⟩, h5⟩ := h
  refine ⟨h1, h2, h3, fun i hi => anyTo_false h4 i hi, h5, ?_⟩
  rw [greatT_eq]; omega
theorem much_deep : ∀ (T : VT) (d : Nat), muchT T d = false → deepT T + d ≤ 41 := by
  refine VT.ind fun T ih d h => ?_
  obtain ⟨h1, h2, h3, h4, _⟩ := much_no h
  rw [deepT_eq]
  have := maxTo_le (f := fun i => deepT (T.kid i)) (m := 40 - d) T.len (fun i hi => by
    have := ih i hi _ (h4 i hi)
    show deepT (T.kid i) ≤ _
    omega)
  omega
/-- the same Kind, Num, Text and number of Items -/
def headB (T U : VT) : Bool := T.kind == U.kind && T.num == U.num && decide (T.text = U.text) && T.len == U.len
/-- the same -/
def sameT : VT → VT → Bool
  | .nil, U => headB .nil U
  | .node k n s a l c f, U => headB (.node k n s a l c f) U && allTo (fun i => sameT (f i) (U.kid i)) l
theorem sameT_eq (T U : VT) : sameT T U = (headB T U && allTo (fun i => sameT (T.kid i) (U.kid i)) T.len) := by
  cases T with
  | nil => simp [sameT, VT.len, allTo]
  | node => rfl
theorem headB_iff {T U : VT} : headB T U = true ↔ T.kind = U.kind ∧ T.num = U.num ∧ T.text = U.text ∧ T.len = U.len := by
  unfold headB; simp [and_assoc]
theorem sameT_iff {T U : VT} : sameT T U = true ↔ T.kind = U.kind ∧ T.num = U.num ∧ T.text = U.text ∧ T.len = U.len ∧ ∀ i, i < T.len → sameT (T.kid i) (U.kid i) = true := by
  rw [sameT_eq, Bool.and_eq_true, headB_iff, allTo_iff]; simp [and_assoc]
theorem sameT_refl : ∀ T : VT, sameT T T = true := VT.ind fun T ih => sameT_iff.2 ⟨rfl, rfl, rfl, rfl, ih⟩
theorem sameT_symm : ∀ (T U : VT), sameT T U = true → sameT U T = true := by
  refine VT.ind fun T ih U h => ?_
  obtain ⟨h1, h2, h3, h4, h5⟩ := sameT_iff.1 h
  exact sameT_iff.2 ⟨h1.symm, h2.symm, h3.symm, h4.symm, fun i hi => ih i (by omega) _ (h5 i (by omega))⟩
theorem sameT_comm (T U : VT) : sameT T U = sameT U T := by
  rw [Bool.eq_iff_iff]; exact ⟨sameT_symm T U, sameT_symm U T⟩
theorem sameT_trans : ∀ (T U V : VT), sameT T U = true → sameT U V = true → sameT T V = true := by
  refine VT.ind fun T ih U V h k => ?_
  obtain ⟨h1, h2, h3, h4, h5⟩ := sameT_iff.1 h
  obtain ⟨k1, k2, k3, k4, k5⟩ := sameT_iff.1 k
  exact sameT_iff.2 ⟨h1.trans k1, h2.trans k2, h3.trans k3, h4.trans k4, fun i hi => ih i hi _ _ (h5 i hi) (k5 i (by omega))⟩
theorem same_deep : ∀ (T U : VT), sameT T U = true → deepT T = deepT U := by
  refine VT.ind fun T ih U h => ?_
  obtain ⟨h1, h2, h3, h4, h5⟩ := sameT_iff.1 h
  rw [deepT_eq, deepT_eq, ← h4, maxTo_congr T.len (fun i hi => ih i hi _ (h5 i hi))]
theorem same_great : ∀ (T U : VT), sameT T U = true → greatT T = greatT U := by
  refine VT.ind fun T ih U h => ?_
  obtain ⟨h1, h2, h3, h4, h5⟩ := sameT_iff.1 h
  rw [greatT_eq, greatT_eq, ← h4, ← h3, sumTo_congr T.len (fun i hi => ih i hi _ (h5 i hi))]
theorem kid_deep {T : VT} {i : Nat} (hi : i < T.len) : deepT (T.kid i) < deepT T := by
  rw [deepT_eq T]; have : deepT (T.kid i) ≤ _ := maxTo_ge (f := fun i => deepT (T.kid i)) hi; omega
theorem kid_great {T : VT} {i : Nat} (hi : i < T.len) : greatT (T.kid i) < greatT T := by
  rw [greatT_eq T]; have : greatT (T.kid i) ≤ _ := sumTo_ge (f := fun i => greatT (T.kid i)) hi; omega
/-- a byte that stands for itself between quotes -/
def plainB (c : Int) : Bool := decide (32 ≤ c) && decide (c ≤ 126) && !(c == 39) && !(c == 92)
def figN (n : Nat) : Nat := if n < 10 then 48 + n else 87 + n
def figB (n : Nat) : UInt8 := UInt8.ofNat (figN n)
def quoteB (c : UInt8) : List UInt8 := if plainB c.toNat then [c] else [92, figB (c.toNat / 16), figB (c.toNat % 16)]
def quoteL (l : List UInt8) : List UInt8 := l.flatMap quoteB
def trueL : List UInt8 := [116, 114, 117, 101]
def falseL : List UInt8 := [102, 97, 108, 115, 101]
/-- a datum's text -/
def datL (d : DatV) : List UInt8 :=
  if d.kind = 3 then (if d.num = 1 then trueL else falseL) else if d.kind = 1 then (if d.neg then 45 :: Lib.decDigits d.num.toNat else Lib.decDigits d.num.toNat) else [63]
def commaS (n : Nat) : List UInt8 := if 0 < n then [44] else []
def colonS (_ : Nat) : List UInt8 := [58]
/-- a value's text: of its kind, number and text, and the texts of its Items -/
def textOf (k n : Int) (s : ByteArray) (l : Nat) (f : Nat → List UInt8) : List UInt8 :=
  if k = 10 then 39 :: (quoteL s.toList ++ [39])
  else if k = 11 ∨ k = 12 then 91 :: (joinTo commaS f l ++ [93])
  else if k = 13 then 40 :: (joinTo commaS f l ++ [41])
  else if k = 14 then 60 :: (Lib.decDigits n.toNat ++ (joinTo colonS f l ++ [62]))
  else datL (datK k n)
def textT : VT → List UInt8
  | .nil => textOf 0 0 ⟨#[]⟩ 0 (fun _ => [])
  | .node k n s _ l _ f => textOf k n s l (fun i => textT (f i))
theorem textT_eq (T : VT) : textT T = textOf T.kind T.num T.text T.len (fun i => textT (T.kid i)) := by
  cases T with
  | nil => unfold textT; rfl
  | node => rfl
theorem same_text : ∀ (T U : VT), sameT T U = true → textT T = textT U := by
  refine VT.ind fun T ih U h => ?_
  obtain ⟨h1, h2, h3, h4, h5⟩ := sameT_iff.1 h
  rw [textT_eq, textT_eq, ← h1, ← h2, ← h3, ← h4]
  have e := fun s => joinTo_congr (s := s) T.len (fun i hi => ih i hi _ (h5 i hi))
  unfold textOf
  rw [e commaS, e colonS]
theorem quoteB_len (c : UInt8) : (quoteB c).length ≤ 3 := by unfold quoteB; split <;> simp
theorem quoteL_len : ∀ l : List UInt8, (quoteL l).length ≤ 3 * l.length
  | [] => by simp [quoteL]
  | c :: l => by
    have := quoteB_len c; have := quoteL_len l
    unfold quoteL at *
    simp only [List.flatMap_cons, List.length_append, List.length_cons]; omega
theorem joinTo_len {s f : Nat → List UInt8} {g : Nat → Nat} (hs : ∀ i, (s i).length ≤ 1) : ∀ n, (∀ i, i < n → (f i).length + 1 ≤ 24 * g i) → (joinTo s f n).length ≤ 24 * sumTo g n
  | 0, _ => by simp [joinTo]
  | n + 1, h => by
    have := joinTo_len hs n (fun i hi => h i (by omega)); have := h n (by omega); have := hs n
    rw [joinTo, sumTo]; simp only [List.length_append]; omega
theorem joinTo_mono {s f : Nat → List UInt8} : ∀ {n m : Nat}, m ≤ n → (joinTo s f m).length ≤ (joinTo s f n).length
  | 0, m, h => by obtain rfl : m = 0 := by omega
                  exact Nat.le_refl _
  | n + 1, m, h => by
    rcases Nat.eq_or_lt_of_le h with rfl | h
    · exact Nat.le_refl _
    · have := joinTo_mono (s := s) (f := f) (n := n) (m := m) (by omega)
      rw [joinTo, List.length_append]; omega
theorem nDig_le : ∀ (k u : Nat), u < 10 ^ (k + 1) → Lib.nDigits u ≤ k + 1
  | 0, u, h => by rw [Lib.nDigits_small (by simpa using h)]; omega
  | k + 1, u, h => by
    by_cases c : u < 10
    · rw [Lib.nDigits_small c]; omega
    · rw [Lib.nDigits_big c]
      have := nDig_le k (u / 10) (by rw [Nat.div_lt_iff_lt_mul (by decide)]; rw [Nat.pow_succ] at h; exact h)
      omega
theorem dec_len (n : Nat) (h : n < 18446744073709551616) : (Lib.decDigits n).length ≤ 20 := by
  rw [Lib.decDigits_length]
  exact nDig_le 19 n (Nat.lt_trans h (by decide))
theorem datL_len (k n : Int) : (datL (datK k n)).length ≤ 21 := by
  have hd : ∀ d : DatV, 0 ≤ d.num → d.num < 18446744073709551616 → (datL d).length ≤ 21 := by
    intro d h0 h1
    have := dec_len d.num.toNat (by omega)
    unfold datL trueL falseL
    split
    · split <;> simp
    · split
      · split
        · simp only [List.length_cons]; omega
        · omega
      · simp
  have := dat_num k n
  exact hd _ this.1 (by omega)
theorem bytes_len (s : ByteArray) : s.toList.length = s.size := by
  rw [ByteArray.toList_eq]; rfl
def VT.wfN : VT → Prop
  | .nil => True
  | .node _ n _ _ l _ f => 0 ≤ n ∧ n < 18446744073709551616 ∧ ∀ i, i < l → (f i).wfN
theorem wfN_iff (T : VT) : T.wfN ↔ 0 ≤ T.num ∧ T.num < 18446744073709551616 ∧ ∀ i, i < T.len → (T.kid i).wfN := by
  cases T with
  | nil => simp [VT.wfN, VT.num, VT.len]
  | node => rfl
theorem text_len : ∀ T : VT, T.wfN → (textT T).length + 1 ≤ 24 * greatT T := by
  refine VT.ind fun T ih hw => ?_
  obtain ⟨h0, h1, h2⟩ := (wfN_iff T).1 hw
  rw [textT_eq, greatT_eq]
  have hq := quoteL_len T.text.toList
  rw [bytes_len] at hq
  have hj := joinTo_len (s := commaS) (f := fun i => textT (T.kid i)) (g := fun i => greatT (T.kid i)) (fun i => by unfold commaS; split <;> simp) T.len (fun i hi => ih i hi (h2 i hi))
  have hc := joinTo_len (s := colonS) (f := fun i => textT (T.kid i)) (g := fun i => greatT (T.kid i)) (fun i => by simp [colonS]) T.len (fun i hi => ih i hi (h2 i hi))
  have hd := dec_len T.num.toNat (by omega)
  have hl := datL_len T.kind T.num
  generalize sumTo (fun i => greatT (T.kid i)) T.len = g at *
  unfold textOf
  split
  · simp only [List.length_cons, List.length_append, List.length_nil]; omega
  · split
    · simp only [List.length_cons, List.length_append, List.length_nil]; omega
    · split
      · simp only [List.length_cons, List.length_append, List.length_nil]; omega
      · split
        · simp only [List.length_cons, List.length_append, List.length_nil]; omega
        · omega
end Go.Proofs.YtpclpghmahlieaaDoor
