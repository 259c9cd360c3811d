/- Values as trees: their depth, size, text and sameness, and when one is too great to be asked; in plain words. -/
import Derived.Test.YtinmdkhafamibaaGreatPrimSmall
import Derived.Lib.ItoaNum
import Derived.Test.YtinmdkhafamibaaGreatRdgSlice
import Derived.Lib.Hide
import Derived.Test.YtinmdkhafamibaaGreatOwn
import Derived.OwnWalk
import Derived.LoopN
import Derived.Test.YtinmdkhafamibaaGreatWordRef
import Derived.Deep.RegionHeld3
import Derived.BigGuardPart
namespace Go.Proofs.YtinmdkhafamibaaGreat
set_option linter.unusedVariables false
/-- a value, its Items by their place; nil: the zero value -/
inductive VT where
  | nil
  | node (kind num : Int) (text : ByteArray) (ia : Option Addr) (len cap : Nat) (kid : Nat → VT)
instance : Inhabited VT := ⟨.nil⟩
namespace VT
def kind : VT → Int | .nil => 0 | .node k _ _ _ _ _ _ => k
def num : VT → Int | .nil => 0 | .node _ n _ _ _ _ _ => n
def text : VT → ByteArray | .nil => ⟨#[]⟩ | .node _ _ s _ _ _ _ => s
def ia : VT → Option Addr | .nil => none | .node _ _ _ a _ _ _ => a
def len : VT → Nat | .nil => 0 | .node _ _ _ _ l _ _ => l
def cap : VT → Nat | .nil => 0 | .node _ _ _ _ _ c _ => c
def kid : VT → Nat → VT | .nil => fun _ => .nil | .node _ _ _ _ _ _ k => k
/-- what holds of a value if it holds of its Items holds of all -/
theorem ind {Q : VT → Prop} (h : ∀ T : VT, (∀ i, i < T.len → Q (T.kid i)) → Q T) : ∀ T, Q T
  | .nil => h _ (fun i hi => absurd hi (Nat.not_lt_zero i))
  | .node k n s a l c f => h _ (fun i _ => ind h (f i))
end VT
def maxTo (f : Nat → Nat) : Nat → Nat | 0 => 0 | n + 1 => max (maxTo f n) (f n)
def sumTo (f : Nat → Nat) : Nat → Nat | 0 => 0 | n + 1 => sumTo f n + f n
def allTo (f : Nat → Bool) : Nat → Bool | 0 => true | n + 1 => allTo f n && f n
def anyTo (f : Nat → Bool) : Nat → Bool | 0 => false | n + 1 => anyTo f n || f n
/-- the texts, with what stands ahead of each -/
def joinTo (sep : Nat → List UInt8) (f : Nat → List UInt8) : Nat → List UInt8 | 0 => [] | n + 1 => joinTo sep f n ++ (sep n ++ f n)
theorem maxTo_congr {f g : Nat → Nat} : ∀ n, (∀ i, i < n → f i = g i) → maxTo f n = maxTo g n
  | 0, _ => rfl
  | n + 1, h => by rw [maxTo, maxTo, maxTo_congr n (fun i hi => h i (by omega)), h n (by omega)]
theorem sumTo_congr {f g : Nat → Nat} : ∀ n, (∀ i, i < n → f i = g i) → sumTo f n = sumTo g n
  | 0, _ => rfl
  | n + 1, h => by rw [sumTo, sumTo, sumTo_congr n (fun i hi => h i (by omega)), h n (by omega)]
theorem joinTo_congr {s f g : Nat → List UInt8} : ∀ n, (∀ i, i < n → f i = g i) → joinTo s f n = joinTo s g n
  | 0, _ => rfl
  | n + 1, h => by rw [joinTo, joinTo, joinTo_congr n (fun i hi => h i (by omega)), h n (by omega)]
theorem allTo_iff {f : Nat → Bool} : ∀ n, allTo f n = true ↔ ∀ i, i < n → f i = true
  | 0 => by simp [allTo]
  | n + 1 => by
    rw [allTo, Bool.and_eq_true, allTo_iff n]
    constructor
    · rintro ⟨h, h2⟩ i hi
      rcases Nat.lt_succ_iff_lt_or_eq.1 hi with h' | rfl
      · exact h i h'
      · exact h2
    · exact fun h => ⟨fun i hi => h i (by omega), h n (by omega)⟩
theorem allTo_false {f : Nat → Bool} {n j : Nat} (hj : j < n) (h : f j = false) : allTo f n = false := by
  cases hx : allTo f n with
  | false => rfl
  | true => rw [(allTo_iff n).1 hx j hj] at h; cases h
theorem anyTo_iff {f : Nat → Bool} : ∀ n, anyTo f n = true ↔ ∃ i, i < n ∧ f i = true
  | 0 => by simp [anyTo]
  | n + 1 => by
    rw [anyTo, Bool.or_eq_true, anyTo_iff n]
    constructor
    · rintro (⟨i, hi, h⟩ | h)
      · exact ⟨i, by omega, h⟩
      · exact ⟨n, by omega, h⟩
    · rintro ⟨i, hi, h⟩
      rcases Nat.lt_succ_iff_lt_or_eq.1 hi with h' | rfl
      · exact .inl ⟨i, h', h⟩
      · exact .inr h
theorem anyTo_false {f : Nat → Bool} {n : Nat} (h : anyTo f n = false) (i : Nat) (hi : i < n) : f i = false := by
  cases hx : f i with
  | false => rfl
  | true => rw [(anyTo_iff n).2 ⟨i, hi, hx⟩] at h; cases h
theorem maxTo_ge {f : Nat → Nat} : ∀ {n i : Nat}, i < n → f i ≤ maxTo f n
  | n + 1, i, hi => by
    rw [maxTo]
    rcases Nat.lt_succ_iff_lt_or_eq.1 hi with h | rfl
    · have := maxTo_ge (f := f) h; omega
    · omega
theorem maxTo_le {f : Nat → Nat} {m : Nat} : ∀ n, (∀ i, i < n → f i ≤ m) → maxTo f n ≤ m
  | 0, _ => Nat.zero_le _
  | n + 1, h => by have := maxTo_le n (fun i hi => h i (by omega)); have := h n (by omega); rw [maxTo]; omega
theorem sumTo_ge {f : Nat → Nat} : ∀ {n i : Nat}, i < n → f i ≤ sumTo f n
  | n + 1, i, hi => by
    rw [sumTo]
    rcases Nat.lt_succ_iff_lt_or_eq.1 hi with h | rfl
    · have := sumTo_ge (f := f) h; omega
    · omega
theorem sumTo_le {f : Nat → Nat} : ∀ {n m : Nat}, m ≤ n → sumTo f m ≤ sumTo f n
  | 0, m, h => by obtain rfl : m = 0 := by omega
                  exact Nat.le_refl _
  | n + 1, m, h => by
    rcases Nat.eq_or_lt_of_le h with rfl | h
    · exact Nat.le_refl _
    · have := sumTo_le (f := f) (n := n) (m := m) (by omega); rw [sumTo]; omega
/-- how deep -/
def deepT : VT → Nat
  | .nil => 1
  | .node _ _ _ _ l _ f => 1 + maxTo (fun i => deepT (f i)) l
theorem deepT_eq (T : VT) : deepT T = 1 + maxTo (fun i => deepT (T.kid i)) T.len := by cases T <;> rfl
/-- how great -/
def greatT : VT → Nat
  | .nil => 1
  | .node _ _ s _ l _ f => 1 + s.size + sumTo (fun i => greatT (f i)) l
theorem greatT_eq (T : VT) : greatT T = 1 + T.text.size + sumTo (fun i => greatT (T.kid i)) T.len := by cases T <;> rfl
/-- too much to be asked -/
def muchT : VT → Nat → Bool
  | .nil, d => decide (40 < d)
  | .node _ _ s _ l _ f, d => decide (40 < d) || decide (300 < l) || decide (1000 < s.size) || anyTo (fun i => muchT (f i) (d + 1 + l / 4)) l || decide (10000 < sumTo (fun i => greatT (f i)) l)
theorem muchT_eq (T : VT) (d : Nat) : muchT T d = (decide (40 < d) || decide (300 < T.len) || decide (1000 < T.text.size) || anyTo (fun i => muchT (T.kid i) (d + 1 + T.len / 4)) T.len || decide (10000 < sumTo (fun i => greatT (T.kid i)) T.len)) := by
  cases T with
  | nil => simp [muchT, VT.len, VT.text, anyTo, sumTo, ByteArray.size]
  | node => rfl
theorem much_no {T : VT} {d : Nat} (h : muchT T d = false) : d ≤ 40 ∧ T.len ≤ 300 ∧ T.text.size ≤ 1000 ∧ (∀ i, i < T.len → muchT (T.kid i) (d + 1 + T.len / 4) = false) ∧ sumTo (fun i => greatT (T.kid i)) T.len ≤ 10000 ∧ greatT T ≤ 11001 := by
  rw [muchT_eq] at h
  simp only [Bool.or_eq_false_iff, decide_eq_false_iff_not, Nat.not_lt] at h
  obtain ⟨⟨⟨⟨h1, h2⟩, h3⟩, h4⟩, h5⟩ := h
  refine ⟨h1, h2, h3, fun i hi => anyTo_false h4 i hi, h5, ?_⟩
  rw [greatT_eq]; omega
theorem much_deep : ∀ (T : VT) (d : Nat), muchT T d = false → deepT T + d ≤ 41 := by
  refine VT.ind fun T ih d h => ?_
  obtain ⟨h1, h2, h3, h4, _⟩ := much_no h
  rw [deepT_eq]
  have := maxTo_le (f := fun i => deepT (T.kid i)) (m := 40 - d) T.len (fun i hi => by
    have := ih i hi _ (h4 i hi)
    show deepT (T.kid i) ≤ _
    omega)
  omega
/-- the same Kind, Num, Text and number of Items -/
def headB (T U : VT) : Bool := T.kind == U.kind && T.num == U.num && decide (T.text = U.text) && T.len == U.len
/-- the same -/
def sameT : VT → VT → Bool
  | .nil, U => headB .nil U
  | .node k n s a l c f, U => headB (.node k n s a l c f) U && allTo (fun i => sameT (f i) (U.kid i)) l
theorem sameT_eq (T U : VT) : sameT T U = (headB T U && allTo (fun i => sameT (T.kid i) (U.kid i)) T.len) := by
  cases T with
  | nil => simp [sameT, VT.len, allTo]
  | node => rfl
theorem headB_iff {T U : VT} : headB T U = true ↔ T.kind = U.kind ∧ T.num = U.num ∧ T.text = U.text ∧ T.len = U.len := by
  unfold headB; simp [and_assoc]
theorem sameT_iff {T U : VT} : sameT T U = true ↔ T.kind = U.kind ∧ T.num = U.num ∧ T.text = U.text ∧ T.len = U.len ∧ ∀ i, i < T.len → sameT (T.kid i) (U.kid i) = true := by
  rw [sameT_eq, Bool.and_eq_true, headB_iff, allTo_iff]; simp [and_assoc]
theorem sameT_refl : ∀ T : VT, sameT T T = true := VT.ind fun T ih => sameT_iff.2 ⟨rfl, rfl, rfl, rfl, ih⟩
theorem sameT_symm : ∀ (T U : VT), sameT T U = true → sameT U T = true := by
  refine VT.ind fun T ih U h => ?_
  obtain ⟨h1, h2, h3, h4, h5⟩ := sameT_iff.1 h
  exact sameT_iff.2 ⟨h1.symm, h2.symm, h3.symm, h4.symm, fun i hi => ih i (by omega) _ (h5 i (by omega))⟩
theorem sameT_comm (T U : VT) : sameT T U = sameT U T := by
  rw [Bool.eq_iff_iff]; exact ⟨sameT_symm T U, sameT_symm U T⟩
theorem sameT_trans : ∀ (T U V : VT), sameT T U = true → sameT U V = true → sameT T V = true := by
  refine VT.ind fun T ih U V h k => ?_
  obtain ⟨h1, h2, h3, h4, h5⟩ := sameT_iff.1 h
  obtain ⟨k1, k2, k3, k4, k5⟩ := sameT_iff.1 k
  exact sameT_iff.2 ⟨h1.trans k1, h2.trans k2, h3.trans k3, h4.trans k4, fun i hi => ih i hi _ _ (h5 i hi) (k5 i (by omega))⟩
theorem same_deep : ∀ (T U : VT), sameT T U = true → deepT T = deepT U := by
  refine VT.ind fun T ih U h => ?_
  obtain ⟨h1, h2, h3, h4, h5⟩ := sameT_iff.1 h
  rw [deepT_eq, deepT_eq, ← h4, maxTo_congr T.len (fun i hi => ih i hi _ (h5 i hi))]
theorem same_great : ∀ (T U : VT), sameT T U = true → greatT T = greatT U := by
  refine VT.ind fun T ih U h => ?_
  obtain ⟨h1, h2, h3, h4, h5⟩ := sameT_iff.1 h
  rw [greatT_eq, greatT_eq, ← h4, ← h3, sumTo_congr T.len (fun i hi => ih i hi _ (h5 i hi))]
theorem kid_deep {T : VT} {i : Nat} (hi : i < T.len) : deepT (T.kid i) < deepT T := by
  rw [deepT_eq T]; have : deepT (T.kid i) ≤ _ := maxTo_ge (f := fun i => deepT (T.kid i)) hi; omega
theorem kid_great {T : VT} {i : Nat} (hi : i < T.len) : greatT (T.kid i) < greatT T := by
  rw [greatT_eq T]; have : greatT (T.kid i) ≤ _ := sumTo_ge (f := fun i => greatT (T.kid i)) hi; omega
/-- a byte that stands for itself between quotes -/
def plainB (c : Int) : Bool := decide (32 ≤ c) && decide (c ≤ 126) && !(c == 39) && !(c == 92)
def figN (n : Nat) : Nat := if n < 10 then 48 + n else 87 + n
def figB (n : Nat) : UInt8 := UInt8.ofNat (figN n)
def quoteB (c : UInt8) : List UInt8 := if plainB c.toNat then [c] else [92, figB (c.toNat / 16), figB (c.toNat % 16)]
def quoteL (l : List UInt8) : List UInt8 := l.flatMap quoteB
def trueL : List UInt8 := [116, 114, 117, 101]
def falseL : List UInt8 := [102, 97, 108, 115, 101]
/-- a datum's text -/
def datL (d : DatV) : List UInt8 :=
  if d.kind = 3 then (if d.num = 1 then trueL else falseL) else if d.kind = 1 then (if d.neg then 45 :: Lib.decDigits d.num.toNat else Lib.decDigits d.num.toNat) else [63]
def commaS (n : Nat) : List UInt8 := if 0 < n then [44] else []
def colonS (_ : Nat) : List UInt8 := [58]
/-- a value's text: of its kind, number and text, and the texts of its Items -/
def textOf (k n : Int) (s : ByteArray) (l : Nat) (f : Nat → List UInt8) : List UInt8 :=
  if k = 10 then 39 :: (quoteL s.toList ++ [39])
  else if k = 11 ∨ k = 12 then 91 :: (joinTo commaS f l ++ [93])
  else if k = 13 then 40 :: (joinTo commaS f l ++ [41])
  else if k = 14 then 60 :: (Lib.decDigits n.toNat ++ (joinTo colonS f l ++ [62]))
  else datL (datK k n)
def textT : VT → List UInt8
  | .nil => textOf 0 0 ⟨#[]⟩ 0 (fun _ => [])
  | .node k n s _ l _ f => textOf k n s l (fun i => textT (f i))
theorem textT_eq (T : VT) : textT T = textOf T.kind T.num T.text T.len (fun i => textT (T.kid i)) := by
  cases T with
  | nil => unfold textT; rfl
  | node => rfl
theorem same_text : ∀ (T U : VT), sameT T U = true → textT T = textT U := by
  refine VT.ind fun T ih U h => ?_
  obtain ⟨h1, h2, h3, h4, h5⟩ := sameT_iff.1 h
  rw [textT_eq, textT_eq, ← h1, ← h2, ← h3, ← h4]
  have e := fun s => joinTo_congr (s := s) T.len (fun i hi => ih i hi _ (h5 i hi))
  unfold textOf
  rw [e commaS, e colonS]
theorem quoteB_len (c : UInt8) : (quoteB c).length ≤ 3 := by unfold quoteB; split <;> simp
theorem quoteL_len : ∀ l : List UInt8, (quoteL l).length ≤ 3 * l.length
  | [] => by simp [quoteL]
  | c :: l => by
    have := quoteB_len c; have := quoteL_len l
    unfold quoteL at *
    simp only [List.flatMap_cons, List.length_append, List.length_cons]; omega
theorem joinTo_len {s f : Nat → List UInt8} {g : Nat → Nat} (hs : ∀ i, (s i).length ≤ 1) : ∀ n, (∀ i, i < n → (f i).length + 1 ≤ 24 * g i) → (joinTo s f n).length ≤ 24 * sumTo g n
  | 0, _ => by simp [joinTo]
  | n + 1, h => by
    have := joinTo_len hs n (fun i hi => h i (by omega)); have := h n (by omega); have := hs n
    rw [joinTo, sumTo]; simp only [List.length_append]; omega
theorem joinTo_mono {s f : Nat → List UInt8} : ∀ {n m : Nat}, m ≤ n → (joinTo s f m).length ≤ (joinTo s f n).length
  | 0, m, h => by obtain rfl : m = 0 := by omega
                  exact Nat.le_refl _
  | n + 1, m, h => by
    rcases Nat.eq_or_lt_of_le h with rfl | h
    · exact Nat.le_refl _
    · have := joinTo_mono (s := s) (f := f) (n := n) (m := m) (by omega)
      rw [joinTo, List.length_append]; omega
theorem nDig_le : ∀ (k u : Nat), u < 10 ^ (k + 1) → Lib.nDigits u ≤ k + 1
  | 0, u, h => by rw [Lib.nDigits_small (by simpa using h)]; omega
  | k + 1, u, h => by
    by_cases c : u < 10
    · rw [Lib.nDigits_small c]; omega
    · rw [Lib.nDigits_big c]
      have := nDig_le k (u / 10) (by rw [Nat.div_lt_iff_lt_mul (by decide)]; rw [Nat.pow_succ] at h; exact h)
      omega
theorem dec_len (n : Nat) (h : n < 18446744073709551616) : (Lib.decDigits n).length ≤ 20 := by
  rw [Lib.decDigits_length]
  exact nDig_le 19 n (Nat.lt_trans h (by decide))
theorem datL_len (k n : Int) : (datL (datK k n)).length ≤ 21 := by
  have hd : ∀ d : DatV, 0 ≤ d.num → d.num < 18446744073709551616 → (datL d).length ≤ 21 := by
    intro d h0 h1
    have := dec_len d.num.toNat (by omega)
    unfold datL trueL falseL
    split
    · split <;> simp
    · split
      · split
        · simp only [List.length_cons]; omega
        · omega
      · simp
  have := dat_num k n
  exact hd _ this.1 (by omega)
theorem bytes_len (s : ByteArray) : s.toList.length = s.size := by
  rw [ByteArray.toList_eq]; rfl
def VT.wfN : VT → Prop
  | .nil => True
  | .node _ n _ _ l _ f => 0 ≤ n ∧ n < 18446744073709551616 ∧ ∀ i, i < l → (f i).wfN
theorem wfN_iff (T : VT) : T.wfN ↔ 0 ≤ T.num ∧ T.num < 18446744073709551616 ∧ ∀ i, i < T.len → (T.kid i).wfN := by
  cases T with
  | nil => simp [VT.wfN, VT.num, VT.len]
  | node => rfl
theorem text_len : ∀ T : VT, T.wfN → (textT T).length + 1 ≤ 24 * greatT T := by
  refine VT.ind fun T ih hw => ?_
  obtain ⟨h0, h1, h2⟩ := (wfN_iff T).1 hw
  rw [textT_eq, greatT_eq]
  have hq := quoteL_len T.text.toList
  rw [bytes_len] at hq
  have hj := joinTo_len (s := commaS) (f := fun i => textT (T.kid i)) (g := fun i => greatT (T.kid i)) (fun i => by unfold commaS; split <;> simp) T.len (fun i hi => ih i hi (h2 i hi))
  have hc := joinTo_len (s := colonS) (f := fun i => textT (T.kid i)) (g := fun i => greatT (T.kid i)) (fun i => by simp [colonS]) T.len (fun i hi => ih i hi (h2 i hi))
  have hd := dec_len T.num.toNat (by omega)
  have hl := datL_len T.kind T.num
  generalize sumTo (fun i => greatT (T.kid i)) T.len = g at *
  unfold textOf
  split
  · simp only [List.length_cons, List.length_append, List.length_nil]; omega
  · split
    · simp only [List.length_cons, List.length_append, List.length_nil]; omega
    · split
      · simp only [List.length_cons, List.length_append, List.length_nil]; omega
      · split
        · simp only [List.length_cons, List.length_append, List.length_nil]; omega
        · omega
end Go.Proofs.YtinmdkhafamibaaGreat
namespace Go.Proofs.YtinmdkhafamibaaGreat
open Go.ChangeShapes Go.WideShapes Go.ChangeAt Go.RowKit
set_option linter.unusedVariables false
/-- a value by value -/
def valV (T : VT) : Value := .agg #[.int .i64 T.kind, .int .u64 T.num, .string T.text, .slice T.ia T.len T.cap]
def valO (T : VT) : Obj := .cells #[.int .i64 T.kind, .int .u64 T.num, .string T.text, .slice T.ia T.len T.cap] 26
def ValWf (T : VT) : Prop := (Lit.int .i64 T.kind).wf = true ∧ (Lit.int .u64 T.num).wf = true ∧ T.text.size ≤ 140737488351232 ∧ T.len ≤ 2513169434843
/-- an Item's cells, in a block of which S speaks -/
def CellsAt (w : World) (S : Nat → Prop) (ao : Option Addr) (i : Nat) (T : VT) : Prop :=
  ∃ b off, ao = some ⟨b, off, none⟩ ∧ S b ∧ b < w.heap.size ∧ w.cell? ⟨b, off + i * 4, none⟩ = some (.int .i64 T.kind) ∧ w.cell? ⟨b, off + i * 4 + 1, none⟩ = some (.int .u64 T.num) ∧
    w.cell? ⟨b, off + i * 4 + 2, none⟩ = some (.string T.text) ∧ w.cell? ⟨b, off + i * 4 + 3, none⟩ = some (.slice T.ia T.len T.cap)
/-- all that lies within a value lies in blocks of which S speaks -/
def ValAt (w : World) (S : Nat → Prop) : VT → Prop
  | .nil => True
  | .node k n s a l c f => ValWf (.node k n s a l c f) ∧ ∀ i, i < l → CellsAt w S a i (f i) ∧ ValAt w S (f i)
theorem valWf_nil : ValWf .nil := ⟨by kernel_rfl, by kernel_rfl, by decide, by decide⟩
theorem valAt_iff {w : World} {S : Nat → Prop} (T : VT) : ValAt w S T ↔ ValWf T ∧ ∀ i, i < T.len → CellsAt w S T.ia i (T.kid i) ∧ ValAt w S (T.kid i) := by
  cases T with
  | nil => exact ⟨fun _ => ⟨valWf_nil, fun i hi => absurd hi (Nat.not_lt_zero i)⟩, fun _ => trivial⟩
  | node => exact Iff.rfl
theorem cell_same {w w' : World} {a : Addr} (h : w'.heap[a.block]? = w.heap[a.block]?) : w'.cell? a = w.cell? a := by
  unfold World.cell?
  rw [h]
theorem CellsAt.held {w w' : World} {S S' : Nat → Prop} {ao : Option Addr} {i : Nat} {T : VT} (h : CellsAt w S ao i T) (hS : ∀ b, S b → S' b) (hn : w.heap.size ≤ w'.heap.size) (hw : ∀ b, S b → b < w.heap.size → w'.heap[b]? = w.heap[b]?) : CellsAt w' S' ao i T := by
  obtain ⟨b, off, e, hs, hl, h0, h1, h2, h3⟩ := h
  have hb := hw b hs hl
  exact ⟨b, off, e, hS b hs, by omega, (cell_same hb).trans h0, (cell_same hb).trans h1, (cell_same hb).trans h2, (cell_same hb).trans h3⟩
theorem ValAt.held_of {w w' : World} {S S' : Nat → Prop} (hS : ∀ b, S b → S' b) (hn : w.heap.size ≤ w'.heap.size) (hw : ∀ b, S b → b < w.heap.size → w'.heap[b]? = w.heap[b]?) : ∀ T : VT, ValAt w S T → ValAt w' S' T := by
  refine VT.ind fun T ih h => ?_
  obtain ⟨h1, h2⟩ := (valAt_iff T).1 h
  exact (valAt_iff T).2 ⟨h1, fun i hi => ⟨(h2 i hi).1.held hS hn hw, ih i hi (h2 i hi).2⟩⟩
theorem ValAt.held {w w' : World} {S : Nat → Prop} {T : VT} {N : Nat} (h : ValAt w S T) (hb : Below N w w') (hS : ∀ b, S b → b < N) : ValAt w' S T :=
  ValAt.held_of (fun _ s => s) hb.size (fun b s _ => hb.block b (hS b s)) T h
theorem ValAt.next {w w' : World} {S : Nat → Prop} {T : VT} (h : ValAt w S T) (hb : Below w.heap.size w w') : ValAt w' S T :=
  ValAt.held_of (fun _ s => s) hb.size (fun b _ hl => hb.block b hl) T h
theorem CellsAt.next {w w' : World} {S : Nat → Prop} {ao : Option Addr} {i : Nat} {T : VT} (h : CellsAt w S ao i T) (hb : Below w.heap.size w w') : CellsAt w' S ao i T :=
  h.held (fun _ s => s) hb.size (fun b _ hl => hb.block b hl)
theorem ValAt.sub {w : World} {S S' : Nat → Prop} {T : VT} (h : ValAt w S T) (hS : ∀ b, S b → S' b) : ValAt w S' T :=
  ValAt.held_of hS (Nat.le_refl _) (fun _ _ _ => rfl) T h
theorem valAt_wf {w : World} {S : Nat → Prop} : ∀ T : VT, ValAt w S T → T.wfN := by
  refine VT.ind fun T ih h => ?_
  obtain ⟨h1, h2⟩ := (valAt_iff T).1 h
  have := bounds_u64 h1.2.1
  exact (wfN_iff T).2 ⟨by omega, by omega, fun i hi => ih i hi (h2 i hi).2⟩
section
variable {H : Type} {enc : TypeId × Value → H} {P : Program} {w : World}
/-- a reading of at most this depth -/
def RdgF (enc : TypeId × Value → H) (P : Program) (w : World) (fuel : Nat) (t : TypeId) (cs : List Value) : Prop :=
  ∃ (d : DataW H) (p : List MemPlace), DataW.trod enc P w 0 (fun _ => true) true fuel t cs = some (d, p) ∧ ∀ n ∈ d.weights P t, n ≤ reachBytes
theorem RdgF.rdg {fuel : Nat} {t : TypeId} {cs : List Value} (h : RdgF enc P w fuel t cs) : Rdg enc P w t cs := by
  obtain ⟨d, p, h⟩ := h; exact ⟨fuel, d, p, h⟩
theorem rdgF_field {fuel : Nat} {t : TypeId} {fs : Array Field} {cs : List Value} (ht : P.underlying t = some (.struct fs)) (h : RdgF enc P w fuel t cs) (i : Nat) (ty : TypeId) (off n : Nat)
    (hf : fs[i]?.map (fun f => (f.type, f.offset)) = some (ty, off)) (hc : P.cellsOf ty = n) : ∃ m, fuel = m + 1 ∧ RdgF enc P w m ty ((cs.drop off).take n) := by
  obtain ⟨d, p, h, hw⟩ := h
  obtain ⟨xs, m, hfu, hx, _, hl, hfl⟩ := DataW.trod_struct ht h
  obtain ⟨rfl, _⟩ := Prod.mk.inj hx
  cases hq : fs[i]? with
  | none => rw [hq] at hf; cases hf
  | some f =>
    rw [hq] at hf
    simp at hf
    obtain ⟨rfl, rfl⟩ := hf
    subst hc
    have hi : i < xs.length := by
      have := (Array.getElem?_eq_some_iff.1 hq).1
      omega
    refine ⟨m, hfu, xs[i].1, xs[i].2, by rw [hfl i f hq, List.getElem?_eq_getElem hi], fun k hk => hw k ?_⟩
    simp only [DataW.weights, ht]
    refine DataW.weights_mem_each (j := i) (t := f.type) (d := xs[i].1) ?_ ?_ k hk
    · have := Array.getElem?_toList (xs := fs) (i := i)
      rw [List.getElem?_map, this, hq]; rfl
    · rw [List.getElem?_map, List.getElem?_eq_getElem hi]; rfl
theorem rdgF_slice {fuel : Nat} {t e : TypeId} {cs : List Value} (n : Nat) (ht : P.underlying t = some (.slice e)) (hc : P.cellsOf e = n) (h : RdgF enc P w fuel t cs) :
    cs = [.slice none 0 0] ∨ ∃ (a : Addr) (len cap m : Nat), fuel = m + 1 ∧ cs = [.slice (some a) len cap] ∧ len ≤ cap ∧ cap * P.bytesOf e ≤ 140737488351232 ∧
      ∀ i, i < len → ∃ c : List Value, w.cells? 0 (a.add (i * n)) n = some c ∧ RdgF enc P w m e c := by
  obtain ⟨d, p, h, hw⟩ := h
  subst hc
  rcases DataW.trod_slice ht h with ⟨h0, _⟩ | ⟨a, len, cap, elems, rest, m, hfu, h1, h2, _, hl, hm, hlen, hel, hsp, _⟩
  · exact .inl h0
  · obtain ⟨hr, hrj⟩ := hsp rfl
    obtain ⟨rfl, _⟩ := Prod.mk.inj h2
    have e0 : reachBytes = 140737488351232 := by decide
    refine .inr ⟨a, len, cap, m, hfu, h1, hl, ?_, ?_⟩
    · have := hw ((elems.length + rest.length) * P.bytesOf e) (by simp [DataW.weights, ht])
      rw [e0, hlen, hr] at this
      rwa [Nat.add_sub_cancel' hl] at this
    · intro i hi
      have hq := hel i hi
      have hi' : i < elems.length := by omega
      rw [List.getElem?_eq_getElem hi'] at hq
      obtain ⟨cs', hcs, hx⟩ := Option.bind_eq_some_iff.1 hq
      refine ⟨cs', hcs, elems[i].1, elems[i].2, hx, fun k hk => hw k ?_⟩
      simp only [DataW.weights, ht, List.mem_cons, List.mem_append]
      exact .inr (.inl (weights_mem_all (j := i) (d := elems[i].1) (by rw [List.getElem?_map, List.getElem?_eq_getElem hi']; rfl) k hk))
end
section
variable {H : Type} {enc : TypeId × Value → H} {w : World}
theorem slice_at' {b' : Nat} {a : Addr} {n len : Nat} {Q : Nat → List Value → Prop} (hn : 0 < n) (hc : 0 < len) (h : ∀ i, i < len → ∃ c : List Value, w.cells? 0 (a.add (i * n)) n = some c ∧ Q i c) :
    ∃ b off, a = ⟨b, off, none⟩ ∧ ∀ i, i < len → ∃ c : List Value, c.length = n ∧ (∀ j, j < n → w.cell? ⟨b, off + i * n + j, none⟩ = c[j]?) ∧ Q i c := by
  have h0 : a = ⟨a.block, a.off, none⟩ := by
    obtain ⟨c, hcc, _⟩ := h 0 hc
    obtain ⟨_, hl, hat⟩ := World.cells?_some hcc
    have h1 := hat 0 hn
    have hl0 : 0 < c.length := by omega
    rw [List.getElem?_eq_getElem hl0, Nat.zero_mul] at h1
    have e2 : (a.add 0).add 0 = a := by unfold Addr.add; simp
    rw [e2] at h1
    exact spot_of_cell h1
  refine ⟨a.block, a.off, h0, fun i hi => ?_⟩
  obtain ⟨c, hcc, hr⟩ := h i hi
  obtain ⟨_, hl, hat⟩ := World.cells?_some hcc
  refine ⟨c, hl, fun j hj => ?_, hr⟩
  have h1 := hat j hj
  rw [Go.Deep.add_add, h0, add_plain, ← Nat.add_assoc] at h1
  exact h1
/-- a reading of a value: a tree -/
theorem tree_of : ∀ (n fuel : Nat) (cs : List Value), fuel ≤ n → cs.length = 4 → RdgF enc Tryz.prog w fuel 26 cs →
    ∃ T : VT, cs = [.int .i64 T.kind, .int .u64 T.num, .string T.text, .slice T.ia T.len T.cap] ∧ ValAt w (· < w.heap.size) T
  | 0, fuel, cs, hn, _, h => by
    obtain ⟨m, hm, _⟩ := rdgF_field Tryz.underlying26 h 0 3 0 1 rfl (by kernel_rfl)
    omega
  | n + 1, fuel, cs, hn, hl, h => by
    obtain ⟨_, _, f0⟩ := rdgF_field Tryz.underlying26 h 0 3 0 1 rfl (by kernel_rfl)
    obtain ⟨_, _, f1⟩ := rdgF_field Tryz.underlying26 h 1 23 1 1 rfl (by kernel_rfl)
    obtain ⟨_, _, f2⟩ := rdgF_field Tryz.underlying26 h 2 9 2 1 rfl (by kernel_rfl)
    obtain ⟨m, hm, f3⟩ := rdgF_field Tryz.underlying26 h 3 24 3 1 rfl (by kernel_rfl)
    obtain ⟨x0, e0, w0⟩ := rdg_int Tryz.underlying3 f0.rdg
    obtain ⟨x1, e1, w1⟩ := rdg_int Tryz.underlying23 f1.rdg
    obtain ⟨x2, e2, w2⟩ := rdg_string Tryz.underlying9 f2.rdg
    match cs, hl with
    | [c0, c1, c2, c3], _ =>
      simp at e0 e1 e2
      subst e0 e1 e2
      have hz : Tryz.prog.bytesOf 26 = 56 := by kernel_rfl
      rcases rdgF_slice 4 Tryz.underlying24 (by kernel_rfl) f3 with e3 | ⟨a, len, cap, m', hm', e3, hlc, hby, hel⟩
      · simp at e3
        subst e3
        exact ⟨.node x0 x1 x2 none 0 0 (fun _ => .nil), rfl, ⟨⟨w0, w1, w2, Nat.zero_le _⟩, fun i hi => absurd hi (Nat.not_lt_zero i)⟩⟩
      · simp at e3
        subst e3
        rw [hz] at hby
        have hq : ∀ i, i < len → ∃ T : VT, CellsAt w (· < w.heap.size) (some a) i T ∧ ValAt w (· < w.heap.size) T := by
          intro i hi
          obtain ⟨b, off, rfl, hc⟩ := slice_at' (b' := 0) (n := 4) (Q := fun _ c => RdgF enc Tryz.prog w m' 26 c) (by omega) (by omega) hel
          obtain ⟨c, hcl, hat, hr⟩ := hc i hi
          obtain ⟨T, rfl, hT⟩ := tree_of n m' c (by omega) hcl hr
          have h0 := hat 0 (by omega); have h1 := hat 1 (by omega); have h2 := hat 2 (by omega); have h3 := hat 3 (by omega)
          exact ⟨T, ⟨b, off, rfl, lt_of_cell h0, lt_of_cell h0, h0, h1, h2, h3⟩, hT⟩
        obtain ⟨L, hL⟩ := skolem hq
        exact ⟨.node x0 x1 x2 (some a) len cap L, rfl, ⟨⟨w0, w1, w2, by show len ≤ _; omega⟩, hL⟩⟩
theorem val_of {cs : Array Value} (hl : cs.size = Tryz.prog.cellsOf 26) (h : Rdg enc Tryz.prog w 26 (Value.agg cs).cells.toList) : ∃ T : VT, Value.agg cs = valV T ∧ ValAt w (· < w.heap.size) T := by
  obtain ⟨fuel, d, p, h1, h2⟩ := h
  have hc : Tryz.prog.cellsOf 26 = 4 := by kernel_rfl
  obtain ⟨T, hT, hv⟩ := tree_of (enc := enc) (w := w) fuel fuel cs.toList (Nat.le_refl _) (by simp; omega) ⟨d, p, by simpa [Value.cells] using h1, h2⟩
  refine ⟨T, ?_, hv⟩
  unfold valV
  refine congrArg Value.agg ?_
  exact Array.toList_inj.1 (by simpa using hT)
end
end Go.Proofs.YtinmdkhafamibaaGreat
namespace Go.Proofs.YtinmdkhafamibaaGreat
open Go.RowKit
set_option linter.unusedVariables false
theorem below_step8' {w a b : World} (h : Below w.heap.size w a) (k : Below a.heap.size a b) : Below w.heap.size w b := h.trans (k.mono h.size)
theorem max_succ (f : Nat → Nat) (j : Nat) : maxTo f (j + 1) = max (maxTo f j) (f j) := rfl
theorem sum_succ (f : Nat → Nat) (j : Nat) : sumTo f (j + 1) = sumTo f j + f j := rfl
/-- an Item, met in its place, behind whatever was made since -/
theorem kids_at {w : World} {S : Nat → Prop} {T : VT} (H : ValAt w S T) {wx : World} (hb : Below w.heap.size w wx) {i : Nat} (hi : i < T.len) : CellsAt wx S T.ia i (T.kid i) ∧ ValAt wx S (T.kid i) := by
  have h := ((valAt_iff T).1 H).2 i hi
  exact ⟨h.1.next hb, h.2.next hb⟩
theorem val_len {w : World} {S : Nat → Prop} {T : VT} (H : ValAt w S T) : T.len ≤ 2513169434843 := ((valAt_iff T).1 H).1.2.2.2
theorem val_text {w : World} {S : Nat → Prop} {T : VT} (H : ValAt w S T) : T.text.size ≤ 140737488351232 := ((valAt_iff T).1 H).1.2.2.1
theorem box_keep {w w1 : World} {b : Nat} {o : Obj} (h : w.heap[b]? = some o) (hb : Below w.heap.size w w1) : w1.heap[b]? = some o := (hb.block b (lt_of_block h)).trans h
theorem ret_i8 {k : IntKind} {a b : Int} (h : a = b) : Ending.returned (.int k a) = .returned (.int k b) := by rw [h]
def RGreatTo (T : VT) (w : World) : Prop := Calls Tryz.prog 12 #[.agg #[.int .i64 T.kind, .int .u64 T.num, .string T.text, .slice T.ia T.len T.cap]] w fun e w' => e = .returned (.int .i64 (greatT T : Nat)) ∧ Below w.heap.size w w'
theorem sum_part (T : VT) {j : Nat} (h : j ≤ T.len) : 1 + T.text.size + sumTo (fun i => greatT (T.kid i)) j ≤ greatT T := by
  rw [greatT_eq]; have := sumTo_le (f := fun i => greatT (T.kid i)) h; omega
set_option maxHeartbeats 2000000 in
theorem refGreat8_any (S : Nat → Prop) : ∀ (T : VT) (w : World), ValAt w S T → greatT T ≤ 1000000 → RGreatTo T w := by
  refine VT.ind fun T ih w H hd => ?_
  have HI := Lib.hid (fun i (hi : i < T.len) wx (hb : Below w.heap.size w wx) => ih i hi wx (kids_at H hb hi).2 (Nat.le_trans (Nat.le_of_lt (kid_great hi)) hd))
  have HC := Lib.hid (fun i (hi : i < T.len) wx (hb : Below w.heap.size w wx) => (kids_at H hb hi).1)
  have hlen := val_len H
  have hts := val_text H
  have hml : T.text.size ≤ maxLen := by unfold maxLen; omega
  have HD := Lib.hid (greatT_eq T)
  have HK := Lib.hid (fun i (hi : i ≤ T.len) => Nat.le_trans (sum_part T hi) hd)
  obtain ⟨F, hF⟩ : ∃ F : Nat → Nat, F = fun i => greatT (T.kid i) := ⟨_, rfl⟩
  rw [← hF] at HD HK
  have HF := Lib.hid hF
  clear ih H hF
  unfold RGreatTo
  go_enter Tryz.func12, Tryz.ntmps12
  go_wp2
  go_loopw [3, 4] (fun n i wr => ∃ (j m : Nat), j ≤ T.len ∧ i = .int .i64 j ∧ n = .int .i64 m ∧ Hid (m = 1 + T.text.size + sumTo F j) ∧ m ≤ 1000000 ∧ Hid (wr.heap[w.heap.size]? = some (valO T)) ∧ Hid (Below w.heap.size w wr)) (fun _ i _ => T.len - (intOf i).toNat)
  case atStart => exact ⟨0, 1 + T.text.size, Nat.zero_le _, rfl, by go_num, Lib.hid rfl, HK.out 0 (Nat.zero_le _), Lib.hid (alloc_at w _), Lib.hid ((Below.refl _ _).alloc (Nat.le_refl _) _)⟩
  case round =>
    obtain ⟨j, m, hj, rfl, rfl, HM, hm, HQ, HBr⟩ := hrel
    by_cases hlt : j < T.len
    · obtain ⟨b, off, hia, _, _, c0, c1, c2, c3⟩ := HC.out j hlt wr HBr.out
      have d3 : wr.cell? ⟨w.heap.size, 3, none⟩ = some (.slice (some ⟨b, off, none⟩) T.len T.cap) := by rw [← hia]; exact cell_at HQ.out rfl
      have HN := Lib.hid (HI.out j hlt wr HBr.out)
      have hk := HK.out (j + 1) hlt
      obtain ⟨d, hdd⟩ : ∃ d, greatT (T.kid j) = d := ⟨_, rfl⟩
      unfold RGreatTo at HN
      rw [hdd] at HN
      have hx : sumTo F (j + 1) = sumTo F j + d := by rw [sum_succ, HF.out, ← hdd]
      have hmd : m + d ≤ 1000000 := by have := HM.out; omega
      have HX := Lib.hid hx
      clear hdd hia hx hk
      go_wp2_with (go_at_call 12; refine (HN.out).mono ?_; rintro e w2 ⟨rfl, hb2⟩)
      have HQ2 := Lib.hid (box_keep HQ.out hb2)
      have HB2 := Lib.hid (HBr.out.trans (hb2.mono HBr.out.size))
      go_roundw
      case rel => exact ⟨j + 1, m + d, by omega, by go_num, by go_num, Lib.hid (by rw [HX.out]; have := HM.out; omega), hmd, HQ2, HB2⟩
      case measure => simp [intOf]; omega
    · obtain rfl : j = T.len := by omega
      have d3 : wr.cell? ⟨w.heap.size, 3, none⟩ = some (.slice T.ia T.len T.cap) := cell_at HQ.out rfl
      go_wp2
      go_ret
      exact ⟨ret_i8 (by rw [HD.out, HM.out]), HBr.out⟩
end Go.Proofs.YtinmdkhafamibaaGreat
namespace Go.Proofs.YtinmdkhafamibaaGreat
open Go.RowKit
set_option linter.unusedVariables false
theorem below_step8 {w a b : World} {N : Nat} (h : Below N w a) (hN : N ≤ w.heap.size) (k : Below a.heap.size a b) : Below N w b := h.trans (k.mono (Nat.le_trans hN h.size))
theorem much_yes {T : VT} {d j : Nat} (hj : j < T.len) (h : muchT (T.kid j) (d + 1 + T.len / 4) = true) : muchT T d = true := by
  rw [muchT_eq, (anyTo_iff T.len).2 ⟨j, hj, h⟩]; simp
theorem much_end {T : VT} {d : Nat} (h1 : d ≤ 40) (h2 : T.len ≤ 300) (h3 : T.text.size ≤ 1000) (h4 : ∀ i, i < T.len → muchT (T.kid i) (d + 1 + T.len / 4) = false) : muchT T d = decide (10000 < sumTo (fun i => greatT (T.kid i)) T.len) := by
  have e : anyTo (fun i => muchT (T.kid i) (d + 1 + T.len / 4)) T.len = false := by
    cases hx : anyTo (fun i => muchT (T.kid i) (d + 1 + T.len / 4)) T.len with
    | false => rfl
    | true =>
      obtain ⟨i, hi, h⟩ := (anyTo_iff T.len).1 hx
      rw [h4 i hi] at h; cases h
  rw [muchT_eq, e]
  have a1 : decide (40 < d) = false := by simp; omega
  have a2 : decide (300 < T.len) = false := by simp; omega
  have a3 : decide (1000 < T.text.size) = false := by simp; omega
  rw [a1, a2, a3]; simp
def RMuchTo (T : VT) (d : Nat) (w : World) : Prop := Calls Tryz.prog 5 #[.agg #[.int .i64 T.kind, .int .u64 T.num, .string T.text, .slice T.ia T.len T.cap], .int .i64 (d : Nat)] w fun e w' => e = .returned (.bool (muchT T d)) ∧ Below w.heap.size w w'
set_option maxHeartbeats 2000000 in
theorem refMuch_head (T : VT) (d : Nat) (w : World) (hd : d ≤ 1000) (hlen : T.len ≤ 2513169434843) (hts : T.text.size ≤ 140737488351232) (h : 40 < d ∨ 300 < T.len ∨ 1000 < T.text.size) : RMuchTo T d w := by
  have hml : T.text.size ≤ maxLen := by unfold maxLen; omega
  have e : muchT T d = true := by
    rw [muchT_eq]
    rcases h with h | h | h <;> simp [h]
  unfold RMuchTo
  rw [e]
  have HB := Lib.hid ((Below.refl w.heap.size w).alloc (Nat.le_refl _) (valO T))
  by_cases h1 : 40 < d
  · have t1 : decide ((40 : Int) < d) = true := by simp; omega
    clear h
    go_enter Tryz.func5, Tryz.ntmps5
    go_wp2
    go_ret
    exact ⟨rfl, HB.out⟩
  · have t1 : decide ((40 : Int) < d) = false := by simp; omega
    by_cases h2 : 300 < T.len
    · have t2 : decide ((300 : Int) < T.len) = true := by simp; omega
      clear h
      go_enter Tryz.func5, Tryz.ntmps5
      go_wp2
      go_ret
      exact ⟨rfl, HB.out⟩
    · have t2 : decide ((300 : Int) < T.len) = false := by simp; omega
      have h3 : 1000 < T.text.size := by omega
      have t3 : decide ((1000 : Int) < T.text.size) = true := by simp; omega
      clear h
      go_enter Tryz.func5, Tryz.ntmps5
      go_wp2
      go_ret
      exact ⟨rfl, HB.out⟩
set_option maxHeartbeats 4000000 in
theorem refMuch_any (S : Nat → Prop) : ∀ (T : VT) (d : Nat) (w : World), ValAt w S T → d ≤ 1000 → RMuchTo T d w := by
  refine VT.ind fun T ih d w H hd => ?_
  by_cases hh : 40 < d ∨ 300 < T.len ∨ 1000 < T.text.size
  · exact refMuch_head T d w hd (val_len H) (val_text H) hh
  have h1 : d ≤ 40 := by omega
  have h2 : T.len ≤ 300 := by omega
  have h3 : T.text.size ≤ 1000 := by omega
  have HI := Lib.hid (fun i (hi : i < T.len) wx (hb : Below w.heap.size w wx) => ih i hi (d + 1 + T.len / 4) wx (kids_at H hb hi).2 (by omega))
  have HG := Lib.hid (fun i (hi : i < T.len) (hm : muchT (T.kid i) (d + 1 + T.len / 4) = false) wx (hb : Below w.heap.size w wx) => refGreat8_any S (T.kid i) wx (kids_at H hb hi).2 (by have := (much_no hm).2.2.2.2.2; omega))
  have HY := Lib.hid (fun j (hj : j < T.len) (h : muchT (T.kid j) (d + 1 + T.len / 4) = true) => much_yes hj h)
  have HE := Lib.hid (much_end (T := T) h1 h2 h3)
  have HC := Lib.hid (fun i (hi : i < T.len) wx (hb : Below w.heap.size w wx) => (kids_at H hb hi).1)
  have HGL := Lib.hid (fun i (hi : i < T.len) (hm : muchT (T.kid i) (d + 1 + T.len / 4) = false) => (much_no hm).2.2.2.2.2)
  have t1 : decide ((40 : Int) < d) = false := by simp; omega
  have t2 : decide ((300 : Int) < T.len) = false := by simp; omega
  have t3 : decide ((1000 : Int) < T.text.size) = false := by simp; omega
  have hml : T.text.size ≤ maxLen := by unfold maxLen; omega
  obtain ⟨F, hF⟩ : ∃ F : Nat → Nat, F = fun i => greatT (T.kid i) := ⟨_, rfl⟩
  rw [← hF] at HE
  obtain ⟨e1, he1⟩ : ∃ e, d + 1 = e := ⟨_, rfl⟩
  obtain ⟨e2, he2⟩ : ∃ e, T.len / 4 = e := ⟨_, rfl⟩
  obtain ⟨q, hq⟩ : ∃ q, d + 1 + T.len / 4 = q := ⟨_, rfl⟩
  have hw1 : IntKind.i64.wrap ((d : Int) + 1) = (e1 : Nat) := by rw [IntWalk.i64_in _ (by omega)]; omega
  have hw2 : IntKind.i64.wrap ((T.len : Int) / 4) = (e2 : Nat) := by rw [IntWalk.i64_in _ (by omega)]; omega
  have hw3 : IntKind.i64.wrap ((e1 : Int) + (e2 : Int)) = (q : Nat) := by rw [IntWalk.i64_in _ (by omega)]; omega
  rw [hq] at HI HG HY HE HGL
  clear he1 he2 hq
  have HF := Lib.hid hF
  clear ih H hF hh
  unfold RMuchTo
  go_enter Tryz.func5, Tryz.ntmps5
  go_wp2
  go_loopw [5, 6] (fun n i wr => ∃ (j m : Nat), j ≤ T.len ∧ i = .int .i64 j ∧ n = .int .i64 m ∧ Hid (m = min (sumTo F j) 100000) ∧ m ≤ 100000 ∧ Hid (∀ i, i < j → muchT (T.kid i) q = false) ∧ Hid (wr.heap[w.heap.size]? = some (valO T)) ∧ Hid (Below w.heap.size w wr)) (fun _ i _ => T.len - (intOf i).toNat)
  case atStart => exact ⟨0, 0, Nat.zero_le _, rfl, rfl, Lib.hid rfl, by omega, Lib.hid (fun i hi => absurd hi (Nat.not_lt_zero i)), Lib.hid (alloc_at w _), Lib.hid ((Below.refl _ _).alloc (Nat.le_refl _) _)⟩
  case round =>
    obtain ⟨j, m, hj, rfl, rfl, HM, hm, HA, HQ, HBr⟩ := hrel
    by_cases hlt : j < T.len
    · obtain ⟨b, off, hia, _, _, c0, c1, c2, c3⟩ := HC.out j hlt wr HBr.out
      have d3 : wr.cell? ⟨w.heap.size, 3, none⟩ = some (.slice (some ⟨b, off, none⟩) T.len T.cap) := by rw [← hia]; exact cell_at HQ.out rfl
      have HIA := Lib.hid hia
      have HN := Lib.hid (HI.out j hlt)
      clear hia
      cases hbm : muchT (T.kid j) q with
      | true =>
        have HYY := Lib.hid (HY.out j hlt hbm)
        unfold RMuchTo at HN
        rw [hbm] at HN
        clear hbm
        go_wp2_with fail
        go_region_held3 (fun w' => w'.cell? ⟨w.heap.size, 3, none⟩ = some (.slice (some ⟨b, off, none⟩) T.len T.cap) ∧ w'.cell? ⟨b, off + j * 4, none⟩ = some (.int .i64 (T.kid j).kind) ∧ w'.cell? ⟨b, off + j * 4 + 1, none⟩ = some (.int .u64 (T.kid j).num) ∧ w'.cell? ⟨b, off + j * 4 + 2, none⟩ = some (.string (T.kid j).text) ∧ w'.cell? ⟨b, off + j * 4 + 3, none⟩ = some (.slice (T.kid j).ia (T.kid j).len (T.kid j).cap))
          (first | exact ⟨d3, c0, c1, c2, c3⟩ | exact ⟨x3, x4, x5, x6, x7⟩ | fail)
          (first | (go_at_call 5; refine (HN.out _ (by first | exact HBr.out | exact HBr.out.drew)).mono ?_; rintro e w3 ⟨rfl, hb3⟩; have x3 := keep hb3 (by exact d3); have x4 := keep hb3 (by exact c0); have x5 := keep hb3 (by exact c1); have x6 := keep hb3 (by exact c2); have x7 := keep hb3 (by exact c3); have HB3 := Lib.hid (below_step8 (by first | exact HBr.out | exact HBr.out.drew) (Nat.le_refl _) hb3); clear hb3))
        go_wp2
        go_ret
        exact ⟨ret_bool HYY.out.symm, HB3.out⟩
      | false =>
        have HGG := Lib.hid (HG.out j hlt hbm)
        have HA2 := Lib.hid (show ∀ i, i < j + 1 → muchT (T.kid i) q = false from fun i hi => by
          rcases Nat.lt_succ_iff_lt_or_eq.1 hi with h | rfl
          · exact HA.out i h
          · exact hbm)
        have hgl := HGL.out j hlt hbm
        unfold RMuchTo at HN
        rw [hbm] at HN
        clear hbm
        obtain ⟨g, hg⟩ : ∃ g, greatT (T.kid j) = g := ⟨_, rfl⟩
        unfold RGreatTo at HGG
        rw [hg] at HGG hgl
        have HX := Lib.hid (show sumTo F (j + 1) = sumTo F j + g by rw [sum_succ, HF.out, ← hg])
        clear hg
        go_wp2_with fail
        go_region_held3 (fun w' => w'.cell? ⟨w.heap.size, 3, none⟩ = some (.slice (some ⟨b, off, none⟩) T.len T.cap) ∧ w'.cell? ⟨b, off + j * 4, none⟩ = some (.int .i64 (T.kid j).kind) ∧ w'.cell? ⟨b, off + j * 4 + 1, none⟩ = some (.int .u64 (T.kid j).num) ∧ w'.cell? ⟨b, off + j * 4 + 2, none⟩ = some (.string (T.kid j).text) ∧ w'.cell? ⟨b, off + j * 4 + 3, none⟩ = some (.slice (T.kid j).ia (T.kid j).len (T.kid j).cap))
          (first | exact ⟨d3, c0, c1, c2, c3⟩ | exact ⟨x3, x4, x5, x6, x7⟩ | fail)
          (first | (go_at_call 5; refine (HN.out _ (by first | exact HBr.out | exact HBr.out.drew)).mono ?_; rintro e w3 ⟨rfl, hb3⟩; have x3 := keep hb3 (by exact d3); have x4 := keep hb3 (by exact c0); have x5 := keep hb3 (by exact c1); have x6 := keep hb3 (by exact c2); have x7 := keep hb3 (by exact c3); have HQ3 := Lib.hid (box_keep (by exact HQ.out) hb3); have HB3 := Lib.hid (below_step8 (by first | exact HBr.out | exact HBr.out.drew) (Nat.le_refl _) hb3); clear hb3))
        clear d3 c0 c1 c2 c3
        by_cases hbig : m + g ≤ 100000
        · have hmm : min ((m : Int) + g) 100000 = ((m + g : Nat) : Int) := by omega
          go_wp2_with (go_at_call 12; refine (HGG.out _ HB3.out).mono ?_; rintro e w4 ⟨rfl, hb4⟩)
          all_goals
            have HQ4 := Lib.hid (box_keep HQ3.out hb4)
            have HB4 := Lib.hid (below_step8 HB3.out (Nat.le_refl _) hb4)
            go_roundw
            case rel => exact ⟨j + 1, m + g, by omega, by go_num, by go_num, Lib.hid (by rw [HX.out]; have := HM.out; omega), by omega, HA2, HQ4, HB4⟩
            case measure => simp [intOf]; omega
        · have hmm : min ((m : Int) + g) 100000 = 100000 := by omega
          go_wp2_with (go_at_call 12; refine (HGG.out _ HB3.out).mono ?_; rintro e w4 ⟨rfl, hb4⟩)
          all_goals
            have HQ4 := Lib.hid (box_keep HQ3.out hb4)
            have HB4 := Lib.hid (below_step8 HB3.out (Nat.le_refl _) hb4)
            go_roundw
            case rel => exact ⟨j + 1, 100000, by omega, by go_num, by go_num, Lib.hid (by rw [HX.out]; have := HM.out; omega), by omega, HA2, HQ4, HB4⟩
            case measure => simp [intOf]; omega
    · obtain rfl : j = T.len := by omega
      have d3 : wr.cell? ⟨w.heap.size, 3, none⟩ = some (.slice T.ia T.len T.cap) := cell_at HQ.out rfl
      go_wp2
      go_ret
      exact ⟨ret_bool (by rw [HE.out HA.out]; have := HM.out; rw [Bool.eq_iff_iff]; simp; omega), HBr.out⟩
end Go.Proofs.YtinmdkhafamibaaGreat
namespace Go.Proofs.YtinmdkhafamibaaGreat
open Go.RowKit
set_option linter.unusedVariables false
theorem same_no {T U : VT} (h : ¬ (T.kind = U.kind ∧ T.num = U.num ∧ T.text = U.text ∧ T.len = U.len)) : sameT T U = false := by
  cases hx : sameT T U with
  | false => rfl
  | true =>
    obtain ⟨h1, h2, h3, h4, _⟩ := sameT_iff.1 hx
    exact absurd ⟨h1, h2, h3, h4⟩ h
theorem same_kid {T U : VT} {j : Nat} (hj : j < T.len) (h : sameT (T.kid j) (U.kid j) = false) : sameT T U = false := by
  cases hx : sameT T U with
  | false => rfl
  | true => rw [(sameT_iff.1 hx).2.2.2.2 j hj] at h; cases h
theorem text_ne {s t : ByteArray} (h : s ≠ t) : (s.toList == t.toList) = false := by
  rw [ByteArray.toList_eq, ByteArray.toList_eq]
  simp only [beq_eq_false_iff_ne, ne_eq]
  intro e
  apply h
  obtain ⟨a⟩ := s; obtain ⟨b⟩ := t
  simp only at e
  exact congrArg ByteArray.mk (Array.toList_inj.1 e)
end Go.Proofs.YtinmdkhafamibaaGreat
