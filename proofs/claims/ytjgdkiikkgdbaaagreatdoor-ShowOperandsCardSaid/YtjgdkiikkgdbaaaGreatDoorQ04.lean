/- Chapter 15 in plain Lean: trees, and the tree of a list of tokens. No run of the program. -/
import Derived.Deep.AppendLies
import Derived.Laws.OwnMore
import Derived.Test.YtjgdkiikkgdbaaaGreatDoorQ01
namespace Go.Proofs.YtjgdkiikkgdbaaaGreatDoor
open Go
set_option linter.unusedVariables false
/-- an operand -/
structure Opd where
  kind : Int
  text : ByteArray
  neg : Bool
  num : Int
instance : Inhabited Opd := ⟨⟨0, ⟨#[]⟩, false, 0⟩⟩
/-- a tree, its operands and its parts by their place; nil: the zero tree -/
inductive XT where
  | nil
  | node (op rel : Int) (aa : Option Addr) (an ac : Nat) (arg : Nat → Opd) (ka : Option Addr) (kn kc : Nat) (kid : Nat → XT)
instance : Inhabited XT := ⟨.nil⟩
namespace XT
def op : XT → Int | .nil => 0 | .node o _ _ _ _ _ _ _ _ _ => o
def rel : XT → Int | .nil => 0 | .node _ r _ _ _ _ _ _ _ _ => r
def aa : XT → Option Addr | .nil => none | .node _ _ a _ _ _ _ _ _ _ => a
def an : XT → Nat | .nil => 0 | .node _ _ _ n _ _ _ _ _ _ => n
def ac : XT → Nat | .nil => 0 | .node _ _ _ _ c _ _ _ _ _ => c
def arg : XT → Nat → Opd | .nil => fun _ => default | .node _ _ _ _ _ f _ _ _ _ => f
def ka : XT → Option Addr | .nil => none | .node _ _ _ _ _ _ a _ _ _ => a
def kn : XT → Nat | .nil => 0 | .node _ _ _ _ _ _ _ n _ _ => n
def kc : XT → Nat | .nil => 0 | .node _ _ _ _ _ _ _ _ c _ => c
def kid : XT → Nat → XT | .nil => fun _ => .nil | .node _ _ _ _ _ _ _ _ _ f => f
/-- what holds of a tree if it holds of its parts holds of all -/
theorem ind {Q : XT → Prop} (h : ∀ T : XT, (∀ i, i < T.kn → Q (T.kid i)) → Q T) : ∀ T, Q T
  | .nil => h _ (fun i hi => absurd hi (Nat.not_lt_zero i))
  | .node o r a n c g b m d f => h _ (fun i _ => ind h (f i))
end XT
/-- the same but for where it lies -/
def SameX : XT → XT → Prop
  | .nil, U => 0 = U.op ∧ 0 = U.rel ∧ 0 = U.an ∧ 0 = U.kn
  | .node o r _ n _ g _ m _ f, U => o = U.op ∧ r = U.rel ∧ n = U.an ∧ (∀ i, i < n → g i = U.arg i) ∧ m = U.kn ∧ ∀ i, i < m → SameX (f i) (U.kid i)
theorem sameX_iff (T U : XT) : SameX T U ↔ T.op = U.op ∧ T.rel = U.rel ∧ T.an = U.an ∧ (∀ i, i < T.an → T.arg i = U.arg i) ∧ T.kn = U.kn ∧ ∀ i, i < T.kn → SameX (T.kid i) (U.kid i) := by
  cases T with
  | nil =>
    constructor
    · rintro ⟨h1, h2, h3, h4⟩
      exact ⟨h1, h2, h3, fun i hi => absurd hi (Nat.not_lt_zero i), h4, fun i hi => absurd hi (Nat.not_lt_zero i)⟩
    · rintro ⟨h1, h2, h3, _, h4, _⟩
      exact ⟨h1, h2, h3, h4⟩
  | node => exact Iff.rfl
theorem sameX_symm : ∀ T U : XT, SameX T U → SameX U T := by
  refine XT.ind fun T ih U h => ?_
  obtain ⟨h1, h2, h3, h4, h5, h6⟩ := (sameX_iff T U).1 h
  exact (sameX_iff U T).2 ⟨h1.symm, h2.symm, h3.symm, fun i hi => (h4 i (by omega)).symm, h5.symm, fun i hi => ih i (by omega) _ (h6 i (by omega))⟩
/-- a tree that lies nowhere -/
def mkX (op rel : Int) (args : List Opd) (kids : List XT) : XT := .node op rel none args.length 0 (fun i => args.getD i default) none kids.length 0 (fun i => kids.getD i .nil)
def tk0 : Tk := ⟨0, [], 0, 0⟩
def hd (l : List Tk) : Tk := l.headD tk0
def kNOT : List UInt8 := [78, 79, 84]
def kAND : List UInt8 := [65, 78, 68]
def kOR : List UInt8 := [79, 82]
def kTRUE : List UInt8 := [84, 82, 85, 69]
def kFALSE : List UInt8 := [70, 65, 76, 83, 69]
def kLIKE : List UInt8 := [76, 73, 75, 69]
def kBETWEEN : List UInt8 := [66, 69, 84, 87, 69, 69, 78]
def relN (s : List UInt8) : Nat := if s == [61] then 1 else if s == [60, 62] then 2 else if s == [60] then 3 else if s == [60, 61] then 4 else if s == [62] then 5 else if s == [62, 61] then 6 else 0
def relT (t : Tk) : Nat := if t.k = 5 then relN t.t else 0
/-- a class of tokens -/
inductive Cl where
  | kd (n : Nat)
  | wd (s : List UInt8)
  | sg (s : List UInt8)
  | nm
  | rl
def Cl.test : Cl → Tk → Bool
  | .kd n, t => t.k == n
  | .wd s, t => t.k == 1 && t.t == s
  | .sg s, t => t.k == 5 && t.t == s
  | .nm, t => t.k == 1 && !wordsL.contains t.t
  | .rl, t => !(relT t == 0)
/-- what a part of a filter is, with the tokens behind it; or what is wrong, at the first token left -/
inductive PR (α : Type) where
  | err (e : Nat) (l : List Tk)
  | ok (x : α) (l : List Tk)
def eat : List Cl → List Tk → List UInt8 → PR (List UInt8)
  | [], l, s => .ok s l
  | c :: r, l, s => if c.test (hd l) then eat r l.tail (s ++ (hd l).t) else .err 11 l
def cOpen : Cl := .sg [91]
def cDot : Cl := .sg [46]
def cMinus : Cl := .sg [45]
def cPar : Cl := .sg [40]
def cEnd : Cl := .sg [41]
def itemC : List Cl := [.sg [91], .kd 2, .sg [93]]
def stepP (item : List Cl) (l : List Tk) (s : List UInt8) : PR (List UInt8) := eat (if cOpen.test (hd l) then itemC else item) l s
def pathL : Nat → List Tk → List UInt8 → PR (List UInt8)
  | 0, l, s => .err 0 l
  | f + 1, l, s => if cDot.test (hd l) || cOpen.test (hd l) then (match stepP [cDot, .nm] l s with
    | .err e l' => .err e l'
    | .ok s' l' => pathL f l' s') else .ok s l
def pathS (l : List Tk) : PR (List UInt8) := match stepP [.nm] l [] with
  | .err e l' => .err e l'
  | .ok s l' => pathL 100 l' s
def pathO : PR (List UInt8) → PR Opd
  | .err e l' => .err e l'
  | .ok s l' => .ok ⟨1, ⟨s.toArray⟩, false, 0⟩ l'
def pathP (l : List Tk) : PR Opd := pathO (pathS l)
def numP (neg : Bool) (l : List Tk) : PR Opd := if (Cl.kd 2).test (hd l) then .ok ⟨2, ⟨#[]⟩, neg, ((hd l).n : Nat)⟩ l.tail else .err 11 l
def numberP (l : List Tk) : PR Opd := if cMinus.test (hd l) then numP true l.tail else numP false l
def operandP (l : List Tk) : PR Opd :=
  if (Cl.kd 3).test (hd l) then .ok ⟨3, ⟨(hd l).t.toArray⟩, false, 0⟩ l.tail
  else if (Cl.kd 4).test (hd l) then .ok ⟨5, ⟨#[]⟩, false, ((hd l).n : Nat)⟩ l.tail
  else if (Cl.wd kTRUE).test (hd l) then .ok ⟨4, ⟨#[]⟩, false, 1⟩ l.tail
  else if (Cl.wd kFALSE).test (hd l) then .ok ⟨4, ⟨#[]⟩, false, 0⟩ l.tail
  else if cMinus.test (hd l) || (Cl.kd 2).test (hd l) then numberP l
  else pathP l
def furP : List Cl → List Tk → List Opd → PR (List Opd)
  | [], l, a => .ok a l
  | c :: r, l, a => if c.test (hd l) then (match operandP l.tail with
    | .err e l' => .err e l'
    | .ok o l' => furP r l' (a ++ [o])) else .err 11 l
def furX (op rel : Int) (cs : List Cl) (l : List Tk) (a : List Opd) : PR XT := match furP cs l a with
  | .err e l' => .err e l'
  | .ok b l' => .ok (mkX op rel b []) l'
def negR : PR XT → PR XT
  | .err e l => .err e l
  | .ok x l => .ok (mkX 4 0 [] [x]) l
def betw : List Cl := [.wd kBETWEEN, .wd kAND]
def testO (o : Opd) (l : List Tk) : PR XT :=
  if (Cl.wd kNOT).test (hd l) then negR (furX 2 0 betw l.tail [o])
  else if (Cl.wd kBETWEEN).test (hd l) then furX 2 0 betw l [o]
  else if (Cl.wd kLIKE).test (hd l) then furX 3 0 [.wd kLIKE] l [o]
  else furX 1 (relT (hd l) : Nat) [.rl] l [o]
def testP (l : List Tk) : PR XT := match operandP l with
  | .err e l' => .err e l'
  | .ok o l' => testO o l'
def serL (P : List Tk → PR XT) (w : List UInt8) : Nat → List Tk → List XT → PR (List XT)
  | 0, l, _ => .err 0 l
  | f + 1, l, a => match P l with
    | .err e l' => .err e l'
    | .ok x l' => if (Cl.wd w).test (hd l') then serL P w f l'.tail (a ++ [x]) else .ok (a ++ [x]) l'
def serX (op : Int) : List XT → XT
  | [x] => x
  | xs => mkX op 0 [] xs
def serO (op : Int) : PR (List XT) → PR XT
  | .err e l' => .err e l'
  | .ok xs l' => .ok (serX op xs) l'
def serP (op : Int) (w : List UInt8) (P : List Tk → PR XT) (l : List Tk) : PR XT := serO op (serL P w 100 l [])
def closeR : PR XT → PR XT
  | .err e l => .err e l
  | .ok x l => if cEnd.test (hd l) then .ok x l.tail else .err 11 l
def notP : Nat → List Tk → PR XT
  | 0, l => if (Cl.wd kNOT).test (hd l) || cPar.test (hd l) then .err 9 l else testP l
  | k + 1, l => if (Cl.wd kNOT).test (hd l) then negR (notP k l.tail)
    else if cPar.test (hd l) then closeR (serP 6 kOR (serP 5 kAND (notP k)) l.tail)
    else testP l
def orP (k : Nat) (l : List Tk) : PR XT := serP 6 kOR (serP 5 kAND (notP k)) l
inductive Tree where
  | bad (e a : Nat)
  | good (x : XT)
def parseL (L : List Tk) : Tree := match orP 8 L with
  | .err e l => .bad e (hd l).a
  | .ok x l => if (Cl.kd 6).test (hd l) then .good x else .bad 11 (hd l).a
def parseA (s : List UInt8) : Tree := match tokA s with
  | .bad e a => .bad e a
  | .good L => parseL L
/-- tokens up to the end, and the end -/
def TkOk (t : Tk) : Prop := t.k < 6 ∧ (t.k = 1 → t.t ≠ []) ∧ t.t.length ≤ 256
inductive Vd : List Tk → Prop
  | one {t : Tk} (h : t.k = 6) (h0 : t.t = []) : Vd [t]
  | cons {t : Tk} {l : List Tk} (h : TkOk t) (hl : Vd l) : Vd (t :: l)
theorem Vd.ne {l : List Tk} (h : Vd l) : l ≠ [] := by cases h <;> simp
theorem Vd.short : ∀ {l : List Tk}, Vd l → ∀ t ∈ l, t.t.length ≤ 256
  | _, .one _ h0, t, ht => by simp at ht; rw [ht, h0]; simp
  | _, .cons h hl, t, ht => by
    rcases List.mem_cons.1 ht with rfl | ht
    · exact h.2.2
    · exact hl.short t ht
theorem Vd.pos {l : List Tk} (h : Vd l) : 0 < l.length := List.length_pos_iff.2 h.ne
/-- a class that does not take the end -/
def Cl.inner : Cl → Prop
  | .kd n => n ≠ 6
  | _ => True
theorem test_end {c : Cl} (hc : c.inner) {t : Tk} (ht : t.k = 6) : c.test t = false := by
  cases c with
  | kd n => show (t.k == n) = false; rw [ht]; simp; exact fun e => hc e.symm
  | wd s => show (t.k == 1 && t.t == s) = false; rw [ht]; rfl
  | sg s => show (t.k == 5 && t.t == s) = false; rw [ht]; rfl
  | nm => show (t.k == 1 && _) = false; rw [ht]; rfl
  | rl => show (!(relT t == 0)) = false; unfold relT; rw [ht]; rfl
theorem Vd.tail {l : List Tk} (h : Vd l) {c : Cl} (hc : c.inner) (ht : c.test (hd l) = true) : Vd l.tail ∧ l.tail.length + 1 = l.length := by
  cases h with
  | one hk _ => rw [show c.test (hd [_]) = false from test_end hc hk] at ht; cases ht
  | cons ho hl => exact ⟨hl, rfl⟩
/-- what is left is left of what was there -/
def Less (l : List Tk) {α : Type} : PR α → Prop
  | .err e l' => Vd l' ∧ l'.length ≤ l.length ∧ e ≠ 0
  | .ok _ l' => Vd l' ∧ l'.length < l.length
theorem eat_less : ∀ (cs : List Cl), (∀ c ∈ cs, c.inner) → ∀ (l : List Tk) (s : List UInt8), Vd l → match eat cs l s with
    | .err e l' => Vd l' ∧ l'.length ≤ l.length ∧ e ≠ 0
    | .ok _ l' => Vd l' ∧ l'.length + cs.length ≤ l.length
  | [], _, l, s, h => ⟨h, Nat.le_refl _⟩
  | c :: r, hc, l, s, h => by
    unfold eat
    by_cases ht : c.test (hd l) = true
    · rw [if_pos ht]
      obtain ⟨h1, h2⟩ := h.tail (hc c (by simp)) ht
      have := eat_less r (fun d hd => hc d (by simp [hd])) l.tail (s ++ (hd l).t) h1
      cases hx : eat r l.tail (s ++ (hd l).t) with
      | err e l' => rw [hx] at this; exact ⟨this.1, by have := this.2.1; omega, this.2.2⟩
      | ok x l' => rw [hx] at this; exact ⟨this.1, by have := this.2; simp only [List.length_cons]; omega⟩
    · rw [if_neg ht]; exact ⟨h, Nat.le_refl _, by decide⟩
theorem step_less (item : List Cl) (h1 : ∀ c ∈ item, c.inner) (h0 : item ≠ []) (l : List Tk) (s : List UInt8) (h : Vd l) : Less l (stepP item l s) := by
  unfold stepP
  have key : ∀ cs : List Cl, (∀ c ∈ cs, c.inner) → cs ≠ [] → Less l (eat cs l s) := by
    intro cs h1 h0
    have := eat_less cs h1 l s h
    cases hx : eat cs l s with
    | err e l' => rw [hx] at this; exact this
    | ok x l' => rw [hx] at this; exact ⟨this.1, by have := this.2; have := List.length_pos_iff.2 h0; omega⟩
  split
  · exact key itemC (by intro c hc; simp [itemC] at hc; rcases hc with rfl | rfl | rfl <;> simp [Cl.inner]) (by simp [itemC])
  · exact key item h1 h0
theorem dotName : ∀ c ∈ [cDot, Cl.nm], c.inner := by intro c hc; simp [cDot] at hc; rcases hc with rfl | rfl <;> simp [Cl.inner]
def LessE (l : List Tk) {α : Type} : PR α → Prop
  | .err e l' => Vd l' ∧ l'.length ≤ l.length ∧ e ≠ 0
  | .ok _ l' => Vd l' ∧ l'.length ≤ l.length
theorem LessE.mono {l m : List Tk} {α : Type} {r : PR α} (h : LessE m r) (hm : m.length ≤ l.length) : LessE l r := by
  cases r with
  | err e l' => exact ⟨h.1, Nat.le_trans h.2.1 hm, h.2.2⟩
  | ok x l' => exact ⟨h.1, Nat.le_trans h.2 hm⟩
theorem LessE.less {l m : List Tk} {α : Type} {r : PR α} (h : LessE m r) (hm : m.length < l.length) : Less l r := by
  cases r with
  | err e l' => exact ⟨h.1, by have := h.2.1; omega, h.2.2⟩
  | ok x l' => exact ⟨h.1, by have := h.2; omega⟩
theorem pathL_less : ∀ (f : Nat) (l : List Tk) (s : List UInt8), Vd l → l.length < f → LessE l (pathL f l s)
  | 0, l, s, h, hf => by omega
  | f + 1, l, s, h, hf => by
    by_cases ht : (cDot.test (hd l) || cOpen.test (hd l)) = true
    · have := step_less [cDot, .nm] dotName (by simp) l s h
      rw [pathL, if_pos ht]
      cases hx : stepP [cDot, .nm] l s with
      | err e l' => rw [hx] at this; exact this
      | ok x l' =>
        rw [hx] at this
        exact (pathL_less f l' x this.1 (by have := this.2; omega)).mono (by have := this.2; omega)
    · rw [pathL, if_neg ht]; exact ⟨h, Nat.le_refl _⟩
theorem pathS_less (l : List Tk) (h : Vd l) (h99 : l.length ≤ 99) : Less l (pathS l) := by
  unfold pathS
  have := step_less [.nm] (by intro c hc; simp at hc; rw [hc]; trivial) (by simp) l [] h
  cases hx : stepP [.nm] l [] with
  | err e l' => rw [hx] at this; exact this
  | ok s l' =>
    rw [hx] at this
    exact (pathL_less 100 l' s this.1 (by have := this.2; omega)).less this.2
theorem pathP_less (l : List Tk) (h : Vd l) (h99 : l.length ≤ 99) : Less l (pathP l) := by
  unfold pathP
  have := pathS_less l h h99
  cases hx : pathS l with
  | err e l' => rw [hx] at this; exact this
  | ok s l' => rw [hx] at this; exact this
theorem numP_less (neg : Bool) (l : List Tk) (h : Vd l) : Less l (numP neg l) := by
  unfold numP
  by_cases ht : (Cl.kd 2).test (hd l) = true
  · rw [if_pos ht]; obtain ⟨h1, h2⟩ := h.tail (by simp [Cl.inner]) ht; exact ⟨h1, by omega⟩
  · rw [if_neg ht]; exact ⟨h, Nat.le_refl _, by decide⟩
theorem Less.mono {l m : List Tk} {α : Type} {r : PR α} (h : Less m r) (hm : m.length ≤ l.length) : Less l r := by
  cases r with
  | err e l' => exact ⟨h.1, Nat.le_trans h.2.1 hm, h.2.2⟩
  | ok x l' => exact ⟨h.1, Nat.lt_of_lt_of_le h.2 hm⟩
theorem numberP_less (l : List Tk) (h : Vd l) : Less l (numberP l) := by
  unfold numberP
  by_cases ht : cMinus.test (hd l) = true
  · rw [if_pos ht]; obtain ⟨h1, h2⟩ := h.tail (by simp [cMinus, Cl.inner]) ht; exact (numP_less true l.tail h1).mono (by omega)
  · rw [if_neg ht]; exact numP_less false l h
theorem operandP_less (l : List Tk) (h : Vd l) (h99 : l.length ≤ 99) : Less l (operandP l) := by
  unfold operandP
  have one : ∀ (c : Cl) (o : Opd), c.inner → c.test (hd l) = true → Less l (PR.ok o l.tail) := fun c o hc ht => by
    obtain ⟨h1, h2⟩ := h.tail hc ht; exact ⟨h1, by omega⟩
  split
  · rename_i ht; exact one _ _ (by simp [Cl.inner]) ht
  split
  · rename_i ht; exact one _ _ (by simp [Cl.inner]) ht
  split
  · rename_i ht; exact one _ _ (by simp [Cl.inner]) ht
  split
  · rename_i ht; exact one _ _ (by simp [Cl.inner]) ht
  split
  · exact numberP_less l h
  · exact pathP_less l h h99
theorem furP_less : ∀ (cs : List Cl), (∀ c ∈ cs, c.inner) → ∀ (l : List Tk) (a : List Opd), Vd l → l.length ≤ 99 → match furP cs l a with
    | .err e l' => Vd l' ∧ l'.length ≤ l.length ∧ e ≠ 0
    | .ok _ l' => Vd l' ∧ l'.length + cs.length ≤ l.length
  | [], _, l, a, h, _ => ⟨h, Nat.le_refl _⟩
  | c :: r, hc, l, a, h, h99 => by
    unfold furP
    by_cases ht : c.test (hd l) = true
    · rw [if_pos ht]
      obtain ⟨h1, h2⟩ := h.tail (hc c (by simp)) ht
      have hop := operandP_less l.tail h1 (by omega)
      cases hx : operandP l.tail with
      | err e l' => rw [hx] at hop; exact ⟨hop.1, by have := hop.2.1; omega, hop.2.2⟩
      | ok o l' =>
        rw [hx] at hop
        have := furP_less r (fun d hd => hc d (by simp [hd])) l' (a ++ [o]) hop.1 (by have := hop.2; omega)
        show match furP r l' (a ++ [o]) with | .err e l' => _ | .ok _ l' => _
        cases hy : furP r l' (a ++ [o]) with
        | err e l2 => rw [hy] at this; exact ⟨this.1, by have := this.2.1; have := hop.2; omega, this.2.2⟩
        | ok b l2 => rw [hy] at this; exact ⟨this.1, by have := this.2; have := hop.2; simp only [List.length_cons]; omega⟩
    · rw [if_neg ht]; exact ⟨h, Nat.le_refl _, by decide⟩
theorem furX_less (op rel : Int) (cs : List Cl) (h1 : ∀ c ∈ cs, c.inner) (h0 : cs ≠ []) (l : List Tk) (a : List Opd) (h : Vd l) (h99 : l.length ≤ 99) : Less l (furX op rel cs l a) := by
  unfold furX
  have := furP_less cs h1 l a h h99
  cases hx : furP cs l a with
  | err e l' => rw [hx] at this; exact this
  | ok x l' => rw [hx] at this; exact ⟨this.1, by have := this.2; have := List.length_pos_iff.2 h0; omega⟩
theorem Less.neg {l : List Tk} {r : PR XT} (h : Less l r) : Less l (negR r) := by cases r <;> exact h
theorem betw_inner : ∀ c ∈ betw, c.inner := by intro c hc; simp [betw] at hc; rcases hc with rfl | rfl <;> simp [Cl.inner]
theorem testO_less (o : Opd) (l : List Tk) (h : Vd l) (h99 : l.length ≤ 99) : Less l (testO o l) := by
  unfold testO
  split
  · rename_i ht
    obtain ⟨h1, h2⟩ := h.tail (by simp [Cl.inner]) ht
    exact ((furX_less 2 0 betw betw_inner (by simp [betw]) l.tail [o] h1 (by omega)).mono (by omega)).neg
  split
  · exact furX_less 2 0 betw betw_inner (by simp [betw]) l [o] h h99
  split
  · exact furX_less 3 0 _ (by intro c hc; simp at hc; rw [hc]; trivial) (by simp) l [o] h h99
  · exact furX_less 1 _ _ (by intro c hc; simp at hc; rw [hc]; trivial) (by simp) l [o] h h99
theorem testP_less (l : List Tk) (h : Vd l) (h99 : l.length ≤ 99) : Less l (testP l) := by
  unfold testP
  have hop := operandP_less l h h99
  cases hx : operandP l with
  | err e l' => rw [hx] at hop; exact hop
  | ok o l' => rw [hx] at hop; exact (testO_less o l' hop.1 (by have := hop.2; omega)).mono (by have := hop.2; omega)
theorem serL_less {P : List Tk → PR XT} (w : List UInt8) (N : Nat) (hP : ∀ l, Vd l → l.length ≤ N → Less l (P l)) : ∀ (f : Nat) (l : List Tk) (a : List XT), Vd l → l.length ≤ N → l.length < f → Less l (serL P w f l a)
  | 0, l, a, h, _, hf => by omega
  | f + 1, l, a, h, h99, hf => by
    unfold serL
    have hp := hP l h h99
    cases hx : P l with
    | err e l' => rw [hx] at hp; exact hp
    | ok x l' =>
      rw [hx] at hp
      show Less l (if (Cl.wd w).test (hd l') then serL P w f l'.tail (a ++ [x]) else .ok (a ++ [x]) l')
      by_cases ht : (Cl.wd w).test (hd l') = true
      · rw [if_pos ht]
        obtain ⟨h1, h2⟩ := hp.1.tail (by trivial) ht
        have := hp.2
        exact (serL_less w N hP f l'.tail (a ++ [x]) h1 (by omega) (by omega)).mono (by omega)
      · rw [if_neg ht]; exact hp
theorem serP_less {P : List Tk → PR XT} (op : Int) (w : List UInt8) (hP : ∀ l, Vd l → l.length ≤ 99 → Less l (P l)) (l : List Tk) (h : Vd l) (h99 : l.length ≤ 99) : Less l (serP op w P l) := by
  unfold serP
  have := serL_less w 99 hP 100 l [] h h99 (by omega)
  cases hx : serL P w 100 l [] with
  | err e l' => rw [hx] at this; exact this
  | ok x l' => rw [hx] at this; exact this
theorem notP_less : ∀ (k : Nat) (l : List Tk), Vd l → l.length ≤ 99 → Less l (notP k l)
  | 0, l, h, h99 => by
    unfold notP
    split
    · exact ⟨h, Nat.le_refl _, by decide⟩
    · exact testP_less l h h99
  | k + 1, l, h, h99 => by
    unfold notP
    split
    · rename_i ht
      obtain ⟨h1, h2⟩ := h.tail (by trivial) ht
      exact ((notP_less k l.tail h1 (by omega)).mono (by omega)).neg
    split
    · rename_i ht
      obtain ⟨h1, h2⟩ := h.tail (by trivial) ht
      have := serP_less 6 kOR (serP_less 5 kAND (notP_less k)) l.tail h1 (by omega)
      cases hx : serP 6 kOR (serP 5 kAND (notP k)) l.tail with
      | err e l' => rw [hx] at this; exact ⟨this.1, by have := this.2.1; omega, this.2.2⟩
      | ok x l' =>
        rw [hx] at this
        show Less l (if cEnd.test (hd l') then PR.ok x l'.tail else .err 11 l')
        by_cases ht : cEnd.test (hd l') = true
        · rw [if_pos ht]
          obtain ⟨h3, h4⟩ := this.1.tail (by trivial) ht
          exact ⟨h3, by have := this.2; omega⟩
        · rw [if_neg ht]; exact ⟨this.1, by have := this.2; omega, by decide⟩
    · exact testP_less l h h99
theorem orP_less (k : Nat) (l : List Tk) (h : Vd l) (h99 : l.length ≤ 99) : Less l (orP k l) := serP_less 6 kOR (serP_less 5 kAND (notP_less k)) l h h99
theorem andP_less (k : Nat) (l : List Tk) (h : Vd l) (h99 : l.length ≤ 99) : Less l (serP 5 kAND (notP k) l) := serP_less 5 kAND (notP_less k) l h h99
end Go.Proofs.YtjgdkiikkgdbaaaGreatDoor
/- Trees, operands, classes of tokens and the parser's tokens, in memory; what the classes tell. -/
namespace Go.Proofs.YtjgdkiikkgdbaaaGreatDoor
open Go.RowKit
set_option linter.unusedVariables false
abbrev opdC (o : Opd) : List Value := [.int .i64 o.kind, .string o.text, .bool o.neg, .int .u64 o.num]
abbrev xtC (T : XT) : List Value := [.int .i64 T.op, .int .i64 T.rel, .slice T.aa T.an T.ac, .slice T.ka T.kn T.kc]
/-- these cells lie at a place -/
def LiesAt (w : World) (b off : Nat) (cs : List Value) : Prop := ∀ r u, cs[r]? = some u → w.cell? ⟨b, off + r, none⟩ = some u
theorem cell_same {w w' : World} {a : Addr} (h : w'.heap[a.block]? = w.heap[a.block]?) : w'.cell? a = w.cell? a := by
  unfold World.cell?
  rw [h]
theorem LiesAt.held {w w' : World} {b off : Nat} {cs : List Value} (h : LiesAt w b off cs) (hb : w'.heap[b]? = w.heap[b]?) : LiesAt w' b off cs :=
  fun r u hu => (cell_same (a := ⟨b, off + r, none⟩) hb).trans (h r u hu)
def CellsAt (w : World) (S : Nat → Prop) (ao : Option Addr) (i : Nat) (cs : List Value) : Prop :=
  ∃ b off, ao = some ⟨b, off, none⟩ ∧ S b ∧ b < w.heap.size ∧ LiesAt w b (off + i * 4) cs
def XWf (T : XT) : Prop := T.an ≤ 3518437208780 ∧ T.kn ≤ 2513169434843
/-- all that lies within a tree lies in blocks of which S speaks -/
def XAt (w : World) (S : Nat → Prop) : XT → Prop
  | .nil => True
  | .node o r a n c g b m d f => XWf (.node o r a n c g b m d f) ∧ (∀ i, i < n → CellsAt w S a i (opdC (g i))) ∧ ∀ i, i < m → CellsAt w S b i (xtC (f i)) ∧ XAt w S (f i)
theorem xwf_nil : XWf .nil := ⟨Nat.zero_le _, Nat.zero_le _⟩
theorem xat_iff {w : World} {S : Nat → Prop} (T : XT) : XAt w S T ↔ XWf T ∧ (∀ i, i < T.an → CellsAt w S T.aa i (opdC (T.arg i))) ∧ ∀ i, i < T.kn → CellsAt w S T.ka i (xtC (T.kid i)) ∧ XAt w S (T.kid i) := by
  cases T with
  | nil => exact ⟨fun _ => ⟨xwf_nil, fun i hi => absurd hi (Nat.not_lt_zero i), fun i hi => absurd hi (Nat.not_lt_zero i)⟩, fun _ => trivial⟩
  | node => exact Iff.rfl
theorem CellsAt.held {w w' : World} {S S' : Nat → Prop} {ao : Option Addr} {i : Nat} {cs : List Value} (h : CellsAt w S ao i cs) (hS : ∀ b, S b → b < w.heap.size → S' b) (hn : w.heap.size ≤ w'.heap.size) (hw : ∀ b, S b → b < w.heap.size → w'.heap[b]? = w.heap[b]?) : CellsAt w' S' ao i cs := by
  obtain ⟨b, off, e, hs, hl, h0⟩ := h
  exact ⟨b, off, e, hS b hs hl, by omega, h0.held (hw b hs hl)⟩
theorem XAt.held_of {w w' : World} {S S' : Nat → Prop} (hS : ∀ b, S b → b < w.heap.size → S' b) (hn : w.heap.size ≤ w'.heap.size) (hw : ∀ b, S b → b < w.heap.size → w'.heap[b]? = w.heap[b]?) : ∀ T : XT, XAt w S T → XAt w' S' T := by
  refine XT.ind fun T ih h => ?_
  obtain ⟨h1, h2, h3⟩ := (xat_iff T).1 h
  exact (xat_iff T).2 ⟨h1, fun i hi => (h2 i hi).held hS hn hw, fun i hi => ⟨(h3 i hi).1.held hS hn hw, ih i hi (h3 i hi).2⟩⟩
theorem XAt.next {w w' : World} {S : Nat → Prop} {T : XT} (h : XAt w S T) (hb : Below w.heap.size w w') : XAt w' S T :=
  XAt.held_of (fun _ s _ => s) hb.size (fun b _ hl => hb.block b hl) T h
theorem CellsAt.next {w w' : World} {S : Nat → Prop} {ao : Option Addr} {i : Nat} {cs : List Value} (h : CellsAt w S ao i cs) (hb : Below w.heap.size w w') : CellsAt w' S ao i cs :=
  h.held (fun _ s _ => s) hb.size (fun b _ hl => hb.block b hl)
theorem XAt.only {w w' : World} {S K : Nat → Prop} {T : XT} (h : XAt w S T) (ho : Only K w w') (hK : ∀ b, S b → b < w.heap.size → ¬ K b) : XAt w' S T :=
  XAt.held_of (fun _ s _ => s) ho.size (fun b s hl => ho.block b hl (hK b s hl)) T h
theorem CellsAt.only {w w' : World} {S K : Nat → Prop} {ao : Option Addr} {i : Nat} {cs : List Value} (h : CellsAt w S ao i cs) (ho : Only K w w') (hK : ∀ b, S b → b < w.heap.size → ¬ K b) : CellsAt w' S ao i cs :=
  h.held (fun _ s _ => s) ho.size (fun b s hl => ho.block b hl (hK b s hl))
theorem XAt.sub {w : World} {S S' : Nat → Prop} {T : XT} (h : XAt w S T) (hS : ∀ b, S b → b < w.heap.size → S' b) : XAt w S' T :=
  XAt.held_of hS (Nat.le_refl _) (fun _ _ _ => rfl) T h
theorem xt_an {w : World} {S : Nat → Prop} {T : XT} (h : XAt w S T) : T.an ≤ 3518437208780 := ((xat_iff T).1 h).1.1
theorem xt_kn {w : World} {S : Nat → Prop} {T : XT} (h : XAt w S T) : T.kn ≤ 2513169434843 := ((xat_iff T).1 h).1.2
/-- a token by value -/
abbrev tkA (t : Tk) : Value := .agg #[.int .i64 (t.k : Nat), .string (bs t.t), .int .u64 (t.n : Nat), .int .i64 (t.a : Nat)]
abbrev tkCs (t : Tk) : List Value := [.int .i64 (t.k : Nat), .string (bs t.t), .int .u64 (t.n : Nat), .int .i64 (t.a : Nat)]
def TksAt (w : World) (tb off : Nat) (l : List Tk) : Prop := ∀ i, i < l.length → LiesAt w tb (off + i * 4) (tkCs (l.getD i tk0))
theorem TksAt.held {w w' : World} {tb off : Nat} {l : List Tk} (h : TksAt w tb off l) (hb : w'.heap[tb]? = w.heap[tb]?) : TksAt w' tb off l := fun i hi => (h i hi).held hb
theorem TksAt.tail {w : World} {tb off : Nat} {l : List Tk} (h : TksAt w tb off l) : TksAt w tb (off + 4) l.tail := by
  intro i hi
  cases l with
  | nil => simp at hi
  | cons c r =>
    have := h (i + 1) (by simpa using hi)
    rw [show off + (i + 1) * 4 = off + 4 + i * 4 by omega] at this
    exact this
theorem TksAt.head {w : World} {tb off : Nat} {l : List Tk} (h : TksAt w tb off l) (hl : 0 < l.length) : LiesAt w tb off (tkCs (hd l)) := by
  have := h 0 hl
  rw [Nat.zero_mul, Nat.add_zero] at this
  cases l with
  | nil => simp at hl
  | cons c r => exact this
/-- the tokens that a parser has left -/
structure PAt (w : World) (bp tb : Nat) (l : List Tk) : Prop where
  ne : tb ≠ bp
  lt : tb < w.heap.size
  box : ∃ off cap, w.heap[bp]? = some (.cells #[.slice (some ⟨tb, off, none⟩) l.length cap] 59) ∧ l.length ≤ cap ∧ TksAt w tb off l
theorem PAt.only {w w' : World} {bp tb : Nat} {l : List Tk} {K : Nat → Prop} (h : PAt w bp tb l) (ho : Only K w w') (h1 : ¬ K bp) (h2 : ¬ K tb) : PAt w' bp tb l := by
  obtain ⟨hne, hlt, off, cap, hb, hc, ht⟩ := h
  exact ⟨hne, by have := ho.size; omega, off, cap, ho.same hb h1, hc, ht.held (ho.block tb hlt h2)⟩
theorem PAt.next {w w' : World} {bp tb : Nat} {l : List Tk} (h : PAt w bp tb l) (hb : Below w.heap.size w w') : PAt w' bp tb l :=
  h.only (Only.of_below (S := fun _ => False) hb) (fun f => f) (fun f => f)
theorem PAt.blt {w : World} {bp tb : Nat} {l : List Tk} (h : PAt w bp tb l) : bp < w.heap.size := by
  obtain ⟨_, _, off, cap, hb, _⟩ := h
  exact lt_of_block hb
/-- a class, as a function value -/
def ClAt (w : World) : Cl → Value → Prop
  | .kd n, v => ∃ b, v = .func (.func 51) #[] #[.pointer (some ⟨b, 0, none⟩)] ∧ w.heap[b]? = some (.cells #[.int .i64 (n : Nat)] 3)
  | .wd s, v => ∃ b, v = .func (.func 107) #[] #[.pointer (some ⟨b, 0, none⟩)] ∧ w.heap[b]? = some (.cells #[.string (bs s)] 9)
  | .sg s, v => ∃ b, v = .func (.func 108) #[] #[.pointer (some ⟨b, 0, none⟩)] ∧ w.heap[b]? = some (.cells #[.string (bs s)] 9)
  | .nm, v => v = .func (.func 149) #[] #[]
  | .rl, v => v = .func (.func 113) #[] #[]
theorem ClAt.only {w w' : World} {c : Cl} {v : Value} {p : Nat} (h : ClAt w c v) (ho : Only (fun k => k = p) w w') (hp : ∀ o, w.heap[p]? = some o → ∃ cs t, o = .cells cs t ∧ t ≠ 3 ∧ t ≠ 9 ∧ t ≠ 64) : ClAt w' c v := by
  have key : ∀ {b : Nat} {cs : Array Value} {t : TypeId}, t = 3 ∨ t = 9 → w.heap[b]? = some (.cells cs t) → w'.heap[b]? = some (.cells cs t) := by
    intro b cs t ht hb
    refine ho.same hb (fun e => ?_)
    subst e
    obtain ⟨cs', t', e2, n1, n2, _⟩ := hp _ hb
    injection e2 with _ e3 _
    rcases ht with rfl | rfl
    · exact n1 e3.symm
    · exact n2 e3.symm
  cases c with
  | kd n => obtain ⟨b, e, hb⟩ := h; exact ⟨b, e, key (.inl rfl) hb⟩
  | wd s => obtain ⟨b, e, hb⟩ := h; exact ⟨b, e, key (.inr rfl) hb⟩
  | sg s => obtain ⟨b, e, hb⟩ := h; exact ⟨b, e, key (.inr rfl) hb⟩
  | nm => exact h
  | rl => exact h
theorem PAt.kind {w : World} {bp tb : Nat} {l : List Tk} (h : PAt w bp tb l) : ∀ o, w.heap[bp]? = some o → ∃ cs t, o = .cells cs t ∧ t ≠ 3 ∧ t ≠ 9 ∧ t ≠ 64 := by
  obtain ⟨_, _, off, cap, hb, _⟩ := h
  intro o ho
  rw [hb] at ho
  exact ⟨_, _, (Option.some.inj ho).symm, by decide, by decide, by decide⟩
theorem ClAt.next {w w' : World} {c : Cl} {v : Value} (h : ClAt w c v) (hb : Below w.heap.size w w') : ClAt w' c v := by
  cases c with
  | kd n => obtain ⟨b, e, h⟩ := h; exact ⟨b, e, rowKeep hb h⟩
  | wd s => obtain ⟨b, e, h⟩ := h; exact ⟨b, e, rowKeep hb h⟩
  | sg s => obtain ⟨b, e, h⟩ := h; exact ⟨b, e, rowKeep hb h⟩
  | nm => exact h
  | rl => exact h
end Go.Proofs.YtjgdkiikkgdbaaaGreatDoor
namespace Go.Proofs.YtjgdkiikkgdbaaaGreatDoor
open Go.RowKit
set_option linter.unusedVariables false
def Enters (g : Nat) : Prop := ∀ args w, (callFunc g args).run Tryz.prog w = .ok (.enter g args) w
theorem ret_b15 {a b : Bool} (h : a = b) : Ending.returned (.bool a) = .returned (.bool b) := by rw [h]
theorem bs_eq (a b : List UInt8) : ((bs a).toList == (bs b).toList) = (a == b) := by rw [ByteArray.toList_eq, ByteArray.toList_eq]; simp [bs]
theorem bs_list (a : List UInt8) (b : List UInt8) : ((bs a).toList == b) = (a == b) := by rw [ByteArray.toList_eq]; simp [bs]
theorem kind1_any (t : Tk) (n b : Nat) (w : World) (hb : w.heap[b]? = some (.cells #[.int .i64 (n : Nat)] 3)) :
    Calls Tryz.prog 51 #[tkA t, .pointer (some ⟨b, 0, none⟩)] w fun e w' => e = .returned (.bool ((Cl.kd n).test t)) ∧ Below w.heap.size w w' := by
  have c0 : w.cell? ⟨b, 0, none⟩ = some (.int .i64 (n : Nat)) := cell_at hb rfl
  have hlt : b < w.heap.size := lt_of_block hb
  have hne : ¬ b = w.heap.size := by omega
  have he : (((t.k : Nat) : Int) == ((n : Nat) : Int)) = (Cl.kd n).test t := by
    show _ = (t.k == n)
    rw [Bool.eq_iff_iff]; simp; omega
  obtain ⟨q, hq⟩ : ∃ q, (Cl.kd n).test t = q := ⟨_, rfl⟩
  rw [hq] at he ⊢
  clear hq hb
  go_enter Tryz.func51, Tryz.ntmps51
  go_wp2
  go_ret
  exact ⟨ret_b15 (by first | rfl | exact he | simp [*]), (Below.refl _ _).alloc (Nat.le_refl _) _⟩
theorem word1_any (t : Tk) (s : List UInt8) (b : Nat) (w : World) (hb : w.heap[b]? = some (.cells #[.string (bs s)] 9)) :
    Calls Tryz.prog 107 #[tkA t, .pointer (some ⟨b, 0, none⟩)] w fun e w' => e = .returned (.bool ((Cl.wd s).test t)) ∧ Below w.heap.size w w' := by
  have c0 : w.cell? ⟨b, 0, none⟩ = some (.string (bs s)) := cell_at hb rfl
  have hlt : b < w.heap.size := lt_of_block hb
  have hne : ¬ b = w.heap.size := by omega
  have he := bs_eq t.t s
  have hk : (((t.k : Nat) : Int) == 1) = (t.k == 1) := by rw [Bool.eq_iff_iff]; simp; omega
  have hT : (Cl.wd s).test t = (t.k == 1 && t.t == s) := rfl
  rw [hT]
  obtain ⟨p, hp⟩ : ∃ p, (t.k == 1) = p := ⟨_, rfl⟩
  obtain ⟨q, hq⟩ : ∃ q, (t.t == s) = q := ⟨_, rfl⟩
  rw [hp] at hk ⊢
  rw [hq] at he ⊢
  clear hp hq hT hb
  cases p
  all_goals
    go_enter Tryz.func107, Tryz.ntmps107
    go_wp2
    go_ret
    exact ⟨ret_b15 (by first | rfl | exact he | simp [*]), (Below.refl _ _).alloc (Nat.le_refl _) _⟩
theorem sign1_any (t : Tk) (s : List UInt8) (b : Nat) (w : World) (hb : w.heap[b]? = some (.cells #[.string (bs s)] 9)) :
    Calls Tryz.prog 108 #[tkA t, .pointer (some ⟨b, 0, none⟩)] w fun e w' => e = .returned (.bool ((Cl.sg s).test t)) ∧ Below w.heap.size w w' := by
  have c0 : w.cell? ⟨b, 0, none⟩ = some (.string (bs s)) := cell_at hb rfl
  have hlt : b < w.heap.size := lt_of_block hb
  have hne : ¬ b = w.heap.size := by omega
  have he := bs_eq t.t s
  have hk : (((t.k : Nat) : Int) == 5) = (t.k == 5) := by rw [Bool.eq_iff_iff]; simp; omega
  have hT : (Cl.sg s).test t = (t.k == 5 && t.t == s) := rfl
  rw [hT]
  obtain ⟨p, hp⟩ : ∃ p, (t.k == 5) = p := ⟨_, rfl⟩
  obtain ⟨q, hq⟩ : ∃ q, (t.t == s) = q := ⟨_, rfl⟩
  rw [hp] at hk ⊢
  rw [hq] at he ⊢
  clear hp hq hT hb
  cases p
  all_goals
    go_enter Tryz.func108, Tryz.ntmps108
    go_wp2
    go_ret
    exact ⟨ret_b15 (by first | rfl | exact he | simp [*]), (Below.refl _ _).alloc (Nat.le_refl _) _⟩
end Go.Proofs.YtjgdkiikkgdbaaaGreatDoor
