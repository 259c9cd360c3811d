/- Chapter 18 in plain Lean: what an operand is, why two do not go together, why a tree does not fit, the datum of an operand. No run of the program. -/
import Derived.Test.YtcojomkpogikiaaGreatDoorA27
import Derived.Test.YtcojomkpogikiaaGreatDoorA33
namespace Go.Proofs.YtcojomkpogikiaaGreatDoor
open Go Go.RowKit
set_option linter.unusedVariables false
/-- of a type's kind: what a value of it is, and the error -/
def kindW (k : Int) (u : Nat) : Int × Int := if k = 9 then (4 + (u : Int), 0) else if k = 1 then (3, 0) else if k = 10 then (2, 0) else if numK k then (1, 0) else (0, 8)
def findW (L : Nat → Pa.TypeV) (R : Pa.FindR) : Int × Int := if R.err ≠ 0 then (0, R.err) else kindW (L R.at').kind R.at'
/-- what an operand is -/
def whatA (L : Nat → Pa.TypeV) (len : Nat) (t : Int) (o : Opd) : Int × Int :=
  if o.kind = 2 then (1, 0) else if o.kind = 3 then (2, 0) else if o.kind = 4 then (3, 0) else if o.kind = 5 then (0, 18)
  else if o.kind = 1 then findW L (Pa.findA L len t o.text) else (0, 1)
/-- a value of a TEnum, and another operand -/
def enumA (L : Nat → Pa.TypeV) (len : Nat) (u : Int) (o : Opd) : Int := if o.kind ≠ 3 then 8 else if Pa.itemL L len u o.text < 0 then 5 else 0
def pairW (L : Nat → Pa.TypeV) (len : Nat) (x y : Int) (a b : Opd) (rel : Int) : Int :=
  if x < 4 ∧ 4 ≤ y then enumA L len (y - 4) a else if 4 ≤ x ∧ y < 4 then enumA L len (x - 4) b else if x ≠ y then 8 else if x = 3 ∧ 2 < rel then 4 else 0
/-- why two operands do not go together -/
def pairA (L : Nat → Pa.TypeV) (len : Nat) (t : Int) (a b : Opd) (rel : Int) : Int := pairW L len (whatA L len t a).1 (whatA L len t b).1 a b rel
/-- the first error of several -/
def argE (L : Nat → Pa.TypeV) (len : Nat) (t : Int) (f : Nat → Opd) (n : Nat) : Int := Pa.firstE (fun i => (whatA L len t (f i)).2) n
/-- as many operands and parts as its Op asks, and a Rel -/
def badF (op rel : Int) (an kn : Nat) : Bool :=
  if op = 1 then !(decide (an = 2) && decide (kn = 0) && decide (1 ≤ rel) && decide (rel ≤ 6)) else if op = 2 then !(decide (an = 3) && decide (kn = 0)) else if op = 3 then !(decide (an = 2) && decide (kn = 0))
  else if op = 4 then !(decide (an = 0) && decide (kn = 1)) else if op = 5 ∨ op = 6 then !(decide (an = 0) && decide (2 ≤ kn)) else true
/-- do the operands go together? -/
def goE (L : Nat → Pa.TypeV) (len : Nat) (t : Int) (op rel : Int) (f : Nat → Opd) : Int :=
  if op = 1 then pairA L len t (f 0) (f 1) rel
  else if op = 2 then (if pairA L len t (f 0) (f 1) 4 ≠ 0 then pairA L len t (f 0) (f 1) 4 else pairA L len t (f 0) (f 2) 4)
  else if op = 3 then (if (whatA L len t (f 0)).1 ≠ 2 ∨ (whatA L len t (f 1)).1 ≠ 2 then 8 else 0) else 0
/-- a tree's own errors -/
def ownE (L : Nat → Pa.TypeV) (len : Nat) (t : Int) (T : XT) : Int :=
  if argE L len t T.arg T.an ≠ 0 then argE L len t T.arg T.an else if badF T.op T.rel T.an T.kn then 1 else goE L len t T.op T.rel T.arg
/-- why a tree does not fit -/
def treeE (L : Nat → Pa.TypeV) (len : Nat) (t : Int) : XT → Int
  | .nil => 1
  | .node o r a n c g b m d f => if ownE L len t (.node o r a n c g b m d f) ≠ 0 then ownE L len t (.node o r a n c g b m d f) else Pa.firstE (fun i => treeE L len t (f i)) m
theorem treeE_eq (L : Nat → Pa.TypeV) (len : Nat) (t : Int) (T : XT) : treeE L len t T = if ownE L len t T ≠ 0 then ownE L len t T else Pa.firstE (fun i => treeE L len t (T.kid i)) T.kn := by
  cases T with
  | nil => rfl
  | node => rfl
def checkE (L : Nat → Pa.TypeV) (len : Nat) (t : Int) (T : XT) : Int := if Pa.fErr (Pa.oneR L len) len ≠ 0 ∨ t < 0 ∨ (len : Int) ≤ t then 8 else treeE L len t T
/-- the datum of an operand that is no path -/
def datW (L : Nat → Pa.TypeV) (len : Nat) (w : Int) (o : Opd) : DatV :=
  if 4 ≤ w ∧ 0 ≤ Pa.itemL L len (w - 4) o.text then datK 9 ((L (w - 4).toNat).items (Pa.itemL L len (w - 4) o.text).toNat).num else ⟨2, false, 0, o.text⟩
def datE (L : Nat → Pa.TypeV) (len : Nat) (t : Int) (o other : Opd) : DatV :=
  if o.kind = 2 then ⟨1, o.neg && o.num != 0, o.num, ⟨#[]⟩⟩ else if o.kind = 4 then ⟨3, false, o.num, ⟨#[]⟩⟩
  else if o.kind = 3 then datW L len (if other.kind = 1 then (whatA L len t other).1 else 0) o else noDat
/-- where Find ends there is a type -/
theorem findG_lt {L : Nat → Pa.TypeV} {len : Nat} (hv : ∀ i, i < len → Pa.OkT L i) : ∀ (l : List (Pa.PieceV × Bool)) (u : Nat) (st : List Pa.StepV), u < len → (Pa.findG L len l u st).err = 0 → (Pa.findG L len l u st).at' < len
  | [], u, st, hu, _ => hu
  | x :: r, u, st, hu, h => by
    rw [Pa.findG] at h ⊢
    by_cases hp : Pa.pstE L len u x.1 = 0
    · rw [if_pos hp] at h ⊢
      exact findG_lt hv r _ _ (Pa.next_part hv hu).2 h
    · rw [if_neg hp] at h
      exact absurd h hp
theorem findA_lt {L : Nat → Pa.TypeV} {len : Nat} {t : Int} {s : ByteArray} (h : (Pa.findA L len t s).err = 0) : (Pa.findA L len t s).at' < len := by
  unfold Pa.findA at h ⊢
  cases hT : Pa.hasT L len t with
  | false => rw [hT, if_neg (by decide)] at h; cases h
  | true =>
    obtain ⟨k, rfl, hk, hok⟩ := Pa.hasT_in hT
    rw [hT, if_pos rfl] at h
    rw [if_pos rfl]
    by_cases hF : Pa.formS s = true
    · rw [if_pos hF] at h ⊢
      exact findG_lt (Pa.ok_all hok) _ _ _ (by simpa using hk) h
    · rw [if_neg hF] at h; cases h
theorem kindW_in (k : Int) (u : Nat) : 0 ≤ (kindW k u).1 ∧ (kindW k u).1 ≤ 4 + u ∧ (4 ≤ (kindW k u).1 → (kindW k u).1 = 4 + u) := by
  unfold kindW
  by_cases h9 : k = 9
  · rw [if_pos h9]; exact ⟨by show (0 : Int) ≤ 4 + u; omega, Int.le_refl _, fun _ => rfl⟩
  · rw [if_neg h9]
    by_cases h1 : k = 1
    · rw [if_pos h1]; simp only; omega
    · rw [if_neg h1]
      by_cases h10 : k = 10
      · rw [if_pos h10]; simp only; omega
      · rw [if_neg h10]
        cases numK k <;> simp <;> omega
/-- a value of a TEnum: of one that there is -/
theorem what_in (L : Nat → Pa.TypeV) (len : Nat) (t : Int) (o : Opd) : 0 ≤ (whatA L len t o).1 ∧ (4 ≤ (whatA L len t o).1 → (whatA L len t o).1 - 4 < (len : Int)) := by
  unfold whatA
  by_cases h2 : o.kind = 2
  · rw [if_pos h2]; simp only; omega
  · rw [if_neg h2]
    by_cases h3 : o.kind = 3
    · rw [if_pos h3]; simp only; omega
    · rw [if_neg h3]
      by_cases h4 : o.kind = 4
      · rw [if_pos h4]; simp only; omega
      · rw [if_neg h4]
        by_cases h5 : o.kind = 5
        · rw [if_pos h5]; simp only; omega
        · rw [if_neg h5]
          by_cases h1 : o.kind = 1
          · rw [if_pos h1]
            unfold findW
            by_cases he : (Pa.findA L len t o.text).err ≠ 0
            · rw [if_pos he]; simp only; omega
            · rw [if_neg he]
              have hl := findA_lt (Decidable.not_not.1 he)
              have hk := kindW_in (L (Pa.findA L len t o.text).at').kind (Pa.findA L len t o.text).at'
              exact ⟨hk.1, fun h => by have := hk.2.2 h; omega⟩
          · rw [if_neg h1]; simp only; omega
theorem firstE_all18 {e : Nat → Int} {n : Nat} (h : Pa.firstE e n = 0) : ∀ j, j < n → e j = 0 := by
  intro j
  induction j using Nat.strongRecOn with
  | _ j ih =>
    intro hj
    by_cases h0 : e j = 0
    · exact h0
    · have h1 := Pa.firstE_at (e := e) (fun i hi => by simp [ih i hi (by omega)]) hj (by simpa using h0)
      rw [h1] at h
      exact h
theorem firstE_next {e : Nat → Int} {n : Nat} (h : Pa.firstE e n = 0) (h0 : e n = 0) : Pa.firstE e (n + 1) = 0 := by
  refine Pa.firstE_none fun i hi => ?_
  rw [bne_eq_false_iff_eq]
  rcases Nat.lt_succ_iff_lt_or_eq.1 hi with hlt | rfl
  · exact firstE_all18 h i hlt
  · exact h0
end Go.Proofs.YtcojomkpogikiaaGreatDoor
/- Chapter 18: the nodes of a tree, each ahead of its parts; the first error among them. An iterator's contract, at whatever depth. -/
namespace Go.Proofs.YtcojomkpogikiaaGreatDoor
open Go.RowKit
set_option linter.unusedVariables false
/-- where the part i lies -/
def kidP (ao : Option Addr) (i : Nat) : Addr := match ao with | some a => ⟨a.block, a.off + i * 4, none⟩ | none => ⟨0, 0, none⟩
/-- the nodes, with the places where they lie -/
def nodesX : Addr → XT → List (Addr × XT)
  | p, .nil => [(p, .nil)]
  | p, .node o r a n c g b m d f => (p, .node o r a n c g b m d f) :: (List.range m).flatMap (fun i => nodesX (kidP b i) (f i))
theorem nodesX_eq (p : Addr) (T : XT) : nodesX p T = (p, T) :: (List.range T.kn).flatMap (fun i => nodesX (kidP T.ka i) (T.kid i)) := by
  cases T with
  | nil => rfl
  | node => rfl
def firstL : List Int → Int
  | [] => 0
  | e :: l => if e ≠ 0 then e else firstL l
theorem firstL_append : ∀ l r : List Int, firstL (l ++ r) = if firstL l ≠ 0 then firstL l else firstL r
  | [], r => by simp [firstL]
  | e :: l, r => by
    rw [List.cons_append, firstL, firstL]
    by_cases h : e ≠ 0
    · rw [if_pos h, if_pos h, if_pos h]
    · rw [if_neg h, if_neg h]; exact firstL_append l r
theorem firstL_none : ∀ l : List Int, (∀ e, e ∈ l → e = 0) → firstL l = 0
  | [], _ => rfl
  | e :: l, h => by
    rw [firstL, if_neg (by rw [Decidable.not_not]; exact h e (List.mem_cons_self ..))]
    exact firstL_none l (fun x hx => h x (List.mem_cons_of_mem _ hx))
theorem firstL_at {pre r : List Int} {e : Int} (h : ∀ x, x ∈ pre → x = 0) (he : e ≠ 0) : firstL (pre ++ e :: r) = e := by
  rw [firstL_append, firstL_none pre h, if_neg (fun h => h rfl), firstL, if_pos he]
theorem firstE_ex {e : Nat → Int} {n : Nat} (h : Pa.firstE e n ≠ 0) : ∃ k, k < n ∧ (∀ i, i < k → e i = 0) ∧ e k ≠ 0 := by
  refine Classical.byContradiction fun hn => h (Pa.firstE_none fun i hi => ?_)
  rw [bne_eq_false_iff_eq]
  induction i using Nat.strongRecOn with
  | _ i ih => exact Classical.byContradiction fun h0 => hn ⟨i, hi, fun j hj => ih j hj (by omega), h0⟩
theorem firstE_succ (e : Nat → Int) (n : Nat) : Pa.firstE e (n + 1) = if Pa.firstE e n ≠ 0 then Pa.firstE e n else e n := by
  by_cases h : Pa.firstE e n ≠ 0
  · rw [if_pos h]
    obtain ⟨k, hk, h1, h2⟩ := firstE_ex h
    rw [Pa.firstE_at (fun i hi => by simp [h1 i hi]) hk (by simpa using h2), Pa.firstE_at (k := k) (n := n + 1) (fun i hi => by simp [h1 i hi]) (by omega) (by simpa using h2)]
  · rw [if_neg h]
    have h := Decidable.not_not.1 h
    by_cases h0 : e n = 0
    · rw [h0]; exact firstE_next h h0
    · exact Pa.firstE_at (fun i hi => by simp [firstE_all18 h i hi]) (Nat.lt_succ_self n) (by simpa using h0)
theorem firstE_zero (e : Nat → Int) : Pa.firstE e 0 = 0 := Pa.firstE_none (fun i hi => absurd hi (Nat.not_lt_zero i))
theorem firstL_flat (F : Nat → List Int) : ∀ n, firstL ((List.range n).flatMap F) = Pa.firstE (fun i => firstL (F i)) n
  | 0 => (firstE_zero _).symm
  | n + 1 => by
    rw [List.range_succ, List.flatMap_append, firstL_append, firstL_flat F n, firstE_succ]
    simp
/-- the first error of a tree is the first of its nodes' -/
theorem nodes_first (own g : XT → Int) (hg : ∀ T, g T = if own T ≠ 0 then own T else Pa.firstE (fun i => g (T.kid i)) T.kn) : ∀ (T : XT) (p : Addr), firstL ((nodesX p T).map (fun x => own x.2)) = g T := by
  refine XT.ind fun T ih p => ?_
  rw [nodesX_eq, List.map_cons, List.map_flatMap, firstL, hg T, firstL_flat]
  rw [Pa.firstE_congr (fun i hi => ih i hi (kidP T.ka i))]
theorem nodes_tree (L : Nat → Pa.TypeV) (len : Nat) (t : Int) (T : XT) (p : Addr) : firstL ((nodesX p T).map (fun x => ownE L len t x.2)) = treeE L len t T := nodes_first _ _ (treeE_eq L len t) T p
/-- a node, from among those that there are -/
noncomputable def nodeOf (M : List (Addr × XT)) (r x : Addr × XT) : Addr × XT := by classical exact if x ∈ M then x else r
theorem nodeOf_in {M : List (Addr × XT)} {r : Addr × XT} (hr : r ∈ M) (x : Addr × XT) : nodeOf M r x ∈ M := by
  unfold nodeOf
  split
  · assumption
  · exact hr
theorem nodeOf_eq {M : List (Addr × XT)} {r x : Addr × XT} (hx : x ∈ M) : nodeOf M r x = x := by unfold nodeOf; rw [if_pos hx]
theorem nodeOf_map {M : List (Addr × XT)} {r : Addr × XT} (pre : List (Addr × XT)) (h : ∀ x, x ∈ pre → x ∈ M) : pre.map (nodeOf M r) = pre := by
  rw [List.map_congr_left (fun x hx => nodeOf_eq (h x hx)), List.map_id']
/-- operand i, from among n -/
def opIx (n i : Nat) : Nat := if i < n then i else 0
theorem opIx_lt {n : Nat} (h : 0 < n) (i : Nat) : opIx n i < n := by unfold opIx; split <;> omega
theorem opIx_eq {n i : Nat} (h : i < n) : opIx n i = i := if_pos h
theorem opIx_map {n : Nat} (pre : List Nat) (h : ∀ i, i ∈ pre → i < n) : pre.map (opIx n) = pre := by
  rw [List.map_congr_left (fun x hx => opIx_eq (h x hx)), List.map_id']
/-! ### within no bounds the depth is no matter -/
theorem RoundIn.lev {n : Nat} (m : Nat) {P : Program} {l : Nat} {f : FuncId} {tmps : Array Value} {assign body : Code} {w : World} {R : Ending → World → Prop} (h : RoundIn Fence.wide n P l f tmps assign body w R) : RoundIn Fence.wide m P l f tmps assign body w R := ⟨h.1, fun c cs _ => h.2 c cs (room_wide _)⟩
theorem YieldAt.lev {n : Nat} (m : Nat) {P : Program} {l : Nat} {args : Array Value} {w : World} {R : Ending → World → Prop} (h : YieldAt Fence.wide n P l args w R) : YieldAt Fence.wide m P l args w R := by
  obtain ⟨fn, tmps, assign, body, h1, h2⟩ := h
  exact ⟨fn, tmps, assign, body, h1, RoundIn.lev m h2⟩
theorem CallsIn.lev {n : Nat} (m : Nat) {P : Program} {f : FuncId} {args : Array Value} {w : World} {R : Ending → World → Prop} (h : CallsIn Fence.wide n P f args w R) : CallsIn Fence.wide m P f args w R := callsIn_wide.2 (callsIn_wide.1 h)
theorem SeqStopsK.lev {α : Type} {n : Nat} (m : Nat) {P : Program} {g : Nat} {lb : Array Value} {encs : α → Array Value} {Kp : World → World → Prop} {S Sp : List α → Prop} {N : Nat} {w : World} (h : SeqStopsK Fence.wide n P g lb encs Kp S Sp N w) : SeqStopsK Fence.wide m P g lb encs Kp S Sp N w :=
  fun l J Jx W hW hJ hJx hY h0 => CallsIn.lev m (h l J Jx W hW hJ hJx (fun pre x W1 hj hl => YieldAt.lev _ (hY pre x W1 hj hl)) h0)
/-- what is kept between two rounds: all but the blocks of which S speaks -/
theorem onlyK_t {S : Nat → Prop} {A B C : World} (h : Only S A B) (k : Only S B C) : Only S A C := h.trans k (fun _ _ s => s)
theorem onlyK_b {S : Nat → Prop} {w : World} (hS : ∀ k, w.heap.size ≤ k → S k) (W : World) (l : Nat) (o o' : Obj) (hl : w.heap.size ≤ l) (h : W.heap[l]? = some o) (_ : o.isCells = false) (_ : o.isWalk = false) : Only S W (W.putObj l o') :=
  (Only.refl S W).grown (grownBy_putObj' W l o') (fun k e => by cases e; exact .inl (hS l hl))
end Go.Proofs.YtcojomkpogikiaaGreatDoor
/- Chapter 18: a tree that has just been made: which rows are its own, and that no two of them are one; its nodes in memory. -/
namespace Go.Proofs.YtcojomkpogikiaaGreatDoor
open Go.RowKit
set_option linter.unusedVariables false
/-- a row of things of four cells -/
def RowC (w : World) (g : Nat) (t : TypeId) (f : Nat → List Value) (n : Nat) : Prop :=
  ∃ cur, w.heap[g]? = some (.cells cur t (0, 0)) ∧ ∀ i, i < n → ∀ r u, (f i)[r]? = some u → cur[i * 4 + r]? = some u
theorem RowC.held {w w' : World} {g : Nat} {t : TypeId} {f : Nat → List Value} {n : Nat} (h : RowC w g t f n) (hb : w'.heap[g]? = w.heap[g]?) : RowC w' g t f n := by
  obtain ⟨cur, h1, h2⟩ := h
  exact ⟨cur, hb.trans h1, h2⟩
theorem RowC.lt {w : World} {g : Nat} {t : TypeId} {f : Nat → List Value} {n : Nat} (h : RowC w g t f n) : g < w.heap.size := by
  obtain ⟨cur, h1, _⟩ := h
  exact lt_of_block h1
theorem RowC.cell {w : World} {g : Nat} {t : TypeId} {f : Nat → List Value} {n : Nat} (h : RowC w g t f n) {i r : Nat} {u : Value} (hi : i < n) (hu : (f i)[r]? = some u) : w.cell? ⟨g, i * 4 + r, none⟩ = some u := by
  obtain ⟨cur, h1, h2⟩ := h
  exact cell_at h1 (h2 i hi r u hu)
theorem RowC.free {w : World} {g : Nat} {t : TypeId} {f : Nat → List Value} {n : Nat} (h : RowC w g t f n) (j : Nat) : w.frozen? ⟨g, j, none⟩ = false := by
  obtain ⟨cur, h1, h2⟩ := h
  exact free_at h1
theorem RowC.lies {w : World} {g : Nat} {t : TypeId} {f : Nat → List Value} {n : Nat} (h : RowC w g t f n) {S : Nat → Prop} (hS : S g) {i : Nat} (hi : i < n) : CellsAt w S (some ⟨g, 0, none⟩) i (f i) :=
  ⟨g, 0, rfl, hS, h.lt, fun r u hu => by rw [Nat.zero_add]; exact h.cell hi hu⟩
theorem RowC.congr {w : World} {g : Nat} {t : TypeId} {f f' : Nat → List Value} {n : Nat} (h : RowC w g t f n) (he : ∀ i, i < n → f' i = f i) : RowC w g t f' n := by
  obtain ⟨cur, h1, h2⟩ := h
  exact ⟨cur, h1, fun i hi r u hu => h2 i hi r u (by rw [← he i hi]; exact hu)⟩
/-- four cells into their place -/
abbrev put4c (w : World) (g o : Nat) (a b c d : Value) : World := (((w.setCell ⟨g, o, none⟩ a).setCell ⟨g, o + 1, none⟩ b).setCell ⟨g, o + 2, none⟩ c).setCell ⟨g, o + 3, none⟩ d
theorem put4c_only (w : World) (g o : Nat) (a b c d : Value) : Only (fun k => k = g) w (put4c w g o a b c d) :=
  ((((Only.refl (fun k => k = g) w).setCell (S := fun k => k = g) (p := ⟨g, o, none⟩) (.inl rfl) a).setCell (S := fun k => k = g) (p := ⟨g, o + 1, none⟩) (.inl rfl) b).setCell (S := fun k => k = g) (p := ⟨g, o + 2, none⟩) (.inl rfl) c).setCell (S := fun k => k = g) (p := ⟨g, o + 3, none⟩) (.inl rfl) d
theorem RowC.put {w : World} {g : Nat} {t : TypeId} {f : Nat → List Value} {n j : Nat} (h : RowC w g t f n) (hl : ∀ i, (f i).length = 4) (hj : j < n) (a b c d : Value) : RowC (put4c w g (j * 4) a b c d) g t (fun i => if i = j then [a, b, c, d] else f i) n := by
  obtain ⟨cur, h1, h2⟩ := h
  have hlen : j * 4 + 3 < cur.size := by
    have h3 : (f j)[3]? = some ((f j)[3]'(by rw [hl]; decide)) := List.getElem?_eq_getElem _
    exact (Array.getElem?_eq_some_iff.1 (h2 j hj 3 _ h3)).1
  have a1 := set_at (j := j * 4) (u := a) h1
  have a2 := set_at (j := j * 4 + 1) (u := b) a1
  have a3 := set_at (j := j * 4 + 2) (u := c) a2
  have a4 := set_at (j := j * 4 + 3) (u := d) a3
  refine ⟨_, a4, fun i hi r u hu => ?_⟩
  simp only at hu
  by_cases e : i = j
  · subst e
    rw [if_pos rfl] at hu
    have hr : r < 4 := by
      have := (List.getElem?_eq_some_iff.1 hu).1
      simpa using this
    have hq : r = 0 ∨ r = 1 ∨ r = 2 ∨ r = 3 := by omega
    rcases hq with rfl | rfl | rfl | rfl
    · simp at hu; subst hu; simp [Array.getElem?_setIfInBounds]; omega
    · simp at hu; subst hu; simp [Array.getElem?_setIfInBounds]; omega
    · simp at hu; subst hu; simp [Array.getElem?_setIfInBounds]; omega
    · simp at hu; subst hu; simp [Array.getElem?_setIfInBounds]; omega
  · rw [if_neg e] at hu
    have hr : r < 4 := by
      have := (List.getElem?_eq_some_iff.1 hu).1
      rwa [hl] at this
    rw [Array.getElem?_setIfInBounds_ne (by omega), Array.getElem?_setIfInBounds_ne (by omega), Array.getElem?_setIfInBounds_ne (by omega), Array.getElem?_setIfInBounds_ne (by omega)]
    exact h2 i hi r u hu
/-- a tree all of whose rows are its own, from lo to hi, its operands' row first, then that of its parts, then what lies in them, one behind the other -/
def FrX (w : World) : XT → Nat → Nat → Prop
  | .nil, lo, hi => lo ≤ hi
  | .node o r a n ac g b m bc f, lo, hi => XWf (.node o r a n ac g b m bc f) ∧ ∃ (c d : Nat) (q : Nat → Nat), lo ≤ c ∧ c ≤ d ∧ d ≤ q 0 ∧ q m ≤ hi ∧ (∀ i, i < m → q i ≤ q (i + 1)) ∧
    (0 < n → ∃ k, a = some ⟨k, 0, none⟩ ∧ lo ≤ k ∧ k < c ∧ RowC w k 40 (fun i => opdC (g i)) n) ∧ (0 < m → ∃ h, b = some ⟨h, 0, none⟩ ∧ c ≤ h ∧ h < d ∧ RowC w h 26 (fun i => xtC (f i)) m) ∧
    ∀ i, i < m → FrX w (f i) (q i) (q (i + 1))
theorem frx_iff {w : World} (T : XT) {lo hi : Nat} : FrX w T lo hi ↔ XWf T ∧ ∃ (c d : Nat) (q : Nat → Nat), lo ≤ c ∧ c ≤ d ∧ d ≤ q 0 ∧ q T.kn ≤ hi ∧ (∀ i, i < T.kn → q i ≤ q (i + 1)) ∧
    (0 < T.an → ∃ k, T.aa = some ⟨k, 0, none⟩ ∧ lo ≤ k ∧ k < c ∧ RowC w k 40 (fun i => opdC (T.arg i)) T.an) ∧ (0 < T.kn → ∃ h, T.ka = some ⟨h, 0, none⟩ ∧ c ≤ h ∧ h < d ∧ RowC w h 26 (fun i => xtC (T.kid i)) T.kn) ∧
    ∀ i, i < T.kn → FrX w (T.kid i) (q i) (q (i + 1)) := by
  cases T with
  | nil =>
    constructor
    · intro h
      exact ⟨xwf_nil, lo, lo, fun _ => lo, Nat.le_refl _, Nat.le_refl _, Nat.le_refl _, h, fun i hi => absurd hi (Nat.not_lt_zero i), fun h => absurd h (Nat.lt_irrefl 0), fun h => absurd h (Nat.lt_irrefl 0), fun i hi => absurd hi (Nat.not_lt_zero i)⟩
    · rintro ⟨_, c, d, q, h1, h2, h3, h4, _⟩
      show lo ≤ hi
      have h4 : q 0 ≤ hi := h4
      omega
  | node => exact Iff.rfl
theorem q_mono {q : Nat → Nat} {m : Nat} (h : ∀ i, i < m → q i ≤ q (i + 1)) : ∀ j, j ≤ m → ∀ i, i ≤ j → q i ≤ q j
  | 0, _, i, hi => by have : i = 0 := by omega
                      subst this; exact Nat.le_refl _
  | j + 1, hj, i, hi => by
    rcases Nat.lt_or_ge i (j + 1) with h1 | h1
    · exact Nat.le_trans (q_mono h j (by omega) i (by omega)) (h j (by omega))
    · have : i = j + 1 := by omega
      subst this; exact Nat.le_refl _
theorem FrX.wf {w : World} {T : XT} {lo hi : Nat} (h : FrX w T lo hi) : XWf T := ((frx_iff T).1 h).1
theorem FrX.held {w w' : World} : ∀ (T : XT) (lo hi : Nat), FrX w T lo hi → (∀ b, lo ≤ b → b < hi → w'.heap[b]? = w.heap[b]?) → FrX w' T lo hi := by
  refine XT.ind fun T ih lo hi h hb => ?_
  obtain ⟨h0, c, d, q, h1, h2, h3, h4, h5, h6, h7, h8⟩ := (frx_iff T).1 h
  have q0 := q_mono h5 T.kn (Nat.le_refl _) 0 (Nat.zero_le _)
  refine (frx_iff T).2 ⟨h0, c, d, q, h1, h2, h3, h4, h5, fun hn => ?_, fun hn => ?_, fun i hi => ?_⟩
  · obtain ⟨k, e, k1, k2, k3⟩ := h6 hn
    exact ⟨k, e, k1, k2, k3.held (hb k k1 (by omega))⟩
  · obtain ⟨k, e, k1, k2, k3⟩ := h7 hn
    exact ⟨k, e, k1, k2, k3.held (hb k (by omega) (by omega))⟩
  · have a1 := q_mono h5 i (by omega) 0 (Nat.zero_le _)
    have a2 := q_mono h5 T.kn (Nat.le_refl _) (i + 1) (by omega)
    exact ih i hi _ _ (h8 i hi) (fun b b1 b2 => hb b (by omega) (by omega))
theorem FrX.xat {w : World} : ∀ (T : XT) (lo hi : Nat), FrX w T lo hi → XAt w (fun b => lo ≤ b ∧ b < hi) T := by
  refine XT.ind fun T ih lo hi h => ?_
  obtain ⟨h0, c, d, q, h1, h2, h3, h4, h5, h6, h7, h8⟩ := (frx_iff T).1 h
  have q0 := q_mono h5 T.kn (Nat.le_refl _) 0 (Nat.zero_le _)
  refine (xat_iff T).2 ⟨h0, fun i hi => ?_, fun i hi => ⟨?_, ?_⟩⟩
  · obtain ⟨k, e, k1, k2, k3⟩ := h6 (by omega)
    rw [e]
    exact k3.lies ⟨k1, by omega⟩ hi
  · obtain ⟨k, e, k1, k2, k3⟩ := h7 (by omega)
    rw [e]
    exact k3.lies ⟨by omega, by omega⟩ hi
  · have a1 := q_mono h5 i (by omega) 0 (Nat.zero_le _)
    have a2 := q_mono h5 T.kn (Nat.le_refl _) (i + 1) (by omega)
    exact (ih i hi _ _ (h8 i hi)).sub (fun b hb _ => ⟨by omega, by omega⟩)
/-- of each node: where its rows lie -/
theorem FrX.rows {w : World} : ∀ (T : XT) (p : Addr) (lo hi : Nat), FrX w T lo hi → ∀ y, y ∈ nodesX p T → XWf y.2 ∧ (0 < y.2.an → ∃ k, y.2.aa = some ⟨k, 0, none⟩ ∧ lo ≤ k ∧ k < hi ∧ RowC w k 40 (fun i => opdC (y.2.arg i)) y.2.an) ∧
    (0 < y.2.kn → ∃ k, y.2.ka = some ⟨k, 0, none⟩ ∧ lo ≤ k ∧ k < hi ∧ RowC w k 26 (fun i => xtC (y.2.kid i)) y.2.kn) := by
  refine XT.ind fun T ih p lo hi h y hy => ?_
  obtain ⟨h0, c, d, q, h1, h2, h3, h4, h5, h6, h7, h8⟩ := (frx_iff T).1 h
  have q0 := q_mono h5 T.kn (Nat.le_refl _) 0 (Nat.zero_le _)
  rw [nodesX_eq, List.mem_cons] at hy
  rcases hy with rfl | hy
  · refine ⟨h0, fun hn => ?_, fun hn => ?_⟩
    · obtain ⟨k, e, k1, k2, k3⟩ := h6 hn
      exact ⟨k, e, k1, by omega, k3⟩
    · obtain ⟨k, e, k1, k2, k3⟩ := h7 hn
      exact ⟨k, e, by omega, by omega, k3⟩
  · obtain ⟨i, hi, hy⟩ := List.mem_flatMap.1 hy
    have hi := List.mem_range.1 hi
    have a1 := q_mono h5 i (by omega) 0 (Nat.zero_le _)
    have a2 := q_mono h5 T.kn (Nat.le_refl _) (i + 1) (by omega)
    obtain ⟨b0, b1, b2⟩ := ih i hi _ _ _ (h8 i hi) y hy
    refine ⟨b0, fun hn => ?_, fun hn => ?_⟩
    · obtain ⟨k, e, k1, k2, k3⟩ := b1 hn
      exact ⟨k, e, by omega, by omega, k3⟩
    · obtain ⟨k, e, k1, k2, k3⟩ := b2 hn
      exact ⟨k, e, by omega, by omega, k3⟩
/-- no row of operands is a row of parts; no two rows of operands are one -/
theorem FrX.apart {w : World} : ∀ (T : XT) (p : Addr) (lo hi : Nat), FrX w T lo hi → ∀ y z, y ∈ nodesX p T → z ∈ nodesX p T → 0 < y.2.an → ∀ k, y.2.aa = some ⟨k, 0, none⟩ →
    (0 < z.2.kn → z.2.ka ≠ some ⟨k, 0, none⟩) ∧ (y ≠ z → 0 < z.2.an → z.2.aa ≠ some ⟨k, 0, none⟩) := by
  refine XT.ind fun T ih p lo hi h y z hy hz hn k hk => ?_
  obtain ⟨h0, c, d, q, h1, h2, h3, h4, h5, h6, h7, h8⟩ := (frx_iff T).1 h
  rw [nodesX_eq, List.mem_cons] at hy hz
  have inner : ∀ i, i < T.kn → ∀ x, x ∈ nodesX (kidP T.ka i) (T.kid i) → (∀ k, 0 < x.2.an → x.2.aa = some ⟨k, 0, none⟩ → d ≤ k ∧ q i ≤ k ∧ k < q (i + 1)) ∧ ∀ k, 0 < x.2.kn → x.2.ka = some ⟨k, 0, none⟩ → d ≤ k ∧ q i ≤ k ∧ k < q (i + 1) := fun i hi x hx => by
    have a1 := q_mono h5 i (by omega) 0 (Nat.zero_le _)
    obtain ⟨_, b1, b2⟩ := FrX.rows _ _ _ _ (h8 i hi) x hx
    refine ⟨fun k hn e => ?_, fun k hn e => ?_⟩
    · obtain ⟨k', e', k1, k2, _⟩ := b1 hn
      rw [e] at e'; cases e'
      omega
    · obtain ⟨k', e', k1, k2, _⟩ := b2 hn
      rw [e] at e'; cases e'
      omega
  rcases hy with rfl | hy
  · obtain ⟨k', e', k1, k2, _⟩ := h6 hn
    rw [hk] at e'; cases e'
    rcases hz with rfl | hz
    · refine ⟨fun hm e => ?_, fun hne => absurd rfl hne⟩
      obtain ⟨k'', e'', k3, k4, _⟩ := h7 hm
      rw [e] at e''; cases e''
      omega
    · obtain ⟨i, hi, hz⟩ := List.mem_flatMap.1 hz
      have hi := List.mem_range.1 hi
      exact ⟨fun hm e => by have := (inner i hi z hz).2 _ hm e; omega, fun _ hm e => by have := (inner i hi z hz).1 _ hm e; omega⟩
  · obtain ⟨i, hi, hy⟩ := List.mem_flatMap.1 hy
    have hi := List.mem_range.1 hi
    have hyk := (inner i hi y hy).1 k hn hk
    rcases hz with rfl | hz
    · refine ⟨fun hm e => ?_, fun _ hm e => ?_⟩
      · obtain ⟨k'', e'', k3, k4, _⟩ := h7 hm
        rw [e] at e''; cases e''
        omega
      · obtain ⟨k'', e'', k3, k4, _⟩ := h6 hm
        rw [e] at e''; cases e''
        omega
    · obtain ⟨j, hj, hz⟩ := List.mem_flatMap.1 hz
      have hj := List.mem_range.1 hj
      by_cases e : i = j
      · subst e
        exact ih i hi _ _ _ (h8 i hi) y z hy hz hn k hk
      · have hij : q (i + 1) ≤ q j ∨ q (j + 1) ≤ q i := by
          rcases Nat.lt_or_gt_of_ne e with c1 | c1
          · exact .inl (q_mono h5 j (by omega) (i + 1) (by omega))
          · exact .inr (q_mono h5 i (by omega) (j + 1) (by omega))
        exact ⟨fun hm e => by have := (inner j hj z hz).2 _ hm e; omega, fun _ hm e => by have := (inner j hj z hz).1 _ hm e; omega⟩
/-! ### a tree in blocks that stay -/
def NodeC (w : World) (S : Nat → Prop) (p : Addr) (T : XT) : Prop := (∃ b off, p = ⟨b, off, none⟩ ∧ ¬ S b ∧ b < w.heap.size ∧ LiesAt w b off (xtC T)) ∧ XWf T
/-- the nodes of a tree lie in blocks of which S does not speak -/
def KAt (w : World) (S : Nat → Prop) : Addr → XT → Prop
  | p, .nil => NodeC w S p .nil
  | p, .node o r a n ac g b m bc f => NodeC w S p (.node o r a n ac g b m bc f) ∧ ∀ i, i < m → (∃ k off, b = some ⟨k, off, none⟩) ∧ KAt w S (kidP b i) (f i)
theorem kat_iff {w : World} {S : Nat → Prop} {p : Addr} (T : XT) : KAt w S p T ↔ NodeC w S p T ∧ ∀ i, i < T.kn → (∃ k off, T.ka = some ⟨k, off, none⟩) ∧ KAt w S (kidP T.ka i) (T.kid i) := by
  cases T with
  | nil => exact ⟨fun h => ⟨h, fun i hi => absurd hi (Nat.not_lt_zero i)⟩, fun h => h.1⟩
  | node => exact Iff.rfl
theorem NodeC.only {w w' : World} {S : Nat → Prop} {p : Addr} {T : XT} (h : NodeC w S p T) (ho : Only S w w') : NodeC w' S p T := by
  obtain ⟨⟨b, off, e, h1, h2, h3⟩, h4⟩ := h
  exact ⟨⟨b, off, e, h1, Nat.lt_of_lt_of_le h2 ho.size, h3.held (ho.block b h2 h1)⟩, h4⟩
theorem KAt.only {w w' : World} {S : Nat → Prop} (ho : Only S w w') : ∀ (T : XT) (p : Addr), KAt w S p T → KAt w' S p T := by
  refine XT.ind fun T ih p h => ?_
  obtain ⟨h1, h2⟩ := (kat_iff T).1 h
  exact (kat_iff T).2 ⟨h1.only ho, fun i hi => ⟨(h2 i hi).1, ih i hi _ (h2 i hi).2⟩⟩
theorem KAt.of_xat {w : World} {S S0 : Nat → Prop} : ∀ (T : XT) (p : Addr), XAt w S0 T → NodeC w S p T → (∀ y, y ∈ nodesX p T → 0 < y.2.kn → ∀ b off, y.2.ka = some ⟨b, off, none⟩ → S0 b → ¬ S b) → KAt w S p T := by
  refine XT.ind fun T ih p h hn hS => ?_
  obtain ⟨_, _, h3⟩ := (xat_iff T).1 h
  refine (kat_iff T).2 ⟨hn, fun i hi => ?_⟩
  obtain ⟨⟨b, off, e, hs, hl, hc⟩, hx⟩ := h3 i hi
  have hmem : ∀ y, y ∈ nodesX (kidP T.ka i) (T.kid i) → y ∈ nodesX p T := fun y hy => by
    rw [nodesX_eq]
    exact List.mem_cons_of_mem _ (List.mem_flatMap.2 ⟨i, List.mem_range.2 hi, hy⟩)
  have hself : (p, T) ∈ nodesX p T := by rw [nodesX_eq]; exact List.mem_cons_self ..
  refine ⟨⟨b, off, e⟩, ih i hi _ hx ?_ (fun y hy => hS y (hmem y hy))⟩
  rw [e]
  exact ⟨⟨b, off + i * 4, rfl, hS _ hself (by show 0 < T.kn; omega) b off e hs, hl, hc⟩, ((xat_iff _).1 hx).1⟩
/-- each node lies so -/
theorem KAt.node {w : World} {S : Nat → Prop} : ∀ (T : XT) (p : Addr), KAt w S p T → ∀ y, y ∈ nodesX p T → NodeC w S y.1 y.2 := by
  refine XT.ind fun T ih p h y hy => ?_
  obtain ⟨h1, h2⟩ := (kat_iff T).1 h
  rw [nodesX_eq, List.mem_cons] at hy
  rcases hy with rfl | hy
  · exact h1
  · obtain ⟨i, hi, hy⟩ := List.mem_flatMap.1 hy
    have hi := List.mem_range.1 hi
    exact ih i hi _ (h2 i hi).2 y hy
/-- what holds of all trees within holds of each node -/
theorem nodes_all {Q : XT → Prop} (hk : ∀ T, Q T → ∀ i, i < T.kn → Q (T.kid i)) : ∀ (T : XT) (p : Addr), Q T → ∀ y, y ∈ nodesX p T → Q y.2 := by
  refine XT.ind fun T ih p h y hy => ?_
  rw [nodesX_eq, List.mem_cons] at hy
  rcases hy with rfl | hy
  · exact h
  · obtain ⟨i, hi, hy⟩ := List.mem_flatMap.1 hy
    have hi := List.mem_range.1 hi
    exact ih i hi _ (hk T h i hi) y hy
end Go.Proofs.YtcojomkpogikiaaGreatDoor
/- The code of chapter 18: its two iterators: the nodes of a tree, the operands of a node. -/
namespace Go.Proofs.YtcojomkpogikiaaGreatDoor
open Go Go.RowKit Go.Shelf
set_option linter.unusedVariables false
attribute [local go_sem] Oper.semAt_some
theorem flat_at {α : Type} (F : Nat → List α) (n : Nat) : ∀ k, k < n → ∃ R, (List.range n).flatMap F = (List.range k).flatMap F ++ (F k ++ R) := by
  induction n with
  | zero => intro k hk; exact absurd hk (Nat.not_lt_zero k)
  | succ n ih =>
    intro k hk
    rw [List.range_succ, List.flatMap_append, List.flatMap_singleton]
    rcases Nat.lt_succ_iff_lt_or_eq.1 hk with h | rfl
    · obtain ⟨R, hR⟩ := ih k h
      exact ⟨R ++ F n, by rw [hR]; simp⟩
    · exact ⟨[], by simp⟩
theorem flat_succ {α : Type} (F : Nat → List α) (n : Nat) : (List.range (n + 1)).flatMap F = (List.range n).flatMap F ++ F n := by
  rw [List.range_succ, List.flatMap_append, List.flatMap_singleton]
/-- an iterator's round, by what is known of the element -/
abbrev YieldTo (S : Nat → Prop) (l : Nat) (J Jx : List (Addr × XT) → World → Prop) (pre : List (Addr × XT)) (x : Addr × XT) (W1 : World) : Prop :=
  YieldAt Fence.wide 1 Tryz.prog l #[.pointer (some x.1)] W1 fun e W' => (e = .returned (.bool true) ∧ J (pre ++ [x]) W' ∧ Only S W1 W') ∨ (e = .returned (.bool false) ∧ Jx (pre ++ [x]) W')
def VisPost (S : Nat → Prop) (M : List (Addr × XT)) (J Jx : List (Addr × XT) → World → Prop) (A : List (Addr × XT)) (W : World) (e : Ending) (W' : World) : Prop :=
  (e = .returned (.bool true) ∧ J A W' ∧ Only S W W') ∨ (e = .returned (.bool false) ∧ ∃ pre r, M = pre ++ r ∧ Jx pre W')
def VisTo (S : Nat → Prop) (M : List (Addr × XT)) (l : Nat) (J Jx : List (Addr × XT) → World → Prop) (A : List (Addr × XT)) (p : Addr) (T : XT) (W : World) : Prop :=
  CallsIn Fence.wide 2 Tryz.prog 40 #[.pointer (some p), .func (.yield l) #[] #[]] W (VisPost S M J Jx (A ++ nodesX p T) W)
set_option maxRecDepth 100000 in
set_option maxHeartbeats 4000000 in
theorem visit_any (S : Nat → Prop) (M : List (Addr × XT)) (l : Nat) (J Jx : List (Addr × XT) → World → Prop) (hY : ∀ pre x W1, J pre W1 → x ∈ M → pre.length < M.length → YieldTo S l J Jx pre x W1) :
    ∀ (T : XT) (p : Addr) (A B : List (Addr × XT)) (W : World), M = A ++ (nodesX p T ++ B) → KAt W S p T → J A W → VisTo S M l J Jx A p T W := by
  refine XT.ind fun T ih p A B W hM hK hJ => ?_
  obtain ⟨⟨⟨b, off, rfl, hb1, hb2, hl⟩, hwf⟩, hkids⟩ := (kat_iff T).1 hK
  have hn := nodesX_eq ⟨b, off, none⟩ T
  have hself : ((⟨b, off, none⟩ : Addr), T) ∈ M := by
    rw [hM, hn]; simp
  have hlen : A.length < M.length := by rw [hM, hn]; simp
  obtain ⟨fn, tmps, assign, body, hy, hR⟩ := hY A (⟨b, off, none⟩, T) W hJ hself hlen
  have hkn : T.kn ≤ 2513169434843 := hwf.2
  have HIH := Lib.hid (fun k (hk : k < T.kn) (A' B' : List (Addr × XT)) (wx : World) (hM' : M = A' ++ (nodesX (kidP T.ka k) (T.kid k) ++ B')) (hO : Only S W wx) (hj : J A' wx) => ih k hk (kidP T.ka k) A' B' wx hM' (KAt.only hO _ _ (hkids k hk).2) hj)
  have HKA := Lib.hid (fun k (hk : k < T.kn) => (hkids k hk).1)
  have HC := Lib.hid (fun wx (hO : Only S W wx) => (show wx.cell? ⟨b, off + 3, none⟩ = some (.slice T.ka T.kn T.kc) from (hl.held (hO.block b hb2 hb1)) 3 _ rfl))
  have HS1 := Lib.hid (show ((⟨b, off, none⟩ : Addr), T) ∈ M from hself)
  have HM := Lib.hid hM
  have HN := Lib.hid hn
  unfold VisTo
  unfold VisTo at HIH
  have HV := Lib.hid hY
  simp only at hy
  clear ih hK hkids hself hlen hl hwf hM hn hY
  refine callsIn_of_wp Tryz.func40 rfl trivial ?_ rfl
  simp only [Tryz.ntmps40, List.size_toArray, List.length_cons, List.length_nil, Nat.reduceAdd, Nat.reduceSub, Array.replicate_succ, Array.replicate_zero, List.push_toArray, List.append_toArray, List.nil_append, List.cons_append]
  gi_wp2
  refine hR.mono ?_
  rintro e W3 (⟨rfl, hJ3, hk3⟩ | ⟨rfl, hJx3⟩)
  · have c3 := HC.out W3 hk3
    have HK3 := Lib.hid hk3
    have HJ3 := Lib.hid hJ3
    obtain ⟨ka, hka⟩ : ∃ ka, T.ka = ka := ⟨_, rfl⟩
    have HKE := Lib.hid hka
    rw [hka] at c3 HC HKA
    clear hR hk3 hJ3 hka hy
    gi_wp2
    gi_loopw [15] (fun q wr => ∃ k : Nat, q = .int .i64 (k : Nat) ∧ k ≤ T.kn ∧ Hid (J (A ++ ((⟨b, off, none⟩, T) :: (List.range k).flatMap (fun i => nodesX (kidP T.ka i) (T.kid i)))) wr) ∧ Hid (Only S W wr)) (fun q _ => T.kn - (intOf q).toNat)
    case atStart => exact ⟨0, rfl, Nat.zero_le _, Lib.hid (by simpa using HJ3.out), HK3⟩
    case round =>
      clear HK3 HJ3 c3
      obtain ⟨k, rfl, hk, HJS, HO⟩ := hrel
      have c3 := HC.out wr HO.out
      by_cases hlt : k < T.kn
      · obtain ⟨kb, koff, rfl⟩ := HKA.out k hlt
        have hd : decide ((k : Int) < (T.kn : Int)) = true := by simp; omega
        have hki : (k : Int) < (T.kn : Int) := by omega
        have HNX := Lib.hid (show ∃ B', M = (A ++ ((⟨b, off, none⟩, T) :: (List.range k).flatMap (fun i => nodesX (kidP T.ka i) (T.kid i)))) ++ (nodesX (kidP T.ka k) (T.kid k) ++ B') from by
          obtain ⟨R, hR⟩ := flat_at (fun i => nodesX (kidP T.ka i) (T.kid i)) T.kn k hlt
          refine ⟨R ++ B, ?_⟩
          rw [HM.out, HN.out, hR]
          simp)
        obtain ⟨B', hB'⟩ := HNX.out
        have HBB := Lib.hid hB'
        have HE := Lib.hid (show kidP T.ka k = ⟨kb, koff + k * 4, none⟩ from by rw [HKE.out]; rfl)
        have HV1 := Lib.hid (CallsIn.lev 1 (HIH.out k hlt _ B' wr HBB.out HO.out HJS.out))
        rw [HE.out] at HV1
        have hw1 : IntKind.i64.wrap ((k : Int) + 1) = ((k + 1 : Nat) : Int) := by rw [IntWalk.i64_in _ (by omega)]; omega
        clear hB'
        gi_wp2_with (refine ⟨trivial, ?_⟩; gi_at_call 40; refine HV1.out.mono ?_; rintro e w1 (⟨rfl, hJ1, hO1⟩ | ⟨rfl, hx1⟩))
        · go_roundw
          case rel =>
            refine ⟨k + 1, by go_num, by omega, Lib.hid ?_, Lib.hid (HO.out.trans hO1 (fun _ _ s => s))⟩
            rw [flat_succ]
            rw [← HE.out] at hJ1
            simpa using hJ1
          case measure => simp [intOf]; omega
        · refine bodyPost_ret (results_tmp rfl _ _ _) rfl ?_
          exact .inr ⟨rfl, hx1⟩
      · gi_wp2
        refine bodyPost_ret (results_tmp rfl _ _ _) rfl ?_
        obtain rfl : k = T.kn := by omega
        exact .inl ⟨rfl, by rw [HN.out]; exact HJS.out, HO.out⟩
  · gi_wp2
    refine bodyPost_ret (results_tmp rfl _ _ _) rfl ?_
    refine .inr ⟨rfl, A ++ [((⟨b, off, none⟩ : Addr), T)], (List.range T.kn).flatMap (fun i => nodesX (kidP T.ka i) (T.kid i)) ++ B, ?_, hJx3⟩
    rw [HM.out, HN.out]
    simp
theorem expr_any (p : Addr) (w : World) : Calls Tryz.prog 21 #[.pointer (some p)] w fun e w' =>
    e = .returned (.func (.func 39) #[] #[.pointer (some ⟨w.heap.size, 0, none⟩)]) ∧ w' = w.alloc (.cells #[.pointer (some p)] 66) := by
  have hmf' := Pa.hmf
  go_enter Tryz.func21, Tryz.ntmps21
  go_wp2
  go_ret
  exact ⟨rfl, rfl⟩
theorem opds_any (p : Addr) (w : World) : Calls Tryz.prog 26 #[.pointer (some p)] w fun e w' =>
    e = .returned (.func (.func 49) #[] #[.pointer (some ⟨w.heap.size, 0, none⟩)]) ∧ w' = w.alloc (.cells #[.pointer (some p)] 66) := by
  have hmf' := Pa.hmf
  go_enter Tryz.func26, Tryz.ntmps26
  go_wp2
  go_ret
  exact ⟨rfl, rfl⟩
set_option maxRecDepth 100000 in
set_option maxHeartbeats 2000000 in
theorem expr_stops (S : Nat → Prop) (p : Addr) (T : XT) (Bn : Nat) (w : World) (hK : KAt w S p T) (hB : w.cell? ⟨Bn, 0, none⟩ = some (.pointer (some p))) :
    SeqStopsK Fence.wide 2 Tryz.prog 39 #[.pointer (some ⟨Bn, 0, none⟩)] (fun x : Addr × XT => #[.pointer (some (nodeOf (nodesX p T) (p, T) x).1)]) (Only S) (fun xs => xs = nodesX p T) (fun pre => ∃ r, nodesX p T = pre ++ r) (nodesX p T).length w := by
  intro l J Jx W hW hJ hJx hY h0
  have hK' := KAt.only (Only.of_below (S := S) hW) T p hK
  have hc := (hW.cell (p := ⟨Bn, 0, none⟩) (World.block_lt_of_cell? w _ hB)).trans hB
  have HV := Lib.hid (CallsIn.lev 1 (visit_any S (nodesX p T) l J Jx (fun pre x W1 hj hx hl => by
    have := hY pre x W1 hj hl
    simp only at this
    rw [nodeOf_eq hx] at this
    exact this) T p [] [] W (by simp) hK' h0))
  rw [List.nil_append] at HV
  clear hK hK' hB hY hJ hJx hW
  show CallsIn Fence.wide 2 Tryz.prog 39 #[.func (.yield l) #[] #[], .pointer (some ⟨Bn, 0, none⟩)] W _
  refine callsIn_of_wp Tryz.func39 rfl trivial ?_ rfl
  simp only [Tryz.ntmps39, List.size_toArray, List.length_cons, List.length_nil, Nat.reduceAdd, Nat.reduceSub, Array.replicate_succ, Array.replicate_zero, List.push_toArray, List.append_toArray, List.nil_append, List.cons_append]
  gi_wp2_with (refine ⟨trivial, ?_⟩; gi_at_call 40; refine HV.out.mono ?_; rintro e w1 h1; obtain ⟨v, rfl⟩ : ∃ v, e = .returned v := by rcases h1 with ⟨rfl, _⟩ | ⟨rfl, _⟩ <;> exact ⟨_, rfl⟩)
  go_end0
  refine ⟨⟨_, rfl⟩, ?_⟩
  rcases h1 with ⟨_, h1, _⟩ | ⟨_, pre, r, h1, h2⟩
  · exact .inl ⟨_, rfl, h1⟩
  · exact .inr ⟨pre, ⟨r, h1⟩, h2⟩
theorem kidP_at {ao : Option Addr} {b off : Nat} (h : ao = some ⟨b, off, none⟩) (i : Nat) : kidP ao i = ⟨b, off + i * 4, none⟩ := by rw [h]; rfl
set_option maxRecDepth 100000 in
set_option maxHeartbeats 4000000 in
theorem opds_stops (S : Nat → Prop) (p : Addr) (T : XT) (Bn : Nat) (w : World) (hN : NodeC w S p T) (ha : 0 < T.an → ∃ b off, T.aa = some ⟨b, off, none⟩) (hS : ¬ S Bn) (hB : w.cell? ⟨Bn, 0, none⟩ = some (.pointer (some p))) :
    SeqStopsK Fence.wide 2 Tryz.prog 49 #[.pointer (some ⟨Bn, 0, none⟩)] (fun i : Nat => #[.pointer (some (kidP T.aa (opIx T.an i)))]) (Only S) (fun xs => xs = List.range T.an) (fun pre => ∃ k, k < T.an ∧ pre = List.range (k + 1)) T.an w := by
  intro l J Jx W hW hJ hJx hY h0
  obtain ⟨⟨b, off, rfl, hb1, hb2, hl⟩, hwf⟩ := hN.only (Only.of_below (S := S) hW)
  have hBl := World.block_lt_of_cell? w _ hB
  have hc := (hW.cell (p := ⟨Bn, 0, none⟩) hBl).trans hB
  have HC := Lib.hid (fun wx (hO : Only S W wx) => (show wx.cell? ⟨b, off + 2, none⟩ = some (.slice T.aa T.an T.ac) from (hl.held (hO.block b hb2 hb1)) 2 _ rfl))
  have HB := Lib.hid (fun wx (hO : Only S W wx) => (show wx.cell? ⟨Bn, 0, none⟩ = some (.pointer (some ⟨b, off, none⟩)) from (cell_same (hO.block Bn (by have := hW.size; simp at hBl; omega) hS)).trans hc))
  have HY := Lib.hid hY
  have H0 := Lib.hid h0
  have han : T.an ≤ 3518437208780 := hwf.1
  obtain ⟨n, hn⟩ : ∃ n, T.an = n := ⟨_, rfl⟩
  obtain ⟨aa, haa⟩ : ∃ aa, T.aa = aa := ⟨_, rfl⟩
  rw [hn] at HC ha han HY ⊢
  rw [haa] at HC ha HY
  have c2 := HC.out W (Only.refl S W)
  have HA := Lib.hid ha
  clear hl hb1 hb2 hwf hBl hB hY hJ hJx hW hN hS h0 hn haa ha
  show CallsIn Fence.wide 2 Tryz.prog 49 #[.func (.yield l) #[] #[], .pointer (some ⟨Bn, 0, none⟩)] W _
  refine callsIn_of_wp Tryz.func49 rfl trivial ?_ rfl
  simp only [Tryz.ntmps49, List.size_toArray, List.length_cons, List.length_nil, Nat.reduceAdd, Nat.reduceSub, Array.replicate_succ, Array.replicate_zero, List.push_toArray, List.append_toArray, List.nil_append, List.cons_append]
  gi_wp2
  gi_loopw [9] (fun q wr => ∃ k : Nat, q = .int .i64 (k : Nat) ∧ k ≤ n ∧ Hid (J (List.range k) wr) ∧ Hid (Only S W wr)) (fun q _ => n - (intOf q).toNat)
  case atStart => exact ⟨0, rfl, Nat.zero_le _, H0, Lib.hid (Only.refl S W)⟩
  case round =>
    clear H0 c2 hc
    obtain ⟨k, rfl, hk, HJS, HO⟩ := hrel
    by_cases hlt : k < n
    · have c2 := HC.out wr HO.out
      have cB := HB.out wr HO.out
      obtain ⟨kb, koff, rfl⟩ := HA.out (by omega)
      have hki : (k : Int) < (n : Int) := by omega
      have hd : decide ((k : Int) < (n : Int)) = true := by simp; omega
      have hw1 : IntKind.i64.wrap ((k : Int) + 1) = ((k + 1 : Nat) : Int) := by rw [IntWalk.i64_in _ (by omega)]; omega
      have hy0 := HY.out (List.range k) k wr HJS.out (by simpa using hlt)
      simp only [opIx_eq hlt] at hy0
      rw [kidP_at rfl, ← List.range_succ] at hy0
      obtain ⟨fn, tmps, assign, body, hy, hR⟩ := hy0
      gi_wp2
      refine hR.mono ?_
      rintro e W3 (⟨rfl, hJ3, hk3⟩ | ⟨rfl, hJx3⟩)
      · gi_wp2
        go_roundw
        case rel => exact ⟨k + 1, by go_num, by omega, Lib.hid hJ3, Lib.hid (HO.out.trans hk3 (fun _ _ s => s))⟩
        case measure => simp [intOf]; omega
      · gi_wp2
        refine bodyPost_ret (results_none rfl _ _ _) rfl ?_
        exact ⟨⟨_, rfl⟩, .inr ⟨_, ⟨k, hlt, rfl⟩, hJx3⟩⟩
    · have hd : decide ((k : Int) < (n : Int)) = false := by simp; omega
      have hki : ¬ (k : Int) < (n : Int) := by omega
      gi_wp2
      go_end0
      obtain rfl : k = n := by omega
      exact ⟨⟨_, rfl⟩, .inl (by first | exact HJS.out | exact ⟨_, rfl, HJS.out⟩)⟩
end Go.Proofs.YtcojomkpogikiaaGreatDoor
/- The reference of chapter 18: What an operand is; whether two go together. -/
namespace Go.Proofs.YtcojomkpogikiaaGreatDoor
open Go.RowKit
set_option linter.unusedVariables false
set_option linter.unusedSimpArgs false
theorem hold18 {w wx : World} {ao : Option Addr} {len : Nat} {L : Nat → Pa.TypeV} (H : ∀ i, i < len → Pa.TypeAt w ao i (L i)) (hb : Below w.heap.size w wx) : ∀ i, i < len → Pa.TypeAt wx ao i (L i) := fun i hi => (H i hi).held hb
/-- the four cells of an operand's box -/
theorem opd_box {w : World} {g : Nat} {k n : Int} {x : ByteArray} {b : Bool} (h : w.heap[g]? = some (.cells #[.int .i64 k, .string x, .bool b, .int .u64 n] 40)) : w.cell? ⟨g, 0, none⟩ = some (.int .i64 k) ∧ w.cell? ⟨g, 1, none⟩ = some (.string x) ∧ w.cell? ⟨g, 2, none⟩ = some (.bool b) ∧ w.cell? ⟨g, 3, none⟩ = some (.int .u64 n) := ⟨cell_at h rfl, cell_at h rfl, cell_at h rfl, cell_at h rfl⟩
end Go.Proofs.YtcojomkpogikiaaGreatDoor
/- The code of chapter 18: what an operand is; whether two go together; whether a node has its form. -/
namespace Go.Proofs.YtcojomkpogikiaaGreatDoor
open Go.RowKit
set_option linter.unusedVariables false
set_option linter.unusedSimpArgs false
/-- what an operand is, as the code says it -/
def sW (w : Int) : Int := if w = 2 then 3 else if w = 3 then 2 else if 4 ≤ w then 4 else w
def sO (w : Int) : Int := if 4 ≤ w then w - 4 else 0
def sP (R : Int × Int) : Value := .tuple #[.agg #[.int .i64 (sW R.1), .int .i64 (sO R.1)], .int .i64 R.2]
theorem sP_at (u : Nat) : sP (4 + (u : Int), 0) = .tuple #[.agg #[.int .i64 4, .int .i64 (u : Nat)], .int .i64 0] := by
  unfold sP sW sO
  rw [if_neg (by simp only; omega), if_neg (by simp only; omega), if_pos (by simp only; omega), if_pos (by simp only; omega)]
  simp only
  rw [show (4 : Int) + (u : Int) - 4 = (u : Nat) by omega]
theorem endPS {V : World} {act : Act} {Q : Ending → World → Prop} {a b e : Int} (hd : act.defers = []) (rb : Nat) (h2 : act.tmps.getD 4 undef = .pointer (some ⟨rb, 0, none⟩)) (h3 : act.tmps.getD 5 undef = .int .i64 e) (hr : V.heap[rb]? = some (.cells #[.int .i64 a, .int .i64 b] 103))
    (hQ : Q (.returned (.tuple #[.agg #[.int .i64 a, .int .i64 b], .int .i64 e])) V) : bodyPost Tryz.prog Tryz.f55 Q Exit.ret act V := by
  refine bodyPost_ret (v := .tuple #[.agg #[.int .i64 a, .int .i64 b], .int .i64 e]) ?_ hd hQ
  have hl2 := run_loadVar_row (P := Tryz.prog) V rb 103 103 #[.int .i64 a, .int .i64 b] _ _ hr Tryz.underlying103 rfl (by kernel_rfl)
  rw [Array.getD_eq_getD_getElem?] at h2 h3
  simp [results, Tryz.results55, h2, h3, asAddr, hl2]
theorem endSO {V : World} {act : Act} {Q : Ending → World → Prop} {a b e : Int} (hd : act.defers = []) (rb : Nat) (h2 : act.tmps.getD 4 undef = .pointer (some ⟨rb, 0, none⟩)) (h3 : act.tmps.getD 5 undef = .int .i64 e) (hr : V.heap[rb]? = some (.cells #[.int .i64 a, .int .i64 b] 103))
    (hQ : Q (.returned (.tuple #[.agg #[.int .i64 a, .int .i64 b], .int .i64 e])) V) : bodyPost Tryz.prog Tryz.f41 Q Exit.ret act V := by
  refine bodyPost_ret (v := .tuple #[.agg #[.int .i64 a, .int .i64 b], .int .i64 e]) ?_ hd hQ
  have hl2 := run_loadVar_row (P := Tryz.prog) V rb 103 103 #[.int .i64 a, .int .i64 b] _ _ hr Tryz.underlying103 rfl (by kernel_rfl)
  rw [Array.getD_eq_getD_getElem?] at h2 h3
  simp [results, Tryz.results41, h2, h3, asAddr, hl2]
/-- the boxes: the scope's at g, the result's at r -/
structure PsSt (w : World) (ao : Option Addr) (len cap : Nat) (t : Int) (g r : Nat) (wx : World) : Prop where
  sc : wx.heap[g]? = some (.cells #[.slice ao len cap, .int .i64 t] 62)
  rs : wx.heap[r]? = some (.cells #[.int .i64 0, .int .i64 0] 103)
  bel : Below w.heap.size w wx
theorem PsSt.next {w : World} {ao : Option Addr} {len cap : Nat} {t : Int} {g r : Nat} {wx wy : World} (h : PsSt w ao len cap t g r wx) (hb : Below wx.heap.size wx wy) : PsSt w ao len cap t g r wy :=
  ⟨rowKeep hb h.sc, rowKeep hb h.rs, h.bel.trans (hb.mono h.bel.size)⟩
theorem PsSt.start (w : World) (ao : Option Addr) (len cap : Nat) (t : Int) : PsSt w ao len cap t w.heap.size (w.heap.size + 1) ((w.alloc (.cells #[.slice ao len cap, .int .i64 t] 62)).alloc (.cells #[.int .i64 0, .int .i64 0] 103)) := by
  have h1 := alloc_at w (.cells #[.slice ao len cap, .int .i64 t] 62)
  have h2 := alloc_at (w.alloc (.cells #[.slice ao len cap, .int .i64 t] 62)) (.cells #[.int .i64 0, .int .i64 0] 103)
  rw [World.size_alloc] at h2
  exact ⟨alloc_old h1, h2, ((Below.refl _ _).alloc (Nat.le_refl _) _).alloc (by simp) _⟩
def PSortTo (L : Nat → Pa.TypeV) (ao : Option Addr) (len cap : Nat) (t : Int) (x : ByteArray) (w : World) : Prop :=
  Calls Tryz.prog 55 #[.agg #[.slice ao len cap, .int .i64 t], .string x] w fun e w' => e = .returned (sP (findW L (Pa.findA L len t x))) ∧ Below w.heap.size w w'
set_option maxRecDepth 100000 in
set_option maxHeartbeats 4000000 in
theorem pathSort_any (L : Nat → Pa.TypeV) (ao : Option Addr) (len cap : Nat) (hlen : len ≤ 1000000) (hcap : len ≤ cap) (t : Int) (x : ByteArray) (hx : x.size ≤ 1000000) (w : World) (H : ∀ i, i < len → Pa.TypeAt w ao i (L i)) : PSortTo L ao len cap t x w := by
  unfold PSortTo
  have HS0 := Lib.hid (PsSt.start w ao len cap t)
  have HF := Lib.hid (fun wx (hb : Below w.heap.size w wx) => Pa.find12_any ao len cap L hlen hcap t x hx wx (hold18 H hb))
  have HH := Lib.hid (fun wx (hb : Below w.heap.size w wx) => hold18 H hb)
  have HL := Lib.hid (@findA_lt L len t x)
  obtain ⟨R, hR⟩ : ∃ R, findW L (Pa.findA L len t x) = R := ⟨_, rfl⟩
  rw [hR]
  have hw : R = findW L (Pa.findA L len t x) := hR.symm
  clear H hR
  obtain ⟨st, at', er, hR⟩ : ∃ st at' er, Pa.findA L len t x = ⟨st, at', er⟩ := ⟨_, _, _, rfl⟩
  rw [hR] at HF HL hw
  simp only at HL
  unfold Pa.FindTo at HF
  simp only at HF
  clear hR
  by_cases he : er = 0
  · subst he
    have hat := HL.out rfl
    have hw2 : R = kindW (L at').kind at' := by rw [hw]; unfold findW; rw [if_neg (fun h => h rfl)]
    clear hw HL
    obtain ⟨b, off, rfl, c0, -, -, -, -, -, -, -⟩ := HH.out w (Below.refl _ _) at' hat
    have hai : (at' : Int) < (len : Int) := by omega
    obtain ⟨q, hq⟩ : ∃ q, (L at').kind = q := ⟨_, rfl⟩
    rw [hq] at hw2 c0
    have HC := Lib.hid (fun wx (hb : Below w.heap.size w wx) => Pa.keep6 hb c0)
    clear c0 hq HH
    by_cases q1 : q = 1
    · subst q1
      rw [hw2, show sP (kindW 1 at') = .tuple #[.agg #[.int .i64 2, .int .i64 0], .int .i64 0] from rfl]
      clear hw2
      go_enter Tryz.func55, Tryz.ntmps55
      go_upto_region 1 with (fail)
      generalize (w.alloc (.cells #[.slice (some ⟨b, off, none⟩) len cap, .int .i64 t] 62)).alloc (.cells #[.int .i64 0, .int .i64 0] 103) = W0 at *
      have s0 := cell_at (j := 0) HS0.out.sc rfl
      have s1 := cell_at (j := 1) HS0.out.sc rfl
      go_wp2_with (first
        | (go_at_call 92; refine (HF.out _ (by exact HS0.out.bel)).mono ?_; rintro e w1 ⟨v1, rfl, -, hb⟩; have HS1 := Lib.hid (HS0.out.next hb); have s0 := cell_at (j := 0) HS1.out.sc rfl; have c1 := HC.out _ HS1.out.bel; clear hb)
        | (go_at_call 93; refine (Pa.number_same _ _).mono ?_; rintro e w9 ⟨rfl, rfl⟩)
        | (refine wpList_store_rowTo rfl 103 _ _ rfl rfl (w.heap.size + 1) #[.int .i64 2, .int .i64 0] rfl rfl _ _ HS1.out.rs (by kernel_rfl) (by kernel_rfl) (by kernel_rfl) ?_))
      exact endPS rfl (w.heap.size + 1) rfl rfl (setRow_heap _ _ _ _ _ _ HS1.out.rs) ⟨rfl, below_setRow HS1.out.bel (by omega) _⟩
    by_cases q9 : q = 9
    · subst q9
      rw [hw2, show kindW 9 at' = (4 + (at' : Int), 0) from rfl, sP_at]
      clear hw2
      go_enter Tryz.func55, Tryz.ntmps55
      go_upto_region 1 with (fail)
      generalize (w.alloc (.cells #[.slice (some ⟨b, off, none⟩) len cap, .int .i64 t] 62)).alloc (.cells #[.int .i64 0, .int .i64 0] 103) = W0 at *
      have s0 := cell_at (j := 0) HS0.out.sc rfl
      have s1 := cell_at (j := 1) HS0.out.sc rfl
      go_wp2_with (first
        | (go_at_call 92; refine (HF.out _ (by exact HS0.out.bel)).mono ?_; rintro e w1 ⟨v1, rfl, -, hb⟩; have HS1 := Lib.hid (HS0.out.next hb); have s0 := cell_at (j := 0) HS1.out.sc rfl; have c1 := HC.out _ HS1.out.bel; clear hb)
        | (go_at_call 93; refine (Pa.number_same _ _).mono ?_; rintro e w9 ⟨rfl, rfl⟩)
        | (refine wpList_store_rowTo rfl 103 _ _ rfl rfl (w.heap.size + 1) #[.int .i64 4, .int .i64 (at' : Nat)] rfl rfl _ _ HS1.out.rs (by kernel_rfl) (by kernel_rfl) (by kernel_rfl) ?_))
      exact endPS rfl (w.heap.size + 1) rfl rfl (setRow_heap _ _ _ _ _ _ HS1.out.rs) ⟨rfl, below_setRow HS1.out.bel (by omega) _⟩
    by_cases q10 : q = 10
    · subst q10
      have hn : numK 10 = false := by kernel_rfl
      rw [hw2, show sP (kindW 10 at') = .tuple #[.agg #[.int .i64 3, .int .i64 0], .int .i64 0] from rfl]
      clear hw2
      go_enter Tryz.func55, Tryz.ntmps55
      go_upto_region 1 with (fail)
      generalize (w.alloc (.cells #[.slice (some ⟨b, off, none⟩) len cap, .int .i64 t] 62)).alloc (.cells #[.int .i64 0, .int .i64 0] 103) = W0 at *
      have s0 := cell_at (j := 0) HS0.out.sc rfl
      have s1 := cell_at (j := 1) HS0.out.sc rfl
      go_wp2_with (first
        | (go_at_call 92; refine (HF.out _ (by exact HS0.out.bel)).mono ?_; rintro e w1 ⟨v1, rfl, -, hb⟩; have HS1 := Lib.hid (HS0.out.next hb); have s0 := cell_at (j := 0) HS1.out.sc rfl; have c1 := HC.out _ HS1.out.bel; clear hb)
        | (go_at_call 93; refine (Pa.number_same _ _).mono ?_; rintro e w9 ⟨rfl, rfl⟩)
        | (refine wpList_store_rowTo rfl 103 _ _ rfl rfl (w.heap.size + 1) #[.int .i64 3, .int .i64 0] rfl rfl _ _ HS1.out.rs (by kernel_rfl) (by kernel_rfl) (by kernel_rfl) ?_))
      exact endPS rfl (w.heap.size + 1) rfl rfl (setRow_heap _ _ _ _ _ _ HS1.out.rs) ⟨rfl, below_setRow HS1.out.bel (by omega) _⟩
    have hw3 : R = if numK q then (1, 0) else (0, 8) := by rw [hw2]; unfold kindW; rw [if_neg q9, if_neg q1, if_neg q10]
    have q9 : (q == 9) = false := by rw [beq_eq_false_iff_ne]; exact q9
    have q1 : (q == 1) = false := by rw [beq_eq_false_iff_ne]; exact q1
    have q10 : (q == 10) = false := by rw [beq_eq_false_iff_ne]; exact q10
    clear hw2
    cases hn : numK q with
    | true =>
      rw [hn, if_pos rfl] at hw3
      rw [hw3, show sP (1, 0) = .tuple #[.agg #[.int .i64 1, .int .i64 0], .int .i64 0] from rfl]
      clear hw3
      go_enter Tryz.func55, Tryz.ntmps55
      go_upto_region 1 with (fail)
      generalize (w.alloc (.cells #[.slice (some ⟨b, off, none⟩) len cap, .int .i64 t] 62)).alloc (.cells #[.int .i64 0, .int .i64 0] 103) = W0 at *
      have s0 := cell_at (j := 0) HS0.out.sc rfl
      have s1 := cell_at (j := 1) HS0.out.sc rfl
      go_wp2_with (first
        | (go_at_call 92; refine (HF.out _ (by exact HS0.out.bel)).mono ?_; rintro e w1 ⟨v1, rfl, -, hb⟩; have HS1 := Lib.hid (HS0.out.next hb); have s0 := cell_at (j := 0) HS1.out.sc rfl; have c1 := HC.out _ HS1.out.bel; clear hb)
        | (go_at_call 93; refine (Pa.number_same _ _).mono ?_; rintro e w9 ⟨rfl, rfl⟩)
        | (refine wpList_store_rowTo rfl 103 _ _ rfl rfl (w.heap.size + 1) #[.int .i64 1, .int .i64 0] rfl rfl _ _ HS1.out.rs (by kernel_rfl) (by kernel_rfl) (by kernel_rfl) ?_))
      exact endPS rfl (w.heap.size + 1) rfl rfl (setRow_heap _ _ _ _ _ _ HS1.out.rs) ⟨rfl, below_setRow HS1.out.bel (by omega) _⟩
    | false =>
      rw [hn, if_neg (by decide)] at hw3
      rw [hw3, show sP (0, 8) = .tuple #[.agg #[.int .i64 0, .int .i64 0], .int .i64 8] from rfl]
      clear hw3
      go_enter Tryz.func55, Tryz.ntmps55
      go_upto_region 1 with (fail)
      generalize (w.alloc (.cells #[.slice (some ⟨b, off, none⟩) len cap, .int .i64 t] 62)).alloc (.cells #[.int .i64 0, .int .i64 0] 103) = W0 at *
      have s0 := cell_at (j := 0) HS0.out.sc rfl
      have s1 := cell_at (j := 1) HS0.out.sc rfl
      go_wp2_with (first
        | (go_at_call 92; refine (HF.out _ (by exact HS0.out.bel)).mono ?_; rintro e w1 ⟨v1, rfl, -, hb⟩; have HS1 := Lib.hid (HS0.out.next hb); have s0 := cell_at (j := 0) HS1.out.sc rfl; have c1 := HC.out _ HS1.out.bel; clear hb)
        | (go_at_call 93; refine (Pa.number_same _ _).mono ?_; rintro e w9 ⟨rfl, rfl⟩)
        | (refine wpList_store_rowTo rfl 103 _ _ rfl rfl (w.heap.size + 1) #[.int .i64 0, .int .i64 0] rfl rfl _ _ HS1.out.rs (by kernel_rfl) (by kernel_rfl) (by kernel_rfl) ?_))
      exact endPS rfl (w.heap.size + 1) rfl rfl (setRow_heap _ _ _ _ _ _ HS1.out.rs) ⟨rfl, below_setRow HS1.out.bel (by omega) _⟩
  · have hw2 : R = (0, er) := by rw [hw]; unfold findW; rw [if_pos he]
    rw [hw2, show sP (0, er) = .tuple #[.agg #[.int .i64 0, .int .i64 0], .int .i64 er] from rfl]
    have hne : (er != 0) = true := by rw [bne_iff_ne]; exact he
    clear hw hw2 HL he
    go_enter Tryz.func55, Tryz.ntmps55
    go_upto_region 1 with (fail)
    generalize (w.alloc (.cells #[.slice ao len cap, .int .i64 t] 62)).alloc (.cells #[.int .i64 0, .int .i64 0] 103) = W0 at *
    have s0 := cell_at (j := 0) HS0.out.sc rfl
    have s1 := cell_at (j := 1) HS0.out.sc rfl
    go_wp2_with (first
      | (go_at_call 92; refine (HF.out _ (by exact HS0.out.bel)).mono ?_; rintro e w1 ⟨v1, rfl, -, hb⟩; have HS1 := Lib.hid (HS0.out.next hb); clear hb)
      | (refine wpList_store_rowTo rfl 103 _ _ rfl rfl (w.heap.size + 1) #[.int .i64 0, .int .i64 0] rfl rfl _ _ HS1.out.rs (by kernel_rfl) (by kernel_rfl) (by kernel_rfl) ?_))
    exact endPS rfl (w.heap.size + 1) rfl rfl (setRow_heap _ _ _ _ _ _ HS1.out.rs) ⟨rfl, below_setRow HS1.out.bel (by omega) _⟩
/-- what the code says of an operand -/
def SortTo (L : Nat → Pa.TypeV) (ao : Option Addr) (len cap : Nat) (t : Int) (o : Opd) (w : World) : Prop :=
  Calls Tryz.prog 41 #[.agg #[.slice ao len cap, .int .i64 t], .agg #[.int .i64 o.kind, .string o.text, .bool o.neg, .int .u64 o.num]] w fun e w' => e = .returned (sP (whatA L len t o)) ∧ Below w.heap.size w w'
structure SoSt (w : World) (ao : Option Addr) (len cap : Nat) (t : Int) (k : Int) (x : ByteArray) (g : Bool) (n : Int) (wx : World) : Prop where
  ps : PsSt w ao len cap t w.heap.size (w.heap.size + 1 + 1) wx
  op : wx.heap[w.heap.size + 1]? = some (.cells #[.int .i64 k, .string x, .bool g, .int .u64 n] 40)
theorem SoSt.start (w : World) (ao : Option Addr) (len cap : Nat) (t : Int) (k : Int) (x : ByteArray) (g : Bool) (n : Int) : SoSt w ao len cap t k x g n (((w.alloc (.cells #[.slice ao len cap, .int .i64 t] 62)).alloc (.cells #[.int .i64 k, .string x, .bool g, .int .u64 n] 40)).alloc (.cells #[.int .i64 0, .int .i64 0] 103)) := by
  have h1 := alloc_at w (.cells #[.slice ao len cap, .int .i64 t] 62)
  have h2 := alloc_at (w.alloc (.cells #[.slice ao len cap, .int .i64 t] 62)) (.cells #[.int .i64 k, .string x, .bool g, .int .u64 n] 40)
  have h3 := alloc_at ((w.alloc (.cells #[.slice ao len cap, .int .i64 t] 62)).alloc (.cells #[.int .i64 k, .string x, .bool g, .int .u64 n] 40)) (.cells #[.int .i64 0, .int .i64 0] 103)
  rw [World.size_alloc] at h2
  rw [World.size_alloc, World.size_alloc] at h3
  exact ⟨⟨alloc_old (alloc_old h1), h3, (((Below.refl _ _).alloc (Nat.le_refl _) _).alloc (by simp) _).alloc (by simp; omega) _⟩, alloc_old h2⟩
set_option maxRecDepth 100000 in
set_option maxHeartbeats 4000000 in
theorem sortOf_any (L : Nat → Pa.TypeV) (ao : Option Addr) (len cap : Nat) (hlen : len ≤ 1000000) (hcap : len ≤ cap) (t : Int) (o : Opd) (ho : o.text.size ≤ 1000000) (w : World) (H : ∀ i, i < len → Pa.TypeAt w ao i (L i)) : SortTo L ao len cap t o w := by
  unfold SortTo
  obtain ⟨k, x, g, n⟩ := o
  have HS0 := Lib.hid (SoSt.start w ao len cap t k x g n)
  have HF := Lib.hid (fun wx (hb : Below w.heap.size w wx) => pathSort_any L ao len cap hlen hcap t x ho wx (hold18 H hb))
  simp only
  have hw : whatA L len t ⟨k, x, g, n⟩ = if k = 2 then (1, 0) else if k = 3 then (2, 0) else if k = 4 then (3, 0) else if k = 5 then (0, 18) else if k = 1 then findW L (Pa.findA L len t x) else (0, 1) := rfl
  obtain ⟨R, hR⟩ : ∃ R, whatA L len t ⟨k, x, g, n⟩ = R := ⟨_, rfl⟩
  rw [hR] at hw ⊢
  unfold PSortTo at HF
  clear H hR ho
  by_cases h1 : k = 1
  · subst h1
    rw [if_neg (by decide), if_neg (by decide), if_neg (by decide), if_neg (by decide), if_pos rfl] at hw
    rw [← hw] at HF
    obtain ⟨A, B, E, hE⟩ : ∃ A B E, sP R = .tuple #[.agg #[.int .i64 A, .int .i64 B], .int .i64 E] := ⟨_, _, _, rfl⟩
    rw [hE] at HF ⊢
    clear hw hE
    go_enter Tryz.func41, Tryz.ntmps41
    go_upto_region 1 with (fail)
    generalize ((w.alloc (.cells #[.slice ao len cap, .int .i64 t] 62)).alloc (.cells #[.int .i64 1, .string x, .bool g, .int .u64 n] 40)).alloc (.cells #[.int .i64 0, .int .i64 0] 103) = W0 at *
    have s0 := cell_at (j := 0) HS0.out.ps.sc rfl
    have s1 := cell_at (j := 1) HS0.out.ps.sc rfl
    obtain ⟨o0, o1, o2, o3⟩ := opd_box HS0.out.op
    go_wp2_with (first
      | (go_at_call 55; refine (HF.out _ (by exact HS0.out.ps.bel)).mono ?_; rintro e w1 ⟨rfl, hb⟩; have HS1 := Lib.hid (HS0.out.ps.next hb); clear hb)
      | (refine wpList_store_rowTo rfl 103 _ _ rfl rfl (w.heap.size + 1 + 1) #[.int .i64 A, .int .i64 B] rfl rfl _ _ HS1.out.rs (by kernel_rfl) (by kernel_rfl) (by kernel_rfl) ?_))
    exact endSO rfl (w.heap.size + 1 + 1) rfl rfl (setRow_heap _ _ _ _ _ _ HS1.out.rs) ⟨rfl, below_setRow HS1.out.bel (by omega) _⟩
  have k1 : (k == 1) = false := by rw [beq_eq_false_iff_ne]; exact h1
  by_cases h2 : k = 2
  · subst h2
    rw [if_pos rfl] at hw
    rw [hw, show sP (1, 0) = .tuple #[.agg #[.int .i64 1, .int .i64 0], .int .i64 0] from rfl]
    clear hw h1 k1 HF
    go_enter Tryz.func41, Tryz.ntmps41
    go_upto_region 1 with (fail)
    generalize ((w.alloc (.cells #[.slice ao len cap, .int .i64 t] 62)).alloc (.cells #[.int .i64 2, .string x, .bool g, .int .u64 n] 40)).alloc (.cells #[.int .i64 0, .int .i64 0] 103) = W0 at *
    obtain ⟨o0, o1, o2, o3⟩ := opd_box HS0.out.op
    go_wp2_with (first
      | (refine wpList_store_rowTo rfl 103 _ _ rfl rfl (w.heap.size + 1 + 1) #[.int .i64 1, .int .i64 0] rfl rfl _ _ HS0.out.ps.rs (by kernel_rfl) (by kernel_rfl) (by kernel_rfl) ?_))
    exact endSO rfl (w.heap.size + 1 + 1) rfl rfl (setRow_heap _ _ _ _ _ _ HS0.out.ps.rs) ⟨rfl, below_setRow HS0.out.ps.bel (by omega) _⟩
  rw [if_neg h2] at hw
  have k2 : (k == 2) = false := by rw [beq_eq_false_iff_ne]; exact h2
  by_cases h3 : k = 3
  · subst h3
    rw [if_pos rfl] at hw
    rw [hw, show sP (2, 0) = .tuple #[.agg #[.int .i64 3, .int .i64 0], .int .i64 0] from rfl]
    clear hw h1 k1 HF h2 k2
    go_enter Tryz.func41, Tryz.ntmps41
    go_upto_region 1 with (fail)
    generalize ((w.alloc (.cells #[.slice ao len cap, .int .i64 t] 62)).alloc (.cells #[.int .i64 3, .string x, .bool g, .int .u64 n] 40)).alloc (.cells #[.int .i64 0, .int .i64 0] 103) = W0 at *
    obtain ⟨o0, o1, o2, o3⟩ := opd_box HS0.out.op
    go_wp2_with (first
      | (refine wpList_store_rowTo rfl 103 _ _ rfl rfl (w.heap.size + 1 + 1) #[.int .i64 3, .int .i64 0] rfl rfl _ _ HS0.out.ps.rs (by kernel_rfl) (by kernel_rfl) (by kernel_rfl) ?_))
    exact endSO rfl (w.heap.size + 1 + 1) rfl rfl (setRow_heap _ _ _ _ _ _ HS0.out.ps.rs) ⟨rfl, below_setRow HS0.out.ps.bel (by omega) _⟩
  rw [if_neg h3] at hw
  have k3 : (k == 3) = false := by rw [beq_eq_false_iff_ne]; exact h3
  by_cases h4 : k = 4
  · subst h4
    rw [if_pos rfl] at hw
    rw [hw, show sP (3, 0) = .tuple #[.agg #[.int .i64 2, .int .i64 0], .int .i64 0] from rfl]
    clear hw h1 k1 HF h2 k2 h3 k3
    go_enter Tryz.func41, Tryz.ntmps41
    go_upto_region 1 with (fail)
    generalize ((w.alloc (.cells #[.slice ao len cap, .int .i64 t] 62)).alloc (.cells #[.int .i64 4, .string x, .bool g, .int .u64 n] 40)).alloc (.cells #[.int .i64 0, .int .i64 0] 103) = W0 at *
    obtain ⟨o0, o1, o2, o3⟩ := opd_box HS0.out.op
    go_wp2_with (first
      | (refine wpList_store_rowTo rfl 103 _ _ rfl rfl (w.heap.size + 1 + 1) #[.int .i64 2, .int .i64 0] rfl rfl _ _ HS0.out.ps.rs (by kernel_rfl) (by kernel_rfl) (by kernel_rfl) ?_))
    exact endSO rfl (w.heap.size + 1 + 1) rfl rfl (setRow_heap _ _ _ _ _ _ HS0.out.ps.rs) ⟨rfl, below_setRow HS0.out.ps.bel (by omega) _⟩
  rw [if_neg h4] at hw
  have k4 : (k == 4) = false := by rw [beq_eq_false_iff_ne]; exact h4
  by_cases h5 : k = 5
  · subst h5
    rw [if_pos rfl] at hw
    rw [hw, show sP (0, 18) = .tuple #[.agg #[.int .i64 0, .int .i64 0], .int .i64 18] from rfl]
    clear hw h1 k1 HF h2 k2 h3 k3 h4 k4
    go_enter Tryz.func41, Tryz.ntmps41
    go_upto_region 1 with (fail)
    generalize ((w.alloc (.cells #[.slice ao len cap, .int .i64 t] 62)).alloc (.cells #[.int .i64 5, .string x, .bool g, .int .u64 n] 40)).alloc (.cells #[.int .i64 0, .int .i64 0] 103) = W0 at *
    obtain ⟨o0, o1, o2, o3⟩ := opd_box HS0.out.op
    go_wp2_with (first
      | (refine wpList_store_rowTo rfl 103 _ _ rfl rfl (w.heap.size + 1 + 1) #[.int .i64 0, .int .i64 0] rfl rfl _ _ HS0.out.ps.rs (by kernel_rfl) (by kernel_rfl) (by kernel_rfl) ?_))
    exact endSO rfl (w.heap.size + 1 + 1) rfl rfl (setRow_heap _ _ _ _ _ _ HS0.out.ps.rs) ⟨rfl, below_setRow HS0.out.ps.bel (by omega) _⟩
  rw [if_neg h5, if_neg h1] at hw
  have k5 : (k == 5) = false := by rw [beq_eq_false_iff_ne]; exact h5
  rw [hw, show sP (0, 1) = .tuple #[.agg #[.int .i64 0, .int .i64 0], .int .i64 1] from rfl]
  clear hw HF h1 h2 h3 h4 h5
  go_enter Tryz.func41, Tryz.ntmps41
  go_upto_region 1 with (fail)
  generalize ((w.alloc (.cells #[.slice ao len cap, .int .i64 t] 62)).alloc (.cells #[.int .i64 k, .string x, .bool g, .int .u64 n] 40)).alloc (.cells #[.int .i64 0, .int .i64 0] 103) = W0 at *
  obtain ⟨o0, o1, o2, o3⟩ := opd_box HS0.out.op
  go_wp2_with (first
    | (refine wpList_store_rowTo rfl 103 _ _ rfl rfl (w.heap.size + 1 + 1) #[.int .i64 0, .int .i64 0] rfl rfl _ _ HS0.out.ps.rs (by kernel_rfl) (by kernel_rfl) (by kernel_rfl) ?_))
  exact endSO rfl (w.heap.size + 1 + 1) rfl rfl (setRow_heap _ _ _ _ _ _ HS0.out.ps.rs) ⟨rfl, below_setRow HS0.out.ps.bel (by omega) _⟩
end Go.Proofs.YtcojomkpogikiaaGreatDoor
/- The reference of chapter 18: why two operands do not go together. -/
namespace Go.Proofs.YtcojomkpogikiaaGreatDoor
open Go.RowKit
set_option linter.unusedVariables false
set_option linter.unusedSimpArgs false
/-- two operands in two boxes -/
def Two (w : World) (a b : Opd) (w' : World) : Prop := w'.heap[w.heap.size]? = some (.cells #[.int .i64 a.kind, .string a.text, .bool a.neg, .int .u64 a.num] 40) ∧ w'.heap[w.heap.size + 1]? = some (.cells #[.int .i64 b.kind, .string b.text, .bool b.neg, .int .u64 b.num] 40) ∧ Below w.heap.size w w'
theorem Two.bel {w : World} {a b : Opd} {w1 : World} (h : Two w a b w1) : Below w.heap.size w w1 := h.2.2
theorem Two.start (w : World) (a b : Opd) : Two w a b ((w.alloc (.cells #[.int .i64 a.kind, .string a.text, .bool a.neg, .int .u64 a.num] 40)).alloc (.cells #[.int .i64 b.kind, .string b.text, .bool b.neg, .int .u64 b.num] 40)) := by
  have h1 := alloc_at w (.cells #[.int .i64 a.kind, .string a.text, .bool a.neg, .int .u64 a.num] 40)
  have h2 := alloc_at (w.alloc (.cells #[.int .i64 a.kind, .string a.text, .bool a.neg, .int .u64 a.num] 40)) (.cells #[.int .i64 b.kind, .string b.text, .bool b.neg, .int .u64 b.num] 40)
  rw [World.size_alloc] at h2
  refine ⟨rowKeep ((Below.refl _ _).alloc (Nat.le_refl _) _) h1, h2, ((Below.refl _ _).alloc (Nat.le_refl _) _).alloc (by simp) _⟩
theorem Two.next {w : World} {a b : Opd} {w1 w2 : World} (h : Two w a b w1) (hb : Below w1.heap.size w1 w2) : Two w a b w2 := ⟨rowKeep hb h.1, rowKeep hb h.2.1, h.2.2.trans (hb.mono h.2.2.size)⟩
end Go.Proofs.YtcojomkpogikiaaGreatDoor
/- The reference of chapter 18: the datum of an operand. -/
namespace Go.Proofs.YtcojomkpogikiaaGreatDoor
open Go.RowKit
set_option linter.unusedVariables false
set_option linter.unusedSimpArgs false
/-- two operands in two boxes, and the result's -/
structure Dst (w : World) (a b : Opd) (w1 : World) : Prop where
  two : Two w a b w1
  res : w1.heap[w.heap.size + 1 + 1]? = some (.cells #[.int .i64 0, .bool false, .int .u64 0, .string ⟨#[]⟩] 43)
theorem Dst.bel {w : World} {a b : Opd} {w1 : World} (h : Dst w a b w1) : Below w.heap.size w w1 := h.two.bel
theorem Dst.next {w : World} {a b : Opd} {w1 w2 : World} (h : Dst w a b w1) (hb : Below w1.heap.size w1 w2) : Dst w a b w2 := ⟨h.two.next hb, rowKeep hb h.res⟩
theorem Dst.start (w : World) (a b : Opd) : Dst w a b (((w.alloc (.cells #[.int .i64 a.kind, .string a.text, .bool a.neg, .int .u64 a.num] 40)).alloc (.cells #[.int .i64 b.kind, .string b.text, .bool b.neg, .int .u64 b.num] 40)).alloc (.cells #[.int .i64 0, .bool false, .int .u64 0, .string ⟨#[]⟩] 43)) := by
  have h2 := alloc_at ((w.alloc (.cells #[.int .i64 a.kind, .string a.text, .bool a.neg, .int .u64 a.num] 40)).alloc (.cells #[.int .i64 b.kind, .string b.text, .bool b.neg, .int .u64 b.num] 40)) (.cells #[.int .i64 0, .bool false, .int .u64 0, .string ⟨#[]⟩] 43)
  rw [World.size_alloc, World.size_alloc] at h2
  exact ⟨(Two.start w a b).next ((Below.refl _ _).alloc (Nat.le_refl _) _), h2⟩
/-- an item's number, where it lies -/
theorem num_at {w : World} {b off i m : Nat} {T : Pa.TypeV} (h : Pa.TypeAt w (some ⟨b, off, none⟩) i T) (hm : m < T.ilen) : ∃ ib ioff ic, w.cell? ⟨b, off + i * 6 + 5, none⟩ = some (.slice (some ⟨ib, ioff, none⟩) T.ilen ic) ∧ w.cell? ⟨ib, ioff + m * 5 + 1, none⟩ = some (.int .u64 (T.items m).num) := by
  obtain ⟨b', off', e, h0, h1, h2, h3, h4, h5, wf, hi⟩ := h
  cases e
  obtain ⟨ib, ioff, hia, g0, g1, g2, g3, g4, _⟩ := hi.2 m hm
  rw [hia] at h5
  exact ⟨ib, ioff, _, h5, g1⟩
end Go.Proofs.YtcojomkpogikiaaGreatDoor
/- The code of chapter 18: an item's number; whether two operands go together; whether a node has its form. -/
namespace Go.Proofs.YtcojomkpogikiaaGreatDoor
open Go.RowKit
set_option linter.unusedVariables false
set_option linter.unusedSimpArgs false
def itmC (L : Nat → Pa.TypeV) (len : Nat) (X : Int) (x : ByteArray) : Int × Bool :=
  if 4 ≤ X ∧ 0 ≤ Pa.itemL L len (X - 4) x then (((L (X - 4).toNat).items (Pa.itemL L len (X - 4) x).toNat).num, true) else (0, false)
theorem sW_four {X : Int} (h : 4 ≤ X) : sW X = 4 ∧ sO X = X - 4 := by
  unfold sW sO
  rw [if_neg (by omega), if_neg (by omega), if_pos h, if_pos h]
  exact ⟨rfl, rfl⟩
theorem sW_low {X : Int} (h0 : 0 ≤ X) (h : X < 4) : (sW X = 4) = False ∧ sO X = 0 := by
  unfold sW sO
  rw [if_neg (show ¬ 4 ≤ X by omega), if_neg (show ¬ 4 ≤ X by omega)]
  refine ⟨?_, rfl⟩
  simp only [eq_iff_iff, iff_false]
  split
  · omega
  · split <;> omega
theorem sW_ne {X : Int} (h0 : 0 ≤ X) (h : X < 4) : (sW X == 4) = false := by
  rw [beq_eq_false_iff_ne]; exact fun e => ((sW_low h0 h).1 ▸ e : False)
theorem s_inj {X Y : Int} (hX : 0 ≤ X) (hY : 0 ≤ Y) (h : sW X = sW Y) (h2 : sO X = sO Y) : X = Y := by
  unfold sW sO at *
  (repeat' split at h) <;> (repeat' split at h2) <;> omega
theorem found_yes {m : Nat} : Pa.foundV (m : Nat) = .tuple #[.int .i64 (m : Nat), .bool true] := by
  unfold Pa.foundV Pa.posZ Pa.okZ
  rw [if_neg (by omega), decide_eq_true (by omega)]
theorem found_no {z : Int} (h : z < 0) : Pa.foundV z = .tuple #[.int .i64 0, .bool false] := by
  unfold Pa.foundV Pa.posZ Pa.okZ
  rw [if_pos h, decide_eq_false (by omega)]
structure ItSt (w : World) (ao : Option Addr) (len cap : Nat) (t A B : Int) (wx : World) : Prop where
  sc : wx.heap[w.heap.size]? = some (.cells #[.slice ao len cap, .int .i64 t] 62)
  so : wx.heap[w.heap.size + 1]? = some (.cells #[.int .i64 A, .int .i64 B] 103)
  bel : Below w.heap.size w wx
theorem ItSt.next {w : World} {ao : Option Addr} {len cap : Nat} {t A B : Int} {wx wy : World} (h : ItSt w ao len cap t A B wx) (hb : Below wx.heap.size wx wy) : ItSt w ao len cap t A B wy :=
  ⟨rowKeep hb h.sc, rowKeep hb h.so, h.bel.trans (hb.mono h.bel.size)⟩
theorem ItSt.start (w : World) (ao : Option Addr) (len cap : Nat) (t A B : Int) : ItSt w ao len cap t A B ((w.alloc (.cells #[.slice ao len cap, .int .i64 t] 62)).alloc (.cells #[.int .i64 A, .int .i64 B] 103)) := by
  have h1 := alloc_at w (.cells #[.slice ao len cap, .int .i64 t] 62)
  have h2 := alloc_at (w.alloc (.cells #[.slice ao len cap, .int .i64 t] 62)) (.cells #[.int .i64 A, .int .i64 B] 103)
  rw [World.size_alloc] at h2
  exact ⟨alloc_old h1, h2, ((Below.refl _ _).alloc (Nat.le_refl _) _).alloc (by simp) _⟩
def ItmTo (L : Nat → Pa.TypeV) (ao : Option Addr) (len cap : Nat) (t X : Int) (x : ByteArray) (w : World) : Prop :=
  Calls Tryz.prog 56 #[.agg #[.slice ao len cap, .int .i64 t], .agg #[.int .i64 (sW X), .int .i64 (sO X)], .string x] w fun e w' => e = .returned (.tuple #[.int .u64 (itmC L len X x).1, .bool (itmC L len X x).2]) ∧ Below w.heap.size w w'
set_option maxRecDepth 100000 in
set_option maxHeartbeats 4000000 in
theorem itm_any (L : Nat → Pa.TypeV) (ao : Option Addr) (len cap : Nat) (hlen : len ≤ 1000000) (t X : Int) (hX : 0 ≤ X ∧ (4 ≤ X → X - 4 < (len : Int))) (x : ByteArray) (w : World) (H : ∀ i, i < len → Pa.TypeAt w ao i (L i)) : ItmTo L ao len cap t X x w := by
  unfold ItmTo
  have HS0 := Lib.hid (ItSt.start w ao len cap t (sW X) (sO X))
  have HI := Lib.hid (fun u wx (hx : Below w.heap.size w wx) => Pa.item6_any ao len cap L u x (by omega) wx (hold18 H hx))
  have HH := Lib.hid (fun wx (hx : Below w.heap.size w wx) => hold18 H hx)
  clear H
  by_cases h4 : 4 ≤ X
  · obtain ⟨u, hu⟩ : ∃ u : Nat, X - 4 = (u : Nat) := ⟨(X - 4).toNat, by omega⟩
    have hul : u < len := by have := hX.2 h4; omega
    obtain ⟨e1, e2⟩ := sW_four h4
    rw [hu] at e2
    rw [e1, e2] at HS0 ⊢
    by_cases hn : 0 ≤ Pa.itemL L len (X - 4) x
    · have hnl : Pa.itemL L len (X - 4) x < ((L u).ilen : Nat) := by rw [hu] at hn ⊢; exact Pa.item_lt hn
      obtain ⟨m, hm⟩ : ∃ m : Nat, Pa.itemL L len (X - 4) x = (m : Nat) := ⟨_, (Int.toNat_of_nonneg hn).symm⟩
      have hmi : m < (L u).ilen := by omega
      have hq : itmC L len X x = (((L u).items m).num, true) := by
        unfold itmC
        rw [if_pos ⟨h4, hn⟩, hm, hu]; rfl
      rw [hq]
      simp only
      have HIX := Lib.hid (fun wx (hx : Below w.heap.size w wx) => HI.out (u : Nat) wx hx)
      rw [← hu, hm, found_yes, hu] at HIX
      obtain ⟨tb, toff, rfl, -⟩ := HH.out w (Below.refl _ _) u hul
      have HTY := Lib.hid (fun wx (hx : Below w.heap.size w wx) => num_at (HH.out wx hx u hul) hmi)
      obtain ⟨num, hnum⟩ : ∃ num, ((L u).items m).num = num := ⟨_, rfl⟩
      rw [hnum] at HTY ⊢
      obtain ⟨il, hil⟩ : ∃ il, (L u).ilen = il := ⟨_, rfl⟩
      rw [hil] at HTY hmi
      have hmii : (m : Int) < (il : Int) := by omega
      have hui : (u : Int) < (len : Int) := by omega
      clear hq hnum hil hnl hn hm HI HH hX h4 hu e1 e2
      go_enter Tryz.func56, Tryz.ntmps56
      go_upto_region 1 with (fail)
      generalize (w.alloc (.cells #[.slice (some ⟨tb, toff, none⟩) len cap, .int .i64 t] 62)).alloc (.cells #[.int .i64 4, .int .i64 (u : Nat)] 103) = W0 at *
      have s0 := cell_at (j := 0) HS0.out.sc rfl
      have r0 := cell_at (j := 0) HS0.out.so rfl
      have r1 := cell_at (j := 1) HS0.out.so rfl
      go_wp2_with (first
        | (go_at_call 94; refine (HIX.out _ (by exact HS0.out.bel)).mono ?_; rintro e w1 ⟨rfl, hb⟩; have HS1 := Lib.hid (HS0.out.next hb); have s0 := cell_at (j := 0) HS1.out.sc rfl; have r1 := cell_at (j := 1) HS1.out.so rfl; obtain ⟨ib, ioff, ic, c5, cn⟩ := HTY.out _ HS1.out.bel; clear hb))
      go_ret2
      exact ⟨rfl, HS1.out.bel⟩
    · have hq : itmC L len X x = (0, false) := by
        unfold itmC
        rw [if_neg (fun h => hn h.2)]
      rw [hq]
      simp only
      have HIX := Lib.hid (fun wx (hx : Below w.heap.size w wx) => HI.out (u : Nat) wx hx)
      rw [← hu, found_no (by omega), hu] at HIX
      clear hq hn HI HH hX h4 hu e1 e2
      go_enter Tryz.func56, Tryz.ntmps56
      go_upto_region 1 with (fail)
      generalize (w.alloc (.cells #[.slice ao len cap, .int .i64 t] 62)).alloc (.cells #[.int .i64 4, .int .i64 (u : Nat)] 103) = W0 at *
      have s0 := cell_at (j := 0) HS0.out.sc rfl
      have r0 := cell_at (j := 0) HS0.out.so rfl
      have r1 := cell_at (j := 1) HS0.out.so rfl
      go_wp2_with (first
        | (go_at_call 94; refine (HIX.out _ (by exact HS0.out.bel)).mono ?_; rintro e w1 ⟨rfl, hb⟩; have HS1 := Lib.hid (HS0.out.next hb); clear hb))
      go_ret2
      exact ⟨rfl, HS1.out.bel⟩
  · have hq : itmC L len X x = (0, false) := by
      unfold itmC
      rw [if_neg (fun h => h4 h.1)]
    rw [hq]
    simp only
    have hs : (sW X != 4) = true := by rw [bne, sW_ne hX.1 (by omega)]; rfl
    obtain ⟨A, hA⟩ : ∃ A, sW X = A := ⟨_, rfl⟩
    obtain ⟨B, hB⟩ : ∃ B, sO X = B := ⟨_, rfl⟩
    rw [hA, hB] at HS0 ⊢
    rw [hA] at hs
    clear hq HI HH hX h4 hA hB
    go_enter Tryz.func56, Tryz.ntmps56
    go_upto_region 1 with (fail)
    generalize (w.alloc (.cells #[.slice ao len cap, .int .i64 t] 62)).alloc (.cells #[.int .i64 A, .int .i64 B] 103) = W0 at *
    have r0 := cell_at (j := 0) HS0.out.so rfl
    go_wp2_with (fail)
    go_ret2
    exact ⟨rfl, HS0.out.bel⟩
end Go.Proofs.YtcojomkpogikiaaGreatDoor
