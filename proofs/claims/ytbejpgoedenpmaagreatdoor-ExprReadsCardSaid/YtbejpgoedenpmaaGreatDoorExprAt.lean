/- Trees, operands, classes of tokens and the parser's tokens, in memory; what the classes tell. -/
import Derived.Test.YtbejpgoedenpmaaGreatDoorExprMath
import Derived.Test.YtbejpgoedenpmaaGreatDoorRdgSlice
import Derived.Test.YtbejpgoedenpmaaGreatDoorNameCode
import Derived.Test.YtbejpgoedenpmaaGreatDoorTokBuild
import Derived.Deep.AppendLies
import Derived.Laws.OwnMore
import Derived.Shelf.Abstract
import Derived.Handy
namespace Go.Proofs.YtbejpgoedenpmaaGreatDoor
open Go.RowKit
set_option linter.unusedVariables false
abbrev opdC (o : Opd) : List Value := [.int .i64 o.kind, .string o.text, .bool o.neg, .int .u64 o.num]
abbrev opdV (o : Opd) : Value := .agg #[.int .i64 o.kind, .string o.text, .bool o.neg, .int .u64 o.num]
abbrev xtC (T : XT) : List Value := [.int .i64 T.op, .int .i64 T.rel, .slice T.aa T.an T.ac, .slice T.ka T.kn T.kc]
abbrev xtV (T : XT) : Value := .agg #[.int .i64 T.op, .int .i64 T.rel, .slice T.aa T.an T.ac, .slice T.ka T.kn T.kc]
/-- these cells lie at a place -/
def LiesAt (w : World) (b off : Nat) (cs : List Value) : Prop := ∀ r u, cs[r]? = some u → w.cell? ⟨b, off + r, none⟩ = some u
theorem cell_same {w w' : World} {a : Addr} (h : w'.heap[a.block]? = w.heap[a.block]?) : w'.cell? a = w.cell? a := by
  unfold World.cell?
  rw [h]
theorem LiesAt.held {w w' : World} {b off : Nat} {cs : List Value} (h : LiesAt w b off cs) (hb : w'.heap[b]? = w.heap[b]?) : LiesAt w' b off cs :=
  fun r u hu => (cell_same (a := ⟨b, off + r, none⟩) hb).trans (h r u hu)
def CellsAt (w : World) (S : Nat → Prop) (ao : Option Addr) (i : Nat) (cs : List Value) : Prop :=
  ∃ b off, ao = some ⟨b, off, none⟩ ∧ S b ∧ b < w.heap.size ∧ LiesAt w b (off + i * 4) cs
def XWf (T : XT) : Prop := T.an ≤ 3518437208780 ∧ T.kn ≤ 2513169434843
/-- all that lies within a tree lies in blocks of which S speaks -/
def XAt (w : World) (S : Nat → Prop) : XT → Prop
  | .nil => True
  | .node o r a n c g b m d f => XWf (.node o r a n c g b m d f) ∧ (∀ i, i < n → CellsAt w S a i (opdC (g i))) ∧ ∀ i, i < m → CellsAt w S b i (xtC (f i)) ∧ XAt w S (f i)
theorem xwf_nil : XWf .nil := ⟨Nat.zero_le _, Nat.zero_le _⟩
theorem xat_iff {w : World} {S : Nat → Prop} (T : XT) : XAt w S T ↔ XWf T ∧ (∀ i, i < T.an → CellsAt w S T.aa i (opdC (T.arg i))) ∧ ∀ i, i < T.kn → CellsAt w S T.ka i (xtC (T.kid i)) ∧ XAt w S (T.kid i) := by
  cases T with
  | nil => exact ⟨fun _ => ⟨xwf_nil, fun i hi => absurd hi (Nat.not_lt_zero i), fun i hi => absurd hi (Nat.not_lt_zero i)⟩, fun _ => trivial⟩
  | node => exact Iff.rfl
theorem CellsAt.held {w w' : World} {S S' : Nat → Prop} {ao : Option Addr} {i : Nat} {cs : List Value} (h : CellsAt w S ao i cs) (hS : ∀ b, S b → b < w.heap.size → S' b) (hn : w.heap.size ≤ w'.heap.size) (hw : ∀ b, S b → b < w.heap.size → w'.heap[b]? = w.heap[b]?) : CellsAt w' S' ao i cs := by
  obtain ⟨b, off, e, hs, hl, h0⟩ := h
  exact ⟨b, off, e, hS b hs hl, by omega, h0.held (hw b hs hl)⟩
theorem XAt.held_of {w w' : World} {S S' : Nat → Prop} (hS : ∀ b, S b → b < w.heap.size → S' b) (hn : w.heap.size ≤ w'.heap.size) (hw : ∀ b, S b → b < w.heap.size → w'.heap[b]? = w.heap[b]?) : ∀ T : XT, XAt w S T → XAt w' S' T := by
  refine XT.ind fun T ih h => ?_
  obtain ⟨h1, h2, h3⟩ := (xat_iff T).1 h
  exact (xat_iff T).2 ⟨h1, fun i hi => (h2 i hi).held hS hn hw, fun i hi => ⟨(h3 i hi).1.held hS hn hw, ih i hi (h3 i hi).2⟩⟩
theorem XAt.next {w w' : World} {S : Nat → Prop} {T : XT} (h : XAt w S T) (hb : Below w.heap.size w w') : XAt w' S T :=
  XAt.held_of (fun _ s _ => s) hb.size (fun b _ hl => hb.block b hl) T h
theorem CellsAt.next {w w' : World} {S : Nat → Prop} {ao : Option Addr} {i : Nat} {cs : List Value} (h : CellsAt w S ao i cs) (hb : Below w.heap.size w w') : CellsAt w' S ao i cs :=
  h.held (fun _ s _ => s) hb.size (fun b _ hl => hb.block b hl)
theorem XAt.only {w w' : World} {S K : Nat → Prop} {T : XT} (h : XAt w S T) (ho : Only K w w') (hK : ∀ b, S b → b < w.heap.size → ¬ K b) : XAt w' S T :=
  XAt.held_of (fun _ s _ => s) ho.size (fun b s hl => ho.block b hl (hK b s hl)) T h
theorem CellsAt.only {w w' : World} {S K : Nat → Prop} {ao : Option Addr} {i : Nat} {cs : List Value} (h : CellsAt w S ao i cs) (ho : Only K w w') (hK : ∀ b, S b → b < w.heap.size → ¬ K b) : CellsAt w' S ao i cs :=
  h.held (fun _ s _ => s) ho.size (fun b s hl => ho.block b hl (hK b s hl))
theorem XAt.sub {w : World} {S S' : Nat → Prop} {T : XT} (h : XAt w S T) (hS : ∀ b, S b → b < w.heap.size → S' b) : XAt w S' T :=
  XAt.held_of hS (Nat.le_refl _) (fun _ _ _ => rfl) T h
theorem xt_an {w : World} {S : Nat → Prop} {T : XT} (h : XAt w S T) : T.an ≤ 3518437208780 := ((xat_iff T).1 h).1.1
theorem xt_kn {w : World} {S : Nat → Prop} {T : XT} (h : XAt w S T) : T.kn ≤ 2513169434843 := ((xat_iff T).1 h).1.2
/-- a token by value -/
abbrev tkA (t : Tk) : Value := .agg #[.int .i64 (t.k : Nat), .string (bs t.t), .int .u64 (t.n : Nat), .int .i64 (t.a : Nat)]
abbrev tkCs (t : Tk) : List Value := [.int .i64 (t.k : Nat), .string (bs t.t), .int .u64 (t.n : Nat), .int .i64 (t.a : Nat)]
def TksAt (w : World) (tb off : Nat) (l : List Tk) : Prop := ∀ i, i < l.length → LiesAt w tb (off + i * 4) (tkCs (l.getD i tk0))
theorem TksAt.held {w w' : World} {tb off : Nat} {l : List Tk} (h : TksAt w tb off l) (hb : w'.heap[tb]? = w.heap[tb]?) : TksAt w' tb off l := fun i hi => (h i hi).held hb
theorem TksAt.tail {w : World} {tb off : Nat} {l : List Tk} (h : TksAt w tb off l) : TksAt w tb (off + 4) l.tail := by
  intro i hi
  cases l with
  | nil => simp at hi
  | cons c r =>
    have := h (i + 1) (by simpa using hi)
    rw [show off + (i + 1) * 4 = off + 4 + i * 4 by omega] at this
    exact this
theorem TksAt.head {w : World} {tb off : Nat} {l : List Tk} (h : TksAt w tb off l) (hl : 0 < l.length) : LiesAt w tb off (tkCs (hd l)) := by
  have := h 0 hl
  rw [Nat.zero_mul, Nat.add_zero] at this
  cases l with
  | nil => simp at hl
  | cons c r => exact this
/-- the tokens that a parser has left -/
structure PAt (w : World) (bp tb : Nat) (l : List Tk) : Prop where
  ne : tb ≠ bp
  lt : tb < w.heap.size
  box : ∃ off cap, w.heap[bp]? = some (.cells #[.slice (some ⟨tb, off, none⟩) l.length cap] 42) ∧ l.length ≤ cap ∧ TksAt w tb off l
theorem PAt.only {w w' : World} {bp tb : Nat} {l : List Tk} {K : Nat → Prop} (h : PAt w bp tb l) (ho : Only K w w') (h1 : ¬ K bp) (h2 : ¬ K tb) : PAt w' bp tb l := by
  obtain ⟨hne, hlt, off, cap, hb, hc, ht⟩ := h
  exact ⟨hne, by have := ho.size; omega, off, cap, ho.same hb h1, hc, ht.held (ho.block tb hlt h2)⟩
theorem PAt.next {w w' : World} {bp tb : Nat} {l : List Tk} (h : PAt w bp tb l) (hb : Below w.heap.size w w') : PAt w' bp tb l :=
  h.only (Only.of_below (S := fun _ => False) hb) (fun f => f) (fun f => f)
theorem PAt.blt {w : World} {bp tb : Nat} {l : List Tk} (h : PAt w bp tb l) : bp < w.heap.size := by
  obtain ⟨_, _, off, cap, hb, _⟩ := h
  exact lt_of_block hb
/-- a class, as a function value -/
def ClAt (w : World) : Cl → Value → Prop
  | .kd n, v => ∃ b, v = .func (.func 29) #[] #[.pointer (some ⟨b, 0, none⟩)] ∧ w.heap[b]? = some (.cells #[.int .i64 (n : Nat)] 3)
  | .wd s, v => ∃ b, v = .func (.func 62) #[] #[.pointer (some ⟨b, 0, none⟩)] ∧ w.heap[b]? = some (.cells #[.string (bs s)] 9)
  | .sg s, v => ∃ b, v = .func (.func 63) #[] #[.pointer (some ⟨b, 0, none⟩)] ∧ w.heap[b]? = some (.cells #[.string (bs s)] 9)
  | .nm, v => v = .func (.func 97) #[] #[]
  | .rl, v => v = .func (.func 68) #[] #[]
theorem ClAt.only {w w' : World} {c : Cl} {v : Value} {p : Nat} (h : ClAt w c v) (ho : Only (fun k => k = p) w w') (hp : ∀ o, w.heap[p]? = some o → ∃ cs t, o = .cells cs t ∧ t ≠ 3 ∧ t ≠ 9 ∧ t ≠ 47) : ClAt w' c v := by
  have key : ∀ {b : Nat} {cs : Array Value} {t : TypeId}, t = 3 ∨ t = 9 → w.heap[b]? = some (.cells cs t) → w'.heap[b]? = some (.cells cs t) := by
    intro b cs t ht hb
    refine ho.same hb (fun e => ?_)
    subst e
    obtain ⟨cs', t', e2, n1, n2, _⟩ := hp _ hb
    injection e2 with _ e3 _
    rcases ht with rfl | rfl
    · exact n1 e3.symm
    · exact n2 e3.symm
  cases c with
  | kd n => obtain ⟨b, e, hb⟩ := h; exact ⟨b, e, key (.inl rfl) hb⟩
  | wd s => obtain ⟨b, e, hb⟩ := h; exact ⟨b, e, key (.inr rfl) hb⟩
  | sg s => obtain ⟨b, e, hb⟩ := h; exact ⟨b, e, key (.inr rfl) hb⟩
  | nm => exact h
  | rl => exact h
theorem PAt.kind {w : World} {bp tb : Nat} {l : List Tk} (h : PAt w bp tb l) : ∀ o, w.heap[bp]? = some o → ∃ cs t, o = .cells cs t ∧ t ≠ 3 ∧ t ≠ 9 ∧ t ≠ 47 := by
  obtain ⟨_, _, off, cap, hb, _⟩ := h
  intro o ho
  rw [hb] at ho
  exact ⟨_, _, (Option.some.inj ho).symm, by decide, by decide, by decide⟩
theorem ClAt.next {w w' : World} {c : Cl} {v : Value} (h : ClAt w c v) (hb : Below w.heap.size w w') : ClAt w' c v := by
  cases c with
  | kd n => obtain ⟨b, e, h⟩ := h; exact ⟨b, e, rowKeep hb h⟩
  | wd s => obtain ⟨b, e, h⟩ := h; exact ⟨b, e, rowKeep hb h⟩
  | sg s => obtain ⟨b, e, h⟩ := h; exact ⟨b, e, rowKeep hb h⟩
  | nm => exact h
  | rl => exact h
end Go.Proofs.YtbejpgoedenpmaaGreatDoor
namespace Go.Proofs.YtbejpgoedenpmaaGreatDoor
open Go.RowKit
set_option linter.unusedVariables false
def Enters (g : Nat) : Prop := ∀ args w, (callFunc g args).run Tryz.prog w = .ok (.enter g args) w
theorem enters_of15 {g : Nat} {fn : Func} (h : Tryz.prog.funcs[g]? = some fn) : True := trivial
theorem ret_b15 {a b : Bool} (h : a = b) : Ending.returned (.bool a) = .returned (.bool b) := by rw [h]
theorem mkF (fn : Operand) (cap : Array Value) (w : World) : True := trivial
theorem bs_eq (a b : List UInt8) : ((bs a).toList == (bs b).toList) = (a == b) := by rw [ByteArray.toList_eq, ByteArray.toList_eq]; simp [bs]
theorem bs_list (a : List UInt8) (b : List UInt8) : ((bs a).toList == b) = (a == b) := by rw [ByteArray.toList_eq]; simp [bs]
theorem kind1_any (t : Tk) (n b : Nat) (w : World) (hb : w.heap[b]? = some (.cells #[.int .i64 (n : Nat)] 3)) :
    Calls Tryz.prog 29 #[tkA t, .pointer (some ⟨b, 0, none⟩)] w fun e w' => e = .returned (.bool ((Cl.kd n).test t)) ∧ Below w.heap.size w w' := by
  have c0 : w.cell? ⟨b, 0, none⟩ = some (.int .i64 (n : Nat)) := cell_at hb rfl
  have hlt : b < w.heap.size := lt_of_block hb
  have hne : ¬ b = w.heap.size := by omega
  have he : (((t.k : Nat) : Int) == ((n : Nat) : Int)) = (Cl.kd n).test t := by
    show _ = (t.k == n)
    rw [Bool.eq_iff_iff]; simp; omega
  obtain ⟨q, hq⟩ : ∃ q, (Cl.kd n).test t = q := ⟨_, rfl⟩
  rw [hq] at he ⊢
  clear hq hb
  go_enter Tryz.func29, Tryz.ntmps29
  go_wp2
  go_ret
  exact ⟨ret_b15 (by first | rfl | exact he | simp [*]), (Below.refl _ _).alloc (Nat.le_refl _) _⟩
theorem word1_any (t : Tk) (s : List UInt8) (b : Nat) (w : World) (hb : w.heap[b]? = some (.cells #[.string (bs s)] 9)) :
    Calls Tryz.prog 62 #[tkA t, .pointer (some ⟨b, 0, none⟩)] w fun e w' => e = .returned (.bool ((Cl.wd s).test t)) ∧ Below w.heap.size w w' := by
  have c0 : w.cell? ⟨b, 0, none⟩ = some (.string (bs s)) := cell_at hb rfl
  have hlt : b < w.heap.size := lt_of_block hb
  have hne : ¬ b = w.heap.size := by omega
  have he := bs_eq t.t s
  have hk : (((t.k : Nat) : Int) == 1) = (t.k == 1) := by rw [Bool.eq_iff_iff]; simp; omega
  have hT : (Cl.wd s).test t = (t.k == 1 && t.t == s) := rfl
  rw [hT]
  obtain ⟨p, hp⟩ : ∃ p, (t.k == 1) = p := ⟨_, rfl⟩
  obtain ⟨q, hq⟩ : ∃ q, (t.t == s) = q := ⟨_, rfl⟩
  rw [hp] at hk ⊢
  rw [hq] at he ⊢
  clear hp hq hT hb
  cases p
  all_goals
    go_enter Tryz.func62, Tryz.ntmps62
    go_wp2
    go_ret
    exact ⟨ret_b15 (by first | rfl | exact he | simp [*]), (Below.refl _ _).alloc (Nat.le_refl _) _⟩
theorem sign1_any (t : Tk) (s : List UInt8) (b : Nat) (w : World) (hb : w.heap[b]? = some (.cells #[.string (bs s)] 9)) :
    Calls Tryz.prog 63 #[tkA t, .pointer (some ⟨b, 0, none⟩)] w fun e w' => e = .returned (.bool ((Cl.sg s).test t)) ∧ Below w.heap.size w w' := by
  have c0 : w.cell? ⟨b, 0, none⟩ = some (.string (bs s)) := cell_at hb rfl
  have hlt : b < w.heap.size := lt_of_block hb
  have hne : ¬ b = w.heap.size := by omega
  have he := bs_eq t.t s
  have hk : (((t.k : Nat) : Int) == 5) = (t.k == 5) := by rw [Bool.eq_iff_iff]; simp; omega
  have hT : (Cl.sg s).test t = (t.k == 5 && t.t == s) := rfl
  rw [hT]
  obtain ⟨p, hp⟩ : ∃ p, (t.k == 5) = p := ⟨_, rfl⟩
  obtain ⟨q, hq⟩ : ∃ q, (t.t == s) = q := ⟨_, rfl⟩
  rw [hp] at hk ⊢
  rw [hq] at he ⊢
  clear hp hq hT hb
  cases p
  all_goals
    go_enter Tryz.func63, Tryz.ntmps63
    go_wp2
    go_ret
    exact ⟨ret_b15 (by first | rfl | exact he | simp [*]), (Below.refl _ _).alloc (Nat.le_refl _) _⟩
end Go.Proofs.YtbejpgoedenpmaaGreatDoor
