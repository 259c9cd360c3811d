/- Values as trees: their depth, size, text and sameness, and when one is too great to be asked; in plain words. -/
import Derived.Lib.ItoaNum
import Derived.OwnWalk
import Derived.Deep.RegionHeld3
import Derived.Test.YtcojomkpogikiaaGreatDoorA00
import Derived.Test.YtcojomkpogikiaaGreatDoorA14
namespace Go.Proofs.YtcojomkpogikiaaGreatDoor.Pa
set_option linter.unusedVariables false
/-- a value, its Items by their place; nil: the zero value -/
inductive VT where
  | nil
  | node (kind num : Int) (text : ByteArray) (ia : Option Addr) (len cap : Nat) (kid : Nat → VT)
instance : Inhabited VT := ⟨.nil⟩
namespace VT
def kind : VT → Int | .nil => 0 | .node k _ _ _ _ _ _ => k
def num : VT → Int | .nil => 0 | .node _ n _ _ _ _ _ => n
def text : VT → ByteArray | .nil => ⟨#[]⟩ | .node _ _ s _ _ _ _ => s
def ia : VT → Option Addr | .nil => none | .node _ _ _ a _ _ _ => a
def len : VT → Nat | .nil => 0 | .node _ _ _ _ l _ _ => l
def cap : VT → Nat | .nil => 0 | .node _ _ _ _ _ c _ => c
def kid : VT → Nat → VT | .nil => fun _ => .nil | .node _ _ _ _ _ _ k => k
/-- what holds of a value if it holds of its Items holds of all -/
theorem ind {Q : VT → Prop} (h : ∀ T : VT, (∀ i, i < T.len → Q (T.kid i)) → Q T) : ∀ T, Q T
  | .nil => h _ (fun i hi => absurd hi (Nat.not_lt_zero i))
  | .node k n s a l c f => h _ (fun i _ => ind h (f i))
end VT
def maxTo (f : Nat → Nat) : Nat → Nat | 0 => 0 | n + 1 => max (maxTo f n) (f n)
def anyTo (f : Nat → Bool) : Nat → Bool | 0 => false | n + 1 => anyTo f n || f n
theorem anyTo_iff {f : Nat → Bool} : ∀ n, anyTo f n = true ↔ ∃ i, i < n ∧ f i = true
  | 0 => by simp [anyTo]
  | n + 1 => by
    rw [anyTo, Bool.or_eq_true, anyTo_iff n]
    constructor
    · rintro (⟨i, hi, h⟩ | h)
      · exact ⟨i, by omega, h⟩
      · exact ⟨n, by omega, h⟩
    · rintro ⟨i, hi, h⟩
      rcases Nat.lt_succ_iff_lt_or_eq.1 hi with h' | rfl
      · exact .inl ⟨i, h', h⟩
      · exact .inr h
theorem anyTo_false {f : Nat → Bool} {n : Nat} (h : anyTo f n = false) (i : Nat) (hi : i < n) : f i = false := by
  cases hx : f i with
  | false => rfl
  | true => rw [(anyTo_iff n).2 ⟨i, hi, hx⟩] at h; cases h
theorem maxTo_le {f : Nat → Nat} {m : Nat} : ∀ n, (∀ i, i < n → f i ≤ m) → maxTo f n ≤ m
  | 0, _ => Nat.zero_le _
  | n + 1, h => by have := maxTo_le n (fun i hi => h i (by omega)); have := h n (by omega); rw [maxTo]; omega
end Go.Proofs.YtcojomkpogikiaaGreatDoor.Pa
namespace Go.Proofs.YtcojomkpogikiaaGreatDoor.Pa
open Go.ChangeShapes Go.WideShapes Go.ChangeAt Go.RowKit
set_option linter.unusedVariables false
/-- an Item's cells, in a block of which S speaks -/
def CellsAt (w : World) (S : Nat → Prop) (ao : Option Addr) (i : Nat) (T : VT) : Prop :=
  ∃ b off, ao = some ⟨b, off, none⟩ ∧ S b ∧ b < w.heap.size ∧ w.cell? ⟨b, off + i * 4, none⟩ = some (.int .i64 T.kind) ∧ w.cell? ⟨b, off + i * 4 + 1, none⟩ = some (.int .u64 T.num) ∧
    w.cell? ⟨b, off + i * 4 + 2, none⟩ = some (.string T.text) ∧ w.cell? ⟨b, off + i * 4 + 3, none⟩ = some (.slice T.ia T.len T.cap)
theorem cell_same {w w' : World} {a : Addr} (h : w'.heap[a.block]? = w.heap[a.block]?) : w'.cell? a = w.cell? a := by
  unfold World.cell?
  rw [h]
end Go.Proofs.YtcojomkpogikiaaGreatDoor.Pa
namespace Go.Proofs.YtcojomkpogikiaaGreatDoor.Pa
open Go.RowKit
set_option linter.unusedVariables false
theorem max_succ (f : Nat → Nat) (j : Nat) : maxTo f (j + 1) = max (maxTo f j) (f j) := rfl
end Go.Proofs.YtcojomkpogikiaaGreatDoor.Pa
namespace Go.Proofs.YtcojomkpogikiaaGreatDoor.Pa
open Go.RowKit
set_option linter.unusedVariables false
end Go.Proofs.YtcojomkpogikiaaGreatDoor.Pa
namespace Go.Proofs.YtcojomkpogikiaaGreatDoor.Pa
open Go.RowKit
set_option linter.unusedVariables false
end Go.Proofs.YtcojomkpogikiaaGreatDoor.Pa
