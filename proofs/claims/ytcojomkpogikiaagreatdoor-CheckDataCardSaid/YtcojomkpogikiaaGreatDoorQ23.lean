/- Values as trees: their depth, size, text and sameness, and when one is too great to be asked; in plain words. -/
import Derived.Lib.ItoaNum
import Derived.OwnWalk
import Derived.Deep.RegionHeld3
import Derived.Test.YtcojomkpogikiaaGreatDoorQ00
import Derived.Test.YtcojomkpogikiaaGreatDoorQ14
namespace Go.Proofs.YtcojomkpogikiaaGreatDoor.Pa
set_option linter.unusedVariables false
/-- a value, its Items by their place; nil: the zero value -/
inductive VT where
  | nil
  | node (kind num : Int) (text : ByteArray) (ia : Option Addr) (len cap : Nat) (kid : Nat → VT)
instance : Inhabited VT := ⟨.nil⟩
namespace VT
def kind : VT → Int | .nil => 0 | .node k _ _ _ _ _ _ => k
def num : VT → Int | .nil => 0 | .node _ n _ _ _ _ _ => n
def text : VT → ByteArray | .nil => ⟨#[]⟩ | .node _ _ s _ _ _ _ => s
def ia : VT → Option Addr | .nil => none | .node _ _ _ a _ _ _ => a
def len : VT → Nat | .nil => 0 | .node _ _ _ _ l _ _ => l
def cap : VT → Nat | .nil => 0 | .node _ _ _ _ _ c _ => c
def kid : VT → Nat → VT | .nil => fun _ => .nil | .node _ _ _ _ _ _ k => k
/-- what holds of a value if it holds of its Items holds of all -/
theorem ind {Q : VT → Prop} (h : ∀ T : VT, (∀ i, i < T.len → Q (T.kid i)) → Q T) : ∀ T, Q T
  | .nil => h _ (fun i hi => absurd hi (Nat.not_lt_zero i))
  | .node k n s a l c f => h _ (fun i _ => ind h (f i))
end VT
def maxTo (f : Nat → Nat) : Nat → Nat | 0 => 0 | n + 1 => max (maxTo f n) (f n)
theorem nDig_le : ∀ (k u : Nat), u < 10 ^ (k + 1) → Lib.nDigits u ≤ k + 1
  | 0, u, h => by rw [Lib.nDigits_small (by simpa using h)]; omega
  | k + 1, u, h => by
    by_cases c : u < 10
    · rw [Lib.nDigits_small c]; omega
    · rw [Lib.nDigits_big c]
      have := nDig_le k (u / 10) (by rw [Nat.div_lt_iff_lt_mul (by decide)]; rw [Nat.pow_succ] at h; exact h)
      omega
theorem dec_len (n : Nat) (h : n < 18446744073709551616) : (Lib.decDigits n).length ≤ 20 := by
  rw [Lib.decDigits_length]
  exact nDig_le 19 n (Nat.lt_trans h (by decide))
end Go.Proofs.YtcojomkpogikiaaGreatDoor.Pa
namespace Go.Proofs.YtcojomkpogikiaaGreatDoor.Pa
open Go.ChangeShapes Go.WideShapes Go.ChangeAt Go.RowKit
set_option linter.unusedVariables false
/-- an Item's cells, in a block of which S speaks -/
def CellsAt (w : World) (S : Nat → Prop) (ao : Option Addr) (i : Nat) (T : VT) : Prop :=
  ∃ b off, ao = some ⟨b, off, none⟩ ∧ S b ∧ b < w.heap.size ∧ w.cell? ⟨b, off + i * 4, none⟩ = some (.int .i64 T.kind) ∧ w.cell? ⟨b, off + i * 4 + 1, none⟩ = some (.int .u64 T.num) ∧
    w.cell? ⟨b, off + i * 4 + 2, none⟩ = some (.string T.text) ∧ w.cell? ⟨b, off + i * 4 + 3, none⟩ = some (.slice T.ia T.len T.cap)
theorem cell_same {w w' : World} {a : Addr} (h : w'.heap[a.block]? = w.heap[a.block]?) : w'.cell? a = w.cell? a := by
  unfold World.cell?
  rw [h]
end Go.Proofs.YtcojomkpogikiaaGreatDoor.Pa
namespace Go.Proofs.YtcojomkpogikiaaGreatDoor.Pa
open Go.RowKit
set_option linter.unusedVariables false
theorem below_step8' {w a b : World} (h : Below w.heap.size w a) (k : Below a.heap.size a b) : Below w.heap.size w b := h.trans (k.mono h.size)
end Go.Proofs.YtcojomkpogikiaaGreatDoor.Pa
namespace Go.Proofs.YtcojomkpogikiaaGreatDoor.Pa
open Go.RowKit
set_option linter.unusedVariables false
end Go.Proofs.YtcojomkpogikiaaGreatDoor.Pa
namespace Go.Proofs.YtcojomkpogikiaaGreatDoor.Pa
open Go.RowKit
set_option linter.unusedVariables false
end Go.Proofs.YtcojomkpogikiaaGreatDoor.Pa
