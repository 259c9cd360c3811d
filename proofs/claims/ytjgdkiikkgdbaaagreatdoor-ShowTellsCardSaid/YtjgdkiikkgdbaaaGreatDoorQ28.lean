/- The reference's test. -/
import Derived.Test.YtjgdkiikkgdbaaaGreatDoorQ14
import Derived.Test.YtjgdkiikkgdbaaaGreatDoorQ27
namespace Go.Proofs.YtjgdkiikkgdbaaaGreatDoor
open Go.RowKit
set_option linter.unusedVariables false
def relL : Nat → List UInt8
  | 1 => [61]
  | 2 => [60, 62]
  | 3 => [60]
  | 4 => [60, 61]
  | 5 => [62]
  | 6 => [62, 61]
  | _ => []
theorem relT_of (t : Tk) (k : Nat) (hk1 : 1 ≤ k) (hk : k < 7) (h : (Cl.sg (relL k)).test t = true) : relT t = k := by
  obtain ⟨h1, h2⟩ := sg_text h
  unfold relT
  rw [if_pos h1, h2]
  rcases (show k = 1 ∨ k = 2 ∨ k = 3 ∨ k = 4 ∨ k = 5 ∨ k = 6 by omega) with rfl | rfl | rfl | rfl | rfl | rfl <;> rfl
theorem furX_one (op rel : Int) (c : Cl) (l : List Tk) (o : Opd) (h : c.test (hd l) = true) : furX op rel [c] l [o] = match operandP l.tail with
    | .err e l' => .err e l'
    | .ok o2 l' => .ok (mkX op rel [o, o2] []) l' := by
  unfold furX
  rw [furP, if_pos h]
  cases operandP l.tail with
  | err e l' => rfl
  | ok o2 l' => rfl
theorem testP_ok {m : List Tk} {o : Opd} {l : List Tk} (h : operandP m = .ok o l) : testP m = testO o l := by unfold testP; rw [h]
theorem wd_ne {s s' : List UInt8} {t : Tk} (h : (Cl.wd s).test t = true) (hn : s ≠ s') : (Cl.wd s').test t = false := by
  obtain ⟨h1, h2⟩ := wd_text h
  show (t.k == 1 && t.t == s') = false
  rw [h2]; simp; exact fun _ e => hn e
end Go.Proofs.YtjgdkiikkgdbaaaGreatDoor
