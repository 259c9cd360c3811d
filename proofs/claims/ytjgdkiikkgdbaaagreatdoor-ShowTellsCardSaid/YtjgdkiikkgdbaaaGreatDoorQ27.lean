/- The reference's parser: a place in the tokens that is handed on; bad, is, must. -/
import Derived.Test.YtjgdkiikkgdbaaaGreatDoorQ09
import Derived.Test.YtjgdkiikkgdbaaaGreatDoorQ25
namespace Go.Proofs.YtjgdkiikkgdbaaaGreatDoor
open Go.RowKit
set_option linter.unusedVariables false
end Go.Proofs.YtjgdkiikkgdbaaaGreatDoor
namespace Go.Proofs.YtjgdkiikkgdbaaaGreatDoor
open Go.RowKit
set_option linter.unusedVariables false
end Go.Proofs.YtjgdkiikkgdbaaaGreatDoor
namespace Go.Proofs.YtjgdkiikkgdbaaaGreatDoor
open Go.RowKit
set_option linter.unusedVariables false
def contR (f : Nat) : PR (List UInt8) → PR (List UInt8)
  | .err e l' => .err e l'
  | .ok s' l' => pathL f l' s'
theorem pathS_cont (l : List Tk) : pathS l = contR 100 (stepP [.nm] l []) := by
  unfold pathS; cases stepP [.nm] l [] <;> rfl
theorem pathL_cont (f : Nat) (m : List Tk) (S : List UInt8) (h : (cDot.test (hd m) || cOpen.test (hd m)) = true) : pathL (f + 1) m S = contR f (stepP [cDot, .nm] m S) := by
  rw [pathL, if_pos h]; cases stepP [cDot, .nm] m S <;> rfl
theorem pathL_end (f : Nat) (m : List Tk) (S : List UInt8) (h1 : cDot.test (hd m) = false) (h2 : cOpen.test (hd m) = false) : pathL (f + 1) m S = .ok S m := by
  rw [pathL, if_neg (by rw [h1, h2]; decide)]
theorem sg_text {s : List UInt8} {t : Tk} (h : (Cl.sg s).test t = true) : t.k = 5 ∧ t.t = s := by
  have h : (t.k == 5 && t.t == s) = true := h
  simpa using h
theorem wd_text {s : List UInt8} {t : Tk} (h : (Cl.wd s).test t = true) : t.k = 1 ∧ t.t = s := by
  have h : (t.k == 1 && t.t == s) = true := h
  simpa using h
def cShut : Cl := .sg [93]
/-- an item, behind an opening bracket -/
theorem step_item (item : List Cl) (l : List Tk) (S : List UInt8) (h : cOpen.test (hd l) = true) : stepP item l S = if (Cl.kd 2).test (hd l.tail) then (if cShut.test (hd l.tail.tail) then .ok (S ++ (91 :: ((hd l.tail).t ++ [93]))) l.tail.tail.tail else .err 11 l.tail.tail) else .err 11 l.tail := by
  unfold stepP
  rw [if_pos h]
  have h0 : (Cl.sg [91]).test (hd l) = true := h
  show eat [.sg [91], .kd 2, .sg [93]] l S = _
  rw [eat, if_pos h0, eat]
  by_cases h2 : (Cl.kd 2).test (hd l.tail) = true
  · rw [if_pos h2, if_pos h2, eat]
    by_cases h3 : cShut.test (hd l.tail.tail) = true
    · have h3' : (Cl.sg [93]).test (hd l.tail.tail) = true := h3
      have e1 := (sg_text h0).2
      have e3 := (sg_text h3).2
      rw [if_pos h3', if_pos h3, eat, e1, e3]
      simp
    · have h3' : ¬ (Cl.sg [93]).test (hd l.tail.tail) = true := h3
      rw [if_neg h3', if_neg h3]
  · rw [if_neg h2, if_neg h2]
theorem step_name (l : List Tk) (S : List UInt8) (h : cOpen.test (hd l) = false) : stepP [.nm] l S = if Cl.nm.test (hd l) then .ok (S ++ (hd l).t) l.tail else .err 11 l := by
  unfold stepP
  rw [if_neg (by rw [h]; decide), eat]
  rfl
theorem step_dot (l : List Tk) (S : List UInt8) (h : cDot.test (hd l) = true) (h2 : cOpen.test (hd l) = false) : stepP [cDot, .nm] l S = if Cl.nm.test (hd l.tail) then .ok (S ++ [46] ++ (hd l.tail).t) l.tail.tail else .err 11 l.tail := by
  unfold stepP
  rw [if_neg (by rw [h2]; decide), eat, if_pos h, eat, (sg_text h).2]
  rfl
theorem dot_open {t : Tk} (h : cDot.test t = true) : cOpen.test t = false := by
  have e := sg_text h
  show (t.k == 5 && t.t == [91]) = false
  rw [e.2]; simp
end Go.Proofs.YtjgdkiikkgdbaaaGreatDoor
/- The reference's operand. -/
namespace Go.Proofs.YtjgdkiikkgdbaaaGreatDoor
open Go.RowKit
set_option linter.unusedVariables false
theorem opd_minus {l : List Tk} (h : cMinus.test (hd l) = true) : operandP l = numP true l.tail := by
  have e := (sg_text h).1
  have h1 : ∀ n, n ≠ 5 → (Cl.kd n).test (hd l) = false := fun n hn => by show ((hd l).k == n) = false; rw [e]; simpa using fun e => hn e.symm
  have h2 : ∀ s, (Cl.wd s).test (hd l) = false := fun s => by show ((hd l).k == 1 && _) = false; rw [e]; rfl
  unfold operandP
  rw [if_neg (by rw [h1 3 (by decide)]; decide), if_neg (by rw [h1 4 (by decide)]; decide), if_neg (by rw [h2]; decide), if_neg (by rw [h2]; decide), if_pos (by rw [h]; rfl)]
  unfold numberP
  rw [if_pos h]
theorem kd_eq (n : Nat) (t : Tk) : (Cl.kd n).test t = (t.k == n) := rfl
theorem opd_num {l : List Tk} (h : (hd l).k = 2) : operandP l = .ok ⟨2, ⟨#[]⟩, false, ((hd l).n : Nat)⟩ l.tail := by
  have hs : ∀ s, (Cl.sg s).test (hd l) = false := fun s => by show ((hd l).k == 5 && _) = false; rw [h]; rfl
  have h2 : ∀ s, (Cl.wd s).test (hd l) = false := fun s => by show ((hd l).k == 1 && _) = false; rw [h]; rfl
  unfold operandP
  rw [if_neg (by rw [kd_eq, h]; decide), if_neg (by rw [kd_eq, h]; decide), if_neg (by rw [h2]; decide), if_neg (by rw [h2]; decide), if_pos (by rw [kd_eq, h]; simp)]
  unfold numberP
  rw [if_neg (by rw [show cMinus.test (hd l) = false from hs _]; decide)]
  unfold numP
  rw [if_pos (by rw [kd_eq, h]; rfl)]
theorem opd_text {l : List Tk} (h : (hd l).k = 3) : operandP l = .ok ⟨3, ⟨(hd l).t.toArray⟩, false, 0⟩ l.tail := by
  unfold operandP
  rw [if_pos (by rw [kd_eq, h]; rfl)]
theorem opd_par {l : List Tk} (h : (hd l).k = 4) : operandP l = .ok ⟨5, ⟨#[]⟩, false, ((hd l).n : Nat)⟩ l.tail := by
  unfold operandP
  rw [if_neg (by rw [kd_eq, h]; decide), if_pos (by rw [kd_eq, h]; rfl)]
theorem opd_true {l : List Tk} (h : (Cl.wd kTRUE).test (hd l) = true) : operandP l = .ok ⟨4, ⟨#[]⟩, false, 1⟩ l.tail := by
  have e := (wd_text h).1
  unfold operandP
  rw [if_neg (by rw [kd_eq, e]; decide), if_neg (by rw [kd_eq, e]; decide), if_pos h]
theorem opd_false {l : List Tk} (h0 : (Cl.wd kTRUE).test (hd l) = false) (h : (Cl.wd kFALSE).test (hd l) = true) : operandP l = .ok ⟨4, ⟨#[]⟩, false, 0⟩ l.tail := by
  have e := (wd_text h).1
  unfold operandP
  rw [if_neg (by rw [kd_eq, e]; decide), if_neg (by rw [kd_eq, e]; decide), if_neg (by rw [h0]; decide), if_pos h]
theorem opd_path {l : List Tk} (hm : cMinus.test (hd l) = false) (h2 : (hd l).k ≠ 2) (h3 : (hd l).k ≠ 3) (h4 : (hd l).k ≠ 4) (h0 : (Cl.wd kTRUE).test (hd l) = false) (h1 : (Cl.wd kFALSE).test (hd l) = false) : operandP l = pathP l := by
  unfold operandP
  rw [if_neg (by rw [kd_eq]; simpa using h3), if_neg (by rw [kd_eq]; simpa using h4), if_neg (by rw [h0]; decide), if_neg (by rw [h1]; decide), if_neg (by rw [hm, kd_eq]; simpa using h2)]
end Go.Proofs.YtjgdkiikkgdbaaaGreatDoor
