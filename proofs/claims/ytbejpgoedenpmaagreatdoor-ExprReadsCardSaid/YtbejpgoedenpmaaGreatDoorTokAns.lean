/- What Tokens answers, bad or good, in one form. -/
import Derived.Test.YtbejpgoedenpmaaGreatDoorTokSame
import Derived.Test.YtbejpgoedenpmaaGreatDoorTokToks
namespace Go.Proofs.YtbejpgoedenpmaaGreatDoor
open Go.RowKit
set_option linter.unusedVariables false
def ansN : Ans → Nat | .bad _ _ => 0 | .good out => out.length
def ansL : Ans → Nat → TkV | .bad _ _, _ => default | .good out, i => atV out i
def ansE : Ans → Nat | .bad e _ => e | .good _ => 0
def ansF : Ans → Nat | .bad _ a => a | .good _ => 0
theorem AnsTo.gen {w w' : World} {A : Ans} {x : Ending} (h : AnsTo w A x w') : ∃ ao ca, x = .returned (.tuple #[.slice ao (ansN A) ca, .agg #[.int .i64 (ansE A : Nat), .int .i64 (ansF A : Nat)]]) ∧ (∀ i, i < ansN A → TkAt w' ao i (ansL A i)) ∧ Below w.heap.size w w' := by
  cases A with
  | bad e a =>
    obtain ⟨h1, h2⟩ := h
    exact ⟨none, 0, h1, fun i hi => absurd hi (Nat.not_lt_zero _), h2⟩
  | good out =>
    obtain ⟨⟨ao, cap, h1, h2⟩, h3⟩ := h
    exact ⟨ao, cap, h1, h2.1, h3⟩
theorem TA_len : ∀ (f : Nat) (l : List UInt8) (a : Nat) (out r : List Tk), out.length ≤ 64 → TA f l a out = .good r → r.length ≤ 65
  | 0, l, a, out, r, ho, h => by cases h
  | f + 1, [], a, out, r, ho, h => by
    have : out ++ [⟨6, [], 0, a⟩] = r := by injection h
    rw [← this]; simp; omega
  | f + 1, c :: q, a, out, r, ho, h => by
    rw [TA_step] at h
    by_cases hc : blk c = true
    · rw [if_pos hc] at h; exact TA_len f q (a + 1) out r ho h
    · rw [if_neg hc] at h
      cases hg : fstG (c :: q) with
      | err e b => rw [hg] at h; cases h
      | tok k t n len =>
        rw [hg] at h
        have h : (if out.length = 64 then Ans.bad 3 a else TA f ((c :: q).drop len) (a + len) (out ++ [⟨k, t, n, a⟩])) = .good r := h
        by_cases h64 : out.length = 64
        · rw [if_pos h64] at h; cases h
        · rw [if_neg h64] at h
          exact TA_len f _ _ _ r (by simp; omega) h
theorem tokA_len (l : List UInt8) : ansN (tokA l) ≤ 65 := by
  cases h : tokA l with
  | bad e a => exact Nat.zero_le _
  | good r =>
    unfold tokA at h
    split at h
    · cases h
    · exact TA_len _ l 0 [] r (by simp) h
set_option maxRecDepth 100000 in
theorem flt_eq (E A : Int) (w : World) : (binOp .eql 28 (.agg #[.int .i64 E, .int .i64 A]) (.agg #[.int .i64 E, .int .i64 A])).run Tryz.prog w = .ok (.bool true) w := by
  have hu := Tryz.underlying28
  have he := Tryz.underlying26
  have hi := Tryz.underlying3
  have p0 := fun w => run_equalIn_int (P := Tryz.prog) w 9998 26 .i64 .i64 E E he
  have p1 := fun w => run_equalIn_int (P := Tryz.prog) w 9998 3 .i64 .i64 A A hi
  rw [run_eql_struct, run_equalIn_agg _ 9999 _ _ _ (by kernel_rfl) (by kernel_rfl)]
  simp only [Program.fieldsOf, hu]
  simp [Op.eqFields, go_sem, p0, p1]
end Go.Proofs.YtbejpgoedenpmaaGreatDoor
