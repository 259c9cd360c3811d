/- Contracts of package types: the fields of a kind, a list's place, a type's kind. -/
import Derived.Test.YtohphejhlgnciaaGreatTypesRef2
namespace Go.Proofs.YtohphejhlgnciaaGreat
open Go.RowKit
set_option linter.unusedVariables false
def ofK (k : Int) : Bool := k == 11 || k == 12
def boundK (k : Int) : Bool := ofK k || k == 10
def tysK (k : Int) : Bool := k == 13 || k == 14
def kindL (L : Nat → TypeV) (len : Nat) (t : Int) : Int := if inL len t then (L t.toNat).kind else 0
theorem hasItems_any (k : Int) (w : World) : Calls Tryz.prog 82 #[.int .i64 k] w fun e w' => e = .returned (.bool (namedK k)) ∧ w = w' := by
  go_enter Tryz.func82, Tryz.ntmps82
  go_wp2
  all_goals
    go_ret
    refine ⟨ret_b ?_, rfl⟩
    rw [Bool.eq_iff_iff]; simp [namedK, *]
theorem hasOf_any (k : Int) (w : World) : Calls Tryz.prog 84 #[.int .i64 k] w fun e w' => e = .returned (.bool (ofK k)) ∧ w = w' := by
  go_enter Tryz.func84, Tryz.ntmps84
  go_wp2
  all_goals
    go_ret
    refine ⟨ret_b ?_, rfl⟩
    rw [Bool.eq_iff_iff]; simp [ofK, *]
theorem hasBound_any (k : Int) (w : World) : Calls Tryz.prog 83 #[.int .i64 k] w fun e w' => e = .returned (.bool (boundK k)) ∧ w = w' := by
  obtain ⟨b, hb⟩ : ∃ b, ofK k = b := ⟨_, rfl⟩
  have h := hasOf_any k
  rw [hb] at h
  have HO := Lib.hid h
  have HB := Lib.hid hb
  clear h hb
  go_enter Tryz.func83, Tryz.ntmps83
  cases b
  all_goals
    go_wp2_with (go_at_call 84; refine (HO.out _).mono ?_; rintro e w' ⟨rfl, rfl⟩)
    all_goals
      go_ret
      refine ⟨ret_b ?_, rfl⟩
      unfold boundK; rw [HB.out]; simp [*]
theorem hasTag_any (k : Int) (w : World) : Calls Tryz.prog 85 #[.int .i64 k] w fun e w' => e = .returned (.bool (k == 14)) ∧ w = w' := by
  go_enter Tryz.func85, Tryz.ntmps85
  go_wp2
  all_goals
    go_ret
    exact ⟨ret_b (by first | rfl | simp [*]), rfl⟩
theorem hasTypes_any (k : Int) (w : World) : Calls Tryz.prog 106 #[.int .i64 k] w fun e w' => e = .returned (.bool (tysK k)) ∧ w = w' := by
  go_enter Tryz.func106, Tryz.ntmps106
  go_wp2
  all_goals
    go_ret
    refine ⟨ret_b ?_, rfl⟩
    rw [Bool.eq_iff_iff]; simp [tysK, *]
theorem isIn_any (ao : Option Addr) (len cap : Nat) (hlen : len ≤ 140737488351232) (t : Int) (w : World) : Calls Tryz.prog 89 #[.slice ao len cap, .int .i64 t] w fun e w' => e = .returned (.bool (inL len t)) ∧ w = w' := by
  go_enter Tryz.func89, Tryz.ntmps89
  go_wp2
  all_goals
    go_ret
    refine ⟨ret_b ?_, rfl⟩
    rw [Bool.eq_iff_iff]; simp [inL, *] <;> (intros; omega)
set_option maxHeartbeats 1000000 in
theorem kindOf_any (ao : Option Addr) (len cap : Nat) (L : Nat → TypeV) (hlen : len ≤ 140737488351232) (t : Int) (w : World) (H : ∀ i, i < len → TypeAt w ao i (L i)) :
    Calls Tryz.prog 72 #[.slice ao len cap, .int .i64 t] w fun e w' => e = .returned (.int .i64 (kindL L len t)) ∧ w = w' := by
  have HI := Lib.hid (isIn_any ao len cap hlen t)
  by_cases ht : 0 ≤ t ∧ t < len
  · obtain ⟨h0, h1⟩ := ht
    obtain ⟨k, rfl⟩ := Int.eq_ofNat_of_zero_le h0
    have hk : k < len := by omega
    have e0 : kindL L len (k : Nat) = (L k).kind := by unfold kindL; rw [inL_yes hk]; rfl
    rw [e0]
    rw [inL_yes hk] at HI
    obtain ⟨b, off, rfl, c0, c1, c2, c3, c4, c5, wf, hi⟩ := H k hk
    clear H hi e0
    go_enter Tryz.func72, Tryz.ntmps72
    go_wp2_with (go_at_call 89; refine (HI.out _).mono ?_; rintro e w' ⟨rfl, rfl⟩)
    go_ret
    exact ⟨rfl, rfl⟩
  · have e0 : kindL L len t = 0 := by unfold kindL; rw [inL_no ht]; rfl
    rw [e0]
    rw [inL_no ht] at HI
    clear ht e0 H
    go_enter Tryz.func72, Tryz.ntmps72
    go_wp2_with (go_at_call 89; refine (HI.out _).mono ?_; rintro e w' ⟨rfl, rfl⟩)
    go_ret
    exact ⟨rfl, rfl⟩
end Go.Proofs.YtohphejhlgnciaaGreat
