/- The code of chapter 18: whether a node has its form. -/
import Derived.Test.YtcojomkpogikiaaGreatDoorQ28
namespace Go.Proofs.YtcojomkpogikiaaGreatDoor
open Go.RowKit
set_option linter.unusedVariables false
set_option linter.unusedSimpArgs false
theorem drewN_b18 {B : Nat} {w w1 : World} (h : Below B w w1) : ∀ m, Below B w (w1.drewN m)
  | 0 => h
  | m + 1 => (drewN_b18 h m).drew
def FormTo (T : XT) (b off : Nat) (w : World) : Prop :=
  Calls Tryz.prog 42 #[.pointer (some ⟨b, off, none⟩)] w fun e w' => e = .returned (.bool (!badF T.op T.rel T.an T.kn)) ∧ Below w.heap.size w w'
theorem lies_node {w : World} {b off : Nat} {T : XT} (h : LiesAt w b off (xtC T)) : w.cell? ⟨b, off, none⟩ = some (.int .i64 T.op) ∧ w.cell? ⟨b, off + 1, none⟩ = some (.int .i64 T.rel) ∧ w.cell? ⟨b, off + 2, none⟩ = some (.slice T.aa T.an T.ac) ∧ w.cell? ⟨b, off + 3, none⟩ = some (.slice T.ka T.kn T.kc) := ⟨h 0 _ rfl, h 1 _ rfl, h 2 _ rfl, h 3 _ rfl⟩
set_option maxRecDepth 100000 in
set_option maxHeartbeats 8000000 in
theorem hasForm_any (T : XT) (b off : Nat) (w : World) (h : LiesAt w b off (xtC T)) : FormTo T b off w := by
  unfold FormTo
  obtain ⟨c0, c1, c2, c3⟩ := lies_node h
  obtain ⟨R, hR⟩ : ∃ R, badF T.op T.rel T.an T.kn = R := ⟨_, rfl⟩
  rw [hR]
  generalize T.op = op at *
  generalize T.rel = rel at *
  generalize T.an = an at *
  generalize T.kn = kn at *
  generalize T.aa = aa at *
  generalize T.ac = ac at *
  generalize T.ka = ka at *
  generalize T.kc = kc at *
  clear h
  by_cases h1 : op = 1
  · subst h1
    by_cases g0 : an = 2
    · have f0 : ((an : Int) == 2) = true := by rw [beq_iff_eq]; omega
      by_cases g1 : kn = 0
      · have f1 : ((kn : Int) == 0) = true := by rw [beq_iff_eq]; omega
        by_cases g2 : 1 ≤ rel
        · have f2 : decide ((1 : Int) ≤ rel) = true := by rw [decide_eq_true_iff]; omega
          by_cases g3 : rel ≤ 6
          · have f3 : decide (rel ≤ (6 : Int)) = true := by rw [decide_eq_true_iff]; omega
            have hv : R = false := by rw [← hR]; unfold badF; simp [g0, g1, g2, g3]
            subst hv
            go_enter Tryz.func42, Tryz.ntmps42
            go_wp2_with (fail)
            go_quiet (fail)
            go_wp2_with (fail)
            go_ret
            exact ⟨rfl, drewN_b18 (Below.refl _ _) _⟩
          · have f3 : decide (rel ≤ (6 : Int)) = false := by rw [decide_eq_false_iff_not]; omega
            have hv : R = true := by rw [← hR]; unfold badF; simp [g0, g1, g2, g3]
            subst hv
            go_enter Tryz.func42, Tryz.ntmps42
            go_wp2_with (fail)
            go_quiet (fail)
            go_wp2_with (fail)
            go_ret
            exact ⟨rfl, drewN_b18 (Below.refl _ _) _⟩
        · have f2 : decide ((1 : Int) ≤ rel) = false := by rw [decide_eq_false_iff_not]; omega
          have hv : R = true := by rw [← hR]; unfold badF; simp [g0, g1, g2]
          subst hv
          go_enter Tryz.func42, Tryz.ntmps42
          go_wp2_with (fail)
          go_quiet (fail)
          go_wp2_with (fail)
          go_ret
          exact ⟨rfl, drewN_b18 (Below.refl _ _) _⟩
      · have f1 : ((kn : Int) == 0) = false := by rw [beq_eq_false_iff_ne]; omega
        have hv : R = true := by rw [← hR]; unfold badF; simp [g0, g1]
        subst hv
        go_enter Tryz.func42, Tryz.ntmps42
        go_wp2_with (fail)
        go_quiet (fail)
        go_wp2_with (fail)
        go_ret
        exact ⟨rfl, drewN_b18 (Below.refl _ _) _⟩
    · have f0 : ((an : Int) == 2) = false := by rw [beq_eq_false_iff_ne]; omega
      have hv : R = true := by rw [← hR]; unfold badF; simp [g0]
      subst hv
      go_enter Tryz.func42, Tryz.ntmps42
      go_wp2_with (fail)
      go_quiet (fail)
      go_wp2_with (fail)
      go_ret
      exact ⟨rfl, drewN_b18 (Below.refl _ _) _⟩
  have n1 : (op == 1) = false := by rw [beq_eq_false_iff_ne]; exact h1
  by_cases h2 : op = 2
  · subst h2
    clear n1 h1
    by_cases g0 : an = 3
    · have f0 : ((an : Int) == 3) = true := by rw [beq_iff_eq]; omega
      by_cases g1 : kn = 0
      · have f1 : ((kn : Int) == 0) = true := by rw [beq_iff_eq]; omega
        have hv : R = false := by rw [← hR]; unfold badF; simp [g0, g1]
        subst hv
        go_enter Tryz.func42, Tryz.ntmps42
        go_wp2_with (fail)
        go_quiet (fail)
        go_wp2_with (fail)
        go_ret
        exact ⟨rfl, drewN_b18 (Below.refl _ _) _⟩
      · have f1 : ((kn : Int) == 0) = false := by rw [beq_eq_false_iff_ne]; omega
        have hv : R = true := by rw [← hR]; unfold badF; simp [g0, g1]
        subst hv
        go_enter Tryz.func42, Tryz.ntmps42
        go_wp2_with (fail)
        go_quiet (fail)
        go_wp2_with (fail)
        go_ret
        exact ⟨rfl, drewN_b18 (Below.refl _ _) _⟩
    · have f0 : ((an : Int) == 3) = false := by rw [beq_eq_false_iff_ne]; omega
      have hv : R = true := by rw [← hR]; unfold badF; simp [g0]
      subst hv
      go_enter Tryz.func42, Tryz.ntmps42
      go_wp2_with (fail)
      go_quiet (fail)
      go_wp2_with (fail)
      go_ret
      exact ⟨rfl, drewN_b18 (Below.refl _ _) _⟩
  have n2 : (op == 2) = false := by rw [beq_eq_false_iff_ne]; exact h2
  by_cases h3 : op = 3
  · subst h3
    clear n1 h1 n2 h2
    by_cases g0 : an = 2
    · have f0 : ((an : Int) == 2) = true := by rw [beq_iff_eq]; omega
      by_cases g1 : kn = 0
      · have f1 : ((kn : Int) == 0) = true := by rw [beq_iff_eq]; omega
        have hv : R = false := by rw [← hR]; unfold badF; simp [g0, g1]
        subst hv
        go_enter Tryz.func42, Tryz.ntmps42
        go_wp2_with (fail)
        go_quiet (fail)
        go_wp2_with (fail)
        go_ret
        exact ⟨rfl, drewN_b18 (Below.refl _ _) _⟩
      · have f1 : ((kn : Int) == 0) = false := by rw [beq_eq_false_iff_ne]; omega
        have hv : R = true := by rw [← hR]; unfold badF; simp [g0, g1]
        subst hv
        go_enter Tryz.func42, Tryz.ntmps42
        go_wp2_with (fail)
        go_quiet (fail)
        go_wp2_with (fail)
        go_ret
        exact ⟨rfl, drewN_b18 (Below.refl _ _) _⟩
    · have f0 : ((an : Int) == 2) = false := by rw [beq_eq_false_iff_ne]; omega
      have hv : R = true := by rw [← hR]; unfold badF; simp [g0]
      subst hv
      go_enter Tryz.func42, Tryz.ntmps42
      go_wp2_with (fail)
      go_quiet (fail)
      go_wp2_with (fail)
      go_ret
      exact ⟨rfl, drewN_b18 (Below.refl _ _) _⟩
  have n3 : (op == 3) = false := by rw [beq_eq_false_iff_ne]; exact h3
  by_cases h4 : op = 4
  · subst h4
    clear n1 h1 n2 h2 n3 h3
    by_cases g0 : an = 0
    · have f0 : ((an : Int) == 0) = true := by rw [beq_iff_eq]; omega
      by_cases g1 : kn = 1
      · have f1 : ((kn : Int) == 1) = true := by rw [beq_iff_eq]; omega
        have hv : R = false := by rw [← hR]; unfold badF; simp [g0, g1]
        subst hv
        go_enter Tryz.func42, Tryz.ntmps42
        go_wp2_with (fail)
        go_quiet (fail)
        go_wp2_with (fail)
        go_ret
        exact ⟨rfl, drewN_b18 (Below.refl _ _) _⟩
      · have f1 : ((kn : Int) == 1) = false := by rw [beq_eq_false_iff_ne]; omega
        have hv : R = true := by rw [← hR]; unfold badF; simp [g0, g1]
        subst hv
        go_enter Tryz.func42, Tryz.ntmps42
        go_wp2_with (fail)
        go_quiet (fail)
        go_wp2_with (fail)
        go_ret
        exact ⟨rfl, drewN_b18 (Below.refl _ _) _⟩
    · have f0 : ((an : Int) == 0) = false := by rw [beq_eq_false_iff_ne]; omega
      have hv : R = true := by rw [← hR]; unfold badF; simp [g0]
      subst hv
      go_enter Tryz.func42, Tryz.ntmps42
      go_wp2_with (fail)
      go_quiet (fail)
      go_wp2_with (fail)
      go_ret
      exact ⟨rfl, drewN_b18 (Below.refl _ _) _⟩
  have n4 : (op == 4) = false := by rw [beq_eq_false_iff_ne]; exact h4
  by_cases h5 : op = 5
  · subst h5
    clear n1 h1 n2 h2 n3 h3 n4 h4
    by_cases g0 : an = 0
    · have f0 : ((an : Int) == 0) = true := by rw [beq_iff_eq]; omega
      by_cases g1 : 2 ≤ kn
      · have f1 : decide ((2 : Int) ≤ (kn : Int)) = true := by rw [decide_eq_true_iff]; omega
        have hv : R = false := by rw [← hR]; unfold badF; simp [g0, g1]
        subst hv
        go_enter Tryz.func42, Tryz.ntmps42
        go_wp2_with (fail)
        go_quiet (fail)
        go_wp2_with (fail)
        go_ret
        exact ⟨rfl, drewN_b18 (Below.refl _ _) _⟩
      · have f1 : decide ((2 : Int) ≤ (kn : Int)) = false := by rw [decide_eq_false_iff_not]; omega
        have hv : R = true := by rw [← hR]; unfold badF; simp [g0, g1]
        subst hv
        go_enter Tryz.func42, Tryz.ntmps42
        go_wp2_with (fail)
        go_quiet (fail)
        go_wp2_with (fail)
        go_ret
        exact ⟨rfl, drewN_b18 (Below.refl _ _) _⟩
    · have f0 : ((an : Int) == 0) = false := by rw [beq_eq_false_iff_ne]; omega
      have hv : R = true := by rw [← hR]; unfold badF; simp [g0]
      subst hv
      go_enter Tryz.func42, Tryz.ntmps42
      go_wp2_with (fail)
      go_quiet (fail)
      go_wp2_with (fail)
      go_ret
      exact ⟨rfl, drewN_b18 (Below.refl _ _) _⟩
  have n5 : (op == 5) = false := by rw [beq_eq_false_iff_ne]; exact h5
  by_cases h6 : op = 6
  · subst h6
    clear n1 h1 n2 h2 n3 h3 n4 h4 n5 h5
    by_cases g0 : an = 0
    · have f0 : ((an : Int) == 0) = true := by rw [beq_iff_eq]; omega
      by_cases g1 : 2 ≤ kn
      · have f1 : decide ((2 : Int) ≤ (kn : Int)) = true := by rw [decide_eq_true_iff]; omega
        have hv : R = false := by rw [← hR]; unfold badF; simp [g0, g1]
        subst hv
        go_enter Tryz.func42, Tryz.ntmps42
        go_wp2_with (fail)
        go_quiet (fail)
        go_wp2_with (fail)
        go_ret
        exact ⟨rfl, drewN_b18 (Below.refl _ _) _⟩
      · have f1 : decide ((2 : Int) ≤ (kn : Int)) = false := by rw [decide_eq_false_iff_not]; omega
        have hv : R = true := by rw [← hR]; unfold badF; simp [g0, g1]
        subst hv
        go_enter Tryz.func42, Tryz.ntmps42
        go_wp2_with (fail)
        go_quiet (fail)
        go_wp2_with (fail)
        go_ret
        exact ⟨rfl, drewN_b18 (Below.refl _ _) _⟩
    · have f0 : ((an : Int) == 0) = false := by rw [beq_eq_false_iff_ne]; omega
      have hv : R = true := by rw [← hR]; unfold badF; simp [g0]
      subst hv
      go_enter Tryz.func42, Tryz.ntmps42
      go_wp2_with (fail)
      go_quiet (fail)
      go_wp2_with (fail)
      go_ret
      exact ⟨rfl, drewN_b18 (Below.refl _ _) _⟩
  have n6 : (op == 6) = false := by rw [beq_eq_false_iff_ne]; exact h6
  have hv : R = true := by rw [← hR]; unfold badF; simp [h1, h2, h3, h4, h5, h6]
  subst hv
  clear hR h1 h2 h3 h4 h5 h6
  go_enter Tryz.func42, Tryz.ntmps42
  go_wp2_with (fail)
  go_quiet (fail)
  go_wp2_with (fail)
  go_ret
  exact ⟨rfl, drewN_b18 (Below.refl _ _) _⟩
end Go.Proofs.YtcojomkpogikiaaGreatDoor
