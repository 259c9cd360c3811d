/- Contract of package types: own. -/
import Derived.Test.YtohphejhlgnciaaGreatTypesCSmall
import Derived.Test.YtohphejhlgnciaaGreatTypesItem
import Derived.Laws.StructEq
import Derived.Deep.WholeRow
namespace Go.Proofs.YtohphejhlgnciaaGreat
open Go.RowKit
set_option linter.unusedVariables false
/-- an item with only the fields that its kind has -/
def ownI (k : Int) (x : ItemV) : ItemV := ⟨x.name, if k = 9 ∨ (k = 14 ∧ x.rest = false) then x.num else 0, if tysK k then x.type else 0, k == 13 && x.key, k == 14 && x.rest⟩
theorem retI {x y : ItemV} (h : x = y) : Ending.returned (itmV x) = .returned (itmV y) := by rw [h]
set_option maxHeartbeats 2000000 in
theorem own_any (k : Int) (x : ItemV) (w : World) : Calls Tryz.prog 86 #[.int .i64 k, itmV x] w fun e w' => e = .returned (itmV (ownI k x)) ∧ Below w.heap.size w w' := by
  unfold itmV
  have hc : k = 9 ∨ k = 13 ∨ (k = 14 ∧ x.rest = false) ∨ (k = 14 ∧ x.rest = true) ∨ (k ≠ 9 ∧ k ≠ 13 ∧ k ≠ 14) := by
    cases x.rest <;> simp <;> omega
  rcases hc with h | h | ⟨h, hr⟩ | ⟨h, hr⟩ | ⟨h, h', h''⟩
  · have e : ownI k x = ⟨x.name, x.num, 0, false, false⟩ := by subst h; simp [ownI, tysK]
    have k1 : tysK k = false := by simp [tysK]; omega
    have k2 : (k == 9) = true := by simp; omega
    have k3 : (k == 13) = false := by simp; omega
    have k4 : (k == 14) = false := by simp; omega
    rw [e]
    dsimp only
    clear e
    go_enter Tryz.func86, Tryz.ntmps86
    go_wp2_with (go_at_call 106; refine (hasTypes_any _ _).mono ?_; rintro e w' ⟨rfl, rfl⟩)
    go_returns
    exact ⟨rfl, by go_grown⟩
  · have e : ownI k x = ⟨x.name, 0, x.type, x.key, false⟩ := by subst h; simp [ownI, tysK]
    have k1 : tysK k = true := by simp [tysK]; omega
    have k2 : (k == 9) = false := by simp; omega
    have k3 : (k == 13) = true := by simp; omega
    have k4 : (k == 14) = false := by simp; omega
    rw [e]
    dsimp only
    clear e
    go_enter Tryz.func86, Tryz.ntmps86
    go_wp2_with (go_at_call 106; refine (hasTypes_any _ _).mono ?_; rintro e w' ⟨rfl, rfl⟩)
    go_returns
    exact ⟨rfl, by go_grown⟩
  · have e : ownI k x = ⟨x.name, x.num, x.type, false, false⟩ := by subst h; simp [ownI, tysK, hr]
    have k1 : tysK k = true := by simp [tysK]; omega
    have k2 : (k == 9) = false := by simp; omega
    have k3 : (k == 13) = false := by simp; omega
    have k4 : (k == 14) = true := by simp; omega
    rw [e]
    dsimp only
    clear e
    go_enter Tryz.func86, Tryz.ntmps86
    go_wp2_with (go_at_call 106; refine (hasTypes_any _ _).mono ?_; rintro e w' ⟨rfl, rfl⟩)
    go_returns
    exact ⟨rfl, by go_grown⟩
  · have e : ownI k x = ⟨x.name, 0, x.type, false, true⟩ := by subst h; simp [ownI, tysK, hr]
    have k1 : tysK k = true := by simp [tysK]; omega
    have k2 : (k == 9) = false := by simp; omega
    have k3 : (k == 13) = false := by simp; omega
    have k4 : (k == 14) = true := by simp; omega
    rw [e]
    dsimp only
    clear e
    go_enter Tryz.func86, Tryz.ntmps86
    go_wp2_with (go_at_call 106; refine (hasTypes_any _ _).mono ?_; rintro e w' ⟨rfl, rfl⟩)
    go_returns
    exact ⟨rfl, by go_grown⟩
  · have e : ownI k x = ⟨x.name, 0, 0, false, false⟩ := by simp [ownI, tysK, h, h', h'']
    have k1 : tysK k = false := by simp [tysK]; omega
    have k2 : (k == 9) = false := by simp; omega
    have k3 : (k == 13) = false := by simp; omega
    have k4 : (k == 14) = false := by simp; omega
    rw [e]
    dsimp only
    clear e
    go_enter Tryz.func86, Tryz.ntmps86
    go_wp2_with (go_at_call 106; refine (hasTypes_any _ _).mono ?_; rintro e w' ⟨rfl, rfl⟩)
    go_returns
    exact ⟨rfl, by go_grown⟩
end Go.Proofs.YtohphejhlgnciaaGreat
