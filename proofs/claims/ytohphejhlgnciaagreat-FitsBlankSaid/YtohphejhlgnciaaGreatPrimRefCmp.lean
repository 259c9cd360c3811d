/- Contract of chapter 5's reference: Cmp. -/
import Derived.Test.YtohphejhlgnciaaGreatPrimRefOf
import Derived.Laws.Cover1
namespace Go.Proofs.YtohphejhlgnciaaGreat
open Go.RowKit
set_option linter.unusedVariables false
def cmpT (a b : ByteArray) : Int := threeZ (Op.bytesLess a.toList b.toList) (!Op.bytesLess a.toList b.toList && !(a.toList == b.toList))
/-- how two data stand -/
def cmpD (a b : DatV) : Int := if a.kind ≠ b.kind then (if a.kind < b.kind then -1 else 1) else if a.kind = 1 then cmpI (dv a) (dv b) else if a.kind = 2 then cmpT a.text b.text else if a.kind = 3 then cmpI a.num b.num else 0
theorem cmpD_kinds {a b : DatV} (h : a.kind ≠ b.kind) : cmpD a b = if a.kind < b.kind then -1 else if b.kind < a.kind then 1 else 0 := by
  unfold cmpD
  rw [if_pos h]
  by_cases c : a.kind < b.kind
  · rw [if_pos c, if_pos c]
  · rw [if_neg c, if_neg c, if_pos (by omega)]
theorem cmpD_num {a b : DatV} (h : a.kind = b.kind) (h1 : a.kind = 1) : cmpD a b = cmpI (dv a) (dv b) := by unfold cmpD; rw [if_neg (by omega), if_pos h1]
theorem cmpD_text {a b : DatV} (h : a.kind = b.kind) (h1 : a.kind = 2) : cmpD a b = cmpT a.text b.text := by unfold cmpD; rw [if_neg (by omega), if_neg (by omega), if_pos h1]
theorem cmpD_bool {a b : DatV} (h : a.kind = b.kind) (h1 : a.kind = 3) : cmpD a b = cmpI a.num b.num := by unfold cmpD; rw [if_neg (by omega), if_neg (by omega), if_neg (by omega), if_pos h1]
theorem cmpD_none {a b : DatV} (h : a.kind = b.kind) (h1 : a.kind ≠ 1) (h2 : a.kind ≠ 2) (h3 : a.kind ≠ 3) : cmpD a b = 0 := by unfold cmpD; rw [if_neg (by omega), if_neg h1, if_neg h2, if_neg h3]
theorem dec_if {a b : Prop} [Decidable a] [Decidable b] : threeZ (decide a) (decide b) = if a then -1 else if b then 1 else 0 := by simp [threeZ]
theorem neg_cases (g : Bool) (n : Int) (h : 0 ≤ n) : g = false ∨ (g = true ∧ decide (0 < n) = true) ∨ (g = true ∧ decide (0 < n) = false ∧ n = 0) := by
  cases g with
  | false => exact .inl rfl
  | true =>
    by_cases c : 0 < n
    · exact .inr (.inl ⟨rfl, by simpa using c⟩)
    · exact .inr (.inr ⟨rfl, by simpa using c, by omega⟩)
theorem cmp_pos {k a b : Int} {ta tb : ByteArray} : cmpI (dv ⟨k, false, a, ta⟩) (dv ⟨k, false, b, tb⟩) = threeZ (decide (a < b)) (decide (b < a)) := by rw [dec_if]; rfl
theorem cmp_neg {k a b : Int} {ta tb : ByteArray} : cmpI (dv ⟨k, true, a, ta⟩) (dv ⟨k, true, b, tb⟩) = threeZ (decide (b < a)) (decide (a < b)) := by
  rw [dec_if]
  show (if -a < -b then (-1 : Int) else if -b < -a then 1 else 0) = _
  by_cases c : b < a
  · rw [if_pos c, if_pos (by omega)]
  · by_cases d : a < b
    · rw [if_neg c, if_neg (by omega), if_pos d, if_pos (by omega)]
    · rw [if_neg c, if_neg (by omega), if_neg d, if_neg (by omega)]
theorem cmp_lo {k a b : Int} {g : Bool} {ta tb : ByteArray} (ha : decide (0 < a) = true) (hb : 0 ≤ dv ⟨k, g, b, tb⟩) : cmpI (dv ⟨k, true, a, ta⟩) (dv ⟨k, g, b, tb⟩) = threeZ true false := by
  have ha2 : 0 < a := by simpa using ha
  show (if -a < _ then (-1 : Int) else _) = -1
  rw [if_pos (by omega)]
theorem cmp_hi {k a b : Int} {g : Bool} {ta tb : ByteArray} (ha : decide (0 < a) = true) (hb : 0 ≤ dv ⟨k, g, b, tb⟩) : cmpI (dv ⟨k, g, b, tb⟩) (dv ⟨k, true, a, ta⟩) = threeZ false true := by
  have ha2 : 0 < a := by simpa using ha
  show (if _ < -a then (-1 : Int) else if -a < _ then 1 else 0) = 1
  rw [if_neg (by omega), if_pos (by omega)]
theorem dv_zero {k : Int} {t : ByteArray} : dv ⟨k, true, 0, t⟩ = dv ⟨k, false, 0, t⟩ := rfl
end Go.Proofs.YtohphejhlgnciaaGreat
