/- Contract of chapter 5's reference: Of. -/
import Derived.Test.YtinmdkhafamibaaGreatPrimRef
import Derived.BigGuardPart
import Derived.Deep.DeepCutAuto
import Derived.Laws.Cover1
namespace Go.Proofs.YtinmdkhafamibaaGreat
open Go.RowKit
set_option linter.unusedVariables false
theorem ofB_no {k : Int} (d : DatV) (h : numK k = false) : ofB k d = false := by unfold ofB; rw [h]; rfl
theorem ofB_text {k : Int} {d : DatV} (h : d.text.toList.isEmpty = false) : ofB k d = false := by unfold ofB; rw [h]; simp
theorem ofB_kind {k : Int} {d : DatV} (h : (d.kind == dkK k) = false) : ofB k d = false := by unfold ofB; rw [h]; simp
theorem ofB_yes {k : Int} {d : DatV} (hk : numK k = true) (ht : d.text.toList.isEmpty = true) (h : (d.kind == dkK k) = true) : ofB k d = (decide (loK k ≤ dv d) && decide (dv d ≤ hiK k)) := by unfold ofB; rw [h, hk, ht]; simp
theorem of_plain {k kd num : Int} {neg : Bool} {tx : ByteArray} (hk : numK k = true) (h0 : 0 ≤ num) (h1 : num ≤ 18446744073709551615) (hn : ¬ (neg = true ∧ 0 < num)) : (decide (loK k ≤ dv ⟨kd, neg, num, tx⟩) && decide (dv ⟨kd, neg, num, tx⟩ ≤ hiK k)) = decide (num ≤ hiK k) ∧ IntKind.u64.wrap (dv ⟨kd, neg, num, tx⟩) = num := by
  have hd : dv ⟨kd, neg, num, tx⟩ = num := by
    unfold dv
    cases neg with
    | false => rfl
    | true => have : num = 0 := (by simp at hn; omega); subst this; rfl
  have hl : loK k ≤ 0 := by
    cases hs : sgK k with
    | true => have := most_sg hs; have h2 := pw_even (szK_sz hk); omega
    | false => unfold loK; rw [hs]; exact Int.le_refl _
  rw [hd, IntKind.wrap_u64]
  refine ⟨?_, by omega⟩
  rw [decide_eq_true (show loK k ≤ num by omega)]; simp
theorem of_minus {k kd num : Int} {tx : ByteArray} (h0 : 0 ≤ num) (h1 : num ≤ 18446744073709551615) (hp : 0 < num) (hh : 0 ≤ hiK k) : (decide (loK k ≤ dv ⟨kd, true, num, tx⟩) && decide (dv ⟨kd, true, num, tx⟩ ≤ hiK k)) = decide (num ≤ -loK k) ∧ IntKind.u64.wrap (dv ⟨kd, true, num, tx⟩) = IntKind.u64.wrap (-num) := by
  refine ⟨?_, rfl⟩
  show (decide (loK k ≤ -num) && decide (-num ≤ hiK k)) = _
  rw [decide_eq_true (show -num ≤ hiK k by omega), Bool.and_true, Bool.eq_iff_iff]; simp; omega
/-- what Of answers -/
def OfIs (k : Int) (d : DatV) (w : World) (e : Ending) (w' : World) : Prop := ∃ x, e = .returned (.tuple #[.int .u64 x, .bool (ofB k d)]) ∧ (ofB k d = true → x = ofN k d) ∧ Below w.heap.size w w'
theorem of_is {k : Int} {d : DatV} {w w' : World} {x : Int} {b : Bool} (hb : ofB k d = b) (hx : IntKind.u64.wrap (dv d) = x) (bel : Below w.heap.size w w') : OfIs k d w (.returned (.tuple #[.int .u64 x, .bool b])) w' :=
  ⟨x, by rw [hb], fun h => by unfold ofN; rw [h, if_pos rfl, hx], bel⟩
theorem hi_nonneg {k : Int} (hk : numK k = true) : 0 ≤ hiK k := by
  by_cases h1 : k = 1
  · subst h1; decide
  · have h2 := pw_even (szK_sz hk)
    cases hs : sgK k with
    | true => have := most_sg hs; omega
    | false => have := most_un h1 hs; omega
theorem neg_neg64 (num : Int) : IntKind.u64.wrap (-num) = IntKind.u64.wrap (wrap64 (-wrap64 num)) := by
  rw [IntKind.wrap_u64, IntKind.wrap_u64]; unfold wrap64; omega
theorem of_no {k : Int} {d : DatV} {w w' : World} (h : ofB k d = false) (hb : Below w.heap.size w w') : OfIs k d w (.returned (.tuple #[.int .u64 0, .bool false])) w' := ⟨0, by rw [h], fun h2 => by (rw [h] at h2; cases h2), hb⟩
end Go.Proofs.YtinmdkhafamibaaGreat
namespace Go.Proofs.YtinmdkhafamibaaGreat
open Go.RowKit
set_option linter.unusedVariables false
def cmpT (a b : ByteArray) : Int := threeZ (Op.bytesLess a.toList b.toList) (!Op.bytesLess a.toList b.toList && !(a.toList == b.toList))
/-- how two data stand -/
def cmpD (a b : DatV) : Int := if a.kind ≠ b.kind then (if a.kind < b.kind then -1 else 1) else if a.kind = 1 then cmpI (dv a) (dv b) else if a.kind = 2 then cmpT a.text b.text else if a.kind = 3 then cmpI a.num b.num else 0
theorem cmpD_kinds {a b : DatV} (h : a.kind ≠ b.kind) : cmpD a b = if a.kind < b.kind then -1 else if b.kind < a.kind then 1 else 0 := by
  unfold cmpD
  rw [if_pos h]
  by_cases c : a.kind < b.kind
  · rw [if_pos c, if_pos c]
  · rw [if_neg c, if_neg c, if_pos (by omega)]
theorem cmpD_num {a b : DatV} (h : a.kind = b.kind) (h1 : a.kind = 1) : cmpD a b = cmpI (dv a) (dv b) := by unfold cmpD; rw [if_neg (by omega), if_pos h1]
theorem cmpD_text {a b : DatV} (h : a.kind = b.kind) (h1 : a.kind = 2) : cmpD a b = cmpT a.text b.text := by unfold cmpD; rw [if_neg (by omega), if_neg (by omega), if_pos h1]
theorem cmpD_bool {a b : DatV} (h : a.kind = b.kind) (h1 : a.kind = 3) : cmpD a b = cmpI a.num b.num := by unfold cmpD; rw [if_neg (by omega), if_neg (by omega), if_neg (by omega), if_pos h1]
theorem cmpD_none {a b : DatV} (h : a.kind = b.kind) (h1 : a.kind ≠ 1) (h2 : a.kind ≠ 2) (h3 : a.kind ≠ 3) : cmpD a b = 0 := by unfold cmpD; rw [if_neg (by omega), if_neg h1, if_neg h2, if_neg h3]
theorem dec_if {a b : Prop} [Decidable a] [Decidable b] : threeZ (decide a) (decide b) = if a then -1 else if b then 1 else 0 := by simp [threeZ]
theorem neg_cases (g : Bool) (n : Int) (h : 0 ≤ n) : g = false ∨ (g = true ∧ decide (0 < n) = true) ∨ (g = true ∧ decide (0 < n) = false ∧ n = 0) := by
  cases g with
  | false => exact .inl rfl
  | true =>
    by_cases c : 0 < n
    · exact .inr (.inl ⟨rfl, by simpa using c⟩)
    · exact .inr (.inr ⟨rfl, by simpa using c, by omega⟩)
theorem cmp_pos {k a b : Int} {ta tb : ByteArray} : cmpI (dv ⟨k, false, a, ta⟩) (dv ⟨k, false, b, tb⟩) = threeZ (decide (a < b)) (decide (b < a)) := by rw [dec_if]; rfl
theorem cmp_neg {k a b : Int} {ta tb : ByteArray} : cmpI (dv ⟨k, true, a, ta⟩) (dv ⟨k, true, b, tb⟩) = threeZ (decide (b < a)) (decide (a < b)) := by
  rw [dec_if]
  show (if -a < -b then (-1 : Int) else if -b < -a then 1 else 0) = _
  by_cases c : b < a
  · rw [if_pos c, if_pos (by omega)]
  · by_cases d : a < b
    · rw [if_neg c, if_neg (by omega), if_pos d, if_pos (by omega)]
    · rw [if_neg c, if_neg (by omega), if_neg d, if_neg (by omega)]
theorem cmp_lo {k a b : Int} {g : Bool} {ta tb : ByteArray} (ha : decide (0 < a) = true) (hb : 0 ≤ dv ⟨k, g, b, tb⟩) : cmpI (dv ⟨k, true, a, ta⟩) (dv ⟨k, g, b, tb⟩) = threeZ true false := by
  have ha2 : 0 < a := by simpa using ha
  show (if -a < _ then (-1 : Int) else _) = -1
  rw [if_pos (by omega)]
theorem cmp_hi {k a b : Int} {g : Bool} {ta tb : ByteArray} (ha : decide (0 < a) = true) (hb : 0 ≤ dv ⟨k, g, b, tb⟩) : cmpI (dv ⟨k, g, b, tb⟩) (dv ⟨k, true, a, ta⟩) = threeZ false true := by
  have ha2 : 0 < a := by simpa using ha
  show (if _ < -a then (-1 : Int) else if -a < _ then 1 else 0) = 1
  rw [if_neg (by omega), if_pos (by omega)]
theorem dv_zero {k : Int} {t : ByteArray} : dv ⟨k, true, 0, t⟩ = dv ⟨k, false, 0, t⟩ := rfl
end Go.Proofs.YtinmdkhafamibaaGreat
