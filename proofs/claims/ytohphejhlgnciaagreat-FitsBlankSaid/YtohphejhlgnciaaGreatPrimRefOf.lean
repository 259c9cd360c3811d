/- Contract of chapter 5's reference: Of. -/
import Derived.Test.YtohphejhlgnciaaGreatPrimRef
import Derived.BigGuardPart
import Derived.Deep.DeepCutAuto
namespace Go.Proofs.YtohphejhlgnciaaGreat
open Go.RowKit
set_option linter.unusedVariables false
theorem ofB_no {k : Int} (d : DatV) (h : numK k = false) : ofB k d = false := by unfold ofB; rw [h]; rfl
theorem ofB_text {k : Int} {d : DatV} (h : d.text.toList.isEmpty = false) : ofB k d = false := by unfold ofB; rw [h]; simp
theorem ofB_kind {k : Int} {d : DatV} (h : (d.kind == dkK k) = false) : ofB k d = false := by unfold ofB; rw [h]; simp
theorem ofB_yes {k : Int} {d : DatV} (hk : numK k = true) (ht : d.text.toList.isEmpty = true) (h : (d.kind == dkK k) = true) : ofB k d = (decide (loK k ≤ dv d) && decide (dv d ≤ hiK k)) := by unfold ofB; rw [h, hk, ht]; simp
theorem of_plain {k kd num : Int} {neg : Bool} {tx : ByteArray} (hk : numK k = true) (h0 : 0 ≤ num) (h1 : num ≤ 18446744073709551615) (hn : ¬ (neg = true ∧ 0 < num)) : (decide (loK k ≤ dv ⟨kd, neg, num, tx⟩) && decide (dv ⟨kd, neg, num, tx⟩ ≤ hiK k)) = decide (num ≤ hiK k) ∧ IntKind.u64.wrap (dv ⟨kd, neg, num, tx⟩) = num := by
  have hd : dv ⟨kd, neg, num, tx⟩ = num := by
    unfold dv
    cases neg with
    | false => rfl
    | true => have : num = 0 := (by simp at hn; omega); subst this; rfl
  have hl : loK k ≤ 0 := by
    cases hs : sgK k with
    | true => have := most_sg hs; have h2 := pw_even (szK_sz hk); omega
    | false => unfold loK; rw [hs]; exact Int.le_refl _
  rw [hd, IntKind.wrap_u64]
  refine ⟨?_, by omega⟩
  rw [decide_eq_true (show loK k ≤ num by omega)]; simp
theorem of_minus {k kd num : Int} {tx : ByteArray} (h0 : 0 ≤ num) (h1 : num ≤ 18446744073709551615) (hp : 0 < num) (hh : 0 ≤ hiK k) : (decide (loK k ≤ dv ⟨kd, true, num, tx⟩) && decide (dv ⟨kd, true, num, tx⟩ ≤ hiK k)) = decide (num ≤ -loK k) ∧ IntKind.u64.wrap (dv ⟨kd, true, num, tx⟩) = IntKind.u64.wrap (-num) := by
  refine ⟨?_, rfl⟩
  show (decide (loK k ≤ -num) && decide (-num ≤ hiK k)) = _
  rw [decide_eq_true (show -num ≤ hiK k by omega), Bool.and_true, Bool.eq_iff_iff]; simp; omega
/-- what Of answers -/
def OfIs (k : Int) (d : DatV) (w : World) (e : Ending) (w' : World) : Prop := ∃ x, e = .returned (.tuple #[.int .u64 x, .bool (ofB k d)]) ∧ (ofB k d = true → x = ofN k d) ∧ Below w.heap.size w w'
theorem of_is {k : Int} {d : DatV} {w w' : World} {x : Int} {b : Bool} (hb : ofB k d = b) (hx : IntKind.u64.wrap (dv d) = x) (bel : Below w.heap.size w w') : OfIs k d w (.returned (.tuple #[.int .u64 x, .bool b])) w' :=
  ⟨x, by rw [hb], fun h => by unfold ofN; rw [h, if_pos rfl, hx], bel⟩
theorem hi_nonneg {k : Int} (hk : numK k = true) : 0 ≤ hiK k := by
  by_cases h1 : k = 1
  · subst h1; decide
  · have h2 := pw_even (szK_sz hk)
    cases hs : sgK k with
    | true => have := most_sg hs; omega
    | false => have := most_un h1 hs; omega
theorem neg_neg64 (num : Int) : IntKind.u64.wrap (-num) = IntKind.u64.wrap (wrap64 (-wrap64 num)) := by
  rw [IntKind.wrap_u64, IntKind.wrap_u64]; unfold wrap64; omega
theorem of_no {k : Int} {d : DatV} {w w' : World} (h : ofB k d = false) (hb : Below w.heap.size w w') : OfIs k d w (.returned (.tuple #[.int .u64 0, .bool false])) w' := ⟨0, by rw [h], fun h2 => by (rw [h] at h2; cases h2), hb⟩
end Go.Proofs.YtohphejhlgnciaaGreat
