/- Contract of chapter 6's reference: one. -/
import Derived.Test.YtohphejhlgnciaaTypesItem
import Derived.Test.YtohphejhlgnciaaTypesItems2
namespace Go.Proofs.Ytohphejhlgnciaa
open Go.RowKit
set_option linter.unusedVariables false
def kindBad (T : TypeV) : Bool := decide (T.kind < 1) || decide (14 < T.kind)
def bndR (T : TypeV) : Bool := (T.kind == 10 && decide (T.bound < 0)) || ((T.kind == 11 || T.kind == 12) && decide (T.bound < 1)) || decide (64 < T.bound)
def partOut (at' : Nat) (p : Int) : Bool := decide (p < 0) || decide ((at' : Int) ≤ p)
def orderR (T : TypeV) (at' : Nat) : Bool := hasB (fun j => partOut at' ((partsL T).getD j 0)) (partsL T).length
def tagR (L : Nat → TypeV) (T : TypeV) : Bool := T.kind == 14 && !numK (L T.tag.toNat).kind
def oneT (L : Nat → TypeV) (len at' : Nat) (T : TypeV) : Int :=
  if kindBad T then 4 else if moreB T then 1 else if namedK T.kind && !nameS T.name then 5 else if namedK T.kind && nameTw L T at' then 6 else if bndR T then 7 else if orderR T at' then 14
  else if tagR L T then 8 else if namedK T.kind && decide (T.ilen = 0) then 18 else if 16 < T.ilen then 3 else if firstE (itemE L T) T.ilen ≠ 0 then firstE (itemE L T) T.ilen else if 6 < deepL L len (at' : Nat) then 9 else 0
def oneR (L : Nat → TypeV) (len at' : Nat) : Int := oneT L len at' (L at')
theorem order_in {T : TypeV} {at' : Nat} (h : orderR T at' = false) (p : Int) (hp : p ∈ partsL T) : 0 ≤ p ∧ p < at' := by
  obtain ⟨j, hj, he⟩ := List.getElem_of_mem hp
  cases hq : partOut at' ((partsL T).getD j 0) with
  | true =>
    have := hasB_some (p := fun j => partOut at' ((partsL T).getD j 0)) hj hq
    unfold orderR at h
    rw [h] at this; cases this
  | false =>
    rw [List.getD_eq_getElem?_getD, List.getElem?_eq_getElem hj] at hq
    simp only [Option.getD_some] at hq
    rw [he] at hq
    unfold partOut at hq
    simp at hq
    omega
theorem tag_in {T : TypeV} {at' : Nat} (h : orderR T at' = false) (hk : (T.kind == 14) = true) : 0 ≤ T.tag ∧ T.tag < at' :=
  order_in h T.tag (by rw [partsL_union (by simpa using hk)]; exact List.mem_cons_self)
theorem type_in {T : TypeV} {at' : Nat} (h : orderR T at' = false) (hk : T.kind = 13 ∨ T.kind = 14) {j : Nat} (hj : j < T.ilen) : 0 ≤ (T.items j).type ∧ (T.items j).type < at' := by
  refine order_in h _ ?_
  have hm : (T.items j).type ∈ (List.range T.ilen).map fun j => (T.items j).type := List.mem_map.2 ⟨j, List.mem_range.2 hj, rfl⟩
  rcases hk with hk | hk
  · rw [partsL_struct hk]; exact hm
  · rw [partsL_union hk]; exact List.mem_cons_of_mem _ hm
theorem named_of {T : TypeV} (h : moreB T = false) {j : Nat} (hj : j < T.ilen) : namedK T.kind = true := by
  unfold moreB c1B at h
  rw [Bool.or_eq_false_iff, Bool.or_eq_false_iff, Bool.or_eq_false_iff] at h
  have h2 := h.1.1.2
  rw [decide_eq_true (show 0 < T.ilen by omega)] at h2
  simpa using h2
theorem named_cases {k : Int} (h : namedK k = true) : k = 9 ∨ k = 13 ∨ k = 14 := by
  unfold namedK at h; simp at h; omega
theorem tag_for {T : TypeV} {at' len : Nat} (h : moreB T = false) (ho : orderR T at' = false) (hat : at' < len) {j : Nat} (hj : j < T.ilen) : T.kind = 13 ∨ T.kind = 9 ∨ (0 ≤ T.tag ∧ T.tag < len) := by
  rcases named_cases (named_of h hj) with h | h | h
  · exact .inr (.inl h)
  · exact .inl h
  · have := tag_in ho (by simpa using h); exact .inr (.inr (by omega))
theorem BoxT.drewN {g : Nat} {T : TypeV} {w0 w : World} (h : BoxT g T w0 w) (m : Nat) : BoxT g T w0 (w.drewN m) := h.keep (drewN_below (Below.refl _ _) m)
end Go.Proofs.Ytohphejhlgnciaa
