/- Contract of chapter 6's reference: Deep. -/
import Derived.Test.YtohphejhlgnciaaTypesParts
namespace Go.Proofs.Ytohphejhlgnciaa
open Go.RowKit
set_option linter.unusedVariables false
def deepStep (D : Nat → Nat) (t : Nat) (acc : Nat) (p : Int) : Nat := if 0 ≤ p ∧ p < t then max acc (D p.toNat + 1) else acc
def deepF (L : Nat → TypeV) : Nat → Nat → Nat
  | 0, _ => 0
  | f + 1, t => (partsL (L t)).foldl (deepStep (deepF L f) t) 1
theorem fold_congr {t : Nat} {D E : Nat → Nat} (h : ∀ k, k < t → D k = E k) : ∀ (l : List Int) (a : Nat), l.foldl (deepStep D t) a = l.foldl (deepStep E t) a
  | [], _ => rfl
  | p :: l, a => by
    rw [List.foldl_cons, List.foldl_cons]
    have : deepStep D t a p = deepStep E t a p := by
      unfold deepStep
      by_cases c : 0 ≤ p ∧ p < t
      · rw [if_pos c, if_pos c, h p.toNat (by omega)]
      · rw [if_neg c, if_neg c]
    rw [this]
    exact fold_congr h l _
theorem deepF_eq (L : Nat → TypeV) : ∀ (n t f g : Nat), t < n → t < f → t < g → deepF L f t = deepF L g t
  | 0, _, _, _, h, _, _ => by omega
  | n + 1, t, f + 1, g + 1, h, hf, hg => fold_congr (fun k hk => deepF_eq L n k f g (by omega) (by omega) (by omega)) _ _
/-- how deep a type is -/
def deepN (L : Nat → TypeV) (t : Nat) : Nat := deepF L (t + 1) t
theorem deepN_eq (L : Nat → TypeV) (t : Nat) : deepN L t = (partsL (L t)).foldl (deepStep (deepN L) t) 1 :=
  fold_congr (fun k hk => deepF_eq L (k + 1) k t (k + 1) (by omega) hk (by omega)) _ _
theorem fold_le {t m : Nat} {D : Nat → Nat} (h : ∀ k, k < t → D k + 1 ≤ m) : ∀ (l : List Int) (a : Nat), a ≤ m → l.foldl (deepStep D t) a ≤ m
  | [], _, ha => ha
  | p :: l, a, ha => by
    rw [List.foldl_cons]
    refine fold_le h l _ ?_
    unfold deepStep
    split
    · rename_i c; have := h p.toNat (by omega); omega
    · exact ha
theorem deepN_le (L : Nat → TypeV) : ∀ (n t : Nat), t < n → deepN L t ≤ t + 1
  | 0, _, h => by omega
  | n + 1, t, h => by
    rw [deepN_eq]
    exact fold_le (fun k hk => by have := deepN_le L n k (by omega); omega) _ _ (by omega)
theorem fold_ge {t : Nat} {D : Nat → Nat} : ∀ (l : List Int) (a : Nat), a ≤ l.foldl (deepStep D t) a
  | [], _ => Nat.le_refl _
  | p :: l, a => by
    rw [List.foldl_cons]
    refine Nat.le_trans ?_ (fold_ge l _)
    unfold deepStep; split <;> omega
theorem deepN_pos (L : Nat → TypeV) (t : Nat) : 1 ≤ deepN L t := by rw [deepN_eq]; exact fold_ge _ _
def deepL (L : Nat → TypeV) (len : Nat) (t : Int) : Int := if inL len t then (deepN L t.toNat : Nat) else 0
theorem row_keep {w w1 : World} {base : Nat} {e : TypeId} {size : Nat} {v : Value} {n : Nat} {xs : List Value} (h : w.ownsRow base e size v n xs) (hb : Below w.heap.size w w1) : w1.ownsRow base e size v n xs := (Only.of_below (S := fun _ => False) hb).row h (fun _ _ f => f)
theorem cell_int {w : World} {base g n cap : Nat} {l : List Int} (h : w.ownsRow base 3 1 (.slice (some ⟨g, 0, none⟩) n cap) n (l.map (Value.int .i64))) (j : Nat) (hj : j < n) : w.cell? ⟨g, j, none⟩ = some (.int .i64 (l.getD j 0)) := by
  have hl : l.length = n := by have := h.1; simpa using this
  rw [h.cellAt j (by omega), List.getElem?_map, List.getElem?_eq_getElem (by omega), List.getD_eq_getElem?_getD, List.getElem?_eq_getElem (by omega)]
  rfl
theorem fold_next {D : Nat → Nat} {t : Nat} (l : List Int) (j : Nat) (hj : j < l.length) : (l.take (j + 1)).foldl (deepStep D t) 1 = deepStep D t ((l.take j).foldl (deepStep D t) 1) (l.getD j 0) := by
  rw [List.take_succ_eq_append_getElem hj, List.foldl_append, List.getD_eq_getElem?_getD, List.getElem?_eq_getElem hj]; rfl
theorem row_form {w : World} {base n : Nat} {e : TypeId} {size : Nat} {v : Value} {xs : List Value} (h : w.ownsRow base e size v n xs) : ∃ (a : Option Addr) (cap : Nat), v = .slice a n cap ∧ (0 < n → ∃ g, a = some ⟨g, 0, none⟩) := by
  rcases h.2 with ⟨rfl, rfl⟩ | ⟨g, cap, cur, rfl, _⟩
  · exact ⟨none, 0, rfl, fun h => by omega⟩
  · exact ⟨_, cap, rfl, fun _ => ⟨g, rfl⟩⟩
theorem partsL_len {T : TypeV} (h : T.ilen ≤ 3518437208780) : (partsL T).length ≤ 3518437208782 := by
  unfold partsL
  simp only [List.length_append]
  split <;> split <;> split <;> simp <;> omega
end Go.Proofs.Ytohphejhlgnciaa
