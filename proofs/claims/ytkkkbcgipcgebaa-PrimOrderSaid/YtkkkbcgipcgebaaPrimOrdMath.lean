/- Plain mathematics of chapter 5: Cmp orders the numbers of all kinds. -/
import Derived.Test.YtkkkbcgipcgebaaPrimBackMath
namespace Go.Proofs.Ytkkkbcgipcgebaa
open Go.RowKit
set_option linter.unusedVariables false
theorem cmpI_swap (x y : Int) : cmpI x y = -cmpI y x := by unfold cmpI; split <;> split <;> first | omega | (split <;> omega)
theorem cmpI_self (x : Int) : cmpI x x = 0 := by unfold cmpI; rw [if_neg (by omega), if_neg (by omega)]
theorem cmpI_le (x y : Int) : cmpI x y ≤ 0 ↔ x ≤ y := by unfold cmpI; split <;> (try split) <;> omega
theorem cmpI_lt (x y : Int) : cmpI x y < 0 ↔ x < y := by unfold cmpI; split <;> (try split) <;> omega
theorem cmpI_in (x y : Int) : -1 ≤ cmpI x y ∧ cmpI x y ≤ 1 := by unfold cmpI; split <;> (try split) <;> omega
/-- not a text -/
def plainD (d : DatV) : Prop := d.kind ≠ 2
theorem cmpD_cases {a b : DatV} (h : plainD a) : (a.kind ≠ b.kind ∧ cmpD a b = if a.kind < b.kind then -1 else 1) ∨ (a.kind = b.kind ∧ a.kind = 1 ∧ cmpD a b = cmpI (dv a) (dv b)) ∨ (a.kind = b.kind ∧ a.kind = 3 ∧ cmpD a b = cmpI a.num b.num) ∨ (a.kind = b.kind ∧ a.kind ≠ 1 ∧ a.kind ≠ 3 ∧ cmpD a b = 0) := by
  by_cases hk : a.kind = b.kind
  · by_cases h1 : a.kind = 1
    · exact .inr (.inl ⟨hk, h1, cmpD_num hk h1⟩)
    · by_cases h3 : a.kind = 3
      · exact .inr (.inr (.inl ⟨hk, h3, cmpD_bool hk h3⟩))
      · exact .inr (.inr (.inr ⟨hk, h1, h3, cmpD_none hk h1 h h3⟩))
  · exact .inl ⟨hk, by unfold cmpD; rw [if_pos hk]⟩
theorem cmpD_in {a b : DatV} (h : plainD a) : -1 ≤ cmpD a b ∧ cmpD a b ≤ 1 := by
  rcases cmpD_cases (b := b) h with ⟨_, e⟩ | ⟨_, _, e⟩ | ⟨_, _, e⟩ | ⟨_, _, _, e⟩
  · rw [e]; split <;> omega
  · rw [e]; exact cmpI_in _ _
  · rw [e]; exact cmpI_in _ _
  · rw [e]; omega
theorem cmpD_swap {a b : DatV} (ha : plainD a) (hb : plainD b) : cmpD a b = -cmpD b a := by
  rcases cmpD_cases (b := b) ha with ⟨h1, e⟩ | ⟨h1, h2, e⟩ | ⟨h1, h2, e⟩ | ⟨h1, h2, h3, e⟩ <;>
    rcases cmpD_cases (b := a) hb with ⟨g1, f⟩ | ⟨g1, g2, f⟩ | ⟨g1, g2, f⟩ | ⟨g1, g2, g3, f⟩ <;> first
      | (exfalso; omega)
      | (rw [e, f]; exact cmpI_swap _ _)
      | (rw [e, f]; rfl)
      | (rw [e, f]; split <;> split <;> omega)
theorem cmpD_self {a : DatV} (ha : plainD a) : cmpD a a = 0 := by
  rcases cmpD_cases (b := a) ha with ⟨h1, e⟩ | ⟨h1, h2, e⟩ | ⟨h1, h2, e⟩ | ⟨h1, h2, h3, e⟩
  · exact absurd rfl h1
  · rw [e]; exact cmpI_self _
  · rw [e]; exact cmpI_self _
  · exact e
theorem cmpD_trans {a b c : DatV} (ha : plainD a) (hb : plainD b) (h1 : cmpD a b ≤ 0) (h2 : cmpD b c ≤ 0) : cmpD a c ≤ 0 := by
  rcases cmpD_cases (b := b) ha with ⟨a1, e⟩ | ⟨a1, a2, e⟩ | ⟨a1, a2, e⟩ | ⟨a1, a2, a3, e⟩ <;>
    rcases cmpD_cases (b := c) hb with ⟨b1, f⟩ | ⟨b1, b2, f⟩ | ⟨b1, b2, f⟩ | ⟨b1, b2, b3, f⟩ <;>
      rcases cmpD_cases (b := c) ha with ⟨c1, g⟩ | ⟨c1, c2, g⟩ | ⟨c1, c2, g⟩ | ⟨c1, c2, c3, g⟩ <;> rw [e] at h1 <;> rw [f] at h2 <;> rw [g] <;> first
      | omega
      | (rw [cmpI_le] at h1 h2 ⊢; omega)
      | ((try split at h1) <;> (try split at h2) <;> (try split) <;> omega)
theorem dat_plain (k n : Int) : plainD (datK k n) := by
  unfold plainD datK
  split
  · show dkK k ≠ 2
    unfold dkK; split <;> decide
  · decide
theorem val7 {n : Int} (h0 : 0 ≤ n) (h1 : n ≤ 18446744073709551615) : valK 7 n = wrap64 n := by
  show signZ n 8 = wrap64 n
  rw [← sgn8, IntKind.wrap_u64]; unfold wrap64; omega
theorem val8 {n : Int} (h0 : 0 ≤ n) (h1 : n ≤ 18446744073709551615) : valK 8 n = n := by
  show lowZ n 8 = n
  unfold lowZ; rw [pw8]; omega
theorem kind7 (n : Int) : (datK 7 n).kind = 1 := rfl
theorem kind8 (n : Int) : (datK 8 n).kind = 1 := rfl
theorem cmp77 {n m : Int} (h0 : 0 ≤ n) (h1 : n ≤ 18446744073709551615) (g0 : 0 ≤ m) (g1 : m ≤ 18446744073709551615) : cmpD (datK 7 n) (datK 7 m) < 0 ↔ wrap64 n < wrap64 m := by
  rw [cmpD_num (by rw [kind7, kind7]) (kind7 n), cmpI_lt, (of_val (k := 7) (n := n) rfl).2.2.1, (of_val (k := 7) (n := m) rfl).2.2.1, val7 h0 h1, val7 g0 g1]
theorem cmp88 {n m : Int} (h0 : 0 ≤ n) (h1 : n ≤ 18446744073709551615) (g0 : 0 ≤ m) (g1 : m ≤ 18446744073709551615) : cmpD (datK 8 n) (datK 8 m) < 0 ↔ n < m := by
  rw [cmpD_num (by rw [kind8, kind8]) (kind8 n), cmpI_lt, (of_val (k := 8) (n := n) rfl).2.2.1, (of_val (k := 8) (n := m) rfl).2.2.1, val8 h0 h1, val8 g0 g1]
theorem cmp78 {n m : Int} (h0 : 0 ≤ n) (h1 : n ≤ 18446744073709551615) (g0 : 0 ≤ m) (g1 : m ≤ 18446744073709551615) (hn : wrap64 n < 0) : cmpD (datK 7 n) (datK 8 m) < 0 := by
  rw [cmpD_num (by rw [kind7, kind8]) (kind7 n), cmpI_lt, (of_val (k := 7) (n := n) rfl).2.2.1, (of_val (k := 8) (n := m) rfl).2.2.1, val7 h0 h1, val8 g0 g1]; omega
end Go.Proofs.Ytkkkbcgipcgebaa
