/- Chapter 8's reference: At at any places; integers that an argument leads to. -/
import Derived.Test.YtpclpghmahlieaaDoorValRAt
namespace Go.Proofs.YtpclpghmahlieaaDoor
open Go.RowKit Go.ChangeShapes Go.WideShapes Go.ChangeAt
set_option linter.unusedVariables false
theorem refAt_any (S : Nat → Prop) : ∀ (n : Nat) (T : VT) (ao : Option Addr) (cap : Nat) (L : Nat → Int) (w : World), n ≤ cap → cap ≤ 140737488351232 → ValAt w S T → IntsAt w ao n L → RAtTo T ao n cap L w
  | 0, T, ao, cap, L, w, _, _, _, _ => refAt_end T ao cap L w
  | n + 1, T, ao, cap, L, w, hn, hc, H, HL => by
    obtain ⟨b, off, rfl, c0⟩ := HL 0 (by omega)
    refine refAt_step S T n cap b off L w hn hc H c0 (fun U ao' hs ha wx hb => ?_)
    have hU : ValAt w S U := walk_at (L := L) (n := 1) H (by show (some T).bind _ = _; exact hs)
    refine refAt_any S n U ao' (cap - 1) (fun i => L (i + 1)) wx (by omega) (by omega) (hU.next hb) (fun i hi => ?_)
    obtain ⟨b2, off2, e, c⟩ := HL (i + 1) (by omega)
    cases e
    exact ⟨b, off + 1, ha (by omega), by rw [show off + 1 + i = off + (i + 1) by omega]; exact keep hb c⟩
theorem ints_of {H : Type} {enc : TypeId × Value → H} {w : World} {v : Value} (h : v = .slice none 0 0 ∨ ∃ (a : Addr) (len cap : Nat), v = .slice (some a) len cap ∧ len ≤ cap ∧ cap ≤ maxLen ∧ cap * Tryd.prog.bytesOf 3 ≤ 140737488351232 ∧
      ∀ i, i < cap → ∃ c : List Value, w.cells? 0 (a.add (i * 1)) 1 = some c ∧ Rdg enc Tryd.prog w 3 c) :
    ∃ (ao : Option Addr) (n cap : Nat) (L : Nat → Int), v = .slice ao n cap ∧ n ≤ cap ∧ cap ≤ 140737488351232 ∧ IntsAt w ao n L := by
  rcases h with rfl | ⟨a, len, cap, rfl, hl, hm, hby, hx⟩
  · exact ⟨none, 0, 0, fun _ => 0, rfl, Nat.le_refl _, Nat.zero_le _, fun i hi => absurd hi (Nat.not_lt_zero i)⟩
  · have hq : ∀ i, i < len → ∃ z : Int, ∃ b off, some a = some (⟨b, off, none⟩ : Addr) ∧ w.cell? ⟨b, off + i, none⟩ = some (.int .i64 z) := by
      intro i hi
      obtain ⟨b, off, rfl, hc⟩ := slice_at (by omega) (by omega) hx
      obtain ⟨c, hcl, hat, hr⟩ := hc i (by omega)
      obtain ⟨x0, e0, _⟩ := rdg_int Tryd.underlying3 hr
      subst e0
      have := hat 0 (by omega)
      exact ⟨x0, b, off, rfl, by simpa using this⟩
    obtain ⟨L, hL⟩ := skolem hq
    have hz : Tryd.prog.bytesOf 3 = 8 := by kernel_rfl
    rw [hz] at hby
    exact ⟨some a, len, cap, L, rfl, hl, by omega, hL⟩
end Go.Proofs.YtpclpghmahlieaaDoor
