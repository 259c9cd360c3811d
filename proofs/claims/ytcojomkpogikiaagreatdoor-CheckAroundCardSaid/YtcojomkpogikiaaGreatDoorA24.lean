/- Chapter 9 in plain words: what is wrong first with a value of a type. -/
import Derived.Lib.Bytealg
import Derived.Lib.IndexLaws
import Derived.Laws.Externs
import Derived.Test.YtcojomkpogikiaaGreatDoorA19
import Derived.Test.YtcojomkpogikiaaGreatDoorA23
namespace Go.Proofs.YtcojomkpogikiaaGreatDoor.Pa
open Go.RowKit
set_option linter.unusedVariables false
end Go.Proofs.YtcojomkpogikiaaGreatDoor.Pa
namespace Go.Proofs.YtcojomkpogikiaaGreatDoor.Pa
open Go.RowKit
set_option linter.unusedVariables false
theorem fault_zero9 (E A : Int) (w : World) : (binOp .eql 57 (.agg #[.int .i64 E, .int .i64 A]) (.agg #[.int .i64 0, .int .i64 0])).run Tryz.prog w = .ok (.bool ((E == 0) && (A == 0))) w := fault_eql E A 0 0 w
end Go.Proofs.YtcojomkpogikiaaGreatDoor.Pa
namespace Go.Proofs.YtcojomkpogikiaaGreatDoor.Pa
open Go.RowKit
set_option linter.unusedVariables false
end Go.Proofs.YtcojomkpogikiaaGreatDoor.Pa
namespace Go.Proofs.YtcojomkpogikiaaGreatDoor.Pa
open Go.RowKit
set_option linter.unusedVariables false
end Go.Proofs.YtcojomkpogikiaaGreatDoor.Pa
namespace Go.Proofs.YtcojomkpogikiaaGreatDoor.Pa
open Go.RowKit
set_option linter.unusedVariables false
end Go.Proofs.YtcojomkpogikiaaGreatDoor.Pa
namespace Go.Proofs.YtcojomkpogikiaaGreatDoor.Pa
open Go.ChangeShapes Go.WideShapes Go.ChangeAt Go.RowKit
set_option linter.unusedVariables false
section
variable {H : Type} {enc : TypeId × Value → H} {w : World}
theorem items_of2 {v : Value} (h : [v] = [.slice none 0 0] ∨ ∃ (a : Addr) (len cap : Nat), [v] = [.slice (some a) len cap] ∧ len ≤ cap ∧ cap ≤ maxLen ∧ cap * Tryz.prog.bytesOf 55 ≤ 140737488351232 ∧
      ∀ i, i < cap → ∃ c : List Value, w.cells? 0 (a.add (i * 5)) 5 = some c ∧ Rdg enc Tryz.prog w 55 c) :
    ∃ (ao : Option Addr) (len cap : Nat) (L : Nat → ItemV), v = .slice ao len cap ∧ len ≤ cap ∧ len ≤ 3518437208780 ∧ ∀ i, i < len → ItemAt w ao i (L i) := by
  obtain ⟨ao, len, cap, L, e, hm, H⟩ := items_of h
  rcases h with h | ⟨a, len', cap', h, hl, hc, _⟩
  · obtain rfl : v = .slice none 0 0 := by simpa using h
    injection e with e1 e2 e3; subst e2 e3; exact ⟨ao, 0, 0, L, by rw [e1], Nat.le_refl _, hm, H⟩
  · obtain rfl : v = .slice (some a) len' cap' := by simpa using h
    injection e with e1 e2 e3; subst e1 e2 e3; exact ⟨some a, len', cap', L, rfl, hl, hm, H⟩
/-- a list of types, each with room for its items -/
theorem types_of3 {v : Value} (h : v = .slice none 0 0 ∨ ∃ (a : Addr) (len cap : Nat), v = .slice (some a) len cap ∧ len ≤ cap ∧ cap ≤ maxLen ∧ cap * Tryz.prog.bytesOf 52 ≤ 140737488351232 ∧
      ∀ i, i < cap → ∃ c : List Value, w.cells? 0 (a.add (i * 6)) 6 = some c ∧ Rdg enc Tryz.prog w 52 c) :
    ∃ (ao : Option Addr) (len cap : Nat) (L : Nat → TypeV), v = .slice ao len cap ∧ len ≤ cap ∧ len ≤ 140737488351232 ∧ (∀ i, i < len → (L i).ilen ≤ (L i).icap) ∧ ∀ i, i < len → TypeAt w ao i (L i) := by
  rcases h with rfl | ⟨a, len, cap, rfl, hl, hm, hby, hx⟩
  · exact ⟨none, 0, 0, default, rfl, Nat.le_refl _, Nat.zero_le _, fun i hi => by omega, fun i hi => by omega⟩
  · have hq : ∀ i, i < len → ∃ p : TypeV, p.ilen ≤ p.icap ∧ TypeAt w (some a) i p := by
      intro i hi
      obtain ⟨b, off, rfl, hc⟩ := slice_at (by omega) (by omega) hx
      obtain ⟨c, hcl, hat, hr⟩ := hc i (by omega)
      obtain ⟨x0, e0, w0⟩ := rdg_int Tryz.underlying3 (rdg_field Tryz.underlying52 hr 0 3 0 1 rfl (by kernel_rfl))
      obtain ⟨x1, e1, w1⟩ := rdg_string Tryz.underlying9 (rdg_field Tryz.underlying52 hr 1 9 1 1 rfl (by kernel_rfl))
      obtain ⟨x2, e2, w2⟩ := rdg_int Tryz.underlying3 (rdg_field Tryz.underlying52 hr 2 3 2 1 rfl (by kernel_rfl))
      obtain ⟨x3, e3, w3⟩ := rdg_int Tryz.underlying3 (rdg_field Tryz.underlying52 hr 3 3 3 1 rfl (by kernel_rfl))
      obtain ⟨x4, e4, w4⟩ := rdg_int Tryz.underlying3 (rdg_field Tryz.underlying52 hr 4 3 4 1 rfl (by kernel_rfl))
      have hf := rdg_field Tryz.underlying52 hr 5 50 5 1 rfl (by kernel_rfl)
      match c, hcl with
      | [c0, c1, c2, c3, c4, c5], _ =>
        simp at e0 e1 e2 e3 e4
        subst e0 e1 e2 e3 e4
        obtain ⟨ia, il, ic, Li, rfl, hic, hil, hiat⟩ := items_of2 (rdg_slice 5 Tryz.underlying50 (by kernel_rfl) hf)
        exact ⟨⟨x0, x1, x2, x3, x4, ia, il, ic, Li⟩, hic, b, off, rfl, hat 0 (by omega), hat 1 (by omega), hat 2 (by omega), hat 3 (by omega), hat 4 (by omega), hat 5 (by omega), ⟨w0, w2, w3, w4, w1⟩, hil, hiat⟩
    obtain ⟨L, hL⟩ := skolem hq
    refine ⟨some a, len, cap, L, rfl, hl, ?_, fun i hi => (hL i hi).1, fun i hi => (hL i hi).2⟩
    have hz : Tryz.prog.bytesOf 52 = 72 := by kernel_rfl
    rw [hz] at hby
    omega
end
end Go.Proofs.YtcojomkpogikiaaGreatDoor.Pa
