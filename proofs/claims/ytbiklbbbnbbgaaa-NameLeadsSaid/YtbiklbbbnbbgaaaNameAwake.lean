/- Chapter 4's example; the arguments of its statements. -/
import Derived.Test.YtbiklbbbnbbgaaaNameCode
import Derived.Test.YtbiklbbbnbbgaaaRdgSlice
namespace Go.Proofs.Ytbiklbbbnbbgaaa
open Go.ChangeShapes Go.WideShapes Go.ChangeAt Go.RowKit
set_option linter.unusedVariables false
theorem lead_a1b (w : World) : Calls Try.prog 11 #[.string ⟨#[97, 49, 45, 98]⟩] w fun e w' => e = .returned (.int .i64 2) ∧ Below w.heap.size w w' := by
  have h := lead_any ⟨#[97, 49, 45, 98]⟩ (by decide) w
  have e : leadN ⟨#[97, 49, 45, 98]⟩ = 2 := by decide
  rwa [e] at h
theorem name_a1 (w : World) : Calls Try.prog 9 #[.string ⟨#[97, 49]⟩] w fun e w' => e = .returned (.bool true) ∧ Below w.heap.size w w' := by
  have h := name_any ⟨#[97, 49]⟩ (by decide) w
  have e : nameS ⟨#[97, 49]⟩ = true := by decide
  rwa [e] at h
theorem name_and (w : World) : Calls Try.prog 9 #[.string ⟨#[65, 78, 68]⟩] w fun e w' => e = .returned (.bool false) ∧ Below w.heap.size w w' := by
  have h := name_any ⟨#[65, 78, 68]⟩ (by decide) w
  have e : nameS ⟨#[65, 78, 68]⟩ = false := by decide
  rwa [e] at h
theorem awake4_any (w : World) : Calls Try.prog 6 #[] w fun e w' => e = .returned (.bool true) ∧ Below w.heap.size w w' := by
  have hr := Below.refl w.heap.size w
  go_enter Try.func6, Try.ntmps6
  go_wp2_with (first
    | (go_at_call 11; (with_reducible refine (lead_a1b _).mono ?_); rintro e w1 ⟨rfl, hb⟩; have hr := below_stepN hr hb; clear hb)
    | (go_at_call 9; (with_reducible refine (name_a1 _).mono ?_); rintro e w1 ⟨rfl, hb⟩; have hr := below_stepN hr hb; clear hb)
    | (go_at_call 9; (with_reducible refine (name_and _).mono ?_); rintro e w1 ⟨rfl, hb⟩; have hr := below_stepN hr hb; clear hb))
  go_ret
  exact ⟨rfl, hr⟩
section
variable {H : Type} {enc : TypeId × Value → H} {w : World}
theorem strs_of {v : Value} (h : v = .slice none 0 0 ∨ ∃ (a : Addr) (len cap : Nat), v = .slice (some a) len cap ∧ len ≤ cap ∧ cap ≤ maxLen ∧ cap * Try.prog.bytesOf 9 ≤ 140737488351232 ∧
      ∀ i, i < cap → ∃ c : List Value, w.cells? 0 (a.add (i * 1)) 1 = some c ∧ Rdg enc Try.prog w 9 c) :
    ∃ (ao : Option Addr) (len cap : Nat) (L : Nat → ByteArray), v = .slice ao len cap ∧ len ≤ 140737488351232 ∧ ∀ i, i < len → StrAt w ao i (L i) := by
  rcases h with rfl | ⟨a, len, cap, rfl, hl, hm, hby, hx⟩
  · exact ⟨none, 0, 0, fun _ => ⟨#[]⟩, rfl, Nat.zero_le _, fun i hi => by omega⟩
  · have hq : ∀ i, i < len → ∃ p, StrAt w (some a) i p := by
      intro i hi
      obtain ⟨b, off, rfl, hc⟩ := slice_at (by omega) (by omega) hx
      obtain ⟨c, hcl, hat, hr⟩ := hc i (by omega)
      obtain ⟨x0, e0, w0⟩ := rdg_string Try.underlying9 hr
      match c, hcl with
      | [c0], _ =>
        simp at e0
        subst e0
        exact ⟨x0, b, off, rfl, by simpa using hat 0 (by omega), w0⟩
    have : Inhabited ByteArray := ⟨⟨#[]⟩⟩
    obtain ⟨L, hL⟩ := skolem hq
    refine ⟨some a, len, cap, L, rfl, ?_, hL⟩
    have hz : Try.prog.bytesOf 9 = 16 := by kernel_rfl
    rw [hz] at hby
    omega
end
end Go.Proofs.Ytbiklbbbnbbgaaa
