/- Contract of chapter 6's reference: number. -/
import Derived.Test.YtkaddjmngfpcfaaTypesMore
import Derived.Test.YtkaddjmngfpcfaaPrimRef
namespace Go.Proofs.Ytkaddjmngfpcfaa
open Go.RowKit
set_option linter.unusedVariables false
def numberB (L : Nat → TypeV) (T : TypeV) (n : Int) : Bool := if T.kind = 9 then mayK 9 n else if (L T.tag.toNat).kind = 9 then decide (0 ≤ valueZ (L T.tag.toNat) n) else mayK (L T.tag.toNat).kind n
set_option maxHeartbeats 1000000 in
theorem refNum_any (ao : Option Addr) (len cap : Nat) (L : Nat → TypeV) (T : TypeV) (n : Int) (hlen : len ≤ 140737488351232) (hn : (Lit.int .u64 n).wf = true) (htag : T.kind = 9 ∨ (0 ≤ T.tag ∧ T.tag < len)) (w : World) (H : ∀ i, i < len → TypeAt w ao i (L i)) :
    Calls Try.prog 56 #[.slice ao len cap, typV T, .int .u64 n] w fun e w' => e = .returned (.bool (numberB L T n)) ∧ Below w.heap.size w w' := by
  have HH := Lib.hid H
  unfold typV
  by_cases h9 : T.kind = 9
  · have k9 : (T.kind == 9) = true := by simpa using h9
    have e0 : numberB L T n = mayK 9 n := by unfold numberB; rw [if_pos h9]
    rw [e0]
    have HM := Lib.hid (fun w => refKMay_any 9 n hn w)
    clear h9 htag H
    go_enter Try.func56, Try.ntmps56
    go_wp2_with (go_at_call 65; refine (HM.out _).mono ?_; rintro e w1 ⟨rfl, m, rfl⟩)
    go_ret
    exact ⟨rfl, drewN_below ((Below.refl _ _).alloc (Nat.le_refl _) _) m⟩
  · have k9 : (T.kind == 9) = false := by simpa using h9
    obtain ⟨h0, h1⟩ := htag.resolve_left h9
    obtain ⟨k, hk⟩ := Int.eq_ofNat_of_zero_le h0
    have hkl : k < len := by omega
    have htn : T.tag.toNat = k := by omega
    obtain ⟨b, off, rfl, c0, c1, c2, c3, c4, c5, wf, hi⟩ := HH.out k hkl
    have hblt : b < w.heap.size := World.block_lt_of_cell? w _ c0
    have hne : ¬ b = w.heap.size := by omega
    have hc := fun (o : Obj) => keep6 (w := w) (w1 := w.alloc o) ((Below.refl _ _).alloc (Nat.le_refl _) _) c0
    by_cases hk9 : (L k).kind = 9
    · have k9' : ((L k).kind == 9) = true := by simpa using hk9
      have e0 : numberB L T n = decide (0 ≤ valueZ (L k) n) := by unfold numberB; rw [if_neg h9, htn, if_pos hk9]
      rw [e0]
      have hv := fun wx (hb : Below w.heap.size w wx) => refValue_any (some ⟨b, off, none⟩) len cap L (k : Nat) n hlen wx (fun i hi => (H i hi).held hb)
      have e1 : valueL L len (k : Nat) n = valueZ (L k) n := by unfold valueL; rw [inL_yes hkl]; rfl
      rw [e1] at hv
      have HV := Lib.hid hv
      clear hv e0 e1 h9 hk9 htag H htn h0 h1
      go_enter Try.func56, Try.ntmps56
      go_wp2_with (go_at_call 14; refine (HV.out _ ((Below.refl _ _).alloc (Nat.le_refl _) _)).mono ?_; rintro e w1 ⟨rfl, rfl⟩)
      go_ret
      exact ⟨ret_b rfl, (Below.refl _ _).alloc (Nat.le_refl _) _⟩
    · have k9' : ((L k).kind == 9) = false := by simpa using hk9
      have e0 : numberB L T n = mayK (L k).kind n := by unfold numberB; rw [if_neg h9, htn, if_neg hk9]
      rw [e0]
      have HM := Lib.hid (fun w => refKMay_any (L k).kind n hn w)
      clear e0 h9 hk9 htag H htn h0 h1
      go_enter Try.func56, Try.ntmps56
      go_wp2_with (go_at_call 65; refine (HM.out _).mono ?_; rintro e w1 ⟨rfl, m, rfl⟩)
      go_ret
      exact ⟨rfl, drewN_below ((Below.refl _ _).alloc (Nat.le_refl _) _) m⟩
end Go.Proofs.Ytkaddjmngfpcfaa
