/- Contract of package bounds: Open. -/
import Derived.Test.YtblnhoagdnnjdaaGreatBoundsAwake
namespace Go.Proofs.YtblnhoagdnnjdaaGreat
open Go.RowKit
set_option linter.unusedVariables false
/-- what Open answers -/
def openA (L : Nat → TypeV) (len : Nat) (t : Int) : Bool := hasT L len t && ((L t.toNat).kind == 14) && openT L len t.toNat
set_option maxRecDepth 20000 in
theorem open7_any (ao : Option Addr) (len cap : Nat) (L : Nat → TypeV) (t : Int) (hlen : len ≤ 1000000) (hcap : len ≤ cap) (w : World) (H : ∀ i, i < len → TypeAt w ao i (L i)) :
    Calls Tryz.prog 11 #[.slice ao len cap, .int .i64 t] w fun e w' => e = .returned (.bool (openA L len t)) ∧ Below w.heap.size w w' := by
  have hh := has_any ao len cap L t hlen hcap w H
  cases hT : hasT L len t with
  | false =>
    have e : openA L len t = false := by unfold openA; rw [hT]; rfl
    rw [e]
    rw [hT] at hh
    have HHS := Lib.hid hh
    clear hh e hT H
    go_enter Tryz.func11, Tryz.ntmps11
    go_wp2_with (go_at_call 17; refine HHS.out.mono ?_; rintro e w1 ⟨rfl, hb1⟩; have HB1 := Lib.hid hb1; clear hb1)
    go_ret
    exact ⟨rfl, HB1.out⟩
  | true =>
    obtain ⟨k, rfl, hk, hv⟩ := hasT_in hT
    have hok := ok_all hv k hk
    have e : openA L len (k : Nat) = (((L k).kind == 14) && openT L len k) := by unfold openA; rw [hT]; rfl
    rw [e]
    rw [hT] at hh
    have HHS := Lib.hid hh
    have HH := Lib.hid H
    clear hh e hT
    cases hkk : ((L k).kind == 14) with
    | false =>
      clear hok H
      go_enter Tryz.func11, Tryz.ntmps11
      go_wp2_with (go_at_call 17; refine HHS.out.mono ?_; rintro e w1 ⟨rfl, hb1⟩; have HB1 := Lib.hid hb1; obtain ⟨b, off, rfl, c0, c1, c2, c3, c4, c5, wf, hit⟩ := (HH.out k hk).held hb1; clear hb1)
      go_ret
      exact ⟨rfl, HB1.out⟩
    | true =>
      have htg := hok.tag (by simpa using hkk)
      have hop := fun wx (hb : Below w.heap.size w wx) => isOpen_any ao len cap L k hk ⟨htg.1, by omega⟩ hlen wx (hold H hb)
      obtain ⟨q, hq⟩ : ∃ q, openT L len k = q := ⟨_, rfl⟩
      rw [hq] at hop ⊢
      have HO := Lib.hid hop
      clear hok htg hop hq H
      go_enter Tryz.func11, Tryz.ntmps11
      go_wp2_with (first
        | (go_at_call 17; refine HHS.out.mono ?_; rintro e w1 ⟨rfl, hb1⟩; have HB1 := Lib.hid hb1; obtain ⟨b, off, rfl, c0, c1, c2, c3, c4, c5, wf, hit⟩ := (HH.out k hk).held hb1; clear hb1)
        | (go_at_call 18; refine (HO.out _ HB1.out).mono ?_; rintro e w2 ⟨rfl, hb2⟩; have HB2 := Lib.hid (HB1.out.trans (hb2.mono HB1.out.size)); clear hb2))
      go_ret
      exact ⟨rfl, HB2.out⟩
end Go.Proofs.YtblnhoagdnnjdaaGreat
