/- Lists of places as slices of numbers, and the law's 'same' on two that are alike. -/
import Derived.Test.YtinmdkhafamibaaGreatKeyMath
import Derived.Test.YtinmdkhafamibaaGreatTypesItem
import Derived.BigQuiet
namespace Go.Proofs.YtinmdkhafamibaaGreat
open Go.RowKit
set_option linter.unusedVariables false
def ivs (l : List Nat) : List Value := l.map fun k => .int .i64 (k : Nat)
theorem ivs_snoc (l : List Nat) (k : Nat) : ivs l ++ [.int .i64 (k : Nat)] = ivs (l ++ [k]) := by simp [ivs]
theorem ivs_len (l : List Nat) : (ivs l).length = l.length := by simp [ivs]
/-- the slice v holds these numbers -/
def IntsAt (w : World) (v : Value) (l : List Nat) : Prop := ∃ ao cap, v = .slice ao l.length cap ∧ ∀ j x, l[j]? = some x → ∃ b off, ao = some ⟨b, off, none⟩ ∧ w.cell? ⟨b, off + j, none⟩ = some (.int .i64 (x : Nat))
theorem IntsAt.keep {w w1 : World} {v : Value} {l : List Nat} (h : IntsAt w v l) (hb : Below w.heap.size w w1) : IntsAt w1 v l := by
  obtain ⟨ao, cap, hv, hc⟩ := h
  refine ⟨ao, cap, hv, fun j x hx => ?_⟩
  obtain ⟨b, off, ha, h1⟩ := hc j x hx
  exact ⟨b, off, ha, Go.Proofs.YtinmdkhafamibaaGreat.keep hb h1⟩
theorem IntsAt.of_row {w : World} {B n : Nat} {v : Value} {l : List Nat} (h : w.ownsRow B 3 1 v n (ivs l)) : IntsAt w v l := by
  have hn : l.length = n := by have := h.1; simpa [ivs] using this
  subst hn
  rcases h.2 with ⟨rfl, h0⟩ | ⟨g, cap, cur, rfl, _⟩
  · exact ⟨none, 0, by rw [h0], fun j x hx => by rw [List.length_eq_zero_iff.1 h0] at hx; cases hx⟩
  · refine ⟨some ⟨g, 0, none⟩, cap, rfl, fun j x hx => ⟨g, 0, rfl, ?_⟩⟩
    have := h.cells (g := g) rfl j (.int .i64 (x : Nat)) (by simp [ivs, hx])
    rwa [add_plain] at this
theorem IntsAt.nil (w : World) : IntsAt w (.slice none 0 0) [] := ⟨none, 0, rfl, fun j x hx => by cases hx⟩
set_option maxRecDepth 100000 in
set_option maxHeartbeats 2000000 in
theorem same_any (l : List Nat) (hl : l.length ≤ 1000000) (u v : Value) (w : World) (hu : IntsAt w u l) (hv : IntsAt w v l) :
    Calls Tryz.prog 11 #[u, v] w fun e w' => e = .returned (.bool true) ∧ Below w.heap.size w w' := by
  obtain ⟨ao, ca, rfl, hA⟩ := hu
  obtain ⟨bo, cb, rfl, hB⟩ := hv
  have HA := Lib.hid (fun j x wx (hb : Below w.heap.size w wx) (hx : l[j]? = some x) => (hA j x hx).imp fun b h => h.imp fun off h => And.intro h.1 (keep hb h.2))
  have HB := Lib.hid (fun j x wx (hb : Below w.heap.size w wx) (hx : l[j]? = some x) => (hB j x hx).imp fun b h => h.imp fun off h => And.intro h.1 (keep hb h.2))
  obtain ⟨n, hn⟩ : ∃ n, l.length = n := ⟨_, rfl⟩
  have HN := Lib.hid hn
  rw [hn] at hl ⊢
  clear hA hB hn
  go_enter Tryz.func11, Tryz.ntmps11
  go_wp2
  go_loopw [5] (fun i wr => ∃ k : Nat, k ≤ n ∧ i = .int .i64 k ∧ Hid (Below w.heap.size w wr)) (fun i _ => n - (intOf i).toNat)
  case atStart => exact ⟨0, Nat.zero_le _, rfl, Lib.hid (Below.refl _ _)⟩
  case round =>
    obtain ⟨k, hk, rfl, HBr⟩ := hrel
    by_cases hlt : k < n
    · obtain ⟨x, hx⟩ : ∃ x, l[k]? = some x := ⟨_, List.getElem?_eq_getElem (by rw [HN.out]; exact hlt)⟩
      obtain ⟨b1, o1, rfl, c1⟩ := HA.out k x wr HBr.out hx
      obtain ⟨b2, o2, rfl, c2⟩ := HB.out k x wr HBr.out hx
      have hd : ((x : Int) != (x : Int)) = false := by simp
      have hdn : (x != x) = false := by simp
      clear hx
      go_wp2_with fail
      go_quiet (fail)
      go_wp2
      go_roundw
      case rel => exact ⟨k + 1, by omega, by go_num, Lib.hid (drewN_below HBr.out _)⟩
      case measure => simp [intOf]; omega
    · go_wp2
      go_ret
      exact ⟨rfl, HBr.out⟩
end Go.Proofs.YtinmdkhafamibaaGreat
