/- At, at one place and at none. -/
import Derived.Test.YtpclpghmahlieaaDoorValPlace
namespace Go.Proofs.YtpclpghmahlieaaDoor
open Go.RowKit
set_option linter.unusedVariables false
theorem one_at (w : World) (z : Int) : IntsAt (w.alloc (.cells #[.int .i64 z] 3)) (some ⟨w.heap.size, 0, none⟩) 1 (fun _ => z) := fun i hi => by
  obtain rfl : i = 0 := by omega
  exact ⟨w.heap.size, 0, rfl, cell_at (alloc_at w _) rfl⟩
def XTo (V : VT) (N : Nat) (w : World) (e : Ending) (w' : World) : Prop :=
  ∃ X : VT, e = .returned (.tuple #[.agg #[.int .i64 X.kind, .int .u64 X.num, .string X.text, .slice X.ia X.len X.cap], .bool true]) ∧ sameT V X = true ∧ ValAt w' (fun c => N ≤ c) X ∧ Below N w w'
theorem at_kid (S : Nat → Prop) (T : VT) (j g : Nat) (hj : j < T.len) (w : World) (hg : g = w.heap.size) (H : ValAt w S T) :
    Calls Tryd.prog 8 #[.agg #[.int .i64 T.kind, .int .u64 T.num, .string T.text, .slice T.ia T.len T.cap], .slice (some ⟨g, 0, none⟩) 1 1] (w.alloc (.cells #[.int .i64 (j : Nat)] 3)) (XTo (T.kid j) w.heap.size w) := by
  subst hg
  have hb := (Below.refl w.heap.size w).alloc (Nat.le_refl _) (.cells #[.int .i64 (j : Nat)] 3)
  refine (at8_any S T _ 1 1 (fun _ => (j : Nat)) _ (by decide) (H.next hb) (one_at w _)).mono ?_
  rintro e w' ⟨U, b, rfl, hor, hv, hb2⟩
  have hw : walkT T (fun _ => ((j : Nat) : Int)) 1 = some (T.kid j) := by
    show stepT T ((j : Nat) : Int) = _
    unfold stepT; rw [if_pos (by omega)]; rfl
  rw [hw] at hor
  have hsz := hb.size
  rcases hor with ⟨V, h1, rfl, h2⟩ | ⟨h1, _⟩
  · obtain rfl := Option.some.inj h1
    exact ⟨U, rfl, h2, hv.sub (fun b hb => by omega), hb.trans (hb2.mono hsz)⟩
  · cases h1
theorem at_len (S : Nat → Prop) (T : VT) (g : Nat) (w : World) (hg : g = w.heap.size) (H : ValAt w S T) :
    Calls Tryd.prog 8 #[.agg #[.int .i64 T.kind, .int .u64 T.num, .string T.text, .slice T.ia T.len T.cap], .slice (some ⟨g, 0, none⟩) 1 1] (w.alloc (.cells #[.int .i64 (T.len : Nat)] 3)) fun e w' => e = .returned (.tuple #[.agg #[.int .i64 0, .int .u64 0, .string ⟨#[]⟩, .slice none 0 0], .bool false]) ∧ Below w.heap.size w w' := by
  subst hg
  have hb := (Below.refl w.heap.size w).alloc (Nat.le_refl _) (.cells #[.int .i64 (T.len : Nat)] 3)
  refine (at8_any S T _ 1 1 (fun _ => (T.len : Nat)) _ (by decide) (H.next hb) (one_at w _)).mono ?_
  rintro e w' ⟨U, b, rfl, hor, hv, hb2⟩
  have hw : walkT T (fun _ => ((T.len : Nat) : Int)) 1 = none := by
    show stepT T ((T.len : Nat) : Int) = _
    unfold stepT; rw [if_neg (by omega)]
  rw [hw] at hor
  rcases hor with ⟨V, h1, _⟩ | ⟨_, rfl, rfl⟩
  · cases h1
  · exact ⟨rfl, hb.trans (hb2.mono hb.size)⟩
theorem at_nil (S : Nat → Prop) (T : VT) (w : World) (H : ValAt w S T) :
    Calls Tryd.prog 8 #[.agg #[.int .i64 T.kind, .int .u64 T.num, .string T.text, .slice T.ia T.len T.cap], .slice none 0 0] w (XTo T w.heap.size w) := by
  refine (at8_any S T _ 0 0 (fun _ => 0) _ (by decide) H (fun i hi => absurd hi (Nat.not_lt_zero i))).mono ?_
  rintro e w' ⟨U, b, rfl, hor, hv, hb2⟩
  rcases hor with ⟨V, h1, rfl, h2⟩ | ⟨h1, _⟩
  · obtain rfl : T = V := Option.some.inj h1
    exact ⟨U, rfl, h2, hv, hb2⟩
  · cases h1
end Go.Proofs.YtpclpghmahlieaaDoor
