/- awake: chapter 15's example. -/
import Derived.Test.YtbejpgoedenpmaaGreatDoorExprParse2
namespace Go.Proofs.YtbejpgoedenpmaaGreatDoor
open Go.RowKit
set_option linter.unusedVariables false
def awakeB : List UInt8 := [97, 32, 61, 32, 49, 32, 65, 78, 68, 32, 78, 79, 84, 32, 98, 32, 61, 32, 50, 32, 79, 82, 32, 99, 32, 76, 73, 75, 69, 32, 39, 120, 37, 39]
def awakeT : XT := mkX 6 0 [] [mkX 5 0 [] [mkX 1 1 [⟨1, bs [97], false, 0⟩, ⟨2, ⟨#[]⟩, false, 1⟩] [], mkX 4 0 [] [mkX 1 1 [⟨1, bs [98], false, 0⟩, ⟨2, ⟨#[]⟩, false, 2⟩] []]], mkX 3 0 [⟨1, bs [99], false, 0⟩, ⟨3, bs [120, 37], false, 0⟩] []]
theorem awake_tree : parseA awakeB = .good awakeT := by kernel_rfl
theorem awake_cells {w w' : World} {e : Ending} (h : ParseTo w (.good awakeT) e w') : ∃ (rel : Int) (aa : Option Addr) (an ac b off kc b2 off2 kc2 : Nat), e = .returned (.tuple #[.agg #[.int .i64 6, .int .i64 rel, .slice aa an ac, .slice (some ⟨b, off, none⟩) 2 kc], .agg #[.int .i64 0, .int .i64 0]]) ∧
    w'.cell? ⟨b, off, none⟩ = some (.int .i64 5) ∧ w'.cell? ⟨b, off + 3, none⟩ = some (.slice (some ⟨b2, off2, none⟩) 2 kc2) ∧ w'.cell? ⟨b, off + 4, none⟩ = some (.int .i64 3) ∧ w'.cell? ⟨b2, off2 + 4, none⟩ = some (.int .i64 4) ∧ Below w.heap.size w w' := by
  obtain ⟨hb, T, rfl, hs, hx⟩ := h
  obtain ⟨s1, _, _, _, s5, s6⟩ := (sameX_iff _ _).1 hs
  have k5 : T.kn = 2 := s5
  have k1 : T.op = 6 := s1
  obtain ⟨x1, x2, x3⟩ := (xat_iff T).1 hx
  obtain ⟨⟨b, off, e, _, _, c⟩, y0⟩ := x3 0 (by omega)
  obtain ⟨⟨b', off', e', _, _, c'⟩, y1⟩ := x3 1 (by omega)
  rw [e] at e'
  injection e' with e'
  injection e' with e1 e2 _
  subst e1; subst e2
  obtain ⟨t1, _, _, _, t5, t6⟩ := (sameX_iff _ _).1 (s6 0 (by omega))
  have l5 : (T.kid 0).kn = 2 := t5
  have l1 : (T.kid 0).op = 5 := t1
  have m1 : (T.kid 1).op = 3 := ((sameX_iff _ _).1 (s6 1 (by omega))).1
  have n1 : ((T.kid 0).kid 1).op = 4 := ((sameX_iff _ _).1 (t6 1 (by omega))).1
  obtain ⟨_, _, z3⟩ := (xat_iff (T.kid 0)).1 y0
  obtain ⟨⟨b2, off2, e2, _, _, d⟩, _⟩ := z3 1 (by omega)
  refine ⟨T.rel, T.aa, T.an, T.ac, b, off, T.kc, b2, off2, (T.kid 0).kc, by rw [k1, k5, e], ?_, ?_, ?_, ?_, hb⟩
  · have := c 0 _ rfl
    rw [l1] at this; simpa using this
  · have := c 3 _ rfl
    rw [l5, e2] at this; simpa using this
  · have := c' 0 _ rfl
    rw [m1] at this; simpa using this
  · have := d 0 _ rfl
    rw [n1] at this; simpa using this
set_option maxRecDepth 100000 in
set_option maxHeartbeats 4000000 in
theorem awake_any (w : World) (hV : LibAt w) : Calls Tryz.prog 9 #[] w fun e w' => e = .returned (.bool true) ∧ Below w.heap.size w w' := by
  have h := parse_any awakeB (by decide) w hV
  rw [awake_tree] at h
  have HT := Lib.hid (show Calls Tryz.prog 6 #[.string ⟨#[97, 32, 61, 32, 49, 32, 65, 78, 68, 32, 78, 79, 84, 32, 98, 32, 61, 32, 50, 32, 79, 82, 32, 99, 32, 76, 73, 75, 69, 32, 39, 120, 37, 39]⟩] w (ParseTo w (.good awakeT)) from h)
  have hfe := flt_eq 0 0
  clear h
  go_enter Tryz.func9, Tryz.ntmps9
  go_wp2_with (go_at_call 6; refine (HT.out).mono ?_; rintro e w1 h1; obtain ⟨rel, aa, an, ac, b, off, kc, b2, off2, kc2, rfl, c0, c3, c4, d4, hb⟩ := awake_cells h1; have q0 : b < w1.heap.size := World.block_lt_of_cell? w1 _ c0; have q1 : ¬ b = w1.heap.size := (by omega); have q2 : ¬ b = w1.heap.size + 1 := (by omega); have p0 : b2 < w1.heap.size := World.block_lt_of_cell? w1 _ d4; have p1 : ¬ b2 = w1.heap.size := (by omega); have p2 : ¬ b2 = w1.heap.size + 1 := (by omega); have HB := Lib.hid hb; clear hb h1)
  go_ret
  exact ⟨rfl, (HB.out.alloc HB.out.size _).alloc (by have := HB.out.size; simp; omega) _⟩
end Go.Proofs.YtbejpgoedenpmaaGreatDoor
