/- The reference of chapter 18: why two operands do not go together. -/
import Derived.Test.YtcojomkpogikiaaGreatDoorQ31
import Derived.Test.YtcojomkpogikiaaGreatDoorQ53
import Derived.Test.YtcojomkpogikiaaGreatDoorQ54
namespace Go.Proofs.YtcojomkpogikiaaGreatDoor
open Go.RowKit
set_option linter.unusedVariables false
set_option linter.unusedSimpArgs false
def PairTo (L : Nat → Pa.TypeV) (ao : Option Addr) (len cap : Nat) (t : Int) (a b : Opd) (rel : Int) (w : World) : Prop :=
  Calls Tryz.prog 45 #[.slice ao len cap, .int .i64 t, .agg #[.int .i64 a.kind, .string a.text, .bool a.neg, .int .u64 a.num], .agg #[.int .i64 b.kind, .string b.text, .bool b.neg, .int .u64 b.num], .int .i64 rel] w fun e w' => e = .returned (.int .i64 (pairA L len t a b rel)) ∧ Below w.heap.size w w'
set_option maxRecDepth 100000 in
set_option maxHeartbeats 4000000 in
theorem pair_dir (L : Nat → Pa.TypeV) (ao : Option Addr) (len cap : Nat) (hlen : len ≤ 1000000) (t : Int) (a b : Opd) (ha : a.text.size ≤ 1000000) (hb : b.text.size ≤ 1000000) (rel : Int) (w : World) (H : ∀ i, i < len → Pa.TypeAt w ao i (L i))
    (hd : ¬ ((whatA L len t a).1 < 4 ∧ 4 ≤ (whatA L len t b).1)) : PairTo L ao len cap t a b rel w := by
  unfold PairTo pairA
  have HW := Lib.hid (fun o (ho : o.text.size ≤ 1000000) wx (hx : Below w.heap.size w wx) => what_any L ao len cap hlen t o ho wx (hold18 H hx))
  have HI := Lib.hid (fun u s wx (hx : Below w.heap.size w wx) => Pa.refItem_any ao len cap L u s (by omega) wx (hold18 H hx))
  have HWA := Lib.hid (HW.out a ha)
  have HWB := Lib.hid (HW.out b hb)
  have hia := what_in L len t a
  have hib := what_in L len t b
  have HT0 := Lib.hid (Two.start w a b)
  unfold WhatTo at HWA HWB
  obtain ⟨X, hX⟩ : ∃ X, (whatA L len t a).1 = X := ⟨_, rfl⟩
  obtain ⟨Y, hY⟩ : ∃ Y, (whatA L len t b).1 = Y := ⟨_, rfl⟩
  rw [hX] at HWA hd hia ⊢
  rw [hY] at HWB hd hib ⊢
  generalize (whatA L len t a).2 = EA at HWA
  generalize (whatA L len t b).2 = EB at HWB
  obtain ⟨R, hR⟩ : ∃ R, pairW L len X Y a b rel = R := ⟨_, rfl⟩
  have hr : R = if 4 ≤ X ∧ Y < 4 then enumA L len (X - 4) b else if X ≠ Y then 8 else if X = 3 ∧ 2 < rel then 4 else 0 := by rw [← hR]; unfold pairW; rw [if_neg hd]
  rw [hR]
  obtain ⟨ka, xa, ga, na⟩ := a
  obtain ⟨kb, xb, gb, nb⟩ := b
  simp only at HWA HWB HT0 hr ⊢
  clear hX hY hR HW ha hb H
  unfold enumA at hr
  simp only at hr
  by_cases h1 : 4 ≤ X ∧ Y < 4
  · obtain ⟨hX4, hY4⟩ := h1
    rw [if_pos ⟨hX4, hY4⟩] at hr
    have nX : ¬ X < 4 := by omega
    have hxl := hia.2 hX4
    have hxw : IntKind.i64.wrap (X - 4) = X - 4 := IntWalk.i64_in _ (by omega)
    by_cases h3 : kb = 3
    · subst h3
      rw [if_neg (by decide)] at hr
      by_cases hn : Pa.itemL L len (X - 4) xb < 0
      · rw [if_pos hn] at hr
        rw [hr]
        clear hr
        go_enter Tryz.func45, Tryz.ntmps45
        go_wp2_with (first
              | (go_at_call 31; (with_reducible refine (HI.out _ _ _ (by exact HT2.out.bel)).mono ?_); rintro e w3 ⟨rfl, rfl⟩)
              | (go_at_call 30; (with_reducible refine (HWB.out _ (by exact HT1.out.bel)).mono ?_); rintro e w2 ⟨rfl, hb⟩; have HT2 := Lib.hid (HT1.out.next hb); obtain ⟨e0, e1, e2, e3⟩ := opd_box HT2.out.2.1; clear hb)
              | (go_at_call 30; (with_reducible refine (HWA.out _ (by exact HT0.out.bel)).mono ?_); rintro e w1 ⟨rfl, hb⟩; have HT1 := Lib.hid (HT0.out.next hb); obtain ⟨d0, d1, d2, d3⟩ := opd_box HT1.out.2.1; clear hb))
        go_ret
        exact ⟨rfl, HT2.out.2.2⟩
      · rw [if_neg hn] at hr
        rw [hr]
        clear hr
        go_enter Tryz.func45, Tryz.ntmps45
        go_wp2_with (first
              | (go_at_call 31; (with_reducible refine (HI.out _ _ _ (by exact HT2.out.bel)).mono ?_); rintro e w3 ⟨rfl, rfl⟩)
              | (go_at_call 30; (with_reducible refine (HWB.out _ (by exact HT1.out.bel)).mono ?_); rintro e w2 ⟨rfl, hb⟩; have HT2 := Lib.hid (HT1.out.next hb); obtain ⟨e0, e1, e2, e3⟩ := opd_box HT2.out.2.1; clear hb)
              | (go_at_call 30; (with_reducible refine (HWA.out _ (by exact HT0.out.bel)).mono ?_); rintro e w1 ⟨rfl, hb⟩; have HT1 := Lib.hid (HT0.out.next hb); obtain ⟨d0, d1, d2, d3⟩ := opd_box HT1.out.2.1; clear hb))
        go_ret
        exact ⟨rfl, HT2.out.2.2⟩
    · rw [if_pos h3] at hr
      have hkb : (kb != 3) = true := by rw [bne_iff_ne]; exact h3
      rw [hr]
      clear hr h3
      go_enter Tryz.func45, Tryz.ntmps45
      go_wp2_with (first
            | (go_at_call 31; (with_reducible refine (HI.out _ _ _ (by exact HT2.out.bel)).mono ?_); rintro e w3 ⟨rfl, rfl⟩)
            | (go_at_call 30; (with_reducible refine (HWB.out _ (by exact HT1.out.bel)).mono ?_); rintro e w2 ⟨rfl, hb⟩; have HT2 := Lib.hid (HT1.out.next hb); obtain ⟨e0, e1, e2, e3⟩ := opd_box HT2.out.2.1; clear hb)
            | (go_at_call 30; (with_reducible refine (HWA.out _ (by exact HT0.out.bel)).mono ?_); rintro e w1 ⟨rfl, hb⟩; have HT1 := Lib.hid (HT0.out.next hb); obtain ⟨d0, d1, d2, d3⟩ := opd_box HT1.out.2.1; clear hb))
      go_ret
      exact ⟨rfl, HT2.out.2.2⟩
  · rw [if_neg h1] at hr
    have hXY : (X < 4 ∧ Y < 4) ∨ (4 ≤ X ∧ 4 ≤ Y) := by omega
    have hq : (X < 4) = (Y < 4) := by rw [eq_iff_iff]; omega
    by_cases he : X = Y
    · subst he
      rw [if_neg (fun h => h rfl)] at hr
      by_cases h3 : X = 3
      · subst h3
        by_cases hrel : 2 < rel
        · rw [if_pos ⟨rfl, hrel⟩] at hr
          rw [hr]
          clear hr h1 hXY hq hd
          go_enter Tryz.func45, Tryz.ntmps45
          go_wp2_with (first
                | (go_at_call 31; (with_reducible refine (HI.out _ _ _ (by exact HT2.out.bel)).mono ?_); rintro e w3 ⟨rfl, rfl⟩)
                | (go_at_call 30; (with_reducible refine (HWB.out _ (by exact HT1.out.bel)).mono ?_); rintro e w2 ⟨rfl, hb⟩; have HT2 := Lib.hid (HT1.out.next hb); obtain ⟨e0, e1, e2, e3⟩ := opd_box HT2.out.2.1; clear hb)
                | (go_at_call 30; (with_reducible refine (HWA.out _ (by exact HT0.out.bel)).mono ?_); rintro e w1 ⟨rfl, hb⟩; have HT1 := Lib.hid (HT0.out.next hb); obtain ⟨d0, d1, d2, d3⟩ := opd_box HT1.out.2.1; clear hb))
          go_ret
          exact ⟨rfl, HT2.out.2.2⟩
        · rw [if_neg (fun h => hrel h.2)] at hr
          rw [hr]
          clear hr h1 hXY hq hd
          go_enter Tryz.func45, Tryz.ntmps45
          go_wp2_with (first
                | (go_at_call 31; (with_reducible refine (HI.out _ _ _ (by exact HT2.out.bel)).mono ?_); rintro e w3 ⟨rfl, rfl⟩)
                | (go_at_call 30; (with_reducible refine (HWB.out _ (by exact HT1.out.bel)).mono ?_); rintro e w2 ⟨rfl, hb⟩; have HT2 := Lib.hid (HT1.out.next hb); obtain ⟨e0, e1, e2, e3⟩ := opd_box HT2.out.2.1; clear hb)
                | (go_at_call 30; (with_reducible refine (HWA.out _ (by exact HT0.out.bel)).mono ?_); rintro e w1 ⟨rfl, hb⟩; have HT1 := Lib.hid (HT0.out.next hb); obtain ⟨d0, d1, d2, d3⟩ := opd_box HT1.out.2.1; clear hb))
          go_ret
          exact ⟨rfl, HT2.out.2.2⟩
      · rw [if_neg (fun h => h3 h.1)] at hr
        have h3b : (X == 3) = false := by rw [beq_eq_false_iff_ne]; exact h3
        rw [hr]
        clear hr h1 hq hd h3
        rcases hXY with ⟨hx, -⟩ | ⟨hx, -⟩
        · go_enter Tryz.func45, Tryz.ntmps45
          go_wp2_with (first
                | (go_at_call 31; (with_reducible refine (HI.out _ _ _ (by exact HT2.out.bel)).mono ?_); rintro e w3 ⟨rfl, rfl⟩)
                | (go_at_call 30; (with_reducible refine (HWB.out _ (by exact HT1.out.bel)).mono ?_); rintro e w2 ⟨rfl, hb⟩; have HT2 := Lib.hid (HT1.out.next hb); obtain ⟨e0, e1, e2, e3⟩ := opd_box HT2.out.2.1; clear hb)
                | (go_at_call 30; (with_reducible refine (HWA.out _ (by exact HT0.out.bel)).mono ?_); rintro e w1 ⟨rfl, hb⟩; have HT1 := Lib.hid (HT0.out.next hb); obtain ⟨d0, d1, d2, d3⟩ := opd_box HT1.out.2.1; clear hb))
          go_ret
          exact ⟨rfl, HT2.out.2.2⟩
        · have nX : ¬ X < 4 := by omega
          go_enter Tryz.func45, Tryz.ntmps45
          go_wp2_with (first
                | (go_at_call 31; (with_reducible refine (HI.out _ _ _ (by exact HT2.out.bel)).mono ?_); rintro e w3 ⟨rfl, rfl⟩)
                | (go_at_call 30; (with_reducible refine (HWB.out _ (by exact HT1.out.bel)).mono ?_); rintro e w2 ⟨rfl, hb⟩; have HT2 := Lib.hid (HT1.out.next hb); obtain ⟨e0, e1, e2, e3⟩ := opd_box HT2.out.2.1; clear hb)
                | (go_at_call 30; (with_reducible refine (HWA.out _ (by exact HT0.out.bel)).mono ?_); rintro e w1 ⟨rfl, hb⟩; have HT1 := Lib.hid (HT0.out.next hb); obtain ⟨d0, d1, d2, d3⟩ := opd_box HT1.out.2.1; clear hb))
          go_ret
          exact ⟨rfl, HT2.out.2.2⟩
    · rw [if_pos he] at hr
      have heb : (X != Y) = true := by rw [bne_iff_ne]; exact he
      rw [hr]
      clear hr h1 hq hd he
      rcases hXY with ⟨hx, hy⟩ | ⟨hx, hy⟩
      · have nY : ¬ 4 ≤ Y := by omega
        have nX : ¬ 4 ≤ X := by omega
        go_enter Tryz.func45, Tryz.ntmps45
        go_wp2_with (first
              | (go_at_call 31; (with_reducible refine (HI.out _ _ _ (by exact HT2.out.bel)).mono ?_); rintro e w3 ⟨rfl, rfl⟩)
              | (go_at_call 30; (with_reducible refine (HWB.out _ (by exact HT1.out.bel)).mono ?_); rintro e w2 ⟨rfl, hb⟩; have HT2 := Lib.hid (HT1.out.next hb); obtain ⟨e0, e1, e2, e3⟩ := opd_box HT2.out.2.1; clear hb)
              | (go_at_call 30; (with_reducible refine (HWA.out _ (by exact HT0.out.bel)).mono ?_); rintro e w1 ⟨rfl, hb⟩; have HT1 := Lib.hid (HT0.out.next hb); obtain ⟨d0, d1, d2, d3⟩ := opd_box HT1.out.2.1; clear hb))
        go_ret
        exact ⟨rfl, HT2.out.2.2⟩
      · have nX : ¬ X < 4 := by omega
        have nY : ¬ Y < 4 := by omega
        go_enter Tryz.func45, Tryz.ntmps45
        go_wp2_with (first
              | (go_at_call 31; (with_reducible refine (HI.out _ _ _ (by exact HT2.out.bel)).mono ?_); rintro e w3 ⟨rfl, rfl⟩)
              | (go_at_call 30; (with_reducible refine (HWB.out _ (by exact HT1.out.bel)).mono ?_); rintro e w2 ⟨rfl, hb⟩; have HT2 := Lib.hid (HT1.out.next hb); obtain ⟨e0, e1, e2, e3⟩ := opd_box HT2.out.2.1; clear hb)
              | (go_at_call 30; (with_reducible refine (HWA.out _ (by exact HT0.out.bel)).mono ?_); rintro e w1 ⟨rfl, hb⟩; have HT1 := Lib.hid (HT0.out.next hb); obtain ⟨d0, d1, d2, d3⟩ := opd_box HT1.out.2.1; clear hb))
        go_ret
        exact ⟨rfl, HT2.out.2.2⟩
theorem pair_any (L : Nat → Pa.TypeV) (ao : Option Addr) (len cap : Nat) (hlen : len ≤ 1000000) (t : Int) (a b : Opd) (ha : a.text.size ≤ 1000000) (hb : b.text.size ≤ 1000000) (rel : Int) (w : World) (H : ∀ i, i < len → Pa.TypeAt w ao i (L i)) : PairTo L ao len cap t a b rel w := by
  by_cases hd : (whatA L len t a).1 < 4 ∧ 4 ≤ (whatA L len t b).1
  · have HS := Lib.hid (fun wx (hx : Below w.heap.size w wx) => pair_dir L ao len cap hlen t b a hb ha rel wx (hold18 H hx) (by omega))
    have hsw : pairA L len t b a rel = pairA L len t a b rel := by
      unfold pairA pairW
      rw [if_pos hd, if_neg (by omega), if_pos ⟨hd.2, hd.1⟩]
    have HW := Lib.hid (fun o (ho : o.text.size ≤ 1000000) wx (hx : Below w.heap.size w wx) => what_any L ao len cap hlen t o ho wx (hold18 H hx))
    have HWA := Lib.hid (HW.out a ha)
    have HWB := Lib.hid (HW.out b hb)
    have HT0 := Lib.hid (Two.start w a b)
    unfold PairTo at HS ⊢
    rw [hsw] at HS
    unfold WhatTo at HWA HWB
    obtain ⟨X, hX⟩ : ∃ X, (whatA L len t a).1 = X := ⟨_, rfl⟩
    obtain ⟨Y, hY⟩ : ∃ Y, (whatA L len t b).1 = Y := ⟨_, rfl⟩
    obtain ⟨R, hR⟩ : ∃ R, pairA L len t a b rel = R := ⟨_, rfl⟩
    rw [hX] at HWA hd
    rw [hY] at HWB hd
    rw [hR] at HS ⊢
    generalize (whatA L len t a).2 = EA at HWA
    generalize (whatA L len t b).2 = EB at HWB
    obtain ⟨ka, xa, ga, na⟩ := a
    obtain ⟨kb, xb, gb, nb⟩ := b
    simp only at HWA HWB HT0 HS ⊢
    obtain ⟨hx4, hy4⟩ := hd
    clear hX hY hR HW ha hb H hsw
    go_enter Tryz.func45, Tryz.ntmps45
    go_wp2_with (first
      | (go_at_call 45; (with_reducible refine (HS.out _ (by exact HT2.out.bel)).mono ?_); rintro e w3 ⟨rfl, hb⟩; have HB3 := Lib.hid (HT2.out.2.2.trans (hb.mono HT2.out.2.2.size)); clear hb)
      | (go_at_call 30; (with_reducible refine (HWB.out _ (by exact HT1.out.bel)).mono ?_); rintro e w2 ⟨rfl, hb⟩; have HT2 := Lib.hid (HT1.out.next hb); obtain ⟨e0, e1, e2, e3⟩ := opd_box HT2.out.2.1; obtain ⟨g0, g1, g2, g3⟩ := opd_box HT2.out.1; clear hb)
      | (go_at_call 30; (with_reducible refine (HWA.out _ (by exact HT0.out.bel)).mono ?_); rintro e w1 ⟨rfl, hb⟩; have HT1 := Lib.hid (HT0.out.next hb); obtain ⟨d0, d1, d2, d3⟩ := opd_box HT1.out.2.1; clear hb))
    go_ret
    exact ⟨rfl, HB3.out⟩
  · exact pair_dir L ao len cap hlen t a b ha hb rel w H hd
end Go.Proofs.YtcojomkpogikiaaGreatDoor
/- The reference of chapter 18: why a tree does not fit. -/
namespace Go.Proofs.YtcojomkpogikiaaGreatDoor
open Go.RowKit
set_option linter.unusedVariables false
set_option linter.unusedSimpArgs false
theorem drewN18 {B : Nat} {w w1 : World} (h : Below B w w1) : ∀ m, Below B w (w1.drewN m)
  | 0 => h
  | m + 1 => (drewN18 h m).drew
def BxC (g : Nat) (op rel : Int) (aa : Option Addr) (an ac : Nat) (ka : Option Addr) (kn kc : Nat) (w0 w : World) : Prop := w.heap[g]? = some (.cells #[.int .i64 op, .int .i64 rel, .slice aa an ac, .slice ka kn kc] 26) ∧ Below g w0 w
section
variable {g : Nat} {op rel : Int} {aa : Option Addr} {an ac : Nat} {ka : Option Addr} {kn kc : Nat} {w0 w w1 : World}
theorem BxC.bel (h : BxC g op rel aa an ac ka kn kc w0 w) : Below g w0 w := h.2
theorem BxC.next (h : BxC g op rel aa an ac ka kn kc w0 w) (hb : Below w.heap.size w w1) : BxC g op rel aa an ac ka kn kc w0 w1 := ⟨rowKeep hb h.1, h.2.trans (hb.mono (Nat.le_of_lt (lt_of_block h.1)))⟩
theorem BxC.cells (h : BxC g op rel aa an ac ka kn kc w0 w) : w.cell? ⟨g, 0, none⟩ = some (.int .i64 op) ∧ w.cell? ⟨g, 1, none⟩ = some (.int .i64 rel) ∧ w.cell? ⟨g, 2, none⟩ = some (.slice aa an ac) ∧ w.cell? ⟨g, 3, none⟩ = some (.slice ka kn kc) := ⟨cell_at h.1 rfl, cell_at h.1 rfl, cell_at h.1 rfl, cell_at h.1 rfl⟩
end
theorem BxC.start (op rel : Int) (aa : Option Addr) (an ac : Nat) (ka : Option Addr) (kn kc : Nat) (w : World) : BxC w.heap.size op rel aa an ac ka kn kc w (w.alloc (.cells #[.int .i64 op, .int .i64 rel, .slice aa an ac, .slice ka kn kc] 26)) := ⟨alloc_at w _, (Below.refl _ _).alloc (Nat.le_refl _) _⟩
/-- an operand, where it lies -/
theorem opd_at {w : World} {S : Nat → Prop} {aa : Option Addr} {i : Nat} {o : Opd} (h : CellsAt w S aa i (opdC o)) : ∃ b off, aa = some ⟨b, off, none⟩ ∧ w.cell? ⟨b, off + i * 4, none⟩ = some (.int .i64 o.kind) ∧ w.cell? ⟨b, off + i * 4 + 1, none⟩ = some (.string o.text) ∧ w.cell? ⟨b, off + i * 4 + 2, none⟩ = some (.bool o.neg) ∧ w.cell? ⟨b, off + i * 4 + 3, none⟩ = some (.int .u64 o.num) := by
  obtain ⟨b, off, e, -, -, hl⟩ := h
  exact ⟨b, off, e, hl 0 _ rfl, hl 1 _ rfl, hl 2 _ rfl, hl 3 _ rfl⟩
theorem opd_at2 {w : World} {S : Nat → Prop} {aa : Option Addr} {i j : Nat} {o u : Opd} (h : CellsAt w S aa i (opdC o)) (k : CellsAt w S aa j (opdC u)) : ∃ b off, aa = some ⟨b, off, none⟩ ∧ w.cell? ⟨b, off + i * 4, none⟩ = some (.int .i64 o.kind) ∧ w.cell? ⟨b, off + i * 4 + 1, none⟩ = some (.string o.text) ∧ w.cell? ⟨b, off + i * 4 + 2, none⟩ = some (.bool o.neg) ∧ w.cell? ⟨b, off + i * 4 + 3, none⟩ = some (.int .u64 o.num) ∧
    w.cell? ⟨b, off + j * 4, none⟩ = some (.int .i64 u.kind) ∧ w.cell? ⟨b, off + j * 4 + 1, none⟩ = some (.string u.text) ∧ w.cell? ⟨b, off + j * 4 + 2, none⟩ = some (.bool u.neg) ∧ w.cell? ⟨b, off + j * 4 + 3, none⟩ = some (.int .u64 u.num) := by
  obtain ⟨b, off, e, h0, h1, h2, h3⟩ := opd_at h
  obtain ⟨b', off', e', k0, k1, k2, k3⟩ := opd_at k
  have ee : b = b' ∧ off = off' := by rw [e] at e'; cases e'; exact ⟨rfl, rfl⟩
  obtain ⟨rfl, rfl⟩ := ee
  exact ⟨b, off, e, h0, h1, h2, h3, k0, k1, k2, k3⟩
def TreeTo (R : Int) (ao : Option Addr) (len cap : Nat) (t op rel : Int) (aa : Option Addr) (an ac : Nat) (ka : Option Addr) (kn kc : Nat) (w : World) : Prop :=
  Calls Tryz.prog 24 #[.slice ao len cap, .int .i64 t, .agg #[.int .i64 op, .int .i64 rel, .slice aa an ac, .slice ka kn kc]] w fun e w' => e = .returned (.int .i64 R) ∧ Below w.heap.size w w'
def ownN (L : Nat → Pa.TypeV) (len : Nat) (t op rel : Int) (an : Nat) (arg : Nat → Opd) (kn : Nat) : Int :=
  if argE L len t arg an ≠ 0 then argE L len t arg an else if badF op rel an kn then 1 else goE L len t op rel arg
theorem arg_first {L : Nat → Pa.TypeV} {len : Nat} {t op rel : Int} {an kn j : Nat} {arg : Nat → Opd} {kidE : Nat → Int} (h : ∀ k, k < j → (whatA L len t (arg k)).2 = 0) (hj : j < an) (h0 : (whatA L len t (arg j)).2 ≠ 0) :
    (if ownN L len t op rel an arg kn ≠ 0 then ownN L len t op rel an arg kn else Pa.firstE kidE kn) = (whatA L len t (arg j)).2 := by
  have e : argE L len t arg an = (whatA L len t (arg j)).2 := Pa.firstE_at (e := fun i => (whatA L len t (arg i)).2) (fun i hi => by rw [bne_eq_false_iff_eq]; exact h i hi) hj (by rw [bne_iff_ne]; exact h0)
  have e2 : ownN L len t op rel an arg kn = (whatA L len t (arg j)).2 := by unfold ownN; rw [e, if_pos h0]
  rw [e2, if_pos h0]
theorem arg_none {L : Nat → Pa.TypeV} {len : Nat} {t op rel : Int} {an kn : Nat} {arg : Nat → Opd} (h : ∀ k, k < an → (whatA L len t (arg k)).2 = 0) : ownN L len t op rel an arg kn = if badF op rel an kn then 1 else goE L len t op rel arg := by
  have e : argE L len t arg an = 0 := Pa.firstE_none (fun i hi => by rw [bne_eq_false_iff_eq]; exact h i hi)
  unfold ownN
  rw [e, if_neg (fun h => h rfl)]
theorem goE_zero {L : Nat → Pa.TypeV} {len : Nat} {t op rel : Int} {arg : Nat → Opd} (h1 : op = 1 → pairA L len t (arg 0) (arg 1) rel = 0) (h2 : op = 2 → pairA L len t (arg 0) (arg 1) 4 = 0 ∧ pairA L len t (arg 0) (arg 2) 4 = 0) (h3 : op = 3 → (whatA L len t (arg 0)).1 = 2 ∧ (whatA L len t (arg 1)).1 = 2) : goE L len t op rel arg = 0 := by
  unfold goE
  by_cases o1 : op = 1
  · rw [if_pos o1, h1 o1]
  · rw [if_neg o1]
    by_cases o2 : op = 2
    · rw [if_pos o2, (h2 o2).1, if_neg (fun h => h rfl), (h2 o2).2]
    · rw [if_neg o2]
      by_cases o3 : op = 3
      · rw [if_pos o3, (h3 o3).1, (h3 o3).2, if_neg (by simp)]
      · rw [if_neg o3]
set_option maxRecDepth 100000 in
set_option maxHeartbeats 16000000 in
theorem tree_node (S : Nat → Prop) (L : Nat → Pa.TypeV) (ao : Option Addr) (len cap : Nat) (hlen : len ≤ 1000000) (t op rel : Int) (aa : Option Addr) (an ac : Nat) (arg : Nat → Opd) (ka : Option Addr) (kn kc : Nat) (kid : Nat → XT) (kidE : Nat → Int) (w : World)
    (H : ∀ i, i < len → Pa.TypeAt w ao i (L i)) (han : an ≤ 3518437208780) (hkn : kn ≤ 2513169434843) (hA : ∀ i, i < an → CellsAt w S aa i (opdC (arg i))) (hK : ∀ i, i < kn → CellsAt w S ka i (xtC (kid i))) (hT : ∀ i, i < an → (arg i).text.size ≤ 1000000)
    (HI : Hid (∀ i, i < kn → ∀ wx, Below w.heap.size w wx → TreeTo (kidE i) ao len cap t (kid i).op (kid i).rel (kid i).aa (kid i).an (kid i).ac (kid i).ka (kid i).kn (kid i).kc wx)) :
    TreeTo (if ownN L len t op rel an arg kn ≠ 0 then ownN L len t op rel an arg kn else Pa.firstE kidE kn) ao len cap t op rel aa an ac ka kn kc w := by
  have HW := Lib.hid (fun i (hi : i < an) wx (hb : Below w.heap.size w wx) => what_any L ao len cap hlen t (arg i) (hT i hi) wx (hold18 H hb))
  have HP := Lib.hid (fun i j (hi : i < an) (hj : j < an) r wx (hb : Below w.heap.size w wx) => pair_any L ao len cap hlen t (arg i) (arg j) (hT i hi) (hT j hj) r wx (hold18 H hb))
  have HAC := Lib.hid (fun i (hi : i < an) wx (hb : Below w.heap.size w wx) => opd_at ((hA i hi).next hb))
  have HA2 := Lib.hid (fun i j (hi : i < an) (hj : j < an) wx (hb : Below w.heap.size w wx) => opd_at2 ((hA i hi).next hb) ((hA j hj).next hb))
  have HKC := Lib.hid (fun i (hi : i < kn) wx (hb : Below w.heap.size w wx) => (hK i hi).next hb)
  have H1 := Lib.hid (fun j (h : ∀ k, k < j → (whatA L len t (arg k)).2 = 0) (hj : j < an) h0 => arg_first (op := op) (rel := rel) (kn := kn) (kidE := kidE) h hj h0)
  have H2 := Lib.hid (@arg_none L len t op rel an kn arg)
  have HB0 := Lib.hid (BxC.start op rel aa an ac ka kn kc w)
  unfold WhatTo at HW
  unfold PairTo at HP
  unfold TreeTo
  obtain ⟨R, hR⟩ : ∃ R, (if ownN L len t op rel an arg kn ≠ 0 then ownN L len t op rel an arg kn else Pa.firstE kidE kn) = R := ⟨_, rfl⟩
  have HR := Lib.hid hR
  rw [hR]
  clear hR H hA hK hT
  go_enter Tryz.func24, Tryz.ntmps24
  go_wp2_with (fail)
  go_loopw [7] (fun i wr => ∃ j : Nat, j ≤ an ∧ i = .int .i64 j ∧ Hid (∀ k, k < j → (whatA L len t (arg k)).2 = 0) ∧ Hid (BxC w.heap.size op rel aa an ac ka kn kc w wr)) (fun i _ => an - (intOf i).toNat)
  case atStart => exact ⟨0, Nat.zero_le _, rfl, Lib.hid (fun k hk => absurd hk (Nat.not_lt_zero k)), HB0⟩
  case round =>
    clear HB0
    obtain ⟨j, hj, rfl, HZ, HB⟩ := hrel
    obtain ⟨c0, c1, c2, c3⟩ := HB.out.cells
    by_cases hlt : j < an
    · have hji : (j : Int) < (an : Int) := by omega
      obtain ⟨b, off, rfl, e0, e1, e2, e3⟩ := HAC.out j hlt wr HB.out.bel
      have HWj := Lib.hid (HW.out j hlt wr HB.out.bel)
      have hz1 := HZ.out
      have hf := fun h0 => H1.out j hz1 hlt h0
      rw [HR.out] at hf
      obtain ⟨⟨ok, ox, og, on⟩, ho⟩ : ∃ o, arg j = o := ⟨_, rfl⟩
      rw [ho] at e0 e1 e2 e3 HWj
      simp only at e0 e1 e2 e3 HWj
      obtain ⟨E, hE⟩ : ∃ E, (whatA L len t (arg j)).2 = E := ⟨_, rfl⟩
      have hE2 := hE
      rw [ho] at hE2
      rw [hE2] at HWj
      rw [hE] at hf
      generalize (whatA L len t ⟨ok, ox, og, on⟩).1 = X at HWj
      by_cases h0 : E = 0
      · have HN := Lib.hid (show ∀ k, k < j + 1 → (whatA L len t (arg k)).2 = 0 from fun k hk => by
          rcases Nat.lt_succ_iff_lt_or_eq.1 hk with h | h
          · exact HZ.out k h
          · rw [h, hE, h0])
        have h0b : (E != 0) = false := by rw [bne_eq_false_iff_eq]; exact h0
        clear hz1 hf ho hE hE2 h0
        go_wp2_with (go_at_call 30; refine HWj.out.mono ?_; rintro e w1 ⟨rfl, hb⟩; have HB1 := Lib.hid (HB.out.next hb); clear hb)
        go_roundw
        case rel => exact ⟨j + 1, by omega, by go_num, HN, HB1⟩
        case measure => simp [intOf]; omega
      · have hr := hf h0
        have h0b : (E != 0) = true := by rw [bne_iff_ne]; exact h0
        clear hz1 hf ho hE hE2 h0
        go_wp2_with (go_at_call 30; refine HWj.out.mono ?_; rintro e w1 ⟨rfl, hb⟩; have HB1 := Lib.hid (HB.out.next hb); clear hb)
        go_ret
        exact ⟨by rw [hr]; rfl, HB1.out.bel⟩
    · have hje : j = an := by omega
      subst hje
      have HO := Lib.hid (H2.out HZ.out)
      have hji : ¬ (j : Int) < (j : Int) := by omega
      clear HZ H1 H2 hlt
      have HB2 := Lib.hid (HB.out.next ((Below.refl wr.heap.size wr).alloc (Nat.le_refl _) (.cells #[.int .i64 0, .int .i64 2, .int .i64 3, .int .i64 2, .int .i64 0, .int .i64 0, .int .i64 0] 3)))
      have hrow := alloc_at wr (.cells #[.int .i64 0, .int .i64 2, .int .i64 3, .int .i64 2, .int .i64 0, .int .i64 0, .int .i64 0] 3)
      obtain ⟨d0, d1, d2, d3⟩ := HB2.out.cells
      have r0 := cell_at (j := 0) hrow rfl
      have r1 := cell_at (j := 1) hrow rfl
      have r2 := cell_at (j := 2) hrow rfl
      have r3 := cell_at (j := 3) hrow rfl
      have r4 := cell_at (j := 4) hrow rfl
      have r5 := cell_at (j := 5) hrow rfl
      have r6 := cell_at (j := 6) hrow rfl
      clear hrow
      go_upto_region 9 with (fail)
      generalize wr.alloc (.cells #[.int .i64 0, .int .i64 2, .int .i64 3, .int .i64 2, .int .i64 0, .int .i64 0, .int .i64 0] 3) = W9 at *
      go_cut [105] (fun q wx => q = .bool (badF op rel j kn) ∧ Hid (BxC w.heap.size op rel aa j ac ka kn kc w wx))
      case first => as_aux_lemma =>
        by_cases hlo : op < 1
        · have hb : badF op rel j kn = true := by unfold badF; rw [if_neg (by omega), if_neg (by omega), if_neg (by omega), if_neg (by omega), if_neg (by omega)]
          have ql : decide (op < 1) = true := decide_eq_true hlo
          clear hlo
          go_quiet (fail)
          go_wp2_with (fail)
          go_meet
          exact ⟨by rw [hb], Lib.hid (HB2.out.next (drewN18 (Below.refl _ _) _))⟩
        by_cases hhi : 6 < op
        · have hb : badF op rel j kn = true := by unfold badF; rw [if_neg (by omega), if_neg (by omega), if_neg (by omega), if_neg (by omega), if_neg (by omega)]
          have ql : decide (op < 1) = false := decide_eq_false hlo
          have qh : decide (6 < op) = true := decide_eq_true hhi
          clear hlo hhi
          go_quiet (fail)
          go_wp2_with (fail)
          go_meet
          exact ⟨by rw [hb], Lib.hid (HB2.out.next (drewN18 (Below.refl _ _) _))⟩
        have ho : op = 1 ∨ op = 2 ∨ op = 3 ∨ op = 4 ∨ op = 5 ∨ op = 6 := by omega
        clear hlo hhi
        rcases ho with rfl | rfl | rfl | rfl | rfl | rfl
        · by_cases ha : j = 2
          · have qa : ((j : Int) != 2) = false := by rw [bne_eq_false_iff_eq]; omega
            by_cases hk : kn = 0
            · have qk : decide ((0 : Int) < (kn : Int)) = false := decide_eq_false (by omega)
              have qn : decide (0 < kn) = false := decide_eq_false (by omega)
              by_cases h1 : rel < 1
              · have hb : badF 1 rel j kn = true := by unfold badF; simp <;> omega
                have q1 : decide (rel < 1) = true := decide_eq_true h1
                clear h1
                clear ha hk
                go_quiet (fail)
                go_wp2_with (fail)
                go_meet
                exact ⟨by rw [hb], Lib.hid (HB2.out.next (drewN18 (Below.refl _ _) _))⟩
              · by_cases h6 : 6 < rel
                · have hb : badF 1 rel j kn = true := by unfold badF; simp <;> omega
                  have q1 : decide (rel < 1) = false := decide_eq_false h1
                  have q6 : decide (6 < rel) = true := decide_eq_true h6
                  clear h1 h6
                  clear ha hk
                  go_quiet (fail)
                  go_wp2_with (fail)
                  go_meet
                  exact ⟨by rw [hb], Lib.hid (HB2.out.next (drewN18 (Below.refl _ _) _))⟩
                · have hb : badF 1 rel j kn = false := by unfold badF; simp <;> omega
                  have q1 : decide (rel < 1) = false := decide_eq_false h1
                  have q6 : decide (6 < rel) = false := decide_eq_false h6
                  clear h1 h6
                  clear ha hk
                  go_quiet (fail)
                  go_wp2_with (fail)
                  go_meet
                  exact ⟨by rw [hb], Lib.hid (HB2.out.next (drewN18 (Below.refl _ _) _))⟩
            · have qk : decide ((0 : Int) < (kn : Int)) = true := decide_eq_true (by omega)
              have qn : decide (0 < kn) = true := decide_eq_true (by omega)
              have hb : badF 1 rel j kn = true := by unfold badF; simp <;> omega
              clear ha hk
              go_quiet (fail)
              go_wp2_with (fail)
              go_meet
              exact ⟨by rw [hb], Lib.hid (HB2.out.next (drewN18 (Below.refl _ _) _))⟩
          · have qa : ((j : Int) != 2) = true := by rw [bne_iff_ne]; omega
            have hb : badF 1 rel j kn = true := by unfold badF; simp <;> omega
            clear ha
            go_quiet (fail)
            go_wp2_with (fail)
            go_meet
            exact ⟨by rw [hb], Lib.hid (HB2.out.next (drewN18 (Below.refl _ _) _))⟩
        · by_cases ha : j = 3
          · have qa : ((j : Int) != 3) = false := by rw [bne_eq_false_iff_eq]; omega
            by_cases hk : kn = 0
            · have qk : decide ((0 : Int) < (kn : Int)) = false := decide_eq_false (by omega)
              have qn : decide (0 < kn) = false := decide_eq_false (by omega)
              have hb : badF 2 rel j kn = false := by unfold badF; simp <;> omega
              clear ha hk
              go_quiet (fail)
              go_wp2_with (fail)
              go_meet
              exact ⟨by rw [hb], Lib.hid (HB2.out.next (drewN18 (Below.refl _ _) _))⟩
            · have qk : decide ((0 : Int) < (kn : Int)) = true := decide_eq_true (by omega)
              have qn : decide (0 < kn) = true := decide_eq_true (by omega)
              have hb : badF 2 rel j kn = true := by unfold badF; simp <;> omega
              clear ha hk
              go_quiet (fail)
              go_wp2_with (fail)
              go_meet
              exact ⟨by rw [hb], Lib.hid (HB2.out.next (drewN18 (Below.refl _ _) _))⟩
          · have qa : ((j : Int) != 3) = true := by rw [bne_iff_ne]; omega
            have hb : badF 2 rel j kn = true := by unfold badF; simp <;> omega
            clear ha
            go_quiet (fail)
            go_wp2_with (fail)
            go_meet
            exact ⟨by rw [hb], Lib.hid (HB2.out.next (drewN18 (Below.refl _ _) _))⟩
        · by_cases ha : j = 2
          · have qa : ((j : Int) != 2) = false := by rw [bne_eq_false_iff_eq]; omega
            by_cases hk : kn = 0
            · have qk : decide ((0 : Int) < (kn : Int)) = false := decide_eq_false (by omega)
              have qn : decide (0 < kn) = false := decide_eq_false (by omega)
              have hb : badF 3 rel j kn = false := by unfold badF; simp <;> omega
              clear ha hk
              go_quiet (fail)
              go_wp2_with (fail)
              go_meet
              exact ⟨by rw [hb], Lib.hid (HB2.out.next (drewN18 (Below.refl _ _) _))⟩
            · have qk : decide ((0 : Int) < (kn : Int)) = true := decide_eq_true (by omega)
              have qn : decide (0 < kn) = true := decide_eq_true (by omega)
              have hb : badF 3 rel j kn = true := by unfold badF; simp <;> omega
              clear ha hk
              go_quiet (fail)
              go_wp2_with (fail)
              go_meet
              exact ⟨by rw [hb], Lib.hid (HB2.out.next (drewN18 (Below.refl _ _) _))⟩
          · have qa : ((j : Int) != 2) = true := by rw [bne_iff_ne]; omega
            have hb : badF 3 rel j kn = true := by unfold badF; simp <;> omega
            clear ha
            go_quiet (fail)
            go_wp2_with (fail)
            go_meet
            exact ⟨by rw [hb], Lib.hid (HB2.out.next (drewN18 (Below.refl _ _) _))⟩
        · by_cases ha : j = 0
          · have qa : ((j : Int) != 0) = false := by rw [bne_eq_false_iff_eq]; omega
            by_cases hk : kn = 1
            · have qk : ((kn : Int) != 1) = false := by rw [bne_eq_false_iff_eq]; omega
              have hb : badF 4 rel j kn = false := by unfold badF; simp <;> omega
              clear ha hk
              go_quiet (fail)
              go_wp2_with (fail)
              go_meet
              exact ⟨by rw [hb], Lib.hid (HB2.out.next (drewN18 (Below.refl _ _) _))⟩
            · have qk : ((kn : Int) != 1) = true := by rw [bne_iff_ne]; omega
              have hb : badF 4 rel j kn = true := by unfold badF; simp <;> omega
              clear ha hk
              go_quiet (fail)
              go_wp2_with (fail)
              go_meet
              exact ⟨by rw [hb], Lib.hid (HB2.out.next (drewN18 (Below.refl _ _) _))⟩
          · have qa : ((j : Int) != 0) = true := by rw [bne_iff_ne]; omega
            have hb : badF 4 rel j kn = true := by unfold badF; simp <;> omega
            clear ha
            go_quiet (fail)
            go_wp2_with (fail)
            go_meet
            exact ⟨by rw [hb], Lib.hid (HB2.out.next (drewN18 (Below.refl _ _) _))⟩
        · by_cases ha : j = 0
          · have qa : ((j : Int) != 0) = false := by rw [bne_eq_false_iff_eq]; omega
            by_cases hk : 2 ≤ kn
            · have qk : decide ((kn : Int) < 2) = false := decide_eq_false (by omega)
              have qn : decide (kn < 2) = false := decide_eq_false (by omega)
              have hb : badF 5 rel j kn = false := by unfold badF; simp <;> omega
              clear ha hk
              go_quiet (fail)
              go_wp2_with (fail)
              go_meet
              exact ⟨by rw [hb], Lib.hid (HB2.out.next (drewN18 (Below.refl _ _) _))⟩
            · have qk : decide ((kn : Int) < 2) = true := decide_eq_true (by omega)
              have qn : decide (kn < 2) = true := decide_eq_true (by omega)
              have hb : badF 5 rel j kn = true := by unfold badF; simp <;> omega
              clear ha hk
              go_quiet (fail)
              go_wp2_with (fail)
              go_meet
              exact ⟨by rw [hb], Lib.hid (HB2.out.next (drewN18 (Below.refl _ _) _))⟩
          · have qa : ((j : Int) != 0) = true := by rw [bne_iff_ne]; omega
            have hb : badF 5 rel j kn = true := by unfold badF; simp <;> omega
            clear ha
            go_quiet (fail)
            go_wp2_with (fail)
            go_meet
            exact ⟨by rw [hb], Lib.hid (HB2.out.next (drewN18 (Below.refl _ _) _))⟩
        · by_cases ha : j = 0
          · have qa : ((j : Int) != 0) = false := by rw [bne_eq_false_iff_eq]; omega
            by_cases hk : 2 ≤ kn
            · have qk : decide ((kn : Int) < 2) = false := decide_eq_false (by omega)
              have qn : decide (kn < 2) = false := decide_eq_false (by omega)
              have hb : badF 6 rel j kn = false := by unfold badF; simp <;> omega
              clear ha hk
              go_quiet (fail)
              go_wp2_with (fail)
              go_meet
              exact ⟨by rw [hb], Lib.hid (HB2.out.next (drewN18 (Below.refl _ _) _))⟩
            · have qk : decide ((kn : Int) < 2) = true := decide_eq_true (by omega)
              have qn : decide (kn < 2) = true := decide_eq_true (by omega)
              have hb : badF 6 rel j kn = true := by unfold badF; simp <;> omega
              clear ha hk
              go_quiet (fail)
              go_wp2_with (fail)
              go_meet
              exact ⟨by rw [hb], Lib.hid (HB2.out.next (drewN18 (Below.refl _ _) _))⟩
          · have qa : ((j : Int) != 0) = true := by rw [bne_iff_ne]; omega
            have hb : badF 6 rel j kn = true := by unfold badF; simp <;> omega
            clear ha
            go_quiet (fail)
            go_wp2_with (fail)
            go_meet
            exact ⟨by rw [hb], Lib.hid (HB2.out.next (drewN18 (Below.refl _ _) _))⟩
      case rest => as_aux_lemma =>
        obtain ⟨rfl, HB3⟩ := hcut
        obtain ⟨e0, e1, e2, e3⟩ := HB3.out.cells
        clear r0 r1 r2 r3 r4 r5 r6 c0 c1 c2 c3 d0 d1 d2 d3 HB2 HB
        cases hbad : badF op rel j kn with
        | true =>
          have hr := Lib.hid (show R = 1 by rw [← HR.out, HO.out, hbad]; rfl)
          go_wp2_with (fail)
          go_ret
          exact ⟨by rw [hr.out]; rfl, HB3.out.bel⟩
        | false =>
          have hr := HR.out
          rw [HO.out, hbad, if_neg (show ¬ (false = true) by decide)] at hr
          have HR2 := Lib.hid hr
          have HF1 := Lib.hid (show op = 1 → j = 2 ∧ kn = 0 from fun h => by subst h; unfold badF at hbad; simp at hbad; omega)
          have HF2 := Lib.hid (show op = 2 → j = 3 ∧ kn = 0 from fun h => by subst h; unfold badF at hbad; simp at hbad; omega)
          have HF3 := Lib.hid (show op = 3 → j = 2 ∧ kn = 0 from fun h => by subst h; unfold badF at hbad; simp at hbad; omega)
          clear hr hbad HO HR
          go_upto_if 108 with (fail)
          go_cut [] (fun wx => Hid (op = 1 → pairA L len t (arg 0) (arg 1) rel = 0) ∧ Hid (BxC w.heap.size op rel aa j ac ka kn kc w wx))
          case first => as_aux_lemma =>
            by_cases o1 : op = 1
            · subst o1
              obtain ⟨rfl, rfl⟩ := HF1.out rfl
              obtain ⟨b, off, rfl, f0, f1, f2, f3, g0, g1, g2, g3⟩ := HA2.out 0 1 (by decide) (by decide) wc HB3.out.bel
              simp only [Nat.zero_mul, Nat.add_zero, Nat.one_mul] at f0 f1 f2 f3 g0 g1 g2 g3
              have HPP := Lib.hid (fun wx hb => HP.out 0 1 (by decide) (by decide) rel wx hb)
              obtain ⟨⟨ok, ox, og, on⟩, ho⟩ : ∃ o, arg 0 = o := ⟨_, rfl⟩
              obtain ⟨⟨uk, ux, ug, un⟩, hu⟩ : ∃ o, arg 1 = o := ⟨_, rfl⟩
              obtain ⟨E, hE⟩ : ∃ E, pairA L len t (arg 0) (arg 1) rel = E := ⟨_, rfl⟩
              rw [hE] at HPP
              have HE := Lib.hid hE
              rw [ho] at f0 f1 f2 f3 HPP
              rw [hu] at g0 g1 g2 g3 HPP
              simp only at f0 f1 f2 f3 g0 g1 g2 g3 HPP
              clear ho hu hE
              have hRE := Lib.hid (show E ≠ 0 → R = E from fun h => by
                have := HR2.out
                rw [show goE L len t 1 rel arg = E from HE.out, if_pos h] at this
                exact this.symm)
              by_cases h0 : E = 0
              · have h0b : (E != 0) = false := by rw [bne_eq_false_iff_eq]; exact h0
                have HN := Lib.hid (show (1 : Int) = 1 → pairA L len t (arg 0) (arg 1) rel = 0 from fun _ => by rw [HE.out, h0])
                clear h0
                go_upto_region 12 with (fail)
                go_still_tail 12, (by kernel_rfl)
                change wpList _ _ _ _ _ wc.drew
                have HBD := Lib.hid (HB3.out.next (Below.refl _ _).drew)
                generalize wc.drew = wd at *
                go_wp2_with (go_at_call 45; (with_reducible refine (HPP.out _ (by exact HBD.out.bel)).mono ?_); rintro e w2 ⟨rfl, hb⟩; have HB4 := Lib.hid (HBD.out.next hb); clear hb)
                go_meet
                exact ⟨HN, HB4⟩
              · have h0b : (E != 0) = true := by rw [bne_iff_ne]; exact h0
                have hr := Lib.hid (hRE.out h0)
                clear h0
                go_upto_region 12 with (fail)
                go_still_tail 12, (by kernel_rfl)
                change wpList _ _ _ _ _ wc.drew
                have HBD := Lib.hid (HB3.out.next (Below.refl _ _).drew)
                generalize wc.drew = wd at *
                go_wp2_with (go_at_call 45; (with_reducible refine (HPP.out _ (by exact HBD.out.bel)).mono ?_); rintro e w2 ⟨rfl, hb⟩; have HB4 := Lib.hid (HBD.out.next hb); clear hb)
                go_ret
                exact ⟨by first | rfl | (rw [hr.out]; rfl), HB4.out.bel⟩
            · have o1b : (op == 1) = false := by rw [beq_eq_false_iff_ne]; exact o1
              have HN := Lib.hid (show op = 1 → pairA L len t (arg 0) (arg 1) rel = 0 from fun h => absurd h o1)
              go_wp2_with (fail)
              go_meet
              exact ⟨HN, HB3⟩
          case rest => as_aux_lemma =>
            obtain ⟨HP1, HB4⟩ := hcut
            clear HB3 e0 e1 e2 e3 HF1
            go_upto_block 2 with (fail)
            go_cut [] (fun wx => Hid (op = 2 → pairA L len t (arg 0) (arg 1) 4 = 0 ∧ pairA L len t (arg 0) (arg 2) 4 = 0) ∧ Hid (BxC w.heap.size op rel aa j ac ka kn kc w wx))
            case first => as_aux_lemma =>
              go_wp2_with (fail)
              go_loopw [13] (fun i wr => ∃ k : Nat, 1 ≤ k ∧ k ≤ 3 ∧ i = .int .i64 k ∧ Hid (op = 2 → ∀ m, 1 ≤ m → m < k → pairA L len t (arg 0) (arg m) 4 = 0) ∧ Hid (BxC w.heap.size op rel aa j ac ka kn kc w wr)) (fun i _ => 3 - (intOf i).toNat)
              case atStart => exact ⟨1, Nat.le_refl _, by decide, rfl, Lib.hid (fun _ m h1 h2 => by omega), HB4⟩
              case round =>
                clear HB4
                obtain ⟨k, hk1, hk3, rfl, HM, HB⟩ := hrel
                obtain ⟨e0, e1, e2, e3⟩ := HB.out.cells
                by_cases hlt : k < 3
                · have q3 : (k : Int) < 3 := by omega
                  by_cases o2 : op = 2
                  · subst o2
                    have hj3 := (HF2.out rfl).1
                    obtain ⟨b, off, rfl, f0, f1, f2, f3, g0, g1, g2, g3⟩ := HA2.out 0 k (by omega) (by omega) wr HB.out.bel
                    have qj0 : (0 : Int) < (j : Int) := by omega
                    have qj0n : 0 < j := by omega
                    have qjk : (k : Int) < (j : Int) := by omega
                    simp only [Nat.zero_mul, Nat.add_zero] at f0 f1 f2 f3
                    have HPP := Lib.hid (fun wx hb => HP.out 0 k (by omega) (by omega) 4 wx hb)
                    clear hj3
                    obtain ⟨⟨ok, ox, og, on⟩, ho⟩ : ∃ o, arg 0 = o := ⟨_, rfl⟩
                    obtain ⟨⟨uk, ux, ug, un⟩, hu⟩ : ∃ o, arg k = o := ⟨_, rfl⟩
                    obtain ⟨E, hE⟩ : ∃ E, pairA L len t (arg 0) (arg k) 4 = E := ⟨_, rfl⟩
                    rw [hE] at HPP
                    have HE := Lib.hid hE
                    rw [ho] at f0 f1 f2 f3 HPP
                    rw [hu] at g0 g1 g2 g3 HPP
                    simp only at f0 f1 f2 f3 g0 g1 g2 g3 HPP
                    clear ho hu hE
                    have hRE := Lib.hid (show E ≠ 0 → R = E from fun h => by
                      have hg : goE L len t 2 rel arg = E := by
                        show (if pairA L len t (arg 0) (arg 1) 4 ≠ 0 then pairA L len t (arg 0) (arg 1) 4 else pairA L len t (arg 0) (arg 2) 4) = E
                        obtain rfl | rfl : k = 1 ∨ k = 2 := by omega
                        · rw [HE.out, if_pos h]
                        · rw [HM.out rfl 1 (Nat.le_refl _) (by decide), if_neg (fun h => h rfl), HE.out]
                      have := HR2.out
                      rw [hg, if_pos h] at this
                      exact this.symm)
                    have hkw : IntKind.i64.wrap ((k : Int) + 1) = ((k + 1 : Nat) : Int) := by rw [IntWalk.i64_in _ (by omega)]; omega
                    by_cases h0 : E = 0
                    · have h0b : (E != 0) = false := by rw [bne_eq_false_iff_eq]; exact h0
                      have HN := Lib.hid (show (2 : Int) = 2 → ∀ m, 1 ≤ m → m < k + 1 → pairA L len t (arg 0) (arg m) 4 = 0 from fun _ m h1 h2 => by
                        rcases Nat.lt_succ_iff_lt_or_eq.1 h2 with h | h
                        · exact HM.out rfl m h1 h
                        · rw [h, HE.out, h0])
                      clear h0
                      go_upto_region 18 with (fail)
                      go_still_tail 11, (by kernel_rfl)
                      change wpList _ _ _ _ _ wr.drew
                      have HBD := Lib.hid (HB.out.next (Below.refl _ _).drew)
                      generalize wr.drew = wd at *
                      go_wp2_with (go_at_call 45; (with_reducible refine (HPP.out _ (by exact HBD.out.bel)).mono ?_); rintro e w2 ⟨rfl, hb⟩; have HB1 := Lib.hid (HBD.out.next hb); clear hb)
                      go_roundw
                      case rel => exact ⟨k + 1, by omega, by omega, by go_num, HN, HB1⟩
                      case measure => simp [intOf]; omega
                    · have h0b : (E != 0) = true := by rw [bne_iff_ne]; exact h0
                      have hr := Lib.hid (hRE.out h0)
                      clear h0
                      go_upto_region 18 with (fail)
                      go_still_tail 11, (by kernel_rfl)
                      change wpList _ _ _ _ _ wr.drew
                      have HBD := Lib.hid (HB.out.next (Below.refl _ _).drew)
                      generalize wr.drew = wd at *
                      go_wp2_with (go_at_call 45; (with_reducible refine (HPP.out _ (by exact HBD.out.bel)).mono ?_); rintro e w2 ⟨rfl, hb⟩; have HB1 := Lib.hid (HBD.out.next hb); clear hb)
                      go_ret
                      exact ⟨by first | rfl | (rw [hr.out]; rfl), HB1.out.bel⟩
                  · have o2b : (op == 2) = false := by rw [beq_eq_false_iff_ne]; exact o2
                    have HN := Lib.hid (show op = 2 → pairA L len t (arg 0) (arg 1) 4 = 0 ∧ pairA L len t (arg 0) (arg 2) 4 = 0 from fun h => absurd h o2)
                    clear o2
                    go_wp2_with (fail)
                    go_meet
                    exact ⟨HN, HB⟩
                · have q3 : ¬ (k : Int) < 3 := by omega
                  have HN := Lib.hid (show op = 2 → pairA L len t (arg 0) (arg 1) 4 = 0 ∧ pairA L len t (arg 0) (arg 2) 4 = 0 from fun h => ⟨HM.out h 1 (Nat.le_refl _) (by omega), HM.out h 2 (by decide) (by omega)⟩)
                  go_wp2_with (fail)
                  go_meet
                  exact ⟨HN, HB⟩
            case rest => as_aux_lemma =>
              obtain ⟨HP2, HB5⟩ := hcut
              clear HB4 HF2 HP
              go_upto_block 4 with (fail)
              go_cut [] (fun wx => Hid (op = 3 → (whatA L len t (arg 0)).1 = 2 ∧ (whatA L len t (arg 1)).1 = 2) ∧ Hid (BxC w.heap.size op rel aa j ac ka kn kc w wx))
              case first => as_aux_lemma =>
                go_wp2_with (fail)
                go_loopw [15] (fun i wr => ∃ k : Nat, k ≤ 2 ∧ i = .int .i64 k ∧ Hid (op = 3 → ∀ m, m < k → (whatA L len t (arg m)).1 = 2) ∧ Hid (BxC w.heap.size op rel aa j ac ka kn kc w wr)) (fun i _ => 2 - (intOf i).toNat)
                case atStart => exact ⟨0, by decide, rfl, Lib.hid (fun _ m h => by omega), HB5⟩
                case round =>
                  clear HB5
                  obtain ⟨k, hk3, rfl, HM, HB⟩ := hrel
                  obtain ⟨e0, e1, e2, e3⟩ := HB.out.cells
                  by_cases hlt : k < 2
                  · have q3 : (k : Int) < 2 := by omega
                    by_cases o3 : op = 3
                    · subst o3
                      have hj3 := (HF3.out rfl).1
                      obtain ⟨b, off, rfl, f0, f1, f2, f3⟩ := HAC.out k (by omega) wr HB.out.bel
                      have HWj := Lib.hid (HW.out k (by omega) wr HB.out.bel)
                      have hkk : (k : Int) < (j : Int) := by omega
                      clear hj3
                      obtain ⟨⟨ok, ox, og, on⟩, ho⟩ : ∃ o, arg k = o := ⟨_, rfl⟩
                      obtain ⟨X, hX⟩ : ∃ X, (whatA L len t (arg k)).1 = X := ⟨_, rfl⟩
                      have HX := Lib.hid hX
                      rw [hX] at HWj
                      generalize (whatA L len t (arg k)).2 = EE at HWj
                      rw [ho] at f0 f1 f2 f3 HWj
                      simp only at f0 f1 f2 f3 HWj
                      clear ho hX
                      have hkw : IntKind.i64.wrap ((k : Int) + 1) = ((k + 1 : Nat) : Int) := by rw [IntWalk.i64_in _ (by omega)]; omega
                      by_cases h0 : X = 2
                      · have h0b : (X != 2) = false := by rw [bne_eq_false_iff_eq]; exact h0
                        have HN := Lib.hid (show (3 : Int) = 3 → ∀ m, m < k + 1 → (whatA L len t (arg m)).1 = 2 from fun _ m h2 => by
                          rcases Nat.lt_succ_iff_lt_or_eq.1 h2 with h | h
                          · exact HM.out rfl m h
                          · rw [h, HX.out, h0])
                        clear h0
                        go_wp2_with (go_at_call 30; refine HWj.out.mono ?_; rintro e w1 ⟨rfl, hb⟩; have HB1 := Lib.hid (HB.out.next hb); clear hb)
                        go_roundw
                        case rel => exact ⟨k + 1, by omega, by go_num, HN, HB1⟩
                        case measure => simp [intOf]; omega
                      · have h0b : (X != 2) = true := by rw [bne_iff_ne]; exact h0
                        have hr := Lib.hid (show R = 8 by
                          have hg : goE L len t 3 rel arg = 8 := by
                            show (if (whatA L len t (arg 0)).1 ≠ 2 ∨ (whatA L len t (arg 1)).1 ≠ 2 then (8 : Int) else 0) = 8
                            obtain rfl | rfl : k = 0 ∨ k = 1 := by omega
                            · rw [if_pos (.inl (by rw [HX.out]; exact h0))]
                            · rw [if_pos (.inr (by rw [HX.out]; exact h0))]
                          have := HR2.out
                          rw [hg, if_pos (by decide)] at this
                          exact this.symm)
                        clear h0
                        go_wp2_with (go_at_call 30; refine HWj.out.mono ?_; rintro e w1 ⟨rfl, hb⟩; have HB1 := Lib.hid (HB.out.next hb); clear hb)
                        go_ret
                        exact ⟨by first | rfl | (rw [hr.out]; rfl), HB1.out.bel⟩
                    · have o3b : (op == 3) = false := by rw [beq_eq_false_iff_ne]; exact o3
                      have HN := Lib.hid (show op = 3 → (whatA L len t (arg 0)).1 = 2 ∧ (whatA L len t (arg 1)).1 = 2 from fun h => absurd h o3)
                      clear o3
                      go_wp2_with (fail)
                      go_meet
                      exact ⟨HN, HB⟩
                  · have q3 : ¬ (k : Int) < 2 := by omega
                    have HN := Lib.hid (show op = 3 → (whatA L len t (arg 0)).1 = 2 ∧ (whatA L len t (arg 1)).1 = 2 from fun h => ⟨HM.out h 0 (by omega), HM.out h 1 (by omega)⟩)
                    go_wp2_with (fail)
                    go_meet
                    exact ⟨HN, HB⟩
              case rest => as_aux_lemma =>
                obtain ⟨HP3, HB6⟩ := hcut
                have hg0 := goE_zero (L := L) (len := len) (t := t) (rel := rel) (arg := arg) HP1.out HP2.out HP3.out
                have hr := HR2.out
                rw [hg0, if_neg (fun h => h rfl)] at hr
                have HR3 := Lib.hid hr
                clear hr hg0 HP1 HP2 HP3 HR2 HB5 HF3 HW HAC HA2
                go_wp2_with (fail)
                go_loopw [18] (fun i wr => ∃ k : Nat, k ≤ kn ∧ i = .int .i64 k ∧ Hid (∀ m, m < k → kidE m = 0) ∧ Hid (BxC w.heap.size op rel aa j ac ka kn kc w wr)) (fun i _ => kn - (intOf i).toNat)
                case atStart => exact ⟨0, Nat.zero_le _, rfl, Lib.hid (fun m h => by omega), HB6⟩
                case round =>
                  clear HB6
                  obtain ⟨k, hk, rfl, HM, HB⟩ := hrel
                  obtain ⟨e0, e1, e2, e3⟩ := HB.out.cells
                  by_cases hlt : k < kn
                  · have q3 : (k : Int) < (kn : Int) := by omega
                    obtain ⟨b, off, rfl, -, -, hl⟩ := HKC.out k hlt wr HB.out.bel
                    have f0 : wr.cell? ⟨b, off + k * 4, none⟩ = some (.int .i64 (kid k).op) := hl 0 _ rfl
                    have f1 : wr.cell? ⟨b, off + k * 4 + 1, none⟩ = some (.int .i64 (kid k).rel) := hl 1 _ rfl
                    have f2 : wr.cell? ⟨b, off + k * 4 + 2, none⟩ = some (.slice (kid k).aa (kid k).an (kid k).ac) := hl 2 _ rfl
                    have f3 : wr.cell? ⟨b, off + k * 4 + 3, none⟩ = some (.slice (kid k).ka (kid k).kn (kid k).kc) := hl 3 _ rfl
                    have HIk := Lib.hid (HI.out k hlt)
                    unfold TreeTo at HIk
                    obtain ⟨E, hE⟩ : ∃ E, kidE k = E := ⟨_, rfl⟩
                    rw [hE] at HIk
                    have HE := Lib.hid hE
                    clear hE hl
                    by_cases h0 : E = 0
                    · have h0b : (E != 0) = false := by rw [bne_eq_false_iff_eq]; exact h0
                      have HN := Lib.hid (show ∀ m, m < k + 1 → kidE m = 0 from fun m h2 => by
                        rcases Nat.lt_succ_iff_lt_or_eq.1 h2 with h | h
                        · exact HM.out m h
                        · rw [h, HE.out, h0])
                      clear h0
                      go_wp2_with (go_at_call 24; refine (HIk.out _ (by exact HB.out.bel)).mono ?_; rintro e w1 ⟨rfl, hb⟩; have HB1 := Lib.hid (HB.out.next hb); clear hb)
                      go_roundw
                      case rel => exact ⟨k + 1, by omega, by go_num, HN, HB1⟩
                      case measure => simp [intOf]; omega
                    · have h0b : (E != 0) = true := by rw [bne_iff_ne]; exact h0
                      have hr := Lib.hid (show R = E by
                        rw [← HR3.out, Pa.firstE_at (e := kidE) (fun i hi => by rw [bne_eq_false_iff_eq]; exact HM.out i hi) hlt (by rw [HE.out]; exact h0b), HE.out])
                      clear h0
                      go_wp2_with (go_at_call 24; refine (HIk.out _ (by exact HB.out.bel)).mono ?_; rintro e w1 ⟨rfl, hb⟩; have HB1 := Lib.hid (HB.out.next hb); clear hb)
                      go_ret
                      exact ⟨by first | rfl | (rw [hr.out]; rfl), HB1.out.bel⟩
                  · have q3 : ¬ (k : Int) < (kn : Int) := by omega
                    have hr := Lib.hid (show R = 0 by
                      rw [← HR3.out, Pa.firstE_none (fun i hi => by rw [bne_eq_false_iff_eq]; exact HM.out i (by omega))])
                    go_wp2_with (fail)
                    go_ret
                    exact ⟨by first | rfl | (rw [hr.out]; rfl), HB.out.bel⟩
end Go.Proofs.YtcojomkpogikiaaGreatDoor
/- The reference of chapter 18: tree, Check, Datum. -/
namespace Go.Proofs.YtcojomkpogikiaaGreatDoor
open Go.RowKit
set_option linter.unusedVariables false
set_option linter.unusedSimpArgs false
theorem ownE_eq (L : Nat → Pa.TypeV) (len : Nat) (t : Int) (T : XT) : ownE L len t T = ownN L len t T.op T.rel T.an T.arg T.kn := rfl
theorem tree_any (S : Nat → Prop) (L : Nat → Pa.TypeV) (ao : Option Addr) (len cap : Nat) (hlen : len ≤ 1000000) (t : Int) : ∀ (T : XT) (w : World), (∀ i, i < len → Pa.TypeAt w ao i (L i)) → XAt w S T → XSm T → TreeTo (treeE L len t T) ao len cap t T.op T.rel T.aa T.an T.ac T.ka T.kn T.kc w := by
  refine XT.ind fun T ih w H HX HS => ?_
  have h1 := (xat_iff T).1 HX
  have h2 := (xsm_iff T).1 HS
  have h := tree_node S L ao len cap hlen t T.op T.rel T.aa T.an T.ac T.arg T.ka T.kn T.kc T.kid (fun i => treeE L len t (T.kid i)) w H h1.1.1 h1.1.2 h1.2.1 (fun i hi => (h1.2.2 i hi).1) h2.1
    (Lib.hid (fun i hi wx hb => ih i hi wx (hold18 H hb) ((h1.2.2 i hi).2.next hb) (h2.2 i hi)))
  rw [treeE_eq, ownE_eq]
  exact h
def RCheckTo (L : Nat → Pa.TypeV) (ao : Option Addr) (len cap : Nat) (t : Int) (T : XT) (w : World) : Prop :=
  Calls Tryz.prog 11 #[.slice ao len cap, .int .i64 t, .agg #[.int .i64 T.op, .int .i64 T.rel, .slice T.aa T.an T.ac, .slice T.ka T.kn T.kc]] w fun e w' => e = .returned (.int .i64 (checkE L len t T)) ∧ Below w.heap.size w w'
set_option maxRecDepth 100000 in
set_option maxHeartbeats 4000000 in
theorem rcheck_any (S : Nat → Prop) (L : Nat → Pa.TypeV) (ao : Option Addr) (len cap : Nat) (hlen : len ≤ 1000000) (t : Int) (T : XT) (w : World) (H : ∀ i, i < len → Pa.TypeAt w ao i (L i)) (HX : XAt w S T) (HS : XSm T) : RCheckTo L ao len cap t T w := by
  unfold RCheckTo
  have HC := Lib.hid (fun wx (hb : Below w.heap.size w wx) => Pa.refCheck_any ao len cap L hlen wx (hold18 H hb))
  have HT := Lib.hid (fun wx (hb : Below w.heap.size w wx) => tree_any S L ao len cap hlen t T wx (hold18 H hb) (HX.next hb) HS)
  unfold TreeTo at HT
  have HB0 := Lib.hid (BxC.start T.op T.rel T.aa T.an T.ac T.ka T.kn T.kc w)
  obtain ⟨R, hR⟩ : ∃ R, checkE L len t T = R := ⟨_, rfl⟩
  have hr : (if Pa.fErr (Pa.oneR L len) len ≠ 0 ∨ t < 0 ∨ (len : Int) ≤ t then 8 else treeE L len t T) = R := hR
  rw [hR]
  unfold Pa.faultV at HC
  obtain ⟨F, hF⟩ : ∃ F, Pa.fErr (Pa.oneR L len) len = F := ⟨_, rfl⟩
  rw [hF] at hr HC
  obtain ⟨A, hA⟩ : ∃ A, Pa.fAt (Pa.oneR L len) len = A := ⟨_, rfl⟩
  rw [hA] at HC
  generalize treeE L len t T = E at hr HT
  have hfe := fun wx => Pa.fault_err F A wx
  clear H HX HS hR hF
  by_cases hf : F = 0
  · subst hf
    by_cases h1 : t < 0
    · have hr2 : R = 8 := by rw [← hr, if_pos (.inr (.inl h1))]
      rw [hr2]
      clear hr hr2
      go_enter Tryz.func11, Tryz.ntmps11
      go_wp2_with (go_at_call 23; refine (HC.out _ (by exact HB0.out.bel)).mono ?_; rintro e w1 ⟨rfl, hb⟩; have HB1 := Lib.hid (HB0.out.next hb); clear hb)
      go_ret
      exact ⟨rfl, HB1.out.bel⟩
    · by_cases h2 : (len : Int) ≤ t
      · have hr2 : R = 8 := by rw [← hr, if_pos (.inr (.inr h2))]
        rw [hr2]
        clear hr hr2
        go_enter Tryz.func11, Tryz.ntmps11
        go_wp2_with (go_at_call 23; refine (HC.out _ (by exact HB0.out.bel)).mono ?_; rintro e w1 ⟨rfl, hb⟩; have HB1 := Lib.hid (HB0.out.next hb); clear hb)
        go_ret
        exact ⟨rfl, HB1.out.bel⟩
      · have hr2 : R = E := by rw [← hr, if_neg (by omega)]
        rw [hr2]
        clear hr hr2
        go_enter Tryz.func11, Tryz.ntmps11
        go_wp2_with (first
          | (go_at_call 24; refine (HT.out _ (by exact HB1.out.bel)).mono ?_; rintro e w2 ⟨rfl, hb⟩; have HB2 := Lib.hid (HB1.out.next hb); clear hb)
          | (go_at_call 23; refine (HC.out _ (by exact HB0.out.bel)).mono ?_; rintro e w1 ⟨rfl, hb⟩; have HB1 := Lib.hid (HB0.out.next hb); obtain ⟨c0, c1, c2, c3⟩ := HB1.out.cells; clear hb))
        go_ret
        exact ⟨rfl, HB2.out.bel⟩
  · have hr2 : R = 8 := by rw [← hr, if_pos (.inl hf)]
    have hfb : (F != 0) = true := by rw [bne_iff_ne]; exact hf
    rw [hr2]
    clear hr hr2 hf
    go_enter Tryz.func11, Tryz.ntmps11
    go_wp2_with (go_at_call 23; refine (HC.out _ (by exact HB0.out.bel)).mono ?_; rintro e w1 ⟨rfl, hb⟩; have HB1 := Lib.hid (HB0.out.next hb); clear hb)
    go_ret
    exact ⟨rfl, HB1.out.bel⟩
end Go.Proofs.YtcojomkpogikiaaGreatDoor
