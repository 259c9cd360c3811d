/- The code of chapter 18: whether two operands go together. -/
import Derived.Test.YtcojomkpogikiaaGreatDoorA28
namespace Go.Proofs.YtcojomkpogikiaaGreatDoor
open Go.RowKit
set_option linter.unusedVariables false
set_option linter.unusedSimpArgs false
structure NmSt (w : World) (ao : Option Addr) (len cap : Nat) (t : Int) (a : Opd) (A B : Int) (b : Opd) (A2 B2 : Int) (wx : World) : Prop where
  sc : wx.heap[w.heap.size]? = some (.cells #[.slice ao len cap, .int .i64 t] 62)
  sa : wx.heap[w.heap.size + 1]? = some (.cells #[.int .i64 a.kind, .string a.text, .bool a.neg, .int .u64 a.num, .int .i64 A, .int .i64 B] 107)
  sb : wx.heap[w.heap.size + 1 + 1]? = some (.cells #[.int .i64 b.kind, .string b.text, .bool b.neg, .int .u64 b.num, .int .i64 A2, .int .i64 B2] 107)
  bel : Below w.heap.size w wx
theorem NmSt.start (w : World) (ao : Option Addr) (len cap : Nat) (t : Int) (a : Opd) (A B : Int) (b : Opd) (A2 B2 : Int) : NmSt w ao len cap t a A B b A2 B2 (((w.alloc (.cells #[.slice ao len cap, .int .i64 t] 62)).alloc (.cells #[.int .i64 a.kind, .string a.text, .bool a.neg, .int .u64 a.num, .int .i64 A, .int .i64 B] 107)).alloc (.cells #[.int .i64 b.kind, .string b.text, .bool b.neg, .int .u64 b.num, .int .i64 A2, .int .i64 B2] 107)) := by
  have h1 := alloc_at w (.cells #[.slice ao len cap, .int .i64 t] 62)
  have h2 := alloc_at (w.alloc (.cells #[.slice ao len cap, .int .i64 t] 62)) (.cells #[.int .i64 a.kind, .string a.text, .bool a.neg, .int .u64 a.num, .int .i64 A, .int .i64 B] 107)
  have h3 := alloc_at ((w.alloc (.cells #[.slice ao len cap, .int .i64 t] 62)).alloc (.cells #[.int .i64 a.kind, .string a.text, .bool a.neg, .int .u64 a.num, .int .i64 A, .int .i64 B] 107)) (.cells #[.int .i64 b.kind, .string b.text, .bool b.neg, .int .u64 b.num, .int .i64 A2, .int .i64 B2] 107)
  rw [World.size_alloc] at h2
  rw [World.size_alloc, World.size_alloc] at h3
  exact ⟨alloc_old (alloc_old h1), alloc_old h2, h3, (((Below.refl _ _).alloc (Nat.le_refl _) _).alloc (by simp) _).alloc (by simp; omega) _⟩
theorem side_box {w : World} {g : Nat} {k n A B : Int} {x : ByteArray} {b : Bool} (h : w.heap[g]? = some (.cells #[.int .i64 k, .string x, .bool b, .int .u64 n, .int .i64 A, .int .i64 B] 107)) : w.cell? ⟨g, 0, none⟩ = some (.int .i64 k) ∧ w.cell? ⟨g, 1, none⟩ = some (.string x) ∧ w.cell? ⟨g, 2, none⟩ = some (.bool b) ∧ w.cell? ⟨g, 3, none⟩ = some (.int .u64 n) ∧ w.cell? ⟨g, 4, none⟩ = some (.int .i64 A) ∧ w.cell? ⟨g, 5, none⟩ = some (.int .i64 B) := ⟨cell_at h rfl, cell_at h rfl, cell_at h rfl, cell_at h rfl, cell_at h rfl, cell_at h rfl⟩
def NamTo (L : Nat → Pa.TypeV) (ao : Option Addr) (len cap : Nat) (t : Int) (a : Opd) (X : Int) (b : Opd) (Y : Int) (w : World) : Prop :=
  Calls Tryz.prog 81 #[.agg #[.slice ao len cap, .int .i64 t], .agg #[.int .i64 a.kind, .string a.text, .bool a.neg, .int .u64 a.num, .int .i64 (sW X), .int .i64 (sO X)], .agg #[.int .i64 b.kind, .string b.text, .bool b.neg, .int .u64 b.num, .int .i64 (sW Y), .int .i64 (sO Y)]] w fun e w' => e = .returned (.int .i64 (if (itmC L len Y a.text).2 then 0 else 5)) ∧ Below w.heap.size w w'
set_option maxRecDepth 100000 in
set_option maxHeartbeats 4000000 in
theorem names_any (L : Nat → Pa.TypeV) (ao : Option Addr) (len cap : Nat) (hlen : len ≤ 1000000) (t : Int) (a : Opd) (X : Int) (b : Opd) (Y : Int) (hY : 0 ≤ Y ∧ (4 ≤ Y → Y - 4 < (len : Int))) (w : World) (H : ∀ i, i < len → Pa.TypeAt w ao i (L i)) : NamTo L ao len cap t a X b Y w := by
  unfold NamTo
  have HS0 := Lib.hid (NmSt.start w ao len cap t a (sW X) (sO X) b (sW Y) (sO Y))
  have HI := Lib.hid (fun wx (hx : Below w.heap.size w wx) => itm_any L ao len cap hlen t Y hY a.text wx (hold18 H hx))
  unfold ItmTo at HI
  obtain ⟨N, hN⟩ : ∃ N, (itmC L len Y a.text).1 = N := ⟨_, rfl⟩
  obtain ⟨q, hq⟩ : ∃ q, (itmC L len Y a.text).2 = q := ⟨_, rfl⟩
  rw [hN, hq] at HI
  rw [hq]
  clear hN hq hY H
  obtain ⟨ka, xa, ga, na⟩ := a
  obtain ⟨kb, xb, gb, nb⟩ := b
  simp only at HS0 HI ⊢
  generalize sW X = A at *
  generalize sO X = B at *
  generalize sW Y = A' at *
  generalize sO Y = B' at *
  cases q
  all_goals
    go_enter Tryz.func81, Tryz.ntmps81
    go_upto_region 1 with (fail)
    generalize ((w.alloc (.cells #[.slice ao len cap, .int .i64 t] 62)).alloc (.cells #[.int .i64 ka, .string xa, .bool ga, .int .u64 na, .int .i64 A, .int .i64 B] 107)).alloc (.cells #[.int .i64 kb, .string xb, .bool gb, .int .u64 nb, .int .i64 A', .int .i64 B'] 107) = W0 at *
    have s0 := cell_at (j := 0) HS0.out.sc rfl
    have s1 := cell_at (j := 1) HS0.out.sc rfl
    obtain ⟨p0, p1, p2, p3, p4, p5⟩ := side_box HS0.out.sa
    obtain ⟨r0, r1, r2, r3, r4, r5⟩ := side_box HS0.out.sb
    go_wp2_with (first
      | (go_at_call 56; refine (HI.out _ (by exact HS0.out.bel)).mono ?_; rintro e w1 ⟨rfl, hb⟩; have HB1 := Lib.hid (HS0.out.bel.trans (hb.mono HS0.out.bel.size)); clear hb))
    go_ret
    exact ⟨rfl, HB1.out⟩
theorem sort_eql (a b c d : Int) (w : World) : (binOp .eql 103 (.agg #[.int .i64 a, .int .i64 b]) (.agg #[.int .i64 c, .int .i64 d])).run Tryz.prog w = .ok (.bool ((a == c) && (b == d))) w := by
  have hu := Tryz.underlying103
  have hi := Tryz.underlying3
  have p0 := fun a c w => run_equalIn_int (P := Tryz.prog) w 9998 3 .i64 .i64 a c hi
  rw [run_eql_struct, run_equalIn_agg _ 9999 _ _ _ (by kernel_rfl) (by kernel_rfl)]
  simp only [Program.fieldsOf, hu]
  simp [Op.eqFields, go_sem, p0]
  (repeat' split) <;> simp_all
/-- why two operands, of which it is known what they are, do not go together -/
def CmpTo (L : Nat → Pa.TypeV) (ao : Option Addr) (len cap : Nat) (t rel : Int) (a : Opd) (X : Int) (b : Opd) (Y : Int) (w : World) : Prop :=
  Calls Tryz.prog 43 #[.agg #[.slice ao len cap, .int .i64 t], .int .i64 rel, .agg #[.int .i64 a.kind, .string a.text, .bool a.neg, .int .u64 a.num, .int .i64 (sW X), .int .i64 (sO X)], .agg #[.int .i64 b.kind, .string b.text, .bool b.neg, .int .u64 b.num, .int .i64 (sW Y), .int .i64 (sO Y)]] w fun e w' => e = .returned (.int .i64 (pairW L len X Y a b rel)) ∧ Below w.heap.size w w'
def OkS (len : Nat) (o : Opd) (X : Int) : Prop := 0 ≤ X ∧ (4 ≤ X → X - 4 < (len : Int)) ∧ (4 ≤ X → o.kind = 1)
theorem itm_enum {L : Nat → Pa.TypeV} {len : Nat} {Y : Int} {a : Opd} (h4 : 4 ≤ Y) (hk : a.kind = 3) : (if (itmC L len Y a.text).2 then (0 : Int) else 5) = enumA L len (Y - 4) a := by
  unfold itmC enumA
  rw [if_neg (show ¬ a.kind ≠ 3 from fun h => h hk)]
  by_cases hn : Pa.itemL L len (Y - 4) a.text < 0
  · rw [if_neg (show ¬ (4 ≤ Y ∧ 0 ≤ Pa.itemL L len (Y - 4) a.text) from fun h => by omega), if_pos hn]; rfl
  · rw [if_pos (show 4 ≤ Y ∧ 0 ≤ Pa.itemL L len (Y - 4) a.text from ⟨h4, by omega⟩), if_neg hn]; rfl
set_option maxRecDepth 100000 in
set_option maxHeartbeats 8000000 in
theorem compare_any (L : Nat → Pa.TypeV) (ao : Option Addr) (len cap : Nat) (hlen : len ≤ 1000000) (t rel : Int) (hr1 : 1 ≤ rel) (a : Opd) (X : Int) (hX : OkS len a X) (b : Opd) (Y : Int) (hY : OkS len b Y) (w : World) (H : ∀ i, i < len → Pa.TypeAt w ao i (L i)) : CmpTo L ao len cap t rel a X b Y w := by
  unfold CmpTo
  have HS0 := Lib.hid (NmSt.start w ao len cap t a (sW X) (sO X) b (sW Y) (sO Y))
  have HNA := Lib.hid (fun wx (hx : Below w.heap.size w wx) => names_any L ao len cap hlen t a X b Y ⟨hY.1, hY.2.1⟩ wx (hold18 H hx))
  have HNB := Lib.hid (fun wx (hx : Below w.heap.size w wx) => names_any L ao len cap hlen t b Y a X ⟨hX.1, hX.2.1⟩ wx (hold18 H hx))
  unfold NamTo at HNA HNB
  clear H
  obtain ⟨R, hR⟩ : ∃ R, pairW L len X Y a b rel = R := ⟨_, rfl⟩
  have hr : R = if X < 4 ∧ 4 ≤ Y then enumA L len (Y - 4) a else if 4 ≤ X ∧ Y < 4 then enumA L len (X - 4) b else if X ≠ Y then 8 else if X = 3 ∧ 2 < rel then 4 else 0 := hR.symm
  rw [hR]
  clear hR
  by_cases hxy : X = Y
  · subst hxy
    rw [if_neg (by omega), if_neg (by omega), if_neg (fun h => h rfl)] at hr
    have hq := fun wx => sort_eql (sW X) (sO X) (sW X) (sO X) wx
    simp only [beq_self_eq_true, Bool.and_true] at hq
    clear HNA HNB
    obtain ⟨ka, xa, ga, na⟩ := a
    obtain ⟨kb, xb, gb, nb⟩ := b
    simp only at HS0 ⊢
    by_cases h3 : X = 3
    · subst h3
      simp only [show sW 3 = 2 from rfl, show sO 3 = 0 from rfl] at HS0 hq ⊢
      have h12 : rel = 1 ∨ rel = 2 ∨ 2 < rel := by omega
      rcases h12 with rfl | rfl | h12
      · rw [if_neg (fun h => absurd h.2 (by decide))] at hr
        subst hr
        go_enter Tryz.func43, Tryz.ntmps43
        go_upto_region 1 with (fail)
        generalize ((w.alloc (.cells #[.slice ao len cap, .int .i64 t] 62)).alloc (.cells #[.int .i64 ka, .string xa, .bool ga, .int .u64 na, .int .i64 2, .int .i64 0] 107)).alloc (.cells #[.int .i64 kb, .string xb, .bool gb, .int .u64 nb, .int .i64 2, .int .i64 0] 107) = W0 at *
        have s0 := cell_at (j := 0) HS0.out.sc rfl
        have s1 := cell_at (j := 1) HS0.out.sc rfl
        obtain ⟨p0, p1, p2, p3, p4, p5⟩ := side_box HS0.out.sa
        obtain ⟨y0, y1, y2, y3, y4, y5⟩ := side_box HS0.out.sb
        go_wp2_with (fail)
        go_ret
        exact ⟨rfl, HS0.out.bel⟩
      · rw [if_neg (fun h => absurd h.2 (by decide))] at hr
        subst hr
        go_enter Tryz.func43, Tryz.ntmps43
        go_upto_region 1 with (fail)
        generalize ((w.alloc (.cells #[.slice ao len cap, .int .i64 t] 62)).alloc (.cells #[.int .i64 ka, .string xa, .bool ga, .int .u64 na, .int .i64 2, .int .i64 0] 107)).alloc (.cells #[.int .i64 kb, .string xb, .bool gb, .int .u64 nb, .int .i64 2, .int .i64 0] 107) = W0 at *
        have s0 := cell_at (j := 0) HS0.out.sc rfl
        have s1 := cell_at (j := 1) HS0.out.sc rfl
        obtain ⟨p0, p1, p2, p3, p4, p5⟩ := side_box HS0.out.sa
        obtain ⟨y0, y1, y2, y3, y4, y5⟩ := side_box HS0.out.sb
        go_wp2_with (fail)
        go_ret
        exact ⟨rfl, HS0.out.bel⟩
      · rw [if_pos ⟨rfl, h12⟩] at hr
        subst hr
        have r1 : (rel != 1) = true := by rw [bne_iff_ne]; omega
        have r2 : (rel != 2) = true := by rw [bne_iff_ne]; omega
        clear h12 hr1
        go_enter Tryz.func43, Tryz.ntmps43
        go_upto_region 1 with (fail)
        generalize ((w.alloc (.cells #[.slice ao len cap, .int .i64 t] 62)).alloc (.cells #[.int .i64 ka, .string xa, .bool ga, .int .u64 na, .int .i64 2, .int .i64 0] 107)).alloc (.cells #[.int .i64 kb, .string xb, .bool gb, .int .u64 nb, .int .i64 2, .int .i64 0] 107) = W0 at *
        have s0 := cell_at (j := 0) HS0.out.sc rfl
        have s1 := cell_at (j := 1) HS0.out.sc rfl
        obtain ⟨p0, p1, p2, p3, p4, p5⟩ := side_box HS0.out.sa
        obtain ⟨y0, y1, y2, y3, y4, y5⟩ := side_box HS0.out.sb
        go_wp2_with (fail)
        go_ret
        exact ⟨rfl, HS0.out.bel⟩
    · rw [if_neg (fun h => h3 h.1)] at hr
      subst hr
      have hs2 : (sW X == 2) = false := by
        rw [beq_eq_false_iff_ne]
        intro e
        unfold sW at e
        (repeat' split at e) <;> omega
      generalize sW X = A at *
      generalize sO X = B at *
      go_enter Tryz.func43, Tryz.ntmps43
      go_upto_region 1 with (fail)
      generalize ((w.alloc (.cells #[.slice ao len cap, .int .i64 t] 62)).alloc (.cells #[.int .i64 ka, .string xa, .bool ga, .int .u64 na, .int .i64 A, .int .i64 B] 107)).alloc (.cells #[.int .i64 kb, .string xb, .bool gb, .int .u64 nb, .int .i64 A, .int .i64 B] 107) = W0 at *
      have s0 := cell_at (j := 0) HS0.out.sc rfl
      have s1 := cell_at (j := 1) HS0.out.sc rfl
      obtain ⟨p0, p1, p2, p3, p4, p5⟩ := side_box HS0.out.sa
      obtain ⟨y0, y1, y2, y3, y4, y5⟩ := side_box HS0.out.sb
      go_wp2_with (fail)
      go_ret
      exact ⟨rfl, HS0.out.bel⟩
  · have hq : ∀ wx, _ = _ := fun wx => sort_eql (sW X) (sO X) (sW Y) (sO Y) wx
    have hf : ((sW X == sW Y) && (sO X == sO Y)) = false := by
      rw [Bool.and_eq_false_iff]
      by_cases h1 : sW X = sW Y
      · right
        rw [beq_eq_false_iff_ne]
        exact fun h2 => hxy (s_inj hX.1 hY.1 h1 h2)
      · left
        rw [beq_eq_false_iff_ne]; exact h1
    rw [hf] at hq
    have hxy2 : X ≠ Y := hxy
    by_cases hA : a.kind = 3 ∧ 4 ≤ Y
    · obtain ⟨ha3, hY4⟩ := hA
      have hx4 : X < 4 := by
        refine Classical.byContradiction fun h => ?_
        have := hX.2.2 (by omega); omega
      rw [if_pos ⟨hx4, hY4⟩, ← itm_enum hY4 ha3] at hr
      rw [← hr] at HNA
      have hsy : (sW Y == 4) = true := by rw [(sW_four hY4).1]; rfl
      clear hr hf hX hY HNB hxy hx4 hY4 hxy2
      obtain ⟨ka, xa, ga, na⟩ := a
      obtain ⟨kb, xb, gb, nb⟩ := b
      simp only at HS0 HNA ha3 ⊢
      subst ha3
      generalize sW X = A at *
      generalize sO X = B at *
      generalize sW Y = A' at *
      generalize sO Y = B' at *
      go_enter Tryz.func43, Tryz.ntmps43
      go_upto_region 1 with (fail)
      generalize ((w.alloc (.cells #[.slice ao len cap, .int .i64 t] 62)).alloc (.cells #[.int .i64 3, .string xa, .bool ga, .int .u64 na, .int .i64 A, .int .i64 B] 107)).alloc (.cells #[.int .i64 kb, .string xb, .bool gb, .int .u64 nb, .int .i64 A', .int .i64 B'] 107) = W0 at *
      have s0 := cell_at (j := 0) HS0.out.sc rfl
      have s1 := cell_at (j := 1) HS0.out.sc rfl
      obtain ⟨p0, p1, p2, p3, p4, p5⟩ := side_box HS0.out.sa
      obtain ⟨y0, y1, y2, y3, y4, y5⟩ := side_box HS0.out.sb
      go_wp2_with (first | (go_at_call 81; refine (HNA.out _ (by exact HS0.out.bel)).mono ?_; rintro e w1 ⟨rfl, hb⟩; have HB1 := Lib.hid (HS0.out.bel.trans (hb.mono HS0.out.bel.size)); clear hb))
      go_ret
      exact ⟨rfl, HB1.out⟩
    · by_cases hB : b.kind = 3 ∧ 4 ≤ X
      · obtain ⟨hb3, hX4⟩ := hB
        have hy4 : Y < 4 := by
          refine Classical.byContradiction fun h => ?_
          have := hY.2.2 (by omega); omega
        rw [if_neg (by omega), if_pos ⟨hX4, hy4⟩, ← itm_enum hX4 hb3] at hr
        rw [← hr] at HNB
        have hsx : (sW X == 4) = true := by rw [(sW_four hX4).1]; rfl
        have hka : (a.kind == 3) = false := by rw [hX.2.2 hX4]; rfl
        clear hr hf hX hY HNA hxy hX4 hy4 hA hxy2
        obtain ⟨ka, xa, ga, na⟩ := a
        obtain ⟨kb, xb, gb, nb⟩ := b
        simp only at HS0 HNB hb3 hka ⊢
        subst hb3
        generalize sW X = A at *
        generalize sO X = B at *
        generalize sW Y = A' at *
        generalize sO Y = B' at *
        go_enter Tryz.func43, Tryz.ntmps43
        go_upto_region 1 with (fail)
        generalize ((w.alloc (.cells #[.slice ao len cap, .int .i64 t] 62)).alloc (.cells #[.int .i64 ka, .string xa, .bool ga, .int .u64 na, .int .i64 A, .int .i64 B] 107)).alloc (.cells #[.int .i64 3, .string xb, .bool gb, .int .u64 nb, .int .i64 A', .int .i64 B'] 107) = W0 at *
        have s0 := cell_at (j := 0) HS0.out.sc rfl
        have s1 := cell_at (j := 1) HS0.out.sc rfl
        obtain ⟨p0, p1, p2, p3, p4, p5⟩ := side_box HS0.out.sa
        obtain ⟨y0, y1, y2, y3, y4, y5⟩ := side_box HS0.out.sb
        go_wp2_with (first | (go_at_call 81; refine (HNB.out _ (by exact HS0.out.bel)).mono ?_; rintro e w1 ⟨rfl, hb⟩; have HB1 := Lib.hid (HS0.out.bel.trans (hb.mono HS0.out.bel.size)); clear hb))
        go_ret
        exact ⟨rfl, HB1.out⟩
      · have hr8 : R = 8 := by
          rw [hr]
          by_cases c1 : X < 4 ∧ 4 ≤ Y
          · rw [if_pos c1]; unfold enumA; rw [if_pos (fun h => hA ⟨h, c1.2⟩)]
          · rw [if_neg c1]
            by_cases c2 : 4 ≤ X ∧ Y < 4
            · rw [if_pos c2]; unfold enumA; rw [if_pos (fun h => hB ⟨h, c2.1⟩)]
            · rw [if_neg c2, if_pos hxy2]
        subst hr8
        have hTA : (a.kind == 3) = false ∨ ((a.kind == 3) = true ∧ (sW Y == 4) = false) := by
          by_cases h3 : a.kind = 3
          · exact .inr ⟨by rw [h3]; rfl, sW_ne hY.1 (by omega)⟩
          · exact .inl (by rw [beq_eq_false_iff_ne]; exact h3)
        have hTB : (b.kind == 3) = false ∨ ((b.kind == 3) = true ∧ (sW X == 4) = false) := by
          by_cases h3 : b.kind = 3
          · exact .inr ⟨by rw [h3]; rfl, sW_ne hX.1 (by omega)⟩
          · exact .inl (by rw [beq_eq_false_iff_ne]; exact h3)
        clear hr hf hX hY HNA HNB hA hB hxy hxy2
        obtain ⟨ka, xa, ga, na⟩ := a
        obtain ⟨kb, xb, gb, nb⟩ := b
        simp only at HS0 hTA hTB ⊢
        generalize sW X = A at *
        generalize sO X = B at *
        generalize sW Y = A' at *
        generalize sO Y = B' at *
        rcases hTA with ta | ⟨ta, ta2⟩ <;> rcases hTB with tb | ⟨tb, tb2⟩
        all_goals
          go_enter Tryz.func43, Tryz.ntmps43
          go_upto_region 1 with (fail)
          generalize ((w.alloc (.cells #[.slice ao len cap, .int .i64 t] 62)).alloc (.cells #[.int .i64 ka, .string xa, .bool ga, .int .u64 na, .int .i64 A, .int .i64 B] 107)).alloc (.cells #[.int .i64 kb, .string xb, .bool gb, .int .u64 nb, .int .i64 A', .int .i64 B'] 107) = W0 at *
          have s0 := cell_at (j := 0) HS0.out.sc rfl
          have s1 := cell_at (j := 1) HS0.out.sc rfl
          obtain ⟨p0, p1, p2, p3, p4, p5⟩ := side_box HS0.out.sa
          obtain ⟨y0, y1, y2, y3, y4, y5⟩ := side_box HS0.out.sb
          go_wp2_with (fail)
          go_ret
          exact ⟨rfl, HS0.out.bel⟩
end Go.Proofs.YtcojomkpogikiaaGreatDoor
/- The code of chapter 18: whether a node has its form. -/
namespace Go.Proofs.YtcojomkpogikiaaGreatDoor
open Go.RowKit
set_option linter.unusedVariables false
set_option linter.unusedSimpArgs false
theorem drewN_b18 {B : Nat} {w w1 : World} (h : Below B w w1) : ∀ m, Below B w (w1.drewN m)
  | 0 => h
  | m + 1 => (drewN_b18 h m).drew
def FormTo (T : XT) (b off : Nat) (w : World) : Prop :=
  Calls Tryz.prog 42 #[.pointer (some ⟨b, off, none⟩)] w fun e w' => e = .returned (.bool (!badF T.op T.rel T.an T.kn)) ∧ Below w.heap.size w w'
theorem lies_node {w : World} {b off : Nat} {T : XT} (h : LiesAt w b off (xtC T)) : w.cell? ⟨b, off, none⟩ = some (.int .i64 T.op) ∧ w.cell? ⟨b, off + 1, none⟩ = some (.int .i64 T.rel) ∧ w.cell? ⟨b, off + 2, none⟩ = some (.slice T.aa T.an T.ac) ∧ w.cell? ⟨b, off + 3, none⟩ = some (.slice T.ka T.kn T.kc) := ⟨h 0 _ rfl, h 1 _ rfl, h 2 _ rfl, h 3 _ rfl⟩
set_option maxRecDepth 100000 in
set_option maxHeartbeats 8000000 in
theorem hasForm_any (T : XT) (b off : Nat) (w : World) (h : LiesAt w b off (xtC T)) : FormTo T b off w := by
  unfold FormTo
  obtain ⟨c0, c1, c2, c3⟩ := lies_node h
  obtain ⟨R, hR⟩ : ∃ R, badF T.op T.rel T.an T.kn = R := ⟨_, rfl⟩
  rw [hR]
  generalize T.op = op at *
  generalize T.rel = rel at *
  generalize T.an = an at *
  generalize T.kn = kn at *
  generalize T.aa = aa at *
  generalize T.ac = ac at *
  generalize T.ka = ka at *
  generalize T.kc = kc at *
  clear h
  by_cases h1 : op = 1
  · subst h1
    by_cases g0 : an = 2
    · have f0 : ((an : Int) == 2) = true := by rw [beq_iff_eq]; omega
      by_cases g1 : kn = 0
      · have f1 : ((kn : Int) == 0) = true := by rw [beq_iff_eq]; omega
        by_cases g2 : 1 ≤ rel
        · have f2 : decide ((1 : Int) ≤ rel) = true := by rw [decide_eq_true_iff]; omega
          by_cases g3 : rel ≤ 6
          · have f3 : decide (rel ≤ (6 : Int)) = true := by rw [decide_eq_true_iff]; omega
            have hv : R = false := by rw [← hR]; unfold badF; simp [g0, g1, g2, g3]
            subst hv
            go_enter Tryz.func42, Tryz.ntmps42
            go_wp2_with (fail)
            go_quiet (fail)
            go_wp2_with (fail)
            go_ret
            exact ⟨rfl, drewN_b18 (Below.refl _ _) _⟩
          · have f3 : decide (rel ≤ (6 : Int)) = false := by rw [decide_eq_false_iff_not]; omega
            have hv : R = true := by rw [← hR]; unfold badF; simp [g0, g1, g2, g3]
            subst hv
            go_enter Tryz.func42, Tryz.ntmps42
            go_wp2_with (fail)
            go_quiet (fail)
            go_wp2_with (fail)
            go_ret
            exact ⟨rfl, drewN_b18 (Below.refl _ _) _⟩
        · have f2 : decide ((1 : Int) ≤ rel) = false := by rw [decide_eq_false_iff_not]; omega
          have hv : R = true := by rw [← hR]; unfold badF; simp [g0, g1, g2]
          subst hv
          go_enter Tryz.func42, Tryz.ntmps42
          go_wp2_with (fail)
          go_quiet (fail)
          go_wp2_with (fail)
          go_ret
          exact ⟨rfl, drewN_b18 (Below.refl _ _) _⟩
      · have f1 : ((kn : Int) == 0) = false := by rw [beq_eq_false_iff_ne]; omega
        have hv : R = true := by rw [← hR]; unfold badF; simp [g0, g1]
        subst hv
        go_enter Tryz.func42, Tryz.ntmps42
        go_wp2_with (fail)
        go_quiet (fail)
        go_wp2_with (fail)
        go_ret
        exact ⟨rfl, drewN_b18 (Below.refl _ _) _⟩
    · have f0 : ((an : Int) == 2) = false := by rw [beq_eq_false_iff_ne]; omega
      have hv : R = true := by rw [← hR]; unfold badF; simp [g0]
      subst hv
      go_enter Tryz.func42, Tryz.ntmps42
      go_wp2_with (fail)
      go_quiet (fail)
      go_wp2_with (fail)
      go_ret
      exact ⟨rfl, drewN_b18 (Below.refl _ _) _⟩
  have n1 : (op == 1) = false := by rw [beq_eq_false_iff_ne]; exact h1
  by_cases h2 : op = 2
  · subst h2
    clear n1 h1
    by_cases g0 : an = 3
    · have f0 : ((an : Int) == 3) = true := by rw [beq_iff_eq]; omega
      by_cases g1 : kn = 0
      · have f1 : ((kn : Int) == 0) = true := by rw [beq_iff_eq]; omega
        have hv : R = false := by rw [← hR]; unfold badF; simp [g0, g1]
        subst hv
        go_enter Tryz.func42, Tryz.ntmps42
        go_wp2_with (fail)
        go_quiet (fail)
        go_wp2_with (fail)
        go_ret
        exact ⟨rfl, drewN_b18 (Below.refl _ _) _⟩
      · have f1 : ((kn : Int) == 0) = false := by rw [beq_eq_false_iff_ne]; omega
        have hv : R = true := by rw [← hR]; unfold badF; simp [g0, g1]
        subst hv
        go_enter Tryz.func42, Tryz.ntmps42
        go_wp2_with (fail)
        go_quiet (fail)
        go_wp2_with (fail)
        go_ret
        exact ⟨rfl, drewN_b18 (Below.refl _ _) _⟩
    · have f0 : ((an : Int) == 3) = false := by rw [beq_eq_false_iff_ne]; omega
      have hv : R = true := by rw [← hR]; unfold badF; simp [g0]
      subst hv
      go_enter Tryz.func42, Tryz.ntmps42
      go_wp2_with (fail)
      go_quiet (fail)
      go_wp2_with (fail)
      go_ret
      exact ⟨rfl, drewN_b18 (Below.refl _ _) _⟩
  have n2 : (op == 2) = false := by rw [beq_eq_false_iff_ne]; exact h2
  by_cases h3 : op = 3
  · subst h3
    clear n1 h1 n2 h2
    by_cases g0 : an = 2
    · have f0 : ((an : Int) == 2) = true := by rw [beq_iff_eq]; omega
      by_cases g1 : kn = 0
      · have f1 : ((kn : Int) == 0) = true := by rw [beq_iff_eq]; omega
        have hv : R = false := by rw [← hR]; unfold badF; simp [g0, g1]
        subst hv
        go_enter Tryz.func42, Tryz.ntmps42
        go_wp2_with (fail)
        go_quiet (fail)
        go_wp2_with (fail)
        go_ret
        exact ⟨rfl, drewN_b18 (Below.refl _ _) _⟩
      · have f1 : ((kn : Int) == 0) = false := by rw [beq_eq_false_iff_ne]; omega
        have hv : R = true := by rw [← hR]; unfold badF; simp [g0, g1]
        subst hv
        go_enter Tryz.func42, Tryz.ntmps42
        go_wp2_with (fail)
        go_quiet (fail)
        go_wp2_with (fail)
        go_ret
        exact ⟨rfl, drewN_b18 (Below.refl _ _) _⟩
    · have f0 : ((an : Int) == 2) = false := by rw [beq_eq_false_iff_ne]; omega
      have hv : R = true := by rw [← hR]; unfold badF; simp [g0]
      subst hv
      go_enter Tryz.func42, Tryz.ntmps42
      go_wp2_with (fail)
      go_quiet (fail)
      go_wp2_with (fail)
      go_ret
      exact ⟨rfl, drewN_b18 (Below.refl _ _) _⟩
  have n3 : (op == 3) = false := by rw [beq_eq_false_iff_ne]; exact h3
  by_cases h4 : op = 4
  · subst h4
    clear n1 h1 n2 h2 n3 h3
    by_cases g0 : an = 0
    · have f0 : ((an : Int) == 0) = true := by rw [beq_iff_eq]; omega
      by_cases g1 : kn = 1
      · have f1 : ((kn : Int) == 1) = true := by rw [beq_iff_eq]; omega
        have hv : R = false := by rw [← hR]; unfold badF; simp [g0, g1]
        subst hv
        go_enter Tryz.func42, Tryz.ntmps42
        go_wp2_with (fail)
        go_quiet (fail)
        go_wp2_with (fail)
        go_ret
        exact ⟨rfl, drewN_b18 (Below.refl _ _) _⟩
      · have f1 : ((kn : Int) == 1) = false := by rw [beq_eq_false_iff_ne]; omega
        have hv : R = true := by rw [← hR]; unfold badF; simp [g0, g1]
        subst hv
        go_enter Tryz.func42, Tryz.ntmps42
        go_wp2_with (fail)
        go_quiet (fail)
        go_wp2_with (fail)
        go_ret
        exact ⟨rfl, drewN_b18 (Below.refl _ _) _⟩
    · have f0 : ((an : Int) == 0) = false := by rw [beq_eq_false_iff_ne]; omega
      have hv : R = true := by rw [← hR]; unfold badF; simp [g0]
      subst hv
      go_enter Tryz.func42, Tryz.ntmps42
      go_wp2_with (fail)
      go_quiet (fail)
      go_wp2_with (fail)
      go_ret
      exact ⟨rfl, drewN_b18 (Below.refl _ _) _⟩
  have n4 : (op == 4) = false := by rw [beq_eq_false_iff_ne]; exact h4
  by_cases h5 : op = 5
  · subst h5
    clear n1 h1 n2 h2 n3 h3 n4 h4
    by_cases g0 : an = 0
    · have f0 : ((an : Int) == 0) = true := by rw [beq_iff_eq]; omega
      by_cases g1 : 2 ≤ kn
      · have f1 : decide ((2 : Int) ≤ (kn : Int)) = true := by rw [decide_eq_true_iff]; omega
        have hv : R = false := by rw [← hR]; unfold badF; simp [g0, g1]
        subst hv
        go_enter Tryz.func42, Tryz.ntmps42
        go_wp2_with (fail)
        go_quiet (fail)
        go_wp2_with (fail)
        go_ret
        exact ⟨rfl, drewN_b18 (Below.refl _ _) _⟩
      · have f1 : decide ((2 : Int) ≤ (kn : Int)) = false := by rw [decide_eq_false_iff_not]; omega
        have hv : R = true := by rw [← hR]; unfold badF; simp [g0, g1]
        subst hv
        go_enter Tryz.func42, Tryz.ntmps42
        go_wp2_with (fail)
        go_quiet (fail)
        go_wp2_with (fail)
        go_ret
        exact ⟨rfl, drewN_b18 (Below.refl _ _) _⟩
    · have f0 : ((an : Int) == 0) = false := by rw [beq_eq_false_iff_ne]; omega
      have hv : R = true := by rw [← hR]; unfold badF; simp [g0]
      subst hv
      go_enter Tryz.func42, Tryz.ntmps42
      go_wp2_with (fail)
      go_quiet (fail)
      go_wp2_with (fail)
      go_ret
      exact ⟨rfl, drewN_b18 (Below.refl _ _) _⟩
  have n5 : (op == 5) = false := by rw [beq_eq_false_iff_ne]; exact h5
  by_cases h6 : op = 6
  · subst h6
    clear n1 h1 n2 h2 n3 h3 n4 h4 n5 h5
    by_cases g0 : an = 0
    · have f0 : ((an : Int) == 0) = true := by rw [beq_iff_eq]; omega
      by_cases g1 : 2 ≤ kn
      · have f1 : decide ((2 : Int) ≤ (kn : Int)) = true := by rw [decide_eq_true_iff]; omega
        have hv : R = false := by rw [← hR]; unfold badF; simp [g0, g1]
        subst hv
        go_enter Tryz.func42, Tryz.ntmps42
        go_wp2_with (fail)
        go_quiet (fail)
        go_wp2_with (fail)
        go_ret
        exact ⟨rfl, drewN_b18 (Below.refl _ _) _⟩
      · have f1 : decide ((2 : Int) ≤ (kn : Int)) = false := by rw [decide_eq_false_iff_not]; omega
        have hv : R = true := by rw [← hR]; unfold badF; simp [g0, g1]
        subst hv
        go_enter Tryz.func42, Tryz.ntmps42
        go_wp2_with (fail)
        go_quiet (fail)
        go_wp2_with (fail)
        go_ret
        exact ⟨rfl, drewN_b18 (Below.refl _ _) _⟩
    · have f0 : ((an : Int) == 0) = false := by rw [beq_eq_false_iff_ne]; omega
      have hv : R = true := by rw [← hR]; unfold badF; simp [g0]
      subst hv
      go_enter Tryz.func42, Tryz.ntmps42
      go_wp2_with (fail)
      go_quiet (fail)
      go_wp2_with (fail)
      go_ret
      exact ⟨rfl, drewN_b18 (Below.refl _ _) _⟩
  have n6 : (op == 6) = false := by rw [beq_eq_false_iff_ne]; exact h6
  have hv : R = true := by rw [← hR]; unfold badF; simp [h1, h2, h3, h4, h5, h6]
  subst hv
  clear hR h1 h2 h3 h4 h5 h6
  go_enter Tryz.func42, Tryz.ntmps42
  go_wp2_with (fail)
  go_quiet (fail)
  go_wp2_with (fail)
  go_ret
  exact ⟨rfl, drewN_b18 (Below.refl _ _) _⟩
end Go.Proofs.YtcojomkpogikiaaGreatDoor
