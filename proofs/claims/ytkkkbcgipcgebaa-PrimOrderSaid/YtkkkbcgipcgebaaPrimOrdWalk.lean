/- The walk of PrimOrder. -/
import Derived.Test.YtkkkbcgipcgebaaPrimDataWalk
import Derived.Test.YtkkkbcgipcgebaaRegionInv
import Derived.Test.YtkkkbcgipcgebaaPrimOrdMath
import Derived.Deep.RegionHeld3
import Derived.Deep.DeepCutAuto
import Derived.RegionTactic
namespace Go.Proofs.Ytkkkbcgipcgebaa
open Go.ChangeShapes Go.WideShapes Go.ChangeAt Go.RowKit
set_option linter.unusedVariables false
theorem fr_eq {a b : List Value} (h : a = b) : (⟨a.toArray, []⟩ : Act) = ⟨b.toArray, []⟩ := by rw [h]
/-- where a datum lies -/
def DatAt (w : World) (p : Nat) (k n : Int) (g : Bool) (t : ByteArray) : Prop := w.heap[p]? = some (.cells #[.int .i64 k, .bool g, .int .u64 n, .string t] 29)
/-- the arguments' own boxes -/
def BoxAt (g g' : Nat) (k0 k1 k2 n0 n1 n2 : Int) (w : World) : Prop := w.heap[g]? = some (.cells #[.int .i64 k0, .int .i64 k1, .int .i64 k2] 36) ∧ w.heap[g']? = some (.cells #[.int .u64 n0, .int .u64 n1, .int .u64 n2] 37)
theorem BoxAt.keep {g g' : Nat} {k0 k1 k2 n0 n1 n2 : Int} {w w1 : World} (h : BoxAt g g' k0 k1 k2 n0 n1 n2 w) (hb : Below w.heap.size w w1) : BoxAt g g' k0 k1 k2 n0 n1 n2 w1 := ⟨blk_keep h.1 hb, blk_keep h.2 hb⟩
theorem BoxAt.set {g g' : Nat} {k0 k1 k2 n0 n1 n2 : Int} {w w1 : World} {p : Nat} (h : BoxAt g g' k0 k1 k2 n0 n1 n2 w) (hs : ∀ b, b ≠ p → w1.heap[b]? = w.heap[b]?) (hp : g < p ∧ g' < p) : BoxAt g g' k0 k1 k2 n0 n1 n2 w1 := ⟨(hs g (by omega)).trans h.1, (hs g' (by omega)).trans h.2⟩
theorem store_dat {w : World} {p : Nat} {k n : Int} {g : Bool} {t : ByteArray} (h : w.heap[p]? = some (.cells #[.int .i64 0, .bool false, .int .u64 0, .string ⟨#[]⟩] 29 : Obj)) : DatAt ((((w.setCell ⟨p, 0, none⟩ (.int .i64 k)).setCell ⟨p, 1, none⟩ (.bool g)).setCell ⟨p, 2, none⟩ (.int .u64 n)).setCell ⟨p, 3, none⟩ (.string t)) p k n g t ∧
    (∀ b, b ≠ p → ((((w.setCell ⟨p, 0, none⟩ (.int .i64 k)).setCell ⟨p, 1, none⟩ (.bool g)).setCell ⟨p, 2, none⟩ (.int .u64 n)).setCell ⟨p, 3, none⟩ (.string t)).heap[b]? = w.heap[b]?) ∧
    ((((w.setCell ⟨p, 0, none⟩ (.int .i64 k)).setCell ⟨p, 1, none⟩ (.bool g)).setCell ⟨p, 2, none⟩ (.int .u64 n)).setCell ⟨p, 3, none⟩ (.string t)).heap.size = w.heap.size ∧
    (∀ B w0, Below B w0 w → B ≤ p → Below B w0 ((((w.setCell ⟨p, 0, none⟩ (.int .i64 k)).setCell ⟨p, 1, none⟩ (.bool g)).setCell ⟨p, 2, none⟩ (.int .u64 n)).setCell ⟨p, 3, none⟩ (.string t))) := by
  have h1 := set_at (j := 0) (u := .int .i64 k) h
  have h2 := set_at (j := 1) (u := .bool g) h1
  have h3 := set_at (j := 2) (u := .int .u64 n) h2
  have h4 := set_at (j := 3) (u := .string t) h3
  refine ⟨by simpa [DatAt] using h4, fun b hb => ?_, by simp, fun B w0 hB hp => ?_⟩
  · exact (set_other hb).trans ((set_other hb).trans ((set_other hb).trans (set_other hb)))
  · exact (((hB.setCell hp _).setCell hp _).setCell hp _).setCell hp _
theorem BoxAt.cells {g g' : Nat} {k0 k1 k2 n0 n1 n2 : Int} {w : World} (h : BoxAt g g' k0 k1 k2 n0 n1 n2 w) : w.cell? ⟨g, 0, none⟩ = some (.int .i64 k0) ∧ w.cell? ⟨g, 1, none⟩ = some (.int .i64 k1) ∧ w.cell? ⟨g, 2, none⟩ = some (.int .i64 k2) ∧ w.cell? ⟨g', 0, none⟩ = some (.int .u64 n0) ∧ w.cell? ⟨g', 1, none⟩ = some (.int .u64 n1) ∧ w.cell? ⟨g', 2, none⟩ = some (.int .u64 n2) :=
  ⟨cell_at h.1 rfl, cell_at h.1 rfl, cell_at h.1 rfl, cell_at h.2 rfl, cell_at h.2 rfl, cell_at h.2 rfl⟩
theorem DatAt.keep {p : Nat} {k n : Int} {g : Bool} {t : ByteArray} {w w1 : World} (h : DatAt w p k n g t) (hb : Below w.heap.size w w1) : DatAt w1 p k n g t := blk_keep h hb
theorem DatAt.cells {p : Nat} {k n : Int} {g : Bool} {t : ByteArray} {w : World} (h : DatAt w p k n g t) : w.cell? ⟨p, 0, none⟩ = some (.int .i64 k) ∧ w.cell? ⟨p, 1, none⟩ = some (.bool g) ∧ w.cell? ⟨p, 2, none⟩ = some (.int .u64 n) ∧ w.cell? ⟨p, 3, none⟩ = some (.string t) := ⟨cell_at h rfl, cell_at h rfl, cell_at h rfl, cell_at h rfl⟩
/-- what stands: three data, the boxes -/
def A5 (g g' : Nat) (k0 k1 k2 n0 n1 n2 : Int) (p q r : Nat) (A B C : DatV) (w0 w : World) : Prop := DatAt w p A.kind A.num A.neg A.text ∧ DatAt w q B.kind B.num B.neg B.text ∧ DatAt w r C.kind C.num C.neg C.text ∧ BoxAt g g' k0 k1 k2 n0 n1 n2 w ∧ Below g w0 w
theorem A5.keep {g g' : Nat} {k0 k1 k2 n0 n1 n2 : Int} {p q r : Nat} {A B C : DatV} {w0 w w1 : World} (h : A5 g g' k0 k1 k2 n0 n1 n2 p q r A B C w0 w) (hb : Below w.heap.size w w1) : A5 g g' k0 k1 k2 n0 n1 n2 p q r A B C w0 w1 :=
  ⟨h.1.keep hb, h.2.1.keep hb, h.2.2.1.keep hb, h.2.2.2.1.keep hb, h.2.2.2.2.trans (hb.mono (Nat.le_of_lt (lt_of_block h.2.2.2.1.1)))⟩
theorem A5.drew {g g' : Nat} {k0 k1 k2 n0 n1 n2 : Int} {p q r : Nat} {A B C : DatV} {w0 w : World} (h : A5 g g' k0 k1 k2 n0 n1 n2 p q r A B C w0 w) : A5 g g' k0 k1 k2 n0 n1 n2 p q r A B C w0 w.drew := h.keep (Below.refl _ _).drew
theorem A5.set {g g' : Nat} {k0 k1 k2 n0 n1 n2 : Int} {p q r : Nat} {A B C : DatV} {w0 w w1 : World} {x : Nat} (h : A5 g g' k0 k1 k2 n0 n1 n2 p q r A B C w0 w) (hs : ∀ b, b ≠ x → w1.heap[b]? = w.heap[b]?) (hx : p ≠ x ∧ q ≠ x ∧ r ≠ x ∧ g < x ∧ g' < x) (hb : Below g w0 w1) : A5 g g' k0 k1 k2 n0 n1 n2 p q r A B C w0 w1 :=
  ⟨(hs p hx.1).trans h.1, (hs q hx.2.1).trans h.2.1, (hs r hx.2.2.1).trans h.2.2.1, h.2.2.2.1.set hs hx.2.2.2, hb⟩
/-- two data more, and two more -/
def Q4 (g g' : Nat) (k0 k1 k2 n0 n1 n2 : Int) (s t : Nat) (X Y : DatV) (w : World) : Prop := DatAt w s X.kind X.num X.neg X.text ∧ DatAt w t Y.kind Y.num Y.neg Y.text ∧ BoxAt g g' k0 k1 k2 n0 n1 n2 w
theorem Q4.keep {g g' : Nat} {k0 k1 k2 n0 n1 n2 : Int} {s t : Nat} {X Y : DatV} {w w1 : World} (h : Q4 g g' k0 k1 k2 n0 n1 n2 s t X Y w) (hb : Below w.heap.size w w1) : Q4 g g' k0 k1 k2 n0 n1 n2 s t X Y w1 := ⟨h.1.keep hb, h.2.1.keep hb, h.2.2.keep hb⟩
theorem Q4.set {g g' : Nat} {k0 k1 k2 n0 n1 n2 : Int} {s t : Nat} {X Y : DatV} {w w1 : World} {x : Nat} (h : Q4 g g' k0 k1 k2 n0 n1 n2 s t X Y w) (hs : ∀ b, b ≠ x → w1.heap[b]? = w.heap[b]?) (hx : s ≠ x ∧ t ≠ x ∧ g < x ∧ g' < x) : Q4 g g' k0 k1 k2 n0 n1 n2 s t X Y w1 := ⟨(hs s hx.1).trans h.1, (hs t hx.2.1).trans h.2.1, h.2.2.set hs hx.2.2⟩
def Q6 (g g' : Nat) (k0 k1 k2 n0 n1 n2 : Int) (s t u v : Nat) (X Y U V : DatV) (w : World) : Prop := DatAt w u U.kind U.num U.neg U.text ∧ DatAt w v V.kind V.num V.neg V.text ∧ Q4 g g' k0 k1 k2 n0 n1 n2 s t X Y w
theorem Q6.keep {g g' : Nat} {k0 k1 k2 n0 n1 n2 : Int} {s t u v : Nat} {X Y U V : DatV} {w w1 : World} (h : Q6 g g' k0 k1 k2 n0 n1 n2 s t u v X Y U V w) (hb : Below w.heap.size w w1) : Q6 g g' k0 k1 k2 n0 n1 n2 s t u v X Y U V w1 := ⟨h.1.keep hb, h.2.1.keep hb, h.2.2.keep hb⟩
theorem cmp_fld {k n k' n' ka na kb nb : Int} {ga gb : Bool} {ta tb : ByteArray} (hA : datK k n = ⟨ka, ga, na, ta⟩) (hB : datK k' n' = ⟨kb, gb, nb, tb⟩) (w : World) : Calls Try.prog 24 #[.agg #[.int .i64 ka, .bool ga, .int .u64 na, .string ta], .agg #[.int .i64 kb, .bool gb, .int .u64 nb, .string tb]] w fun e w' => e = .returned (.int .i64 (cmpD ⟨ka, ga, na, ta⟩ ⟨kb, gb, nb, tb⟩)) ∧ Below w.heap.size w w' := by
  have a1 := dat_num k n
  have a2 := dat_text k n
  have b1 := dat_num k' n'
  have b2 := dat_text k' n'
  rw [hA] at a1 a2
  rw [hB] at b1 b2
  simp only at a1 a2 b1 b2
  subst a2
  subst b2
  exact cmp_any ka kb na nb ga gb _ _ (wf_u64 a1.1 a1.2) (wf_u64 b1.1 b1.2) (by decide) (by decide) w
set_option maxRecDepth 100000 in
set_option maxHeartbeats 20000000 in
theorem ord_walk (k0 k1 k2 n0 n1 n2 : Int) (h0 : (Lit.int .u64 n0).wf = true) (h1 : (Lit.int .u64 n1).wf = true) (h2 : (Lit.int .u64 n2).wf = true) (w : World) :
    Calls Try.prog 6 #[.agg #[.int .i64 k0, .int .i64 k1, .int .i64 k2], .agg #[.int .u64 n0, .int .u64 n1, .int .u64 n2]] w fun e w' => e = .returned (.bool true) ∧ Below w.heap.size w w' := by
  obtain ⟨⟨ka, ga, na, ta⟩, hA⟩ : ∃ D, datK k0 n0 = D := ⟨_, rfl⟩
  obtain ⟨⟨kb, gb, nb, tb⟩, hB⟩ : ∃ D, datK k1 n1 = D := ⟨_, rfl⟩
  obtain ⟨⟨kc, gc, nc, tc⟩, hC⟩ : ∃ D, datK k2 n2 = D := ⟨_, rfl⟩
  have HA := Lib.hid (fun w => datum_fld k0 n0 ka na ga ta hA h0 w)
  have HB := Lib.hid (fun w => datum_fld k1 n1 kb nb gb tb hB h1 w)
  have HC := Lib.hid (fun w => datum_fld k2 n2 kc nc gc tc hC h2 w)
  go_enter Try.func6, Try.ntmps6
  go_upto_region 1 with (fail)
  have hbox : BoxAt w.heap.size (w.heap.size + 1) k0 k1 k2 n0 n1 n2 ((w.alloc (.cells #[.int .i64 k0, .int .i64 k1, .int .i64 k2] 36)).alloc (.cells #[.int .u64 n0, .int .u64 n1, .int .u64 n2] 37)) := ⟨alloc_old (alloc_at w _), by simpa using alloc_at (w.alloc (.cells #[.int .i64 k0, .int .i64 k1, .int .i64 k2] 36)) (.cells #[.int .u64 n0, .int .u64 n1, .int .u64 n2] 37)⟩
  have hr : Below w.heap.size w ((w.alloc (.cells #[.int .i64 k0, .int .i64 k1, .int .i64 k2] 36)).alloc (.cells #[.int .u64 n0, .int .u64 n1, .int .u64 n2] 37)) := ((Below.refl _ _).alloc (Nat.le_refl _) _).alloc (by simp) _
  generalize ((w.alloc (.cells #[.int .i64 k0, .int .i64 k1, .int .i64 k2] 36)).alloc (.cells #[.int .u64 n0, .int .u64 n1, .int .u64 n2] 37)) = wb at *
  generalize hg' : w.heap.size + 1 = g' at *
  have hg0 : w.heap.size < wb.heap.size := lt_of_block hbox.1
  generalize hg : w.heap.size = g at *
  go_cut [5, 6, 7] (fun a b c wx => ∃ p q r : Nat, a = .pointer (some ⟨p, 0, none⟩) ∧ b = .pointer (some ⟨q, 0, none⟩) ∧ c = .pointer (some ⟨r, 0, none⟩) ∧ Hid (A5 g g' k0 k1 k2 n0 n1 n2 p q r ⟨ka, ga, na, ta⟩ ⟨kb, gb, nb, tb⟩ ⟨kc, gc, nc, tc⟩ w wx))
  case first =>
    refine wp_region_ext (by kernel_rfl) 18 (fun v => (.agg #[.int .i64 k0, .int .i64 k1, .int .i64 k2] :: .agg #[.int .u64 n0, .int .u64 n1, .int .u64 n2] :: .pointer (some ⟨g, 0, none⟩) :: .pointer (some ⟨g', 0, none⟩) :: .bool false :: v 15 :: v 16 :: v 17 :: undef :: undef :: undef :: undef :: v 0 :: v 1 :: v 2 :: v 3 :: v 4 :: v 5 :: v 6 :: v 7 :: v 8 :: v 9 :: v 10 :: v 11 :: v 12 :: v 13 :: v 14 :: undef :: undef :: undef :: undef :: undef :: undef :: undef :: undef :: undef :: undef :: undef :: undef :: undef :: undef :: undef :: undef :: undef :: undef :: undef :: undef :: undef :: undef :: undef :: undef :: undef :: undef :: undef :: undef :: undef :: undef :: undef :: undef :: undef :: undef :: undef :: undef :: undef :: undef :: undef :: undef :: undef :: undef :: undef :: undef :: undef :: undef :: undef :: undef :: undef :: undef :: undef :: undef :: undef :: undef :: undef :: undef :: undef :: undef :: undef :: undef :: undef :: undef :: undef :: undef :: undef :: undef :: undef :: undef :: undef :: undef :: undef :: undef :: undef :: undef :: undef :: undef :: undef :: undef :: undef :: undef :: undef :: []).toArray) (fun _ => undef) (fun j => if 15 ≤ j then some (.cells #[.int .i64 0, .bool false, .int .u64 0, .string ⟨#[]⟩] 29 : Obj) else none) (fun j => [.pointer (some ⟨g, 0, none⟩), .int .i64 k0, .pointer (some ⟨g', 0, none⟩), .int .u64 n0, .agg #[.int .i64 ka, .bool ga, .int .u64 na, .string ta], .pointer (some ⟨g, 1, none⟩), .int .i64 k1, .pointer (some ⟨g', 1, none⟩), .int .u64 n1, .agg #[.int .i64 kb, .bool gb, .int .u64 nb, .string tb], .pointer (some ⟨g, 2, none⟩), .int .i64 k2, .pointer (some ⟨g', 2, none⟩), .int .u64 n2, .agg #[.int .i64 kc, .bool gc, .int .u64 nc, .string tc]].getD j undef)
      (BoxAt g g' k0 k1 k2 n0 n1 n2) (Nat.le_of_ble_eq_true (by kernel_rfl)) (by kernel_rfl) (fun _ _ h hb => h.keep hb) hbox (fun j hj v w1 hBx hsz hd => ?_) (fun v w1 hv hdist hBx hb => ?_)
    · obtain ⟨x0, x1, x2, y0, y1, y2⟩ := hBx.cells
      have hj2 : j = 0 ∨ j = 1 ∨ j = 2 ∨ j = 3 ∨ j = 4 ∨ j = 5 ∨ j = 6 ∨ j = 7 ∨ j = 8 ∨ j = 9 ∨ j = 10 ∨ j = 11 ∨ j = 12 ∨ j = 13 ∨ j = 14 ∨ j = 15 ∨ j = 16 ∨ j = 17 := by omega
      rcases hj2 with rfl | rfl | rfl | rfl | rfl | rfl | rfl | rfl | rfl | rfl | rfl | rfl | rfl | rfl | rfl | rfl | rfl | rfl
      · skip
        refine wpOp_step (o := _) rfl (fun K' hK => ?_)
        go_simp
        exact hK _ _ ⟨.pointer (some ⟨g, 0, none⟩), rfl, Below.refl _ _, (fun _ => rfl), fun o h => by cases h⟩
      · have e0 : v 0 = .pointer (some ⟨g, 0, none⟩) := hd 0 (List.contains_iff_mem.1 (by kernel_rfl))
        refine wpOp_step (o := _) rfl (fun K' hK => ?_)
        go_simp
        exact hK _ _ ⟨.int .i64 k0, fr_eq (by simp [upd, e0]), Below.refl _ _, (fun _ => rfl), fun o h => by cases h⟩
      · skip
        refine wpOp_step (o := _) rfl (fun K' hK => ?_)
        go_simp
        exact hK _ _ ⟨.pointer (some ⟨g', 0, none⟩), rfl, Below.refl _ _, (fun _ => rfl), fun o h => by cases h⟩
      · have e2 : v 2 = .pointer (some ⟨g', 0, none⟩) := hd 2 (List.contains_iff_mem.1 (by kernel_rfl))
        refine wpOp_step (o := _) rfl (fun K' hK => ?_)
        go_simp
        exact hK _ _ ⟨.int .u64 n0, fr_eq (by simp [upd, e2]), Below.refl _ _, (fun _ => rfl), fun o h => by cases h⟩
      · have e1 : v 1 = .int .i64 k0 := hd 1 (List.contains_iff_mem.1 (by kernel_rfl)); have e3 : v 3 = .int .u64 n0 := hd 3 (List.contains_iff_mem.1 (by kernel_rfl))
        refine wpOp_step (o := _) rfl (fun K' hK => ?_)
        go_simp
        refine (HA.out _).mono ?_
        rintro e w2 ⟨rfl, hb2⟩
        exact hK _ _ ⟨.agg #[.int .i64 ka, .bool ga, .int .u64 na, .string ta], fr_eq (by simp [upd, e1, e3]), hb2, fun _ => rfl, fun o h => by cases h⟩
      · skip
        refine wpOp_step (o := _) rfl (fun K' hK => ?_)
        go_simp
        exact hK _ _ ⟨.pointer (some ⟨g, 1, none⟩), rfl, Below.refl _ _, (fun _ => rfl), fun o h => by cases h⟩
      · have e5 : v 5 = .pointer (some ⟨g, 1, none⟩) := hd 5 (List.contains_iff_mem.1 (by kernel_rfl))
        refine wpOp_step (o := _) rfl (fun K' hK => ?_)
        go_simp
        exact hK _ _ ⟨.int .i64 k1, fr_eq (by simp [upd, e5]), Below.refl _ _, (fun _ => rfl), fun o h => by cases h⟩
      · skip
        refine wpOp_step (o := _) rfl (fun K' hK => ?_)
        go_simp
        exact hK _ _ ⟨.pointer (some ⟨g', 1, none⟩), rfl, Below.refl _ _, (fun _ => rfl), fun o h => by cases h⟩
      · have e7 : v 7 = .pointer (some ⟨g', 1, none⟩) := hd 7 (List.contains_iff_mem.1 (by kernel_rfl))
        refine wpOp_step (o := _) rfl (fun K' hK => ?_)
        go_simp
        exact hK _ _ ⟨.int .u64 n1, fr_eq (by simp [upd, e7]), Below.refl _ _, (fun _ => rfl), fun o h => by cases h⟩
      · have e6 : v 6 = .int .i64 k1 := hd 6 (List.contains_iff_mem.1 (by kernel_rfl)); have e8 : v 8 = .int .u64 n1 := hd 8 (List.contains_iff_mem.1 (by kernel_rfl))
        refine wpOp_step (o := _) rfl (fun K' hK => ?_)
        go_simp
        refine (HB.out _).mono ?_
        rintro e w2 ⟨rfl, hb2⟩
        exact hK _ _ ⟨.agg #[.int .i64 kb, .bool gb, .int .u64 nb, .string tb], fr_eq (by simp [upd, e6, e8]), hb2, fun _ => rfl, fun o h => by cases h⟩
      · skip
        refine wpOp_step (o := _) rfl (fun K' hK => ?_)
        go_simp
        exact hK _ _ ⟨.pointer (some ⟨g, 2, none⟩), rfl, Below.refl _ _, (fun _ => rfl), fun o h => by cases h⟩
      · have e10 : v 10 = .pointer (some ⟨g, 2, none⟩) := hd 10 (List.contains_iff_mem.1 (by kernel_rfl))
        refine wpOp_step (o := _) rfl (fun K' hK => ?_)
        go_simp
        exact hK _ _ ⟨.int .i64 k2, fr_eq (by simp [upd, e10]), Below.refl _ _, (fun _ => rfl), fun o h => by cases h⟩
      · skip
        refine wpOp_step (o := _) rfl (fun K' hK => ?_)
        go_simp
        exact hK _ _ ⟨.pointer (some ⟨g', 2, none⟩), rfl, Below.refl _ _, (fun _ => rfl), fun o h => by cases h⟩
      · have e12 : v 12 = .pointer (some ⟨g', 2, none⟩) := hd 12 (List.contains_iff_mem.1 (by kernel_rfl))
        refine wpOp_step (o := _) rfl (fun K' hK => ?_)
        go_simp
        exact hK _ _ ⟨.int .u64 n2, fr_eq (by simp [upd, e12]), Below.refl _ _, (fun _ => rfl), fun o h => by cases h⟩
      · have e11 : v 11 = .int .i64 k2 := hd 11 (List.contains_iff_mem.1 (by kernel_rfl)); have e13 : v 13 = .int .u64 n2 := hd 13 (List.contains_iff_mem.1 (by kernel_rfl))
        refine wpOp_step (o := _) rfl (fun K' hK => ?_)
        go_simp
        refine (HC.out _).mono ?_
        rintro e w2 ⟨rfl, hb2⟩
        exact hK _ _ ⟨.agg #[.int .i64 kc, .bool gc, .int .u64 nc, .string tc], fr_eq (by simp [upd, e11, e13]), hb2, fun _ => rfl, fun o h => by cases h⟩
      · skip
        refine wpOp_step (o := _) rfl (fun K' hK => ?_)
        go_simp
        exact hK _ _ ⟨_, rfl, (Below.refl _ _).alloc (Nat.le_refl _) _, (fun h => by cases h), fun o h => by (cases h; exact ⟨rfl, alloc_at _ _⟩)⟩
      · skip
        refine wpOp_step (o := _) rfl (fun K' hK => ?_)
        go_simp
        exact hK _ _ ⟨_, rfl, (Below.refl _ _).alloc (Nat.le_refl _) _, (fun h => by cases h), fun o h => by (cases h; exact ⟨rfl, alloc_at _ _⟩)⟩
      · skip
        refine wpOp_step (o := _) rfl (fun K' hK => ?_)
        go_simp
        exact hK _ _ ⟨_, rfl, (Below.refl _ _).alloc (Nat.le_refl _) _, (fun h => by cases h), fun o h => by (cases h; exact ⟨rfl, alloc_at _ _⟩)⟩
    · have e0 : v 0 = .pointer (some ⟨g, 0, none⟩) := hv 0 (by decide)
      have e1 : v 1 = .int .i64 k0 := hv 1 (by decide)
      have e2 : v 2 = .pointer (some ⟨g', 0, none⟩) := hv 2 (by decide)
      have e3 : v 3 = .int .u64 n0 := hv 3 (by decide)
      have e4 : v 4 = .agg #[.int .i64 ka, .bool ga, .int .u64 na, .string ta] := hv 4 (by decide)
      have e5 : v 5 = .pointer (some ⟨g, 1, none⟩) := hv 5 (by decide)
      have e6 : v 6 = .int .i64 k1 := hv 6 (by decide)
      have e7 : v 7 = .pointer (some ⟨g', 1, none⟩) := hv 7 (by decide)
      have e8 : v 8 = .int .u64 n1 := hv 8 (by decide)
      have e9 : v 9 = .agg #[.int .i64 kb, .bool gb, .int .u64 nb, .string tb] := hv 9 (by decide)
      have e10 : v 10 = .pointer (some ⟨g, 2, none⟩) := hv 10 (by decide)
      have e11 : v 11 = .int .i64 k2 := hv 11 (by decide)
      have e12 : v 12 = .pointer (some ⟨g', 2, none⟩) := hv 12 (by decide)
      have e13 : v 13 = .int .u64 n2 := hv 13 (by decide)
      have e14 : v 14 = .agg #[.int .i64 kc, .bool gc, .int .u64 nc, .string tc] := hv 14 (by decide)
      obtain ⟨p, e15, q15, l15⟩ := hv 15 (by decide)
      obtain ⟨q, e16, q16, l16⟩ := hv 16 (by decide)
      obtain ⟨r, e17, q17, l17⟩ := hv 17 (by decide)
      have d01 : p ≠ q := fun h => hdist 15 16 (by decide) (by decide) (by decide) (fun h => by cases h) (fun h => by cases h) (by rw [e15, e16, h])
      have d02 : p ≠ r := fun h => hdist 15 17 (by decide) (by decide) (by decide) (fun h => by cases h) (fun h => by cases h) (by rw [e15, e17, h])
      have d12 : q ≠ r := fun h => hdist 16 17 (by decide) (by decide) (by decide) (fun h => by cases h) (fun h => by cases h) (by rw [e16, e17, h])
      clear hv hdist
      refine wpAny_of_held (S := fun _ => True) _ _ _ _ ?_
      simp only [e0, e1, e2, e3, e4, e5, e6, e7, e8, e9, e10, e11, e12, e13, e14, e15, e16, e17]
      clear e0 e1 e2 e3 e4 e5 e6 e7 e8 e9 e10 e11 e12 e13 e14 e15 e16 e17
      have hgl := lt_of_block hbox.1
      have hgl' := lt_of_block hbox.2
      have HB0 := Lib.hid hb
      have HX0 := Lib.hid hBx
      have HQ0_0 := Lib.hid q15
      have HQ1_0 := Lib.hid q16
      have HQ2_0 := Lib.hid q17
      clear hb hBx q15 q16 q17
      have f0 := free_at (j := 0) HQ0_0.out
      have f1 := free_at (j := 1) HQ0_0.out
      have f2 := free_at (j := 2) HQ0_0.out
      have f3 := free_at (j := 3) HQ0_0.out
      have c0 := cell_at (j := 0) (v := .int .i64 0) HQ0_0.out rfl
      have c1 := cell_at (j := 1) (v := .bool false) HQ0_0.out rfl
      have c2 := cell_at (j := 2) (v := .int .u64 0) HQ0_0.out rfl
      have c3 := cell_at (j := 3) (v := .string ⟨#[]⟩) HQ0_0.out rfl
      have HS := Lib.hid (@store_dat w1 p ka na ga ta HQ0_0.out)
      refine wpAnyH_ready (fuel := 2) (rs := [18]) (by kernel_rfl) (by simp) ?_
      refine AllReadyH.cons (o := _) rfl (fun K hK => ?_) AllReadyH.nil
      go_simp
      refine hK.out _ _ trivial (fun _ => ?_)
      clear hK K f0 f1 f2 f3 c0 c1 c2 c3
      generalize hw0 : (((World.setCell w1 ⟨p, 0, none⟩ (.int .i64 ka)).setCell ⟨p, 1, none⟩ (.bool ga)).setCell ⟨p, 2, none⟩ (.int .u64 na)).setCell ⟨p, 3, none⟩ (.string ta) = ws1 at *
      have HB1 := Lib.hid (HS.out.2.2.2 _ _ HB0.out l15)
      have HX1 := Lib.hid (HX0.out.set HS.out.2.1 (by omega))
      have HQ0_1 := Lib.hid HS.out.1
      have HQ1_1 := Lib.hid ((HS.out.2.1 _ (by omega)).trans HQ1_0.out)
      have HQ2_1 := Lib.hid ((HS.out.2.1 _ (by omega)).trans HQ2_0.out)
      clear HS HB0 HX0 HQ0_0 HQ1_0 HQ2_0 hw0
      have f0 := free_at (j := 0) HQ1_1.out
      have f1 := free_at (j := 1) HQ1_1.out
      have f2 := free_at (j := 2) HQ1_1.out
      have f3 := free_at (j := 3) HQ1_1.out
      have c0 := cell_at (j := 0) (v := .int .i64 0) HQ1_1.out rfl
      have c1 := cell_at (j := 1) (v := .bool false) HQ1_1.out rfl
      have c2 := cell_at (j := 2) (v := .int .u64 0) HQ1_1.out rfl
      have c3 := cell_at (j := 3) (v := .string ⟨#[]⟩) HQ1_1.out rfl
      have HS := Lib.hid (@store_dat ws1 q kb nb gb tb HQ1_1.out)
      refine wpAnyH_ready (fuel := 1) (rs := [19]) (by kernel_rfl) (by simp) ?_
      refine AllReadyH.cons (o := _) rfl (fun K hK => ?_) AllReadyH.nil
      go_simp
      refine hK.out _ _ trivial (fun _ => ?_)
      clear hK K f0 f1 f2 f3 c0 c1 c2 c3
      generalize hw1 : (((World.setCell ws1 ⟨q, 0, none⟩ (.int .i64 kb)).setCell ⟨q, 1, none⟩ (.bool gb)).setCell ⟨q, 2, none⟩ (.int .u64 nb)).setCell ⟨q, 3, none⟩ (.string tb) = ws2 at *
      have HB2 := Lib.hid (HS.out.2.2.2 _ _ HB1.out l16)
      have HX2 := Lib.hid (HX1.out.set HS.out.2.1 (by omega))
      have HQ0_2 := Lib.hid ((HS.out.2.1 _ (by omega)).trans HQ0_1.out)
      have HQ1_2 := Lib.hid HS.out.1
      have HQ2_2 := Lib.hid ((HS.out.2.1 _ (by omega)).trans HQ2_1.out)
      clear HS HB1 HX1 HQ0_1 HQ1_1 HQ2_1 hw1
      have f0 := free_at (j := 0) HQ2_2.out
      have f1 := free_at (j := 1) HQ2_2.out
      have f2 := free_at (j := 2) HQ2_2.out
      have f3 := free_at (j := 3) HQ2_2.out
      have c0 := cell_at (j := 0) (v := .int .i64 0) HQ2_2.out rfl
      have c1 := cell_at (j := 1) (v := .bool false) HQ2_2.out rfl
      have c2 := cell_at (j := 2) (v := .int .u64 0) HQ2_2.out rfl
      have c3 := cell_at (j := 3) (v := .string ⟨#[]⟩) HQ2_2.out rfl
      have HS := Lib.hid (@store_dat ws2 r kc nc gc tc HQ2_2.out)
      refine wpAnyH_ready (fuel := 0) (rs := [20]) (by kernel_rfl) (by simp) ?_
      refine AllReadyH.cons (o := _) rfl (fun K hK => ?_) AllReadyH.nil
      go_simp
      refine hK.out _ _ trivial (fun _ => ?_)
      clear hK K f0 f1 f2 f3 c0 c1 c2 c3
      generalize hw2 : (((World.setCell ws2 ⟨r, 0, none⟩ (.int .i64 kc)).setCell ⟨r, 1, none⟩ (.bool gc)).setCell ⟨r, 2, none⟩ (.int .u64 nc)).setCell ⟨r, 3, none⟩ (.string tc) = ws3 at *
      have HB3 := Lib.hid (HS.out.2.2.2 _ _ HB2.out l17)
      have HX3 := Lib.hid (HX2.out.set HS.out.2.1 (by omega))
      have HQ0_3 := Lib.hid ((HS.out.2.1 _ (by omega)).trans HQ0_2.out)
      have HQ1_3 := Lib.hid ((HS.out.2.1 _ (by omega)).trans HQ1_2.out)
      have HQ2_3 := Lib.hid HS.out.1
      clear HS HB2 HX2 HQ0_2 HQ1_2 HQ2_2 hw2
      refine wpAnyH_done (by kernel_rfl) ?_ _
      go_wp2_with fail
      go_meet
      exact ⟨p, q, r, rfl, rfl, rfl, Lib.hid ⟨HQ0_3.out, HQ1_3.out, HQ2_3.out, HX3.out, hr.trans (HB3.out.mono (Nat.le_of_lt hg0))⟩⟩
  case rest =>
    obtain ⟨p, q, r, rfl, rfl, rfl, HAll⟩ := hcut
    have pA : plainD ⟨ka, ga, na, ta⟩ := hA ▸ dat_plain k0 n0
    have pB : plainD ⟨kb, gb, nb, tb⟩ := hB ▸ dat_plain k1 n1
    have pC : plainD ⟨kc, gc, nc, tc⟩ := hC ▸ dat_plain k2 n2
    have hab := fun w => cmp_fld hA hB w
    have hba := fun w => cmp_fld hB hA w
    have haa := fun w => cmp_fld hA hA w
    have hbc := fun w => cmp_fld hB hC w
    have hac := fun w => cmp_fld hA hC w
    have hsw := cmpD_swap pB pA
    have hx := cmpD_in (b := ⟨kb, gb, nb, tb⟩) pA
    have hz := cmpD_trans (c := ⟨kc, gc, nc, tc⟩) pA pB
    rw [hsw] at hba
    rw [cmpD_self pA] at haa
    generalize cmpD ⟨ka, ga, na, ta⟩ ⟨kb, gb, nb, tb⟩ = x at *
    generalize cmpD ⟨kb, gb, nb, tb⟩ ⟨kc, gc, nc, tc⟩ = y at *
    generalize cmpD ⟨ka, ga, na, ta⟩ ⟨kc, gc, nc, tc⟩ = z at *
    have Hab := Lib.hid hab
    have Hba := Lib.hid hba
    have Haa := Lib.hid haa
    have Hbc := Lib.hid hbc
    have Hac := Lib.hid hac
    have HZ := Lib.hid hz
    obtain ⟨hx1, hx2⟩ := hx
    clear hab hba haa hbc hac hz hsw pA pB pC HA HB HC
    go_upto_region 2 with (fail)
    go_cut [40] (fun t wx => t = .bool false ∧ Hid (A5 g g' k0 k1 k2 n0 n1 n2 p q r ⟨ka, ga, na, ta⟩ ⟨kb, gb, nb, tb⟩ ⟨kc, gc, nc, tc⟩ w wx))
    case first =>
      obtain ⟨c0, c1, c2, c3⟩ := HAll.out.1.cells
      obtain ⟨c4, c5, c6, c7⟩ := HAll.out.2.1.cells
      have hw : (x != IntKind.i64.wrap x) = false := by rw [IntWalk.i64_in x (by omega)]; simp
      have hw2 : IntKind.i64.wrap x = x := IntWalk.i64_in x (by omega)
      go_region_held3 (fun w' => w'.cell? ⟨p, 0, none⟩ = some (.int .i64 ka) ∧ w'.cell? ⟨p, 1, none⟩ = some (.bool ga) ∧ w'.cell? ⟨p, 2, none⟩ = some (.int .u64 na) ∧ w'.cell? ⟨p, 3, none⟩ = some (.string ta) ∧ w'.cell? ⟨q, 0, none⟩ = some (.int .i64 kb) ∧ w'.cell? ⟨q, 1, none⟩ = some (.bool gb) ∧ w'.cell? ⟨q, 2, none⟩ = some (.int .u64 nb) ∧ w'.cell? ⟨q, 3, none⟩ = some (.string tb) ∧ Hid (A5 g g' k0 k1 k2 n0 n1 n2 p q r ⟨ka, ga, na, ta⟩ ⟨kb, gb, nb, tb⟩ ⟨kc, gc, nc, tc⟩ w w'))
        (first | exact ⟨c0, c1, c2, c3, c4, c5, c6, c7, Lib.hid HAll.out.drew⟩ | exact ⟨c0, c1, c2, c3, c4, c5, c6, c7, HAll⟩ | fail)
        (first
          | (go_at_call 24; (with_reducible refine (Hab.out _).mono ?_); rintro e w3 ⟨rfl, hb3⟩; have HAll := Lib.hid (A5.keep (by first | exact HAll.out | exact HAll.out.drew) hb3); have c0 := keep5 hb3 (by exact c0); have c1 := keep5 hb3 (by exact c1); have c2 := keep5 hb3 (by exact c2); have c3 := keep5 hb3 (by exact c3); have c4 := keep5 hb3 (by exact c4); have c5 := keep5 hb3 (by exact c5); have c6 := keep5 hb3 (by exact c6); have c7 := keep5 hb3 (by exact c7); clear hb3)
          | (go_at_call 24; (with_reducible refine (Hba.out _).mono ?_); rintro e w3 ⟨rfl, hb3⟩; have HAll := Lib.hid (A5.keep (by first | exact HAll.out | exact HAll.out.drew) hb3); have c0 := keep5 hb3 (by exact c0); have c1 := keep5 hb3 (by exact c1); have c2 := keep5 hb3 (by exact c2); have c3 := keep5 hb3 (by exact c3); have c4 := keep5 hb3 (by exact c4); have c5 := keep5 hb3 (by exact c5); have c6 := keep5 hb3 (by exact c6); have c7 := keep5 hb3 (by exact c7); clear hb3)
          | (go_at_call 24; (with_reducible refine (Haa.out _).mono ?_); rintro e w3 ⟨rfl, hb3⟩; have HAll := Lib.hid (A5.keep (by first | exact HAll.out | exact HAll.out.drew) hb3); have c0 := keep5 hb3 (by exact c0); have c1 := keep5 hb3 (by exact c1); have c2 := keep5 hb3 (by exact c2); have c3 := keep5 hb3 (by exact c3); have c4 := keep5 hb3 (by exact c4); have c5 := keep5 hb3 (by exact c5); have c6 := keep5 hb3 (by exact c6); have c7 := keep5 hb3 (by exact c7); clear hb3))
      go_wp2_with fail
      go_meet
      exact ⟨rfl, HAll⟩
    case rest =>
      obtain ⟨rfl, HAll⟩ := hcut
      go_upto_region 4 with (fail)
      go_cut [56] (fun t wx => t = .bool false ∧ Hid (A5 g g' k0 k1 k2 n0 n1 n2 p q r ⟨ka, ga, na, ta⟩ ⟨kb, gb, nb, tb⟩ ⟨kc, gc, nc, tc⟩ w wx))
      case first =>
        obtain ⟨c0, c1, c2, c3⟩ := HAll.out.1.cells
        obtain ⟨c4, c5, c6, c7⟩ := HAll.out.2.1.cells
        obtain ⟨c8, c9, c10, c11⟩ := HAll.out.2.2.1.cells
        by_cases hxx : x ≤ 0
        · by_cases hyy : y ≤ 0
          · have hzz := HZ.out hxx hyy
            have tx : decide (x ≤ 0) = true := by simpa using hxx
            have ty : decide (y ≤ 0) = true := by simpa using hyy
            have tz : decide (0 < z) = false := by simp; omega
            go_wp2_with (first | (go_at_call 24; (with_reducible refine (Hab.out _).mono ?_); rintro e w3 ⟨rfl, hb3⟩; have HAll := Lib.hid (HAll.out.keep hb3); have c0 := keep5 hb3 c0; have c1 := keep5 hb3 c1; have c2 := keep5 hb3 c2; have c3 := keep5 hb3 c3; have c4 := keep5 hb3 c4; have c5 := keep5 hb3 c5; have c6 := keep5 hb3 c6; have c7 := keep5 hb3 c7; have c8 := keep5 hb3 c8; have c9 := keep5 hb3 c9; have c10 := keep5 hb3 c10; have c11 := keep5 hb3 c11; clear hb3) | (go_at_call 24; (with_reducible refine (Hbc.out _).mono ?_); rintro e w3 ⟨rfl, hb3⟩; have HAll := Lib.hid (HAll.out.keep hb3); have c0 := keep5 hb3 c0; have c1 := keep5 hb3 c1; have c2 := keep5 hb3 c2; have c3 := keep5 hb3 c3; have c4 := keep5 hb3 c4; have c5 := keep5 hb3 c5; have c6 := keep5 hb3 c6; have c7 := keep5 hb3 c7; have c8 := keep5 hb3 c8; have c9 := keep5 hb3 c9; have c10 := keep5 hb3 c10; have c11 := keep5 hb3 c11; clear hb3) | (go_at_call 24; (with_reducible refine (Hac.out _).mono ?_); rintro e w3 ⟨rfl, hb3⟩; have HAll := Lib.hid (HAll.out.keep hb3); have c0 := keep5 hb3 c0; have c1 := keep5 hb3 c1; have c2 := keep5 hb3 c2; have c3 := keep5 hb3 c3; have c4 := keep5 hb3 c4; have c5 := keep5 hb3 c5; have c6 := keep5 hb3 c6; have c7 := keep5 hb3 c7; have c8 := keep5 hb3 c8; have c9 := keep5 hb3 c9; have c10 := keep5 hb3 c10; have c11 := keep5 hb3 c11; clear hb3))
            go_meet
            exact ⟨rfl, HAll⟩
          · have tx : decide (x ≤ 0) = true := by simpa using hxx
            have ty : decide (y ≤ 0) = false := by simpa using hyy
            go_wp2_with (first | (go_at_call 24; (with_reducible refine (Hab.out _).mono ?_); rintro e w3 ⟨rfl, hb3⟩; have HAll := Lib.hid (HAll.out.keep hb3); have c0 := keep5 hb3 c0; have c1 := keep5 hb3 c1; have c2 := keep5 hb3 c2; have c3 := keep5 hb3 c3; have c4 := keep5 hb3 c4; have c5 := keep5 hb3 c5; have c6 := keep5 hb3 c6; have c7 := keep5 hb3 c7; have c8 := keep5 hb3 c8; have c9 := keep5 hb3 c9; have c10 := keep5 hb3 c10; have c11 := keep5 hb3 c11; clear hb3) | (go_at_call 24; (with_reducible refine (Hbc.out _).mono ?_); rintro e w3 ⟨rfl, hb3⟩; have HAll := Lib.hid (HAll.out.keep hb3); have c0 := keep5 hb3 c0; have c1 := keep5 hb3 c1; have c2 := keep5 hb3 c2; have c3 := keep5 hb3 c3; have c4 := keep5 hb3 c4; have c5 := keep5 hb3 c5; have c6 := keep5 hb3 c6; have c7 := keep5 hb3 c7; have c8 := keep5 hb3 c8; have c9 := keep5 hb3 c9; have c10 := keep5 hb3 c10; have c11 := keep5 hb3 c11; clear hb3) | (go_at_call 24; (with_reducible refine (Hac.out _).mono ?_); rintro e w3 ⟨rfl, hb3⟩; have HAll := Lib.hid (HAll.out.keep hb3); have c0 := keep5 hb3 c0; have c1 := keep5 hb3 c1; have c2 := keep5 hb3 c2; have c3 := keep5 hb3 c3; have c4 := keep5 hb3 c4; have c5 := keep5 hb3 c5; have c6 := keep5 hb3 c6; have c7 := keep5 hb3 c7; have c8 := keep5 hb3 c8; have c9 := keep5 hb3 c9; have c10 := keep5 hb3 c10; have c11 := keep5 hb3 c11; clear hb3))
            go_meet
            exact ⟨rfl, HAll⟩
        · have tx : decide (x ≤ 0) = false := by simpa using hxx
          go_wp2_with (first | (go_at_call 24; (with_reducible refine (Hab.out _).mono ?_); rintro e w3 ⟨rfl, hb3⟩; have HAll := Lib.hid (HAll.out.keep hb3); have c0 := keep5 hb3 c0; have c1 := keep5 hb3 c1; have c2 := keep5 hb3 c2; have c3 := keep5 hb3 c3; have c4 := keep5 hb3 c4; have c5 := keep5 hb3 c5; have c6 := keep5 hb3 c6; have c7 := keep5 hb3 c7; have c8 := keep5 hb3 c8; have c9 := keep5 hb3 c9; have c10 := keep5 hb3 c10; have c11 := keep5 hb3 c11; clear hb3) | (go_at_call 24; (with_reducible refine (Hbc.out _).mono ?_); rintro e w3 ⟨rfl, hb3⟩; have HAll := Lib.hid (HAll.out.keep hb3); have c0 := keep5 hb3 c0; have c1 := keep5 hb3 c1; have c2 := keep5 hb3 c2; have c3 := keep5 hb3 c3; have c4 := keep5 hb3 c4; have c5 := keep5 hb3 c5; have c6 := keep5 hb3 c6; have c7 := keep5 hb3 c7; have c8 := keep5 hb3 c8; have c9 := keep5 hb3 c9; have c10 := keep5 hb3 c10; have c11 := keep5 hb3 c11; clear hb3) | (go_at_call 24; (with_reducible refine (Hac.out _).mono ?_); rintro e w3 ⟨rfl, hb3⟩; have HAll := Lib.hid (HAll.out.keep hb3); have c0 := keep5 hb3 c0; have c1 := keep5 hb3 c1; have c2 := keep5 hb3 c2; have c3 := keep5 hb3 c3; have c4 := keep5 hb3 c4; have c5 := keep5 hb3 c5; have c6 := keep5 hb3 c6; have c7 := keep5 hb3 c7; have c8 := keep5 hb3 c8; have c9 := keep5 hb3 c9; have c10 := keep5 hb3 c10; have c11 := keep5 hb3 c11; clear hb3))
          go_meet
          exact ⟨rfl, HAll⟩
      case rest =>
        obtain ⟨rfl, HAll⟩ := hcut
        have HBX := Lib.hid HAll.out.2.2.2.1
        have HBW := Lib.hid HAll.out.2.2.2.2
        clear HAll Hab Hba Haa Hbc Hac HZ
        obtain ⟨⟨kx, gx, nx, tx⟩, hX⟩ : ∃ D, datK 7 n0 = D := ⟨_, rfl⟩
        obtain ⟨⟨ky, gy, ny, ty⟩, hY⟩ : ∃ D, datK 7 n1 = D := ⟨_, rfl⟩
        obtain ⟨⟨ku, gu, nu, tu⟩, hU⟩ : ∃ D, datK 8 n0 = D := ⟨_, rfl⟩
        obtain ⟨⟨kv, gv, nv, tv⟩, hV⟩ : ∃ D, datK 8 n1 = D := ⟨_, rfl⟩
        have HDX := Lib.hid (fun w => datum_fld 7 n0 kx nx gx tx hX h0 w)
        have HDY := Lib.hid (fun w => datum_fld 7 n1 ky ny gy ty hY h1 w)
        have HDU := Lib.hid (fun w => datum_fld 8 n0 ku nu gu tu hU h0 w)
        have HDV := Lib.hid (fun w => datum_fld 8 n1 kv nv gv tv hV h1 w)
        go_upto_region 6 with (fail)
        go_cut [8, 9] (fun a b wx => ∃ s t : Nat, a = .pointer (some ⟨s, 0, none⟩) ∧ b = .pointer (some ⟨t, 0, none⟩) ∧ Hid (Q4 g g' k0 k1 k2 n0 n1 n2 s t ⟨kx, gx, nx, tx⟩ ⟨ky, gy, ny, ty⟩ wx) ∧ Hid (Below g w wx))
        case first =>
          refine wp_region_ext (by kernel_rfl) 8 (fun v => (.agg #[.int .i64 k0, .int .i64 k1, .int .i64 k2] :: .agg #[.int .u64 n0, .int .u64 n1, .int .u64 n2] :: .pointer (some ⟨g, 0, none⟩) :: .pointer (some ⟨g', 0, none⟩) :: .bool false :: .pointer (some ⟨p, 0, none⟩) :: .pointer (some ⟨q, 0, none⟩) :: .pointer (some ⟨r, 0, none⟩) :: v 6 :: v 7 :: undef :: undef :: u12 :: u13 :: u14 :: u15 :: u16 :: u17 :: u18 :: u19 :: u20 :: u21 :: u22 :: u23 :: u24 :: u25 :: u26 :: u27 :: u28 :: u29 :: u30 :: u31 :: u32 :: u33 :: u34 :: u35 :: u36 :: u37 :: u38 :: u39 :: u40 :: u41 :: u42 :: u43 :: u44 :: u45 :: u46 :: u47 :: u48 :: u49 :: u50 :: u51 :: u52 :: u53 :: u54 :: u55 :: .bool false :: v 0 :: v 1 :: v 2 :: v 3 :: v 4 :: v 5 :: u63 :: u64 :: u65 :: u66 :: u67 :: u68 :: u69 :: u70 :: u71 :: u72 :: u73 :: u74 :: u75 :: u76 :: u77 :: u78 :: u79 :: u80 :: u81 :: u82 :: u83 :: u84 :: u85 :: u86 :: u87 :: u88 :: u89 :: u90 :: u91 :: u92 :: u93 :: u94 :: u95 :: u96 :: u97 :: u98 :: u99 :: u100 :: u101 :: u102 :: u103 :: u104 :: u105 :: u106 :: u107 :: []).toArray) (fun j => [u57, u58, u59, u60, u61, u62].getD j undef) (fun j => if 6 ≤ j then some (.cells #[.int .i64 0, .bool false, .int .u64 0, .string ⟨#[]⟩] 29 : Obj) else none) (fun j => [.pointer (some ⟨g', 0, none⟩), .int .u64 n0, .agg #[.int .i64 kx, .bool gx, .int .u64 nx, .string tx], .pointer (some ⟨g', 1, none⟩), .int .u64 n1, .agg #[.int .i64 ky, .bool gy, .int .u64 ny, .string ty]].getD j undef)
            (BoxAt g g' k0 k1 k2 n0 n1 n2) (Nat.le_of_ble_eq_true (by kernel_rfl)) (by kernel_rfl) (fun _ _ h hb => h.keep hb) HBX.out (fun j hj v w1 hBx hsz hd => ?_) (fun v w1 hv hdist hBx hb => ?_)
          · obtain ⟨x0, x1, x2, y0, y1, y2⟩ := hBx.cells
            have hj2 : j = 0 ∨ j = 1 ∨ j = 2 ∨ j = 3 ∨ j = 4 ∨ j = 5 ∨ j = 6 ∨ j = 7 := by omega
            rcases hj2 with rfl | rfl | rfl | rfl | rfl | rfl | rfl | rfl
            · skip
              refine wpOp_step (o := _) rfl (fun K' hK => ?_)
              go_simp
              exact hK _ _ ⟨.pointer (some ⟨g', 0, none⟩), rfl, Below.refl _ _, (fun _ => rfl), fun o h => by cases h⟩
            · have e0 : v 0 = .pointer (some ⟨g', 0, none⟩) := hd 0 (List.contains_iff_mem.1 (by kernel_rfl))
              refine wpOp_step (o := _) rfl (fun K' hK => ?_)
              go_simp
              exact hK _ _ ⟨.int .u64 n0, fr_eq (by simp [upd, e0]), Below.refl _ _, (fun _ => rfl), fun o h => by cases h⟩
            · have e1 : v 1 = .int .u64 n0 := hd 1 (List.contains_iff_mem.1 (by kernel_rfl))
              refine wpOp_step (o := _) rfl (fun K' hK => ?_)
              go_simp
              refine (HDX.out _).mono ?_
              rintro e w2 ⟨rfl, hb2⟩
              exact hK _ _ ⟨.agg #[.int .i64 kx, .bool gx, .int .u64 nx, .string tx], fr_eq (by simp [upd, e1]), hb2, fun _ => rfl, fun o h => by cases h⟩
            · skip
              refine wpOp_step (o := _) rfl (fun K' hK => ?_)
              go_simp
              exact hK _ _ ⟨.pointer (some ⟨g', 1, none⟩), rfl, Below.refl _ _, (fun _ => rfl), fun o h => by cases h⟩
            · have e3 : v 3 = .pointer (some ⟨g', 1, none⟩) := hd 3 (List.contains_iff_mem.1 (by kernel_rfl))
              refine wpOp_step (o := _) rfl (fun K' hK => ?_)
              go_simp
              exact hK _ _ ⟨.int .u64 n1, fr_eq (by simp [upd, e3]), Below.refl _ _, (fun _ => rfl), fun o h => by cases h⟩
            · have e4 : v 4 = .int .u64 n1 := hd 4 (List.contains_iff_mem.1 (by kernel_rfl))
              refine wpOp_step (o := _) rfl (fun K' hK => ?_)
              go_simp
              refine (HDY.out _).mono ?_
              rintro e w2 ⟨rfl, hb2⟩
              exact hK _ _ ⟨.agg #[.int .i64 ky, .bool gy, .int .u64 ny, .string ty], fr_eq (by simp [upd, e4]), hb2, fun _ => rfl, fun o h => by cases h⟩
            · skip
              refine wpOp_step (o := _) rfl (fun K' hK => ?_)
              go_simp
              exact hK _ _ ⟨_, rfl, (Below.refl _ _).alloc (Nat.le_refl _) _, (fun h => by cases h), fun o h => by (cases h; exact ⟨rfl, alloc_at _ _⟩)⟩
            · skip
              refine wpOp_step (o := _) rfl (fun K' hK => ?_)
              go_simp
              exact hK _ _ ⟨_, rfl, (Below.refl _ _).alloc (Nat.le_refl _) _, (fun h => by cases h), fun o h => by (cases h; exact ⟨rfl, alloc_at _ _⟩)⟩
          · have e0 : v 0 = .pointer (some ⟨g', 0, none⟩) := hv 0 (by decide)
            have e1 : v 1 = .int .u64 n0 := hv 1 (by decide)
            have e2 : v 2 = .agg #[.int .i64 kx, .bool gx, .int .u64 nx, .string tx] := hv 2 (by decide)
            have e3 : v 3 = .pointer (some ⟨g', 1, none⟩) := hv 3 (by decide)
            have e4 : v 4 = .int .u64 n1 := hv 4 (by decide)
            have e5 : v 5 = .agg #[.int .i64 ky, .bool gy, .int .u64 ny, .string ty] := hv 5 (by decide)
            obtain ⟨s, e6, q6, l6⟩ := hv 6 (by decide)
            obtain ⟨t, e7, q7, l7⟩ := hv 7 (by decide)
            have d01 : s ≠ t := fun h => hdist 6 7 (by decide) (by decide) (by decide) (fun h => by cases h) (fun h => by cases h) (by rw [e6, e7, h])
            clear hv hdist
            refine wpAny_of_held (S := fun _ => True) _ _ _ _ ?_
            simp only [e0, e1, e2, e3, e4, e5, e6, e7]
            clear e0 e1 e2 e3 e4 e5 e6 e7
            have hgl := lt_of_block HBX.out.1
            have hgl' := lt_of_block HBX.out.2
            have HB0 := Lib.hid hb
            have HX0 := Lib.hid hBx
            have HQ0_0 := Lib.hid q6
            have HQ1_0 := Lib.hid q7
            clear hb hBx q6 q7
            have f0 := free_at (j := 0) HQ0_0.out
            have f1 := free_at (j := 1) HQ0_0.out
            have f2 := free_at (j := 2) HQ0_0.out
            have f3 := free_at (j := 3) HQ0_0.out
            have c0 := cell_at (j := 0) (v := .int .i64 0) HQ0_0.out rfl
            have c1 := cell_at (j := 1) (v := .bool false) HQ0_0.out rfl
            have c2 := cell_at (j := 2) (v := .int .u64 0) HQ0_0.out rfl
            have c3 := cell_at (j := 3) (v := .string ⟨#[]⟩) HQ0_0.out rfl
            have HS := Lib.hid (@store_dat w1 s kx nx gx tx HQ0_0.out)
            refine wpAnyH_ready (fuel := 1) (rs := [8]) (by kernel_rfl) (by simp) ?_
            refine AllReadyH.cons (o := _) rfl (fun K hK => ?_) AllReadyH.nil
            go_simp
            refine hK.out _ _ trivial (fun _ => ?_)
            clear hK K f0 f1 f2 f3 c0 c1 c2 c3
            generalize hw0 : (((World.setCell w1 ⟨s, 0, none⟩ (.int .i64 kx)).setCell ⟨s, 1, none⟩ (.bool gx)).setCell ⟨s, 2, none⟩ (.int .u64 nx)).setCell ⟨s, 3, none⟩ (.string tx) = ws1 at *
            have HB1 := Lib.hid (HS.out.2.2.2 _ _ HB0.out l6)
            have HX1 := Lib.hid (HX0.out.set HS.out.2.1 (by omega))
            have HQ0_1 := Lib.hid HS.out.1
            have HQ1_1 := Lib.hid ((HS.out.2.1 _ (by omega)).trans HQ1_0.out)
            clear HS HB0 HX0 HQ0_0 HQ1_0 hw0
            have f0 := free_at (j := 0) HQ1_1.out
            have f1 := free_at (j := 1) HQ1_1.out
            have f2 := free_at (j := 2) HQ1_1.out
            have f3 := free_at (j := 3) HQ1_1.out
            have c0 := cell_at (j := 0) (v := .int .i64 0) HQ1_1.out rfl
            have c1 := cell_at (j := 1) (v := .bool false) HQ1_1.out rfl
            have c2 := cell_at (j := 2) (v := .int .u64 0) HQ1_1.out rfl
            have c3 := cell_at (j := 3) (v := .string ⟨#[]⟩) HQ1_1.out rfl
            have HS := Lib.hid (@store_dat ws1 t ky ny gy ty HQ1_1.out)
            refine wpAnyH_ready (fuel := 0) (rs := [9]) (by kernel_rfl) (by simp) ?_
            refine AllReadyH.cons (o := _) rfl (fun K hK => ?_) AllReadyH.nil
            go_simp
            refine hK.out _ _ trivial (fun _ => ?_)
            clear hK K f0 f1 f2 f3 c0 c1 c2 c3
            generalize hw1 : (((World.setCell ws1 ⟨t, 0, none⟩ (.int .i64 ky)).setCell ⟨t, 1, none⟩ (.bool gy)).setCell ⟨t, 2, none⟩ (.int .u64 ny)).setCell ⟨t, 3, none⟩ (.string ty) = ws2 at *
            have HB2 := Lib.hid (HS.out.2.2.2 _ _ HB1.out l7)
            have HX2 := Lib.hid (HX1.out.set HS.out.2.1 (by omega))
            have HQ0_2 := Lib.hid ((HS.out.2.1 _ (by omega)).trans HQ0_1.out)
            have HQ1_2 := Lib.hid HS.out.1
            clear HS HB1 HX1 HQ0_1 HQ1_1 hw1
            refine wpAnyH_done (by kernel_rfl) ?_ _
            go_wp2_with fail
            go_meet
            exact ⟨s, t, rfl, rfl, Lib.hid ⟨HQ0_2.out, HQ1_2.out, HX2.out⟩, Lib.hid (HBW.out.trans (HB2.out.mono (Nat.le_of_lt hgl)))⟩
        case rest =>
          obtain ⟨s, t, rfl, rfl, HB4, HBW2⟩ := hcut
          clear HBX HBW HDX HDY
          go_upto_region 7 with (fail)
          go_cut [10, 11] (fun a b wx => ∃ u v : Nat, a = .pointer (some ⟨u, 0, none⟩) ∧ b = .pointer (some ⟨v, 0, none⟩) ∧ Hid (Q6 g g' k0 k1 k2 n0 n1 n2 s t u v ⟨kx, gx, nx, tx⟩ ⟨ky, gy, ny, ty⟩ ⟨ku, gu, nu, tu⟩ ⟨kv, gv, nv, tv⟩ wx) ∧ Hid (Below g w wx))
          case first =>
            refine wp_region_ext (by kernel_rfl) 8 (fun v => (.agg #[.int .i64 k0, .int .i64 k1, .int .i64 k2] :: .agg #[.int .u64 n0, .int .u64 n1, .int .u64 n2] :: .pointer (some ⟨g, 0, none⟩) :: .pointer (some ⟨g', 0, none⟩) :: .bool false :: .pointer (some ⟨p, 0, none⟩) :: .pointer (some ⟨q, 0, none⟩) :: .pointer (some ⟨r, 0, none⟩) :: .pointer (some ⟨s, 0, none⟩) :: .pointer (some ⟨t, 0, none⟩) :: v 6 :: v 7 :: u12 :: u13 :: u14 :: u15 :: u16 :: u17 :: u18 :: u19 :: u20 :: u21 :: u22 :: u23 :: u24 :: u25 :: u26 :: u27 :: u28 :: u29 :: u30 :: u31 :: u32 :: u33 :: u34 :: u35 :: u36 :: u37 :: u38 :: u39 :: u40 :: u41 :: u42 :: u43 :: u44 :: u45 :: u46 :: u47 :: u48 :: u49 :: u50 :: u51 :: u52 :: u53 :: u54 :: u55 :: u56 :: u57 :: u58 :: u59 :: u60 :: u61 :: u62 :: v 0 :: v 1 :: v 2 :: v 3 :: v 4 :: v 5 :: u69 :: u70 :: u71 :: u72 :: u73 :: u74 :: u75 :: u76 :: u77 :: u78 :: u79 :: u80 :: u81 :: u82 :: u83 :: u84 :: u85 :: u86 :: u87 :: u88 :: u89 :: u90 :: u91 :: u92 :: u93 :: u94 :: u95 :: u96 :: u97 :: u98 :: u99 :: u100 :: u101 :: u102 :: u103 :: u104 :: u105 :: u106 :: u107 :: []).toArray) (fun j => [u63, u64, u65, u66, u67, u68].getD j undef) (fun j => if 6 ≤ j then some (.cells #[.int .i64 0, .bool false, .int .u64 0, .string ⟨#[]⟩] 29 : Obj) else none) (fun j => [.pointer (some ⟨g', 0, none⟩), .int .u64 n0, .agg #[.int .i64 ku, .bool gu, .int .u64 nu, .string tu], .pointer (some ⟨g', 1, none⟩), .int .u64 n1, .agg #[.int .i64 kv, .bool gv, .int .u64 nv, .string tv]].getD j undef)
              (Q4 g g' k0 k1 k2 n0 n1 n2 s t ⟨kx, gx, nx, tx⟩ ⟨ky, gy, ny, ty⟩) (Nat.le_of_ble_eq_true (by kernel_rfl)) (by kernel_rfl) (fun _ _ h hb => h.keep hb) HB4.out (fun j hj v w1 hBx hsz hd => ?_) (fun v w1 hv hdist hBx hb => ?_)
            · obtain ⟨x0, x1, x2, y0, y1, y2⟩ := hBx.2.2.cells
              have hj2 : j = 0 ∨ j = 1 ∨ j = 2 ∨ j = 3 ∨ j = 4 ∨ j = 5 ∨ j = 6 ∨ j = 7 := by omega
              rcases hj2 with rfl | rfl | rfl | rfl | rfl | rfl | rfl | rfl
              · skip
                refine wpOp_step (o := _) rfl (fun K' hK => ?_)
                go_simp
                exact hK _ _ ⟨.pointer (some ⟨g', 0, none⟩), rfl, Below.refl _ _, (fun _ => rfl), fun o h => by cases h⟩
              · have e0 : v 0 = .pointer (some ⟨g', 0, none⟩) := hd 0 (List.contains_iff_mem.1 (by kernel_rfl))
                refine wpOp_step (o := _) rfl (fun K' hK => ?_)
                go_simp
                exact hK _ _ ⟨.int .u64 n0, fr_eq (by simp [upd, e0]), Below.refl _ _, (fun _ => rfl), fun o h => by cases h⟩
              · have e1 : v 1 = .int .u64 n0 := hd 1 (List.contains_iff_mem.1 (by kernel_rfl))
                refine wpOp_step (o := _) rfl (fun K' hK => ?_)
                go_simp
                refine (HDU.out _).mono ?_
                rintro e w2 ⟨rfl, hb2⟩
                exact hK _ _ ⟨.agg #[.int .i64 ku, .bool gu, .int .u64 nu, .string tu], fr_eq (by simp [upd, e1]), hb2, fun _ => rfl, fun o h => by cases h⟩
              · skip
                refine wpOp_step (o := _) rfl (fun K' hK => ?_)
                go_simp
                exact hK _ _ ⟨.pointer (some ⟨g', 1, none⟩), rfl, Below.refl _ _, (fun _ => rfl), fun o h => by cases h⟩
              · have e3 : v 3 = .pointer (some ⟨g', 1, none⟩) := hd 3 (List.contains_iff_mem.1 (by kernel_rfl))
                refine wpOp_step (o := _) rfl (fun K' hK => ?_)
                go_simp
                exact hK _ _ ⟨.int .u64 n1, fr_eq (by simp [upd, e3]), Below.refl _ _, (fun _ => rfl), fun o h => by cases h⟩
              · have e4 : v 4 = .int .u64 n1 := hd 4 (List.contains_iff_mem.1 (by kernel_rfl))
                refine wpOp_step (o := _) rfl (fun K' hK => ?_)
                go_simp
                refine (HDV.out _).mono ?_
                rintro e w2 ⟨rfl, hb2⟩
                exact hK _ _ ⟨.agg #[.int .i64 kv, .bool gv, .int .u64 nv, .string tv], fr_eq (by simp [upd, e4]), hb2, fun _ => rfl, fun o h => by cases h⟩
              · skip
                refine wpOp_step (o := _) rfl (fun K' hK => ?_)
                go_simp
                exact hK _ _ ⟨_, rfl, (Below.refl _ _).alloc (Nat.le_refl _) _, (fun h => by cases h), fun o h => by (cases h; exact ⟨rfl, alloc_at _ _⟩)⟩
              · skip
                refine wpOp_step (o := _) rfl (fun K' hK => ?_)
                go_simp
                exact hK _ _ ⟨_, rfl, (Below.refl _ _).alloc (Nat.le_refl _) _, (fun h => by cases h), fun o h => by (cases h; exact ⟨rfl, alloc_at _ _⟩)⟩
            · have e0 : v 0 = .pointer (some ⟨g', 0, none⟩) := hv 0 (by decide)
              have e1 : v 1 = .int .u64 n0 := hv 1 (by decide)
              have e2 : v 2 = .agg #[.int .i64 ku, .bool gu, .int .u64 nu, .string tu] := hv 2 (by decide)
              have e3 : v 3 = .pointer (some ⟨g', 1, none⟩) := hv 3 (by decide)
              have e4 : v 4 = .int .u64 n1 := hv 4 (by decide)
              have e5 : v 5 = .agg #[.int .i64 kv, .bool gv, .int .u64 nv, .string tv] := hv 5 (by decide)
              obtain ⟨m, e6, q6, l6⟩ := hv 6 (by decide)
              obtain ⟨o, e7, q7, l7⟩ := hv 7 (by decide)
              have d01 : m ≠ o := fun h => hdist 6 7 (by decide) (by decide) (by decide) (fun h => by cases h) (fun h => by cases h) (by rw [e6, e7, h])
              clear hv hdist
              refine wpAny_of_held (S := fun _ => True) _ _ _ _ ?_
              simp only [e0, e1, e2, e3, e4, e5, e6, e7]
              clear e0 e1 e2 e3 e4 e5 e6 e7
              have hgl := lt_of_block HB4.out.2.2.1
              have hgl' := lt_of_block HB4.out.2.2.2
              have hsl := lt_of_block HB4.out.1
              have htl := lt_of_block HB4.out.2.1
              have HB0 := Lib.hid hb
              have HX0 := Lib.hid hBx
              have HQ0_0 := Lib.hid q6
              have HQ1_0 := Lib.hid q7
              clear hb hBx q6 q7
              have f0 := free_at (j := 0) HQ0_0.out
              have f1 := free_at (j := 1) HQ0_0.out
              have f2 := free_at (j := 2) HQ0_0.out
              have f3 := free_at (j := 3) HQ0_0.out
              have c0 := cell_at (j := 0) (v := .int .i64 0) HQ0_0.out rfl
              have c1 := cell_at (j := 1) (v := .bool false) HQ0_0.out rfl
              have c2 := cell_at (j := 2) (v := .int .u64 0) HQ0_0.out rfl
              have c3 := cell_at (j := 3) (v := .string ⟨#[]⟩) HQ0_0.out rfl
              have HS := Lib.hid (@store_dat w1 m ku nu gu tu HQ0_0.out)
              refine wpAnyH_ready (fuel := 1) (rs := [8]) (by kernel_rfl) (by simp) ?_
              refine AllReadyH.cons (o := _) rfl (fun K hK => ?_) AllReadyH.nil
              go_simp
              refine hK.out _ _ trivial (fun _ => ?_)
              clear hK K f0 f1 f2 f3 c0 c1 c2 c3
              generalize hw0 : (((World.setCell w1 ⟨m, 0, none⟩ (.int .i64 ku)).setCell ⟨m, 1, none⟩ (.bool gu)).setCell ⟨m, 2, none⟩ (.int .u64 nu)).setCell ⟨m, 3, none⟩ (.string tu) = ws1 at *
              have HB1 := Lib.hid (HS.out.2.2.2 _ _ HB0.out l6)
              have HX1 := Lib.hid (HX0.out.set HS.out.2.1 (by omega))
              have HQ0_1 := Lib.hid HS.out.1
              have HQ1_1 := Lib.hid ((HS.out.2.1 _ (by omega)).trans HQ1_0.out)
              clear HS HB0 HX0 HQ0_0 HQ1_0 hw0
              have f0 := free_at (j := 0) HQ1_1.out
              have f1 := free_at (j := 1) HQ1_1.out
              have f2 := free_at (j := 2) HQ1_1.out
              have f3 := free_at (j := 3) HQ1_1.out
              have c0 := cell_at (j := 0) (v := .int .i64 0) HQ1_1.out rfl
              have c1 := cell_at (j := 1) (v := .bool false) HQ1_1.out rfl
              have c2 := cell_at (j := 2) (v := .int .u64 0) HQ1_1.out rfl
              have c3 := cell_at (j := 3) (v := .string ⟨#[]⟩) HQ1_1.out rfl
              have HS := Lib.hid (@store_dat ws1 o kv nv gv tv HQ1_1.out)
              refine wpAnyH_ready (fuel := 0) (rs := [9]) (by kernel_rfl) (by simp) ?_
              refine AllReadyH.cons (o := _) rfl (fun K hK => ?_) AllReadyH.nil
              go_simp
              refine hK.out _ _ trivial (fun _ => ?_)
              clear hK K f0 f1 f2 f3 c0 c1 c2 c3
              generalize hw1 : (((World.setCell ws1 ⟨o, 0, none⟩ (.int .i64 kv)).setCell ⟨o, 1, none⟩ (.bool gv)).setCell ⟨o, 2, none⟩ (.int .u64 nv)).setCell ⟨o, 3, none⟩ (.string tv) = ws2 at *
              have HB2 := Lib.hid (HS.out.2.2.2 _ _ HB1.out l7)
              have HX2 := Lib.hid (HX1.out.set HS.out.2.1 (by omega))
              have HQ0_2 := Lib.hid ((HS.out.2.1 _ (by omega)).trans HQ0_1.out)
              have HQ1_2 := Lib.hid HS.out.1
              clear HS HB1 HX1 HQ0_1 HQ1_1 hw1
              refine wpAnyH_done (by kernel_rfl) ?_ _
              go_wp2_with fail
              go_meet
              exact ⟨m, o, rfl, rfl, Lib.hid ⟨HQ0_2.out, HQ1_2.out, HX2.out⟩, Lib.hid (HBW2.out.trans (HB2.out.mono (Nat.le_of_lt hgl)))⟩
          case rest =>
            obtain ⟨u, v', rfl, rfl, HB6, HBW3⟩ := hcut
            clear HB4 HBW2 HDU HDV
            have b0 := bounds_u64 h0
            have b1 := bounds_u64 h1
            have hcx := fun w => cmp_fld hX hY w
            have hcu := fun w => cmp_fld hU hV w
            have hcz := fun w => cmp_fld hX hV w
            have mx := cmp77 b0.1 b0.2 b1.1 b1.2
            have mu := cmp88 b0.1 b0.2 b1.1 b1.2
            have mz := cmp78 b0.1 b0.2 b1.1 b1.2
            rw [hX, hY] at mx
            rw [hU, hV] at mu
            rw [hX, hV] at mz
            generalize cmpD ⟨kx, gx, nx, tx⟩ ⟨ky, gy, ny, ty⟩ = X at *
            generalize cmpD ⟨ku, gu, nu, tu⟩ ⟨kv, gv, nv, tv⟩ = U at *
            generalize cmpD ⟨kx, gx, nx, tx⟩ ⟨kv, gv, nv, tv⟩ = Z at *
            have HCX := Lib.hid hcx
            have HCU := Lib.hid hcu
            have HCZ := Lib.hid hcz
            obtain ⟨bx, hbx⟩ : ∃ b, decide (X < 0) = b := ⟨_, rfl⟩
            have hbx2 : decide (wrap64 n0 < wrap64 n1) = bx := by rw [← hbx]; exact decide_eq_decide.2 mx.symm
            obtain ⟨bu, hbu⟩ : ∃ b, decide (U < 0) = b := ⟨_, rfl⟩
            have hbu2 : decide (n0 < n1) = bu := by rw [← hbu]; exact decide_eq_decide.2 mu.symm
            have hgl := lt_of_block HB6.out.2.2.2.2.1
            clear hcx hcu hcz mx mu hX hY hU hV hA hB hC hx1 hx2 b0 b1 h0 h1 h2
            have hw0 : IntKind.i64.wrap n0 = wrap64 n0 := IntWalk.i64_left n0
            have hw1 : IntKind.i64.wrap n1 = wrap64 n1 := IntWalk.i64_left n1
            have HW0 := Lib.hid hw0
            have HW1 := Lib.hid hw1
            clear hw0 hw1
            go_upto_region 8 with (fail)
            by_cases hneg : wrap64 n0 < 0
            · have hz1 : decide (Z < 0) = true := by simpa using mz hneg
              have hn1 : decide (0 ≤ wrap64 n0) = false := by simp; omega
              clear mz
              refine wp_region_ext (by kernel_rfl) 40 (fun v => (.agg #[.int .i64 k0, .int .i64 k1, .int .i64 k2] :: .agg #[.int .u64 n0, .int .u64 n1, .int .u64 n2] :: .pointer (some ⟨g, 0, none⟩) :: .pointer (some ⟨g', 0, none⟩) :: v 39 :: .pointer (some ⟨p, 0, none⟩) :: .pointer (some ⟨q, 0, none⟩) :: .pointer (some ⟨r, 0, none⟩) :: .pointer (some ⟨s, 0, none⟩) :: .pointer (some ⟨t, 0, none⟩) :: .pointer (some ⟨u, 0, none⟩) :: .pointer (some ⟨v', 0, none⟩) :: u12 :: u13 :: u14 :: u15 :: u16 :: u17 :: u18 :: u19 :: u20 :: u21 :: u22 :: u23 :: u24 :: u25 :: u26 :: u27 :: u28 :: u29 :: u30 :: u31 :: u32 :: u33 :: u34 :: u35 :: u36 :: u37 :: u38 :: u39 :: u40 :: u41 :: u42 :: u43 :: u44 :: u45 :: u46 :: u47 :: u48 :: u49 :: u50 :: u51 :: u52 :: u53 :: u54 :: u55 :: u56 :: u57 :: u58 :: u59 :: u60 :: u61 :: u62 :: u63 :: u64 :: u65 :: u66 :: u67 :: u68 :: v 0 :: v 1 :: v 2 :: v 3 :: v 4 :: v 5 :: v 6 :: v 7 :: v 8 :: v 9 :: v 10 :: v 11 :: v 12 :: v 13 :: v 14 :: v 15 :: v 16 :: v 17 :: v 18 :: v 19 :: v 20 :: v 21 :: v 22 :: v 23 :: v 24 :: v 25 :: v 26 :: v 27 :: v 28 :: v 29 :: v 30 :: v 31 :: v 32 :: v 33 :: v 34 :: v 35 :: v 36 :: v 37 :: v 38 :: []).toArray) (fun j => [u69, u70, u71, u72, u73, u74, u75, u76, u77, u78, u79, u80, u81, u82, u83, u84, u85, u86, u87, u88, u89, u90, u91, u92, u93, u94, u95, u96, u97, u98, u99, u100, u101, u102, u103, u104, u105, u106, u107, .bool false].getD j undef) (fun _ => none) (fun j => [.agg #[.int .i64 kx, .bool gx, .int .u64 nx, .string tx], .agg #[.int .i64 ky, .bool gy, .int .u64 ny, .string ty], .int .i64 X, .bool bx, .pointer (some ⟨g', 0, none⟩), .int .u64 n0, .int .i64 (wrap64 n0), .pointer (some ⟨g', 1, none⟩), .int .u64 n1, .int .i64 (wrap64 n1), .bool bx, .bool true, .bool true, .agg #[.int .i64 ku, .bool gu, .int .u64 nu, .string tu], .agg #[.int .i64 kv, .bool gv, .int .u64 nv, .string tv], .int .i64 U, .bool bu, .pointer (some ⟨g', 0, none⟩), .int .u64 n0, .pointer (some ⟨g', 1, none⟩), .int .u64 n1, .bool bu, .bool true, .bool true, .bool true, .pointer (some ⟨g', 0, none⟩), .int .u64 n0, .int .i64 (wrap64 n0), .bool false, .bool false, .agg #[.int .i64 kx, .bool gx, .int .u64 nx, .string tx], .agg #[.int .i64 kv, .bool gv, .int .u64 nv, .string tv], .int .i64 Z, .bool true, .bool true, .bool true, .bool true, .bool true, .bool true, .bool true].getD j undef)
                (Q6 g g' k0 k1 k2 n0 n1 n2 s t u v' ⟨kx, gx, nx, tx⟩ ⟨ky, gy, ny, ty⟩ ⟨ku, gu, nu, tu⟩ ⟨kv, gv, nv, tv⟩) (Nat.le_of_ble_eq_true (by kernel_rfl)) (by kernel_rfl) (fun _ _ h hb => h.keep hb) HB6.out (fun j hj v w1 hBx hsz hd => ?_) (fun v w1 hv hdist hBx hb => ?_)
              · obtain ⟨a0, a1, a2, a3⟩ := hBx.1.cells; obtain ⟨b0, b1, b2, b3⟩ := hBx.2.1.cells; obtain ⟨c0, c1, c2, c3⟩ := hBx.2.2.1.cells; obtain ⟨d0, d1, d2, d3⟩ := hBx.2.2.2.1.cells; obtain ⟨x0, x1, x2, y0, y1, y2⟩ := hBx.2.2.2.2.cells
                have hj2 : j = 0 ∨ j = 1 ∨ j = 2 ∨ j = 3 ∨ j = 4 ∨ j = 5 ∨ j = 6 ∨ j = 7 ∨ j = 8 ∨ j = 9 ∨ j = 10 ∨ j = 11 ∨ j = 12 ∨ j = 13 ∨ j = 14 ∨ j = 15 ∨ j = 16 ∨ j = 17 ∨ j = 18 ∨ j = 19 ∨ j = 20 ∨ j = 21 ∨ j = 22 ∨ j = 23 ∨ j = 24 ∨ j = 25 ∨ j = 26 ∨ j = 27 ∨ j = 28 ∨ j = 29 ∨ j = 30 ∨ j = 31 ∨ j = 32 ∨ j = 33 ∨ j = 34 ∨ j = 35 ∨ j = 36 ∨ j = 37 ∨ j = 38 ∨ j = 39 := by omega
                rcases hj2 with rfl | rfl | rfl | rfl | rfl | rfl | rfl | rfl | rfl | rfl | rfl | rfl | rfl | rfl | rfl | rfl | rfl | rfl | rfl | rfl | rfl | rfl | rfl | rfl | rfl | rfl | rfl | rfl | rfl | rfl | rfl | rfl | rfl | rfl | rfl | rfl | rfl | rfl | rfl | rfl
                · skip
                  refine wpOp_step (o := _) rfl (fun K' hK => ?_)
                  go_simp
                  exact hK _ _ ⟨.agg #[.int .i64 kx, .bool gx, .int .u64 nx, .string tx], rfl, Below.refl _ _, (fun _ => rfl), fun o h => by cases h⟩
                · skip
                  refine wpOp_step (o := _) rfl (fun K' hK => ?_)
                  go_simp
                  exact hK _ _ ⟨.agg #[.int .i64 ky, .bool gy, .int .u64 ny, .string ty], rfl, Below.refl _ _, (fun _ => rfl), fun o h => by cases h⟩
                · have e0 : v 0 = .agg #[.int .i64 kx, .bool gx, .int .u64 nx, .string tx] := hd 0 (List.contains_iff_mem.1 (by kernel_rfl)); have e1 : v 1 = .agg #[.int .i64 ky, .bool gy, .int .u64 ny, .string ty] := hd 1 (List.contains_iff_mem.1 (by kernel_rfl))
                  refine wpOp_step (o := _) rfl (fun K' hK => ?_)
                  go_simp
                  refine (HCX.out _).mono ?_
                  rintro e w2 ⟨rfl, hb2⟩
                  exact hK _ _ ⟨.int .i64 X, fr_eq (by simp [upd, e0, e1]), hb2, fun _ => rfl, fun o h => by cases h⟩
                · have e2 : v 2 = .int .i64 X := hd 2 (List.contains_iff_mem.1 (by kernel_rfl))
                  refine wpOp_step (o := _) rfl (fun K' hK => ?_)
                  go_simp
                  exact hK _ _ ⟨.bool bx, fr_eq (by simp [upd, e2]), Below.refl _ _, (fun _ => rfl), fun o h => by cases h⟩
                · skip
                  refine wpOp_step (o := _) rfl (fun K' hK => ?_)
                  go_simp
                  exact hK _ _ ⟨.pointer (some ⟨g', 0, none⟩), rfl, Below.refl _ _, (fun _ => rfl), fun o h => by cases h⟩
                · have e4 : v 4 = .pointer (some ⟨g', 0, none⟩) := hd 4 (List.contains_iff_mem.1 (by kernel_rfl))
                  refine wpOp_step (o := _) rfl (fun K' hK => ?_)
                  go_simp
                  exact hK _ _ ⟨.int .u64 n0, fr_eq (by simp [upd, e4]), Below.refl _ _, (fun _ => rfl), fun o h => by cases h⟩
                · have e5 : v 5 = .int .u64 n0 := hd 5 (List.contains_iff_mem.1 (by kernel_rfl))
                  refine wpOp_step (o := _) rfl (fun K' hK => ?_)
                  go_simp
                  exact hK _ _ ⟨.int .i64 (wrap64 n0), fr_eq (by simp [upd, e5, HW0.out]), Below.refl _ _, (fun _ => rfl), fun o h => by cases h⟩
                · skip
                  refine wpOp_step (o := _) rfl (fun K' hK => ?_)
                  go_simp
                  exact hK _ _ ⟨.pointer (some ⟨g', 1, none⟩), rfl, Below.refl _ _, (fun _ => rfl), fun o h => by cases h⟩
                · have e7 : v 7 = .pointer (some ⟨g', 1, none⟩) := hd 7 (List.contains_iff_mem.1 (by kernel_rfl))
                  refine wpOp_step (o := _) rfl (fun K' hK => ?_)
                  go_simp
                  exact hK _ _ ⟨.int .u64 n1, fr_eq (by simp [upd, e7]), Below.refl _ _, (fun _ => rfl), fun o h => by cases h⟩
                · have e8 : v 8 = .int .u64 n1 := hd 8 (List.contains_iff_mem.1 (by kernel_rfl))
                  refine wpOp_step (o := _) rfl (fun K' hK => ?_)
                  go_simp
                  exact hK _ _ ⟨.int .i64 (wrap64 n1), fr_eq (by simp [upd, e8, HW1.out]), Below.refl _ _, (fun _ => rfl), fun o h => by cases h⟩
                · have e6 : v 6 = .int .i64 (wrap64 n0) := hd 6 (List.contains_iff_mem.1 (by kernel_rfl)); have e9 : v 9 = .int .i64 (wrap64 n1) := hd 9 (List.contains_iff_mem.1 (by kernel_rfl))
                  refine wpOp_step (o := _) rfl (fun K' hK => ?_)
                  go_simp
                  exact hK _ _ ⟨.bool bx, fr_eq (by simp [upd, e6, e9]), Below.refl _ _, (fun _ => rfl), fun o h => by cases h⟩
                · have e3 : v 3 = .bool bx := hd 3 (List.contains_iff_mem.1 (by kernel_rfl)); have e10 : v 10 = .bool bx := hd 10 (List.contains_iff_mem.1 (by kernel_rfl))
                  refine wpOp_step (o := _) rfl (fun K' hK => ?_)
                  go_simp
                  exact hK _ _ ⟨.bool true, fr_eq (by simp [upd, e3, e10]), Below.refl _ _, (fun _ => rfl), fun o h => by cases h⟩
                · have e11 : v 11 = .bool true := hd 11 (List.contains_iff_mem.1 (by kernel_rfl))
                  refine wpOp_step (o := _) rfl (fun K' hK => ?_)
                  go_simp
                  exact hK _ _ ⟨.bool true, fr_eq (by simp [upd, e11]), Below.refl _ _, (fun _ => rfl), fun o h => by cases h⟩
                · have e12 : v 12 = .bool true := hd 12 (List.contains_iff_mem.1 (by kernel_rfl))
                  refine wpOp_step (o := _) rfl (fun K' hK => ?_)
                  go_simp
                  exact hK _ _ ⟨.agg #[.int .i64 ku, .bool gu, .int .u64 nu, .string tu], fr_eq (by simp [upd, e12]), Below.refl _ _, (fun _ => rfl), fun o h => by cases h⟩
                · have e12 : v 12 = .bool true := hd 12 (List.contains_iff_mem.1 (by kernel_rfl))
                  refine wpOp_step (o := _) rfl (fun K' hK => ?_)
                  go_simp
                  exact hK _ _ ⟨.agg #[.int .i64 kv, .bool gv, .int .u64 nv, .string tv], fr_eq (by simp [upd, e12]), Below.refl _ _, (fun _ => rfl), fun o h => by cases h⟩
                · have e13 : v 13 = .agg #[.int .i64 ku, .bool gu, .int .u64 nu, .string tu] := hd 13 (List.contains_iff_mem.1 (by kernel_rfl)); have e14 : v 14 = .agg #[.int .i64 kv, .bool gv, .int .u64 nv, .string tv] := hd 14 (List.contains_iff_mem.1 (by kernel_rfl)); have e12 : v 12 = .bool true := hd 12 (List.contains_iff_mem.1 (by kernel_rfl))
                  refine wpOp_step (o := _) rfl (fun K' hK => ?_)
                  go_simp
                  refine (HCU.out _).mono ?_
                  rintro e w2 ⟨rfl, hb2⟩
                  exact hK _ _ ⟨.int .i64 U, fr_eq (by simp [upd, e13, e14, e12]), hb2, fun _ => rfl, fun o h => by cases h⟩
                · have e15 : v 15 = .int .i64 U := hd 15 (List.contains_iff_mem.1 (by kernel_rfl)); have e12 : v 12 = .bool true := hd 12 (List.contains_iff_mem.1 (by kernel_rfl))
                  refine wpOp_step (o := _) rfl (fun K' hK => ?_)
                  go_simp
                  exact hK _ _ ⟨.bool bu, fr_eq (by simp [upd, e15, e12]), Below.refl _ _, (fun _ => rfl), fun o h => by cases h⟩
                · have e12 : v 12 = .bool true := hd 12 (List.contains_iff_mem.1 (by kernel_rfl))
                  refine wpOp_step (o := _) rfl (fun K' hK => ?_)
                  go_simp
                  exact hK _ _ ⟨.pointer (some ⟨g', 0, none⟩), fr_eq (by simp [upd, e12]), Below.refl _ _, (fun _ => rfl), fun o h => by cases h⟩
                · have e17 : v 17 = .pointer (some ⟨g', 0, none⟩) := hd 17 (List.contains_iff_mem.1 (by kernel_rfl)); have e12 : v 12 = .bool true := hd 12 (List.contains_iff_mem.1 (by kernel_rfl))
                  refine wpOp_step (o := _) rfl (fun K' hK => ?_)
                  go_simp
                  exact hK _ _ ⟨.int .u64 n0, fr_eq (by simp [upd, e17, e12]), Below.refl _ _, (fun _ => rfl), fun o h => by cases h⟩
                · have e12 : v 12 = .bool true := hd 12 (List.contains_iff_mem.1 (by kernel_rfl))
                  refine wpOp_step (o := _) rfl (fun K' hK => ?_)
                  go_simp
                  exact hK _ _ ⟨.pointer (some ⟨g', 1, none⟩), fr_eq (by simp [upd, e12]), Below.refl _ _, (fun _ => rfl), fun o h => by cases h⟩
                · have e19 : v 19 = .pointer (some ⟨g', 1, none⟩) := hd 19 (List.contains_iff_mem.1 (by kernel_rfl)); have e12 : v 12 = .bool true := hd 12 (List.contains_iff_mem.1 (by kernel_rfl))
                  refine wpOp_step (o := _) rfl (fun K' hK => ?_)
                  go_simp
                  exact hK _ _ ⟨.int .u64 n1, fr_eq (by simp [upd, e19, e12]), Below.refl _ _, (fun _ => rfl), fun o h => by cases h⟩
                · have e18 : v 18 = .int .u64 n0 := hd 18 (List.contains_iff_mem.1 (by kernel_rfl)); have e20 : v 20 = .int .u64 n1 := hd 20 (List.contains_iff_mem.1 (by kernel_rfl)); have e12 : v 12 = .bool true := hd 12 (List.contains_iff_mem.1 (by kernel_rfl))
                  refine wpOp_step (o := _) rfl (fun K' hK => ?_)
                  go_simp
                  exact hK _ _ ⟨.bool bu, fr_eq (by simp [upd, e18, e20, e12]), Below.refl _ _, (fun _ => rfl), fun o h => by cases h⟩
                · have e16 : v 16 = .bool bu := hd 16 (List.contains_iff_mem.1 (by kernel_rfl)); have e21 : v 21 = .bool bu := hd 21 (List.contains_iff_mem.1 (by kernel_rfl)); have e12 : v 12 = .bool true := hd 12 (List.contains_iff_mem.1 (by kernel_rfl))
                  refine wpOp_step (o := _) rfl (fun K' hK => ?_)
                  go_simp
                  exact hK _ _ ⟨.bool true, fr_eq (by simp [upd, e16, e21, e12]), Below.refl _ _, (fun _ => rfl), fun o h => by cases h⟩
                · have e12 : v 12 = .bool true := hd 12 (List.contains_iff_mem.1 (by kernel_rfl)); have e22 : v 22 = .bool true := hd 22 (List.contains_iff_mem.1 (by kernel_rfl))
                  refine wpOp_step (o := _) rfl (fun K' hK => ?_)
                  go_simp
                  exact hK _ _ ⟨.bool true, fr_eq (by simp [upd, e12, e22]), Below.refl _ _, (fun _ => rfl), fun o h => by cases h⟩
                · have e23 : v 23 = .bool true := hd 23 (List.contains_iff_mem.1 (by kernel_rfl))
                  refine wpOp_step (o := _) rfl (fun K' hK => ?_)
                  go_simp
                  exact hK _ _ ⟨.bool true, fr_eq (by simp [upd, e23]), Below.refl _ _, (fun _ => rfl), fun o h => by cases h⟩
                · have e24 : v 24 = .bool true := hd 24 (List.contains_iff_mem.1 (by kernel_rfl))
                  refine wpOp_step (o := _) rfl (fun K' hK => ?_)
                  go_simp
                  exact hK _ _ ⟨.pointer (some ⟨g', 0, none⟩), fr_eq (by simp [upd, e24]), Below.refl _ _, (fun _ => rfl), fun o h => by cases h⟩
                · have e25 : v 25 = .pointer (some ⟨g', 0, none⟩) := hd 25 (List.contains_iff_mem.1 (by kernel_rfl)); have e24 : v 24 = .bool true := hd 24 (List.contains_iff_mem.1 (by kernel_rfl))
                  refine wpOp_step (o := _) rfl (fun K' hK => ?_)
                  go_simp
                  exact hK _ _ ⟨.int .u64 n0, fr_eq (by simp [upd, e25, e24]), Below.refl _ _, (fun _ => rfl), fun o h => by cases h⟩
                · have e26 : v 26 = .int .u64 n0 := hd 26 (List.contains_iff_mem.1 (by kernel_rfl)); have e24 : v 24 = .bool true := hd 24 (List.contains_iff_mem.1 (by kernel_rfl))
                  refine wpOp_step (o := _) rfl (fun K' hK => ?_)
                  go_simp
                  exact hK _ _ ⟨.int .i64 (wrap64 n0), fr_eq (by simp [upd, e26, e24, HW0.out]), Below.refl _ _, (fun _ => rfl), fun o h => by cases h⟩
                · have e27 : v 27 = .int .i64 (wrap64 n0) := hd 27 (List.contains_iff_mem.1 (by kernel_rfl)); have e24 : v 24 = .bool true := hd 24 (List.contains_iff_mem.1 (by kernel_rfl))
                  refine wpOp_step (o := _) rfl (fun K' hK => ?_)
                  go_simp
                  exact hK _ _ ⟨.bool false, fr_eq (by simp [upd, e27, e24]), Below.refl _ _, (fun _ => rfl), fun o h => by cases h⟩
                · have e28 : v 28 = .bool false := hd 28 (List.contains_iff_mem.1 (by kernel_rfl)); have e24 : v 24 = .bool true := hd 24 (List.contains_iff_mem.1 (by kernel_rfl))
                  refine wpOp_step (o := _) rfl (fun K' hK => ?_)
                  go_simp
                  exact hK _ _ ⟨.bool false, fr_eq (by simp [upd, e28, e24]), Below.refl _ _, (fun _ => rfl), fun o h => by cases h⟩
                · have e29 : v 29 = .bool false := hd 29 (List.contains_iff_mem.1 (by kernel_rfl))
                  refine wpOp_step (o := _) rfl (fun K' hK => ?_)
                  go_simp
                  exact hK _ _ ⟨.agg #[.int .i64 kx, .bool gx, .int .u64 nx, .string tx], fr_eq (by simp [upd, e29]), Below.refl _ _, (fun _ => rfl), fun o h => by cases h⟩
                · have e29 : v 29 = .bool false := hd 29 (List.contains_iff_mem.1 (by kernel_rfl))
                  refine wpOp_step (o := _) rfl (fun K' hK => ?_)
                  go_simp
                  exact hK _ _ ⟨.agg #[.int .i64 kv, .bool gv, .int .u64 nv, .string tv], fr_eq (by simp [upd, e29]), Below.refl _ _, (fun _ => rfl), fun o h => by cases h⟩
                · have e30 : v 30 = .agg #[.int .i64 kx, .bool gx, .int .u64 nx, .string tx] := hd 30 (List.contains_iff_mem.1 (by kernel_rfl)); have e31 : v 31 = .agg #[.int .i64 kv, .bool gv, .int .u64 nv, .string tv] := hd 31 (List.contains_iff_mem.1 (by kernel_rfl)); have e29 : v 29 = .bool false := hd 29 (List.contains_iff_mem.1 (by kernel_rfl))
                  refine wpOp_step (o := _) rfl (fun K' hK => ?_)
                  go_simp
                  refine (HCZ.out _).mono ?_
                  rintro e w2 ⟨rfl, hb2⟩
                  exact hK _ _ ⟨.int .i64 Z, fr_eq (by simp [upd, e30, e31, e29]), hb2, fun _ => rfl, fun o h => by cases h⟩
                · have e32 : v 32 = .int .i64 Z := hd 32 (List.contains_iff_mem.1 (by kernel_rfl)); have e29 : v 29 = .bool false := hd 29 (List.contains_iff_mem.1 (by kernel_rfl))
                  refine wpOp_step (o := _) rfl (fun K' hK => ?_)
                  go_simp
                  exact hK _ _ ⟨.bool true, fr_eq (by simp [upd, e32, e29]), Below.refl _ _, (fun _ => rfl), fun o h => by cases h⟩
                · have e29 : v 29 = .bool false := hd 29 (List.contains_iff_mem.1 (by kernel_rfl)); have e33 : v 33 = .bool true := hd 33 (List.contains_iff_mem.1 (by kernel_rfl)); have e24 : v 24 = .bool true := hd 24 (List.contains_iff_mem.1 (by kernel_rfl))
                  refine wpOp_step (o := _) rfl (fun K' hK => ?_)
                  go_simp
                  exact hK _ _ ⟨.bool true, fr_eq (by simp [upd, e29, e33, e24]), Below.refl _ _, (fun _ => rfl), fun o h => by cases h⟩
                · have e24 : v 24 = .bool true := hd 24 (List.contains_iff_mem.1 (by kernel_rfl)); have e34 : v 34 = .bool true := hd 34 (List.contains_iff_mem.1 (by kernel_rfl))
                  refine wpOp_step (o := _) rfl (fun K' hK => ?_)
                  go_simp
                  exact hK _ _ ⟨.bool true, fr_eq (by simp [upd, e24, e34]), Below.refl _ _, (fun _ => rfl), fun o h => by cases h⟩
                · have e35 : v 35 = .bool true := hd 35 (List.contains_iff_mem.1 (by kernel_rfl))
                  refine wpOp_step (o := _) rfl (fun K' hK => ?_)
                  go_simp
                  exact hK _ _ ⟨.bool true, fr_eq (by simp [upd, e35]), Below.refl _ _, (fun _ => rfl), fun o h => by cases h⟩
                · have e36 : v 36 = .bool true := hd 36 (List.contains_iff_mem.1 (by kernel_rfl))
                  refine wpOp_step (o := _) rfl (fun K' hK => ?_)
                  go_simp
                  refine (awake5_any _).mono ?_
                  rintro e w2 ⟨rfl, hb2⟩
                  exact hK _ _ ⟨.bool true, fr_eq (by simp [upd, e36]), hb2, fun _ => rfl, fun o h => by cases h⟩
                · have e36 : v 36 = .bool true := hd 36 (List.contains_iff_mem.1 (by kernel_rfl)); have e37 : v 37 = .bool true := hd 37 (List.contains_iff_mem.1 (by kernel_rfl))
                  refine wpOp_step (o := _) rfl (fun K' hK => ?_)
                  go_simp
                  exact hK _ _ ⟨.bool true, fr_eq (by simp [upd, e36, e37]), Below.refl _ _, (fun _ => rfl), fun o h => by cases h⟩
                · have e38 : v 38 = .bool true := hd 38 (List.contains_iff_mem.1 (by kernel_rfl))
                  refine wpOp_step (o := _) rfl (fun K' hK => ?_)
                  go_simp
                  exact hK _ _ ⟨.bool true, fr_eq (by simp [upd, e38]), Below.refl _ _, (fun _ => rfl), fun o h => by cases h⟩
              · have e39 : v 39 = .bool true := hv 39 (by decide)
                refine wpAny_of_held (S := fun _ => True) _ _ _ _ (wpAnyH_done (by kernel_rfl) ?_ _)
                simp only [e39]
                go_wp2_with fail
                go_ret
                exact ⟨rfl, HBW3.out.trans (hb.mono (Nat.le_of_lt hgl))⟩
            · have hn1 : decide (0 ≤ wrap64 n0) = true := by simp; omega
              clear mz
              refine wp_region_ext (by kernel_rfl) 40 (fun v => (.agg #[.int .i64 k0, .int .i64 k1, .int .i64 k2] :: .agg #[.int .u64 n0, .int .u64 n1, .int .u64 n2] :: .pointer (some ⟨g, 0, none⟩) :: .pointer (some ⟨g', 0, none⟩) :: v 39 :: .pointer (some ⟨p, 0, none⟩) :: .pointer (some ⟨q, 0, none⟩) :: .pointer (some ⟨r, 0, none⟩) :: .pointer (some ⟨s, 0, none⟩) :: .pointer (some ⟨t, 0, none⟩) :: .pointer (some ⟨u, 0, none⟩) :: .pointer (some ⟨v', 0, none⟩) :: u12 :: u13 :: u14 :: u15 :: u16 :: u17 :: u18 :: u19 :: u20 :: u21 :: u22 :: u23 :: u24 :: u25 :: u26 :: u27 :: u28 :: u29 :: u30 :: u31 :: u32 :: u33 :: u34 :: u35 :: u36 :: u37 :: u38 :: u39 :: u40 :: u41 :: u42 :: u43 :: u44 :: u45 :: u46 :: u47 :: u48 :: u49 :: u50 :: u51 :: u52 :: u53 :: u54 :: u55 :: u56 :: u57 :: u58 :: u59 :: u60 :: u61 :: u62 :: u63 :: u64 :: u65 :: u66 :: u67 :: u68 :: v 0 :: v 1 :: v 2 :: v 3 :: v 4 :: v 5 :: v 6 :: v 7 :: v 8 :: v 9 :: v 10 :: v 11 :: v 12 :: v 13 :: v 14 :: v 15 :: v 16 :: v 17 :: v 18 :: v 19 :: v 20 :: v 21 :: v 22 :: v 23 :: v 24 :: v 25 :: v 26 :: v 27 :: v 28 :: v 29 :: v 30 :: v 31 :: v 32 :: v 33 :: v 34 :: v 35 :: v 36 :: v 37 :: v 38 :: []).toArray) (fun j => [u69, u70, u71, u72, u73, u74, u75, u76, u77, u78, u79, u80, u81, u82, u83, u84, u85, u86, u87, u88, u89, u90, u91, u92, u93, u94, u95, u96, u97, u98, u99, u100, u101, u102, u103, u104, u105, u106, u107, .bool false].getD j undef) (fun _ => none) (fun j => [.agg #[.int .i64 kx, .bool gx, .int .u64 nx, .string tx], .agg #[.int .i64 ky, .bool gy, .int .u64 ny, .string ty], .int .i64 X, .bool bx, .pointer (some ⟨g', 0, none⟩), .int .u64 n0, .int .i64 (wrap64 n0), .pointer (some ⟨g', 1, none⟩), .int .u64 n1, .int .i64 (wrap64 n1), .bool bx, .bool true, .bool true, .agg #[.int .i64 ku, .bool gu, .int .u64 nu, .string tu], .agg #[.int .i64 kv, .bool gv, .int .u64 nv, .string tv], .int .i64 U, .bool bu, .pointer (some ⟨g', 0, none⟩), .int .u64 n0, .pointer (some ⟨g', 1, none⟩), .int .u64 n1, .bool bu, .bool true, .bool true, .bool true, .pointer (some ⟨g', 0, none⟩), .int .u64 n0, .int .i64 (wrap64 n0), .bool true, .bool true, undef, undef, undef, undef, .bool true, .bool true, .bool true, .bool true, .bool true, .bool true].getD j undef)
                (Q6 g g' k0 k1 k2 n0 n1 n2 s t u v' ⟨kx, gx, nx, tx⟩ ⟨ky, gy, ny, ty⟩ ⟨ku, gu, nu, tu⟩ ⟨kv, gv, nv, tv⟩) (Nat.le_of_ble_eq_true (by kernel_rfl)) (by kernel_rfl) (fun _ _ h hb => h.keep hb) HB6.out (fun j hj v w1 hBx hsz hd => ?_) (fun v w1 hv hdist hBx hb => ?_)
              · obtain ⟨a0, a1, a2, a3⟩ := hBx.1.cells; obtain ⟨b0, b1, b2, b3⟩ := hBx.2.1.cells; obtain ⟨c0, c1, c2, c3⟩ := hBx.2.2.1.cells; obtain ⟨d0, d1, d2, d3⟩ := hBx.2.2.2.1.cells; obtain ⟨x0, x1, x2, y0, y1, y2⟩ := hBx.2.2.2.2.cells
                have hj2 : j = 0 ∨ j = 1 ∨ j = 2 ∨ j = 3 ∨ j = 4 ∨ j = 5 ∨ j = 6 ∨ j = 7 ∨ j = 8 ∨ j = 9 ∨ j = 10 ∨ j = 11 ∨ j = 12 ∨ j = 13 ∨ j = 14 ∨ j = 15 ∨ j = 16 ∨ j = 17 ∨ j = 18 ∨ j = 19 ∨ j = 20 ∨ j = 21 ∨ j = 22 ∨ j = 23 ∨ j = 24 ∨ j = 25 ∨ j = 26 ∨ j = 27 ∨ j = 28 ∨ j = 29 ∨ j = 30 ∨ j = 31 ∨ j = 32 ∨ j = 33 ∨ j = 34 ∨ j = 35 ∨ j = 36 ∨ j = 37 ∨ j = 38 ∨ j = 39 := by omega
                rcases hj2 with rfl | rfl | rfl | rfl | rfl | rfl | rfl | rfl | rfl | rfl | rfl | rfl | rfl | rfl | rfl | rfl | rfl | rfl | rfl | rfl | rfl | rfl | rfl | rfl | rfl | rfl | rfl | rfl | rfl | rfl | rfl | rfl | rfl | rfl | rfl | rfl | rfl | rfl | rfl | rfl
                · skip
                  refine wpOp_step (o := _) rfl (fun K' hK => ?_)
                  go_simp
                  exact hK _ _ ⟨.agg #[.int .i64 kx, .bool gx, .int .u64 nx, .string tx], rfl, Below.refl _ _, (fun _ => rfl), fun o h => by cases h⟩
                · skip
                  refine wpOp_step (o := _) rfl (fun K' hK => ?_)
                  go_simp
                  exact hK _ _ ⟨.agg #[.int .i64 ky, .bool gy, .int .u64 ny, .string ty], rfl, Below.refl _ _, (fun _ => rfl), fun o h => by cases h⟩
                · have e0 : v 0 = .agg #[.int .i64 kx, .bool gx, .int .u64 nx, .string tx] := hd 0 (List.contains_iff_mem.1 (by kernel_rfl)); have e1 : v 1 = .agg #[.int .i64 ky, .bool gy, .int .u64 ny, .string ty] := hd 1 (List.contains_iff_mem.1 (by kernel_rfl))
                  refine wpOp_step (o := _) rfl (fun K' hK => ?_)
                  go_simp
                  refine (HCX.out _).mono ?_
                  rintro e w2 ⟨rfl, hb2⟩
                  exact hK _ _ ⟨.int .i64 X, fr_eq (by simp [upd, e0, e1]), hb2, fun _ => rfl, fun o h => by cases h⟩
                · have e2 : v 2 = .int .i64 X := hd 2 (List.contains_iff_mem.1 (by kernel_rfl))
                  refine wpOp_step (o := _) rfl (fun K' hK => ?_)
                  go_simp
                  exact hK _ _ ⟨.bool bx, fr_eq (by simp [upd, e2]), Below.refl _ _, (fun _ => rfl), fun o h => by cases h⟩
                · skip
                  refine wpOp_step (o := _) rfl (fun K' hK => ?_)
                  go_simp
                  exact hK _ _ ⟨.pointer (some ⟨g', 0, none⟩), rfl, Below.refl _ _, (fun _ => rfl), fun o h => by cases h⟩
                · have e4 : v 4 = .pointer (some ⟨g', 0, none⟩) := hd 4 (List.contains_iff_mem.1 (by kernel_rfl))
                  refine wpOp_step (o := _) rfl (fun K' hK => ?_)
                  go_simp
                  exact hK _ _ ⟨.int .u64 n0, fr_eq (by simp [upd, e4]), Below.refl _ _, (fun _ => rfl), fun o h => by cases h⟩
                · have e5 : v 5 = .int .u64 n0 := hd 5 (List.contains_iff_mem.1 (by kernel_rfl))
                  refine wpOp_step (o := _) rfl (fun K' hK => ?_)
                  go_simp
                  exact hK _ _ ⟨.int .i64 (wrap64 n0), fr_eq (by simp [upd, e5, HW0.out]), Below.refl _ _, (fun _ => rfl), fun o h => by cases h⟩
                · skip
                  refine wpOp_step (o := _) rfl (fun K' hK => ?_)
                  go_simp
                  exact hK _ _ ⟨.pointer (some ⟨g', 1, none⟩), rfl, Below.refl _ _, (fun _ => rfl), fun o h => by cases h⟩
                · have e7 : v 7 = .pointer (some ⟨g', 1, none⟩) := hd 7 (List.contains_iff_mem.1 (by kernel_rfl))
                  refine wpOp_step (o := _) rfl (fun K' hK => ?_)
                  go_simp
                  exact hK _ _ ⟨.int .u64 n1, fr_eq (by simp [upd, e7]), Below.refl _ _, (fun _ => rfl), fun o h => by cases h⟩
                · have e8 : v 8 = .int .u64 n1 := hd 8 (List.contains_iff_mem.1 (by kernel_rfl))
                  refine wpOp_step (o := _) rfl (fun K' hK => ?_)
                  go_simp
                  exact hK _ _ ⟨.int .i64 (wrap64 n1), fr_eq (by simp [upd, e8, HW1.out]), Below.refl _ _, (fun _ => rfl), fun o h => by cases h⟩
                · have e6 : v 6 = .int .i64 (wrap64 n0) := hd 6 (List.contains_iff_mem.1 (by kernel_rfl)); have e9 : v 9 = .int .i64 (wrap64 n1) := hd 9 (List.contains_iff_mem.1 (by kernel_rfl))
                  refine wpOp_step (o := _) rfl (fun K' hK => ?_)
                  go_simp
                  exact hK _ _ ⟨.bool bx, fr_eq (by simp [upd, e6, e9]), Below.refl _ _, (fun _ => rfl), fun o h => by cases h⟩
                · have e3 : v 3 = .bool bx := hd 3 (List.contains_iff_mem.1 (by kernel_rfl)); have e10 : v 10 = .bool bx := hd 10 (List.contains_iff_mem.1 (by kernel_rfl))
                  refine wpOp_step (o := _) rfl (fun K' hK => ?_)
                  go_simp
                  exact hK _ _ ⟨.bool true, fr_eq (by simp [upd, e3, e10]), Below.refl _ _, (fun _ => rfl), fun o h => by cases h⟩
                · have e11 : v 11 = .bool true := hd 11 (List.contains_iff_mem.1 (by kernel_rfl))
                  refine wpOp_step (o := _) rfl (fun K' hK => ?_)
                  go_simp
                  exact hK _ _ ⟨.bool true, fr_eq (by simp [upd, e11]), Below.refl _ _, (fun _ => rfl), fun o h => by cases h⟩
                · have e12 : v 12 = .bool true := hd 12 (List.contains_iff_mem.1 (by kernel_rfl))
                  refine wpOp_step (o := _) rfl (fun K' hK => ?_)
                  go_simp
                  exact hK _ _ ⟨.agg #[.int .i64 ku, .bool gu, .int .u64 nu, .string tu], fr_eq (by simp [upd, e12]), Below.refl _ _, (fun _ => rfl), fun o h => by cases h⟩
                · have e12 : v 12 = .bool true := hd 12 (List.contains_iff_mem.1 (by kernel_rfl))
                  refine wpOp_step (o := _) rfl (fun K' hK => ?_)
                  go_simp
                  exact hK _ _ ⟨.agg #[.int .i64 kv, .bool gv, .int .u64 nv, .string tv], fr_eq (by simp [upd, e12]), Below.refl _ _, (fun _ => rfl), fun o h => by cases h⟩
                · have e13 : v 13 = .agg #[.int .i64 ku, .bool gu, .int .u64 nu, .string tu] := hd 13 (List.contains_iff_mem.1 (by kernel_rfl)); have e14 : v 14 = .agg #[.int .i64 kv, .bool gv, .int .u64 nv, .string tv] := hd 14 (List.contains_iff_mem.1 (by kernel_rfl)); have e12 : v 12 = .bool true := hd 12 (List.contains_iff_mem.1 (by kernel_rfl))
                  refine wpOp_step (o := _) rfl (fun K' hK => ?_)
                  go_simp
                  refine (HCU.out _).mono ?_
                  rintro e w2 ⟨rfl, hb2⟩
                  exact hK _ _ ⟨.int .i64 U, fr_eq (by simp [upd, e13, e14, e12]), hb2, fun _ => rfl, fun o h => by cases h⟩
                · have e15 : v 15 = .int .i64 U := hd 15 (List.contains_iff_mem.1 (by kernel_rfl)); have e12 : v 12 = .bool true := hd 12 (List.contains_iff_mem.1 (by kernel_rfl))
                  refine wpOp_step (o := _) rfl (fun K' hK => ?_)
                  go_simp
                  exact hK _ _ ⟨.bool bu, fr_eq (by simp [upd, e15, e12]), Below.refl _ _, (fun _ => rfl), fun o h => by cases h⟩
                · have e12 : v 12 = .bool true := hd 12 (List.contains_iff_mem.1 (by kernel_rfl))
                  refine wpOp_step (o := _) rfl (fun K' hK => ?_)
                  go_simp
                  exact hK _ _ ⟨.pointer (some ⟨g', 0, none⟩), fr_eq (by simp [upd, e12]), Below.refl _ _, (fun _ => rfl), fun o h => by cases h⟩
                · have e17 : v 17 = .pointer (some ⟨g', 0, none⟩) := hd 17 (List.contains_iff_mem.1 (by kernel_rfl)); have e12 : v 12 = .bool true := hd 12 (List.contains_iff_mem.1 (by kernel_rfl))
                  refine wpOp_step (o := _) rfl (fun K' hK => ?_)
                  go_simp
                  exact hK _ _ ⟨.int .u64 n0, fr_eq (by simp [upd, e17, e12]), Below.refl _ _, (fun _ => rfl), fun o h => by cases h⟩
                · have e12 : v 12 = .bool true := hd 12 (List.contains_iff_mem.1 (by kernel_rfl))
                  refine wpOp_step (o := _) rfl (fun K' hK => ?_)
                  go_simp
                  exact hK _ _ ⟨.pointer (some ⟨g', 1, none⟩), fr_eq (by simp [upd, e12]), Below.refl _ _, (fun _ => rfl), fun o h => by cases h⟩
                · have e19 : v 19 = .pointer (some ⟨g', 1, none⟩) := hd 19 (List.contains_iff_mem.1 (by kernel_rfl)); have e12 : v 12 = .bool true := hd 12 (List.contains_iff_mem.1 (by kernel_rfl))
                  refine wpOp_step (o := _) rfl (fun K' hK => ?_)
                  go_simp
                  exact hK _ _ ⟨.int .u64 n1, fr_eq (by simp [upd, e19, e12]), Below.refl _ _, (fun _ => rfl), fun o h => by cases h⟩
                · have e18 : v 18 = .int .u64 n0 := hd 18 (List.contains_iff_mem.1 (by kernel_rfl)); have e20 : v 20 = .int .u64 n1 := hd 20 (List.contains_iff_mem.1 (by kernel_rfl)); have e12 : v 12 = .bool true := hd 12 (List.contains_iff_mem.1 (by kernel_rfl))
                  refine wpOp_step (o := _) rfl (fun K' hK => ?_)
                  go_simp
                  exact hK _ _ ⟨.bool bu, fr_eq (by simp [upd, e18, e20, e12]), Below.refl _ _, (fun _ => rfl), fun o h => by cases h⟩
                · have e16 : v 16 = .bool bu := hd 16 (List.contains_iff_mem.1 (by kernel_rfl)); have e21 : v 21 = .bool bu := hd 21 (List.contains_iff_mem.1 (by kernel_rfl)); have e12 : v 12 = .bool true := hd 12 (List.contains_iff_mem.1 (by kernel_rfl))
                  refine wpOp_step (o := _) rfl (fun K' hK => ?_)
                  go_simp
                  exact hK _ _ ⟨.bool true, fr_eq (by simp [upd, e16, e21, e12]), Below.refl _ _, (fun _ => rfl), fun o h => by cases h⟩
                · have e12 : v 12 = .bool true := hd 12 (List.contains_iff_mem.1 (by kernel_rfl)); have e22 : v 22 = .bool true := hd 22 (List.contains_iff_mem.1 (by kernel_rfl))
                  refine wpOp_step (o := _) rfl (fun K' hK => ?_)
                  go_simp
                  exact hK _ _ ⟨.bool true, fr_eq (by simp [upd, e12, e22]), Below.refl _ _, (fun _ => rfl), fun o h => by cases h⟩
                · have e23 : v 23 = .bool true := hd 23 (List.contains_iff_mem.1 (by kernel_rfl))
                  refine wpOp_step (o := _) rfl (fun K' hK => ?_)
                  go_simp
                  exact hK _ _ ⟨.bool true, fr_eq (by simp [upd, e23]), Below.refl _ _, (fun _ => rfl), fun o h => by cases h⟩
                · have e24 : v 24 = .bool true := hd 24 (List.contains_iff_mem.1 (by kernel_rfl))
                  refine wpOp_step (o := _) rfl (fun K' hK => ?_)
                  go_simp
                  exact hK _ _ ⟨.pointer (some ⟨g', 0, none⟩), fr_eq (by simp [upd, e24]), Below.refl _ _, (fun _ => rfl), fun o h => by cases h⟩
                · have e25 : v 25 = .pointer (some ⟨g', 0, none⟩) := hd 25 (List.contains_iff_mem.1 (by kernel_rfl)); have e24 : v 24 = .bool true := hd 24 (List.contains_iff_mem.1 (by kernel_rfl))
                  refine wpOp_step (o := _) rfl (fun K' hK => ?_)
                  go_simp
                  exact hK _ _ ⟨.int .u64 n0, fr_eq (by simp [upd, e25, e24]), Below.refl _ _, (fun _ => rfl), fun o h => by cases h⟩
                · have e26 : v 26 = .int .u64 n0 := hd 26 (List.contains_iff_mem.1 (by kernel_rfl)); have e24 : v 24 = .bool true := hd 24 (List.contains_iff_mem.1 (by kernel_rfl))
                  refine wpOp_step (o := _) rfl (fun K' hK => ?_)
                  go_simp
                  exact hK _ _ ⟨.int .i64 (wrap64 n0), fr_eq (by simp [upd, e26, e24, HW0.out]), Below.refl _ _, (fun _ => rfl), fun o h => by cases h⟩
                · have e27 : v 27 = .int .i64 (wrap64 n0) := hd 27 (List.contains_iff_mem.1 (by kernel_rfl)); have e24 : v 24 = .bool true := hd 24 (List.contains_iff_mem.1 (by kernel_rfl))
                  refine wpOp_step (o := _) rfl (fun K' hK => ?_)
                  go_simp
                  exact hK _ _ ⟨.bool true, fr_eq (by simp [upd, e27, e24]), Below.refl _ _, (fun _ => rfl), fun o h => by cases h⟩
                · have e28 : v 28 = .bool true := hd 28 (List.contains_iff_mem.1 (by kernel_rfl)); have e24 : v 24 = .bool true := hd 24 (List.contains_iff_mem.1 (by kernel_rfl))
                  refine wpOp_step (o := _) rfl (fun K' hK => ?_)
                  go_simp
                  exact hK _ _ ⟨.bool true, fr_eq (by simp [upd, e28, e24]), Below.refl _ _, (fun _ => rfl), fun o h => by cases h⟩
                · have e29 : v 29 = .bool true := hd 29 (List.contains_iff_mem.1 (by kernel_rfl))
                  refine wpOp_step (o := _) rfl (fun K' hK => ?_)
                  go_simp
                  exact hK _ _ ⟨undef, fr_eq (by simp [upd, e29]), Below.refl _ _, (fun _ => rfl), fun o h => by cases h⟩
                · have e29 : v 29 = .bool true := hd 29 (List.contains_iff_mem.1 (by kernel_rfl))
                  refine wpOp_step (o := _) rfl (fun K' hK => ?_)
                  go_simp
                  exact hK _ _ ⟨undef, fr_eq (by simp [upd, e29]), Below.refl _ _, (fun _ => rfl), fun o h => by cases h⟩
                · have e29 : v 29 = .bool true := hd 29 (List.contains_iff_mem.1 (by kernel_rfl))
                  refine wpOp_step (o := _) rfl (fun K' hK => ?_)
                  go_simp
                  exact hK _ _ ⟨undef, fr_eq (by simp [upd, e29]), Below.refl _ _, (fun _ => rfl), fun o h => by cases h⟩
                · have e29 : v 29 = .bool true := hd 29 (List.contains_iff_mem.1 (by kernel_rfl))
                  refine wpOp_step (o := _) rfl (fun K' hK => ?_)
                  go_simp
                  exact hK _ _ ⟨undef, fr_eq (by simp [upd, e29]), Below.refl _ _, (fun _ => rfl), fun o h => by cases h⟩
                · have e29 : v 29 = .bool true := hd 29 (List.contains_iff_mem.1 (by kernel_rfl)); have e24 : v 24 = .bool true := hd 24 (List.contains_iff_mem.1 (by kernel_rfl))
                  refine wpOp_step (o := _) rfl (fun K' hK => ?_)
                  go_simp
                  exact hK _ _ ⟨.bool true, fr_eq (by simp [upd, e29, e24]), Below.refl _ _, (fun _ => rfl), fun o h => by cases h⟩
                · have e24 : v 24 = .bool true := hd 24 (List.contains_iff_mem.1 (by kernel_rfl)); have e34 : v 34 = .bool true := hd 34 (List.contains_iff_mem.1 (by kernel_rfl))
                  refine wpOp_step (o := _) rfl (fun K' hK => ?_)
                  go_simp
                  exact hK _ _ ⟨.bool true, fr_eq (by simp [upd, e24, e34]), Below.refl _ _, (fun _ => rfl), fun o h => by cases h⟩
                · have e35 : v 35 = .bool true := hd 35 (List.contains_iff_mem.1 (by kernel_rfl))
                  refine wpOp_step (o := _) rfl (fun K' hK => ?_)
                  go_simp
                  exact hK _ _ ⟨.bool true, fr_eq (by simp [upd, e35]), Below.refl _ _, (fun _ => rfl), fun o h => by cases h⟩
                · have e36 : v 36 = .bool true := hd 36 (List.contains_iff_mem.1 (by kernel_rfl))
                  refine wpOp_step (o := _) rfl (fun K' hK => ?_)
                  go_simp
                  refine (awake5_any _).mono ?_
                  rintro e w2 ⟨rfl, hb2⟩
                  exact hK _ _ ⟨.bool true, fr_eq (by simp [upd, e36]), hb2, fun _ => rfl, fun o h => by cases h⟩
                · have e36 : v 36 = .bool true := hd 36 (List.contains_iff_mem.1 (by kernel_rfl)); have e37 : v 37 = .bool true := hd 37 (List.contains_iff_mem.1 (by kernel_rfl))
                  refine wpOp_step (o := _) rfl (fun K' hK => ?_)
                  go_simp
                  exact hK _ _ ⟨.bool true, fr_eq (by simp [upd, e36, e37]), Below.refl _ _, (fun _ => rfl), fun o h => by cases h⟩
                · have e38 : v 38 = .bool true := hd 38 (List.contains_iff_mem.1 (by kernel_rfl))
                  refine wpOp_step (o := _) rfl (fun K' hK => ?_)
                  go_simp
                  exact hK _ _ ⟨.bool true, fr_eq (by simp [upd, e38]), Below.refl _ _, (fun _ => rfl), fun o h => by cases h⟩
              · have e39 : v 39 = .bool true := hv 39 (by decide)
                refine wpAny_of_held (S := fun _ => True) _ _ _ _ (wpAnyH_done (by kernel_rfl) ?_ _)
                simp only [e39]
                go_wp2_with fail
                go_ret
                exact ⟨rfl, HBW3.out.trans (hb.mono (Nat.le_of_lt hgl))⟩
end Go.Proofs.Ytkkkbcgipcgebaa
