/- Chapter 13's example. -/
import Derived.Test.YtinmdkhafamibaaGreatKeyOf
namespace Go.Proofs.YtinmdkhafamibaaGreat
open Go.RowKit
set_option linter.unusedVariables false
def ex13I : Nat → ItemV := fun i => if i = 0 then ⟨⟨#[97]⟩, 0, 0, true, false⟩ else ⟨⟨#[98]⟩, 0, 1, true, false⟩
def ex13 (g : Nat) : Nat → TypeV := fun i => if i = 0 then ⟨3, ⟨#[]⟩, 0, 0, 0, none, 0, 0, default⟩ else if i = 1 then ⟨10, ⟨#[]⟩, 3, 0, 0, none, 0, 0, default⟩ else ⟨13, ⟨#[80]⟩, 0, 0, 0, some ⟨g, 0, none⟩, 2, 2, ex13I⟩
def ex13IO : Obj := .cells #[.string ⟨#[97]⟩, .int .u64 0, .int .i64 0, .bool true, .bool false, .string ⟨#[98]⟩, .int .u64 0, .int .i64 1, .bool true, .bool false] 45
def ex13TO (g : Nat) : Obj := .cells #[.int .i64 3, .string ⟨#[]⟩, .int .i64 0, .int .i64 0, .int .i64 0, .slice none 0 0, .int .i64 10, .string ⟨#[]⟩, .int .i64 3, .int .i64 0, .int .i64 0, .slice none 0 0, .int .i64 13, .string ⟨#[80]⟩, .int .i64 0, .int .i64 0, .int .i64 0, .slice (some ⟨g, 0, none⟩) 2 2] 42
def ex13VO : Obj := .cells #[.int .i64 3, .int .u64 18446744073709551615, .string ⟨#[]⟩, .slice none 0 0, .int .i64 10, .int .u64 0, .string ⟨#[97, 98]⟩, .slice none 0 0] 26
def ex13K : Nat → VT := fun i => if i = 0 then .node 3 18446744073709551615 ⟨#[]⟩ none 0 0 (fun _ => .nil) else .node 10 0 ⟨#[97, 98]⟩ none 0 0 (fun _ => .nil)
def ex13V (g : Nat) : VT := .node 13 0 ⟨#[]⟩ (some ⟨g, 0, none⟩) 2 2 ex13K
def ex13W (w : World) : World := ((w.alloc ex13IO).alloc (ex13TO w.heap.size)).alloc ex13VO
theorem ex13_blocks (w : World) : (ex13W w).heap[w.heap.size]? = some ex13IO ∧ (ex13W w).heap[w.heap.size + 1]? = some (ex13TO w.heap.size) ∧ (ex13W w).heap[w.heap.size + 2]? = some ex13VO ∧ (ex13W w).heap.size = w.heap.size + 3 := by
  unfold ex13W
  have h1 := alloc_at (w.alloc ex13IO) (ex13TO w.heap.size)
  rw [show (w.alloc ex13IO).heap.size = w.heap.size + 1 by simp] at h1
  have h2 := alloc_at ((w.alloc ex13IO).alloc (ex13TO w.heap.size)) ex13VO
  rw [show ((w.alloc ex13IO).alloc (ex13TO w.heap.size)).heap.size = w.heap.size + 2 by simp] at h2
  exact ⟨alloc_old (alloc_old (alloc_at w ex13IO)), alloc_old h1, h2, by simp⟩
theorem ex13_wf (g i : Nat) (hi : i < 3) : TypeWf (ex13 g i) := by
  have hcs : i = 0 ∨ i = 1 ∨ i = 2 := by omega
  rcases hcs with rfl | rfl | rfl
  · exact ⟨by kernel_rfl, by kernel_rfl, by kernel_rfl, by kernel_rfl, by show (⟨#[]⟩ : ByteArray).size ≤ 140737488351232; decide⟩
  · exact ⟨by kernel_rfl, by kernel_rfl, by kernel_rfl, by kernel_rfl, by show (⟨#[]⟩ : ByteArray).size ≤ 140737488351232; decide⟩
  · exact ⟨by kernel_rfl, by kernel_rfl, by kernel_rfl, by kernel_rfl, by show (⟨#[80]⟩ : ByteArray).size ≤ 140737488351232; decide⟩
theorem ex13_iwf (j : Nat) : ItemWf (ex13I j) := by
  unfold ex13I
  split
  · exact ⟨by kernel_rfl, by kernel_rfl, by show (⟨#[97]⟩ : ByteArray).size ≤ 140737488351232; decide⟩
  · exact ⟨by kernel_rfl, by kernel_rfl, by show (⟨#[98]⟩ : ByteArray).size ≤ 140737488351232; decide⟩
theorem ex13_il (g i : Nat) (hi : i < 3) : (ex13 g i).ilen ≤ 3518437208780 := by
  have hcs : i = 0 ∨ i = 1 ∨ i = 2 := by omega
  rcases hcs with rfl | rfl | rfl
  · show (0 : Nat) ≤ 3518437208780; decide
  · show (0 : Nat) ≤ 3518437208780; decide
  · show (2 : Nat) ≤ 3518437208780; decide
theorem ex13_cap (g : Nat) : ∀ i, i < 3 → (ex13 g i).ilen ≤ (ex13 g i).icap := by
  intro i hi
  have hcs : i = 0 ∨ i = 1 ∨ i = 2 := by omega
  rcases hcs with rfl | rfl | rfl <;> exact Nat.le_refl _
theorem ex13_at (w : World) : ∀ i, i < 3 → TypeAt (ex13W w) (some ⟨w.heap.size + 1, 0, none⟩) i (ex13 w.heap.size i) := by
  intro i hi
  obtain ⟨hb, hq, _, _⟩ := ex13_blocks w
  have hcs : i = 0 ∨ i = 1 ∨ i = 2 := by omega
  rcases hcs with rfl | rfl | rfl
  · refine ⟨_, 0, rfl, cell_at hq rfl, cell_at hq rfl, cell_at hq rfl, cell_at hq rfl, cell_at hq rfl, cell_at hq rfl, ex13_wf _ _ (by decide), ?_⟩
    exact ⟨ex13_il _ _ (by decide), fun j hj => absurd hj (Nat.not_lt_zero j)⟩
  · refine ⟨_, 0, rfl, cell_at hq rfl, cell_at hq rfl, cell_at hq rfl, cell_at hq rfl, cell_at hq rfl, cell_at hq rfl, ex13_wf _ _ (by decide), ?_⟩
    exact ⟨ex13_il _ _ (by decide), fun j hj => absurd hj (Nat.not_lt_zero j)⟩
  · refine ⟨_, 0, rfl, cell_at hq rfl, cell_at hq rfl, cell_at hq rfl, cell_at hq rfl, cell_at hq rfl, cell_at hq rfl, ex13_wf _ _ (by decide), ?_⟩
    refine ⟨ex13_il _ _ (by decide), fun j hj => ?_⟩
    have hj2 : j = 0 ∨ j = 1 := by unfold ex13 at hj; simp at hj; omega
    rcases hj2 with rfl | rfl
    · exact ⟨_, 0, rfl, cell_at hb rfl, cell_at hb rfl, cell_at hb rfl, cell_at hb rfl, cell_at hb rfl, ex13_iwf _⟩
    · exact ⟨_, 0, rfl, cell_at hb rfl, cell_at hb rfl, cell_at hb rfl, cell_at hb rfl, cell_at hb rfl, ex13_iwf _⟩
theorem ex13_ok (g : Nat) : fErr (oneR (ex13 g) 3) 3 = 0 := by kernel_rfl
theorem ex13_has (g : Nat) : hasT (ex13 g) 3 2 = true := hasT_yes (k := 2) (by decide) (ex13_ok g)
theorem ex13_sum (g : Nat) : keyN (ex13 g) (ex13 g 2) (ex13 g 2).ilen = 6 := by kernel_rfl
theorem ex13_lst (g : Nat) : keyF (ex13 g 2) (ex13 g 2).ilen = [0, 1] := by kernel_rfl
theorem ex13_fld (g : Nat) : fldE (ex13 g) 3 2 = 0 ∧ fldL (ex13 g) 3 2 = [0, 1] := by
  have h1 : fldE (ex13 g) 3 2 = 0 := by
    unfold fldE
    rw [ex13_has, if_neg (show ¬ (true = false) by decide), show (2 : Int).toNat = 2 from rfl, if_neg (show ¬ (ex13 g 2).kind ≠ 13 from fun h => h rfl), ex13_sum, if_neg (by decide)]
  refine ⟨h1, ?_⟩
  unfold fldL
  rw [h1, if_pos rfl, show (2 : Int).toNat = 2 from rfl, ex13_lst]
theorem ex13_fitsT (g h : Nat) : fitsT (ex13 g) (ex13V h) 2 = 0 := by kernel_rfl
theorem ex13_fits (g h : Nat) : fitsA (ex13 g) 3 2 (ex13V h) = 0 := by
  unfold fitsA
  rw [ex13_has, if_pos rfl, show (2 : Int).toNat = 2 from rfl, ex13_fitsT]
theorem ex13_kb (h : Nat) : kb (keyB (ex13V h).kid [0, 1]) = [5, 255, 255, 2, 97, 98, 0, 0, 0, 0, 0, 0, 0, 0, 0, 0, 0] := by kernel_rfl
theorem ex13_key (g h : Nat) : keyE (ex13 g) 3 2 (ex13V h) = 0 ∧ keyK (ex13 g) 3 2 (ex13V h) = [5, 255, 255, 2, 97, 98, 0, 0, 0, 0, 0, 0, 0, 0, 0, 0, 0] := by
  have h1 : keyE (ex13 g) 3 2 (ex13V h) = 0 := by unfold keyE; rw [(ex13_fld g).1, if_neg (by decide), ex13_fits]
  refine ⟨h1, ?_⟩
  unfold keyK
  rw [h1, if_pos rfl, (ex13_fld g).2]
  exact ex13_kb h
theorem ex13V_at (w : World) : ValAt (ex13W w) (fun b => b = w.heap.size + 2) (ex13V (w.heap.size + 2)) := by
  obtain ⟨_, _, hq, hs⟩ := ex13_blocks w
  refine (valAt_iff _).2 ⟨⟨by kernel_rfl, by kernel_rfl, by show (⟨#[]⟩ : ByteArray).size ≤ _; decide, by show 2 ≤ _; decide⟩, fun i hi => ?_⟩
  have hi2 : i = 0 ∨ i = 1 := by unfold ex13V VT.len at hi; simp at hi; omega
  rcases hi2 with rfl | rfl
  · refine ⟨⟨_, 0, rfl, rfl, by rw [hs]; omega, cell_at hq rfl, cell_at hq rfl, cell_at hq rfl, cell_at hq rfl⟩, ?_⟩
    exact (valAt_iff _).2 ⟨⟨by kernel_rfl, by kernel_rfl, by show (⟨#[]⟩ : ByteArray).size ≤ _; decide, by show 0 ≤ _; decide⟩, fun i hi => absurd hi (Nat.not_lt_zero i)⟩
  · refine ⟨⟨_, 0, rfl, rfl, by rw [hs]; omega, cell_at hq rfl, cell_at hq rfl, cell_at hq rfl, cell_at hq rfl⟩, ?_⟩
    exact (valAt_iff _).2 ⟨⟨by kernel_rfl, by kernel_rfl, by show (⟨#[97, 98]⟩ : ByteArray).size ≤ _; decide, by show 0 ≤ _; decide⟩, fun i hi => absurd hi (Nat.not_lt_zero i)⟩
set_option maxRecDepth 100000 in
set_option maxHeartbeats 4000000 in
theorem awake13_any (w : World) : Calls Tryz.prog 6 #[] w fun e w' => e = .returned (.bool true) ∧ Below w.heap.size w w' := by
  have HB := Lib.hid (show Below w.heap.size w (ex13W w) from (((Below.refl w.heap.size w).alloc (Nat.le_refl _) ex13IO).alloc (by simp) (ex13TO w.heap.size)).alloc (by simp; omega) ex13VO)
  have hf := fun wx (h : Below (ex13W w).heap.size (ex13W w) wx) => of_any13 (some ⟨w.heap.size + 1, 0, none⟩) 3 3 (ex13 w.heap.size) (by decide) (by decide) (ex13_cap _) _ 2 (ex13V (w.heap.size + 2)) wx ((ex13V_at w).next h) (hold (ex13_at w) h)
  rw [(ex13_key _ _).1, (ex13_key _ _).2] at hf
  have hkc : kc [5, 255, 255, 2, 97, 98, 0, 0, 0, 0, 0, 0, 0, 0, 0, 0, 0] = #[.int .u8 5, .int .u8 255, .int .u8 255, .int .u8 2, .int .u8 97, .int .u8 98, .int .u8 0, .int .u8 0, .int .u8 0, .int .u8 0, .int .u8 0, .int .u8 0, .int .u8 0, .int .u8 0, .int .u8 0, .int .u8 0, .int .u8 0] := rfl
  have heq : ∀ wx : World, (Op.equalIn 10000 35 (.agg #[.int .u8 5, .int .u8 255, .int .u8 255, .int .u8 2, .int .u8 97, .int .u8 98, .int .u8 0, .int .u8 0, .int .u8 0, .int .u8 0, .int .u8 0, .int .u8 0, .int .u8 0, .int .u8 0, .int .u8 0, .int .u8 0, .int .u8 0]) (.agg #[.int .u8 5, .int .u8 255, .int .u8 255, .int .u8 2, .int .u8 97, .int .u8 98, .int .u8 0, .int .u8 0, .int .u8 0, .int .u8 0, .int .u8 0, .int .u8 0, .int .u8 0, .int .u8 0, .int .u8 0, .int .u8 0, .int .u8 0])).run Tryz.prog wx = .ok true wx := fun wx => by
    have := equal_key wx (a := [5, 255, 255, 2, 97, 98, 0, 0, 0, 0, 0, 0, 0, 0, 0, 0, 0]) (b := [5, 255, 255, 2, 97, 98, 0, 0, 0, 0, 0, 0, 0, 0, 0, 0, 0]) rfl rfl
    rw [decide_eq_true rfl, hkc] at this
    exact this
  rw [hkc] at hf
  have HF := Lib.hid (show ∀ wx, Below (ex13W w).heap.size (ex13W w) wx → Calls Tryz.prog 9 #[.slice (some ⟨w.heap.size + 1, 0, none⟩) 3 3, .int .i64 2, .agg #[.int .i64 13, .int .u64 0, .string ⟨#[]⟩, .slice (some ⟨w.heap.size + 2, 0, none⟩) 2 2]] wx fun e w' => e = .returned (.tuple #[.agg #[.int .u8 5, .int .u8 255, .int .u8 255, .int .u8 2, .int .u8 97, .int .u8 98, .int .u8 0, .int .u8 0, .int .u8 0, .int .u8 0, .int .u8 0, .int .u8 0, .int .u8 0, .int .u8 0, .int .u8 0, .int .u8 0, .int .u8 0], .int .i64 0]) ∧ Below wx.heap.size wx w' from hf)
  have HR := Lib.hid (Below.refl (ex13W w).heap.size (ex13W w))
  unfold ex13W ex13IO ex13TO ex13VO at HB HF HR
  clear hf hkc
  go_enter Tryz.func6, Tryz.ntmps6
  go_wp2_with (go_at_call 9; refine (HF.out _ HR.out).mono ?_; rintro e w1 ⟨rfl, hb1⟩; have HB1 := Lib.hid (HB.out.trans (hb1.mono HB.out.size)); clear hb1)
  go_ret
  exact ⟨rfl, HB1.out.alloc HB1.out.size _⟩
end Go.Proofs.YtinmdkhafamibaaGreat
