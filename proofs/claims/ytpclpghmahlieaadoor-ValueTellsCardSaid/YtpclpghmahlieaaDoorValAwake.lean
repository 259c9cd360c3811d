/- Chapter 8's example. -/
import Derived.Test.YtpclpghmahlieaaDoorValTop
namespace Go.Proofs.YtpclpghmahlieaaDoor
open Go.RowKit
set_option linter.unusedVariables false
def exA : VT := .node 3 65535 ⟨#[]⟩ none 0 0 (fun _ => .nil)
def exB : VT := .node 10 0 ⟨#[105, 116, 39, 115]⟩ none 0 0 (fun _ => .nil)
def exT (g : Nat) : VT := .node 13 0 ⟨#[]⟩ (some ⟨g, 0, none⟩) 2 2 (fun i => if i = 0 then exA else exB)
theorem exA_text : textT exA = [45, 49] := by
  rw [textT_num (T := exA) (by decide) (by decide) (by decide) (by decide) (by decide)]
  have e : datK exA.kind exA.num = ⟨1, true, 1, ⟨#[]⟩⟩ := by kernel_rfl
  rw [e]
  unfold datL
  rw [if_neg (by decide), if_pos rfl, if_pos rfl]
  show 45 :: Lib.decDigits 1 = _
  rw [Lib.decDigits_one (by decide)]
  rfl
theorem exB_text : textT exB = [39, 105, 116, 92, 50, 55, 115, 39] := by
  rw [textT_10 (T := exB) rfl]
  decide +kernel
theorem ex_text (g : Nat) : textT (exT g) = [40, 45, 49, 44, 39, 105, 116, 92, 50, 55, 115, 39, 41] := by
  rw [textT_struct (T := exT g) rfl]
  show 40 :: (joinTo commaS (fun i => textT ((exT g).kid i)) 2 ++ [41]) = _
  simp only [joinTo]
  rw [show (exT g).kid 0 = exA from rfl, show (exT g).kid 1 = exB from rfl, exA_text, exB_text]
  rfl
theorem ex_great (g : Nat) : greatT (exT g) = 7 := rfl
theorem ex_at (w w1 : World) (h : w1.heap[w.heap.size]? = some (.cells #[.int .i64 3, .int .u64 65535, .string ⟨#[]⟩, .slice none 0 0, .int .i64 10, .int .u64 0, .string ⟨#[105, 116, 39, 115]⟩, .slice none 0 0] 25 (0, 0))) :
    ValAt w1 (fun b => b = w.heap.size) (exT w.heap.size) := by
  have hl := lt_of_block h
  have hA : ValWf exA := ⟨by kernel_rfl, by kernel_rfl, by decide, by decide⟩
  have hB : ValWf exB := ⟨by kernel_rfl, by kernel_rfl, by decide, by decide⟩
  refine (valAt_iff _).2 ⟨⟨by kernel_rfl, by kernel_rfl, by show (⟨#[]⟩ : ByteArray).size ≤ _; decide, by show 2 ≤ _; decide⟩, fun i hi => ?_⟩
  have hi2 : i < 2 := hi
  match i, hi2 with
  | 0, _ => exact ⟨⟨w.heap.size, 0, rfl, rfl, hl, cell_at h rfl, cell_at h rfl, cell_at h rfl, cell_at h rfl⟩, (valAt_iff exA).2 ⟨hA, fun j hj => absurd hj (Nat.not_lt_zero j)⟩⟩
  | 1, _ => exact ⟨⟨w.heap.size, 0, rfl, rfl, hl, cell_at h rfl, cell_at h rfl, cell_at h rfl, cell_at h rfl⟩, (valAt_iff exB).2 ⟨hB, fun j hj => absurd hj (Nat.not_lt_zero j)⟩⟩
set_option maxHeartbeats 2000000 in
theorem awake8_any (w : World) (htab : Tab w) : Calls Tryd.prog 7 #[] w fun e w' => e = .returned (.bool true) ∧ Below w.heap.size w w' := by
  have hb0 := (Below.refl w.heap.size w).alloc (Nat.le_refl _) (.cells #[.int .i64 3, .int .u64 65535, .string ⟨#[]⟩, .slice none 0 0, .int .i64 10, .int .u64 0, .string ⟨#[105, 116, 39, 115]⟩, .slice none 0 0] 25)
  have hv := ex_at w _ (alloc_at w (.cells #[.int .i64 3, .int .u64 65535, .string ⟨#[]⟩, .slice none 0 0, .int .i64 10, .int .u64 0, .string ⟨#[105, 116, 39, 115]⟩, .slice none 0 0] 25))
  have HT := Lib.hid (text8_any _ _ _ hv (by rw [ex_great]; decide) (htab.next hb0))
  unfold CTextTo at HT
  rw [ex_text] at HT
  have HB := Lib.hid hb0
  clear hb0 hv
  go_enter Tryd.func7, Tryd.ntmps7
  go_wp2_with (first
    | (go_at_call 14; refine (HT.out).mono ?_; rintro e w2 ⟨rfl, hb2⟩; have HB2 := Lib.hid (below_step8' HB.out hb2); clear hb2))
  go_ret
  exact ⟨rfl, HB2.out⟩
end Go.Proofs.YtpclpghmahlieaaDoor
