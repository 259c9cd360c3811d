/- Chapter 8's example. -/
import Derived.Test.YtmnemddagcfjgaaGreatDoorValTop
namespace Go.Proofs.YtmnemddagcfjgaaGreatDoor
open Go.RowKit
set_option linter.unusedVariables false
def val8A : VT := .node 3 65535 ⟨#[]⟩ none 0 0 (fun _ => .nil)
def val8B : VT := .node 10 0 ⟨#[105, 116, 39, 115]⟩ none 0 0 (fun _ => .nil)
def exT (g : Nat) : VT := .node 13 0 ⟨#[]⟩ (some ⟨g, 0, none⟩) 2 2 (fun i => if i = 0 then val8A else val8B)
theorem exA_text : textT val8A = [45, 49] := by
  rw [textT_num (T := val8A) (by decide) (by decide) (by decide) (by decide) (by decide)]
  have e : datK val8A.kind val8A.num = ⟨1, true, 1, ⟨#[]⟩⟩ := by kernel_rfl
  rw [e]
  unfold datL
  rw [if_neg (by decide), if_pos rfl, if_pos rfl]
  show 45 :: Lib.decDigits 1 = _
  rw [Lib.decDigits_one (by decide)]
  rfl
theorem exB_text : textT val8B = [39, 105, 116, 92, 50, 55, 115, 39] := by
  rw [textT_10 (T := val8B) rfl]
  decide +kernel
theorem ex_text (g : Nat) : textT (exT g) = [40, 45, 49, 44, 39, 105, 116, 92, 50, 55, 115, 39, 41] := by
  rw [textT_struct (T := exT g) rfl]
  show 40 :: (joinTo commaS (fun i => textT ((exT g).kid i)) 2 ++ [41]) = _
  simp only [joinTo]
  rw [show (exT g).kid 0 = val8A from rfl, show (exT g).kid 1 = val8B from rfl, exA_text, exB_text]
  rfl
theorem ex_great (g : Nat) : greatT (exT g) = 7 := rfl
theorem ex_at (w w1 : World) (h : w1.heap[w.heap.size]? = some (.cells #[.int .i64 3, .int .u64 65535, .string ⟨#[]⟩, .slice none 0 0, .int .i64 10, .int .u64 0, .string ⟨#[105, 116, 39, 115]⟩, .slice none 0 0] 28 (0, 0))) :
    ValAt w1 (fun b => b = w.heap.size) (exT w.heap.size) := by
  have hl := lt_of_block h
  have hA : ValWf val8A := ⟨by kernel_rfl, by kernel_rfl, by decide, by decide⟩
  have hB : ValWf val8B := ⟨by kernel_rfl, by kernel_rfl, by decide, by decide⟩
  refine (valAt_iff _).2 ⟨⟨by kernel_rfl, by kernel_rfl, by show (⟨#[]⟩ : ByteArray).size ≤ _; decide, by show 2 ≤ _; decide⟩, fun i hi => ?_⟩
  have hi2 : i < 2 := hi
  match i, hi2 with
  | 0, _ => exact ⟨⟨w.heap.size, 0, rfl, rfl, hl, cell_at h rfl, cell_at h rfl, cell_at h rfl, cell_at h rfl⟩, (valAt_iff val8A).2 ⟨hA, fun j hj => absurd hj (Nat.not_lt_zero j)⟩⟩
  | 1, _ => exact ⟨⟨w.heap.size, 0, rfl, rfl, hl, cell_at h rfl, cell_at h rfl, cell_at h rfl, cell_at h rfl⟩, (valAt_iff val8B).2 ⟨hB, fun j hj => absurd hj (Nat.not_lt_zero j)⟩⟩
end Go.Proofs.YtmnemddagcfjgaaGreatDoor
