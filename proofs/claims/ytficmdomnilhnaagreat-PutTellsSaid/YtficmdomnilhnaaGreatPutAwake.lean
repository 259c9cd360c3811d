/- Chapter 10's example. -/
import Derived.Test.YtficmdomnilhnaaGreatPutTop
namespace Go.Proofs.YtficmdomnilhnaaGreat
open Go.RowKit
set_option linter.unusedVariables false
def exP : Nat → TypeV := fun _ => noneT 10 2 0
def exPO : Obj := .cells #[.int .i64 10, .string ⟨#[]⟩, .int .i64 2, .int .i64 0, .int .i64 0, .slice none 0 0] 47
def exPV : VT := .node 10 0 ⟨#[97, 98]⟩ none 0 0 (fun _ => .nil)
theorem exP_at (w : World) : ∀ i, i < 1 → TypeAt (w.alloc exPO) (some ⟨w.heap.size, 0, none⟩) i (exP i) := by
  intro i hi
  have hb := alloc_at w exPO
  obtain rfl : i = 0 := by omega
  have hit : ItemsAt (w.alloc exPO) (noneT 10 2 0) := ⟨by simp [noneT], fun j hj => by simp [noneT] at hj⟩
  exact ⟨_, 0, rfl, cell_at hb rfl, cell_at hb rfl, cell_at hb rfl, cell_at hb rfl, cell_at hb rfl, cell_at hb rfl, by unfold TypeWf; decide, hit⟩
theorem exP_ok : fErr (oneR exP 1) 1 = 0 := by decide +kernel
theorem exP_fits : fitsA exP 1 0 exPV = 0 := by
  unfold fitsA
  have h : hasT exP 1 0 = true := hasT_yes (k := 0) (by decide) exP_ok
  rw [h, if_pos rfl, fits_leaf rfl]
  decide +kernel
theorem exP_row : rowT exP exPV 0 = [.num 3 4, .text (⟨#[97, 98]⟩ ++ ⟨#[0]⟩)] := rfl
theorem exP_bytes : putErr exP 1 0 exPV = 0 ∧ putBytes exP 1 0 exPV = ⟨#[3, 0, 0, 0, 97, 98, 0]⟩ := by
  have e2 : endR (rowT exP exPV (0 : Int).toNat) 0 = 7 := by
    show endR (rowT exP exPV 0) 0 = 7
    rw [exP_row]
    show numE 4 0 + ((⟨#[97, 98]⟩ : ByteArray) ++ ⟨#[0]⟩).size = 7
    rw [ByteArray.size_append]; rfl
  have e1 : putErr exP 1 0 exPV = 0 := by
    unfold putErr
    rw [exP_fits, if_neg (by decide), e2]
    rfl
  refine ⟨e1, ?_⟩
  unfold putBytes
  rw [if_pos e1]
  show bytR (rowT exP exPV 0) ⟨#[]⟩ = _
  rw [exP_row]
  decide +kernel
theorem exPV_at (w : World) : ValAt w (fun _ => False) exPV :=
  (valAt_iff _).2 ⟨⟨by kernel_rfl, by kernel_rfl, by show (⟨#[97, 98]⟩ : ByteArray).size ≤ _; decide, by show 0 ≤ _; decide⟩, fun i hi => absurd hi (Nat.not_lt_zero i)⟩
theorem awake10_any (w : World) : Calls Tryz.prog 8 #[] w fun e w' => e = .returned (.bool true) ∧ Below w.heap.size w w' := by
  have HB := Lib.hid ((Below.refl w.heap.size w).alloc (Nat.le_refl _) exPO)
  have hf := fun wx (h : Below (w.alloc exPO).heap.size (w.alloc exPO) wx) => put_any10 (some ⟨w.heap.size, 0, none⟩) 1 1 exP (by decide) (by decide) (fun i _ => Nat.le_refl _) _ 0 exPV wx (exPV_at wx) (hold (exP_at w) h)
  rw [exP_bytes.1, exP_bytes.2] at hf
  have HF := Lib.hid (show ∀ wx, Below (w.alloc exPO).heap.size (w.alloc exPO) wx → Calls Tryz.prog 9 #[.slice (some ⟨w.heap.size, 0, none⟩) 1 1, .int .i64 0, .agg #[.int .i64 10, .int .u64 0, .string ⟨#[97, 98]⟩, .slice none 0 0]] wx fun e w' => e = .returned (.tuple #[.string ⟨#[3, 0, 0, 0, 97, 98, 0]⟩, .int .i64 0]) ∧ Below wx.heap.size wx w' from hf)
  have HR := Lib.hid (Below.refl (w.alloc exPO).heap.size (w.alloc exPO))
  unfold exPO at HB HF HR
  clear hf
  go_enter Tryz.func8, Tryz.ntmps8
  go_wp2_with (go_at_call 9; refine (HF.out _ HR.out).mono ?_; rintro e w1 ⟨rfl, hb1⟩; have HB1 := Lib.hid hb1; clear hb1)
  go_ret
  exact ⟨rfl, HB.out.trans (HB1.out.mono HB.out.size)⟩
end Go.Proofs.YtficmdomnilhnaaGreat
