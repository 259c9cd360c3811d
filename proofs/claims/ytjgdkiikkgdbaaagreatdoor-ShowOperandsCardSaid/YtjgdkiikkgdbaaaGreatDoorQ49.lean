/- The reference's Operand of chapter 16: an operand's text, or that it may not be told. -/
import Derived.Test.YtjgdkiikkgdbaaaGreatDoorQ36
namespace Go.Proofs.YtjgdkiikkgdbaaaGreatDoor
open Go.RowKit
set_option linter.unusedVariables false
theorem rtx_bad (o : Opd) (ho : OpX o) (hl : o.text.size ≤ 1000000) (w : World) (h : mayOB o = false) : RTxTo o w ⟨#[]⟩ 1 := by
  have HM := Lib.hid (fun wx => may1_any o ho (by omega) wx)
  unfold RMay1To at HM
  have HM : Hid (∀ wx, Calls Tryz.prog 23 #[.agg #[.int .i64 o.kind, .string o.text, .bool o.neg, .int .u64 o.num]] wx fun e w' => e = .returned (.bool false) ∧ Below wx.heap.size wx w') := Lib.hid (fun wx => by have hh := HM.out wx; rwa [show mayOB ⟨o.kind, o.text, o.neg, o.num⟩ = false from h] at hh)
  clear h ho hl
  unfold RTxTo
  obtain ⟨k, s, ng, num⟩ := o
  go_enter Tryz.func11, Tryz.ntmps11
  go_wp2_with (go_at_call 23; refine (HM.out _).mono ?_; rintro e w1 ⟨rfl, hb⟩; have HB1 := Lib.hid (bthA hb); clear hb)
  go_ret2
  exact ⟨rfl, HB1.out⟩
end Go.Proofs.YtjgdkiikkgdbaaaGreatDoor
