/- The code's Operand and Text. -/
import Derived.Test.YtjgdkiikkgdbaaaGreatDoorQ23
import Derived.Test.YtjgdkiikkgdbaaaGreatDoorQ33
import Derived.Test.YtjgdkiikkgdbaaaGreatDoorQ34
namespace Go.Proofs.YtjgdkiikkgdbaaaGreatDoor
open Go.RowKit
set_option linter.unusedVariables false
set_option linter.unusedSimpArgs false
def COpTo (o : Opd) (w : World) (s : ByteArray) (e : Int) : Prop := Calls Tryz.prog 10 #[.agg #[.int .i64 o.kind, .string o.text, .bool o.neg, .int .u64 o.num]] w fun x w' => x = .returned (.tuple #[.string s, .int .i64 e]) ∧ Below w.heap.size w w'
theorem cOp_bad (o : Opd) (ho : OpX o) (hs : o.text.size ≤ 1000000) (w : World) (hV : LibAt w) (h : mayOB o = false) : COpTo o w ⟨#[]⟩ 1 := by
  have HM := Lib.hid (fun wx (hb : Below w.heap.size w wx) => isO_any o ho (by omega) wx (hV.held hb))
  rw [h] at HM
  unfold IsOTo at HM
  unfold COpTo
  clear hV
  go_enter Tryz.func10, Tryz.ntmps10
  go_wp2_with (go_at_call 21; refine (HM.out _ bel1).mono ?_; rintro e w1 ⟨rfl, hb⟩; have HB1 := Lib.hid (bthN bel1 hb); clear hb)
  go_ret2
  exact ⟨rfl, HB1.out⟩
set_option maxRecDepth 100000 in
set_option maxHeartbeats 4000000 in
theorem cOp_good (o : Opd) (ho : OpX o) (hs : o.text.size ≤ 1000000) (w : World) (hV : LibAt w) (hT : Tab w) (h : mayOB o = true) : COpTo o w (bs (opTx o)) 0 := by
  have HM := Lib.hid (fun wx (hb : Below w.heap.size w wx) => isO_any o ho (by omega) wx (hV.held hb))
  have HP := Lib.hid (fun w1 wx (hb : Below w.heap.size w w1) (hx : TxtAt 48 w1.heap.size w1.heap.size [] wx) (hbx : Below w1.heap.size w1 wx) => pOpd_any o h ho hs w1.heap.size w1.heap.size [] wx hx ((env_of hV hT hb).next hbx) (by decide) hbx.size)
  have hne := opTx_ne h
  rw [h] at HM
  unfold IsOTo at HM
  unfold POpdTo at HP
  unfold COpTo
  obtain ⟨t, ht⟩ : ∃ t, opTx o = t := ⟨_, rfl⟩
  rw [ht] at HP hne ⊢
  have HST := Lib.hid (fun (B b : Nat) (wx : World) (hx : TxtF 48 B b t wx) => stringF _ B b t wx hx hne)
  clear hV hT h ht hne ho hs
  go_enter Tryz.func10, Tryz.ntmps10
  go_wp2_with (first
    | (go_at_call 17; refine (HST.out _ _ _ H2.out.txt.toF).mono ?_; rintro e w3 ⟨rfl, hb, _⟩; have HB3 := Lib.hid (show Below w.heap.size w w3 from HB2.out.trans (hb.mono HB1.out.size)); clear hb)
    | (go_at_call 22; refine (HP.out w1 _ HB1.out (Lib.fresh_isBuilder _ _ w1) bel1).mono ?_; rintro e w2 ⟨rfl, h2⟩; have H2 := Lib.hid h2; have HB2 := Lib.hid (show Below w.heap.size w w2 from HB1.out.trans ((bel1.trans h2.bel).mono HB1.out.size)); clear h2)
    | (go_at_call 21; refine (HM.out _ bel1).mono ?_; rintro e w1 ⟨rfl, hb⟩; have HB1 := Lib.hid (bthN bel1 hb); have Q1 := Lib.hid (rowKeep hb (alloc_at w _)); have hlt1 : w.heap.size < w1.heap.size := lt_of_block Q1.out; have hne1 : ¬ w.heap.size = w1.heap.size := (by omega); obtain ⟨d0, d1, d2, d3⟩ := bx4 Q1.out; clear hb))
  go_ret2
  exact ⟨rfl, HB3.out⟩
end Go.Proofs.YtjgdkiikkgdbaaaGreatDoor
