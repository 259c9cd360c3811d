/- The reference's Text of chapter 16. -/
import Derived.Test.YtjgdkiikkgdbaaaGreatDoorQ24
import Derived.Test.YtjgdkiikkgdbaaaGreatDoorQ56
import Derived.Test.YtjgdkiikkgdbaaaGreatDoorQ57
import Derived.Test.YtjgdkiikkgdbaaaGreatDoorQ61
namespace Go.Proofs.YtjgdkiikkgdbaaaGreatDoor
open Go.RowKit
set_option linter.unusedVariables false
def RTextC (T : XT) (w : World) (s : ByteArray) (e : Int) : Prop := Calls Tryz.prog 9 #[.agg #[.int .i64 T.op, .int .i64 T.rel, .slice T.aa T.an T.ac, .slice T.ka T.kn T.kc]] w fun x w' => x = .returned (.tuple #[.string s, .int .i64 e]) ∧ Below w.heap.size w w'
theorem great_sm : ∀ (T : XT) (d : Nat), greatX T d = false → SmX T := by
  refine XT.ind fun T ih d h => ?_
  obtain ⟨_, h3, _, h5, _⟩ := great_size T d h
  exact (smx_iff T).2 ⟨fun i hi => Nat.le_trans (h3 i hi) (by decide), fun i hi => ih i hi (d + 1) (h5 i hi)⟩
theorem rtext_no (S : Nat → Prop) (T : XT) (w : World) (H : XAt w S T) (HX : XTx T) (hg : greatX T 0 = false) (hm : mayB T = false) : RTextC T w ⟨#[]⟩ 1 := by
  have HM := Lib.hid (fun wx (hb : Below w.heap.size w wx) => rmay_any S T wx (H.next hb) HX (great_sm T 0 hg))
  rw [hm] at HM
  unfold RMayC at HM
  clear H HX hg hm
  unfold RTextC
  go_enter Tryz.func9, Tryz.ntmps9
  go_wp2_with (go_at_call 18; refine (HM.out _ ((Below.refl _ _).alloc (Nat.le_refl _) _)).mono ?_; rintro e w1 ⟨rfl, hb⟩; have HB1 := Lib.hid (bthA hb); clear hb)
  go_ret2
  exact ⟨rfl, HB1.out⟩
set_option maxHeartbeats 2000000 in
theorem rtext_ok (S : Nat → Prop) (T : XT) (w : World) (H : XAt w S T) (HX : XTx T) (hg : greatX T 0 = false) (hm : mayB T = true) (x : XT) (hp : ∀ wx, Calls Tryz.prog 20 #[.string (bs (showX T))] wx (ParseTo wx (.good x))) : RTextC T w (bs (showX T)) 0 := by
  have HM := Lib.hid (fun wx (hb : Below w.heap.size w wx) => rmay_any S T wx (H.next hb) HX (great_sm T 0 hg))
  have HT := Lib.hid (fun wx (hb : Below w.heap.size w wx) => rtree_any S T 0 wx (H.next hb) HX hm hg)
  have HP := Lib.hid hp
  rw [hm] at HM
  unfold RMayC at HM
  unfold RTreeC at HT
  obtain ⟨K, hK⟩ : ∃ K, showX T = K := ⟨_, rfl⟩
  rw [hK] at HT HP ⊢
  clear H HX hg hm hp hK
  unfold RTextC
  go_enter Tryz.func9, Tryz.ntmps9
  go_wp2_with (first
    | (go_at_call 20; refine (HP.out _).mono ?_; rintro e w3 ⟨hb, T2, rfl, _, _⟩; have HB3 := Lib.hid (bthN HB2.out hb); have Q3 := Lib.hid (rowKeep hb Q2.out); clear hb)
    | (go_at_call 19; refine (HT.out _ HB1.out).mono ?_; rintro e w2 ⟨rfl, hb⟩; have HB2 := Lib.hid (bthN HB1.out hb); have Q2 := Lib.hid (rowKeep hb Q1.out); clear hb)
    | (go_at_call 18; refine (HM.out _ ((Below.refl _ _).alloc (Nat.le_refl _) _)).mono ?_; rintro e w1 ⟨rfl, hb⟩; have HB1 := Lib.hid (bthA hb); have Q1 := Lib.hid (rowKeep hb (alloc_at w _)); obtain ⟨d0, d1, d2, d3⟩ := bx4 Q1.out; clear hb))
  go_ret2
  exact ⟨ret_s16 rfl, (HB3.out.alloc HB3.out.size _).alloc (by rw [World.size_alloc]; have := HB3.out.size; omega) _⟩
set_option maxHeartbeats 2000000 in
theorem rtext_bad (S : Nat → Prop) (T : XT) (w : World) (H : XAt w S T) (HX : XTx T) (hg : greatX T 0 = false) (hm : mayB T = true) (e a : Nat) (he : e ≠ 0) (hp : ∀ wx, Calls Tryz.prog 20 #[.string (bs (showX T))] wx (ParseTo wx (.bad e a))) : RTextC T w ⟨#[]⟩ e := by
  have HM := Lib.hid (fun wx (hb : Below w.heap.size w wx) => rmay_any S T wx (H.next hb) HX (great_sm T 0 hg))
  have HT := Lib.hid (fun wx (hb : Below w.heap.size w wx) => rtree_any S T 0 wx (H.next hb) HX hm hg)
  have HP := Lib.hid hp
  rw [hm] at HM
  unfold RMayC at HM
  unfold RTreeC at HT
  obtain ⟨K, hK⟩ : ∃ K, showX T = K := ⟨_, rfl⟩
  rw [hK] at HT HP
  have q1 : ¬ (e : Int) = 0 := by omega
  have q2 : ((e : Int) == 0) = false := beq_eq_false_iff_ne.2 q1
  clear H HX hg hm hp hK he
  unfold RTextC
  go_enter Tryz.func9, Tryz.ntmps9
  go_wp2_with (first
    | (go_at_call 20; refine (HP.out _).mono ?_; rintro x w3 ⟨hb, rfl⟩; have HB3 := Lib.hid (bthN HB2.out hb); have Q3 := Lib.hid (rowKeep hb Q2.out); clear hb)
    | (go_at_call 19; refine (HT.out _ HB1.out).mono ?_; rintro e w2 ⟨rfl, hb⟩; have HB2 := Lib.hid (bthN HB1.out hb); have Q2 := Lib.hid (rowKeep hb Q1.out); clear hb)
    | (go_at_call 18; refine (HM.out _ ((Below.refl _ _).alloc (Nat.le_refl _) _)).mono ?_; rintro e w1 ⟨rfl, hb⟩; have HB1 := Lib.hid (bthA hb); have Q1 := Lib.hid (rowKeep hb (alloc_at w _)); obtain ⟨d0, d1, d2, d3⟩ := bx4 Q1.out; clear hb))
  all_goals go_quiet (fail)
  all_goals go_wp2_with (fail)
  go_ret2
  exact ⟨ret_s16 rfl, below_drewN ((HB3.out.alloc HB3.out.size _).alloc (by rw [World.size_alloc]; have := HB3.out.size; omega) _) _⟩
end Go.Proofs.YtjgdkiikkgdbaaaGreatDoor
/- The reference's Text and Operand, whatever they answer. -/
namespace Go.Proofs.YtjgdkiikkgdbaaaGreatDoor
open Go.RowKit
set_option linter.unusedVariables false
theorem rparse16 (l : List UInt8) (hl : l.length ≤ 1000000000) (w : World) : Calls Tryz.prog 20 #[.string (bs l)] w (ParseTo w (parseA l)) := by
  by_cases h : l.length ≤ 256
  · exact rparse_any l h w
  · have e : parseA l = .bad 3 0 := by unfold parseA tokA; rw [if_pos (by omega)]
    rw [e]
    exact rparse_long (bs l) (by rw [bs_size]; omega) (by rw [bs_size]; omega) w
theorem rText_any (T : XT) (w : World) (H : XHas w T) (HX : XTx T) (hg : greatX T 0 = false) : RTextC T w (ansS T) (ansEr T) := by
  obtain ⟨S, H⟩ := H
  cases hm : mayB T with
  | false => obtain ⟨h1, h2⟩ := ans_no hm; rw [h1, h2]; exact rtext_no S T w H HX hg hm
  | true =>
    have hlen := show_len T 0 hg HX hm
    have hgs := (great_size T 0 hg).1.2
    have hp2 := fun wx => rparse16 (showX T) (by omega) wx
    cases hp : parseA (showX T) with
    | good x => obtain ⟨h1, h2⟩ := ans_ok hm hp; rw [h1, h2]; rw [hp] at hp2; exact rtext_ok S T w H HX hg hm x hp2
    | bad e a => obtain ⟨h1, h2⟩ := ans_bad hm hp; rw [h1, h2]; rw [hp] at hp2; exact rtext_bad S T w H HX hg hm e a (parseA_ne hp) hp2
end Go.Proofs.YtjgdkiikkgdbaaaGreatDoor
