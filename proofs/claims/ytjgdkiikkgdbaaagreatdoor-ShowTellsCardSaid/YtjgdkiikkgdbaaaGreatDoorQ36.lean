/- The reference's Operand of chapter 16: an operand's text, or that it may not be told. -/
import Derived.Test.YtjgdkiikkgdbaaaGreatDoorQ34
import Derived.Test.YtjgdkiikkgdbaaaGreatDoorQ35
namespace Go.Proofs.YtjgdkiikkgdbaaaGreatDoor
open Go.RowKit
set_option linter.unusedVariables false
def RTxTo (o : Opd) (w : World) (s : ByteArray) (e : Int) : Prop := Calls Tryz.prog 11 #[.agg #[.int .i64 o.kind, .string o.text, .bool o.neg, .int .u64 o.num]] w fun x w' => x = .returned (.tuple #[.string s, .int .i64 e]) ∧ Below w.heap.size w w'
theorem bthA {w a : World} {o : Obj} (h : Below (w.alloc o).heap.size (w.alloc o) a) : Below w.heap.size w a := bthN ((Below.refl _ _).alloc (Nat.le_refl _) _) h
theorem ret_s16 {a b : ByteArray} {k : Int} (h : a = b) : Ending.returned (.tuple #[.string a, .int .i64 k]) = .returned (.tuple #[.string b, .int .i64 k]) := by rw [h]
theorem rtx_good (o : Opd) (ho : OpX o) (hl : o.text.size ≤ 1000000) (w : World) (h : mayOB o = true) : RTxTo o w (bs (opTx o)) 0 := by
  have HM := Lib.hid (fun wx => may1_any o ho (by omega) wx)
  unfold RMay1To at HM
  have HM : Hid (∀ wx, Calls Tryz.prog 23 #[.agg #[.int .i64 o.kind, .string o.text, .bool o.neg, .int .u64 o.num]] wx fun e w' => e = .returned (.bool true) ∧ Below wx.heap.size wx w') := Lib.hid (fun wx => by have hh := HM.out wx; rwa [show mayOB ⟨o.kind, o.text, o.neg, o.num⟩ = true from h] at hh)
  obtain ⟨k, s, ng, num⟩ := o
  have hn0 : 0 ≤ num := ho.2.1
  have hn1 : num < 18446744073709551616 := ho.2.2
  have hl : s.size ≤ 1000000 := hl
  have HD := Lib.hid (fun wx => shDigits num hn0 hn1 wx)
  have hdl := shdec_len num.toNat (by omega)
  have HQ := Lib.hid (fun wx => refQuote_any s (by omega) wx)
  have HBD := Lib.hid (bs_data s)
  have hk : k = 1 ∨ k = 2 ∨ k = 3 ∨ k = 4 ∨ k = 5 := by
    have hh : ¬ ((decide (k < 1) || decide (5 < k) || (ng && !(k == 2)) || (!(s.data.toList == ([] : List UInt8)) && !(k == 1) && !(k == 3))) = true) := fun e => by
      unfold mayOB at h
      rw [if_pos e] at h
      exact absurd h (by decide)
    have q1 : ¬ k < 1 := fun e => hh (by rw [decide_eq_true e]; simp)
    have q2 : ¬ 5 < k := fun e => hh (by rw [decide_eq_true e]; simp)
    omega
  obtain ⟨D, hD⟩ : ∃ D, Lib.decDigits num.toNat = D := ⟨_, rfl⟩
  have HDD := Lib.hid hD
  rw [hD] at HD hdl
  have HHD := Lib.hid hD
  have hsz := bs_size
  unfold RTxTo
  obtain ⟨L, hL⟩ : ∃ L, opTx ⟨k, s, ng, num⟩ = L := ⟨_, rfl⟩
  rw [hL]
  have HL := Lib.hid hL
  clear h ho hD hL
  show Calls Tryz.prog 11 #[.agg #[.int .i64 k, .string s, .bool ng, .int .u64 num]] w _
  have HM : Hid (∀ wx, Calls Tryz.prog 23 #[.agg #[.int .i64 k, .string s, .bool ng, .int .u64 num]] wx fun e w' => e = .returned (.bool true) ∧ Below wx.heap.size wx w') := HM
  have HA := Lib.hid bs_append
  rcases hk with rfl | rfl | rfl | rfl | rfl
  · have HE := Lib.hid (show bs L = s by rw [← HL.out]; show bs s.data.toList = s; exact HBD.out)
    go_enter Tryz.func11, Tryz.ntmps11
    go_wp2_with (first
      | (go_at_call 24; refine (HD.out _).mono ?_; rintro e w2 ⟨rfl, hb⟩; have HB2 := Lib.hid (bthN HB1.out hb); have HR2 := Lib.hid (rowKeep hb HR1.out); obtain ⟨d2, d1, d3, d4⟩ := bx4 HR2.out; clear hb)
      | (go_at_call 23; refine (HM.out _).mono ?_; rintro e w1 ⟨rfl, hb⟩; have HB1 := Lib.hid (bthA hb); have HR1 := Lib.hid (rowKeep hb (alloc_at w _)); have d0 : w1.cell? ⟨w.heap.size, 3, none⟩ = some (.int .u64 num) := cell_at HR1.out rfl; clear hb))
    go_ret2
    exact ⟨ret_s16 HE.out.symm, HB2.out⟩
  · cases ng with
    | true =>
      have HE := Lib.hid (show bs L = bs (45 :: D) by rw [← HL.out, ← HDD.out]; rfl)
      have h45 : (⟨#[45]⟩ : ByteArray) = bs [45] := rfl
      go_enter Tryz.func11, Tryz.ntmps11
      go_wp2_with (first
      | (go_at_call 24; refine (HD.out _).mono ?_; rintro e w2 ⟨rfl, hb⟩; have HB2 := Lib.hid (bthN HB1.out hb); have HR2 := Lib.hid (rowKeep hb HR1.out); obtain ⟨d2, d1, d3, d4⟩ := bx4 HR2.out; clear hb)
      | (go_at_call 23; refine (HM.out _).mono ?_; rintro e w1 ⟨rfl, hb⟩; have HB1 := Lib.hid (bthA hb); have HR1 := Lib.hid (rowKeep hb (alloc_at w _)); have d0 : w1.cell? ⟨w.heap.size, 3, none⟩ = some (.int .u64 num) := cell_at HR1.out rfl; clear hb))
      go_ret2
      exact ⟨ret_s16 ((HA.out [45] D).trans HE.out.symm), HB2.out⟩
    | false =>
      have HE := Lib.hid (show bs L = bs D by rw [← HL.out, ← HDD.out]; rfl)
      go_enter Tryz.func11, Tryz.ntmps11
      go_wp2_with (first
      | (go_at_call 24; refine (HD.out _).mono ?_; rintro e w2 ⟨rfl, hb⟩; have HB2 := Lib.hid (bthN HB1.out hb); have HR2 := Lib.hid (rowKeep hb HR1.out); obtain ⟨d2, d1, d3, d4⟩ := bx4 HR2.out; clear hb)
      | (go_at_call 23; refine (HM.out _).mono ?_; rintro e w1 ⟨rfl, hb⟩; have HB1 := Lib.hid (bthA hb); have HR1 := Lib.hid (rowKeep hb (alloc_at w _)); have d0 : w1.cell? ⟨w.heap.size, 3, none⟩ = some (.int .u64 num) := cell_at HR1.out rfl; clear hb))
      go_ret2
      exact ⟨ret_s16 HE.out.symm, HB2.out⟩
  · have HE := Lib.hid (show bs L = bs (quoteL s.data.toList) by rw [← HL.out]; rfl)
    go_enter Tryz.func11, Tryz.ntmps11
    go_wp2_with (first
      | (go_at_call 24; refine (HD.out _).mono ?_; rintro e w2 ⟨rfl, hb⟩; have HB2 := Lib.hid (bthN HB1.out hb); have HR2 := Lib.hid (rowKeep hb HR1.out); obtain ⟨d2, d1, d3, d4⟩ := bx4 HR2.out; clear hb)
      | (go_at_call 25; refine (HQ.out _).mono ?_; rintro e w3 ⟨rfl, rfl⟩)
      | (go_at_call 23; refine (HM.out _).mono ?_; rintro e w1 ⟨rfl, hb⟩; have HB1 := Lib.hid (bthA hb); have HR1 := Lib.hid (rowKeep hb (alloc_at w _)); have d0 : w1.cell? ⟨w.heap.size, 3, none⟩ = some (.int .u64 num) := cell_at HR1.out rfl; clear hb))
    go_ret2
    exact ⟨ret_s16 HE.out.symm, HB2.out⟩
  · by_cases hn : num = 1
    · subst hn
      have HE := Lib.hid (show bs L = ⟨#[84, 82, 85, 69]⟩ by rw [← HL.out]; rfl)
      go_enter Tryz.func11, Tryz.ntmps11
      go_wp2_with (first
      | (go_at_call 24; refine (HD.out _).mono ?_; rintro e w2 ⟨rfl, hb⟩; have HB2 := Lib.hid (bthN HB1.out hb); have HR2 := Lib.hid (rowKeep hb HR1.out); obtain ⟨d2, d1, d3, d4⟩ := bx4 HR2.out; clear hb)
      | (go_at_call 23; refine (HM.out _).mono ?_; rintro e w1 ⟨rfl, hb⟩; have HB1 := Lib.hid (bthA hb); have HR1 := Lib.hid (rowKeep hb (alloc_at w _)); have d0 : w1.cell? ⟨w.heap.size, 3, none⟩ = some (.int .u64 1) := cell_at HR1.out rfl; clear hb))
      go_ret2
      exact ⟨ret_s16 HE.out.symm, HB2.out⟩
    · have z1 : (num == 1) = false := beq_eq_false_iff_ne.2 hn
      have HE := Lib.hid (show bs L = ⟨#[70, 65, 76, 83, 69]⟩ by rw [← HL.out, show opTx ⟨4, s, ng, num⟩ = (if num = 1 then kTRUE else kFALSE) from rfl, if_neg hn]; rfl)
      go_enter Tryz.func11, Tryz.ntmps11
      go_wp2_with (first
      | (go_at_call 24; refine (HD.out _).mono ?_; rintro e w2 ⟨rfl, hb⟩; have HB2 := Lib.hid (bthN HB1.out hb); have HR2 := Lib.hid (rowKeep hb HR1.out); obtain ⟨d2, d1, d3, d4⟩ := bx4 HR2.out; clear hb)
      | (go_at_call 23; refine (HM.out _).mono ?_; rintro e w1 ⟨rfl, hb⟩; have HB1 := Lib.hid (bthA hb); have HR1 := Lib.hid (rowKeep hb (alloc_at w _)); have d0 : w1.cell? ⟨w.heap.size, 3, none⟩ = some (.int .u64 num) := cell_at HR1.out rfl; clear hb))
      go_ret2
      exact ⟨ret_s16 HE.out.symm, HB2.out⟩
  · have HE := Lib.hid (show bs L = bs (37 :: D) by rw [← HL.out, ← HDD.out]; rfl)
    have h37 : (⟨#[37]⟩ : ByteArray) = bs [37] := rfl
    go_enter Tryz.func11, Tryz.ntmps11
    go_wp2_with (first
      | (go_at_call 24; refine (HD.out _).mono ?_; rintro e w2 ⟨rfl, hb⟩; have HB2 := Lib.hid (bthN HB1.out hb); have HR2 := Lib.hid (rowKeep hb HR1.out); obtain ⟨d2, d1, d3, d4⟩ := bx4 HR2.out; clear hb)
      | (go_at_call 23; refine (HM.out _).mono ?_; rintro e w1 ⟨rfl, hb⟩; have HB1 := Lib.hid (bthA hb); have HR1 := Lib.hid (rowKeep hb (alloc_at w _)); have d0 : w1.cell? ⟨w.heap.size, 3, none⟩ = some (.int .u64 num) := cell_at HR1.out rfl; clear hb))
    go_ret2
    exact ⟨ret_s16 ((HA.out [37] D).trans HE.out.symm), HB2.out⟩
end Go.Proofs.YtjgdkiikkgdbaaaGreatDoor
