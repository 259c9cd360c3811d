/- Contracts of chapter 8's reference: Deep, Great. -/
import Derived.Test.YtpclpghmahlieaaDoorValAt
import Derived.Test.YtpclpghmahlieaaDoorOwn
import Derived.OwnWalk
import Derived.LoopN
namespace Go.Proofs.YtpclpghmahlieaaDoor
open Go.RowKit
set_option linter.unusedVariables false
theorem below_step8' {w a b : World} (h : Below w.heap.size w a) (k : Below a.heap.size a b) : Below w.heap.size w b := h.trans (k.mono h.size)
theorem max_succ (f : Nat → Nat) (j : Nat) : maxTo f (j + 1) = max (maxTo f j) (f j) := rfl
theorem sum_succ (f : Nat → Nat) (j : Nat) : sumTo f (j + 1) = sumTo f j + f j := rfl
/-- an Item, met in its place, behind whatever was made since -/
theorem kids_at {w : World} {S : Nat → Prop} {T : VT} (H : ValAt w S T) {wx : World} (hb : Below w.heap.size w wx) {i : Nat} (hi : i < T.len) : CellsAt wx S T.ia i (T.kid i) ∧ ValAt wx S (T.kid i) := by
  have h := ((valAt_iff T).1 H).2 i hi
  exact ⟨h.1.next hb, h.2.next hb⟩
theorem val_len {w : World} {S : Nat → Prop} {T : VT} (H : ValAt w S T) : T.len ≤ 2513169434843 := ((valAt_iff T).1 H).1.2.2.2
theorem val_text {w : World} {S : Nat → Prop} {T : VT} (H : ValAt w S T) : T.text.size ≤ 140737488351232 := ((valAt_iff T).1 H).1.2.2.1
theorem box_keep {w w1 : World} {b : Nat} {o : Obj} (h : w.heap[b]? = some o) (hb : Below w.heap.size w w1) : w1.heap[b]? = some o := (hb.block b (lt_of_block h)).trans h
theorem ret_i8 {k : IntKind} {a b : Int} (h : a = b) : Ending.returned (.int k a) = .returned (.int k b) := by rw [h]
def RDeepTo (T : VT) (w : World) : Prop := Calls Tryd.prog 11 #[.agg #[.int .i64 T.kind, .int .u64 T.num, .string T.text, .slice T.ia T.len T.cap]] w fun e w' => e = .returned (.int .i64 (deepT T : Nat)) ∧ Below w.heap.size w w'
set_option maxHeartbeats 2000000 in
theorem refDeep8_any (S : Nat → Prop) : ∀ (T : VT) (w : World), ValAt w S T → deepT T ≤ 1000000 → RDeepTo T w := by
  refine VT.ind fun T ih w H hd => ?_
  have HI := Lib.hid (fun i (hi : i < T.len) wx (hb : Below w.heap.size w wx) => ih i hi wx (kids_at H hb hi).2 (Nat.le_trans (Nat.le_of_lt (kid_deep hi)) hd))
  have HC := Lib.hid (fun i (hi : i < T.len) wx (hb : Below w.heap.size w wx) => (kids_at H hb hi).1)
  have hlen := val_len H
  have HD := Lib.hid (deepT_eq T)
  have HK := Lib.hid (fun i (hi : i < T.len) => Nat.le_trans (Nat.le_of_lt (kid_deep hi)) hd)
  obtain ⟨F, hF⟩ : ∃ F : Nat → Nat, F = fun i => deepT (T.kid i) := ⟨_, rfl⟩
  have HF := Lib.hid hF
  clear ih H hF
  unfold RDeepTo
  go_enter Tryd.func11, Tryd.ntmps11
  go_wp2
  go_loopw [3, 4] (fun n i wr => ∃ (j m : Nat), j ≤ T.len ∧ i = .int .i64 j ∧ n = .int .i64 m ∧ Hid (m = 1 + maxTo F j) ∧ m ≤ 1000001 ∧ Hid (wr.heap[w.heap.size]? = some (valO T)) ∧ Hid (Below w.heap.size w wr)) (fun _ i _ => T.len - (intOf i).toNat)
  case atStart => exact ⟨0, 1, Nat.zero_le _, rfl, rfl, Lib.hid rfl, by omega, Lib.hid (alloc_at w _), Lib.hid ((Below.refl _ _).alloc (Nat.le_refl _) _)⟩
  case round =>
    obtain ⟨j, m, hj, rfl, rfl, HM, hm, HQ, HBr⟩ := hrel
    by_cases hlt : j < T.len
    · obtain ⟨b, off, hia, _, _, c0, c1, c2, c3⟩ := HC.out j hlt wr HBr.out
      have d3 : wr.cell? ⟨w.heap.size, 3, none⟩ = some (.slice (some ⟨b, off, none⟩) T.len T.cap) := by rw [← hia]; exact cell_at HQ.out rfl
      have HN := Lib.hid (HI.out j hlt wr HBr.out)
      have hk := HK.out j hlt
      obtain ⟨d, hdd⟩ : ∃ d, deepT (T.kid j) = d := ⟨_, rfl⟩
      unfold RDeepTo at HN
      rw [hdd] at HN hk
      have HX := Lib.hid (show maxTo F (j + 1) = max (maxTo F j) d by rw [max_succ, HF.out, ← hdd])
      clear hdd hia
      go_wp2_with (go_at_call 11; refine (HN.out).mono ?_; rintro e w2 ⟨rfl, hb2⟩)
      · have HQ2 := Lib.hid (box_keep HQ.out hb2)
        have HB2 := Lib.hid (HBr.out.trans (hb2.mono HBr.out.size))
        have hgt : (m : Int) < (d : Int) + 1 := by assumption
        go_roundw
        case rel => exact ⟨j + 1, d + 1, by omega, by go_num, by go_num, Lib.hid (by rw [HX.out]; have := HM.out; omega), by omega, HQ2, HB2⟩
        case measure => simp [intOf]; omega
      · have HQ2 := Lib.hid (box_keep HQ.out hb2)
        have HB2 := Lib.hid (HBr.out.trans (hb2.mono HBr.out.size))
        have hgt : (d : Int) + 1 ≤ (m : Int) := by assumption
        go_roundw
        case rel => exact ⟨j + 1, m, by omega, by go_num, rfl, Lib.hid (by rw [HX.out]; have := HM.out; omega), hm, HQ2, HB2⟩
        case measure => simp [intOf]; omega
    · obtain rfl : j = T.len := by omega
      have d3 : wr.cell? ⟨w.heap.size, 3, none⟩ = some (.slice T.ia T.len T.cap) := cell_at HQ.out rfl
      go_wp2
      go_ret
      exact ⟨ret_i8 (by rw [HD.out, HM.out, HF.out]), HBr.out⟩
def RGreatTo (T : VT) (w : World) : Prop := Calls Tryd.prog 13 #[.agg #[.int .i64 T.kind, .int .u64 T.num, .string T.text, .slice T.ia T.len T.cap]] w fun e w' => e = .returned (.int .i64 (greatT T : Nat)) ∧ Below w.heap.size w w'
theorem sum_part (T : VT) {j : Nat} (h : j ≤ T.len) : 1 + T.text.size + sumTo (fun i => greatT (T.kid i)) j ≤ greatT T := by
  rw [greatT_eq]; have := sumTo_le (f := fun i => greatT (T.kid i)) h; omega
set_option maxHeartbeats 2000000 in
theorem refGreat8_any (S : Nat → Prop) : ∀ (T : VT) (w : World), ValAt w S T → greatT T ≤ 1000000 → RGreatTo T w := by
  refine VT.ind fun T ih w H hd => ?_
  have HI := Lib.hid (fun i (hi : i < T.len) wx (hb : Below w.heap.size w wx) => ih i hi wx (kids_at H hb hi).2 (Nat.le_trans (Nat.le_of_lt (kid_great hi)) hd))
  have HC := Lib.hid (fun i (hi : i < T.len) wx (hb : Below w.heap.size w wx) => (kids_at H hb hi).1)
  have hlen := val_len H
  have hts := val_text H
  have hml : T.text.size ≤ maxLen := by unfold maxLen; omega
  have HD := Lib.hid (greatT_eq T)
  have HK := Lib.hid (fun i (hi : i ≤ T.len) => Nat.le_trans (sum_part T hi) hd)
  obtain ⟨F, hF⟩ : ∃ F : Nat → Nat, F = fun i => greatT (T.kid i) := ⟨_, rfl⟩
  rw [← hF] at HD HK
  have HF := Lib.hid hF
  clear ih H hF
  unfold RGreatTo
  go_enter Tryd.func13, Tryd.ntmps13
  go_wp2
  go_loopw [3, 4] (fun n i wr => ∃ (j m : Nat), j ≤ T.len ∧ i = .int .i64 j ∧ n = .int .i64 m ∧ Hid (m = 1 + T.text.size + sumTo F j) ∧ m ≤ 1000000 ∧ Hid (wr.heap[w.heap.size]? = some (valO T)) ∧ Hid (Below w.heap.size w wr)) (fun _ i _ => T.len - (intOf i).toNat)
  case atStart => exact ⟨0, 1 + T.text.size, Nat.zero_le _, rfl, by go_num, Lib.hid rfl, HK.out 0 (Nat.zero_le _), Lib.hid (alloc_at w _), Lib.hid ((Below.refl _ _).alloc (Nat.le_refl _) _)⟩
  case round =>
    obtain ⟨j, m, hj, rfl, rfl, HM, hm, HQ, HBr⟩ := hrel
    by_cases hlt : j < T.len
    · obtain ⟨b, off, hia, _, _, c0, c1, c2, c3⟩ := HC.out j hlt wr HBr.out
      have d3 : wr.cell? ⟨w.heap.size, 3, none⟩ = some (.slice (some ⟨b, off, none⟩) T.len T.cap) := by rw [← hia]; exact cell_at HQ.out rfl
      have HN := Lib.hid (HI.out j hlt wr HBr.out)
      have hk := HK.out (j + 1) hlt
      obtain ⟨d, hdd⟩ : ∃ d, greatT (T.kid j) = d := ⟨_, rfl⟩
      unfold RGreatTo at HN
      rw [hdd] at HN
      have hx : sumTo F (j + 1) = sumTo F j + d := by rw [sum_succ, HF.out, ← hdd]
      have hmd : m + d ≤ 1000000 := by have := HM.out; omega
      have HX := Lib.hid hx
      clear hdd hia hx hk
      go_wp2_with (go_at_call 13; refine (HN.out).mono ?_; rintro e w2 ⟨rfl, hb2⟩)
      have HQ2 := Lib.hid (box_keep HQ.out hb2)
      have HB2 := Lib.hid (HBr.out.trans (hb2.mono HBr.out.size))
      go_roundw
      case rel => exact ⟨j + 1, m + d, by omega, by go_num, by go_num, Lib.hid (by rw [HX.out]; have := HM.out; omega), hmd, HQ2, HB2⟩
      case measure => simp [intOf]; omega
    · obtain rfl : j = T.len := by omega
      have d3 : wr.cell? ⟨w.heap.size, 3, none⟩ = some (.slice T.ia T.len T.cap) := cell_at HQ.out rfl
      go_wp2
      go_ret
      exact ⟨ret_i8 (by rw [HD.out, HM.out]), HBr.out⟩
end Go.Proofs.YtpclpghmahlieaaDoor
