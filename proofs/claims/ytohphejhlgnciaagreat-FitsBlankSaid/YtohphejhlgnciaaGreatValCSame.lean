/- Contracts of package value: Deep, Great. -/
import Derived.Test.YtohphejhlgnciaaGreatValSame
namespace Go.Proofs.YtohphejhlgnciaaGreat
open Go.RowKit
set_option linter.unusedVariables false
theorem deep_part (T : VT) {j : Nat} (h : j ≤ T.len) : 1 + maxTo (fun i => deepT (T.kid i)) j ≤ deepT T := by
  rw [deepT_eq]
  have := maxTo_le (f := fun i => deepT (T.kid i)) (m := maxTo (fun i => deepT (T.kid i)) T.len) j (fun i hi => maxTo_ge (f := fun i => deepT (T.kid i)) (by omega))
  omega
end Go.Proofs.YtohphejhlgnciaaGreat
namespace Go.Proofs.YtohphejhlgnciaaGreat
open Go.RowKit
set_option linter.unusedVariables false
def CGreatTo (T : VT) (w : World) : Prop := Calls Tryz.prog 13 #[.agg #[.int .i64 T.kind, .int .u64 T.num, .string T.text, .slice T.ia T.len T.cap]] w fun e w' => e = .returned (.int .i64 (greatT T : Nat)) ∧ Below w.heap.size w w'
set_option maxHeartbeats 2000000 in
theorem great8_any (S : Nat → Prop) : ∀ (T : VT) (w : World), ValAt w S T → greatT T ≤ 1000000 → CGreatTo T w := by
  refine VT.ind fun T ih w H hd => ?_
  have HI := Lib.hid (fun i (hi : i < T.len) wx (hb : Below w.heap.size w wx) => ih i hi wx (kids_at H hb hi).2 (Nat.le_trans (Nat.le_of_lt (kid_great hi)) hd))
  have HC := Lib.hid (fun i (hi : i < T.len) wx (hb : Below w.heap.size w wx) => (kids_at H hb hi).1)
  have hlen := val_len H
  have hts := val_text H
  have hml : T.text.size ≤ maxLen := by unfold maxLen; omega
  have HD := Lib.hid (greatT_eq T)
  have HK := Lib.hid (fun i (hi : i ≤ T.len) => Nat.le_trans (sum_part T hi) hd)
  obtain ⟨F, hF⟩ : ∃ F : Nat → Nat, F = fun i => greatT (T.kid i) := ⟨_, rfl⟩
  rw [← hF] at HD HK
  have HF := Lib.hid hF
  obtain ⟨ao, hao⟩ : ∃ a, T.ia = a := ⟨_, rfl⟩
  have HAO := Lib.hid hao
  clear ih H hF
  unfold CGreatTo
  rw [hao]
  clear hao
  go_enter Tryz.func13, Tryz.ntmps13
  go_wp2
  go_loopw [3, 13] (fun n i wr => ∃ (j m : Nat), j ≤ T.len ∧ i = .int .i64 j ∧ n = .int .i64 m ∧ Hid (m = 1 + T.text.size + sumTo F j) ∧ m ≤ 1000000 ∧ Hid (Below w.heap.size w wr)) (fun _ i _ => T.len - (intOf i).toNat)
  case atStart => exact ⟨0, 1 + T.text.size, Nat.zero_le _, rfl, by go_num, Lib.hid rfl, HK.out 0 (Nat.zero_le _), Lib.hid ((Below.refl _ _).alloc (Nat.le_refl _) _)⟩
  case round =>
    obtain ⟨j, m, hj, rfl, rfl, HM, hm, HBr⟩ := hrel
    by_cases hlt : j < T.len
    · obtain ⟨b, off, hia, _, _, c0, c1, c2, c3⟩ := HC.out j hlt wr HBr.out
      obtain rfl : ao = some ⟨b, off, none⟩ := HAO.out.symm.trans hia
      have HN := Lib.hid (HI.out j hlt)
      have hk := HK.out (j + 1) hlt
      obtain ⟨d, hdd⟩ : ∃ d, greatT (T.kid j) = d := ⟨_, rfl⟩
      unfold CGreatTo at HN
      rw [hdd] at HN
      have hx : sumTo F (j + 1) = sumTo F j + d := by rw [sum_succ, HF.out, ← hdd]
      have HX := Lib.hid hx
      have hm2 : m + d ≤ 1000000 := by have := HM.out; omega
      have HW := Lib.hid (show Below w.heap.size w _ from (HBr.out.alloc (HBr.out.size) (.cells #[.int .i64 (T.kid j).kind, .int .u64 (T.kid j).num, .string (T.kid j).text, .slice (T.kid j).ia (T.kid j).len (T.kid j).cap] 26)))
      clear hdd hia hx hk
      go_wp2_with (go_at_call 13; refine (HN.out _ HW.out).mono ?_; rintro e w2 ⟨rfl, hb2⟩)
      all_goals
        have HB2 := Lib.hid (below_step8' HW.out hb2)
        go_roundw
        case rel => exact ⟨j + 1, m + d, by omega, by go_num, by go_num, Lib.hid (by rw [HX.out]; have := HM.out; omega), hm2, HB2⟩
        case measure => simp [intOf]; omega
    · obtain rfl : j = T.len := by omega
      go_wp2
      go_ret
      exact ⟨ret_i8 (by rw [HD.out, ← HM.out]), HBr.out⟩
def eqB (T U : VT) : Bool := T.len == U.len && allTo (fun i => sameT (T.kid i) (U.kid i)) T.len
end Go.Proofs.YtohphejhlgnciaaGreat
