/- Contracts of package value: Deep, Great. -/
import Derived.Test.YtohphejhlgnciaaValSame
namespace Go.Proofs.Ytohphejhlgnciaa
open Go.RowKit
set_option linter.unusedVariables false
def CDeepTo (T : VT) (w : World) : Prop := Calls Try.prog 8 #[.agg #[.int .i64 T.kind, .int .u64 T.num, .string T.text, .slice T.ia T.len T.cap]] w fun e w' => e = .returned (.int .i64 (deepT T : Nat)) ∧ Below w.heap.size w w'
theorem deep_part (T : VT) {j : Nat} (h : j ≤ T.len) : 1 + maxTo (fun i => deepT (T.kid i)) j ≤ deepT T := by
  rw [deepT_eq]
  have := maxTo_le (f := fun i => deepT (T.kid i)) (m := maxTo (fun i => deepT (T.kid i)) T.len) j (fun i hi => maxTo_ge (f := fun i => deepT (T.kid i)) (by omega))
  omega
set_option maxHeartbeats 2000000 in
theorem deep8_any (S : Nat → Prop) : ∀ (T : VT) (w : World), ValAt w S T → deepT T ≤ 1000000 → CDeepTo T w := by
  refine VT.ind fun T ih w H hd => ?_
  have HI := Lib.hid (fun i (hi : i < T.len) wx (hb : Below w.heap.size w wx) => ih i hi wx (kids_at H hb hi).2 (Nat.le_trans (Nat.le_of_lt (kid_deep hi)) hd))
  have HC := Lib.hid (fun i (hi : i < T.len) wx (hb : Below w.heap.size w wx) => (kids_at H hb hi).1)
  have hlen := val_len H
  have HD := Lib.hid (deepT_eq T)
  have HK := Lib.hid (fun i (hi : i ≤ T.len) => Nat.le_trans (deep_part T hi) hd)
  obtain ⟨F, hF⟩ : ∃ F : Nat → Nat, F = fun i => deepT (T.kid i) := ⟨_, rfl⟩
  rw [← hF] at HD HK
  have HF := Lib.hid hF
  obtain ⟨ao, hao⟩ : ∃ a, T.ia = a := ⟨_, rfl⟩
  have HAO := Lib.hid hao
  clear ih H hF
  unfold CDeepTo
  rw [hao]
  clear hao
  have HQ := Lib.hid (alloc_at w (.cells #[.int .i64 T.kind, .int .u64 T.num, .string T.text, .slice ao T.len T.cap] 26))
  go_enter Try.func8, Try.ntmps8
  go_wp2
  go_loopw [3, 9] (fun n i wr => ∃ (j m : Nat), j ≤ T.len ∧ i = .int .i64 j ∧ n = .int .i64 m ∧ Hid (m = maxTo F j) ∧ m ≤ 1000000 ∧ Hid (Below w.heap.size w wr)) (fun _ i _ => T.len - (intOf i).toNat)
  case atStart => exact ⟨0, 0, Nat.zero_le _, rfl, rfl, Lib.hid rfl, by omega, Lib.hid ((Below.refl _ _).alloc (Nat.le_refl _) _)⟩
  case round =>
    obtain ⟨j, m, hj, rfl, rfl, HM, hm, HBr⟩ := hrel
    by_cases hlt : j < T.len
    · obtain ⟨b, off, hia, _, _, c0, c1, c2, c3⟩ := HC.out j hlt wr HBr.out
      obtain rfl : ao = some ⟨b, off, none⟩ := HAO.out.symm.trans hia
      have HN := Lib.hid (HI.out j hlt)
      have hk := HK.out (j + 1) hlt
      obtain ⟨d, hdd⟩ : ∃ d, deepT (T.kid j) = d := ⟨_, rfl⟩
      unfold CDeepTo at HN
      rw [hdd] at HN
      have hx : maxTo F (j + 1) = max (maxTo F j) d := by rw [max_succ, HF.out, ← hdd]
      have HX := Lib.hid hx
      have hm2 : max m d ≤ 1000000 := by have := HM.out; omega
      obtain ⟨q, hq⟩ : ∃ q, max m d = q := ⟨_, rfl⟩
      have hmm : max (m : Int) (d : Int) = (q : Nat) := by omega
      have HW := Lib.hid (show Below w.heap.size w _ from (HBr.out.alloc (HBr.out.size) (.cells #[.int .i64 (T.kid j).kind, .int .u64 (T.kid j).num, .string (T.kid j).text, .slice (T.kid j).ia (T.kid j).len (T.kid j).cap] 26)))
      have HQ' := Lib.hid hq
      rw [hq] at hm2
      clear hdd hia hx hk hq
      go_wp2_with (go_at_call 8; refine (HN.out _ HW.out).mono ?_; rintro e w2 ⟨rfl, hb2⟩)
      all_goals
        have HB2 := Lib.hid (below_step8' HW.out hb2)
        go_roundw
        case rel => exact ⟨j + 1, q, by omega, by go_num, by go_num, Lib.hid (by rw [HX.out, ← HM.out, HQ'.out]), hm2, HB2⟩
        case measure => simp [intOf]; omega
    · obtain rfl : j = T.len := by omega
      have hk := HK.out T.len (Nat.le_refl _)
      go_wp2
      go_ret
      exact ⟨ret_i8 (by rw [HD.out, ← HM.out]; omega), HBr.out⟩
end Go.Proofs.Ytohphejhlgnciaa
namespace Go.Proofs.Ytohphejhlgnciaa
open Go.RowKit
set_option linter.unusedVariables false
def eqB (T U : VT) : Bool := T.len == U.len && allTo (fun i => sameT (T.kid i) (U.kid i)) T.len
end Go.Proofs.Ytohphejhlgnciaa
