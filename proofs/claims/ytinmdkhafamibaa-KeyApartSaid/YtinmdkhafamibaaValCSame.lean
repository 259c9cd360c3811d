/- Contracts of package value: Deep, Great. -/
import Derived.Test.YtinmdkhafamibaaValSame
namespace Go.Proofs.Ytinmdkhafamibaa
open Go.RowKit
set_option linter.unusedVariables false
theorem deep_part (T : VT) {j : Nat} (h : j ≤ T.len) : 1 + maxTo (fun i => deepT (T.kid i)) j ≤ deepT T := by
  rw [deepT_eq]
  have := maxTo_le (f := fun i => deepT (T.kid i)) (m := maxTo (fun i => deepT (T.kid i)) T.len) j (fun i hi => maxTo_ge (f := fun i => deepT (T.kid i)) (by omega))
  omega
end Go.Proofs.Ytinmdkhafamibaa
namespace Go.Proofs.Ytinmdkhafamibaa
open Go.RowKit
set_option linter.unusedVariables false
def CSameTo (T U : VT) (w : World) : Prop := Calls Try.prog 17 #[.agg #[.int .i64 T.kind, .int .u64 T.num, .string T.text, .slice T.ia T.len T.cap], .agg #[.int .i64 U.kind, .int .u64 U.num, .string U.text, .slice U.ia U.len U.cap]] w fun e w' => e = .returned (.bool (sameT T U)) ∧ Below w.heap.size w w'
def eqB (T U : VT) : Bool := T.len == U.len && allTo (fun i => sameT (T.kid i) (U.kid i)) T.len
set_option maxHeartbeats 4000000 in
theorem eqFunc_any (T U : VT) (w : World) (hl1 : T.len ≤ 2513169434843) (hl2 : U.len ≤ 2513169434843) (S S' : Nat → Prop) (hC : ∀ i, i < T.len → ∀ wx, Below w.heap.size w wx → CellsAt wx S T.ia i (T.kid i)) (hD : ∀ i, i < U.len → ∀ wx, Below w.heap.size w wx → CellsAt wx S' U.ia i (U.kid i))
    (hI : ∀ i, i < T.len → i < U.len → ∀ wx, Below w.heap.size w wx → CSameTo (T.kid i) (U.kid i) wx) :
    Calls Try.prog 28 #[.slice T.ia T.len T.cap, .slice U.ia U.len U.cap, .func (.func 17) #[] #[]] w fun e w' => e = .returned (.bool (eqB T U)) ∧ Below w.heap.size w w' := by
  have HC := Lib.hid hC
  have HD := Lib.hid hD
  have HI := Lib.hid hI
  clear hC hD hI
  by_cases hl : T.len = U.len
  · have e4 : ((T.len : Int) != (U.len : Int)) = false := by simp; omega
    have HE := Lib.hid (show eqB T U = allTo (fun i => sameT (T.kid i) (U.kid i)) T.len by unfold eqB; rw [hl]; simp)
    obtain ⟨ao, hao⟩ : ∃ a, T.ia = a := ⟨_, rfl⟩
    obtain ⟨bo, hbo⟩ : ∃ a, U.ia = a := ⟨_, rfl⟩
    have HAO := Lib.hid hao
    have HBO := Lib.hid hbo
    have HL := Lib.hid hl
    rw [hao, hbo]
    clear hao hbo hl
    go_enter Try.func28, Try.ntmps28
    go_wp2
    clear e4
    go_loopw [17] (fun i wr => ∃ j : Nat, j ≤ T.len ∧ i = .int .i64 j ∧ Hid (∀ i, i < j → sameT (T.kid i) (U.kid i) = true) ∧ Hid (Below w.heap.size w wr)) (fun i _ => T.len - (intOf i).toNat)
    case atStart => exact ⟨0, Nat.zero_le _, rfl, Lib.hid (fun i hi => absurd hi (Nat.not_lt_zero i)), Lib.hid (Below.refl _ _)⟩
    case round =>
      obtain ⟨j, hj, rfl, HA, HBr⟩ := hrel
      by_cases hlt : j < T.len
      · have hltU : j < U.len := by have := HL.out; omega
        obtain ⟨b, off, hia, _, _, c0, c1, c2, c3⟩ := HC.out j hlt wr HBr.out
        obtain ⟨b', off', hia', _, hbl, c4, c5, c6, c7⟩ := HD.out j hltU wr HBr.out
        obtain rfl : ao = some ⟨b, off, none⟩ := HAO.out.symm.trans hia
        obtain rfl : bo = some ⟨b', off', none⟩ := HBO.out.symm.trans hia'
        have hne : ¬ b' = wr.heap.size := by omega
        have HN := Lib.hid (HI.out j hlt hltU)
        have HW := Lib.hid (show Below w.heap.size w _ from ((HBr.out.alloc (HBr.out.size) (.cells #[.int .i64 (T.kid j).kind, .int .u64 (T.kid j).num, .string (T.kid j).text, .slice (T.kid j).ia (T.kid j).len (T.kid j).cap] 38)).alloc (by have := HBr.out.size; simp; omega) (.cells #[.int .i64 (U.kid j).kind, .int .u64 (U.kid j).num, .string (U.kid j).text, .slice (U.kid j).ia (U.kid j).len (U.kid j).cap] 38)))
        unfold CSameTo at HN
        clear hia hia'
        cases hs : sameT (T.kid j) (U.kid j) with
        | true =>
          have HA2 := Lib.hid (show ∀ i, i < j + 1 → sameT (T.kid i) (U.kid i) = true from fun i hi => by
            rcases Nat.lt_succ_iff_lt_or_eq.1 hi with h | rfl
            · exact HA.out i h
            · exact hs)
          rw [hs] at HN
          clear hs
          go_wp2_with (go_at_call 17; refine (HN.out _ HW.out).mono ?_; rintro e w2 ⟨rfl, hb2⟩)
          have HB2 := Lib.hid (below_step8' HW.out hb2)
          go_roundw
          case rel => exact ⟨j + 1, by omega, by go_num, HA2, HB2⟩
          case measure => simp [intOf]; omega
        | false =>
          have HF := Lib.hid (show eqB T U = false by rw [HE.out]; exact allTo_false hlt hs)
          rw [hs] at HN
          clear hs
          go_wp2_with (go_at_call 17; refine (HN.out _ HW.out).mono ?_; rintro e w2 ⟨rfl, hb2⟩)
          have HB2 := Lib.hid (below_step8' HW.out hb2)
          go_ret
          exact ⟨ret_bool HF.out.symm, HB2.out⟩
      · obtain rfl : j = T.len := by omega
        go_wp2
        go_ret
        exact ⟨ret_bool (by rw [HE.out, (allTo_iff T.len).2 HA.out]), HBr.out⟩
  · have e4 : ((T.len : Int) != (U.len : Int)) = true := by simp; omega
    have HE := Lib.hid (show eqB T U = false by unfold eqB; simp [hl])
    go_enter Try.func28, Try.ntmps28
    go_wp2
    go_ret
    exact ⟨ret_bool HE.out.symm, Below.refl _ _⟩
set_option maxHeartbeats 4000000 in
theorem same8_any (S S' : Nat → Prop) : ∀ (T U : VT) (w : World), ValAt w S T → ValAt w S' U → CSameTo T U w := by
  refine VT.ind fun T ih U w H H' => ?_
  have hl1 := val_len H
  have hl2 := val_len H'
  have HX := Lib.hid (fun wx (hb : Below w.heap.size w wx) => eqFunc_any T U wx hl1 hl2 S S' (fun i hi wy hy => (kids_at H (below_step8' hb hy) hi).1) (fun i hi wy hy => (kids_at H' (below_step8' hb hy) hi).1)
    (fun i hi hi' wy hy => ih i hi (U.kid i) wy (kids_at H (below_step8' hb hy) hi).2 (kids_at H' (below_step8' hb hy) hi').2))
  have HB := Lib.hid (((Below.refl w.heap.size w).alloc (Nat.le_refl _) (valO T)).alloc (by simp) (valO U))
  obtain ⟨q, hq⟩ : ∃ q, eqB T U = q := ⟨_, rfl⟩
  rw [hq] at HX
  have HS := Lib.hid (show sameT T U = ((T.kind == U.kind) && (T.num == U.num) && decide (T.text = U.text) && q) by
    rw [← hq, sameT_eq]; unfold headB eqB; simp [Bool.and_assoc])
  clear ih H H' hq
  unfold CSameTo
  by_cases k1 : T.kind = U.kind
  · have e1 : (T.kind == U.kind) = true := by simpa using k1
    by_cases k2 : T.num = U.num
    · have e2 : (T.num == U.num) = true := by simpa using k2
      by_cases k3 : T.text = U.text
      · have e3 : (T.text.toList == U.text.toList) = true := by rw [k3]; simp
        clear k1 k2
        rw [HS.out, e1, e2, decide_eq_true k3]
        clear k3
        go_enter Try.func17, Try.ntmps17
        go_wp2_with (go_at_call 28; refine (HX.out _ HB.out).mono ?_; rintro e w2 ⟨rfl, hb2⟩)
        go_ret
        exact ⟨rfl, below_step8' HB.out hb2⟩
      · have e3 := text_ne k3
        rw [HS.out, decide_eq_false k3]
        clear k3 k1 k2
        go_enter Try.func17, Try.ntmps17
        go_wp2
        go_ret
        exact ⟨ret_bool (by simp), HB.out⟩
    · have e2 : (T.num == U.num) = false := by simpa using k2
      rw [HS.out, e2]
      clear k1 k2
      go_enter Try.func17, Try.ntmps17
      go_wp2
      go_ret
      exact ⟨ret_bool (by simp), HB.out⟩
  · have e1 : (T.kind == U.kind) = false := by simpa using k1
    rw [HS.out, e1]
    clear k1
    go_enter Try.func17, Try.ntmps17
    go_wp2
    go_ret
    exact ⟨ret_bool (by simp), HB.out⟩
end Go.Proofs.Ytinmdkhafamibaa
