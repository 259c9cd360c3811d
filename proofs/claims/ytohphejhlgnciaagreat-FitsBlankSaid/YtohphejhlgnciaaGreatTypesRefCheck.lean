/- Contract of chapter 6's reference: Check. -/
import Derived.Test.YtohphejhlgnciaaGreatTypesOne
import Derived.Test.YtohphejhlgnciaaGreatTypesCheck2
namespace Go.Proofs.YtohphejhlgnciaaGreat
open Go.RowKit
set_option linter.unusedVariables false
set_option maxHeartbeats 2000000 in
theorem refCheck_any (ao : Option Addr) (len cap : Nat) (L : Nat → TypeV) (hlen : len ≤ 1000000) (w : World) (H : ∀ i, i < len → TypeAt w ao i (L i)) :
    Calls Tryz.prog 17 #[.slice ao len cap] w fun e w' => e = .returned (faultV (oneR L len) len) ∧ Below w.heap.size w w' := by
  have HH := Lib.hid H
  clear H
  by_cases h32 : 32 < len
  · rw [fault_long h32]
    go_enter Tryz.func17, Tryz.ntmps17
    go_wp2
    go_returns
    exact ⟨rfl, by go_grown⟩
  · have h32' : len ≤ 32 := by omega
    have HQ := Lib.hid (alloc_at w (.cells #[.int .i64 0, .int .i64 0] 46))
    have HB := Lib.hid ((Below.refl w.heap.size w).alloc (Nat.le_refl _) (.cells #[.int .i64 0, .int .i64 0] 46))
    obtain ⟨R, hR⟩ : ∃ R, faultV (oneR L len) len = R := ⟨_, rfl⟩
    rw [hR]
    have HR := Lib.hid hR
    clear hR
    go_enter Tryz.func17, Tryz.ntmps17
    go_wp2
    go_loopw [3] (fun i wr => ∃ k : Nat, k ≤ len ∧ i = .int .i64 k ∧ Hid (∀ m, m < k → (oneR L len m != 0) = false) ∧ Hid (wr.heap[w.heap.size]? = some (.cells #[.int .i64 0, .int .i64 0] 46 (0, 0))) ∧ Hid (Below w.heap.size w wr)) (fun i _ => len - (intOf i).toNat)
    case atStart => exact ⟨0, Nat.zero_le _, rfl, Lib.hid (fun m hm => absurd hm (Nat.not_lt_zero _)), HQ, HB⟩
    case round =>
      obtain ⟨k, hk, rfl, HF, HQr, HBr⟩ := hrel
      by_cases hlt : k < len
      · have hcall := refOne_any ao len cap L hlen k hlt wr (hold HH.out HBr.out)
        obtain ⟨q, hq⟩ : ∃ q, oneR L len k = q := ⟨_, rfl⟩
        rw [hq] at hcall
        have HC := Lib.hid hcall
        clear hcall
        cases hz : (q != 0) with
        | true =>
          have HA := Lib.hid (fault_at (one := oneR L len) h32' HF.out hlt (by rw [hq]; exact hz))
          have HQ1 := Lib.hid hq
          clear hq
          go_wp2_with (first
            | (go_at_call 32; refine (HC.out).mono ?_; rintro r w3 ⟨rfl, hb3⟩; have HQ3 := Lib.hid (rblk_keep HQr.out hb3); have HW3 := Lib.hid (HBr.out.trans (hb3.mono HBr.out.size)); clear hb3)
            | (refine wpList_store_rowTo rfl 46 _ _ rfl rfl w.heap.size #[.int .i64 q, .int .i64 k] rfl rfl _ _ HQ3.out (by kernel_rfl) (by kernel_rfl) (by kernel_rfl) ?_))
          refine bodyPost_ret (v := .agg #[.int .i64 q, .int .i64 k]) ?_ rfl ⟨by rw [← HR.out, HA.out, HQ1.out], below_setRow HW3.out (Nat.le_refl _) _⟩
          have hl := run_loadVar_row (P := Tryz.prog) _ w.heap.size _ 46 _ _ _ (setRow_heap _ _ _ #[.int .i64 q, .int .i64 k] _ _ HQ3.out) Tryz.underlying46 rfl (by kernel_rfl)
          simp [results, Tryz.results17, asAddr]
          exact hl
        | false =>
          have HF2 := Lib.hid (none_next (p := fun m => oneR L len m != 0) HF.out (by rw [hq]; exact hz))
          clear hq
          go_wp2_with (go_at_call 32; refine (HC.out).mono ?_; rintro r w3 ⟨rfl, hb3⟩; have HQ3 := Lib.hid (rblk_keep HQr.out hb3); have HW3 := Lib.hid (HBr.out.trans (hb3.mono HBr.out.size)); clear hb3)
          go_roundw
          case rel => exact ⟨k + 1, by omega, by go_num, HF2, HQ3, HW3⟩
          case measure => simp [intOf]; omega
      · obtain rfl : k = len := by omega
        have HA := Lib.hid (fault_none (one := oneR L k) h32' HF.out)
        go_wp2_with (refine wpList_store_rowTo rfl 46 _ _ rfl rfl w.heap.size #[.int .i64 0, .int .i64 0] rfl rfl _ _ HQr.out (by kernel_rfl) (by kernel_rfl) (by kernel_rfl) ?_)
        refine bodyPost_ret (v := .agg #[.int .i64 0, .int .i64 0]) ?_ rfl ⟨by rw [← HR.out, HA.out], below_setRow HBr.out (Nat.le_refl _) _⟩
        have hl := run_loadVar_row (P := Tryz.prog) _ w.heap.size _ 46 _ _ _ (setRow_heap _ _ _ #[.int .i64 0, .int .i64 0] _ _ HQr.out) Tryz.underlying46 rfl (by kernel_rfl)
        simp [results, Tryz.results17, asAddr]
        exact hl
end Go.Proofs.YtohphejhlgnciaaGreat
