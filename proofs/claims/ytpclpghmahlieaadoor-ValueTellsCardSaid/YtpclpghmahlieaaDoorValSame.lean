/- Contracts of chapter 8's reference: Same. -/
import Derived.Test.YtpclpghmahlieaaDoorValMuch
namespace Go.Proofs.YtpclpghmahlieaaDoor
open Go.RowKit
set_option linter.unusedVariables false
theorem same_no {T U : VT} (h : ¬ (T.kind = U.kind ∧ T.num = U.num ∧ T.text = U.text ∧ T.len = U.len)) : sameT T U = false := by
  cases hx : sameT T U with
  | false => rfl
  | true =>
    obtain ⟨h1, h2, h3, h4, _⟩ := sameT_iff.1 hx
    exact absurd ⟨h1, h2, h3, h4⟩ h
theorem same_kid {T U : VT} {j : Nat} (hj : j < T.len) (h : sameT (T.kid j) (U.kid j) = false) : sameT T U = false := by
  cases hx : sameT T U with
  | false => rfl
  | true => rw [(sameT_iff.1 hx).2.2.2.2 j hj] at h; cases h
theorem text_ne {s t : ByteArray} (h : s ≠ t) : (s.toList == t.toList) = false := by
  rw [ByteArray.toList_eq, ByteArray.toList_eq]
  simp only [beq_eq_false_iff_ne, ne_eq]
  intro e
  apply h
  obtain ⟨a⟩ := s; obtain ⟨b⟩ := t
  simp only at e
  exact congrArg ByteArray.mk (Array.toList_inj.1 e)
def RSameTo (T U : VT) (w : World) : Prop := Calls Tryd.prog 16 #[.agg #[.int .i64 T.kind, .int .u64 T.num, .string T.text, .slice T.ia T.len T.cap], .agg #[.int .i64 U.kind, .int .u64 U.num, .string U.text, .slice U.ia U.len U.cap]] w fun e w' => e = .returned (.bool (sameT T U)) ∧ Below w.heap.size w w'
set_option maxHeartbeats 2000000 in
theorem refSame_head (T U : VT) (w : World) (hl1 : T.len ≤ 2513169434843) (hl2 : U.len ≤ 2513169434843) (h : ¬ (T.kind = U.kind ∧ T.num = U.num ∧ T.text = U.text ∧ T.len = U.len)) : RSameTo T U w := by
  unfold RSameTo
  rw [same_no h]
  by_cases k1 : T.kind = U.kind
  · rw [k1]
    by_cases k2 : T.num = U.num
    · rw [k2]
      by_cases k3 : T.text = U.text
      · rw [k3]
        have k4 : T.len ≠ U.len := fun e => h ⟨k1, k2, k3, e⟩
        have t4 : ((T.len : Int) != (U.len : Int)) = true := by simp; omega
        clear h
        go_enter Tryd.func16, Tryd.ntmps16
        go_wp2
        go_ret
        exact ⟨rfl, ((Below.refl w.heap.size w).alloc (Nat.le_refl _) _).alloc (by simp) _⟩
      · have t3 := text_ne k3
        clear h
        go_enter Tryd.func16, Tryd.ntmps16
        go_wp2
        go_ret
        exact ⟨rfl, ((Below.refl w.heap.size w).alloc (Nat.le_refl _) _).alloc (by simp) _⟩
    · have t2 : (T.num != U.num) = true := by simpa using k2
      clear h
      go_enter Tryd.func16, Tryd.ntmps16
      go_wp2
      go_ret
      exact ⟨rfl, ((Below.refl w.heap.size w).alloc (Nat.le_refl _) _).alloc (by simp) _⟩
  · have t1 : (T.kind != U.kind) = true := by simpa using k1
    clear h
    go_enter Tryd.func16, Tryd.ntmps16
    go_wp2
    go_ret
    exact ⟨rfl, ((Below.refl w.heap.size w).alloc (Nat.le_refl _) _).alloc (by simp) _⟩
set_option maxHeartbeats 4000000 in
theorem refSame_any (S S' : Nat → Prop) : ∀ (T U : VT) (w : World), ValAt w S T → ValAt w S' U → RSameTo T U w := by
  refine VT.ind fun T ih U w H H' => ?_
  have hl1 := val_len H
  have hl2 := val_len H'
  rcases Classical.em (T.kind = U.kind ∧ T.num = U.num ∧ T.text = U.text ∧ T.len = U.len) with hh | hh
  case inr => exact refSame_head T U w hl1 hl2 hh
  have HI := Lib.hid (fun i (hi : i < T.len) wx (hb : Below w.heap.size w wx) => ih i hi (U.kid i) wx (kids_at H hb hi).2 (kids_at H' hb (by omega)).2)
  have HC := Lib.hid (fun i (hi : i < T.len) wx (hb : Below w.heap.size w wx) => (kids_at H hb hi).1)
  have HD := Lib.hid (fun i (hi : i < T.len) wx (hb : Below w.heap.size w wx) => (kids_at H' hb (i := i) (by omega)).1)
  have HY := Lib.hid (fun j (hj : j < T.len) h => same_kid (U := U) hj h)
  have HE := Lib.hid (fun (h : ∀ i, i < T.len → sameT (T.kid i) (U.kid i) = true) => sameT_iff.2 ⟨hh.1, hh.2.1, hh.2.2.1, hh.2.2.2, h⟩)
  obtain ⟨k1, k2, k3, k4⟩ := hh
  have e1 : (T.kind != U.kind) = false := by simpa using k1
  have e2 : (T.num != U.num) = false := by simpa using k2
  have e3 : (T.text.toList == U.text.toList) = true := by rw [k3]; simp
  have e4 : ((T.len : Int) != (U.len : Int)) = false := by simp; omega
  have HK4 := Lib.hid k4
  clear ih H H' k1 k2 k3 k4
  unfold RSameTo
  have HQ1 := Lib.hid (show ((w.alloc (valO T)).alloc (valO U)).heap[w.heap.size]? = some (valO T) from alloc_old (alloc_at w _))
  have HQ2 := Lib.hid (show ((w.alloc (valO T)).alloc (valO U)).heap[w.heap.size + 1]? = some (valO U) by have := alloc_at (w.alloc (valO T)) (valO U); simpa using this)
  have HB := Lib.hid (((Below.refl w.heap.size w).alloc (Nat.le_refl _) (valO T)).alloc (by simp) (valO U))
  go_enter Tryd.func16, Tryd.ntmps16
  go_wp2
  clear e1 e2 e3 e4
  go_loopw [5] (fun i wr => ∃ j : Nat, j ≤ T.len ∧ i = .int .i64 j ∧ Hid (∀ i, i < j → sameT (T.kid i) (U.kid i) = true) ∧ Hid (wr.heap[w.heap.size]? = some (valO T)) ∧ Hid (wr.heap[w.heap.size + 1]? = some (valO U)) ∧ Hid (Below w.heap.size w wr)) (fun i _ => T.len - (intOf i).toNat)
  case atStart => exact ⟨0, Nat.zero_le _, rfl, Lib.hid (fun i hi => absurd hi (Nat.not_lt_zero i)), HQ1, HQ2, HB⟩
  case round =>
    obtain ⟨j, hj, rfl, HA, HR1, HR2, HBr⟩ := hrel
    by_cases hlt : j < T.len
    · have hltU : j < U.len := by have := HK4.out; omega
      obtain ⟨b, off, hia, _, _, c0, c1, c2, c3⟩ := HC.out j hlt wr HBr.out
      obtain ⟨b', off', hia', _, _, c4, c5, c6, c7⟩ := HD.out j hlt wr HBr.out
      have d3 : wr.cell? ⟨w.heap.size, 3, none⟩ = some (.slice (some ⟨b, off, none⟩) T.len T.cap) := by rw [← hia]; exact cell_at HR1.out rfl
      have d7 : wr.cell? ⟨w.heap.size + 1, 3, none⟩ = some (.slice (some ⟨b', off', none⟩) U.len U.cap) := by rw [← hia']; exact cell_at HR2.out rfl
      have HN := Lib.hid (HI.out j hlt)
      unfold RSameTo at HN
      clear hia hia'
      cases hs : sameT (T.kid j) (U.kid j) with
      | true =>
        have HA2 := Lib.hid (show ∀ i, i < j + 1 → sameT (T.kid i) (U.kid i) = true from fun i hi => by
          rcases Nat.lt_succ_iff_lt_or_eq.1 hi with h | rfl
          · exact HA.out i h
          · exact hs)
        rw [hs] at HN
        clear hs
        go_wp2_with fail
        go_region_held3 (fun w' => w'.cell? ⟨w.heap.size, 3, none⟩ = some (.slice (some ⟨b, off, none⟩) T.len T.cap) ∧ w'.cell? ⟨b, off + j * 4, none⟩ = some (.int .i64 (T.kid j).kind) ∧ w'.cell? ⟨b, off + j * 4 + 1, none⟩ = some (.int .u64 (T.kid j).num) ∧ w'.cell? ⟨b, off + j * 4 + 2, none⟩ = some (.string (T.kid j).text) ∧ w'.cell? ⟨b, off + j * 4 + 3, none⟩ = some (.slice (T.kid j).ia (T.kid j).len (T.kid j).cap) ∧
            w'.cell? ⟨w.heap.size + 1, 3, none⟩ = some (.slice (some ⟨b', off', none⟩) U.len U.cap) ∧ w'.cell? ⟨b', off' + j * 4, none⟩ = some (.int .i64 (U.kid j).kind) ∧ w'.cell? ⟨b', off' + j * 4 + 1, none⟩ = some (.int .u64 (U.kid j).num) ∧ w'.cell? ⟨b', off' + j * 4 + 2, none⟩ = some (.string (U.kid j).text) ∧ w'.cell? ⟨b', off' + j * 4 + 3, none⟩ = some (.slice (U.kid j).ia (U.kid j).len (U.kid j).cap))
          (first | exact ⟨d3, c0, c1, c2, c3, d7, c4, c5, c6, c7⟩ | exact ⟨keep hb3 (by exact d3), keep hb3 (by exact c0), keep hb3 (by exact c1), keep hb3 (by exact c2), keep hb3 (by exact c3), keep hb3 (by exact d7), keep hb3 (by exact c4), keep hb3 (by exact c5), keep hb3 (by exact c6), keep hb3 (by exact c7)⟩ | fail)
          (first | (go_at_call 16; refine (HN.out _ (by first | exact HBr.out | exact HBr.out.drew)).mono ?_; rintro e w3 ⟨rfl, hb3⟩; have HS1 := Lib.hid (box_keep (by exact HR1.out) hb3); have HS2 := Lib.hid (box_keep (by exact HR2.out) hb3); have HB3 := Lib.hid (below_step8 (by first | exact HBr.out | exact HBr.out.drew) (Nat.le_refl _) hb3)))
        clear d3 c0 c1 c2 c3 d7 c4 c5 c6 c7
        go_wp2
        go_roundw
        case rel => exact ⟨j + 1, by omega, by go_num, HA2, HS1, HS2, HB3⟩
        case measure => simp [intOf]; omega
      | false =>
        have HYY := Lib.hid (HY.out j hlt hs)
        rw [hs] at HN
        clear hs
        go_wp2_with fail
        go_region_held3 (fun w' => w'.cell? ⟨w.heap.size, 3, none⟩ = some (.slice (some ⟨b, off, none⟩) T.len T.cap) ∧ w'.cell? ⟨b, off + j * 4, none⟩ = some (.int .i64 (T.kid j).kind) ∧ w'.cell? ⟨b, off + j * 4 + 1, none⟩ = some (.int .u64 (T.kid j).num) ∧ w'.cell? ⟨b, off + j * 4 + 2, none⟩ = some (.string (T.kid j).text) ∧ w'.cell? ⟨b, off + j * 4 + 3, none⟩ = some (.slice (T.kid j).ia (T.kid j).len (T.kid j).cap) ∧
            w'.cell? ⟨w.heap.size + 1, 3, none⟩ = some (.slice (some ⟨b', off', none⟩) U.len U.cap) ∧ w'.cell? ⟨b', off' + j * 4, none⟩ = some (.int .i64 (U.kid j).kind) ∧ w'.cell? ⟨b', off' + j * 4 + 1, none⟩ = some (.int .u64 (U.kid j).num) ∧ w'.cell? ⟨b', off' + j * 4 + 2, none⟩ = some (.string (U.kid j).text) ∧ w'.cell? ⟨b', off' + j * 4 + 3, none⟩ = some (.slice (U.kid j).ia (U.kid j).len (U.kid j).cap))
          (first | exact ⟨d3, c0, c1, c2, c3, d7, c4, c5, c6, c7⟩ | exact ⟨keep hb3 (by exact d3), keep hb3 (by exact c0), keep hb3 (by exact c1), keep hb3 (by exact c2), keep hb3 (by exact c3), keep hb3 (by exact d7), keep hb3 (by exact c4), keep hb3 (by exact c5), keep hb3 (by exact c6), keep hb3 (by exact c7)⟩ | fail)
          (first | (go_at_call 16; refine (HN.out _ (by first | exact HBr.out | exact HBr.out.drew)).mono ?_; rintro e w3 ⟨rfl, hb3⟩; have HB3 := Lib.hid (below_step8 (by first | exact HBr.out | exact HBr.out.drew) (Nat.le_refl _) hb3)))
        go_wp2
        go_ret
        exact ⟨ret_bool HYY.out.symm, HB3.out⟩
    · obtain rfl : j = T.len := by omega
      have d3 : wr.cell? ⟨w.heap.size, 3, none⟩ = some (.slice T.ia T.len T.cap) := cell_at HR1.out rfl
      go_wp2
      go_ret
      exact ⟨ret_bool (HE.out HA.out).symm, HBr.out⟩
end Go.Proofs.YtpclpghmahlieaaDoor
