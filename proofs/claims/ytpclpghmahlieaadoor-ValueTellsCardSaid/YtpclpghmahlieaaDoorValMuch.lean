/- Contract of chapter 8's reference: Much. -/
import Derived.Test.YtpclpghmahlieaaDoorValRef
import Derived.Test.YtpclpghmahlieaaDoorWordWalk
import Derived.Deep.RegionHeld3
import Derived.BigGuardPart
namespace Go.Proofs.YtpclpghmahlieaaDoor
open Go.RowKit
set_option linter.unusedVariables false
theorem below_step8 {w a b : World} {N : Nat} (h : Below N w a) (hN : N ≤ w.heap.size) (k : Below a.heap.size a b) : Below N w b := h.trans (k.mono (Nat.le_trans hN h.size))
theorem much_yes {T : VT} {d j : Nat} (hj : j < T.len) (h : muchT (T.kid j) (d + 1 + T.len / 4) = true) : muchT T d = true := by
  rw [muchT_eq, (anyTo_iff T.len).2 ⟨j, hj, h⟩]; simp
theorem much_end {T : VT} {d : Nat} (h1 : d ≤ 40) (h2 : T.len ≤ 300) (h3 : T.text.size ≤ 1000) (h4 : ∀ i, i < T.len → muchT (T.kid i) (d + 1 + T.len / 4) = false) : muchT T d = decide (10000 < sumTo (fun i => greatT (T.kid i)) T.len) := by
  have e : anyTo (fun i => muchT (T.kid i) (d + 1 + T.len / 4)) T.len = false := by
    cases hx : anyTo (fun i => muchT (T.kid i) (d + 1 + T.len / 4)) T.len with
    | false => rfl
    | true =>
      obtain ⟨i, hi, h⟩ := (anyTo_iff T.len).1 hx
      rw [h4 i hi] at h; cases h
  rw [muchT_eq, e]
  have a1 : decide (40 < d) = false := by simp; omega
  have a2 : decide (300 < T.len) = false := by simp; omega
  have a3 : decide (1000 < T.text.size) = false := by simp; omega
  rw [a1, a2, a3]; simp
def RMuchTo (T : VT) (d : Nat) (w : World) : Prop := Calls Tryd.prog 6 #[.agg #[.int .i64 T.kind, .int .u64 T.num, .string T.text, .slice T.ia T.len T.cap], .int .i64 (d : Nat)] w fun e w' => e = .returned (.bool (muchT T d)) ∧ Below w.heap.size w w'
set_option maxHeartbeats 2000000 in
theorem refMuch_head (T : VT) (d : Nat) (w : World) (hd : d ≤ 1000) (hlen : T.len ≤ 2513169434843) (hts : T.text.size ≤ 140737488351232) (h : 40 < d ∨ 300 < T.len ∨ 1000 < T.text.size) : RMuchTo T d w := by
  have hml : T.text.size ≤ maxLen := by unfold maxLen; omega
  have e : muchT T d = true := by
    rw [muchT_eq]
    rcases h with h | h | h <;> simp [h]
  unfold RMuchTo
  rw [e]
  have HB := Lib.hid ((Below.refl w.heap.size w).alloc (Nat.le_refl _) (valO T))
  by_cases h1 : 40 < d
  · have t1 : decide ((40 : Int) < d) = true := by simp; omega
    clear h
    go_enter Tryd.func6, Tryd.ntmps6
    go_wp2
    go_ret
    exact ⟨rfl, HB.out⟩
  · have t1 : decide ((40 : Int) < d) = false := by simp; omega
    by_cases h2 : 300 < T.len
    · have t2 : decide ((300 : Int) < T.len) = true := by simp; omega
      clear h
      go_enter Tryd.func6, Tryd.ntmps6
      go_wp2
      go_ret
      exact ⟨rfl, HB.out⟩
    · have t2 : decide ((300 : Int) < T.len) = false := by simp; omega
      have h3 : 1000 < T.text.size := by omega
      have t3 : decide ((1000 : Int) < T.text.size) = true := by simp; omega
      clear h
      go_enter Tryd.func6, Tryd.ntmps6
      go_wp2
      go_ret
      exact ⟨rfl, HB.out⟩
set_option maxHeartbeats 4000000 in
theorem refMuch_any (S : Nat → Prop) : ∀ (T : VT) (d : Nat) (w : World), ValAt w S T → d ≤ 1000 → RMuchTo T d w := by
  refine VT.ind fun T ih d w H hd => ?_
  by_cases hh : 40 < d ∨ 300 < T.len ∨ 1000 < T.text.size
  · exact refMuch_head T d w hd (val_len H) (val_text H) hh
  have h1 : d ≤ 40 := by omega
  have h2 : T.len ≤ 300 := by omega
  have h3 : T.text.size ≤ 1000 := by omega
  have HI := Lib.hid (fun i (hi : i < T.len) wx (hb : Below w.heap.size w wx) => ih i hi (d + 1 + T.len / 4) wx (kids_at H hb hi).2 (by omega))
  have HG := Lib.hid (fun i (hi : i < T.len) (hm : muchT (T.kid i) (d + 1 + T.len / 4) = false) wx (hb : Below w.heap.size w wx) => refGreat8_any S (T.kid i) wx (kids_at H hb hi).2 (by have := (much_no hm).2.2.2.2.2; omega))
  have HY := Lib.hid (fun j (hj : j < T.len) (h : muchT (T.kid j) (d + 1 + T.len / 4) = true) => much_yes hj h)
  have HE := Lib.hid (much_end (T := T) h1 h2 h3)
  have HC := Lib.hid (fun i (hi : i < T.len) wx (hb : Below w.heap.size w wx) => (kids_at H hb hi).1)
  have HGL := Lib.hid (fun i (hi : i < T.len) (hm : muchT (T.kid i) (d + 1 + T.len / 4) = false) => (much_no hm).2.2.2.2.2)
  have t1 : decide ((40 : Int) < d) = false := by simp; omega
  have t2 : decide ((300 : Int) < T.len) = false := by simp; omega
  have t3 : decide ((1000 : Int) < T.text.size) = false := by simp; omega
  have hml : T.text.size ≤ maxLen := by unfold maxLen; omega
  obtain ⟨F, hF⟩ : ∃ F : Nat → Nat, F = fun i => greatT (T.kid i) := ⟨_, rfl⟩
  rw [← hF] at HE
  obtain ⟨e1, he1⟩ : ∃ e, d + 1 = e := ⟨_, rfl⟩
  obtain ⟨e2, he2⟩ : ∃ e, T.len / 4 = e := ⟨_, rfl⟩
  obtain ⟨q, hq⟩ : ∃ q, d + 1 + T.len / 4 = q := ⟨_, rfl⟩
  have hw1 : IntKind.i64.wrap ((d : Int) + 1) = (e1 : Nat) := by rw [IntWalk.i64_in _ (by omega)]; omega
  have hw2 : IntKind.i64.wrap ((T.len : Int) / 4) = (e2 : Nat) := by rw [IntWalk.i64_in _ (by omega)]; omega
  have hw3 : IntKind.i64.wrap ((e1 : Int) + (e2 : Int)) = (q : Nat) := by rw [IntWalk.i64_in _ (by omega)]; omega
  rw [hq] at HI HG HY HE HGL
  clear he1 he2 hq
  have HF := Lib.hid hF
  clear ih H hF hh
  unfold RMuchTo
  go_enter Tryd.func6, Tryd.ntmps6
  go_wp2
  go_loopw [5, 6] (fun n i wr => ∃ (j m : Nat), j ≤ T.len ∧ i = .int .i64 j ∧ n = .int .i64 m ∧ Hid (m = min (sumTo F j) 100000) ∧ m ≤ 100000 ∧ Hid (∀ i, i < j → muchT (T.kid i) q = false) ∧ Hid (wr.heap[w.heap.size]? = some (valO T)) ∧ Hid (Below w.heap.size w wr)) (fun _ i _ => T.len - (intOf i).toNat)
  case atStart => exact ⟨0, 0, Nat.zero_le _, rfl, rfl, Lib.hid rfl, by omega, Lib.hid (fun i hi => absurd hi (Nat.not_lt_zero i)), Lib.hid (alloc_at w _), Lib.hid ((Below.refl _ _).alloc (Nat.le_refl _) _)⟩
  case round =>
    obtain ⟨j, m, hj, rfl, rfl, HM, hm, HA, HQ, HBr⟩ := hrel
    by_cases hlt : j < T.len
    · obtain ⟨b, off, hia, _, _, c0, c1, c2, c3⟩ := HC.out j hlt wr HBr.out
      have d3 : wr.cell? ⟨w.heap.size, 3, none⟩ = some (.slice (some ⟨b, off, none⟩) T.len T.cap) := by rw [← hia]; exact cell_at HQ.out rfl
      have HIA := Lib.hid hia
      have HN := Lib.hid (HI.out j hlt)
      clear hia
      cases hbm : muchT (T.kid j) q with
      | true =>
        have HYY := Lib.hid (HY.out j hlt hbm)
        unfold RMuchTo at HN
        rw [hbm] at HN
        clear hbm
        go_wp2_with fail
        go_region_held3 (fun w' => w'.cell? ⟨w.heap.size, 3, none⟩ = some (.slice (some ⟨b, off, none⟩) T.len T.cap) ∧ w'.cell? ⟨b, off + j * 4, none⟩ = some (.int .i64 (T.kid j).kind) ∧ w'.cell? ⟨b, off + j * 4 + 1, none⟩ = some (.int .u64 (T.kid j).num) ∧ w'.cell? ⟨b, off + j * 4 + 2, none⟩ = some (.string (T.kid j).text) ∧ w'.cell? ⟨b, off + j * 4 + 3, none⟩ = some (.slice (T.kid j).ia (T.kid j).len (T.kid j).cap))
          (first | exact ⟨d3, c0, c1, c2, c3⟩ | exact ⟨x3, x4, x5, x6, x7⟩ | fail)
          (first | (go_at_call 6; refine (HN.out _ (by first | exact HBr.out | exact HBr.out.drew)).mono ?_; rintro e w3 ⟨rfl, hb3⟩; have x3 := keep hb3 (by exact d3); have x4 := keep hb3 (by exact c0); have x5 := keep hb3 (by exact c1); have x6 := keep hb3 (by exact c2); have x7 := keep hb3 (by exact c3); have HB3 := Lib.hid (below_step8 (by first | exact HBr.out | exact HBr.out.drew) (Nat.le_refl _) hb3); clear hb3))
        go_wp2
        go_ret
        exact ⟨ret_bool HYY.out.symm, HB3.out⟩
      | false =>
        have HGG := Lib.hid (HG.out j hlt hbm)
        have HA2 := Lib.hid (show ∀ i, i < j + 1 → muchT (T.kid i) q = false from fun i hi => by
          rcases Nat.lt_succ_iff_lt_or_eq.1 hi with h | rfl
          · exact HA.out i h
          · exact hbm)
        have hgl := HGL.out j hlt hbm
        unfold RMuchTo at HN
        rw [hbm] at HN
        clear hbm
        obtain ⟨g, hg⟩ : ∃ g, greatT (T.kid j) = g := ⟨_, rfl⟩
        unfold RGreatTo at HGG
        rw [hg] at HGG hgl
        have HX := Lib.hid (show sumTo F (j + 1) = sumTo F j + g by rw [sum_succ, HF.out, ← hg])
        clear hg
        go_wp2_with fail
        go_region_held3 (fun w' => w'.cell? ⟨w.heap.size, 3, none⟩ = some (.slice (some ⟨b, off, none⟩) T.len T.cap) ∧ w'.cell? ⟨b, off + j * 4, none⟩ = some (.int .i64 (T.kid j).kind) ∧ w'.cell? ⟨b, off + j * 4 + 1, none⟩ = some (.int .u64 (T.kid j).num) ∧ w'.cell? ⟨b, off + j * 4 + 2, none⟩ = some (.string (T.kid j).text) ∧ w'.cell? ⟨b, off + j * 4 + 3, none⟩ = some (.slice (T.kid j).ia (T.kid j).len (T.kid j).cap))
          (first | exact ⟨d3, c0, c1, c2, c3⟩ | exact ⟨x3, x4, x5, x6, x7⟩ | fail)
          (first | (go_at_call 6; refine (HN.out _ (by first | exact HBr.out | exact HBr.out.drew)).mono ?_; rintro e w3 ⟨rfl, hb3⟩; have x3 := keep hb3 (by exact d3); have x4 := keep hb3 (by exact c0); have x5 := keep hb3 (by exact c1); have x6 := keep hb3 (by exact c2); have x7 := keep hb3 (by exact c3); have HQ3 := Lib.hid (box_keep (by exact HQ.out) hb3); have HB3 := Lib.hid (below_step8 (by first | exact HBr.out | exact HBr.out.drew) (Nat.le_refl _) hb3); clear hb3))
        clear d3 c0 c1 c2 c3
        by_cases hbig : m + g ≤ 100000
        · have hmm : min ((m : Int) + g) 100000 = ((m + g : Nat) : Int) := by omega
          go_wp2_with (go_at_call 13; refine (HGG.out _ HB3.out).mono ?_; rintro e w4 ⟨rfl, hb4⟩)
          all_goals
            have HQ4 := Lib.hid (box_keep HQ3.out hb4)
            have HB4 := Lib.hid (below_step8 HB3.out (Nat.le_refl _) hb4)
            go_roundw
            case rel => exact ⟨j + 1, m + g, by omega, by go_num, by go_num, Lib.hid (by rw [HX.out]; have := HM.out; omega), by omega, HA2, HQ4, HB4⟩
            case measure => simp [intOf]; omega
        · have hmm : min ((m : Int) + g) 100000 = 100000 := by omega
          go_wp2_with (go_at_call 13; refine (HGG.out _ HB3.out).mono ?_; rintro e w4 ⟨rfl, hb4⟩)
          all_goals
            have HQ4 := Lib.hid (box_keep HQ3.out hb4)
            have HB4 := Lib.hid (below_step8 HB3.out (Nat.le_refl _) hb4)
            go_roundw
            case rel => exact ⟨j + 1, 100000, by omega, by go_num, by go_num, Lib.hid (by rw [HX.out]; have := HM.out; omega), by omega, HA2, HQ4, HB4⟩
            case measure => simp [intOf]; omega
    · obtain rfl : j = T.len := by omega
      have d3 : wr.cell? ⟨w.heap.size, 3, none⟩ = some (.slice T.ia T.len T.cap) := cell_at HQ.out rfl
      go_wp2
      go_ret
      exact ⟨ret_bool (by rw [HE.out HA.out]; have := HM.out; rw [Bool.eq_iff_iff]; simp; omega), HBr.out⟩
end Go.Proofs.YtpclpghmahlieaaDoor
