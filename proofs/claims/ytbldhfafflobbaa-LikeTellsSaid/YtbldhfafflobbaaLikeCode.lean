/- Chapter 17's code: Match, Lead, Least. -/
import Derived.Test.YtbldhfafflobbaaLikeBeg
import Derived.Test.YtbldhfafflobbaaLikeLaw
import Derived.Lib.ConvBytes
import Derived.Laws.IdiomStrings
namespace Go.Proofs.Ytbldhfafflobbaa
open Go.RowKit
set_option linter.unusedVariables false
set_option linter.unusedSimpArgs false
theorem there_back (l : List UInt8) (w : World) : ∃ v w1, (convert 9 30 (.string (bt l))).run Try.prog w = .ok v w1 ∧ (convert 30 9 v).run Try.prog w1 = .ok (.string (bt l)) w1 ∧ Below w.heap.size w w1 := by
  have h1 := run_bytes_of_string (P := Try.prog) w 9 30 5 (bt l) Try.underlying9 Try.underlying30 Try.underlying5
  refine ⟨_, _, h1, ?_, ((Below.refl w.heap.size w).drew).alloc (Nat.le_refl _) _⟩
  generalize hW : (w.drew.alloc _ : World) = W
  have hb := run_convert_bytes_back (P := Try.prog) W 30 9 5 ⟨w.heap.size, 0, none⟩ (grownCap w (bt l).size 0 5) l Try.underlying30 Try.underlying5 Try.underlying9 (fun j hj => ?_)
  · rw [bt_size]; exact hb
  · have e : (Addr.add ⟨w.heap.size, 0, none⟩ j) = ⟨w.heap.size, j, none⟩ := by unfold Addr.add; split <;> simp_all
    rw [e, ← hW]
    have hq : (w.drew.alloc (.cells (bytesRow (bt l) (grownCap w (bt l).size 0 5)) 5 ((bytesRow (bt l) (grownCap w (bt l).size 0 5)).size, (bytesRow (bt l) (grownCap w (bt l).size 0 5)).size + 1))).heap[w.heap.size]? = some (.cells (bytesRow (bt l) (grownCap w (bt l).size 0 5)) 5 ((bytesRow (bt l) (grownCap w (bt l).size 0 5)).size, (bytesRow (bt l) (grownCap w (bt l).size 0 5)).size + 1)) := by
      show (w.heap.push _)[w.heap.size]? = _
      simp
    simp only [World.cell?, hq]
    rw [if_neg (by simp)]
    unfold bytesRow
    rw [Array.getElem?_append_left (by simp [bt]; exact hj)]
    simp [bt, hj]
set_option maxHeartbeats 2000000 in
theorem lead_any (l : List UInt8) (hl : l.length ≤ 1000000) (w : World) : Calls Try.prog 9 #[.string (bt l)] w fun e w' => e = .returned (.string (bt (leadL l))) ∧ Below w.heap.size w w' := by
  have hsz : (bt l).size = l.length := bt_size l
  have HG := Lib.hid (bt_get l)
  have HT := Lib.hid (fun j (hj : j ≤ l.length) wx => bt_to l j hj wx)
  have HC := Lib.hid (lead_cons l)
  have HL := Lib.hid (show ∀ j, (leadL l).length = j → j ≤ l.length → leadL l = l.take j from fun j h _ => by rw [← h]; exact (lead_take l).1.symm)
  have H0 := Lib.hid (show 0 + (leadL (l.drop 0)).length = (leadL l).length by rw [Nat.zero_add, List.drop_zero])
  obtain ⟨s, hs⟩ : ∃ s, bt l = s := ⟨_, rfl⟩
  rw [hs] at hsz HG HT ⊢
  have hml : s.size ≤ maxLen := by show s.size ≤ 9223372036854775807; omega
  clear hs
  go_enter Try.func9, Try.ntmps9
  go_wp2_with (fail)
  go_loopw [3] (fun i wr => ∃ j : Nat, j ≤ l.length ∧ i = .int .i64 j ∧ Hid (j + (leadL (l.drop j)).length = (leadL l).length) ∧ wr = w) (fun i _ => l.length - (intOf i).toNat)
  case atStart => exact ⟨0, Nat.zero_le _, rfl, H0, rfl⟩
  case round =>
    obtain ⟨j, hj, rfl, HJ, rfl⟩ := hrel
    obtain ⟨v, w1, hc1, hc2, hbel⟩ := there_back (l.take j) wr
    have HBL := Lib.hid hbel
    clear hbel
    have hst := HT.out j hj
    by_cases hlt : j < l.length
    · have hls : j < s.size := by omega
      have hji : (j : Int) < (l.length : Int) := by omega
      have hg := HG.out j hls
      have hc := HC.out j hlt
      have t37 := byte_eq (l.getD j 0) 37 (by decide)
      have t95 := byte_eq (l.getD j 0) 95 (by decide)
      rw [← hg] at hc t37 t95
      obtain ⟨c, hcc⟩ : ∃ c, s[j]'hls = c := ⟨_, rfl⟩
      rw [hcc] at hc t37 t95
      obtain ⟨b37, h37⟩ : ∃ b, (c == UInt8.ofNat 37) = b := ⟨_, rfl⟩
      obtain ⟨b95, h95⟩ : ∃ b, (c == UInt8.ofNat 95) = b := ⟨_, rfl⟩
      rw [h37] at t37
      rw [h95] at t95
      have hchr : chrB c = (!b37 && !b95) := by rw [← h37, ← h95]; rfl
      rw [hchr] at hc
      rw [← hcc] at t37 t95
      clear hcc hg h37 h95 hchr
      have t37 : ((((s[j]'hls).toNat : Nat) : Int) == 37) = b37 := t37
      have t95 : ((((s[j]'hls).toNat : Nat) : Int) == 95) = b95 := t95
      have t37n : ((((s[j]'hls).toNat : Nat) : Int) != 37) = !b37 := by rw [bne, t37]
      have t95n : ((((s[j]'hls).toNat : Nat) : Int) != 95) = !b95 := by rw [bne, t95]
      have hj2 := HJ.out
      have hjw : IntKind.i64.wrap ((j : Int) + 1) = ((j + 1 : Nat) : Int) := by rw [IntWalk.i64_in _ (by omega)]; omega
      cases b37 with
      | true =>
        rw [if_neg (by simp)] at hc
        rw [hc] at hj2
        have HE := Lib.hid (HL.out j hj2.symm hj)
        clear hc hj2 t95 t95n hjw
        go_wp2_with (fail)
        go_ret
        exact ⟨by rw [HE.out]; rfl, HBL.out⟩
      | false =>
        cases b95 with
        | true =>
          rw [if_neg (by decide)] at hc
          rw [hc] at hj2
          have HE := Lib.hid (HL.out j hj2.symm hj)
          clear hc hj2 hjw
          go_wp2_with (fail)
          go_ret
          exact ⟨by rw [HE.out]; rfl, HBL.out⟩
        | false =>
          rw [if_pos (by decide)] at hc
          rw [hc, List.length_cons] at hj2
          have HN := Lib.hid (show j + 1 + (leadL (l.drop (j + 1))).length = (leadL l).length by omega)
          clear hc hj2
          go_wp2_with (fail)
          go_roundw
          case rel => exact ⟨j + 1, by omega, by go_num, HN, by first | rfl | trivial⟩
          case measure => simp [intOf]; omega
    · have hje : j = l.length := by omega
      have hj3 := HJ.out
      rw [hje, List.drop_length] at hj3
      have HE := Lib.hid (HL.out j (by rw [hje]; exact hj3.symm) hj)
      have hji : ¬ (j : Int) < (l.length : Int) := by omega
      clear hlt hje hj3
      go_wp2_with (fail)
      go_ret
      exact ⟨by rw [HE.out]; rfl, HBL.out⟩
set_option maxHeartbeats 2000000 in
theorem least_any (l : List UInt8) (hl : l.length ≤ 1000000) (w : World) : Calls Try.prog 11 #[.string (bt l)] w fun e w' => e = .returned (.int .i64 (leastL l : Nat)) ∧ Below w.heap.size w w' := by
  have hsz : (bt l).size = l.length := bt_size l
  have HG := Lib.hid (bt_get l)
  have HC := Lib.hid (least_cons l)
  have HN0 := Lib.hid (show leastL (l.drop l.length) = 0 by rw [List.drop_length]; rfl)
  have hll := leastL_le l
  obtain ⟨N, hN⟩ : ∃ N, leastL l = N := ⟨_, rfl⟩
  have H0 := Lib.hid (show 0 + leastL (l.drop 0) = N by rw [Nat.zero_add, List.drop_zero]; exact hN)
  rw [hN] at hll ⊢
  obtain ⟨s, hs⟩ : ∃ s, bt l = s := ⟨_, rfl⟩
  rw [hs] at hsz HG ⊢
  have hml : s.size ≤ maxLen := by show s.size ≤ 9223372036854775807; omega
  clear hs hN
  go_enter Try.func11, Try.ntmps11
  go_wp2_with (fail)
  go_loopw [3, 7] (fun n i wr => ∃ (j m : Nat), j ≤ l.length ∧ i = .int .i64 j ∧ n = .int .i64 m ∧ Hid (m + leastL (l.drop j) = N) ∧ wr = w) (fun _ i _ => l.length - (intOf i).toNat)
  case atStart => exact ⟨0, 0, Nat.zero_le _, rfl, rfl, H0, rfl⟩
  case round =>
    obtain ⟨j, m, hj, rfl, rfl, HJ, rfl⟩ := hrel
    by_cases hlt : j < l.length
    · have hls : j < s.size := by omega
      have hji : (j : Int) < (l.length : Int) := by omega
      have hg := HG.out j hls
      have hc := HC.out j hlt
      have t37 := byte_eq (l.getD j 0) 37 (by decide)
      have hj2 := HJ.out
      obtain ⟨b37, h37⟩ : ∃ b, (l.getD j 0 == UInt8.ofNat 37) = b := ⟨_, rfl⟩
      rw [h37, ← hg] at t37
      have t37 : ((((s[j]'hls).toNat : Nat) : Int) == 37) = b37 := t37
      have t37n : ((((s[j]'hls).toNat : Nat) : Int) != 37) = !b37 := by rw [bne, t37]
      clear hg
      cases b37 with
      | true =>
        have e : l.getD j 0 = 37 := eq_of_beq h37
        rw [if_pos e] at hc
        have HN := Lib.hid (show m + leastL (l.drop (j + 1)) = N by omega)
        clear hc hj2 e h37
        go_wp2_with (fail)
        go_roundw
        case rel => exact ⟨j + 1, m, by omega, by go_num, rfl, HN, by first | rfl | trivial⟩
        case measure => simp [intOf]; omega
      | false =>
        have e : ¬ l.getD j 0 = 37 := fun e => by rw [e] at h37; exact absurd h37 (by decide)
        rw [if_neg e] at hc
        have HN := Lib.hid (show m + 1 + leastL (l.drop (j + 1)) = N by omega)
        have hmN : m + 1 ≤ 1000000 := by omega
        have hwm : IntKind.i64.wrap ((m : Int) + 1) = (m : Int) + 1 := IntWalk.i64_in _ (by omega)
        clear hc hj2 e h37
        go_wp2_with (fail)
        go_roundw
        case rel => exact ⟨j + 1, m + 1, by omega, by go_num, by go_num, HN, by first | rfl | trivial⟩
        case measure => simp [intOf]; omega
    · obtain rfl : j = l.length := by omega
      have hx := HJ.out
      rw [HN0.out, Nat.add_zero] at hx
      have HE := Lib.hid hx
      clear hlt hx
      go_wp2_with (fail)
      go_ret
      exact ⟨by rw [← HE.out]; go_num, Below.refl _ _⟩
end Go.Proofs.Ytbldhfafflobbaa
