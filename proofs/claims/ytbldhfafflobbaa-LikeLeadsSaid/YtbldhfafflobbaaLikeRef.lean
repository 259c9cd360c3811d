/- The reference of chapter 17: Lead, Least. -/
import Derived.Test.YtbldhfafflobbaaLikeRow
import Derived.Test.YtbldhfafflobbaaOwn
import Derived.Deep.DeepCutAuto
import Derived.BigQuiet
namespace Go.Proofs.Ytbldhfafflobbaa
open Go.RowKit
set_option linter.unusedVariables false
set_option linter.unusedSimpArgs false
/-- a text of these bytes -/
def bt (l : List UInt8) : ByteArray := ⟨l.toArray⟩
theorem bt_size (l : List UInt8) : (bt l).size = l.length := by simp [bt, ByteArray.size]
theorem bt_get (l : List UInt8) (i : Nat) (h : i < (bt l).size) : (bt l)[i]'h = l.getD i 0 := by
  have h2 : i < l.length := by rw [bt_size] at h; exact h
  show (bt l).data[i]'h = _
  simp [bt, List.getD_eq_getElem?_getD, List.getElem?_eq_getElem h2]
theorem bt_extract (l : List UInt8) (i j : Nat) : (bt l).extract i j = bt ((l.take j).drop i) := by
  apply ByteArray.ext
  rw [ByteArray.data_extract]
  simp [bt, List.drop_take]
theorem bt_from (l : List UInt8) (j : Nat) (hj : j ≤ l.length) (wx : World) : (Instr.slice 9 (.string (bt l)) (some (.int .i64 (j : Nat))) none none).run Try.prog wx = .ok (.string (bt (l.drop j))) wx := by
  have h := run_slice_string_l (P := Try.prog) wx 9 (bt l) Try.underlying9 .i64 (j : Nat) (by omega) (by rw [bt_size]; omega)
  rw [h]
  show Result.ok (Value.string ((bt l).extract j (bt l).size)) wx = _
  rw [bt_extract, bt_size, List.take_length]
theorem bt_to (l : List UInt8) (j : Nat) (hj : j ≤ l.length) (wx : World) : (Instr.slice 9 (.string (bt l)) none (some (.int .i64 (j : Nat))) none).run Try.prog wx = .ok (.string (bt (l.take j))) wx := by
  have h := run_slice_string_h (P := Try.prog) wx 9 (bt l) Try.underlying9 .i64 (j : Nat) (by omega) (by rw [bt_size]; omega)
  rw [h]
  show Result.ok (Value.string ((bt l).extract 0 j)) wx = _
  rw [bt_extract, List.drop_zero]
/-- a byte, as the walk asks of it -/
theorem byte_eq (c : UInt8) (n : Nat) (hn : n < 256) : (((c.toNat : Nat) : Int) == (n : Int)) = (c == UInt8.ofNat n) := by
  rw [Bool.eq_iff_iff, beq_iff_eq, beq_iff_eq]
  constructor
  · intro h
    apply UInt8.toNat_inj.1
    rw [UInt8.toNat_ofNat_of_lt' hn]; omega
  · intro h; rw [h, UInt8.toNat_ofNat_of_lt' hn]
theorem lead_cons (l : List UInt8) (j : Nat) (hj : j < l.length) : leadL (l.drop j) = if chrB (l.getD j 0) = true then l.getD j 0 :: leadL (l.drop (j + 1)) else [] := by
  rw [drop_get hj]
  unfold leadL
  by_cases h : chrB (l.getD j 0) = true
  · rw [if_pos h, List.takeWhile_cons_of_pos h]
  · rw [if_neg h, List.takeWhile_cons_of_neg h]
set_option maxHeartbeats 2000000 in
theorem refLead_any (l : List UInt8) (hl : l.length ≤ 1000000) (w : World) : Calls Try.prog 10 #[.string (bt l)] w fun e w' => e = .returned (.string (bt (leadL l))) ∧ w' = w := by
  have hsz : (bt l).size = l.length := bt_size l
  have HG := Lib.hid (bt_get l)
  have HT := Lib.hid (fun j (hj : j ≤ l.length) wx => bt_to l j hj wx)
  have HC := Lib.hid (lead_cons l)
  have HL := Lib.hid (show ∀ j, (leadL l).length = j → j ≤ l.length → leadL l = l.take j from fun j h _ => by rw [← h]; exact (lead_take l).1.symm)
  have H0 := Lib.hid (show 0 + (leadL (l.drop 0)).length = (leadL l).length by rw [Nat.zero_add, List.drop_zero])
  obtain ⟨s, hs⟩ : ∃ s, bt l = s := ⟨_, rfl⟩
  rw [hs] at hsz HG HT ⊢
  have HS := Lib.hid hs
  have hml : s.size ≤ maxLen := by show s.size ≤ 9223372036854775807; omega
  clear hs
  go_enter Try.func10, Try.ntmps10
  go_wp2_with (fail)
  go_loopw [3] (fun i wr => ∃ j : Nat, j ≤ l.length ∧ i = .int .i64 j ∧ Hid (j + (leadL (l.drop j)).length = (leadL l).length) ∧ wr = w) (fun i _ => l.length - (intOf i).toNat)
  case atStart => exact ⟨0, Nat.zero_le _, rfl, H0, rfl⟩
  case round =>
    obtain ⟨j, hj, rfl, HJ, rfl⟩ := hrel
    by_cases hlt : j < l.length
    · have hls : j < s.size := by omega
      have hji : (j : Int) < (l.length : Int) := by omega
      have hg := HG.out j hls
      have hc := HC.out j hlt
      have t37 := byte_eq (l.getD j 0) 37 (by decide)
      have t95 := byte_eq (l.getD j 0) 95 (by decide)
      rw [← hg] at hc t37 t95
      have hst := HT.out j hj
      obtain ⟨c, hcc⟩ : ∃ c, s[j]'hls = c := ⟨_, rfl⟩
      rw [hcc] at hc t37 t95
      obtain ⟨b37, h37⟩ : ∃ b, (c == UInt8.ofNat 37) = b := ⟨_, rfl⟩
      obtain ⟨b95, h95⟩ : ∃ b, (c == UInt8.ofNat 95) = b := ⟨_, rfl⟩
      rw [h37] at t37
      rw [h95] at t95
      have hchr : chrB c = (!b37 && !b95) := by rw [← h37, ← h95]; rfl
      rw [hchr] at hc
      rw [← hcc] at t37 t95
      clear hcc hg h37 h95 hchr
      have t37 : ((((s[j]'hls).toNat : Nat) : Int) == 37) = b37 := t37
      have t95 : ((((s[j]'hls).toNat : Nat) : Int) == 95) = b95 := t95
      have hj2 := HJ.out
      cases b37 with
      | true =>
        rw [if_neg (by simp)] at hc
        rw [hc] at hj2
        have HE := Lib.hid (HL.out j hj2.symm hj)
        clear hc hj2 t95
        go_wp2_with (fail)
        go_ret
        exact ⟨by rw [HE.out]; rfl, rfl⟩
      | false =>
        cases b95 with
        | true =>
          rw [if_neg (by decide)] at hc
          rw [hc] at hj2
          have HE := Lib.hid (HL.out j hj2.symm hj)
          clear hc hj2
          go_wp2_with (fail)
          go_ret
          exact ⟨by rw [HE.out]; rfl, rfl⟩
        | false =>
          rw [if_pos (by decide)] at hc
          rw [hc, List.length_cons] at hj2
          have HN := Lib.hid (show j + 1 + (leadL (l.drop (j + 1))).length = (leadL l).length by omega)
          clear hc hj2
          go_wp2_with (fail)
          go_roundw
          case rel => exact ⟨j + 1, by omega, by go_num, HN, by first | rfl | trivial⟩
          case measure => simp [intOf]; omega
    · obtain rfl : j = l.length := by omega
      have HE := Lib.hid (HL.out l.length (by have := HJ.out; rw [List.drop_length] at this; exact this.symm) (Nat.le_refl _))
      clear hlt
      go_wp2_with (fail)
      go_ret
      exact ⟨by rw [HE.out, List.take_length, HS.out]; rfl, rfl⟩
theorem least_cons (l : List UInt8) (j : Nat) (hj : j < l.length) : leastL (l.drop j) = (if l.getD j 0 = 37 then 0 else 1) + leastL (l.drop (j + 1)) := by
  rw [drop_get hj]
  unfold leastL
  by_cases h : l.getD j 0 = 37
  · rw [if_pos h, List.filter_cons_of_neg (by rw [h]; decide), Nat.zero_add]
  · rw [if_neg h, List.filter_cons_of_pos (by simpa using h), List.length_cons]; omega
theorem leastL_le (l : List UInt8) : leastL l ≤ l.length := List.length_filter_le _ _
set_option maxHeartbeats 2000000 in
theorem refLeast_any (l : List UInt8) (hl : l.length ≤ 1000000) (w : World) : Calls Try.prog 12 #[.string (bt l)] w fun e w' => e = .returned (.int .i64 (leastL l : Nat)) ∧ w' = w := by
  have hsz : (bt l).size = l.length := bt_size l
  have HG := Lib.hid (bt_get l)
  have HC := Lib.hid (least_cons l)
  have HN0 := Lib.hid (show leastL (l.drop l.length) = 0 by rw [List.drop_length]; rfl)
  have hll := leastL_le l
  obtain ⟨N, hN⟩ : ∃ N, leastL l = N := ⟨_, rfl⟩
  have H0 := Lib.hid (show 0 + leastL (l.drop 0) = N by rw [Nat.zero_add, List.drop_zero]; exact hN)
  rw [hN] at hll ⊢
  obtain ⟨s, hs⟩ : ∃ s, bt l = s := ⟨_, rfl⟩
  rw [hs] at hsz HG ⊢
  have hml : s.size ≤ maxLen := by show s.size ≤ 9223372036854775807; omega
  clear hs hN
  go_enter Try.func12, Try.ntmps12
  go_wp2_with (fail)
  go_loopw [3, 4] (fun n i wr => ∃ (j m : Nat), j ≤ l.length ∧ i = .int .i64 j ∧ n = .int .i64 m ∧ Hid (m + leastL (l.drop j) = N) ∧ wr = w) (fun _ i _ => l.length - (intOf i).toNat)
  case atStart => exact ⟨0, 0, Nat.zero_le _, rfl, rfl, H0, rfl⟩
  case round =>
    obtain ⟨j, m, hj, rfl, rfl, HJ, rfl⟩ := hrel
    by_cases hlt : j < l.length
    · have hls : j < s.size := by omega
      have hji : (j : Int) < (l.length : Int) := by omega
      have hg := HG.out j hls
      have hc := HC.out j hlt
      have t37 := byte_eq (l.getD j 0) 37 (by decide)
      have hj2 := HJ.out
      obtain ⟨b37, h37⟩ : ∃ b, (l.getD j 0 == UInt8.ofNat 37) = b := ⟨_, rfl⟩
      rw [h37, ← hg] at t37
      have t37 : ((((s[j]'hls).toNat : Nat) : Int) == 37) = b37 := t37
      have t37n : ((((s[j]'hls).toNat : Nat) : Int) != 37) = !b37 := by rw [bne, t37]
      clear hg
      cases b37 with
      | true =>
        have e : l.getD j 0 = 37 := eq_of_beq h37
        rw [if_pos e] at hc
        have HN := Lib.hid (show m + leastL (l.drop (j + 1)) = N by omega)
        clear hc hj2 e h37
        go_wp2_with (fail)
        go_roundw
        case rel => exact ⟨j + 1, m, by omega, by go_num, rfl, HN, by first | rfl | trivial⟩
        case measure => simp [intOf]; omega
      | false =>
        have e : ¬ l.getD j 0 = 37 := fun e => by rw [e] at h37; exact absurd h37 (by decide)
        rw [if_neg e] at hc
        have HN := Lib.hid (show m + 1 + leastL (l.drop (j + 1)) = N by omega)
        have hmN : m + 1 ≤ 1000000 := by omega
        have hwm : IntKind.i64.wrap ((m : Int) + 1) = (m : Int) + 1 := IntWalk.i64_in _ (by omega)
        clear hc hj2 e h37
        go_wp2_with (fail)
        go_roundw
        case rel => exact ⟨j + 1, m + 1, by omega, by go_num, by go_num, HN, by first | rfl | trivial⟩
        case measure => simp [intOf]; omega
    · obtain rfl : j = l.length := by omega
      have hx := HJ.out
      rw [HN0.out, Nat.add_zero] at hx
      have HE := Lib.hid hx
      clear hlt hx
      go_wp2_with (fail)
      go_ret
      exact ⟨by rw [← HE.out]; go_num, rfl⟩
end Go.Proofs.Ytbldhfafflobbaa
