/- Contracts of crc.shift, crc.More and crc.Sum. -/
import Derived.Test.YtagaaomdmjnbbaaCrcRefSum
import Derived.Laws.BitsAllLaws
import Derived.WalkMore
namespace Go.Proofs.Ytagaaomdmjnbbaa
open Go.RowKit
set_option linter.unusedVariables false
/-- the sum of a text behind one whose sum is n -/
def crcMore (n : Nat) (s : ByteArray) : Nat := 4294967295 - crcBytes (4294967295 - n) s.data.toList
theorem below_step4 {w w1 w2 : World} (h : Below w.heap.size w w1) (k : Below w1.heap.size w1 w2) : Below w.heap.size w w2 := h.trans (k.mono h.size)
theorem crcIdle_lt : ∀ (k : Nat) {r : Nat}, r < 4294967296 → crcIdle k r < 4294967296
  | 0, _, h => h
  | k + 1, _, h => crcIdle_lt k (crcStep_lt h false)
theorem and_one (r : Nat) (hr : r < 4294967296) : bits BinOp.and IntKind.u32 (r : Int) 1 = ((r % 2 : Nat) : Int) := by
  have h := u32_and_nat r 1 hr (by decide)
  rw [Nat.and_one_is_mod] at h
  exact h
theorem even_step (r : Nat) (hr : r < 4294967296) (h : (bits BinOp.and IntKind.u32 (r : Int) 1 == 0) = true) : Value.int IntKind.u32 ((r : Int) / 2) = .int .u32 (crcStep r false : Nat) := by
  rw [and_one r hr, beq_iff_eq] at h
  rw [crcStep_false, if_neg (by omega)]
  congr 1
theorem odd_step (r : Nat) (hr : r < 4294967296) (h : (bits BinOp.and IntKind.u32 (r : Int) 1 == 0) = false) : Value.int IntKind.u32 (bits BinOp.xor IntKind.u32 ((r : Int) / 2) 3988292384) = .int .u32 (crcStep r false : Nat) := by
  rw [and_one r hr, beq_eq_false_iff_ne] at h
  rw [crcStep_false, if_pos (by omega), crcPoly, ← u32_xor_nat (r / 2) 3988292384 (by omega) (by decide)]
  congr 1
theorem shift_any (n : Nat) (hn : n < 4294967296) (w : World) : Calls Try.prog 12 #[.int .u32 n] w fun e w' => e = .returned (.int .u32 (crcIdle 8 n : Nat)) ∧ Below w.heap.size w w' := by
  obtain ⟨m0, hm0⟩ : ∃ m : Nat, m = 8 := ⟨_, rfl⟩
  rw [← hm0]
  obtain ⟨T, hT⟩ : ∃ T, crcIdle m0 n = T := ⟨_, rfl⟩
  rw [hT]
  have HT := Lib.hid hT
  have HM := Lib.hid hm0
  clear hT hm0
  go_enter Try.func12, Try.ntmps12
  go_wp2
  go_step3
  go_wp2
  go_step3
  go_wp2
  go_loopw [0, 3, 4] (fun x o i wr => ∃ k m r : Nat, k ≤ 8 ∧ m + k = 8 ∧ i = .int .i64 k ∧ x = .int .u32 r ∧ r < 4294967296 ∧ Hid (crcIdle m r = T) ∧ Below w.heap.size w wr) (fun _ _ i _ => 8 - (intOf i).toNat)
  case atStart => exact ⟨0, m0, n, by omega, HM.out, rfl, rfl, hn, HT, Below.refl _ _⟩
  case round =>
    obtain ⟨k, m, r, hk, hm, rfl, rfl, hr, H, hb⟩ := hrel
    by_cases hlt : k < 8
    · obtain ⟨m, rfl⟩ : ∃ q, m = q + 1 := ⟨m - 1, by omega⟩
      go_wp2
      all_goals go_roundw
      case measure => simp [intOf]; omega
      case rel =>
        have ht : (bits BinOp.and IntKind.u32 (r : Int) 1 == 0) = true := by assumption
        exact ⟨k + 1, m, crcStep r false, by omega, by omega, by go_num, even_step r hr ht, crcStep_lt hr false, H, hb⟩
      case measure => simp [intOf]; omega
      case rel =>
        have ht : (bits BinOp.and IntKind.u32 (r : Int) 1 == 0) = false := by assumption
        exact ⟨k + 1, m, crcStep r false, by omega, by omega, by go_num, odd_step r hr ht, crcStep_lt hr false, H, hb⟩
    · obtain rfl : m = 0 := by omega
      have hr2 : r = T := H.out
      subst hr2
      go_wp2
      rw [Exit.noGoto_ret]
      go_ret
      exact ⟨rfl, hb⟩
theorem turn_u32 (n : Nat) (hn : n < 4294967296) : bits BinOp.xor IntKind.u32 IntKind.u32.max (n : Int) = ((4294967295 - n : Nat) : Int) := by
  have h := u32_xor_nat 4294967295 n (by decide) hn
  have e : 4294967295 ^^^ n = 4294967295 - n := by
    apply Nat.eq_of_testBit_eq
    intro i
    have h1 := Nat.testBit_two_pow_sub_succ (n := 32) (x := n) hn i
    have h2 := Nat.testBit_two_pow_sub_one 32 i
    rw [show (2 : Nat) ^ 32 - (n + 1) = 4294967295 - n by omega] at h1
    rw [show (2 : Nat) ^ 32 - 1 = 4294967295 by decide] at h2
    rw [Nat.testBit_xor, h1, h2]
    by_cases hi : i < 32
    · simp [hi]
    · have h3 : n.testBit i = false := Nat.testBit_lt_two_pow (Nat.lt_of_lt_of_le hn (Nat.pow_le_pow_right (n := 2) (by decide) (show 32 ≤ i by omega)))
      simp [hi, h3]
  rw [e] at h
  exact h
theorem val_u32 {k : IntKind} {a b : Int} (h : a = b) : Value.int k a = .int k b := by rw [h]
theorem shift_byte (r : Nat) (hr : r < 4294967296) (b : UInt8) (w : World) : Calls Try.prog 12 #[.int .u32 (bits BinOp.xor IntKind.u32 (r : Int) (((b.toNat : Nat) : Int) % 4294967296))] w fun e w' => e = .returned (.int .u32 (crcBits r (byteBits b) : Nat)) ∧ Below w.heap.size w w' := by
  have hb := b.toNat_lt
  have e : ((b.toNat : Nat) : Int) % 4294967296 = ((b.toNat : Nat) : Int) := by omega
  rw [e, u32_xor_nat r b.toNat hr (by omega), ← crcIdle_byte]
  exact shift_any _ (Nat.xor_lt_two_pow (n := 32) hr (by omega)) w
theorem crcBytes_next (r0 r k : Nat) (s : ByteArray) (hk : k < s.size) (h : crcBytes r0 (s.data.toList.take k) = r) : crcBytes r0 (s.data.toList.take (k + 1)) = crcBits r (byteBits s[k]) := by
  have hl : k < s.data.toList.length := by simpa using hk
  rw [List.take_add_one, List.getElem?_eq_getElem hl, crcBytes_append, h]
  simp [crcBytes]
  rfl
theorem crcBytes_all (r0 k : Nat) (s : ByteArray) (hk : s.size ≤ k) : crcBytes r0 (s.data.toList.take k) = crcBytes r0 s.data.toList := by
  rw [List.take_of_length_le (by simpa using hk)]
theorem more_any (n : Nat) (hn : n < 4294967296) (s : ByteArray) (hs : s.size ≤ 281474976710656) (w : World) : Calls Try.prog 9 #[.int .u32 n, .string s] w fun e w' => e = .returned (.int .u32 (crcMore n s : Nat)) ∧ Below w.heap.size w w' := by
  go_enter Try.func9, Try.ntmps9
  go_wp2
  all_goals try (exfalso; revert h; decide)
  go_loopw [5, 6, 11] (fun x o i wr => ∃ k r : Nat, k ≤ s.size ∧ i = .int .i64 k ∧ x = .int .u32 r ∧ r < 4294967296 ∧ Hid (crcBytes (4294967295 - n) (s.data.toList.take k) = r) ∧ Below w.heap.size w wr) (fun _ _ i _ => s.size - (intOf i).toNat)
  case atStart => exact ⟨0, 4294967295 - n, by omega, rfl, val_u32 (turn_u32 n hn), by omega, Lib.hid rfl, Below.refl _ _⟩
  case round =>
    obtain ⟨k, r, hk, rfl, rfl, hr, H, hb⟩ := hrel
    by_cases hlt : k < s.size
    · go_wp2_with (go_at_call 12; refine (shift_byte r hr _ _).mono ?_; rintro e w1 ⟨rfl, h1⟩)
      go_roundw
      case measure => simp [intOf]; omega
      case rel => exact ⟨k + 1, _, by omega, by go_num, rfl, crcBits_lt _ hr, Lib.hid (crcBytes_next _ _ _ _ hlt H.out), below_step4 hb h1⟩
    · go_wp2
      all_goals try (exfalso; revert h; decide)
      go_ret
      refine ⟨ret_u32 ?_, hb⟩
      rw [turn_u32 r hr, ← H.out, crcBytes_all _ _ _ (by omega)]
      rfl
theorem sum_any (s : ByteArray) (hs : s.size ≤ 281474976710656) (w : World) : Calls Try.prog 6 #[.string s] w fun e w' => e = .returned (.int .u32 (crcSum s : Nat)) ∧ Below w.heap.size w w' := by
  have HM := Lib.hid (more_any 0 (by decide) s hs)
  go_enter Try.func6, Try.ntmps6
  go_wp2_with (go_at_call 9; refine (HM.out _).mono ?_; rintro e w1 ⟨rfl, h1⟩)
  go_ret
  exact ⟨rfl, h1⟩
end Go.Proofs.Ytagaaomdmjnbbaa
