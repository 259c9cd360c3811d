/- Contracts of chapter 3's reference: bits. -/
import Derived.Test.YtagaaomdmjnbbaaCrcRef
namespace Go.Proofs.Ytagaaomdmjnbbaa
open Go.RowKit
set_option linter.unusedVariables false
theorem row_shape' {w : World} {base : Nat} {e : TypeId} {size : Nat} {v : Value} {n : Nat} {xs : List Value} (h : w.ownsRow base e size v n xs) : ∃ a c, v = .slice a n c := by
  rcases h.2 with ⟨rfl, rfl⟩ | ⟨g, cap, cur, rfl, _⟩
  · exact ⟨_, _, rfl⟩
  · exact ⟨_, _, rfl⟩
theorem infoBool : (Try.prog.info? 4).map (fun i => (i.zero, i.size, i.bytes)) = some (some (.bool false), 1, 1) := by kernel_rfl
/-- bools in a row of the call's own -/
def BoolsTo (w : World) (l : List Bool) (e : Ending) (w' : World) : Prop :=
  ∃ v, e = .returned v ∧ w'.ownsRow w.heap.size 4 1 v l.length (l.map Value.bool) ∧ Below w.heap.size w w'
def msgBits (s : ByteArray) : List Bool := s.data.toList.flatMap byteBits
theorem bitsN8_snoc : ∀ (k n : Nat), bitsN8 (k + 1) n = bitsN8 k n ++ [(n / 2 ^ k).testBit 0]
  | 0, n => by simp [bitsN8]
  | k + 1, n => by
    show n.testBit 0 :: bitsN8 (k + 1) (n / 2) = _
    rw [bitsN8_snoc k (n / 2), Nat.div_div_eq_div_mul, ← Nat.pow_succ']; rfl
theorem odd_bit (x : Nat) : (((x : Nat) : Int) % 2 == 1) = x.testBit 0 := by
  rw [Nat.testBit_zero]
  rcases Nat.mod_two_eq_zero_or_one x with h | h
  · have : ((x : Nat) : Int) % 2 = 0 := by omega
    rw [this, h]; rfl
  · have : ((x : Nat) : Int) % 2 = 1 := by omega
    rw [this, h]; rfl
theorem bits_next {w : World} {base k : Nat} {v : Value} {A : List Bool} {x q : Nat} {bb : Bool} (hb : bb = (x / 2 ^ q).testBit 0)
    (h : w.ownsRow base 4 1 v (k + q + 1) ((A ++ bitsN8 q x).map Value.bool ++ [.bool bb])) : w.ownsRow base 4 1 v (k + (q + 1)) ((A ++ bitsN8 (q + 1) x).map Value.bool) := by
  subst hb
  rw [bitsN8_snoc, ← List.append_assoc, List.map_append]
  exact h
theorem msgBits_length (s : ByteArray) : (msgBits s).length = 8 * s.size := by unfold msgBits; rw [bytes_bits_length]; simp
theorem bits_all (s : ByteArray) {w : World} {base : Nat} {v : Value} (h : w.ownsRow base 4 1 v (8 * s.size) (((s.data.toList.take s.size).flatMap byteBits).map Value.bool)) : w.ownsRow base 4 1 v (msgBits s).length ((msgBits s).map Value.bool) := by
  rw [msgBits_length]
  rw [List.take_of_length_le (by simp)] at h
  exact h
set_option maxHeartbeats 1000000 in
theorem refBits_row (s : ByteArray) (hs : s.size ≤ 1000000) (w : World) : Calls Try.prog 10 #[.string s] w (BoolsTo w (msgBits s)) := by
  obtain ⟨i0, hi, hz0, hz1, hz2⟩ := info_parts infoBool
  go_enter Try.func10, Try.ntmps10
  go_wp2
  go_loopw [3, 4] (fun v i wr => ∃ k : Nat, k ≤ s.size ∧ i = .int .i64 k ∧ wr.ownsRow w.heap.size 4 1 v (8 * k) (((s.data.toList.take k).flatMap byteBits).map Value.bool) ∧ Below w.heap.size w wr) (fun _ i _ => s.size - (intOf i).toNat)
  case atStart => exact ⟨0, Nat.zero_le _, rfl, World.ownsRow_nil _ _ _ _, Below.refl _ _⟩
  case round =>
    obtain ⟨k, hk, rfl, hown, hr⟩ := hrel
    by_cases hlt : k < s.size
    · obtain ⟨wo, rfl⟩ : ∃ wo : World, wo = wr := ⟨_, rfl⟩
      obtain ⟨A, hA⟩ : ∃ A, (s.data.toList.take k).flatMap byteBits = A := ⟨_, rfl⟩
      have HT := Lib.hid (show (s.data.toList.take (k + 1)).flatMap byteBits = A ++ bitsN8 8 s[k].toNat by
        rw [List.take_succ_eq_append_getElem (by simpa using hlt), List.flatMap_append, hA]; simp [byteBits]; rfl)
      rw [hA] at hown
      clear hA
      obtain ⟨x, hx⟩ : ∃ x, s[k].toNat = x := ⟨_, rfl⟩
      have hx8 : x < 256 := hx ▸ s[k].toNat_lt
      rw [hx] at HT
      go_wp2
      clear hx
      go_loopw [3, 5, 6] (fun v n i wr => ∃ q : Nat, q ≤ 8 ∧ i = .int .i64 q ∧ n = .int .i64 (x / 2 ^ q : Nat) ∧ wr.ownsRow w.heap.size 4 1 v (8 * k + q) ((A ++ bitsN8 q x).map Value.bool) ∧ Below w.heap.size w wr) (fun _ _ i _ => 8 - (intOf i).toNat)
      case atStart => exact ⟨0, by omega, rfl, by simp, by simpa [bitsN8] using hown, hr⟩
      case round =>
        obtain ⟨q, hq, rfl, rfl, hown1, hr1⟩ := hrel
        by_cases hlq : q < 8
        · obtain ⟨y, hy⟩ : ∃ y, x / 2 ^ q = y := ⟨_, rfl⟩
          have hy8 : y < 256 := by have := Nat.div_le_self x (2 ^ q); omega
          have HY := Lib.hid hy
          rw [hy]
          clear hy
          have hsz := hr1.size
          go_wp2_with (at_builtin; refine wpList_append_at rfl (.tmp 21) (.tmp 25) 32 rfl w.heap.size 4 i0 (.bool false) 1 1 Try.underlying32 hi hz0 hz1 hz2 rfl (by decide) _ (8 * k + q) _ rfl (hown1.alloc _) ⟨_, 0, none⟩ 1 1 [.bool (((y : Nat) : Int) % 2 == 1)] rfl rfl ?c1 ?c2 (by unfold maxLen; omega) (by omega) (by simp; omega) ?_)
          case c1 => intro j u hj; match j, hj with | 0, hj => simp at hj; subst hj; simp [Addr.add]
          case c2 => intro u hu; simp at hu; subst hu; rfl
          intro v2 w2 hown2 hg2 hf2
          have hN : w2.ownsRow w.heap.size 4 1 v2 (8 * k + (q + 1)) ((A ++ bitsN8 (q + 1) x).map Value.bool) := bits_next (bb := (((y : Nat) : Int) % 2 == 1)) (by rw [HY.out]; exact odd_bit y) (by simpa [List.append_assoc, Nat.add_assoc] using hown2)
          have HN := Lib.hid hN
          have HB := Lib.hid ((hr1.alloc hsz _).grown hg2 (by simp; omega) (fun k hk => (hown1.lt k hk).1))
          clear hown2 hg2 hf2 hN hown1 hr1
          go_wp2
          go_roundw
          case rel => exact ⟨q + 1, by omega, by go_num, (by rw [Nat.pow_succ, ← Nat.div_div_eq_div_mul, HY.out]; simp), HN.out, HB.out⟩
          case measure => simp [intOf]; omega
        · obtain rfl : q = 8 := by omega
          go_wp2
          go_roundw
          case rel => exact ⟨k + 1, by omega, by go_num, (by rw [HT.out]; exact hown1), hr1⟩
          case measure => simp [intOf]; omega
    · obtain rfl : k = s.size := by omega
      go_wp2
      go_ret
      exact ⟨_, rfl, bits_all s hown, hr⟩
end Go.Proofs.Ytagaaomdmjnbbaa
