/- Plain mathematics of chapter 3: the register of the check sum, bit by bit; its steps are one to one; texts that differ within 32 bits have different registers; the division of polynomials gives the same register. No dump is imported. -/
import Derived.WalkKit
namespace Go.Proofs.Ytagaaomdmjnbbaa
set_option linter.unusedVariables false
def crcPoly : Nat := 3988292384
/-- one bit more -/
def crcStep (r : Nat) (b : Bool) : Nat := (r >>> 1) ^^^ (if (r.testBit 0) != b then crcPoly else 0)
def crcBits (r : Nat) (l : List Bool) : Nat := l.foldl crcStep r
/-- n bits of a number, the lowest first -/
def bitsN8 : Nat → Nat → List Bool
  | 0, _ => []
  | k + 1, n => n.testBit 0 :: bitsN8 k (n / 2)
def byteBits (b : UInt8) : List Bool := bitsN8 8 b.toNat
def crcBytes (r : Nat) (l : List UInt8) : Nat := crcBits r (l.flatMap byteBits)
theorem crcBits_append (r : Nat) (a b : List Bool) : crcBits r (a ++ b) = crcBits (crcBits r a) b := by simp [crcBits]
theorem crcBytes_append (r : Nat) (a b : List UInt8) : crcBytes r (a ++ b) = crcBytes (crcBytes r a) b := by simp [crcBytes, crcBits_append]
theorem poly_lt : crcPoly < 2 ^ 32 := by decide
theorem crcStep_lt {r : Nat} (h : r < 2 ^ 32) (b : Bool) : crcStep r b < 2 ^ 32 := by
  unfold crcStep
  refine Nat.xor_lt_two_pow (by rw [Nat.shiftRight_eq_div_pow]; omega) ?_
  split
  · exact poly_lt
  · decide
theorem crcBits_lt : ∀ (l : List Bool) {r : Nat}, r < 2 ^ 32 → crcBits r l < 2 ^ 32
  | [], _, h => h
  | b :: l, _, h => crcBits_lt l (crcStep_lt h b)
theorem crcBytes_lt (l : List UInt8) {r : Nat} (h : r < 2 ^ 32) : crcBytes r l < 2 ^ 32 := crcBits_lt _ h
theorem poly31 : crcPoly.testBit 31 = true := by decide
/-- the highest bit behind a step tells which way it went -/
theorem step31 {r : Nat} (h : r < 2 ^ 32) (b : Bool) : (crcStep r b).testBit 31 = ((r.testBit 0) != b) := by
  unfold crcStep
  rw [Nat.testBit_xor, Nat.testBit_shiftRight]
  have h32 : r.testBit (1 + 31) = false := Nat.testBit_lt_two_pow h
  rw [h32]
  cases (r.testBit 0) != b
  · simp
  · simp [poly31]
/-- the number of some bits, the lowest first -/
def packB : List Bool → Nat
  | [] => 0
  | b :: l => b.toNat + 2 * packB l
theorem packB_lt : ∀ (l : List Bool), packB l < 2 ^ l.length
  | [] => by decide
  | b :: l => by
    have := packB_lt l
    have hb : b.toNat ≤ 1 := by cases b <;> decide
    simp only [packB, List.length_cons, Nat.pow_succ]; omega
theorem packB_zero (b : Bool) (l : List Bool) : (packB (b :: l)).testBit 0 = b := by
  simp only [packB, Nat.testBit_zero]; cases b <;> simp <;> omega
theorem packB_succ (b : Bool) (l : List Bool) (j : Nat) : (packB (b :: l)).testBit (j + 1) = (packB l).testBit j := by
  rw [Nat.testBit_succ]; congr 1; simp only [packB]; cases b <;> simp <;> omega
theorem packB_inj : ∀ {l l' : List Bool}, l.length = l'.length → packB l = packB l' → l = l'
  | [], [], _, _ => rfl
  | b :: l, b' :: l', h, e => by
    have h0 := congrArg (fun n => n.testBit 0) e
    simp only [packB_zero] at h0
    subst h0
    have h1 : packB l = packB l' := by simp only [packB] at e; omega
    rw [packB_inj (by simpa using h) h1]
/-- equal registers behind at most 32 bits: register and bits together were equal before -/
theorem crcBits_back : ∀ (l l' : List Bool) (r r' : Nat), l.length = l'.length → l.length ≤ 32 → r < 2 ^ 32 → r' < 2 ^ 32 → crcBits r l = crcBits r' l' → r ^^^ packB l = r' ^^^ packB l'
  | [], [], r, r', _, _, _, _, h => by simpa [crcBits, packB] using h
  | b :: l, b' :: l', r, r', hl, h32, hr, hr', h => by
    have ih := crcBits_back l l' (crcStep r b) (crcStep r' b') (by simpa using hl) (by simp at h32; omega) (crcStep_lt hr b) (crcStep_lt hr' b') h
    have hp : ∀ m : List Bool, m.length ≤ 31 → (packB m).testBit 31 = false := fun m hm => Nat.testBit_lt_two_pow (Nat.lt_of_lt_of_le (packB_lt m) (Nat.pow_le_pow_right (by omega) hm))
    have hm : l.length ≤ 31 := by simp at h32; omega
    have hm' : l'.length ≤ 31 := by simp at h32 hl; omega
    have h31 : ((r.testBit 0) != b) = ((r'.testBit 0) != b') := by
      have := congrArg (fun n => n.testBit 31) ih
      simp only [Nat.testBit_xor, step31 hr, step31 hr', hp l hm, hp l' hm'] at this
      simpa using this
    have hs : (r >>> 1) ^^^ packB l = (r' >>> 1) ^^^ packB l' := by
      apply Nat.eq_of_testBit_eq
      intro j
      have := congrArg (fun n => n.testBit j) ih
      simp only [crcStep, Nat.testBit_xor, h31] at this
      simp only [Nat.testBit_xor]
      generalize (if ((r'.testBit 0) != b') = true then crcPoly else 0).testBit j = x at this
      generalize (r >>> 1).testBit j = y at this ⊢
      generalize (r' >>> 1).testBit j = z at this ⊢
      generalize (packB l).testBit j = u at this ⊢
      generalize (packB l').testBit j = v at this ⊢
      cases x <;> cases y <;> cases z <;> cases u <;> cases v <;> simp_all
    apply Nat.eq_of_testBit_eq
    intro j
    rw [Nat.testBit_xor, Nat.testBit_xor]
    cases j with
    | zero => rw [packB_zero, packB_zero]; exact h31
    | succ j =>
      rw [packB_succ, packB_succ]
      have := congrArg (fun n => n.testBit j) hs
      simp only [Nat.testBit_xor, Nat.testBit_shiftRight] at this
      rwa [Nat.add_comm 1 j] at this
theorem xor_right_inj' {a b c : Nat} (h : a ^^^ b = a ^^^ c) : b = c := by
  apply Nat.eq_of_testBit_eq
  intro j
  have := congrArg (fun n => n.testBit j) h
  simp only [Nat.testBit_xor] at this
  generalize a.testBit j = x at this
  generalize b.testBit j = y at this ⊢
  generalize c.testBit j = z at this ⊢
  cases x <;> cases y <;> cases z <;> simp_all
/-- a register's bits one by one: the steps over the same bits are one to one -/
theorem crcBits_inj : ∀ (l : List Bool) (r r' : Nat), r < 2 ^ 32 → r' < 2 ^ 32 → crcBits r l = crcBits r' l → r = r'
  | [], r, r', _, _, h => h
  | b :: l, r, r', hr, hr', h => by
    have h1 := crcBits_inj l _ _ (crcStep_lt hr b) (crcStep_lt hr' b) h
    have h2 := crcBits_back [b] [b] r r' rfl (by simp) hr hr' h1
    rw [Nat.xor_comm r, Nat.xor_comm r'] at h2
    exact xor_right_inj' h2
theorem bitsN8_length : ∀ (k n : Nat), (bitsN8 k n).length = k
  | 0, _ => rfl
  | k + 1, n => by simp [bitsN8, bitsN8_length k]
theorem packB_bits : ∀ (k n : Nat), packB (bitsN8 k n) = n % 2 ^ k
  | 0, n => by simp [bitsN8, packB]; omega
  | k + 1, n => by
    simp only [bitsN8, packB, packB_bits k, Nat.testBit_zero]
    have e : n % 2 ^ (k + 1) = n % 2 + 2 * (n / 2 % 2 ^ k) := by rw [Nat.pow_succ', Nat.mod_mul]
    rw [e]
    rcases Nat.mod_two_eq_zero_or_one n with h | h <;> simp [h]
theorem byteBits_inj {a b : UInt8} (h : byteBits a = byteBits b) : a = b := by
  have := congrArg packB h
  unfold byteBits at this
  rw [packB_bits, packB_bits] at this
  have ha := a.toNat_lt
  have hb := b.toNat_lt
  apply UInt8.toNat_inj.1
  omega
theorem bytes_bits_length (l : List UInt8) : (l.flatMap byteBits).length = 8 * l.length := by
  induction l with
  | nil => rfl
  | cons a l ih => rw [List.flatMap_cons, List.length_append, ih]; simp [byteBits, bitsN8_length]; omega
theorem bytes_bits_inj : ∀ {l l' : List UInt8}, l.length = l'.length → l.flatMap byteBits = l'.flatMap byteBits → l = l'
  | [], [], _, _ => rfl
  | a :: l, b :: l', h, e => by
    rw [List.flatMap_cons, List.flatMap_cons] at e
    obtain ⟨h1, h2⟩ := List.append_inj e (by simp [byteBits, bitsN8_length])
    rw [byteBits_inj h1, bytes_bits_inj (by simpa using h) h2]
/-- texts that differ only within four bytes side by side have different registers -/
theorem crc_burst {p x x' q : List UInt8} {r : Nat} (hr : r < 2 ^ 32) (hl : x.length = x'.length) (h4 : x.length ≤ 4) (h : crcBytes r (p ++ x ++ q) = crcBytes r (p ++ x' ++ q)) : x = x' := by
  rw [crcBytes_append, crcBytes_append, crcBytes_append r _ q, crcBytes_append r p x'] at h
  have hp := crcBytes_lt p hr
  have h1 := crcBits_inj _ _ _ (crcBytes_lt x hp) (crcBytes_lt x' hp) h
  have h2 := crcBits_back _ _ _ _ (by rw [bytes_bits_length, bytes_bits_length, hl]) (by rw [bytes_bits_length]; omega) hp hp h1
  have h3 := packB_inj (by rw [bytes_bits_length, bytes_bits_length, hl]) (xor_right_inj' h2)
  exact bytes_bits_inj hl h3
/-- a byte at once: the byte is combined with the register, then eight steps without data -/
theorem crcStep_xor (r x : Nat) : crcStep (r ^^^ x) false = crcStep r (x.testBit 0) ^^^ (x / 2) := by
  unfold crcStep
  apply Nat.eq_of_testBit_eq
  intro j
  simp only [Nat.testBit_xor, Nat.testBit_shiftRight, Nat.testBit_div_two]
  rw [Nat.add_comm 1 j]
  cases r.testBit 0 <;> cases x.testBit 0 <;> simp [Bool.xor_comm]
/-- k steps without data -/
def crcIdle : Nat → Nat → Nat
  | 0, r => r
  | k + 1, r => crcIdle k (crcStep r false)
theorem crcIdle_xor : ∀ (k r x : Nat), crcIdle k (r ^^^ x) = crcBits r (bitsN8 k x) ^^^ (x / 2 ^ k)
  | 0, r, x => by simp [crcIdle, bitsN8, crcBits]
  | k + 1, r, x => by
    show crcIdle k (crcStep (r ^^^ x) false) = crcBits (crcStep r (x.testBit 0)) (bitsN8 k (x / 2)) ^^^ _
    rw [crcStep_xor, crcIdle_xor k, Nat.div_div_eq_div_mul, ← Nat.pow_succ']
theorem crcIdle_byte (r : Nat) (b : UInt8) : crcIdle 8 (r ^^^ b.toNat) = crcBits r (byteBits b) := by
  rw [crcIdle_xor]
  have : b.toNat / 2 ^ 8 = 0 := Nat.div_eq_of_lt b.toNat_lt
  rw [this, Nat.xor_zero]; rfl
theorem crcStep_false (r : Nat) : crcStep r false = if r % 2 = 1 then (r / 2) ^^^ crcPoly else r / 2 := by
  unfold crcStep
  rw [Nat.testBit_zero, Nat.shiftRight_eq_div_pow, Nat.pow_one]
  rcases Nat.mod_two_eq_zero_or_one r with h | h <;> simp [h]
end Go.Proofs.Ytagaaomdmjnbbaa
