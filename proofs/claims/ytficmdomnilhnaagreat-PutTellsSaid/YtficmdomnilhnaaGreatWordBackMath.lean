/- What is put is taken; Sign and Bits undo one another: plain mathematics. -/
import Derived.Test.YtficmdomnilhnaaGreatAlignMath
import Derived.Test.YtficmdomnilhnaaGreatPrimMath
namespace Go.Proofs.YtficmdomnilhnaaGreat
open Go.RowKit
def isByte (x : Int) : Prop := 0 ≤ x ∧ x ≤ 255
theorem toNat_byte {x : Int} (h : isByte x) : ((UInt8.ofNat x.toNat).toNat : Int) = x := by
  unfold isByte at h
  rw [UInt8.toNat_ofNat']
  omega
theorem byteAt_list (l : List UInt8) (k : Nat) : byteAt ⟨l.toArray⟩ k = ((l.getD k 0).toNat : Int) := rfl
theorem sub_mid : ∀ (l : List Int) (pre post : List UInt8), (∀ x ∈ l, isByte x) → sub ⟨(pre ++ (l.map fun x => UInt8.ofNat x.toNat) ++ post).toArray⟩ pre.length l.length = l
  | [], _, _, _ => rfl
  | b :: l, pre, post, h => by
    have hb := h b (by simp)
    have ih := sub_mid l (pre ++ [UInt8.ofNat b.toNat]) post (fun x hx => h x (by simp [hx]))
    simp only [List.length_cons, sub]
    have e : pre ++ [UInt8.ofNat b.toNat] ++ (l.map fun x => UInt8.ofNat x.toNat) ++ post = pre ++ ((b :: l).map fun x => UInt8.ofNat x.toNat) ++ post := by simp
    have e' : (pre ++ [UInt8.ofNat b.toNat]).length = pre.length + 1 := by simp
    rw [e, e'] at ih
    rw [ih, byteAt_list]
    congr 1
    rw [List.append_assoc]
    rw [show (pre ++ (List.map (fun x => UInt8.ofNat x.toNat) (b :: l) ++ post)).getD pre.length 0 = UInt8.ofNat b.toNat by simp [List.getD_eq_getElem?_getD]]
    exact toNat_byte hb
theorem putL_length : ∀ (k : Nat) (n : Int), (putL k n).length = k
  | 0, _ => rfl
  | k + 1, n => by simp [putL, putL_length k]
theorem putL_bytes : ∀ (k : Nat) (n : Int), ∀ x ∈ putL k n, isByte x
  | 0, _, x, h => by simp [putL] at h
  | k + 1, n, x, h => by
    simp [putL] at h
    rcases h with rfl | h
    · unfold isByte; omega
    · exact putL_bytes k (n / 256) x h
theorem emod_mul' (n M : Int) (hM : 0 < M) : n % (256 * M) = n % 256 + 256 * (n / 256 % M) := by
  have a := Int.mul_ediv_add_emod n 256
  have b := Int.mul_ediv_add_emod (n / 256) M
  have c := Int.emod_lt_of_pos (n / 256) hM
  have d := Int.emod_nonneg (n / 256) (show M ≠ 0 by omega)
  have e : (n % 256 + 256 * (n / 256 % M)) + (256 * M) * (n / 256 / M) = n := by
    rw [Int.mul_assoc]; omega
  have f : (n % 256 + 256 * (n / 256 % M)) % (256 * M) = n % 256 + 256 * (n / 256 % M) := Int.emod_eq_of_lt (by omega) (by omega)
  have g := Int.add_mul_emod_self_left (n % 256 + 256 * (n / 256 % M)) (256 * M) (n / 256 / M)
  rw [e, f] at g
  exact g
theorem takeL_putL : ∀ (k : Nat) (n : Int), takeL (putL k n) = n % 256 ^ k
  | 0, n => by simp [putL, takeL]
  | k + 1, n => by
    simp only [putL, takeL]
    rw [takeL_putL k (n / 256), Int.pow_succ, Int.mul_comm (256 ^ k) 256, emod_mul' n _ (Int.pow_pos (by omega))]
theorem putS_size (n z : Int) : (putS n z).size = z.toNat := by
  unfold putS bytesOf ByteArray.size
  simp [putL_length]
theorem take_mid (a b : ByteArray) (n z : Int) (hz : isSz z = true) (h0 : 0 ≤ n) (hf : fits n z = true) : takeE (a ++ putS n z ++ b) a.size z = 0 ∧ takeN (a ++ putS n z ++ b) a.size z = n := by
  have hzp : 0 ≤ z ∧ z ≤ 8 := by rcases isSz_cases hz with rfl | rfl | rfl | rfl <;> omega
  have hs : (a ++ putS n z ++ b).size = a.size + z.toNat + b.size := by rw [ByteArray.size_append, ByteArray.size_append, putS_size]
  have hl : ((a.size : Nat) : Int) + z ≤ ((a ++ putS n z ++ b).size : Int) := by rw [hs]; omega
  obtain ⟨h1, h2⟩ := take_in hz hl
  refine ⟨h1, h2.trans ?_⟩
  unfold takeS
  have hb : a ++ putS n z ++ b = ⟨(a.data.toList ++ ((putL z.toNat n).map fun x => UInt8.ofNat x.toNat) ++ b.data.toList).toArray⟩ := by
    apply ByteArray.ext
    simp [putS, bytesOf]
  have hm := sub_mid (putL z.toNat n) a.data.toList b.data.toList (putL_bytes _ _)
  rw [← hb, putL_length] at hm
  have hlen : a.data.toList.length = a.size := by rw [Array.length_toList]; rfl
  rw [hlen] at hm
  rw [hm, takeL_putL]
  unfold fits pw at hf
  simp at hf
  exact Int.emod_eq_of_lt h0 hf
theorem bits_sign (n z : Int) (hz : isSz z = true) (h0 : 0 ≤ n) (hf : fits n z = true) : bitsN (signZ n z) z = n ∧ bitsE (signZ n z) z = 0 := by
  unfold fits at hf
  simp at hf
  have hs : signZ (signZ n z) z = signZ n z ∧ (signZ n z) % pw z = n := by
    unfold signZ
    rw [if_pos hz]
    simp only [if_pos hz]
    rcases isSz_cases hz with rfl | rfl | rfl | rfl
    · rw [pw1] at *; (repeat' split) <;> omega
    · rw [pw2] at *; (repeat' split) <;> omega
    · rw [pw4] at *; (repeat' split) <;> omega
    · rw [pw8] at *; (repeat' split) <;> omega
  have hr := (signZ_eq hz).1 hs.1
  rw [bitsN_in hz hr, bitsE_in hz hr]
  exact ⟨hs.2, rfl⟩
theorem wide_wide (n z : Int) : IntKind.u64.wrap (signZ (IntKind.u64.wrap (signZ n z)) z) = IntKind.u64.wrap (signZ n z) := by
  rw [signZ_u64]
  congr 1
  unfold signZ
  cases hz : isSz z with
  | false => rfl
  | true =>
    simp only [if_true]
    rcases isSz_cases hz with rfl | rfl | rfl | rfl
    · rw [pw1]; (repeat' split) <;> omega
    · rw [pw2]; (repeat' split) <;> omega
    · rw [pw4]; (repeat' split) <;> omega
    · rw [pw8]; (repeat' split) <;> omega
theorem sign_bits (m z : Int) (h : (bitsE m z != 0) = false) : signZ (bitsN m z) z = m := by
  simp at h
  unfold bitsE at h
  cases hz : isSz z with
  | false => rw [hz] at h; simp at h
  | true =>
    rw [hz] at h
    simp only [if_true] at h
    cases hr : inR m z with
    | false => rw [hr] at h; simp at h
    | true =>
      rw [bitsN_in hz hr]
      unfold signZ inR at *
      rw [if_pos hz]
      simp at hr
      rcases isSz_cases hz with rfl | rfl | rfl | rfl
      · rw [pw1] at *; (repeat' split) <;> omega
      · rw [pw2] at *; (repeat' split) <;> omega
      · rw [pw4] at *; (repeat' split) <;> omega
      · rw [pw8] at *; (repeat' split) <;> omega
end Go.Proofs.YtficmdomnilhnaaGreat
