/- Contracts of word.Put and of the reference's Put. -/
import Derived.Test.YtinmdkhafamibaaGreatWordRef
import Derived.Test.YtinmdkhafamibaaGreatAlignMath
import Derived.LoopN
import Derived.Handy
import Derived.OpenShut
import Derived.OneCell
import Derived.Lib.AppendStr
import Derived.Lib.UnsafeStr
import Derived.ProofKit
import Derived.Lib.Hide
import Derived.Test.YtinmdkhafamibaaGreatPrimMath
import Derived.Test.YtinmdkhafamibaaGreatOwn
namespace Go.Proofs.YtinmdkhafamibaaGreat
open Go.RowKit
theorem below_step {B : Nat} {w w1 w2 : World} (h : Below B w w1) (k : Below w1.heap.size w1 w2) (hB : B ≤ w.heap.size := by exact Nat.le_refl _) : Below B w w2 := h.trans (k.mono (Nat.le_trans hB h.size))
theorem put_1 (n : Int) (hn : (Lit.int .u64 n).wf = true) (hz : (lowZ n 1 != n) = false) (w : World) : Calls Tryz.prog 30 #[.int .u64 n, .int .i64 1] w fun e w' => e = .returned (.tuple #[.string (putS n 1), .int .i64 0]) ∧ Below w.heap.size w w' := by
  obtain ⟨hn0, hn1⟩ := bounds_u64 hn
  clear hn
  have hmk := mk1
  have hcv := conv1
  go_enter Tryz.func30, Tryz.ntmps30
  go_wp2_with (first | (go_at_call 53; refine (isSize_any _ _).mono ?_; rintro e w' ⟨rfl, rfl⟩) | (go_at_call 54; refine (lowest_any _ _ (by rfl) _).mono ?_; rintro e w1 ⟨rfl, hq⟩; have hb1 := below_quiet hq; clear hq))
  go_rounds 2
  go_ret2
  exact ⟨ret_si (putS1 n) rfl, hb1.alloc hb1.size _⟩
theorem put_2 (n : Int) (hn : (Lit.int .u64 n).wf = true) (hz : (lowZ n 2 != n) = false) (w : World) : Calls Tryz.prog 30 #[.int .u64 n, .int .i64 2] w fun e w' => e = .returned (.tuple #[.string (putS n 2), .int .i64 0]) ∧ Below w.heap.size w w' := by
  obtain ⟨hn0, hn1⟩ := bounds_u64 hn
  clear hn
  have hmk := mk2
  have hcv := conv2
  go_enter Tryz.func30, Tryz.ntmps30
  go_wp2_with (first | (go_at_call 53; refine (isSize_any _ _).mono ?_; rintro e w' ⟨rfl, rfl⟩) | (go_at_call 54; refine (lowest_any _ _ (by rfl) _).mono ?_; rintro e w1 ⟨rfl, hq⟩; have hb1 := below_quiet hq; clear hq))
  go_rounds 3
  go_ret2
  exact ⟨ret_si (putS2 n) rfl, hb1.alloc hb1.size _⟩
theorem put_4 (n : Int) (hn : (Lit.int .u64 n).wf = true) (hz : (lowZ n 4 != n) = false) (w : World) : Calls Tryz.prog 30 #[.int .u64 n, .int .i64 4] w fun e w' => e = .returned (.tuple #[.string (putS n 4), .int .i64 0]) ∧ Below w.heap.size w w' := by
  obtain ⟨hn0, hn1⟩ := bounds_u64 hn
  clear hn
  have hmk := mk4
  have hcv := conv4
  go_enter Tryz.func30, Tryz.ntmps30
  go_wp2_with (first | (go_at_call 53; refine (isSize_any _ _).mono ?_; rintro e w' ⟨rfl, rfl⟩) | (go_at_call 54; refine (lowest_any _ _ (by rfl) _).mono ?_; rintro e w1 ⟨rfl, hq⟩; have hb1 := below_quiet hq; clear hq))
  go_rounds 5
  go_ret2
  exact ⟨ret_si (putS4 n) rfl, hb1.alloc hb1.size _⟩
theorem put_8 (n : Int) (hn : (Lit.int .u64 n).wf = true) (hz : (lowZ n 8 != n) = false) (w : World) : Calls Tryz.prog 30 #[.int .u64 n, .int .i64 8] w fun e w' => e = .returned (.tuple #[.string (putS n 8), .int .i64 0]) ∧ Below w.heap.size w w' := by
  obtain ⟨hn0, hn1⟩ := bounds_u64 hn
  clear hn
  have hmk := mk8
  have hcv := conv8
  go_enter Tryz.func30, Tryz.ntmps30
  go_wp2_with (first | (go_at_call 53; refine (isSize_any _ _).mono ?_; rintro e w' ⟨rfl, rfl⟩) | (go_at_call 54; refine (lowest_any _ _ (by rfl) _).mono ?_; rintro e w1 ⟨rfl, hq⟩; have hb1 := below_quiet hq; clear hq))
  go_rounds 9
  go_ret2
  exact ⟨ret_si (putS8' n hn0 hn1) rfl, hb1.alloc hb1.size _⟩
theorem put_any (n z : Int) (hn : (Lit.int .u64 n).wf = true) (w : World) : Calls Tryz.prog 30 #[.int .u64 n, .int .i64 z] w fun e w' => e = .returned (.tuple #[.string (putB n z), .int .i64 (putE n z)]) ∧ Below w.heap.size w w' := by
  cases hz : isSz z with
  | false =>
    rw [(put_no hz).1, (put_no hz).2]
    go_enter Tryz.func30, Tryz.ntmps30
    go_wp2_with (go_at_call 53; refine (isSize_any _ _).mono ?_; rintro e w' ⟨rfl, rfl⟩)
    go_ret2
    exact ⟨rfl, Below.refl _ _⟩
  | true =>
    have hlow := fits_low hz (bounds_u64 hn).1
    cases hf : fits n z with
    | false =>
      rw [hf] at hlow
      rw [(put_out hz hf).1, (put_out hz hf).2]
      go_enter Tryz.func30, Tryz.ntmps30
      go_wp2_with (first | (go_at_call 53; refine (isSize_any _ _).mono ?_; rintro e w' ⟨rfl, rfl⟩) | (go_at_call 54; refine (lowest_any _ _ hz _).mono ?_; rintro e w1 ⟨rfl, hq⟩; have hb1 := below_quiet hq; clear hq))
      go_ret2
      exact ⟨rfl, hb1⟩
    | true =>
      rw [hf] at hlow
      rw [(put_in hz hf).1, (put_in hz hf).2]
      rcases isSz_cases hz with rfl | rfl | rfl | rfl
      · exact put_1 n hn hlow w
      · exact put_2 n hn hlow w
      · exact put_4 n hn hlow w
      · exact put_8 n hn hlow w
theorem refByte (n : Int) (w : World) (h0 : 0 ≤ n) (h1 : n ≤ 255) : Calls Tryz.prog 21 #[.int .i64 n] w fun e w' => e = .returned (.string (bytesOf [n])) ∧ Below w.heap.size w w' := by
  have hcv := conv1
  go_enter Tryz.func21, Tryz.ntmps21
  go_wp2
  go_ret
  exact ⟨rfl, (Below.refl _ _).alloc (Nat.le_refl _) _⟩
theorem refPut_1 (n : Int) (hn : (Lit.int .u64 n).wf = true) (w : World) : Calls Tryz.prog 22 #[.int .u64 n, .int .i64 1] w fun e w' => e = .returned (.tuple #[.string (putB n 1), .int .i64 (putE n 1)]) ∧ Below w.heap.size w w' := by
  obtain ⟨hn0, hn1⟩ := bounds_u64 hn
  clear hn
  have hrefl := Below.refl w.heap.size w
  go_enter Tryz.func22, Tryz.ntmps22
  go_wp2_with (first | (go_at_call 33; refine (refSized_any _ _).mono ?_; rintro e w' ⟨rfl, rfl⟩))
  refine wp_loop_rounds 2 ?_
  repeat any_goals (rw [rounds_succ]; go_wp2_with (first | (go_at_call 21; refine (refByte _ _ (by omega) (by omega)).mono ?_; rintro e w1 ⟨rfl, hb⟩; have hrefl := below_step hrefl hb; clear hb)))
  · have hc : (n / 256 != 0) = true := by assumption
    go_ret2
    exact ⟨ret_si (refputE1 n hn0 hc).1.symm (refputE1 n hn0 hc).2.symm, hrefl⟩
  · have hc : (n / 256 != 0) = false := by assumption
    go_ret2
    exact ⟨ret_si (refputB1 n hn0 hc).1 (refputB1 n hn0 hc).2.symm, hrefl⟩
theorem refPut_2 (n : Int) (hn : (Lit.int .u64 n).wf = true) (w : World) : Calls Tryz.prog 22 #[.int .u64 n, .int .i64 2] w fun e w' => e = .returned (.tuple #[.string (putB n 2), .int .i64 (putE n 2)]) ∧ Below w.heap.size w w' := by
  obtain ⟨hn0, hn1⟩ := bounds_u64 hn
  clear hn
  have hrefl := Below.refl w.heap.size w
  go_enter Tryz.func22, Tryz.ntmps22
  go_wp2_with (first | (go_at_call 33; refine (refSized_any _ _).mono ?_; rintro e w' ⟨rfl, rfl⟩))
  refine wp_loop_rounds 3 ?_
  repeat any_goals (rw [rounds_succ]; go_wp2_with (first | (go_at_call 21; refine (refByte _ _ (by omega) (by omega)).mono ?_; rintro e w1 ⟨rfl, hb⟩; have hrefl := below_step hrefl hb; clear hb)))
  · have hc : (n / 256 / 256 != 0) = true := by assumption
    go_ret2
    exact ⟨ret_si (refputE2 n hn0 hc).1.symm (refputE2 n hn0 hc).2.symm, hrefl⟩
  · have hc : (n / 256 / 256 != 0) = false := by assumption
    go_ret2
    exact ⟨ret_si (refputB2 n hn0 hc).1 (refputB2 n hn0 hc).2.symm, hrefl⟩
theorem refPut_4 (n : Int) (hn : (Lit.int .u64 n).wf = true) (w : World) : Calls Tryz.prog 22 #[.int .u64 n, .int .i64 4] w fun e w' => e = .returned (.tuple #[.string (putB n 4), .int .i64 (putE n 4)]) ∧ Below w.heap.size w w' := by
  obtain ⟨hn0, hn1⟩ := bounds_u64 hn
  clear hn
  have hrefl := Below.refl w.heap.size w
  go_enter Tryz.func22, Tryz.ntmps22
  go_wp2_with (first | (go_at_call 33; refine (refSized_any _ _).mono ?_; rintro e w' ⟨rfl, rfl⟩))
  refine wp_loop_rounds 5 ?_
  repeat any_goals (rw [rounds_succ]; go_wp2_with (first | (go_at_call 21; refine (refByte _ _ (by omega) (by omega)).mono ?_; rintro e w1 ⟨rfl, hb⟩; have hrefl := below_step hrefl hb; clear hb)))
  · have hc : (n / 256 / 256 / 256 / 256 != 0) = true := by assumption
    go_ret2
    exact ⟨ret_si (refputE4 n hn0 hc).1.symm (refputE4 n hn0 hc).2.symm, hrefl⟩
  · have hc : (n / 256 / 256 / 256 / 256 != 0) = false := by assumption
    go_ret2
    exact ⟨ret_si (refputB4 n hn0 hc).1 (refputB4 n hn0 hc).2.symm, hrefl⟩
theorem refPut_8 (n : Int) (hn : (Lit.int .u64 n).wf = true) (w : World) : Calls Tryz.prog 22 #[.int .u64 n, .int .i64 8] w fun e w' => e = .returned (.tuple #[.string (putB n 8), .int .i64 (putE n 8)]) ∧ Below w.heap.size w w' := by
  obtain ⟨hn0, hn1⟩ := bounds_u64 hn
  clear hn
  have hrefl := Below.refl w.heap.size w
  go_enter Tryz.func22, Tryz.ntmps22
  go_wp2_with (first | (go_at_call 33; refine (refSized_any _ _).mono ?_; rintro e w' ⟨rfl, rfl⟩))
  refine wp_loop_rounds 9 ?_
  repeat any_goals (rw [rounds_succ]; go_wp2_with (first | (go_at_call 21; refine (refByte _ _ (by omega) (by omega)).mono ?_; rintro e w1 ⟨rfl, hb⟩; have hrefl := below_step hrefl hb; clear hb)))
  have hc : (n / 256 / 256 / 256 / 256 / 256 / 256 / 256 / 256 != 0) = false := by
    have : n / 256 / 256 / 256 / 256 / 256 / 256 / 256 / 256 = 0 := by omega
    rw [this]; rfl
  go_ret2
  exact ⟨ret_si (refputB8 n hn0 hc).1 (refputB8 n hn0 hc).2.symm, hrefl⟩
theorem refPut_any (n z : Int) (hn : (Lit.int .u64 n).wf = true) (w : World) : Calls Tryz.prog 22 #[.int .u64 n, .int .i64 z] w fun e w' => e = .returned (.tuple #[.string (putB n z), .int .i64 (putE n z)]) ∧ Below w.heap.size w w' := by
  cases hz : isSz z with
  | false =>
    rw [(put_no hz).1, (put_no hz).2]
    go_enter Tryz.func22, Tryz.ntmps22
    go_wp2_with (go_at_call 33; refine (refSized_any _ _).mono ?_; rintro e w' ⟨rfl, rfl⟩)
    go_ret2
    exact ⟨rfl, Below.refl _ _⟩
  | true =>
    rcases isSz_cases hz with rfl | rfl | rfl | rfl
    · exact refPut_1 n hn w
    · exact refPut_2 n hn w
    · exact refPut_4 n hn w
    · exact refPut_8 n hn w
end Go.Proofs.YtinmdkhafamibaaGreat
namespace Go.Proofs.YtinmdkhafamibaaGreat
open Go.RowKit
end Go.Proofs.YtinmdkhafamibaaGreat
namespace Go.Proofs.YtinmdkhafamibaaGreat
open Go.RowKit
end Go.Proofs.YtinmdkhafamibaaGreat
namespace Go.Proofs.YtinmdkhafamibaaGreat
open Go.RowKit
def isByte (x : Int) : Prop := 0 ≤ x ∧ x ≤ 255
theorem toNat_byte {x : Int} (h : isByte x) : ((UInt8.ofNat x.toNat).toNat : Int) = x := by
  unfold isByte at h
  rw [UInt8.toNat_ofNat']
  omega
theorem byteAt_list (l : List UInt8) (k : Nat) : byteAt ⟨l.toArray⟩ k = ((l.getD k 0).toNat : Int) := rfl
theorem sub_mid : ∀ (l : List Int) (pre post : List UInt8), (∀ x ∈ l, isByte x) → sub ⟨(pre ++ (l.map fun x => UInt8.ofNat x.toNat) ++ post).toArray⟩ pre.length l.length = l
  | [], _, _, _ => rfl
  | b :: l, pre, post, h => by
    have hb := h b (by simp)
    have ih := sub_mid l (pre ++ [UInt8.ofNat b.toNat]) post (fun x hx => h x (by simp [hx]))
    simp only [List.length_cons, sub]
    have e : pre ++ [UInt8.ofNat b.toNat] ++ (l.map fun x => UInt8.ofNat x.toNat) ++ post = pre ++ ((b :: l).map fun x => UInt8.ofNat x.toNat) ++ post := by simp
    have e' : (pre ++ [UInt8.ofNat b.toNat]).length = pre.length + 1 := by simp
    rw [e, e'] at ih
    rw [ih, byteAt_list]
    congr 1
    rw [List.append_assoc]
    rw [show (pre ++ (List.map (fun x => UInt8.ofNat x.toNat) (b :: l) ++ post)).getD pre.length 0 = UInt8.ofNat b.toNat by simp [List.getD_eq_getElem?_getD]]
    exact toNat_byte hb
theorem putL_length : ∀ (k : Nat) (n : Int), (putL k n).length = k
  | 0, _ => rfl
  | k + 1, n => by simp [putL, putL_length k]
theorem putL_bytes : ∀ (k : Nat) (n : Int), ∀ x ∈ putL k n, isByte x
  | 0, _, x, h => by simp [putL] at h
  | k + 1, n, x, h => by
    simp [putL] at h
    rcases h with rfl | h
    · unfold isByte; omega
    · exact putL_bytes k (n / 256) x h
theorem emod_mul' (n M : Int) (hM : 0 < M) : n % (256 * M) = n % 256 + 256 * (n / 256 % M) := by
  have a := Int.mul_ediv_add_emod n 256
  have b := Int.mul_ediv_add_emod (n / 256) M
  have c := Int.emod_lt_of_pos (n / 256) hM
  have d := Int.emod_nonneg (n / 256) (show M ≠ 0 by omega)
  have e : (n % 256 + 256 * (n / 256 % M)) + (256 * M) * (n / 256 / M) = n := by
    rw [Int.mul_assoc]; omega
  have f : (n % 256 + 256 * (n / 256 % M)) % (256 * M) = n % 256 + 256 * (n / 256 % M) := Int.emod_eq_of_lt (by omega) (by omega)
  have g := Int.add_mul_emod_self_left (n % 256 + 256 * (n / 256 % M)) (256 * M) (n / 256 / M)
  rw [e, f] at g
  exact g
theorem takeL_putL : ∀ (k : Nat) (n : Int), takeL (putL k n) = n % 256 ^ k
  | 0, n => by simp [putL, takeL]
  | k + 1, n => by
    simp only [putL, takeL]
    rw [takeL_putL k (n / 256), Int.pow_succ, Int.mul_comm (256 ^ k) 256, emod_mul' n _ (Int.pow_pos (by omega))]
theorem putS_size (n z : Int) : (putS n z).size = z.toNat := by
  unfold putS bytesOf ByteArray.size
  simp [putL_length]
theorem take_mid (a b : ByteArray) (n z : Int) (hz : isSz z = true) (h0 : 0 ≤ n) (hf : fits n z = true) : takeE (a ++ putS n z ++ b) a.size z = 0 ∧ takeN (a ++ putS n z ++ b) a.size z = n := by
  have hzp : 0 ≤ z ∧ z ≤ 8 := by rcases isSz_cases hz with rfl | rfl | rfl | rfl <;> omega
  have hs : (a ++ putS n z ++ b).size = a.size + z.toNat + b.size := by rw [ByteArray.size_append, ByteArray.size_append, putS_size]
  have hl : ((a.size : Nat) : Int) + z ≤ ((a ++ putS n z ++ b).size : Int) := by rw [hs]; omega
  obtain ⟨h1, h2⟩ := take_in hz hl
  refine ⟨h1, h2.trans ?_⟩
  unfold takeS
  have hb : a ++ putS n z ++ b = ⟨(a.data.toList ++ ((putL z.toNat n).map fun x => UInt8.ofNat x.toNat) ++ b.data.toList).toArray⟩ := by
    apply ByteArray.ext
    simp [putS, bytesOf]
  have hm := sub_mid (putL z.toNat n) a.data.toList b.data.toList (putL_bytes _ _)
  rw [← hb, putL_length] at hm
  have hlen : a.data.toList.length = a.size := by rw [Array.length_toList]; rfl
  rw [hlen] at hm
  rw [hm, takeL_putL]
  unfold fits pw at hf
  simp at hf
  exact Int.emod_eq_of_lt h0 hf
theorem bits_sign (n z : Int) (hz : isSz z = true) (h0 : 0 ≤ n) (hf : fits n z = true) : bitsN (signZ n z) z = n ∧ bitsE (signZ n z) z = 0 := by
  unfold fits at hf
  simp at hf
  have hs : signZ (signZ n z) z = signZ n z ∧ (signZ n z) % pw z = n := by
    unfold signZ
    rw [if_pos hz]
    simp only [if_pos hz]
    rcases isSz_cases hz with rfl | rfl | rfl | rfl
    · rw [pw1] at *; (repeat' split) <;> omega
    · rw [pw2] at *; (repeat' split) <;> omega
    · rw [pw4] at *; (repeat' split) <;> omega
    · rw [pw8] at *; (repeat' split) <;> omega
  have hr := (signZ_eq hz).1 hs.1
  rw [bitsN_in hz hr, bitsE_in hz hr]
  exact ⟨hs.2, rfl⟩
theorem wide_wide (n z : Int) : IntKind.u64.wrap (signZ (IntKind.u64.wrap (signZ n z)) z) = IntKind.u64.wrap (signZ n z) := by
  rw [signZ_u64]
  congr 1
  unfold signZ
  cases hz : isSz z with
  | false => rfl
  | true =>
    simp only [if_true]
    rcases isSz_cases hz with rfl | rfl | rfl | rfl
    · rw [pw1]; (repeat' split) <;> omega
    · rw [pw2]; (repeat' split) <;> omega
    · rw [pw4]; (repeat' split) <;> omega
    · rw [pw8]; (repeat' split) <;> omega
theorem sign_bits (m z : Int) (h : (bitsE m z != 0) = false) : signZ (bitsN m z) z = m := by
  simp at h
  unfold bitsE at h
  cases hz : isSz z with
  | false => rw [hz] at h; simp at h
  | true =>
    rw [hz] at h
    simp only [if_true] at h
    cases hr : inR m z with
    | false => rw [hr] at h; simp at h
    | true =>
      rw [bitsN_in hz hr]
      unfold signZ inR at *
      rw [if_pos hz]
      simp at hr
      rcases isSz_cases hz with rfl | rfl | rfl | rfl
      · rw [pw1] at *; (repeat' split) <;> omega
      · rw [pw2] at *; (repeat' split) <;> omega
      · rw [pw4] at *; (repeat' split) <;> omega
      · rw [pw8] at *; (repeat' split) <;> omega
end Go.Proofs.YtinmdkhafamibaaGreat
namespace Go.Proofs.YtinmdkhafamibaaGreat
open Go.RowKit
set_option linter.unusedVariables false
/-- the blocks of a buffer -/
def BufFoot (b : Nat) (v : Value) (k : Nat) : Prop := k = b ∨ v.ownBlock = some k
theorem row_shape {w : World} {base : Nat} {e : TypeId} {size : Nat} {v : Value} {n : Nat} {xs : List Value} (h : w.ownsRow base e size v n xs) : ∃ a c, v = .slice a n c := by
  rcases h.2 with ⟨rfl, rfl⟩ | ⟨g, cap, cur, rfl, _⟩
  · exact ⟨_, _, rfl⟩
  · exact ⟨_, _, rfl⟩
theorem info8 : (Tryz.prog.info? 5).map (fun i => (i.zero, i.size, i.bytes)) = some (some (.int .u8 0), 1, 1) := by kernel_rfl
theorem strCells_add (a b : ByteArray) : Lib.strCells a ++ Lib.strCells b = Lib.strCells (a ++ b) := by simp [Lib.strCells]
theorem put_zero {n z : Int} (h : putE n z = 0) : isSz z = true ∧ fits n z = true := by
  cases hz : isSz z with
  | false => rw [(put_no hz).2] at h; omega
  | true =>
    cases hf : fits n z with
    | false => rw [(put_out hz hf).2] at h; omega
    | true => exact ⟨rfl, rfl⟩
/-- n bytes 0 -/
def zerosB (n : Nat) : ByteArray := ⟨Array.replicate n 0⟩
theorem strCells_zeros (n : Nat) : Lib.strCells (zerosB n) = List.replicate n (.int .u8 0) := by simp [Lib.strCells, zerosB]
theorem zerosB_size (n : Nat) : (zerosB n).size = n := by simp [zerosB, ByteArray.size]
/-- what a buffer holds behind Put -/
def bufPut (t : ByteArray) (n z : Int) : ByteArray := if putE n z = 0 then t ++ zerosB (gapZ (t.size : Nat) z).toNat ++ putS n z else t
theorem bytesOf_cells (t : ByteArray) : bytesOf (t.data.toList.map fun x => (x.toNat : Int)) = t := by
  apply ByteArray.ext
  have e : ((fun x : Int => UInt8.ofNat x.toNat) ∘ fun x : UInt8 => (x.toNat : Int)) = id := by funext x; simp
  simp only [bytesOf, List.map_map, e, List.map_id]
theorem conv_none (w : World) : (convert 62 9 (.slice none 0 0)).run Tryz.prog w = .ok (.string ⟨#[]⟩) w := by kernel_rfl
theorem conv_row (w : World) (base : Nat) (v : Value) (t : ByteArray) (h : w.ownsRow base 5 1 v t.size (Lib.strCells t)) :
    (convert 62 9 v).run Tryz.prog w = .ok (.string t) w := by
  rcases h.2 with ⟨rfl, h0⟩ | ⟨g, cap, cur, rfl, _⟩
  · have ht : t = ⟨#[]⟩ := ByteArray.ext (Array.eq_empty_of_size_eq_zero h0)
    subst ht
    exact conv_none w
  · have h1 := conv_bytes w ⟨g, 0, none⟩ cap (t.data.toList.map fun x => (x.toNat : Int)) (fun j hj => by
      have hj' : j < t.data.toList.length := by simpa using hj
      refine h.cells rfl j _ ?_
      unfold Lib.strCells
      simp [List.getElem?_eq_getElem hj'])
    rw [bytesOf_cells] at h1
    simpa using h1
end Go.Proofs.YtinmdkhafamibaaGreat
