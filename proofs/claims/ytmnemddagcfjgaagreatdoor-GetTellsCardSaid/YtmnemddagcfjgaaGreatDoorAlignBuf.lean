/- Contracts of word.Put and of the reference's Put. -/
import Derived.Test.YtmnemddagcfjgaaGreatDoorWordRef
import Derived.Test.YtmnemddagcfjgaaGreatDoorAlignMath
import Derived.LoopN
import Derived.Handy
import Derived.OpenShut
import Derived.OneCell
import Derived.Lib.AppendStr
import Derived.Lib.UnsafeStr
import Derived.ProofKit
import Derived.Lib.Hide
import Derived.Test.YtmnemddagcfjgaaGreatDoorPrimMath
import Derived.Test.YtmnemddagcfjgaaGreatDoorOwn
namespace Go.Proofs.YtmnemddagcfjgaaGreatDoor
open Go.RowKit
theorem below_step {B : Nat} {w w1 w2 : World} (h : Below B w w1) (k : Below w1.heap.size w1 w2) (hB : B ≤ w.heap.size := by exact Nat.le_refl _) : Below B w w2 := h.trans (k.mono (Nat.le_trans hB h.size))
theorem put_1 (n : Int) (hn : (Lit.int .u64 n).wf = true) (hz : (lowZ n 1 != n) = false) (w : World) : Calls Tryz.prog 187 #[.int .u64 n, .int .i64 1] w fun e w' => e = .returned (.tuple #[.string (putS n 1), .int .i64 0]) ∧ Below w.heap.size w w' := by
  obtain ⟨hn0, hn1⟩ := bounds_u64 hn
  clear hn
  have hmk := mk1
  have hcv := conv1
  go_enter Tryz.func187, Tryz.ntmps187
  go_wp2_with (first | (go_at_call 184; refine (isSize_any _ _).mono ?_; rintro e w' ⟨rfl, rfl⟩) | (go_at_call 186; refine (lowest_any _ _ (by rfl) _).mono ?_; rintro e w1 ⟨rfl, hq⟩; have hb1 := below_quiet hq; clear hq))
  go_rounds 2
  go_ret2
  exact ⟨ret_si (putS1 n) rfl, hb1.alloc hb1.size _⟩
theorem put_2 (n : Int) (hn : (Lit.int .u64 n).wf = true) (hz : (lowZ n 2 != n) = false) (w : World) : Calls Tryz.prog 187 #[.int .u64 n, .int .i64 2] w fun e w' => e = .returned (.tuple #[.string (putS n 2), .int .i64 0]) ∧ Below w.heap.size w w' := by
  obtain ⟨hn0, hn1⟩ := bounds_u64 hn
  clear hn
  have hmk := mk2
  have hcv := conv2
  go_enter Tryz.func187, Tryz.ntmps187
  go_wp2_with (first | (go_at_call 184; refine (isSize_any _ _).mono ?_; rintro e w' ⟨rfl, rfl⟩) | (go_at_call 186; refine (lowest_any _ _ (by rfl) _).mono ?_; rintro e w1 ⟨rfl, hq⟩; have hb1 := below_quiet hq; clear hq))
  go_rounds 3
  go_ret2
  exact ⟨ret_si (putS2 n) rfl, hb1.alloc hb1.size _⟩
theorem put_4 (n : Int) (hn : (Lit.int .u64 n).wf = true) (hz : (lowZ n 4 != n) = false) (w : World) : Calls Tryz.prog 187 #[.int .u64 n, .int .i64 4] w fun e w' => e = .returned (.tuple #[.string (putS n 4), .int .i64 0]) ∧ Below w.heap.size w w' := by
  obtain ⟨hn0, hn1⟩ := bounds_u64 hn
  clear hn
  have hmk := mk4
  have hcv := conv4
  go_enter Tryz.func187, Tryz.ntmps187
  go_wp2_with (first | (go_at_call 184; refine (isSize_any _ _).mono ?_; rintro e w' ⟨rfl, rfl⟩) | (go_at_call 186; refine (lowest_any _ _ (by rfl) _).mono ?_; rintro e w1 ⟨rfl, hq⟩; have hb1 := below_quiet hq; clear hq))
  go_rounds 5
  go_ret2
  exact ⟨ret_si (putS4 n) rfl, hb1.alloc hb1.size _⟩
theorem put_8 (n : Int) (hn : (Lit.int .u64 n).wf = true) (hz : (lowZ n 8 != n) = false) (w : World) : Calls Tryz.prog 187 #[.int .u64 n, .int .i64 8] w fun e w' => e = .returned (.tuple #[.string (putS n 8), .int .i64 0]) ∧ Below w.heap.size w w' := by
  obtain ⟨hn0, hn1⟩ := bounds_u64 hn
  clear hn
  have hmk := mk8
  have hcv := conv8
  go_enter Tryz.func187, Tryz.ntmps187
  go_wp2_with (first | (go_at_call 184; refine (isSize_any _ _).mono ?_; rintro e w' ⟨rfl, rfl⟩) | (go_at_call 186; refine (lowest_any _ _ (by rfl) _).mono ?_; rintro e w1 ⟨rfl, hq⟩; have hb1 := below_quiet hq; clear hq))
  go_rounds 9
  go_ret2
  exact ⟨ret_si (putS8' n hn0 hn1) rfl, hb1.alloc hb1.size _⟩
theorem put_any (n z : Int) (hn : (Lit.int .u64 n).wf = true) (w : World) : Calls Tryz.prog 187 #[.int .u64 n, .int .i64 z] w fun e w' => e = .returned (.tuple #[.string (putB n z), .int .i64 (putE n z)]) ∧ Below w.heap.size w w' := by
  cases hz : isSz z with
  | false =>
    rw [(put_no hz).1, (put_no hz).2]
    go_enter Tryz.func187, Tryz.ntmps187
    go_wp2_with (go_at_call 184; refine (isSize_any _ _).mono ?_; rintro e w' ⟨rfl, rfl⟩)
    go_ret2
    exact ⟨rfl, Below.refl _ _⟩
  | true =>
    have hlow := fits_low hz (bounds_u64 hn).1
    cases hf : fits n z with
    | false =>
      rw [hf] at hlow
      rw [(put_out hz hf).1, (put_out hz hf).2]
      go_enter Tryz.func187, Tryz.ntmps187
      go_wp2_with (first | (go_at_call 184; refine (isSize_any _ _).mono ?_; rintro e w' ⟨rfl, rfl⟩) | (go_at_call 186; refine (lowest_any _ _ hz _).mono ?_; rintro e w1 ⟨rfl, hq⟩; have hb1 := below_quiet hq; clear hq))
      go_ret2
      exact ⟨rfl, hb1⟩
    | true =>
      rw [hf] at hlow
      rw [(put_in hz hf).1, (put_in hz hf).2]
      rcases isSz_cases hz with rfl | rfl | rfl | rfl
      · exact put_1 n hn hlow w
      · exact put_2 n hn hlow w
      · exact put_4 n hn hlow w
      · exact put_8 n hn hlow w
end Go.Proofs.YtmnemddagcfjgaaGreatDoor
namespace Go.Proofs.YtmnemddagcfjgaaGreatDoor
open Go.RowKit
theorem asize_any (z : Int) (w : World) : Calls Tryz.prog 189 #[.int .i64 z] w fun e w' => e = .returned (.bool (isSz z)) ∧ w = w' := by
  go_enter Tryz.func189, Tryz.ntmps189
  go_wp2
  all_goals
    go_ret
    exact ⟨ret_bool (by simp [isSz, *]), rfl⟩
theorem gap_any (a z : Int) (ha : (Lit.int .i64 a).wf = true) (w : World) : Calls Tryz.prog 169 #[.int .i64 a, .int .i64 z] w fun e w' => e = .returned (.int .i64 (gapZ a z)) ∧ w = w' := by
  obtain ⟨ha0, ha1⟩ := bounds_i64 ha
  clear ha
  by_cases h : a < 0
  · rw [gapZ_neg h]
    go_enter Tryz.func169, Tryz.ntmps169
    go_wp2_with (go_at_call 189; refine (asize_any _ _).mono ?_; rintro e w' ⟨rfl, rfl⟩)
    go_ret
    exact ⟨rfl, rfl⟩
  · cases hz : isSz z with
    | false =>
      rw [gapZ_no hz]
      go_enter Tryz.func169, Tryz.ntmps169
      go_wp2_with (go_at_call 189; refine (asize_any _ _).mono ?_; rintro e w' ⟨rfl, rfl⟩)
      go_ret
      exact ⟨rfl, rfl⟩
    | true =>
      rw [gapZ_in (by omega) hz]
      have hnn : 0 ≤ a := by omega
      have hd : decide (a < 0) = false := by simpa using hnn
      rcases isSz_cases hz with rfl | rfl | rfl | rfl
      all_goals
        clear hz h
        go_enter Tryz.func169, Tryz.ntmps169
        go_wp2_with (go_at_call 189; refine (asize_any _ _).mono ?_; rintro e w' ⟨rfl, rfl⟩)
        go_ret
        exact ⟨ret_int (by omega), rfl⟩
theorem refGap_any (a z : Int) (ha : (Lit.int .i64 a).wf = true) (w : World) : Calls Tryz.prog 132 #[.int .i64 a, .int .i64 z] w fun e w' => e = .returned (.int .i64 (gapZ a z)) ∧ w = w' := by
  obtain ⟨ha0, ha1⟩ := bounds_i64 ha
  clear ha
  by_cases h : a < 0
  · rw [gapZ_neg h]
    go_enter Tryz.func132, Tryz.ntmps132
    go_wp2_with (go_at_call 131; refine (refSized_any _ _).mono ?_; rintro e w' ⟨rfl, rfl⟩)
    go_ret
    exact ⟨rfl, rfl⟩
  · cases hz : isSz z with
    | false =>
      rw [gapZ_no hz]
      go_enter Tryz.func132, Tryz.ntmps132
      go_wp2_with (go_at_call 131; refine (refSized_any _ _).mono ?_; rintro e w' ⟨rfl, rfl⟩)
      go_ret
      exact ⟨rfl, rfl⟩
    | true =>
      rw [gapZ_in (by omega) hz]
      have hnn : 0 ≤ a := by omega
      have hd : decide (a < 0) = false := by simpa using hnn
      rcases isSz_cases hz with rfl | rfl | rfl | rfl
      all_goals
        clear hz h
        go_enter Tryz.func132, Tryz.ntmps132
        go_wp2_with (go_at_call 131; refine (refSized_any _ _).mono ?_; rintro e w' ⟨rfl, rfl⟩)
        refine wp_loop_rounds 9 ?_
        repeat any_goals (rw [rounds_succ]; go_wp2)
        all_goals (first | (exfalso; simp at *; omega) | (go_ret; exact ⟨ret_int (by first | omega | (simp at *; done) | (simp at *; omega)), rfl⟩))
end Go.Proofs.YtmnemddagcfjgaaGreatDoor
namespace Go.Proofs.YtmnemddagcfjgaaGreatDoor
open Go.RowKit
theorem skip_any (b : Nat) (a z : Int) (w : World) (hc : w.cell? ⟨b, 0, none⟩ = some (.int .i64 a)) (hf : w.frozen? ⟨b, 0, none⟩ = false) (h0 : 0 ≤ a) (h1 : a ≤ 9223372036854775000) :
    Calls Tryz.prog 188 #[.pointer (some ⟨b, 0, none⟩), .int .i64 z] w fun e w' => e = .returned (.int .i64 (gapZ a z)) ∧ w' = w.setCell ⟨b, 0, none⟩ (.int .i64 (a + gapZ a z)) := by
  have hr := gapZ_rng a z
  obtain ⟨hr0, hr1⟩ := hr
  go_enter Tryz.func188, Tryz.ntmps188
  go_wp2_with (go_at_call 169; refine (gap_any _ _ (WalkArith.wf_i64 (by omega)) _).mono ?_; rintro e w' ⟨rfl, rfl⟩)
  go_ret
  exact ⟨rfl, rfl⟩
theorem skip_nat (b g : Nat) (a z : Int) (hg : gapZ a z = (g : Nat)) (w : World) (hc : w.cell? ⟨b, 0, none⟩ = some (.int .i64 a)) (hf : w.frozen? ⟨b, 0, none⟩ = false) (h0 : 0 ≤ a) (h1 : a ≤ 9223372036854775000) :
    Calls Tryz.prog 188 #[.pointer (some ⟨b, 0, none⟩), .int .i64 z] w fun e w' => e = .returned (.int .i64 (g : Nat)) ∧ w' = w.setCell ⟨b, 0, none⟩ (.int .i64 (a + (g : Nat))) := by
  rw [← hg]; exact skip_any b a z w hc hf h0 h1
theorem pass_any (b : Nat) (a n : Int) (w : World) (hc : w.cell? ⟨b, 0, none⟩ = some (.int .i64 a)) (hf : w.frozen? ⟨b, 0, none⟩ = false) :
    Calls Tryz.prog 155 #[.pointer (some ⟨b, 0, none⟩), .int .i64 n] w fun e w' => e = .returned (.tuple #[]) ∧ w' = w.setCell ⟨b, 0, none⟩ (.int .i64 (wrap64 (a + n))) := by
  go_enter Tryz.func155, Tryz.ntmps155
  go_wp2
  go_returns
  exact ⟨rfl, rfl⟩
theorem pass_in (b : Nat) (a n : Int) (w : World) (hc : w.cell? ⟨b, 0, none⟩ = some (.int .i64 a)) (hf : w.frozen? ⟨b, 0, none⟩ = false) (h0 : 0 ≤ a) (h1 : 0 ≤ n) (h2 : a + n ≤ 9223372036854775807) :
    Calls Tryz.prog 155 #[.pointer (some ⟨b, 0, none⟩), .int .i64 n] w fun e w' => e = .returned (.tuple #[]) ∧ w' = w.setCell ⟨b, 0, none⟩ (.int .i64 (a + n)) := by
  refine (pass_any b a n w hc hf).mono ?_
  rintro e w' ⟨rfl, rfl⟩
  rw [IntWalk.wrap64_in _ (by omega)]
  exact ⟨rfl, rfl⟩
end Go.Proofs.YtmnemddagcfjgaaGreatDoor
namespace Go.Proofs.YtmnemddagcfjgaaGreatDoor
open Go.RowKit
def isByte (x : Int) : Prop := 0 ≤ x ∧ x ≤ 255
theorem toNat_byte {x : Int} (h : isByte x) : ((UInt8.ofNat x.toNat).toNat : Int) = x := by
  unfold isByte at h
  rw [UInt8.toNat_ofNat']
  omega
theorem byteAt_list (l : List UInt8) (k : Nat) : byteAt ⟨l.toArray⟩ k = ((l.getD k 0).toNat : Int) := rfl
theorem sub_mid : ∀ (l : List Int) (pre post : List UInt8), (∀ x ∈ l, isByte x) → sub ⟨(pre ++ (l.map fun x => UInt8.ofNat x.toNat) ++ post).toArray⟩ pre.length l.length = l
  | [], _, _, _ => rfl
  | b :: l, pre, post, h => by
    have hb := h b (by simp)
    have ih := sub_mid l (pre ++ [UInt8.ofNat b.toNat]) post (fun x hx => h x (by simp [hx]))
    simp only [List.length_cons, sub]
    have e : pre ++ [UInt8.ofNat b.toNat] ++ (l.map fun x => UInt8.ofNat x.toNat) ++ post = pre ++ ((b :: l).map fun x => UInt8.ofNat x.toNat) ++ post := by simp
    have e' : (pre ++ [UInt8.ofNat b.toNat]).length = pre.length + 1 := by simp
    rw [e, e'] at ih
    rw [ih, byteAt_list]
    congr 1
    rw [List.append_assoc]
    rw [show (pre ++ (List.map (fun x => UInt8.ofNat x.toNat) (b :: l) ++ post)).getD pre.length 0 = UInt8.ofNat b.toNat by simp [List.getD_eq_getElem?_getD]]
    exact toNat_byte hb
theorem putL_length : ∀ (k : Nat) (n : Int), (putL k n).length = k
  | 0, _ => rfl
  | k + 1, n => by simp [putL, putL_length k]
theorem putL_bytes : ∀ (k : Nat) (n : Int), ∀ x ∈ putL k n, isByte x
  | 0, _, x, h => by simp [putL] at h
  | k + 1, n, x, h => by
    simp [putL] at h
    rcases h with rfl | h
    · unfold isByte; omega
    · exact putL_bytes k (n / 256) x h
theorem emod_mul' (n M : Int) (hM : 0 < M) : n % (256 * M) = n % 256 + 256 * (n / 256 % M) := by
  have a := Int.mul_ediv_add_emod n 256
  have b := Int.mul_ediv_add_emod (n / 256) M
  have c := Int.emod_lt_of_pos (n / 256) hM
  have d := Int.emod_nonneg (n / 256) (show M ≠ 0 by omega)
  have e : (n % 256 + 256 * (n / 256 % M)) + (256 * M) * (n / 256 / M) = n := by
    rw [Int.mul_assoc]; omega
  have f : (n % 256 + 256 * (n / 256 % M)) % (256 * M) = n % 256 + 256 * (n / 256 % M) := Int.emod_eq_of_lt (by omega) (by omega)
  have g := Int.add_mul_emod_self_left (n % 256 + 256 * (n / 256 % M)) (256 * M) (n / 256 / M)
  rw [e, f] at g
  exact g
theorem takeL_putL : ∀ (k : Nat) (n : Int), takeL (putL k n) = n % 256 ^ k
  | 0, n => by simp [putL, takeL]
  | k + 1, n => by
    simp only [putL, takeL]
    rw [takeL_putL k (n / 256), Int.pow_succ, Int.mul_comm (256 ^ k) 256, emod_mul' n _ (Int.pow_pos (by omega))]
theorem putS_size (n z : Int) : (putS n z).size = z.toNat := by
  unfold putS bytesOf ByteArray.size
  simp [putL_length]
theorem take_mid (a b : ByteArray) (n z : Int) (hz : isSz z = true) (h0 : 0 ≤ n) (hf : fits n z = true) : takeE (a ++ putS n z ++ b) a.size z = 0 ∧ takeN (a ++ putS n z ++ b) a.size z = n := by
  have hzp : 0 ≤ z ∧ z ≤ 8 := by rcases isSz_cases hz with rfl | rfl | rfl | rfl <;> omega
  have hs : (a ++ putS n z ++ b).size = a.size + z.toNat + b.size := by rw [ByteArray.size_append, ByteArray.size_append, putS_size]
  have hl : ((a.size : Nat) : Int) + z ≤ ((a ++ putS n z ++ b).size : Int) := by rw [hs]; omega
  obtain ⟨h1, h2⟩ := take_in hz hl
  refine ⟨h1, h2.trans ?_⟩
  unfold takeS
  have hb : a ++ putS n z ++ b = ⟨(a.data.toList ++ ((putL z.toNat n).map fun x => UInt8.ofNat x.toNat) ++ b.data.toList).toArray⟩ := by
    apply ByteArray.ext
    simp [putS, bytesOf]
  have hm := sub_mid (putL z.toNat n) a.data.toList b.data.toList (putL_bytes _ _)
  rw [← hb, putL_length] at hm
  have hlen : a.data.toList.length = a.size := by rw [Array.length_toList]; rfl
  rw [hlen] at hm
  rw [hm, takeL_putL]
  unfold fits pw at hf
  simp at hf
  exact Int.emod_eq_of_lt h0 hf
theorem bits_sign (n z : Int) (hz : isSz z = true) (h0 : 0 ≤ n) (hf : fits n z = true) : bitsN (signZ n z) z = n ∧ bitsE (signZ n z) z = 0 := by
  unfold fits at hf
  simp at hf
  have hs : signZ (signZ n z) z = signZ n z ∧ (signZ n z) % pw z = n := by
    unfold signZ
    rw [if_pos hz]
    simp only [if_pos hz]
    rcases isSz_cases hz with rfl | rfl | rfl | rfl
    · rw [pw1] at *; (repeat' split) <;> omega
    · rw [pw2] at *; (repeat' split) <;> omega
    · rw [pw4] at *; (repeat' split) <;> omega
    · rw [pw8] at *; (repeat' split) <;> omega
  have hr := (signZ_eq hz).1 hs.1
  rw [bitsN_in hz hr, bitsE_in hz hr]
  exact ⟨hs.2, rfl⟩
theorem wide_wide (n z : Int) : IntKind.u64.wrap (signZ (IntKind.u64.wrap (signZ n z)) z) = IntKind.u64.wrap (signZ n z) := by
  rw [signZ_u64]
  congr 1
  unfold signZ
  cases hz : isSz z with
  | false => rfl
  | true =>
    simp only [if_true]
    rcases isSz_cases hz with rfl | rfl | rfl | rfl
    · rw [pw1]; (repeat' split) <;> omega
    · rw [pw2]; (repeat' split) <;> omega
    · rw [pw4]; (repeat' split) <;> omega
    · rw [pw8]; (repeat' split) <;> omega
theorem sign_bits (m z : Int) (h : (bitsE m z != 0) = false) : signZ (bitsN m z) z = m := by
  simp at h
  unfold bitsE at h
  cases hz : isSz z with
  | false => rw [hz] at h; simp at h
  | true =>
    rw [hz] at h
    simp only [if_true] at h
    cases hr : inR m z with
    | false => rw [hr] at h; simp at h
    | true =>
      rw [bitsN_in hz hr]
      unfold signZ inR at *
      rw [if_pos hz]
      simp at hr
      rcases isSz_cases hz with rfl | rfl | rfl | rfl
      · rw [pw1] at *; (repeat' split) <;> omega
      · rw [pw2] at *; (repeat' split) <;> omega
      · rw [pw4] at *; (repeat' split) <;> omega
      · rw [pw8] at *; (repeat' split) <;> omega
end Go.Proofs.YtmnemddagcfjgaaGreatDoor
namespace Go.Proofs.YtmnemddagcfjgaaGreatDoor
open Go.RowKit
set_option linter.unusedVariables false
/-- a buffer in memory: block b; its bytes are a row that the call owns -/
def BufAt (b : Nat) (v : Value) (t : ByteArray) (w : World) : Prop :=
  w.heap[b]? = some (.cells #[.int .i64 (t.size : Nat), v] 108 (0, 0)) ∧ w.ownsRow (b + 1) 5 1 v t.size (Lib.strCells t)
/-- the blocks of a buffer -/
def BufFoot (b : Nat) (v : Value) (k : Nat) : Prop := k = b ∨ v.ownBlock = some k
/-- the buffer has other bytes; only its blocks have turned; where its bytes lie now -/
def BufNow (b : Nat) (v : Value) (t : ByteArray) (w w' : World) : Prop :=
  ∃ v', BufAt b v' t w' ∧ Only (BufFoot b v) w w' ∧ ∀ k, v'.ownBlock = some k → v.ownBlock = some k ∨ w.heap.size ≤ k
def BufTo (b : Nat) (v : Value) (t : ByteArray) (r : Value) (w : World) (e : Ending) (w' : World) : Prop := e = .returned r ∧ BufNow b v t w w'
theorem BufAt.foot {b : Nat} {v : Value} {t : ByteArray} {w : World} (h : BufAt b v t w) {k : Nat} (hk : BufFoot b v k) : b ≤ k ∧ k < w.heap.size := by
  rcases hk with rfl | hk
  · exact ⟨Nat.le_refl _, lt_of_block h.1⟩
  · have := h.2.lt k hk; omega
theorem BufAt.only {b : Nat} {v : Value} {t : ByteArray} {w w' : World} {S : Nat → Prop} (h : BufAt b v t w) (ho : Only S w w') (hs : ∀ k, BufFoot b v k → ¬ S k) : BufAt b v t w' :=
  ⟨ho.same h.1 (hs b (.inl rfl)), ho.row h.2 (fun k hk => hs k (.inr hk))⟩
theorem BufAt.step {b : Nat} {v : Value} {t : ByteArray} {w w' : World} (h : BufAt b v t w) (ho : Below w.heap.size w w') : BufAt b v t w' :=
  h.only (Only.of_below (S := fun _ => False) ho) (fun _ _ f => f)
theorem BufAt.drew {b : Nat} {v : Value} {t : ByteArray} {w : World} (h : BufAt b v t w) : BufAt b v t w.drew := h
theorem BufNow.refl {b : Nat} {v : Value} {t : ByteArray} {w : World} (h : BufAt b v t w) : BufNow b v t w w := ⟨v, h, Only.refl _ _, fun _ hk => .inl hk⟩
theorem BufNow.trans {b : Nat} {v v' : Value} {t' : ByteArray} {w w' w'' : World} (h' : Only (BufFoot b v) w w') (hf : ∀ k, v'.ownBlock = some k → v.ownBlock = some k ∨ w.heap.size ≤ k) (k : BufNow b v' t' w' w'') : BufNow b v t' w w'' := by
  obtain ⟨v2, h2, o2, f2⟩ := k
  refine ⟨v2, h2, h'.trans o2 ?_, ?_⟩
  · rintro i hi (rfl | hk)
    · exact .inl rfl
    · rcases hf i hk with h | h
      · exact .inr h
      · omega
  · intro k hk
    rcases f2 k hk with h | h
    · exact hf k h
    · exact .inr (Nat.le_trans h'.size h)
theorem row_shape {w : World} {base : Nat} {e : TypeId} {size : Nat} {v : Value} {n : Nat} {xs : List Value} (h : w.ownsRow base e size v n xs) : ∃ a c, v = .slice a n c := by
  rcases h.2 with ⟨rfl, rfl⟩ | ⟨g, cap, cur, rfl, _⟩
  · exact ⟨_, _, rfl⟩
  · exact ⟨_, _, rfl⟩
theorem info8 : (Tryz.prog.info? 5).map (fun i => (i.zero, i.size, i.bytes)) = some (some (.int .u8 0), 1, 1) := by kernel_rfl
theorem strCells_add (a b : ByteArray) : Lib.strCells a ++ Lib.strCells b = Lib.strCells (a ++ b) := by simp [Lib.strCells]
theorem text_nil (s : ByteArray) (w : World) : Calls Tryz.prog 170 #[.pointer none, .string s] w fun e w' => e = .returned (.tuple #[]) ∧ w = w' := by
  go_enter Tryz.func170, Tryz.ntmps170
  go_wp2
  go_returns
  exact ⟨rfl, rfl⟩
theorem text_now (b : Nat) (v v' : Value) (t s : ByteArray) (w w1 : World) (h : BufAt b v t w) (hg : w.grownBy w1 v.ownBlock) (hown : w1.ownsRow (b + 1) 5 1 v' (t.size + s.size) (Lib.strCells t ++ Lib.strCells s))
    (hfr : ∀ k, v'.ownBlock = some k → v.ownBlock = some k ∨ w.heap.size ≤ k) :
    BufNow b v (t ++ s) w ((w1.setCell ⟨b, 1, none⟩ v').setCell ⟨b, 0, none⟩ (.int .i64 ((t.size : Nat) + (s.size : Nat)))) := by
  have hb1 : w1.heap[b]? = some (.cells #[.int .i64 (t.size : Nat), v] 108 (0, 0)) := by
    rw [hg.block b (lt_of_block h.1) (fun e => by have := (h.2.lt b e.symm).1; omega)]; exact h.1
  refine ⟨v', ⟨?_, ?_⟩, ?_, hfr⟩
  · have h1 := set_at (j := 1) (u := v') hb1
    have h2 := set_at (j := 0) (u := .int .i64 ((t.size : Nat) + (s.size : Nat))) h1
    rw [h2, ByteArray.size_append]
    simp
  · rw [ByteArray.size_append, ← strCells_add]
    exact ownsRow_setCell_below (ownsRow_setCell_below hown (by simp) _) (by simp) _
  · exact ((((Only.refl (BufFoot b v) w).grown hg (fun k hk => .inl (.inr hk))).setCell (.inl (.inl rfl)) _).setCell (.inl (.inl rfl)) _)
set_option maxHeartbeats 800000 in
theorem text_any (b : Nat) (v : Value) (t s : ByteArray) (w : World) (h : BufAt b v t w) (hs : t.size + s.size ≤ 140737488355328) :
    Calls Tryz.prog 170 #[.pointer (some ⟨b, 0, none⟩), .string s] w (BufTo b v (t ++ s) (.tuple #[]) w) := by
  obtain ⟨i0, hi, hz0, hz1, hz2⟩ := info_parts info8
  have H := Lib.hid h
  obtain ⟨hb, hown⟩ := h
  have hlt := lt_of_block hb
  have c1 := cell_at (j := 1) hb rfl
  have HB := Lib.hid hb
  clear hb
  go_enter Tryz.func170, Tryz.ntmps170
  go_wp2_with (at_builtin; refine wpList_append_string_at rfl (.tmp 10) (.tmp 11) 82 9 rfl (b + 1) 5 i0 Tryz.underlying82 Tryz.underlying9 hi hz0 hz1 hz2 v t.size (Lib.strCells t) rfl hown s rfl (by unfold maxLen; omega) hs (by omega) ?_)
  intro v' w1 hown1 hg hfr
  obtain ⟨a', c', rfl⟩ := row_shape hown1
  have hb1 : w1.heap[b]? = some (.cells #[.int .i64 (t.size : Nat), v] 108 (0, 0)) := by
    rw [hg.block b hlt (fun e => by have := (H.out.2.lt b e.symm).1; omega)]; exact HB.out
  have d0 := cell_at (j := 0) hb1 rfl
  have d1 := cell_at (j := 1) hb1 rfl
  have e0 := free_at (j := 0) hb1
  have e1 := free_at (j := 1) hb1
  have HB1 := Lib.hid hb1
  clear hb1 c1
  go_wp2_with (go_at_call 155; refine (pass_in b _ _ _ (by go_cell) (by go_cell) (by omega) (by omega) (by omega)).mono ?_; rintro e w2 ⟨rfl, rfl⟩)
  go_returns
  exact ⟨rfl, text_now b v _ t s w w1 H.out hg hown1 hfr.out⟩
theorem put_zero {n z : Int} (h : putE n z = 0) : isSz z = true ∧ fits n z = true := by
  cases hz : isSz z with
  | false => rw [(put_no hz).2] at h; omega
  | true =>
    cases hf : fits n z with
    | false => rw [(put_out hz hf).2] at h; omega
    | true => exact ⟨rfl, rfl⟩
/-- n bytes 0 -/
def zerosB (n : Nat) : ByteArray := ⟨Array.replicate n 0⟩
theorem strCells_zeros (n : Nat) : Lib.strCells (zerosB n) = List.replicate n (.int .u8 0) := by simp [Lib.strCells, zerosB]
theorem zerosB_size (n : Nat) : (zerosB n).size = n := by simp [zerosB, ByteArray.size]
/-- what a buffer holds behind Put -/
def bufPut (t : ByteArray) (n z : Int) : ByteArray := if putE n z = 0 then t ++ zerosB (gapZ (t.size : Nat) z).toNat ++ putS n z else t
/-- in the midst of Put: i of the g zeros are there -/
def PutMid (b : Nat) (v : Value) (t : ByteArray) (g i : Nat) (w wr : World) : Prop :=
  ∃ v', wr.heap[b]? = some (.cells #[.int .i64 ((t.size : Nat) + (g : Nat)), v'] 108 (0, 0)) ∧ wr.ownsRow (b + 1) 5 1 v' (t.size + i) (Lib.strCells t ++ List.replicate i (.int .u8 0)) ∧
    Only (BufFoot b v) w wr ∧ Hid (∀ k, v'.ownBlock = some k → v.ownBlock = some k ∨ w.heap.size ≤ k)
theorem mid_start (b : Nat) (v : Value) (t : ByteArray) (g : Nat) (w w1 : World) (h : BufAt b v t w) (hb : Below w.heap.size w w1) : PutMid b v t g 0 w (w1.setCell ⟨b, 0, none⟩ (.int .i64 ((t.size : Nat) + (g : Nat)))) := by
  have h1 := h.step hb
  refine ⟨v, ?_, ?_, ((Only.of_below hb).setCell (.inl (.inl rfl)) _), fun k hk => .inl hk⟩
  · have := set_at (j := 0) (u := .int .i64 ((t.size : Nat) + (g : Nat))) h1.1
    simpa using this
  · simpa using ownsRow_setCell_below h1.2 (by simp) _
theorem mid_next (b : Nat) (v v1 v2 : Value) (t : ByteArray) (g i : Nat) (w wr w1 : World) (h1 : wr.heap[b]? = some (.cells #[.int .i64 ((t.size : Nat) + (g : Nat)), v1] 108 (0, 0))) (ho : Only (BufFoot b v) w wr) (hlw : b < w.heap.size)
    (hown : wr.ownsRow (b + 1) 5 1 v1 (t.size + i) (Lib.strCells t ++ List.replicate i (.int .u8 0))) (hf : ∀ k, v1.ownBlock = some k → v.ownBlock = some k ∨ w.heap.size ≤ k)
    (hown1 : w1.ownsRow (b + 1) 5 1 v2 (t.size + i + 1) (Lib.strCells t ++ (List.replicate i (.int .u8 0) ++ [.int .u8 0]))) (hg : (wr.alloc (.cells #[.int .u8 0] 5)).grownBy w1 v1.ownBlock)
    (hf1 : ∀ k, v2.ownBlock = some k → v1.ownBlock = some k ∨ wr.heap.size + 1 ≤ k) : PutMid b v t g (i + 1) w (w1.setCell ⟨b, 1, none⟩ v2) := by
  have h0 : (wr.alloc (.cells #[.int .u8 0] 5)).heap[b]? = some (.cells #[.int .i64 ((t.size : Nat) + (g : Nat)), v1] 108 (0, 0)) := alloc_old h1
  have hb1 : w1.heap[b]? = some (.cells #[.int .i64 ((t.size : Nat) + (g : Nat)), v1] 108 (0, 0)) := by
    rw [hg.block b (lt_of_block h0) (fun e => by have := (hown.lt b e.symm).1; omega)]; exact h0
  have hs := ho.size
  refine ⟨v2, ?_, ?_, ?_, ?_⟩
  · have := set_at (j := 1) (u := v2) hb1
    simpa using this
  · have e : Lib.strCells t ++ List.replicate (i + 1) (.int .u8 0) = Lib.strCells t ++ (List.replicate i (.int .u8 0) ++ [.int .u8 0]) := by
      rw [List.replicate_succ']
    rw [e, ← Nat.add_assoc]
    exact ownsRow_setCell_below hown1 (by simp) _
  · refine ((ho.alloc _).grown hg ?_).setCell (.inl (.inl rfl)) _
    intro k hk
    rcases hf k hk with h | h
    · exact .inl (.inr h)
    · exact .inr h
  · intro k hk
    rcases hf1 k hk with h | h
    · exact hf k h
    · exact .inr (by omega)
theorem mid_end (b : Nat) (v : Value) (t : ByteArray) (g : Nat) (w wr : World) (h : PutMid b v t g g w wr) : BufNow b v (t ++ zerosB g) w wr := by
  obtain ⟨v', h1, h2, h3, h4⟩ := h
  refine ⟨v', ⟨?_, ?_⟩, h3, h4⟩
  · rw [h1, ByteArray.size_append, zerosB_size]; simp
  · rw [ByteArray.size_append, zerosB_size, ← strCells_add, strCells_zeros]; exact h2
theorem bput_nil (n z : Int) (w : World) : Calls Tryz.prog 168 #[.pointer none, .int .u64 n, .int .i64 z] w fun e w' => e = .returned (.int .i64 20) ∧ w = w' := by
  go_enter Tryz.func168, Tryz.ntmps168
  go_wp2
  go_ret
  exact ⟨rfl, rfl⟩
theorem bput_bad (b : Nat) (v : Value) (t : ByteArray) (n z : Int) (w : World) (h : BufAt b v t w) (hn : (Lit.int .u64 n).wf = true) (he : putE n z ≠ 0) :
    Calls Tryz.prog 168 #[.pointer (some ⟨b, 0, none⟩), .int .u64 n, .int .i64 z] w (BufTo b v t (.int .i64 (putE n z)) w) := by
  have he' : (putE n z != 0) = true := by simpa using he
  have H := Lib.hid h
  clear h he
  go_enter Tryz.func168, Tryz.ntmps168
  go_wp2_with (go_at_call 187; refine (put_any _ _ hn _).mono ?_; rintro e w1 ⟨rfl, hb1⟩)
  go_ret
  exact ⟨rfl, v, H.out.step hb1, Only.of_below hb1, fun _ hk => .inl hk⟩
set_option maxHeartbeats 1000000 in
theorem bput_ok (b : Nat) (v : Value) (t : ByteArray) (n z : Int) (w : World) (h : BufAt b v t w) (hn : (Lit.int .u64 n).wf = true) (he : putE n z = 0) (ht : t.size ≤ 140737488355000) :
    Calls Tryz.prog 168 #[.pointer (some ⟨b, 0, none⟩), .int .u64 n, .int .i64 z] w (BufTo b v (t ++ zerosB (gapZ (t.size : Nat) z).toNat ++ putS n z) (.int .i64 0) w) := by
  obtain ⟨i0, hi, hz0, hz1, hz2⟩ := info_parts info8
  obtain ⟨h1, h1f⟩ := put_zero he
  have hB : putB n z = putS n z := (put_in h1 h1f).1
  have hsz : (putS n z).size ≤ 8 := by
    rw [putS_size]; rcases isSz_cases h1 with rfl | rfl | rfl | rfl <;> simp
  have hput : ∀ w : World, Calls Tryz.prog 187 #[.int .u64 n, .int .i64 z] w fun e w' => e = .returned (.tuple #[.string (putS n z), .int .i64 0]) ∧ Below w.heap.size w w' := fun w => by
    have h := put_any n z hn w
    rw [hB, he] at h
    exact h
  obtain ⟨g, hg⟩ : ∃ g : Nat, gapZ (t.size : Nat) z = g := ⟨_, (Int.toNat_of_nonneg (gapZ_rng _ _).1).symm⟩
  have hg7 : g ≤ 7 := by have := (gapZ_rng (t.size : Nat) z).2; omega
  have e0 : (gapZ (t.size : Nat) z).toNat = g := by rw [hg]; rfl
  rw [e0]
  have HG := Lib.hid hg
  have H := Lib.hid h
  have hlw := lt_of_block h.1
  clear hg e0 hB he h
  have HP := Lib.hid hput
  clear hput
  go_enter Tryz.func168, Tryz.ntmps168
  go_wp2_with (first
    | (go_at_call 187; refine (HP.out _).mono ?_; rintro e w1 ⟨rfl, hb1⟩; have c0 := cell_at (j := 0) (H.out.step hb1).1 rfl; have f0 := free_at (j := 0) (H.out.step hb1).1)
    | (go_at_call 188; refine (skip_nat b g _ _ HG.out _ (by go_cell) (by go_cell) (by omega) (by omega)).mono ?_; rintro e w2 ⟨rfl, rfl⟩))
  go_loopw [25] (fun i wr => ∃ k : Nat, k ≤ g ∧ i = .int .i64 k ∧ PutMid b v t g k w wr) (fun i _ => g - (intOf i).toNat)
  case atStart => exact ⟨0, Nat.zero_le _, rfl, mid_start b v t g w _ H.out hb1⟩
  case round =>
    obtain ⟨k, hk, rfl, v1, h1, hown, ho, hf⟩ := hrel
    by_cases hlt : k < g
    · have hbs := lt_of_block h1
      have d1 := cell_at (j := 1) h1 rfl
      have HB := Lib.hid h1
      clear h1
      go_wp2_with (at_builtin; refine wpList_append_at rfl (.tmp 31) (.tmp 32) 82 rfl (b + 1) 5 i0 (.int .u8 0) 1 1 Tryz.underlying82 hi hz0 hz1 hz2 rfl (by decide) v1 (t.size + k) _ rfl (hown.alloc _) ⟨_, 0, none⟩ 1 1 [.int .u8 0] rfl rfl ?c1 ?c2 (by unfold maxLen; omega) (by omega) (by simp; omega) ?_)
      case c1 => intro j u hj; match j, hj with | 0, hj => simp at hj; subst hj; simp [Addr.add]
      case c2 => intro u hu; simp at hu; subst hu; rfl
      intro v2 w2 hown2 hg2 hf2
      obtain ⟨a', c', rfl⟩ := row_shape hown2
      have h2 : w2.heap[b]? = some (.cells #[.int .i64 ((t.size : Nat) + (g : Nat)), v1] 108 (0, 0)) := by
        rw [hg2.block b (by simp; omega) (fun e => by have := (hown.lt b e.symm).1; omega)]; exact alloc_old HB.out
      have g1 := cell_at (j := 1) h2 rfl
      have g2 := free_at (j := 1) h2
      have HB2 := Lib.hid h2
      clear h2 d1
      have HM := Lib.hid (mid_next b v v1 _ t g k w _ w2 HB.out ho hlw hown hf.out hown2 hg2 hf2.out)
      clear hown2 hg2 hf2
      go_wp2
      go_roundw
      case rel => exact ⟨k + 1, by omega, by go_num, HM.out⟩
      case measure => simp [intOf]; omega
    · obtain rfl : k = g := by omega
      have HM := Lib.hid (mid_end b v t k w _ ⟨v1, h1, hown, ho, hf⟩)
      clear h1 hown ho hf
      obtain ⟨v2, hb2, ho2, hf2⟩ := HM.out
      have HB2 := Lib.hid hb2
      have HF2 := Lib.hid hf2
      clear hb2 hf2
      go_wp2_with (go_at_call 170; refine (text_any b v2 _ _ _ HB2.out (by rw [ByteArray.size_append, zerosB_size]; omega)).mono ?_; rintro e w3 ⟨rfl, hn3⟩)
      go_ret
      exact ⟨rfl, BufNow.trans ho2 HF2.out hn3⟩
theorem bput_any (b : Nat) (v : Value) (t : ByteArray) (n z : Int) (w : World) (h : BufAt b v t w) (hn : (Lit.int .u64 n).wf = true) (ht : t.size ≤ 140737488355000) :
    Calls Tryz.prog 168 #[.pointer (some ⟨b, 0, none⟩), .int .u64 n, .int .i64 z] w (BufTo b v (bufPut t n z) (.int .i64 (putE n z)) w) := by
  by_cases he : putE n z = 0
  · have h2 := bput_ok b v t n z w h hn he ht
    unfold bufPut
    rw [if_pos he, he]
    exact h2
  · unfold bufPut
    rw [if_neg he]
    exact bput_bad b v t n z w h hn he
/-- New: a zero buffer in a new block -/
theorem buf_new (w : World) : BufAt w.heap.size (.slice none 0 0) ⟨#[]⟩ (w.alloc (.cells #[.int .i64 0, .slice none 0 0] 108 (0, 0))) :=
  ⟨alloc_at w _, World.ownsRow_nil _ _ _ _⟩
theorem new_any (w : World) : Calls Tryz.prog 30 #[] w fun e w' => e = .returned (.pointer (some ⟨w.heap.size, 0, none⟩)) ∧ w' = w.alloc (.cells #[.int .i64 0, .slice none 0 0] 108 (0, 0)) := by
  go_enter Tryz.func30, Tryz.ntmps30
  go_wp2
  go_ret
  exact ⟨rfl, rfl⟩
theorem bytes_nil (w : World) : Calls Tryz.prog 32 #[.pointer none] w fun e w' => e = .returned (.string ⟨#[]⟩) ∧ w = w' := by
  go_enter Tryz.func32, Tryz.ntmps32
  go_wp2
  go_ret
  exact ⟨rfl, rfl⟩
theorem bytesOf_cells (t : ByteArray) : bytesOf (t.data.toList.map fun x => (x.toNat : Int)) = t := by
  apply ByteArray.ext
  have e : ((fun x : Int => UInt8.ofNat x.toNat) ∘ fun x : UInt8 => (x.toNat : Int)) = id := by funext x; simp
  simp only [bytesOf, List.map_map, e, List.map_id]
theorem conv_none (w : World) : (convert 82 9 (.slice none 0 0)).run Tryz.prog w = .ok (.string ⟨#[]⟩) w := by kernel_rfl
theorem conv_row (w : World) (base : Nat) (v : Value) (t : ByteArray) (h : w.ownsRow base 5 1 v t.size (Lib.strCells t)) :
    (convert 82 9 v).run Tryz.prog w = .ok (.string t) w := by
  rcases h.2 with ⟨rfl, h0⟩ | ⟨g, cap, cur, rfl, _⟩
  · have ht : t = ⟨#[]⟩ := ByteArray.ext (Array.eq_empty_of_size_eq_zero h0)
    subst ht
    exact conv_none w
  · have h1 := conv_bytes w ⟨g, 0, none⟩ cap (t.data.toList.map fun x => (x.toNat : Int)) (fun j hj => by
      have hj' : j < t.data.toList.length := by simpa using hj
      refine h.cells rfl j _ ?_
      unfold Lib.strCells
      simp [List.getElem?_eq_getElem hj'])
    rw [bytesOf_cells] at h1
    simpa using h1
theorem bytes_any (b : Nat) (v : Value) (t : ByteArray) (w : World) (h : BufAt b v t w) : Calls Tryz.prog 32 #[.pointer (some ⟨b, 0, none⟩)] w fun e w' => e = .returned (.string t) ∧ w = w' := by
  have c1 := cell_at (j := 1) h.1 rfl
  have hcv := conv_row w _ v t h.2
  have H := Lib.hid h
  clear h
  go_enter Tryz.func32, Tryz.ntmps32
  go_wp2
  go_ret
  exact ⟨rfl, rfl⟩
end Go.Proofs.YtmnemddagcfjgaaGreatDoor
