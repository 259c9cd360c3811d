/- Contract of chapter 2's example (awake). -/
import Derived.Test.YtgiaidoaadjfkaaAlignRefTake
namespace Go.Proofs.Ytgiaidoaadjfkaa
open Go.RowKit
set_option linter.unusedVariables false
theorem put11 (b : Nat) (v : Value) (w : World) (h : BufAt b v ⟨#[]⟩ w) : Calls Try.prog 11 #[.pointer (some ⟨b, 0, none⟩), .int .u64 1, .int .i64 1] w (BufTo b v ⟨#[1]⟩ (.int .i64 0) w) := by
  have h1 := bput_any b v ⟨#[]⟩ 1 1 w h (by decide) (by decide)
  have e1 : bufPut ⟨#[]⟩ 1 1 = ⟨#[1]⟩ := by decide
  have e2 : putE 1 1 = 0 := by decide
  rw [e1, e2] at h1
  exact h1
theorem put24 (b : Nat) (v : Value) (w : World) (h : BufAt b v ⟨#[1]⟩ w) : Calls Try.prog 11 #[.pointer (some ⟨b, 0, none⟩), .int .u64 2, .int .i64 4] w (BufTo b v ⟨#[1, 0, 0, 0, 2, 0, 0, 0]⟩ (.int .i64 0) w) := by
  have h1 := bput_any b v ⟨#[1]⟩ 2 4 w h (by decide) (by decide)
  have e1 : bufPut ⟨#[1]⟩ 2 4 = ⟨#[1, 0, 0, 0, 2, 0, 0, 0]⟩ := by decide
  have e2 : putE 2 4 = 0 := by decide
  rw [e1, e2] at h1
  exact h1
/-- New and two steps of its buffer: what lay below stands -/
theorem BufAt.below {w1 w2 : World} {b : Nat} {v : Value} {t : ByteArray} (hv : BufAt b v t w1) (ho : Only (BufFoot b v) w1 w2) : Below b w1 w2 :=
  ho.below (fun k hk => (hv.foot hk).1) (Nat.le_of_lt (lt_of_block hv.1))
theorem keep_buf {w1 w2 : World} {b : Nat} {v x : Value} {t : ByteArray} (hv : BufAt b v t w1) (ho : Only (BufFoot b v) w1 w2) {p : Addr} (hp : p.block < b) (hc : w1.cell? p = some x) : w2.cell? p = some x := by
  rw [(hv.below ho).cell hp]; exact hc
theorem bufPut_size (t : ByteArray) (n z : Int) : (bufPut t n z).size ≤ t.size + 15 := by
  unfold bufPut
  split
  · rename_i he
    obtain ⟨h1, _⟩ := put_zero he
    have h7 := (gapZ_rng (t.size : Nat) z).2
    rw [ByteArray.size_append, ByteArray.size_append, zerosB_size, putS_size]
    rcases isSz_cases h1 with rfl | rfl | rfl | rfl <;> simp <;> omega
  · omega
theorem new_below (w : World) (o : Obj) : Below w.heap.size w (w.alloc o) := (Below.refl _ _).alloc (Nat.le_refl _) _
theorem awake2_any (w : World) : Calls Try.prog 7 #[] w fun e w' => e = .returned (.bool true) ∧ Below w.heap.size w w' := by
  have H0 := Lib.hid (buf_new w)
  go_enter Try.func7, Try.ntmps7
  go_wp2_with (go_at_call 8; refine (new_any _).mono ?_; rintro e w1 ⟨rfl, rfl⟩)
  refine (put11 _ _ _ H0.out).mono ?_
  rintro e w1 ⟨rfl, v1, h1, o1, f1⟩
  have H1 := Lib.hid h1
  have O1 := Lib.hid o1
  have F1 := Lib.hid f1
  clear h1 o1 f1
  go_wp2_with (first
    | (go_at_call 11; refine (put24 _ _ _ H1.out).mono ?_; rintro e w2 ⟨rfl, v2, h2, o2, f2⟩; have H2 := Lib.hid h2; have O2 := Lib.hid o2; clear h2 o2 f2)
    | (go_at_call 13; refine (bytes_any _ _ _ _ H2.out).mono ?_; rintro e w3 ⟨rfl, rfl⟩)
    | (go_at_call 12; refine (len_any _ _ _ _ H2.out).mono ?_; rintro e w3 ⟨rfl, rfl⟩))
  go_ret
  exact ⟨rfl, ((new_below w _).trans (H0.out.below O1.out)).trans (H1.out.below O2.out)⟩
end Go.Proofs.Ytgiaidoaadjfkaa
