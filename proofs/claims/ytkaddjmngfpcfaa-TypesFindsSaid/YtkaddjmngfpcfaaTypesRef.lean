/- Contracts of chapter 6's reference: named, Item, Value, Branch. -/
import Derived.Test.YtkaddjmngfpcfaaTypesAt
import Derived.BigQuiet
import Derived.Handy
namespace Go.Proofs.Ytkaddjmngfpcfaa
open Go.RowKit
set_option linter.unusedVariables false
def namedK (k : Int) : Bool := k == 9 || k == 13 || k == 14
theorem refNamed_any (k : Int) (w : World) : Calls Try.prog 28 #[.int .i64 k] w fun e w' => e = .returned (.bool (namedK k)) ∧ w = w' := by
  go_enter Try.func28, Try.ntmps28
  go_wp2
  all_goals
    go_ret
    refine ⟨ret_b ?_, rfl⟩
    rw [Bool.eq_iff_iff]; simp [namedK, *]
theorem ret_i {k : IntKind} {a b : Int} (h : a = b) : Ending.returned (.int k a) = .returned (.int k b) := by rw [h]
/-- a type of a list, if there is one -/
def inL (len : Nat) (t : Int) : Bool := decide (0 ≤ t) && decide (t < len)
def itemZ (T : TypeV) (s : ByteArray) : Int := if namedK T.kind then firstZ (fun j => (T.items j).name.toList == s.toList) T.ilen else -1
def itemL (L : Nat → TypeV) (len : Nat) (t : Int) (s : ByteArray) : Int := if inL len t then itemZ (L t.toNat) s else -1
def valueZ (T : TypeV) (n : Int) : Int := if T.kind = 9 then firstZ (fun j => (T.items j).num == n) T.ilen else -1
def valueL (L : Nat → TypeV) (len : Nat) (t n : Int) : Int := if inL len t then valueZ (L t.toNat) n else -1
def tagB (T : TypeV) (n : Int) (j : Nat) : Bool := !(T.items j).rest && ((T.items j).num == n)
def branchZ (T : TypeV) (n : Int) : Int := if T.kind = 14 then (if firstN (tagB T n) T.ilen < T.ilen then (firstN (tagB T n) T.ilen : Nat) else firstZ (fun j => (T.items j).rest) T.ilen) else -1
def branchL (L : Nat → TypeV) (len : Nat) (t n : Int) : Int := if inL len t then branchZ (L t.toNat) n else -1
theorem inL_no {len : Nat} {t : Int} (h : ¬ (0 ≤ t ∧ t < len)) : inL len t = false := by unfold inL; simp; omega
theorem inL_yes {len : Nat} {k : Nat} (h : k < len) : inL len (k : Nat) = true := by unfold inL; simp; exact h
set_option maxHeartbeats 1000000 in
theorem refItem_any (ao : Option Addr) (len cap : Nat) (L : Nat → TypeV) (t : Int) (s : ByteArray) (hlen : len ≤ 140737488351232) (w : World) (H : ∀ i, i < len → TypeAt w ao i (L i)) :
    Calls Try.prog 13 #[.slice ao len cap, .int .i64 t, .string s] w fun e w' => e = .returned (.int .i64 (itemL L len t s)) ∧ w = w' := by
  have HH := Lib.hid H
  clear H
  by_cases ht : 0 ≤ t ∧ t < len
  · obtain ⟨h0, h1⟩ := ht
    obtain ⟨k, rfl⟩ := Int.eq_ofNat_of_zero_le h0
    have hk : k < len := by omega
    have e0 : itemL L len (k : Nat) s = itemZ (L k) s := by unfold itemL; rw [inL_yes hk]; rfl
    rw [e0]
    obtain ⟨b, off, rfl, c0, c1, c2, c3, c4, c5, wf, hi⟩ := HH.out k hk
    have hn0 : decide ((k : Int) < 0) = false := by simp
    have hn1 : decide ((len : Int) ≤ k) = false := by simp; omega
    cases hn : namedK (L k).kind with
    | false =>
      have e1 : itemZ (L k) s = -1 := by unfold itemZ; rw [hn]; rfl
      rw [e1]
      go_enter Try.func13, Try.ntmps13
      go_wp2_with (go_at_call 28; refine (refNamed_any _ _).mono ?_; rintro e w' ⟨rfl, rfl⟩)
      go_ret
      exact ⟨rfl, rfl⟩
    | true =>
      have e1 : itemZ (L k) s = firstZ (fun j => ((L k).items j).name.toList == s.toList) (L k).ilen := by unfold itemZ; rw [hn]; rfl
      rw [e1]
      obtain ⟨hil, hit⟩ := hi
      have HI := Lib.hid hit
      clear hit
      go_enter Try.func13, Try.ntmps13
      go_wp2_with (go_at_call 28; refine (refNamed_any _ _).mono ?_; rintro e w' ⟨rfl, rfl⟩)
      go_loopw [7] (fun i wr => ∃ j : Nat, j ≤ (L k).ilen ∧ i = .int .i64 j ∧ Hid (∀ m, m < j → (((L k).items m).name.toList == s.toList) = false) ∧ wr = w) (fun i _ => (L k).ilen - (intOf i).toNat)
      case atStart => exact ⟨0, by omega, rfl, Lib.hid fun m hm => by omega, rfl⟩
      case round =>
        obtain ⟨j, hj, rfl, H, rfl⟩ := hrel
        by_cases hlt : j < (L k).ilen
        · obtain ⟨b', off', hia, d0, d1, d2, d3, d4, wi⟩ := HI.out j hlt
          rw [hia] at c5
          cases hq : (((L k).items j).name.toList == s.toList) with
          | false =>
            have HN := Lib.hid (none_next (p := fun m => ((L k).items m).name.toList == s.toList) H.out hq)
            go_wp2
            go_roundw
            case measure => simp [intOf]; omega
            case rel => exact ⟨j + 1, by omega, by go_num, HN, by first | rfl | trivial⟩
          | true =>
            have HN := Lib.hid (firstZ_at (p := fun m => ((L k).items m).name.toList == s.toList) H.out hlt hq)
            go_wp2
            go_ret
            exact ⟨ret_i HN.out.symm, by first | rfl | trivial⟩
        · have HN := Lib.hid (firstZ_none (p := fun m => ((L k).items m).name.toList == s.toList) (n := (L k).ilen) (fun m hm => H.out m (by omega)))
          go_wp2
          go_ret
          exact ⟨ret_i HN.out.symm, by first | rfl | trivial⟩
  · have e0 : itemL L len t s = -1 := by unfold itemL; rw [inL_no ht]; rfl
    rw [e0]
    by_cases h0 : 0 ≤ t
    · have hn0 : decide (t < 0) = false := by simp; omega
      have hn1 : decide ((len : Int) ≤ t) = true := by simp; omega
      go_enter Try.func13, Try.ntmps13
      go_wp2
      go_ret
      exact ⟨rfl, rfl⟩
    · have hn0 : decide (t < 0) = true := by simp; omega
      go_enter Try.func13, Try.ntmps13
      go_wp2
      go_ret
      exact ⟨rfl, rfl⟩
end Go.Proofs.Ytkaddjmngfpcfaa
