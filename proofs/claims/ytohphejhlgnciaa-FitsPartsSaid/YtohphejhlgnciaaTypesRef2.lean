/- Contracts of chapter 6's reference: named, Item, Value, Branch. -/
import Derived.Test.YtohphejhlgnciaaTypesAt
import Derived.BigQuiet
import Derived.Handy
namespace Go.Proofs.Ytohphejhlgnciaa
open Go.RowKit
set_option linter.unusedVariables false
def namedK (k : Int) : Bool := k == 9 || k == 13 || k == 14
theorem ret_i {k : IntKind} {a b : Int} (h : a = b) : Ending.returned (.int k a) = .returned (.int k b) := by rw [h]
/-- a type of a list, if there is one -/
def inL (len : Nat) (t : Int) : Bool := decide (0 ≤ t) && decide (t < len)
def itemZ (T : TypeV) (s : ByteArray) : Int := if namedK T.kind then firstZ (fun j => (T.items j).name.toList == s.toList) T.ilen else -1
def itemL (L : Nat → TypeV) (len : Nat) (t : Int) (s : ByteArray) : Int := if inL len t then itemZ (L t.toNat) s else -1
def valueZ (T : TypeV) (n : Int) : Int := if T.kind = 9 then firstZ (fun j => (T.items j).num == n) T.ilen else -1
def valueL (L : Nat → TypeV) (len : Nat) (t n : Int) : Int := if inL len t then valueZ (L t.toNat) n else -1
def tagB (T : TypeV) (n : Int) (j : Nat) : Bool := !(T.items j).rest && ((T.items j).num == n)
def branchZ (T : TypeV) (n : Int) : Int := if T.kind = 14 then (if firstN (tagB T n) T.ilen < T.ilen then (firstN (tagB T n) T.ilen : Nat) else firstZ (fun j => (T.items j).rest) T.ilen) else -1
def branchL (L : Nat → TypeV) (len : Nat) (t n : Int) : Int := if inL len t then branchZ (L t.toNat) n else -1
theorem inL_no {len : Nat} {t : Int} (h : ¬ (0 ≤ t ∧ t < len)) : inL len t = false := by unfold inL; simp; omega
theorem inL_yes {len : Nat} {k : Nat} (h : k < len) : inL len (k : Nat) = true := by unfold inL; simp; exact h
end Go.Proofs.Ytohphejhlgnciaa
namespace Go.Proofs.Ytohphejhlgnciaa
open Go.RowKit
set_option linter.unusedVariables false
theorem first_step (p : Nat → Bool) (j : Nat) (h : p j = true) : firstZ p (j + 1) = if firstZ p j < 0 then ((j : Nat) : Int) else firstZ p j := by
  rcases firstZ_cases p j with ⟨k, hk, e, h1, h2⟩ | ⟨e, h1⟩
  · rw [e, if_neg (by omega)]; exact firstZ_at h2 (by omega) h1
  · rw [e, if_pos (by decide)]; exact firstZ_at h1 (Nat.lt_succ_self _) h
theorem first_skip (p : Nat → Bool) (j : Nat) (h : p j = false) : firstZ p (j + 1) = firstZ p j := by
  rcases firstZ_cases p j with ⟨k, hk, e, h1, h2⟩ | ⟨e, h1⟩
  · rw [e]; exact firstZ_at h2 (by omega) h1
  · rw [e]; exact firstZ_none (none_next h1 h)
/-- the law's own bound on time -/
def greatN (L : Nat → TypeV) : Nat → Int
  | 0 => 0
  | k + 1 => if 1048576 < greatN L k + (L k).ilen then 1048576 else greatN L k + (L k).ilen
theorem greatN_in (L : Nat → TypeV) : ∀ k, 0 ≤ greatN L k ∧ greatN L k ≤ 1048576
  | 0 => ⟨Int.le_refl _, by simp [greatN]⟩
  | k + 1 => by have := greatN_in L k; simp only [greatN]; split <;> omega
def greatB (L : Nat → TypeV) (len : Nat) : Bool := decide (100 < len) || decide (800 < greatN L len)
set_option maxHeartbeats 1000000 in
theorem great_any (ao : Option Addr) (len cap : Nat) (L : Nat → TypeV) (hlen : len ≤ 140737488351232) (w : World) (H : ∀ i, i < len → TypeAt w ao i (L i)) :
    Calls Try.prog 4 #[.slice ao len cap] w fun e w' => e = .returned (.bool (greatB L len)) ∧ w = w' := by
  have HH := Lib.hid H
  clear H
  go_enter Try.func4, Try.ntmps4
  go_wp2
  go_loopw [3, 4] (fun q i wr => ∃ (k : Nat) (n : Int), k ≤ len ∧ i = .int .i64 k ∧ q = .int .i64 n ∧ Hid (greatN L k = n) ∧ 0 ≤ n ∧ n ≤ 1048576 ∧ wr = w) (fun _ i _ => len - (intOf i).toNat)
  case atStart => exact ⟨0, 0, by omega, rfl, rfl, Lib.hid rfl, Int.le_refl _, by decide, rfl⟩
  case round =>
    obtain ⟨k, n, hk, rfl, rfl, HG, hn0, hn1, rfl⟩ := hrel
    by_cases hlt : k < len
    · obtain ⟨b, off, rfl, c0, c1, c2, c3, c4, c5, wf, hil, hit⟩ := HH.out k hlt
      have HN := Lib.hid (show greatN L (k + 1) = if 1048576 < n + ((L k).ilen : Int) then 1048576 else n + ((L k).ilen : Int) by rw [← HG.out]; rfl)
      have HN2 := Lib.hid (greatN_in L (k + 1))
      clear hit
      go_wp2
      go_roundw
      case measure => simp [intOf]; omega
      case rel => exact ⟨k + 1, _, by omega, by go_num, rfl, HN, HN.out ▸ HN2.out.1, HN.out ▸ HN2.out.2, by first | rfl | trivial⟩
    · obtain rfl : k = len := by omega
      go_wp2
      all_goals
        go_ret
        refine ⟨ret_b ?_, by first | rfl | trivial⟩
        unfold greatB; rw [HG.out, Bool.eq_iff_iff]; simp; try omega
end Go.Proofs.Ytohphejhlgnciaa
