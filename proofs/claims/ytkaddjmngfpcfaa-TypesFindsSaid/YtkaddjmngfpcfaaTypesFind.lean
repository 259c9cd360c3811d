/- Contracts of package types: its closures, slices.IndexFunc at an item, find. -/
import Derived.Test.YtkaddjmngfpcfaaTypesCSmall
import Derived.Shelf.Abstract
namespace Go.Proofs.Ytkaddjmngfpcfaa
open Go.RowKit
set_option linter.unusedVariables false
theorem hmf (fn : Fn) (first cap : Array Value) (w : World) : (Instr.makeFunc fn first cap).run Try.prog w = .ok (.func fn first cap) w := rfl
theorem itemF_any (x : ItemV) (b : Nat) (s : ByteArray) (w : World) (hc : w.cell? ⟨b, 0, none⟩ = some (.string s)) :
    Calls Try.prog 24 #[itmV x, .pointer (some ⟨b, 0, none⟩)] w fun e w' => e = .returned (.bool (x.name.toList == s.toList)) ∧ Below w.heap.size w w' := by
  have hlt := World.block_lt_of_cell? w _ hc
  have hne : ¬ b = w.heap.size := by simp at hlt; omega
  unfold itmV
  go_enter Try.func24, Try.ntmps24
  go_wp2
  all_goals
    go_ret
    exact ⟨ret_b (by first | rfl | simp [*]), (Below.refl _ _).alloc (Nat.le_refl _) _⟩
theorem valueF_any (x : ItemV) (b : Nat) (n : Int) (w : World) (hc : w.cell? ⟨b, 0, none⟩ = some (.int .u64 n)) :
    Calls Try.prog 25 #[itmV x, .pointer (some ⟨b, 0, none⟩)] w fun e w' => e = .returned (.bool (x.num == n)) ∧ Below w.heap.size w w' := by
  have hlt := World.block_lt_of_cell? w _ hc
  have hne : ¬ b = w.heap.size := by simp at hlt; omega
  unfold itmV
  go_enter Try.func25, Try.ntmps25
  go_wp2
  all_goals
    go_ret
    exact ⟨ret_b (by first | rfl | simp [*]), (Below.refl _ _).alloc (Nat.le_refl _) _⟩
theorem branchF_any (x : ItemV) (b : Nat) (n : Int) (w : World) (hc : w.cell? ⟨b, 0, none⟩ = some (.int .u64 n)) :
    Calls Try.prog 26 #[itmV x, .pointer (some ⟨b, 0, none⟩)] w fun e w' => e = .returned (.bool (x.num == n && !x.rest)) ∧ Below w.heap.size w w' := by
  have hlt := World.block_lt_of_cell? w _ hc
  have hne : ¬ b = w.heap.size := by simp at hlt; omega
  obtain ⟨q, hq⟩ : ∃ q, (x.num == n) = q := ⟨_, rfl⟩
  unfold itmV
  rw [hq]
  go_enter Try.func26, Try.ntmps26
  cases q
  all_goals
    go_wp2
    all_goals
      go_ret
      exact ⟨ret_b (by first | rfl | simp [*]), (Below.refl _ _).alloc (Nat.le_refl _) _⟩
theorem restF_any (x : ItemV) (w : World) :
    Calls Try.prog 27 #[itmV x] w fun e w' => e = .returned (.bool x.rest) ∧ Below w.heap.size w w' := by
  unfold itmV
  go_enter Try.func27, Try.ntmps27
  go_wp2
  all_goals
    go_ret
    exact ⟨ret_b (by first | rfl | simp [*]), (Below.refl _ _).alloc (Nat.le_refl _) _⟩
/-- a predicate on items, as a function value -/
def Pays (g : Nat) (lb : Array Value) (p : ItemV → Bool) (w : World) : Prop :=
  ∀ (W : World) (x : ItemV), Below w.heap.size w W → Calls Try.prog g (#[itmV x] ++ lb) W fun e w' => e = .returned (.bool (p x)) ∧ Below W.heap.size W w'
def Enters (g : Nat) : Prop := ∀ args w, (callFunc g args).run Try.prog w = .ok (.enter g args) w
def ItemsL (w : World) (ao : Option Addr) (len : Nat) (I : Nat → ItemV) : Prop := ∀ j, j < len → ItemAt w ao j (I j)
set_option maxHeartbeats 2000000 in
theorem idxFunc_any (ao : Option Addr) (len cap : Nat) (I : Nat → ItemV) (g : Nat) (lb : Array Value) (p : ItemV → Bool) (hlen : len ≤ 3518437208780) (w : World) (eg : Enters g) (hp : Pays g lb p w) (H : ItemsL w ao len I) :
    Calls Try.prog 45 #[.slice ao len cap, .func (.func g) #[] lb] w fun e w' => e = .returned (.int .i64 (firstZ (fun j => p (I j)) len)) ∧ Below w.heap.size w w' := by
  have HH := Lib.hid H
  have HP := Lib.hid hp
  clear H hp
  unfold Enters at eg
  go_enter Try.func45, Try.ntmps45
  go_wp2
  go_loopw [8] (fun i wr => ∃ j : Nat, j ≤ len ∧ i = .int .i64 j ∧ Hid (∀ m, m < j → p (I m) = false) ∧ Hid (Below w.heap.size w wr)) (fun i _ => len - (intOf i).toNat)
  case atStart => exact ⟨0, by omega, rfl, Lib.hid fun m hm => by omega, Lib.hid (Below.refl _ _)⟩
  case round =>
    obtain ⟨j, hj, rfl, H, HB⟩ := hrel
    by_cases hlt : j < len
    · have hat := (HH.out j hlt).held (w1 := wr) HB.out
      obtain ⟨b', off', rfl, d0, d1, d2, d3, d4, wi⟩ := hat
      have hcall := HP.out wr (I j) HB.out
      unfold itmV at hcall
      cases hq : p (I j) with
      | false =>
        rw [hq] at hcall
        have HC := Lib.hid hcall
        have HN := Lib.hid (none_next (p := fun m => p (I m)) H.out hq)
        clear hcall
        go_wp2_with (go_at_fn g; refine (HC.out).mono ?_; rintro e w2 ⟨rfl, hb2⟩; have HB2 := Lib.hid (HB.out.trans (hb2.mono HB.out.size)); clear hb2)
        go_roundw
        case measure => simp [intOf]; omega
        case rel => exact ⟨j + 1, by omega, by go_num, HN, HB2⟩
      | true =>
        rw [hq] at hcall
        have HC := Lib.hid hcall
        have HN := Lib.hid (firstZ_at (p := fun m => p (I m)) H.out hlt hq)
        clear hcall
        go_wp2_with (go_at_fn g; refine (HC.out).mono ?_; rintro e w2 ⟨rfl, hb2⟩; have HB2 := Lib.hid (HB.out.trans (hb2.mono HB.out.size)); clear hb2)
        go_ret
        exact ⟨ret_i HN.out.symm, HB2.out⟩
    · have HN := Lib.hid (firstZ_none (p := fun m => p (I m)) (n := len) (fun m hm => H.out m (by omega)))
      go_wp2
      go_ret
      exact ⟨ret_i HN.out.symm, HB.out⟩
/-- a place that was looked for, as two results -/
def posZ (z : Int) : Int := if z < 0 then 0 else z
def okZ (z : Int) : Bool := decide (0 ≤ z)
def foundV (z : Int) : Value := .tuple #[.int .i64 (posZ z), .bool (okZ z)]
theorem firstZ_bd (p : Nat → Bool) (n : Nat) : -1 ≤ firstZ p n ∧ firstZ p n ≤ n := by
  rcases firstZ_cases p n with ⟨k, hk, e, _⟩ | ⟨e, _⟩ <;> rw [e] <;> omega
theorem find6_any (ao : Option Addr) (len cap : Nat) (I : Nat → ItemV) (g : Nat) (lb : Array Value) (p : ItemV → Bool) (hlen : len ≤ 3518437208780) (w : World) (eg : Enters g) (hp : Pays g lb p w) (H : ItemsL w ao len I) :
    Calls Try.prog 23 #[.slice ao len cap, .func (.func g) #[] lb] w fun e w' => e = .returned (foundV (firstZ (fun j => p (I j)) len)) ∧ Below w.heap.size w w' := by
  have HC := Lib.hid (idxFunc_any ao len cap I g lb p hlen w eg hp H)
  obtain ⟨h1, h2⟩ := firstZ_bd (fun j => p (I j)) len
  obtain ⟨z, hz⟩ : ∃ z, firstZ (fun j => p (I j)) len = z := ⟨_, rfl⟩
  rw [hz] at h1 h2
  have hh := HC.out
  rw [hz] at hh
  have HD := Lib.hid hh
  rw [hz]
  clear hh hz HC eg hp H
  by_cases hlt : z < 0
  · have e : foundV z = .tuple #[.int .i64 0, .bool false] := by unfold foundV posZ okZ; rw [if_pos hlt, decide_eq_false (by omega)]
    rw [e]
    clear e
    go_enter Try.func23, Try.ntmps23
    go_wp2_with (go_at_call 45; refine (HD.out).mono ?_; rintro e w2 ⟨rfl, hb2⟩; have HB2 := Lib.hid hb2; clear hb2)
    go_ret2
    exact ⟨rfl, HB2.out⟩
  · have e : foundV z = .tuple #[.int .i64 z, .bool true] := by unfold foundV posZ okZ; rw [if_neg hlt, decide_eq_true (by omega)]
    rw [e]
    clear e
    go_enter Try.func23, Try.ntmps23
    go_wp2_with (go_at_call 45; refine (HD.out).mono ?_; rintro e w2 ⟨rfl, hb2⟩; have HB2 := Lib.hid hb2; clear hb2)
    go_ret2
    exact ⟨rfl, HB2.out⟩
end Go.Proofs.Ytkaddjmngfpcfaa
