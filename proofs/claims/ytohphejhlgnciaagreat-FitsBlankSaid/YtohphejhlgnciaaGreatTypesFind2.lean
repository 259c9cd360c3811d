/- Contracts of package types: its closures, slices.IndexFunc at an item, find. -/
import Derived.Test.YtohphejhlgnciaaGreatTypesCSmall
import Derived.Shelf.Abstract
namespace Go.Proofs.YtohphejhlgnciaaGreat
open Go.RowKit
set_option linter.unusedVariables false
theorem hmf (fn : Fn) (first cap : Array Value) (w : World) : (Instr.makeFunc fn first cap).run Tryz.prog w = .ok (.func fn first cap) w := rfl
theorem itemF_any (x : ItemV) (b : Nat) (s : ByteArray) (w : World) (hc : w.cell? ⟨b, 0, none⟩ = some (.string s)) :
    Calls Tryz.prog 117 #[itmV x, .pointer (some ⟨b, 0, none⟩)] w fun e w' => e = .returned (.bool (x.name.toList == s.toList)) ∧ Below w.heap.size w w' := by
  have hlt := World.block_lt_of_cell? w _ hc
  have hne : ¬ b = w.heap.size := by simp at hlt; omega
  unfold itmV
  go_enter Tryz.func117, Tryz.ntmps117
  go_wp2
  all_goals
    go_ret
    exact ⟨ret_b (by first | rfl | simp [*]), (Below.refl _ _).alloc (Nat.le_refl _) _⟩
theorem valueF_any (x : ItemV) (b : Nat) (n : Int) (w : World) (hc : w.cell? ⟨b, 0, none⟩ = some (.int .u64 n)) :
    Calls Tryz.prog 74 #[itmV x, .pointer (some ⟨b, 0, none⟩)] w fun e w' => e = .returned (.bool (x.num == n)) ∧ Below w.heap.size w w' := by
  have hlt := World.block_lt_of_cell? w _ hc
  have hne : ¬ b = w.heap.size := by simp at hlt; omega
  unfold itmV
  go_enter Tryz.func74, Tryz.ntmps74
  go_wp2
  all_goals
    go_ret
    exact ⟨ret_b (by first | rfl | simp [*]), (Below.refl _ _).alloc (Nat.le_refl _) _⟩
theorem branchF_any (x : ItemV) (b : Nat) (n : Int) (w : World) (hc : w.cell? ⟨b, 0, none⟩ = some (.int .u64 n)) :
    Calls Tryz.prog 93 #[itmV x, .pointer (some ⟨b, 0, none⟩)] w fun e w' => e = .returned (.bool (x.num == n && !x.rest)) ∧ Below w.heap.size w w' := by
  have hlt := World.block_lt_of_cell? w _ hc
  have hne : ¬ b = w.heap.size := by simp at hlt; omega
  obtain ⟨q, hq⟩ : ∃ q, (x.num == n) = q := ⟨_, rfl⟩
  unfold itmV
  rw [hq]
  go_enter Tryz.func93, Tryz.ntmps93
  cases q
  all_goals
    go_wp2
    all_goals
      go_ret
      exact ⟨ret_b (by first | rfl | simp [*]), (Below.refl _ _).alloc (Nat.le_refl _) _⟩
theorem restF_any (x : ItemV) (w : World) :
    Calls Tryz.prog 94 #[itmV x] w fun e w' => e = .returned (.bool x.rest) ∧ Below w.heap.size w w' := by
  unfold itmV
  go_enter Tryz.func94, Tryz.ntmps94
  go_wp2
  all_goals
    go_ret
    exact ⟨ret_b (by first | rfl | simp [*]), (Below.refl _ _).alloc (Nat.le_refl _) _⟩
/-- a predicate on items, as a function value -/
def Pays (g : Nat) (lb : Array Value) (p : ItemV → Bool) (w : World) : Prop :=
  ∀ (W : World) (x : ItemV), Below w.heap.size w W → Calls Tryz.prog g (#[itmV x] ++ lb) W fun e w' => e = .returned (.bool (p x)) ∧ Below W.heap.size W w'
def Enters (g : Nat) : Prop := ∀ args w, (callFunc g args).run Tryz.prog w = .ok (.enter g args) w
def ItemsL (w : World) (ao : Option Addr) (len : Nat) (I : Nat → ItemV) : Prop := ∀ j, j < len → ItemAt w ao j (I j)
set_option maxHeartbeats 2000000 in
theorem idxFunc_any (ao : Option Addr) (len cap : Nat) (I : Nat → ItemV) (g : Nat) (lb : Array Value) (p : ItemV → Bool) (hlen : len ≤ 3518437208780) (w : World) (eg : Enters g) (hp : Pays g lb p w) (H : ItemsL w ao len I) :
    Calls Tryz.prog 99 #[.slice ao len cap, .func (.func g) #[] lb] w fun e w' => e = .returned (.int .i64 (firstZ (fun j => p (I j)) len)) ∧ Below w.heap.size w w' := by
  have HH := Lib.hid H
  have HP := Lib.hid hp
  clear H hp
  unfold Enters at eg
  go_enter Tryz.func99, Tryz.ntmps99
  go_wp2
  go_loopw [8] (fun i wr => ∃ j : Nat, j ≤ len ∧ i = .int .i64 j ∧ Hid (∀ m, m < j → p (I m) = false) ∧ Hid (Below w.heap.size w wr)) (fun i _ => len - (intOf i).toNat)
  case atStart => exact ⟨0, by omega, rfl, Lib.hid fun m hm => by omega, Lib.hid (Below.refl _ _)⟩
  case round =>
    obtain ⟨j, hj, rfl, H, HB⟩ := hrel
    by_cases hlt : j < len
    · have hat := (HH.out j hlt).held (w1 := wr) HB.out
      obtain ⟨b', off', rfl, d0, d1, d2, d3, d4, wi⟩ := hat
      have hcall := HP.out wr (I j) HB.out
      unfold itmV at hcall
      cases hq : p (I j) with
      | false =>
        rw [hq] at hcall
        have HC := Lib.hid hcall
        have HN := Lib.hid (none_next (p := fun m => p (I m)) H.out hq)
        clear hcall
        go_wp2_with (go_at_fn g; refine (HC.out).mono ?_; rintro e w2 ⟨rfl, hb2⟩; have HB2 := Lib.hid (HB.out.trans (hb2.mono HB.out.size)); clear hb2)
        go_roundw
        case measure => simp [intOf]; omega
        case rel => exact ⟨j + 1, by omega, by go_num, HN, HB2⟩
      | true =>
        rw [hq] at hcall
        have HC := Lib.hid hcall
        have HN := Lib.hid (firstZ_at (p := fun m => p (I m)) H.out hlt hq)
        clear hcall
        go_wp2_with (go_at_fn g; refine (HC.out).mono ?_; rintro e w2 ⟨rfl, hb2⟩; have HB2 := Lib.hid (HB.out.trans (hb2.mono HB.out.size)); clear hb2)
        go_ret
        exact ⟨ret_i HN.out.symm, HB2.out⟩
    · have HN := Lib.hid (firstZ_none (p := fun m => p (I m)) (n := len) (fun m hm => H.out m (by omega)))
      go_wp2
      go_ret
      exact ⟨ret_i HN.out.symm, HB.out⟩
/-- a place that was looked for, as two results -/
def posZ (z : Int) : Int := if z < 0 then 0 else z
def okZ (z : Int) : Bool := decide (0 ≤ z)
def foundV (z : Int) : Value := .tuple #[.int .i64 (posZ z), .bool (okZ z)]
theorem firstZ_bd (p : Nat → Bool) (n : Nat) : -1 ≤ firstZ p n ∧ firstZ p n ≤ n := by
  rcases firstZ_cases p n with ⟨k, hk, e, _⟩ | ⟨e, _⟩ <;> rw [e] <;> omega
theorem find6_any (ao : Option Addr) (len cap : Nat) (I : Nat → ItemV) (g : Nat) (lb : Array Value) (p : ItemV → Bool) (hlen : len ≤ 3518437208780) (w : World) (eg : Enters g) (hp : Pays g lb p w) (H : ItemsL w ao len I) :
    Calls Tryz.prog 73 #[.slice ao len cap, .func (.func g) #[] lb] w fun e w' => e = .returned (foundV (firstZ (fun j => p (I j)) len)) ∧ Below w.heap.size w w' := by
  have HC := Lib.hid (idxFunc_any ao len cap I g lb p hlen w eg hp H)
  obtain ⟨h1, h2⟩ := firstZ_bd (fun j => p (I j)) len
  obtain ⟨z, hz⟩ : ∃ z, firstZ (fun j => p (I j)) len = z := ⟨_, rfl⟩
  rw [hz] at h1 h2
  have hh := HC.out
  rw [hz] at hh
  have HD := Lib.hid hh
  rw [hz]
  clear hh hz HC eg hp H
  by_cases hlt : z < 0
  · have e : foundV z = .tuple #[.int .i64 0, .bool false] := by unfold foundV posZ okZ; rw [if_pos hlt, decide_eq_false (by omega)]
    rw [e]
    clear e
    go_enter Tryz.func73, Tryz.ntmps73
    go_wp2_with (go_at_call 99; refine (HD.out).mono ?_; rintro e w2 ⟨rfl, hb2⟩; have HB2 := Lib.hid hb2; clear hb2)
    go_ret2
    exact ⟨rfl, HB2.out⟩
  · have e : foundV z = .tuple #[.int .i64 z, .bool true] := by unfold foundV posZ okZ; rw [if_neg hlt, decide_eq_true (by omega)]
    rw [e]
    clear e
    go_enter Tryz.func73, Tryz.ntmps73
    go_wp2_with (go_at_call 99; refine (HD.out).mono ?_; rintro e w2 ⟨rfl, hb2⟩; have HB2 := Lib.hid hb2; clear hb2)
    go_ret2
    exact ⟨rfl, HB2.out⟩
end Go.Proofs.YtohphejhlgnciaaGreat
namespace Go.Proofs.YtohphejhlgnciaaGreat
open Go.RowKit
set_option linter.unusedVariables false
theorem eItem : Enters 117 := enters_of Tryz.func117 (by kernel_rfl) rfl
theorem eValue : Enters 74 := enters_of Tryz.func74 (by kernel_rfl) rfl
theorem eBranch : Enters 93 := enters_of Tryz.func93 (by kernel_rfl) rfl
theorem eRest : Enters 94 := enters_of Tryz.func94 (by kernel_rfl) rfl
theorem item_pays {b : Nat} {s : ByteArray} {w : World} (hc : w.cell? ⟨b, 0, none⟩ = some (.string s)) : Pays 117 #[.pointer (some ⟨b, 0, none⟩)] (fun x => x.name.toList == s.toList) w :=
  fun W x hb => itemF_any x b s W (keep6 hb hc)
theorem value_pays {b : Nat} {n : Int} {w : World} (hc : w.cell? ⟨b, 0, none⟩ = some (.int .u64 n)) : Pays 74 #[.pointer (some ⟨b, 0, none⟩)] (fun x => x.num == n) w :=
  fun W x hb => valueF_any x b n W (keep6 hb hc)
theorem branch_pays {b : Nat} {n : Int} {w : World} (hc : w.cell? ⟨b, 0, none⟩ = some (.int .u64 n)) : Pays 93 #[.pointer (some ⟨b, 0, none⟩)] (fun x => x.num == n && !x.rest) w :=
  fun W x hb => branchF_any x b n W (keep6 hb hc)
theorem rest_pays (w : World) : Pays 94 #[] (fun x => x.rest) w := fun W x hb => restF_any x W
theorem hold {w : World} {ao : Option Addr} {len : Nat} {L : Nat → TypeV} (H : ∀ i, i < len → TypeAt w ao i (L i)) {wx : World} (hb : Below w.heap.size w wx) : ∀ i, i < len → TypeAt wx ao i (L i) := fun i hi => (H i hi).held hb
theorem kindL_at {L : Nat → TypeV} {len k : Nat} (hk : k < len) : kindL L len (k : Nat) = (L k).kind := by unfold kindL; rw [inL_yes hk]; rfl
theorem kindL_no {L : Nat → TypeV} {len : Nat} {t : Int} (h : ¬ (0 ≤ t ∧ t < len)) : kindL L len t = 0 := by unfold kindL; rw [inL_no h]; rfl
set_option maxHeartbeats 1000000 in
theorem item6_any (ao : Option Addr) (len cap : Nat) (L : Nat → TypeV) (t : Int) (s : ByteArray) (hlen : len ≤ 140737488351232) (w : World) (H : ∀ i, i < len → TypeAt w ao i (L i)) :
    Calls Tryz.prog 109 #[.slice ao len cap, .int .i64 t, .string s] w fun e w' => e = .returned (foundV (itemL L len t s)) ∧ Below w.heap.size w w' := by
  have hmf' := hmf
  have hk0 := fun wx (hb : Below w.heap.size w wx) => kindOf_any ao len cap L hlen t wx (hold H hb)
  by_cases ht : 0 ≤ t ∧ t < len
  · obtain ⟨h0, h1⟩ := ht
    obtain ⟨k, rfl⟩ := Int.eq_ofNat_of_zero_le h0
    have hk : k < len := by omega
    have e0 : itemL L len (k : Nat) s = itemZ (L k) s := by unfold itemL; rw [inL_yes hk]; rfl
    rw [e0]
    rw [kindL_at hk] at hk0
    have HK := Lib.hid hk0
    obtain ⟨b, off, rfl, c0, c1, c2, c3, c4, c5, wf, hi⟩ := H k hk
    have hbl : b < w.heap.size := World.block_lt_of_cell? w _ c0
    have hne : ¬ b = w.heap.size := by omega
    have hn1 : ¬ (len : Int) ≤ k := by omega
    have hn2 : k < len := hk
    clear hk0 H e0
    cases hn : namedK (L k).kind with
    | false =>
      have e1 : itemZ (L k) s = -1 := by unfold itemZ; rw [hn]; rfl
      rw [e1]
      go_enter Tryz.func109, Tryz.ntmps109
      go_wp2_with (first
        | (go_at_call 72; refine (HK.out _ ((Below.refl _ _).alloc (Nat.le_refl _) _)).mono ?_; rintro e w' ⟨rfl, rfl⟩)
        | (go_at_call 82; refine (hasItems_any _ _).mono ?_; rintro e w' ⟨rfl, rfl⟩))
      go_ret2
      exact ⟨rfl, (Below.refl _ _).alloc (Nat.le_refl _) _⟩
    | true =>
      have e1 : itemZ (L k) s = firstZ (fun j => ((L k).items j).name.toList == s.toList) (L k).ilen := by unfold itemZ; rw [hn]; rfl
      rw [e1]
      have hf := fun wx (hb : Below w.heap.size w wx) (hc : wx.cell? ⟨w.heap.size, 0, none⟩ = some (.string s)) =>
        find6_any (L k).ia (L k).ilen (L k).icap (L k).items 117 #[.pointer (some ⟨w.heap.size, 0, none⟩)] (fun x => x.name.toList == s.toList) hi.1 wx eItem (item_pays hc) (hi.held hb).2
      unfold foundV at hf
      have HF := Lib.hid hf
      clear hf e1 hi
      obtain ⟨z, hz⟩ : ∃ z, firstZ (fun j => ((L k).items j).name.toList == s.toList) (L k).ilen = z := ⟨_, rfl⟩
      rw [hz]
      rw [hz] at HF
      clear hz
      go_enter Tryz.func109, Tryz.ntmps109
      go_wp2_with (first
        | (go_at_call 72; refine (HK.out _ ((Below.refl _ _).alloc (Nat.le_refl _) _)).mono ?_; rintro e w' ⟨rfl, rfl⟩)
        | (go_at_call 82; refine (hasItems_any _ _).mono ?_; rintro e w' ⟨rfl, rfl⟩)
        | (go_at_call 73; refine (HF.out _ ((Below.refl _ _).alloc (Nat.le_refl _) _) (cell_at (alloc_at _ _) rfl)).mono ?_; rintro e w2 ⟨rfl, hb2⟩; have HB2 := Lib.hid (((Below.refl _ _).alloc (Nat.le_refl _) _).trans (hb2.mono (by simp))); clear hb2))
      go_ret2
      exact ⟨rfl, HB2.out⟩
  · have e0 : itemL L len t s = -1 := by unfold itemL; rw [inL_no ht]; rfl
    rw [e0]
    rw [kindL_no ht] at hk0
    have HK := Lib.hid hk0
    clear hk0 H e0 ht
    go_enter Tryz.func109, Tryz.ntmps109
    go_wp2_with (first
      | (go_at_call 72; refine (HK.out _ ((Below.refl _ _).alloc (Nat.le_refl _) _)).mono ?_; rintro e w' ⟨rfl, rfl⟩)
      | (go_at_call 82; refine (hasItems_any 0 _).mono ?_; rintro e w' ⟨rfl, rfl⟩))
    go_ret2
    exact ⟨rfl, (Below.refl _ _).alloc (Nat.le_refl _) _⟩
set_option maxHeartbeats 1000000 in
theorem value6_any (ao : Option Addr) (len cap : Nat) (L : Nat → TypeV) (t n : Int) (hlen : len ≤ 140737488351232) (w : World) (H : ∀ i, i < len → TypeAt w ao i (L i)) :
    Calls Tryz.prog 48 #[.slice ao len cap, .int .i64 t, .int .u64 n] w fun e w' => e = .returned (foundV (valueL L len t n)) ∧ Below w.heap.size w w' := by
  have hmf' := hmf
  have hk0 := fun wx (hb : Below w.heap.size w wx) => kindOf_any ao len cap L hlen t wx (hold H hb)
  by_cases ht : 0 ≤ t ∧ t < len
  · obtain ⟨h0, h1⟩ := ht
    obtain ⟨k, rfl⟩ := Int.eq_ofNat_of_zero_le h0
    have hk : k < len := by omega
    have e0 : valueL L len (k : Nat) n = valueZ (L k) n := by unfold valueL; rw [inL_yes hk]; rfl
    rw [e0]
    rw [kindL_at hk] at hk0
    have HK := Lib.hid hk0
    obtain ⟨b, off, rfl, c0, c1, c2, c3, c4, c5, wf, hi⟩ := H k hk
    have hbl : b < w.heap.size := World.block_lt_of_cell? w _ c0
    have hne : ¬ b = w.heap.size := by omega
    have hn1 : ¬ (len : Int) ≤ k := by omega
    have hn2 : k < len := hk
    clear hk0 H e0
    cases hn : ((L k).kind == 9) with
    | false =>
      have hn3 : ((L k).kind != 9) = true := by simpa using hn
      have e1 : valueZ (L k) n = -1 := by unfold valueZ; simp_all
      rw [e1]
      clear hn
      go_enter Tryz.func48, Tryz.ntmps48
      go_wp2_with (go_at_call 72; refine (HK.out _ ((Below.refl _ _).alloc (Nat.le_refl _) _)).mono ?_; rintro e w' ⟨rfl, rfl⟩)
      go_ret2
      exact ⟨rfl, (Below.refl _ _).alloc (Nat.le_refl _) _⟩
    | true =>
      have hn3 : ((L k).kind != 9) = false := by simpa using hn
      have e1 : valueZ (L k) n = firstZ (fun j => ((L k).items j).num == n) (L k).ilen := by unfold valueZ; simp_all
      rw [e1]
      have hf := fun wx (hb : Below w.heap.size w wx) (hc : wx.cell? ⟨w.heap.size, 0, none⟩ = some (.int .u64 n)) =>
        find6_any (L k).ia (L k).ilen (L k).icap (L k).items 74 #[.pointer (some ⟨w.heap.size, 0, none⟩)] (fun x => x.num == n) hi.1 wx eValue (value_pays hc) (hi.held hb).2
      unfold foundV at hf
      have HF := Lib.hid hf
      clear hf e1 hi hn
      obtain ⟨z, hz⟩ : ∃ z, firstZ (fun j => ((L k).items j).num == n) (L k).ilen = z := ⟨_, rfl⟩
      rw [hz]
      rw [hz] at HF
      clear hz
      go_enter Tryz.func48, Tryz.ntmps48
      go_wp2_with (first
        | (go_at_call 72; refine (HK.out _ ((Below.refl _ _).alloc (Nat.le_refl _) _)).mono ?_; rintro e w' ⟨rfl, rfl⟩)
        | (go_at_call 73; refine (HF.out _ ((Below.refl _ _).alloc (Nat.le_refl _) _) (cell_at (alloc_at _ _) rfl)).mono ?_; rintro e w2 ⟨rfl, hb2⟩; have HB2 := Lib.hid (((Below.refl _ _).alloc (Nat.le_refl _) _).trans (hb2.mono (by simp))); clear hb2))
      go_ret2
      exact ⟨rfl, HB2.out⟩
  · have e0 : valueL L len t n = -1 := by unfold valueL; rw [inL_no ht]; rfl
    rw [e0]
    rw [kindL_no ht] at hk0
    have HK := Lib.hid hk0
    clear hk0 H e0 ht
    go_enter Tryz.func48, Tryz.ntmps48
    go_wp2_with (go_at_call 72; refine (HK.out _ ((Below.refl _ _).alloc (Nat.le_refl _) _)).mono ?_; rintro e w' ⟨rfl, rfl⟩)
    go_ret2
    exact ⟨rfl, (Below.refl _ _).alloc (Nat.le_refl _) _⟩
theorem branch_first (T : TypeV) (n : Int) : (fun j => (T.items j).num == n && !(T.items j).rest) = tagB T n := by
  funext j; unfold tagB; rw [Bool.and_comm]
theorem branchZ_hit {T : TypeV} {n : Int} (h : T.kind = 14) (hz : okZ (firstZ (tagB T n) T.ilen) = true) : branchZ T n = firstZ (tagB T n) T.ilen ∧ posZ (branchZ T n) = posZ (firstZ (tagB T n) T.ilen) ∧ okZ (branchZ T n) = true := by
  have e : branchZ T n = firstZ (tagB T n) T.ilen := by
    unfold branchZ firstZ
    rw [if_pos h]
    unfold okZ firstZ at hz
    split at hz
    · rename_i c; rw [if_pos c, if_pos c]
    · simp at hz
  exact ⟨e, by rw [e], by rw [e]; exact hz⟩
theorem branchZ_miss {T : TypeV} {n : Int} (h : T.kind = 14) (hz : okZ (firstZ (tagB T n) T.ilen) = false) : branchZ T n = firstZ (fun j => (T.items j).rest) T.ilen := by
  unfold branchZ
  rw [if_pos h]
  unfold okZ firstZ at hz
  split at hz
  · simp at hz
  · rename_i c; rw [if_neg c]
set_option maxHeartbeats 1000000 in
theorem branch6_any (ao : Option Addr) (len cap : Nat) (L : Nat → TypeV) (t n : Int) (hlen : len ≤ 140737488351232) (w : World) (H : ∀ i, i < len → TypeAt w ao i (L i)) :
    Calls Tryz.prog 70 #[.slice ao len cap, .int .i64 t, .int .u64 n] w fun e w' => e = .returned (foundV (branchL L len t n)) ∧ Below w.heap.size w w' := by
  have hmf' := hmf
  have hk0 := fun wx (hb : Below w.heap.size w wx) => kindOf_any ao len cap L hlen t wx (hold H hb)
  by_cases ht : 0 ≤ t ∧ t < len
  · obtain ⟨h0, h1⟩ := ht
    obtain ⟨k, rfl⟩ := Int.eq_ofNat_of_zero_le h0
    have hk : k < len := by omega
    have e0 : branchL L len (k : Nat) n = branchZ (L k) n := by unfold branchL; rw [inL_yes hk]; rfl
    rw [e0]
    rw [kindL_at hk] at hk0
    have HK := Lib.hid hk0
    obtain ⟨b, off, rfl, c0, c1, c2, c3, c4, c5, wf, hi⟩ := H k hk
    have hbl : b < w.heap.size := World.block_lt_of_cell? w _ c0
    have hne : ¬ b = w.heap.size := by omega
    have hn1 : ¬ (len : Int) ≤ k := by omega
    have hn2 : k < len := hk
    clear hk0 H e0
    cases hn : ((L k).kind == 14) with
    | false =>
      have hn3 : ((L k).kind != 14) = true := by simpa using hn
      have e1 : branchZ (L k) n = -1 := by unfold branchZ; simp_all
      rw [e1]
      clear hn
      go_enter Tryz.func70, Tryz.ntmps70
      go_wp2_with (go_at_call 72; refine (HK.out _ ((Below.refl _ _).alloc (Nat.le_refl _) _)).mono ?_; rintro e w' ⟨rfl, rfl⟩)
      go_ret2
      exact ⟨rfl, (Below.refl _ _).alloc (Nat.le_refl _) _⟩
    | true =>
      have hn3 : ((L k).kind != 14) = false := by simpa using hn
      have hkd : (L k).kind = 14 := by simpa using hn
      have hf := fun wx (hb : Below w.heap.size w wx) (hc : wx.cell? ⟨w.heap.size, 0, none⟩ = some (.int .u64 n)) =>
        find6_any (L k).ia (L k).ilen (L k).icap (L k).items 93 #[.pointer (some ⟨w.heap.size, 0, none⟩)] (fun x => x.num == n && !x.rest) hi.1 wx eBranch (branch_pays hc) (hi.held hb).2
      have hg := fun wx (hb : Below w.heap.size w wx) =>
        find6_any (L k).ia (L k).ilen (L k).icap (L k).items 94 #[] (fun x => x.rest) hi.1 wx eRest (rest_pays wx) (hi.held hb).2
      rw [branch_first] at hf
      unfold foundV at hf hg ⊢
      obtain ⟨o, ho⟩ : ∃ o, okZ (firstZ (tagB (L k) n) (L k).ilen) = o := ⟨_, rfl⟩
      rw [ho] at hf
      have HF := Lib.hid hf
      have HG := Lib.hid hg
      have hcell := fun (w1 : World) (o : Obj) (hb : Below (w.alloc o).heap.size (w.alloc o) w1) => keep6 (w := w.alloc o) (w1 := w1) (a := ⟨b, off + k * 6 + 5, none⟩) hb (keep6 ((Below.refl _ _).alloc (Nat.le_refl _) _) c5)
      have HCL := Lib.hid hcell
      clear hf hg hi hn hcell
      cases o with
      | true =>
        obtain ⟨_, e2, e3⟩ := branchZ_hit hkd ho
        rw [e2, e3]
        clear hkd ho e2 e3
        go_enter Tryz.func70, Tryz.ntmps70
        go_wp2_with (first
          | (go_at_call 72; refine (HK.out _ ((Below.refl _ _).alloc (Nat.le_refl _) _)).mono ?_; rintro e w' ⟨rfl, rfl⟩)
          | (go_at_call 73; refine (HF.out _ ((Below.refl _ _).alloc (Nat.le_refl _) _) (cell_at (alloc_at _ _) rfl)).mono ?_; rintro e w2 ⟨rfl, hb2⟩; have HB2 := Lib.hid (((Below.refl _ _).alloc (Nat.le_refl _) _).trans (hb2.mono (by simp))); clear hb2))
        go_ret2
        exact ⟨rfl, HB2.out⟩
      | false =>
        rw [branchZ_miss hkd ho]
        clear hkd ho
        go_enter Tryz.func70, Tryz.ntmps70
        go_wp2_with (first
          | (go_at_call 72; refine (HK.out _ ((Below.refl _ _).alloc (Nat.le_refl _) _)).mono ?_; rintro e w' ⟨rfl, rfl⟩)
          | (go_at_call 73; (with_reducible refine (HF.out _ ((Below.refl _ _).alloc (Nat.le_refl _) _) (cell_at (alloc_at _ _) rfl)).mono ?_); rintro e w2 ⟨rfl, hb2⟩; have HB2 := Lib.hid (((Below.refl _ _).alloc (Nat.le_refl _) _).trans (hb2.mono (by simp))); have c5' := HCL.out _ _ hb2; clear hb2)
          | (go_at_call 73; refine (HG.out _ HB2.out).mono ?_; rintro e w3 ⟨rfl, hb3⟩; have HB3 := Lib.hid (HB2.out.trans (hb3.mono HB2.out.size)); clear hb3))
        go_ret2
        exact ⟨rfl, HB3.out⟩
  · have e0 : branchL L len t n = -1 := by unfold branchL; rw [inL_no ht]; rfl
    rw [e0]
    rw [kindL_no ht] at hk0
    have HK := Lib.hid hk0
    clear hk0 H e0 ht
    go_enter Tryz.func70, Tryz.ntmps70
    go_wp2_with (go_at_call 72; refine (HK.out _ ((Below.refl _ _).alloc (Nat.le_refl _) _)).mono ?_; rintro e w' ⟨rfl, rfl⟩)
    go_ret2
    exact ⟨rfl, (Below.refl _ _).alloc (Nat.le_refl _) _⟩
end Go.Proofs.YtohphejhlgnciaaGreat
