/- Contracts of package fits: its small functions. -/
import Derived.Test.YtohphejhlgnciaaGreatFitsMath
import Derived.Shelf.Abstract
import Derived.Deep.RegionHeld3
import Derived.BigGuardPart
import Derived.Laws.Externs
namespace Go.Proofs.YtohphejhlgnciaaGreat
open Go.RowKit
set_option linter.unusedVariables false
theorem fault_zero9 (E A : Int) (w : World) : (binOp .eql 46 (.agg #[.int .i64 E, .int .i64 A]) (.agg #[.int .i64 0, .int .i64 0])).run Tryz.prog w = .ok (.bool ((E == 0) && (A == 0))) w := fault_eql E A 0 0 w
theorem has9_any (ao : Option Addr) (len cap : Nat) (L : Nat → TypeV) (t : Int) (hlen : len ≤ 1000000) (hcap : len ≤ cap) (w : World) (H : ∀ i, i < len → TypeAt w ao i (L i)) :
    Calls Tryz.prog 15 #[.slice ao len cap, .int .i64 t] w fun e w' => e = .returned (.bool (hasT L len t)) ∧ Below w.heap.size w w' := by
  by_cases ht : 0 ≤ t ∧ t < len
  · obtain ⟨h0, h1⟩ := ht
    have hT : hasT L len t = ((fErr (oneR L len) len == 0) && (fAt (oneR L len) len == 0)) := by unfold hasT inL; rw [decide_eq_true h0, decide_eq_true h1]; rfl
    rw [hT]
    have hc := check6_any ao len cap L hlen hcap w H
    rw [fault_same] at hc
    unfold faultV at hc
    obtain ⟨E, hE⟩ : ∃ E, fErr (oneR L len) len = E := ⟨_, rfl⟩
    obtain ⟨A, hA⟩ : ∃ A, fAt (oneR L len) len = A := ⟨_, rfl⟩
    rw [hE, hA] at hc ⊢
    have hfe := fun w => fault_zero9 E A w
    obtain ⟨q, hq⟩ : ∃ q, ((E == 0) && (A == 0)) = q := ⟨_, rfl⟩
    rw [hq] at hfe ⊢
    have HC := Lib.hid hc
    clear hc hE hA hT hq H
    go_enter Tryz.func15, Tryz.ntmps15
    go_wp2_with (go_at_call 23; refine HC.out.mono ?_; rintro e w1 ⟨rfl, hb1⟩; have HB1 := Lib.hid hb1; clear hb1)
    go_ret
    exact ⟨rfl, HB1.out⟩
  · have hT : hasT L len t = false := by unfold hasT; rw [inL_no ht]; rfl
    rw [hT]
    clear hT H
    by_cases h0 : 0 ≤ t
    · have h1 : ¬ t < len := fun h => ht ⟨h0, h⟩
      clear ht
      go_enter Tryz.func15, Tryz.ntmps15
      go_wp2
      go_ret
      exact ⟨rfl, Below.refl _ _⟩
    · clear ht
      go_enter Tryz.func15, Tryz.ntmps15
      go_wp2
      go_ret
      exact ⟨rfl, Below.refl _ _⟩
set_option maxRecDepth 100000 in
theorem lite_IndexByte (s : ByteArray) (w : World) : Calls Tryz.prog 69 #[.string s, .int .u8 0] w fun e w' => e = .returned (.int .i64 (Lib.indexByte s.data.toList 0)) ∧ w = w' := by
  go_enter Tryz.func69, Tryz.ntmps69
  go_wp2
  rw [run_callFunc_extern Tryz.func92 (by kernel_rfl) (by kernel_rfl) (by kernel_rfl) (e := Extern.BytealgIndexByte.indexByte) (by kernel_rfl), Lib.run_indexByteString]
  simp only [Result.andThen]
  rw [Oper.upon_value]
  go_wp2
  go_ret
  exact ⟨rfl, rfl⟩
set_option maxRecDepth 100000 in
theorem str_IndexByte (s : ByteArray) (w : World) : Calls Tryz.prog 42 #[.string s, .int .u8 0] w fun e w' => e = .returned (.int .i64 (Lib.indexByte s.data.toList 0)) ∧ w = w' := by
  go_enter Tryz.func42, Tryz.ntmps42
  go_wp2_with (go_at_call 69; refine (lite_IndexByte s _).mono ?_; rintro e w' ⟨rfl, rfl⟩)
  go_ret
  exact ⟨rfl, rfl⟩
theorem text9_any (s : ByteArray) (bound : Int) (hs : s.size ≤ 140737488351232) (w : World) : Calls Tryz.prog 25 #[.string s, .int .i64 bound] w fun e w' => e = .returned (.int .i64 (textE s bound)) ∧ w = w' := by
  have hm : s.size ≤ maxLen := by unfold maxLen; omega
  by_cases h1 : bound < s.size
  · have e : textE s bound = 3 := by unfold textE; rw [if_pos h1]
    rw [e]
    go_enter Tryz.func25, Tryz.ntmps25
    go_wp2
    go_ret
    exact ⟨rfl, rfl⟩
  · have HI := Lib.hid (fun w => str_IndexByte s w)
    obtain ⟨z, hz⟩ : ∃ z, Lib.indexByte s.data.toList 0 = z := ⟨_, rfl⟩
    have e : textE s bound = if 0 ≤ z then 10 else 0 := by unfold textE zeroIn; rw [if_neg h1, hz]; simp
    rw [e]
    rw [hz] at HI
    clear e hz
    by_cases h2 : 0 ≤ z
    · rw [if_pos h2]
      go_enter Tryz.func25, Tryz.ntmps25
      go_wp2_with (go_at_call 42; refine (HI.out _).mono ?_; rintro e w' ⟨rfl, rfl⟩)
      go_ret
      exact ⟨rfl, rfl⟩
    · rw [if_neg h2]
      go_enter Tryz.func25, Tryz.ntmps25
      go_wp2_with (go_at_call 42; refine (HI.out _).mono ?_; rintro e w' ⟨rfl, rfl⟩)
      go_ret
      exact ⟨rfl, rfl⟩
set_option maxHeartbeats 1000000 in
theorem form9_any (T : VT) (hl : T.len ≤ 2513169434843) (w : World) : Calls Tryz.prog 24 #[.agg #[.int .i64 T.kind, .int .u64 T.num, .string T.text, .slice T.ia T.len T.cap]] w fun e w' => e = .returned (.bool (formT T)) ∧ Below w.heap.size w w' := by
  obtain ⟨k, hk⟩ : ∃ k, T.kind = k := ⟨_, rfl⟩
  obtain ⟨r, hr⟩ : ∃ r, formT T = r := ⟨_, rfl⟩
  have HN := Lib.hid (number_any k)
  have HB := Lib.hid ((Below.refl w.heap.size w).alloc (Nat.le_refl _) (.cells #[.int .i64 k, .int .u64 T.num, .string T.text, .slice T.ia T.len T.cap] 26))
  have HQ := Lib.hid (alloc_at w (.cells #[.int .i64 k, .int .u64 T.num, .string T.text, .slice T.ia T.len T.cap] 26))
  have HR := Lib.hid hr
  rw [hr, hk]
  unfold formT at HR
  rw [hk] at HR
  obtain ⟨c, hc⟩ : ∃ c, numK k = c := ⟨_, rfl⟩
  rw [hc] at HR HN
  clear hk hr hc
  go_enter Tryz.func24, Tryz.ntmps24
  cases c
  all_goals
    go_wp2_with (go_at_call 41; refine (HN.out _).mono ?_; rintro e w1 ⟨rfl, hb1⟩; have HB := Lib.hid (below_step8' HB.out hb1); have HQ := Lib.hid (box_keep HQ.out hb1); clear hb1; have d0 : w1.cell? ⟨w.heap.size, 0, none⟩ = some (.int .i64 k) := cell_at HQ.out rfl; have d1 : w1.cell? ⟨w.heap.size, 1, none⟩ = some (.int .u64 T.num) := cell_at HQ.out rfl; have d2 : w1.cell? ⟨w.heap.size, 2, none⟩ = some (.string T.text) := cell_at HQ.out rfl; have d3 : w1.cell? ⟨w.heap.size, 3, none⟩ = some (.slice T.ia T.len T.cap) := cell_at HQ.out rfl)
    all_goals
      go_ret
      refine ⟨ret_bool ?_, HB.out⟩
      rw [← HR.out]
      simp [*]
theorem branchZ_lt {T : TypeV} {n : Int} (hz : 0 ≤ branchZ T n) : branchZ T n < T.ilen := by
  have hlt : ∀ p, 0 ≤ firstZ p T.ilen → firstZ p T.ilen < T.ilen := fun p hp => by
    rcases firstZ_cases p T.ilen with ⟨k, hk, e, _, _⟩ | ⟨e, _⟩ <;> omega
  unfold branchZ at hz ⊢
  split at hz
  · rename_i h14
    rw [if_pos h14]
    split
    · rename_i hc; omega
    · rename_i hc; rw [if_neg hc] at hz; exact hlt _ hz
  · exact absurd hz (by decide)
set_option maxHeartbeats 1000000 in
theorem num9_any (ao : Option Addr) (len cap : Nat) (L : Nat → TypeV) (hlen : len ≤ 1000000) (t : Nat) (ht : t < len) (n : Int) (hn : (Lit.int .u64 n).wf = true) (w : World) (H : ∀ i, i < len → TypeAt w ao i (L i)) :
    Calls Tryz.prog 31 #[.slice ao len cap, .int .i64 t, .int .u64 n] w fun e w' => e = .returned (.int .i64 (numE9 L t n)) ∧ Below w.heap.size w w' := by
  have hv := fun wx (hb : Below w.heap.size w wx) => value6_any ao len cap L t n (by omega) wx (hold H hb)
  have e1 : valueL L len (t : Nat) n = valueZ (L t) n := by unfold valueL; rw [inL_yes ht]; rfl
  rw [e1] at hv
  obtain ⟨z, hz⟩ : ∃ z, valueZ (L t) n = z := ⟨_, rfl⟩
  rw [hz] at hv
  unfold foundV at hv
  have HV := Lib.hid hv
  have hm := may_any (L t).kind n hn
  obtain ⟨m, hmk⟩ : ∃ m, mayK (L t).kind n = m := ⟨_, rfl⟩
  rw [hmk] at hm
  have HM := Lib.hid hm
  obtain ⟨b, off, rfl, c0, c1, c2, c3, c4, c5, wf, hi⟩ := H t ht
  obtain ⟨k, hk⟩ : ∃ k, (L t).kind = k := ⟨_, rfl⟩
  obtain ⟨r, hr⟩ : ∃ r, numE9 L t n = r := ⟨_, rfl⟩
  rw [hr]
  unfold numE9 numOk at hr
  rw [hk, hz, ← hk, hmk, hk] at hr
  rw [hk] at c0 HM
  have HR := Lib.hid hr
  clear hv hm e1 hz hmk hk hr H hi wf c1 c2 c3 c4 c5
  by_cases h9 : k = 9
  · have h9' : (k == 9) = true := by simpa using h9
    obtain ⟨o, ho⟩ : ∃ o, okZ z = o := ⟨_, rfl⟩
    have hr := HR.out
    rw [if_pos h9, ho] at hr
    rw [ho] at HV
    clear HR ho h9
    cases o
    all_goals
      have HR := Lib.hid hr
      clear hr
      go_enter Tryz.func31, Tryz.ntmps31
      go_wp2_with (first
        | (go_at_call 47; refine (HM.out _).mono ?_; rintro e w1 ⟨rfl, hb1⟩; have HB1 := Lib.hid hb1; have c0 := keep hb1 (by exact c0); clear hb1)
        | (go_at_call 48; refine (HV.out _ HB1.out).mono ?_; rintro e w2 ⟨rfl, hb2⟩; have HB2 := Lib.hid (below_step8' HB1.out hb2); clear hb2))
      go_ret
      exact ⟨ret_i (by rw [← HR.out]; rfl), HB2.out⟩
  · have h9' : (k == 9) = false := by simpa using h9
    have hr := HR.out
    rw [if_neg h9] at hr
    clear HR h9
    cases m
    all_goals
      have HR := Lib.hid hr
      clear hr
      go_enter Tryz.func31, Tryz.ntmps31
      go_wp2_with (first
        | (go_at_call 47; refine (HM.out _).mono ?_; rintro e w1 ⟨rfl, hb1⟩; have HB1 := Lib.hid hb1; have c0 := keep hb1 (by exact c0); clear hb1))
      go_ret
      exact ⟨ret_i (by rw [← HR.out]; rfl), HB1.out⟩
theorem itemAt_shift {w : World} {ib io k : Nat} {x : ItemV} (h : ItemAt w (some ⟨ib, io, none⟩) k x) : ItemAt w (some ⟨ib, io + k * 5, none⟩) 0 x := by
  obtain ⟨b, off, e, h0, h1, h2, h3, h4, r⟩ := h
  cases e
  exact ⟨ib, io + k * 5, rfl, by simpa using h0, by simpa using h1, by simpa using h2, by simpa using h3, by simpa using h4, r⟩
set_option maxHeartbeats 1000000 in
/-- the one branch that a TUnion has for a number, or none -/
theorem branch9_any (ao : Option Addr) (len cap : Nat) (L : Nat → TypeV) (hlen : len ≤ 1000000) (t : Nat) (ht : t < len) (n : Int) (hcp : (L t).ilen ≤ (L t).icap) (w : World) (H : ∀ i, i < len → TypeAt w ao i (L i)) :
    Calls Tryz.prog 46 #[.slice ao len cap, .int .i64 t, .int .u64 n] w fun e w' =>
      ∃ a c, e = .returned (.slice a (brN (L t) n) c) ∧ (∀ i, i < brN (L t) n → ItemAt w' a i ((L t).items ((branchZ (L t) n).toNat + i))) ∧ Below w.heap.size w w' := by
  have hv := fun wx (hb : Below w.heap.size w wx) => branch6_any ao len cap L t n (by omega) wx (hold H hb)
  have e1 : branchL L len (t : Nat) n = branchZ (L t) n := by unfold branchL; rw [inL_yes ht]; rfl
  rw [e1] at hv
  have hlt := branchZ_lt (T := L t) (n := n)
  obtain ⟨b, off, rfl, c0, c1, c2, c3, c4, c5, wf, hi⟩ := H t ht
  have HI := Lib.hid hi
  obtain ⟨T, hT⟩ : ∃ T, L t = T := ⟨_, rfl⟩
  rw [hT] at hv hlt c5 HI hcp ⊢
  obtain ⟨z, hz⟩ : ∃ z, branchZ T n = z := ⟨_, rfl⟩
  have HN := Lib.hid (show brN T n = if okZ z then 1 else 0 by unfold brN; rw [hz])
  rw [hz] at hv hlt ⊢
  unfold foundV at hv
  have hil := hi.1
  clear hi H wf c0 c1 c2 c3 c4 e1 hT hz
  by_cases h0 : 0 ≤ z
  · have ho : okZ z = true := by unfold okZ; simpa using h0
    have hp : posZ z = z := by unfold posZ; rw [if_neg (by omega)]
    have e : brN T n = 1 := by rw [HN.out, ho]; rfl
    rw [e]
    rw [ho, hp] at hv
    obtain ⟨k, rfl⟩ := Int.eq_ofNat_of_zero_le h0
    have hk : k < T.ilen := by have := hlt h0; omega
    obtain ⟨ib, io, hia, i0, i1, i2, i3, i4, iw⟩ := HI.out.2 k hk
    have HX := Lib.hid (show ItemAt w T.ia k (T.items k) from HI.out.2 k hk)
    rw [hia] at c5
    have HA := Lib.hid hia
    have HV := Lib.hid hv
    have hk1 : k + 1 ≤ T.icap := by omega
    have hil : T.ilen ≤ 3518437208780 := HI.out.1
    clear hv ho hp e HN hlt h0 i0 i1 i2 i3 i4 hia
    go_enter Tryz.func46, Tryz.ntmps46
    go_wp2_with (go_at_call 70; refine (HV.out _ (Below.refl _ _)).mono ?_; rintro e w2 ⟨rfl, hb2⟩; have HB2 := Lib.hid hb2; have c5 := keep hb2 (by exact c5); clear hb2)
    go_ret
    refine ⟨some ⟨ib, io + k * 5, none⟩, T.icap - k, rfl, fun i hi => ?_, HB2.out⟩
    obtain rfl : i = 0 := by omega
    rw [Int.toNat_natCast, Nat.add_zero]
    have hx := HX.out.held HB2.out
    rw [HA.out] at hx
    exact itemAt_shift hx
  · have ho : okZ z = false := by unfold okZ; simpa using h0
    have e : brN T n = 0 := by rw [HN.out, ho]; rfl
    rw [e]
    rw [ho] at hv
    have HV := Lib.hid hv
    clear hv ho e HN hlt h0
    go_enter Tryz.func46, Tryz.ntmps46
    go_wp2_with (go_at_call 70; refine (HV.out _ (Below.refl _ _)).mono ?_; rintro e w2 ⟨rfl, hb2⟩; have HB2 := Lib.hid hb2; clear hb2)
    go_ret
    exact ⟨none, 0, rfl, fun i hi => absurd hi (Nat.not_lt_zero i), HB2.out⟩
end Go.Proofs.YtohphejhlgnciaaGreat
