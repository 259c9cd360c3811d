/- Where, among a value's Items, what is at a step stands. -/
import Derived.Test.YtcpjbimojliogaaGreatDoorPathCopy
import Derived.Test.YtcpjbimojliogaaGreatDoorPathText
namespace Go.Proofs.YtcpjbimojliogaaGreatDoor
open Go Go.RowKit
set_option linter.unusedVariables false

/-- a step's place -/
def plcO (L : Nat → TypeV) (len t : Nat) (s : StepV) (V : VT) : Option Nat :=
  if (L t).kind = 14 then (if branchL L len (t : Nat) V.num = s.n ∧ 0 < V.len then some 0 else none)
  else (if s.n < (V.len : Int) then some s.n.toNat else none)
def PlaceTo (o : Option Nat) (w : World) (e : Ending) (w' : World) : Prop :=
  ∃ i : Int, e = .returned (.tuple #[.int .i64 i, .bool o.isSome]) ∧ (∀ m : Nat, o = some m → i = m) ∧ Below w.heap.size w w'
theorem found_eq {z : Int} {j : Nat} : (okZ z && (posZ z == (j : Int))) = decide (z = (j : Int)) := by
  unfold okZ posZ
  by_cases h : z < 0
  · rw [decide_eq_false (show ¬ 0 ≤ z by omega), decide_eq_false (show ¬ z = (j : Int) by omega)]
    rfl
  · rw [if_neg h, decide_eq_true (show 0 ≤ z by omega), Bool.true_and]
    rfl
set_option maxRecDepth 100000 in
set_option maxHeartbeats 4000000 in
theorem place12_any (ao : Option Addr) (len cap : Nat) (L : Nat → TypeV) (hlen : len ≤ 1000000) (t : Nat) (ht : t < len) (be : Bool) (j : Nat) (T : VT) (w : World) (H : ∀ i, i < len → TypeAt w ao i (L i)) :
    Calls Tryz.prog 38 #[.slice ao len cap, .int .i64 (t : Nat), .agg #[.bool be, .int .i64 (j : Nat)], .agg #[.int .i64 T.kind, .int .u64 T.num, .string T.text, .slice T.ia T.len T.cap]] w (PlaceTo (plcO L len t ⟨be, (j : Nat)⟩ T) w) := by
  obtain ⟨tb, tf, rfl, x0, x1, x2, x3, x4, x5, wf, hit⟩ := H t ht
  have hbl : tb < w.heap.size := World.block_lt_of_cell? w _ x0
  have hne : ¬ tb = w.heap.size := by omega
  have hne1 : ¬ tb = w.heap.size + 1 := by omega
  have HBR := Lib.hid (fun wx (hb : Below w.heap.size w wx) => branch6_any (some ⟨tb, tf, none⟩) len cap L (t : Nat) T.num (by omega) wx (hold H hb))
  obtain ⟨z, hz⟩ : ∃ z, branchL L len (t : Nat) T.num = z := ⟨_, rfl⟩
  obtain ⟨K, hK⟩ : ∃ K, (L t).kind = K := ⟨_, rfl⟩
  have hpl : plcO L len t ⟨be, (j : Nat)⟩ T = if K = 14 then (if z = (j : Int) ∧ 0 < T.len then some 0 else none) else (if (j : Int) < (T.len : Int) then some j else none) := by
    unfold plcO
    rw [hK, hz]
    simp
  have hfe := found_eq (z := z) (j := j)
  rw [hz] at HBR
  unfold foundV at HBR
  rw [hK] at x0
  have HB0 := Lib.hid (((Below.refl w.heap.size w).alloc (Nat.le_refl _) (.cells #[.bool be, .int .i64 (j : Nat)] 56)).alloc (by simp) (.cells #[.int .i64 T.kind, .int .u64 T.num, .string T.text, .slice T.ia T.len T.cap] 38))
  have HS0 := Lib.hid (show ((w.alloc (.cells #[.bool be, .int .i64 (j : Nat)] 56)).alloc (.cells #[.int .i64 T.kind, .int .u64 T.num, .string T.text, .slice T.ia T.len T.cap] 38)).heap[w.heap.size]? = some (.cells #[.bool be, .int .i64 (j : Nat)] 56) from alloc_old (alloc_at w _))
  have HV0 := Lib.hid (show ((w.alloc (.cells #[.bool be, .int .i64 (j : Nat)] 56)).alloc (.cells #[.int .i64 T.kind, .int .u64 T.num, .string T.text, .slice T.ia T.len T.cap] 38)).heap[w.heap.size + 1]? = some (.cells #[.int .i64 T.kind, .int .u64 T.num, .string T.text, .slice T.ia T.len T.cap] 38) by have := alloc_at (w.alloc (.cells #[.bool be, .int .i64 (j : Nat)] 56)) (.cells #[.int .i64 T.kind, .int .u64 T.num, .string T.text, .slice T.ia T.len T.cap] 38); rwa [show (w.alloc (.cells #[.bool be, .int .i64 (j : Nat)] 56)).heap.size = w.heap.size + 1 by simp] at this)
  obtain ⟨o, ho⟩ : ∃ o, plcO L len t ⟨be, (j : Nat)⟩ T = o := ⟨_, rfl⟩
  rw [ho]
  rw [ho] at hpl
  clear ho hz hK H hit wf x1 x2 x3 x4 x5
  by_cases hk : K = 14
  · rw [if_pos hk] at hpl
    have kk : (K == 14) = true := by simpa using hk
    obtain ⟨qo, hqo⟩ : ∃ q, okZ z = q := ⟨_, rfl⟩
    obtain ⟨zp, hzp⟩ : ∃ p, posZ z = p := ⟨_, rfl⟩
    rw [hqo, hzp] at hfe HBR
    by_cases hzj : z = (j : Int)
    · rw [decide_eq_true hzj] at hfe
      simp only [Bool.and_eq_true, beq_iff_eq] at hfe
      obtain ⟨rfl, rfl⟩ := hfe
      clear hqo hzp
      have kne : ((j : Int) != (j : Int)) = false := by simp
      obtain ⟨ql, hql⟩ : ∃ q, decide ((0 : Int) < (T.len : Int)) = q := ⟨_, rfl⟩
      have HO := Lib.hid (show (o.isSome = ql) ∧ ∀ m : Nat, o = some m → (0 : Int) = m by
        rw [← hql]
        by_cases h : 0 < T.len
        · rw [if_pos ⟨hzj, h⟩] at hpl
          rw [hpl, decide_eq_true (by omega : (0 : Int) < (T.len : Int))]
          exact ⟨rfl, fun m hm => by injection hm with hm; rw [← hm]; rfl⟩
        · rw [if_neg (fun c => h c.2)] at hpl
          rw [hpl, decide_eq_false (by omega : ¬ (0 : Int) < (T.len : Int))]
          exact ⟨rfl, fun m hm => by cases hm⟩)
      have hqn : decide (0 < T.len) = ql := by rw [← hql]; simp
      clear hzj hk hpl hql
      go_enter Tryz.func38, Tryz.ntmps38
      go_wp2_with (go_at_call 59; refine (HBR.out _ HB0.out).mono ?_; rintro e w1 ⟨rfl, hb1⟩; have hs1 := box_keep HS0.out hb1; have hv1 := box_keep HV0.out hb1; have s1 : w1.cell? ⟨w.heap.size, 1, none⟩ = some (.int .i64 (j : Nat)) := cell_at (j := 1) hs1 rfl; have v3 : w1.cell? ⟨w.heap.size + 1, 3, none⟩ = some (.slice T.ia T.len T.cap) := cell_at (j := 3) hv1 rfl; have HB1 := Lib.hid (HB0.out.trans (hb1.mono (by simp; omega))); clear hs1 hv1 hb1)
      go_quiet (fail)
      go_wp2
      go_ret2
      exact ⟨0, by rw [HO.out.1]; rfl, HO.out.2, drewN_below HB1.out _⟩
    · rw [decide_eq_false hzj] at hfe
      have HO := Lib.hid (show o = none by rw [hpl, if_neg (fun h => hzj h.1)])
      cases qo with
      | false =>
        clear hqo hzp hzj hk hfe hpl
        go_enter Tryz.func38, Tryz.ntmps38
        go_wp2_with (go_at_call 59; refine (HBR.out _ HB0.out).mono ?_; rintro e w1 ⟨rfl, hb1⟩; have hs1 := box_keep HS0.out hb1; have s1 : w1.cell? ⟨w.heap.size, 1, none⟩ = some (.int .i64 (j : Nat)) := cell_at (j := 1) hs1 rfl; have HB1 := Lib.hid (HB0.out.trans (hb1.mono (by simp; omega))); clear hs1 hb1)
        go_ret2
        exact ⟨0, by rw [HO.out]; rfl, fun m h => (by rw [HO.out] at h; cases h), HB1.out⟩
      | true =>
        have kne : (zp != (j : Int)) = true := by simpa using hfe
        clear hqo hzp hzj hk hfe hpl
        go_enter Tryz.func38, Tryz.ntmps38
        go_wp2_with (go_at_call 59; refine (HBR.out _ HB0.out).mono ?_; rintro e w1 ⟨rfl, hb1⟩; have hs1 := box_keep HS0.out hb1; have s1 : w1.cell? ⟨w.heap.size, 1, none⟩ = some (.int .i64 (j : Nat)) := cell_at (j := 1) hs1 rfl; have HB1 := Lib.hid (HB0.out.trans (hb1.mono (by simp; omega))); clear hs1 hb1)
        go_ret2
        exact ⟨0, by rw [HO.out]; rfl, fun m h => (by rw [HO.out] at h; cases h), HB1.out⟩
  · rw [if_neg hk] at hpl
    have kk : (K == 14) = false := by simpa using hk
    obtain ⟨ql, hql⟩ : ∃ q, decide ((j : Int) < (T.len : Int)) = q := ⟨_, rfl⟩
    have HO := Lib.hid (show (o.isSome = ql) ∧ ∀ m : Nat, o = some m → (j : Int) = m by
      rw [← hql, hpl]
      by_cases h : (j : Int) < (T.len : Int)
      · rw [if_pos h, decide_eq_true h]
        exact ⟨rfl, fun m hm => by injection hm with hm; rw [hm]⟩
      · rw [if_neg h, decide_eq_false h]
        exact ⟨rfl, fun m hm => by cases hm⟩)
    have hqn : decide (j < T.len) = ql := by rw [← hql]; simp
    clear hk hfe HBR hpl hql
    go_enter Tryz.func38, Tryz.ntmps38
    go_wp2
    go_quiet (fail)
    go_wp2
    go_ret2
    exact ⟨j, by rw [HO.out.1]; rfl, HO.out.2, drewN_below HB0.out _⟩
end Go.Proofs.YtcpjbimojliogaaGreatDoor
