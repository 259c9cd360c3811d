/- The steps of a path and the types along it: what kinds have them, where one leads. -/
import Derived.Test.YtcpjbimojliogaaGreatDoorPathSmall
import Derived.Test.YtcpjbimojliogaaGreatDoorFitsAwake
namespace Go.Proofs.YtcpjbimojliogaaGreatDoor
open Go Go.RowKit

structure StepV where
  elem : Bool
  n : Int
instance : Inhabited StepV := ⟨⟨false, 0⟩⟩
def stepVal (s : StepV) : Value := .agg #[.bool s.elem, .int .i64 s.n]
def elK (k : Int) : Bool := k == 11 || k == 12
def itK (k : Int) : Bool := k == 13 || k == 14
/-- has a type that step, and where does it lead -/
def nextB (T : TypeV) (s : StepV) : Bool := decide (0 ≤ s.n) && (if s.elem then elK T.kind && decide (s.n < T.bound) else itK T.kind && decide (s.n < T.ilen))
def nextZ (T : TypeV) (s : StepV) : Int := if nextB T s then (if s.elem then T.of else (T.items s.n.toNat).type) else 0

theorem hasEl12_any (T : TypeV) (w : World) : Calls Tryz.prog 49 #[typV T] w fun e w' => e = .returned (.bool (elK T.kind)) ∧ Below w.heap.size w w' := by
  unfold typV
  have hb0 := (Below.refl w.heap.size w).alloc (Nat.le_refl _) (.cells #[.int .i64 T.kind, .string T.name, .int .i64 T.bound, .int .i64 T.of, .int .i64 T.tag, .slice T.ia T.ilen T.icap] 52)
  obtain ⟨q1, h1⟩ : ∃ q, (T.kind == 11) = q := ⟨_, rfl⟩
  obtain ⟨q2, h2⟩ : ∃ q, (T.kind == 12) = q := ⟨_, rfl⟩
  rw [show elK T.kind = (q1 || q2) by unfold elK; rw [h1, h2]]
  cases q1
  · go_enter Tryz.func49, Tryz.ntmps49
    go_wp2
    go_ret
    exact ⟨by simp, hb0⟩
  · go_enter Tryz.func49, Tryz.ntmps49
    go_wp2
    go_ret
    exact ⟨rfl, hb0⟩
theorem hasIt12_any (T : TypeV) (w : World) : Calls Tryz.prog 50 #[typV T] w fun e w' => e = .returned (.bool (itK T.kind)) ∧ Below w.heap.size w w' := by
  unfold typV
  have hb0 := (Below.refl w.heap.size w).alloc (Nat.le_refl _) (.cells #[.int .i64 T.kind, .string T.name, .int .i64 T.bound, .int .i64 T.of, .int .i64 T.tag, .slice T.ia T.ilen T.icap] 52)
  obtain ⟨q1, h1⟩ : ∃ q, (T.kind == 13) = q := ⟨_, rfl⟩
  obtain ⟨q2, h2⟩ : ∃ q, (T.kind == 14) = q := ⟨_, rfl⟩
  rw [show itK T.kind = (q1 || q2) by unfold itK; rw [h1, h2]]
  cases q1
  · go_enter Tryz.func50, Tryz.ntmps50
    go_wp2
    go_ret
    exact ⟨by simp, hb0⟩
  · go_enter Tryz.func50, Tryz.ntmps50
    go_wp2
    go_ret
    exact ⟨rfl, hb0⟩

set_option maxRecDepth 100000 in
set_option maxHeartbeats 1000000 in
theorem next12_any (T : TypeV) (s : StepV) (w : World) (HT : ItemsAt w T) : Calls Tryz.prog 24 #[typV T, stepVal s] w fun e w' => e = .returned (.tuple #[.int .i64 (nextZ T s), .bool (nextB T s)]) ∧ Below w.heap.size w w' := by
  have hE := Lib.hid (fun wx => hasEl12_any T wx)
  have hI := Lib.hid (fun wx => hasIt12_any T wx)
  have hn : nextB T s = (decide (0 ≤ s.n) && (if s.elem then elK T.kind && decide (s.n < T.bound) else itK T.kind && decide (s.n < T.ilen))) := rfl
  have hz : nextZ T s = if nextB T s then (if s.elem then T.of else (T.items s.n.toNat).type) else 0 := rfl
  obtain ⟨q1, h1⟩ : ∃ q, elK T.kind = q := ⟨_, rfl⟩
  obtain ⟨q2, h2⟩ : ∃ q, itK T.kind = q := ⟨_, rfl⟩
  obtain ⟨q3, h3⟩ : ∃ q, decide (s.n < T.bound) = q := ⟨_, rfl⟩
  obtain ⟨q4, h4⟩ : ∃ q, decide (s.n < (T.ilen : Int)) = q := ⟨_, rfl⟩
  obtain ⟨el, hel⟩ : ∃ q, s.elem = q := ⟨_, rfl⟩
  rw [h1, h2, h3, h4, hel] at hn
  rw [h1] at hE
  rw [h2] at hI
  rw [hel] at hz
  unfold typV at hE hI ⊢
  unfold stepVal
  rw [hel]
  have HB0 := Lib.hid (((Below.refl w.heap.size w).alloc (Nat.le_refl _) (.cells #[.int .i64 T.kind, .string T.name, .int .i64 T.bound, .int .i64 T.of, .int .i64 T.tag, .slice T.ia T.ilen T.icap] 52)).alloc (by simp) (.cells #[.bool el, .int .i64 s.n] 56))
  have HR0 := Lib.hid (heap_keep (alloc_at w (.cells #[.int .i64 T.kind, .string T.name, .int .i64 T.bound, .int .i64 T.of, .int .i64 T.tag, .slice T.ia T.ilen T.icap] 52)) ((Below.refl _ _).alloc (Nat.le_refl _) (.cells #[.bool el, .int .i64 s.n] 56)))
  have HR1 := Lib.hid (alloc_at (w.alloc (.cells #[.int .i64 T.kind, .string T.name, .int .i64 T.bound, .int .i64 T.of, .int .i64 T.tag, .slice T.ia T.ilen T.icap] 52)) (.cells #[.bool el, .int .i64 s.n] 56))
  rw [World.size_alloc] at HR1
  have hz0 : ((w.alloc (.cells #[.int .i64 T.kind, .string T.name, .int .i64 T.bound, .int .i64 T.of, .int .i64 T.tag, .slice T.ia T.ilen T.icap] 52)).alloc (.cells #[.bool el, .int .i64 s.n] 56)).heap.size = w.heap.size + 2 := by simp
  by_cases hs : s.n < 0
  · have k0 : decide (s.n < 0) = true := by simp [hs]
    have e1 : nextB T s = false := by rw [hn, decide_eq_false (by omega)]; rfl
    rw [hz, e1]
    clear hn hz e1 hE hI
    go_enter Tryz.func24, Tryz.ntmps24
    go_wp2
    go_ret2
    exact ⟨rfl, HB0.out⟩
  · have k0 : decide (s.n < 0) = false := by simp; omega
    rw [decide_eq_true (by omega : 0 ≤ s.n)] at hn
    cases el
    · cases q2
      · have e1 : nextB T s = false := hn
        rw [hz, e1]
        clear hn hz e1
        go_enter Tryz.func24, Tryz.ntmps24
        go_wp2_with (go_at_call 50; refine (hI.out _).mono ?_; rintro e w1 ⟨rfl, hb⟩; have r0 := heap_keep HR0.out hb; have r1 := heap_keep HR1.out hb; have c2 := cell_at (j := 2) r0 rfl; have c3 := cell_at (j := 3) r0 rfl; have c5 := cell_at (j := 5) r0 rfl; have s1 := cell_at (j := 1) r1 rfl; clear r0 r1)
        go_ret2
        exact ⟨rfl, HB0.out.trans (hb.mono (by omega))⟩
      · cases q4
        · have e1 : nextB T s = false := hn
          rw [hz, e1]
          clear hn hz e1
          go_enter Tryz.func24, Tryz.ntmps24
          go_wp2_with (go_at_call 50; refine (hI.out _).mono ?_; rintro e w1 ⟨rfl, hb⟩; have r0 := heap_keep HR0.out hb; have r1 := heap_keep HR1.out hb; have c2 := cell_at (j := 2) r0 rfl; have c3 := cell_at (j := 3) r0 rfl; have c5 := cell_at (j := 5) r0 rfl; have s1 := cell_at (j := 1) r1 rfl; clear r0 r1)
          go_ret2
          exact ⟨rfl, HB0.out.trans (hb.mono (by omega))⟩
        · have e1 : nextB T s = true := hn
          rw [hz, e1]
          obtain ⟨j, hj⟩ := Int.eq_ofNat_of_zero_le (by omega : 0 ≤ s.n)
          have hjl : j < T.ilen := by have := of_decide_eq_true h4; omega
          obtain ⟨b, off, hia, x0, x1, x2, x3, x4, wi⟩ := HT.2 j hjl
          have HJ := Lib.hid hj
          rw [hj] at HB0 HR0 HR1 hz0 h4 k0 ⊢
          rw [hia] at HB0 HR0 HR1 hz0 hI ⊢
          have HX := Lib.hid (keep6 HB0.out x2)
          rw [show ((j : Nat) : Int).toNat = j by omega]
          clear hn hz e1 x0 x1 x2 x3 x4 hj hia h3 hE HT hs
          go_enter Tryz.func24, Tryz.ntmps24
          go_wp2_with (go_at_call 50; refine (hI.out _).mono ?_; rintro e w1 ⟨rfl, hb⟩; have r0 := heap_keep HR0.out hb; have r1 := heap_keep HR1.out hb; have c2 := cell_at (j := 2) r0 rfl; have c3 := cell_at (j := 3) r0 rfl; have c5 := cell_at (j := 5) r0 rfl; have s0 := cell_at (j := 0) r1 rfl; have s1 := cell_at (j := 1) r1 rfl; clear r0 r1; have cx := keep6 hb HX.out)
          go_ret2
          exact ⟨rfl, HB0.out.trans (hb.mono (by omega))⟩
    · cases q1
      · have e1 : nextB T s = false := hn
        rw [hz, e1]
        clear hn hz e1
        go_enter Tryz.func24, Tryz.ntmps24
        go_wp2_with (go_at_call 49; refine (hE.out _).mono ?_; rintro e w1 ⟨rfl, hb⟩; have r0 := heap_keep HR0.out hb; have r1 := heap_keep HR1.out hb; have c2 := cell_at (j := 2) r0 rfl; have c3 := cell_at (j := 3) r0 rfl; have c5 := cell_at (j := 5) r0 rfl; have s0 := cell_at (j := 0) r1 rfl; have s1 := cell_at (j := 1) r1 rfl; clear r0 r1)
        go_ret2
        exact ⟨rfl, HB0.out.trans (hb.mono (by omega))⟩
      · cases q3
        · have e1 : nextB T s = false := hn
          rw [hz, e1]
          clear hn hz e1
          go_enter Tryz.func24, Tryz.ntmps24
          go_wp2_with (go_at_call 49; refine (hE.out _).mono ?_; rintro e w1 ⟨rfl, hb⟩; have r0 := heap_keep HR0.out hb; have r1 := heap_keep HR1.out hb; have c2 := cell_at (j := 2) r0 rfl; have c3 := cell_at (j := 3) r0 rfl; have c5 := cell_at (j := 5) r0 rfl; have s0 := cell_at (j := 0) r1 rfl; have s1 := cell_at (j := 1) r1 rfl; clear r0 r1)
          go_ret2
          exact ⟨rfl, HB0.out.trans (hb.mono (by omega))⟩
        · have e1 : nextB T s = true := hn
          rw [hz, e1]
          clear hn hz e1
          go_enter Tryz.func24, Tryz.ntmps24
          go_wp2_with (go_at_call 49; refine (hE.out _).mono ?_; rintro e w1 ⟨rfl, hb⟩; have r0 := heap_keep HR0.out hb; have r1 := heap_keep HR1.out hb; have c2 := cell_at (j := 2) r0 rfl; have c3 := cell_at (j := 3) r0 rfl; have c5 := cell_at (j := 5) r0 rfl; have s0 := cell_at (j := 0) r1 rfl; have s1 := cell_at (j := 1) r1 rfl; clear r0 r1)
          go_ret2
          exact ⟨rfl, HB0.out.trans (hb.mono (by omega))⟩
end Go.Proofs.YtcpjbimojliogaaGreatDoor
