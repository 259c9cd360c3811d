/- A step of a text, at a type: which step of the type it means, or why it means none. -/
import Derived.Test.YtcpjbimojliogaaGreatDoorPathEnd
namespace Go.Proofs.YtcpjbimojliogaaGreatDoor
open Go Go.RowKit
set_option linter.unusedVariables false

def pstE (L : Nat → TypeV) (len t : Nat) (x : PieceV) : Int :=
  if x.elem then (if elK (L t).kind then (if (L t).bound ≤ x.n then 7 else 0) else 4)
  else (if itK (L t).kind then (if itemL L len (t : Nat) x.name < 0 then 5 else 0) else 4)
def pstS (L : Nat → TypeV) (len t : Nat) (x : PieceV) : StepV :=
  if pstE L len t x = 0 then (if x.elem then ⟨true, x.n⟩ else ⟨false, itemL L len (t : Nat) x.name⟩) else ⟨false, 0⟩

set_option maxRecDepth 100000 in
set_option maxHeartbeats 2000000 in
theorem stepOf12_any (ao : Option Addr) (len cap : Nat) (L : Nat → TypeV) (hlen : len ≤ 1000000) (t : Nat) (ht : t < len) (x : PieceV) (w : World) (H : ∀ i, i < len → TypeAt w ao i (L i)) :
    Calls Tryz.prog 23 #[.slice ao len cap, .int .i64 (t : Nat), pieceV x] w fun e w' => e = .returned (.tuple #[stepVal (pstS L len t x), .int .i64 (pstE L len t x)]) ∧ Below w.heap.size w w' := by
  have hE := Lib.hid (fun wx => hasEl12_any (L t) wx)
  have hI := Lib.hid (fun wx => hasIt12_any (L t) wx)
  have HIT := Lib.hid (fun wx (hb : Below w.heap.size w wx) => item6_any ao len cap L (t : Nat) x.name (by omega) wx (hold H hb))
  have es : pstE L len t x = if x.elem then (if elK (L t).kind then (if (L t).bound ≤ x.n then 7 else 0) else 4) else (if itK (L t).kind then (if itemL L len (t : Nat) x.name < 0 then 5 else 0) else 4) := rfl
  have ss : pstS L len t x = if pstE L len t x = 0 then (if x.elem then ⟨true, x.n⟩ else ⟨false, itemL L len (t : Nat) x.name⟩) else ⟨false, 0⟩ := rfl
  obtain ⟨b, off, hao, x0, x1, x2, x3, x4, x5, wf, hit⟩ := H t ht
  have hbl : b < w.heap.size := World.block_lt_of_cell? w _ x0
  have hne : ¬ b = w.heap.size := by omega
  have hne1 : ¬ b = w.heap.size + 1 := by omega
  clear H
  subst hao
  obtain ⟨q1, h1⟩ : ∃ q, elK (L t).kind = q := ⟨_, rfl⟩
  obtain ⟨q2, h2⟩ : ∃ q, itK (L t).kind = q := ⟨_, rfl⟩
  obtain ⟨z, hz⟩ : ∃ z, itemL L len (t : Nat) x.name = z := ⟨_, rfl⟩
  obtain ⟨el, nn, nm⟩ := x
  simp only at es ss hz HIT
  rw [hz] at es ss HIT
  rw [h1] at hE es
  rw [h2] at hI es
  unfold typV at hE hI
  have HB0 := Lib.hid (((Below.refl w.heap.size w).alloc (Nat.le_refl _) (.cells #[.bool el, .int .i64 nn, .string nm] 63)).alloc (by simp) (.cells #[.bool false, .int .i64 0] 56))
  have HR0 := Lib.hid (heap_keep (alloc_at w (.cells #[.bool el, .int .i64 nn, .string nm] 63)) ((Below.refl _ _).alloc (Nat.le_refl _) (.cells #[.bool false, .int .i64 0] 56)))
  have HR1 := Lib.hid (alloc_at (w.alloc (.cells #[.bool el, .int .i64 nn, .string nm] 63)) (.cells #[.bool false, .int .i64 0] 56))
  rw [World.size_alloc] at HR1
  have hz0 : ((w.alloc (.cells #[.bool el, .int .i64 nn, .string nm] 63)).alloc (.cells #[.bool false, .int .i64 0] 56)).heap.size = w.heap.size + 2 := by simp
  unfold pieceV stepVal
  clear h1 h2 hz
  cases el
  · rw [if_neg (by decide)] at es
    cases q2
    · have e1 : pstE L len t ⟨false, nn, nm⟩ = 4 := es
      rw [ss, e1]
      rw [if_neg (by decide)]
      clear es ss e1 hE HIT
      go_enter Tryz.func23, Tryz.ntmps23
      go_wp2_with (first
        | (go_at_call 50; refine (hI.out _).mono ?_; rintro e w1 ⟨rfl, hb⟩; have r0 := heap_keep HR0.out hb; have HQ1 := Lib.hid (heap_keep HR1.out hb); have HB1 := Lib.hid (HB0.out.trans (hb.mono (by omega))); have d0 := cell_at (j := 0) (v := .bool false) r0 rfl; have d1 := cell_at (j := 1) (v := .int .i64 nn) r0 rfl; have d2 := cell_at (j := 2) (v := .string nm) r0 rfl; have y2 := keep6 HB1.out x2; have hz1 := hb.size; clear r0)
        | (refine wpList_store_rowTo rfl 56 _ _ rfl rfl (w.heap.size + 1) #[.bool false, .int .i64 0] rfl rfl _ _ HQ1.out (by kernel_rfl) (by kernel_rfl) (by kernel_rfl) ?_))
      refine bodyPost_ret (v := .tuple #[.agg #[.bool false, .int .i64 0], .int .i64 4]) ?_ rfl ⟨rfl, below_setRow HB1.out (by omega) _⟩
      have hl := run_loadVar_row (P := Tryz.prog) _ (w.heap.size + 1) _ 56 _ _ _ (setRow_heap _ _ _ #[.bool false, .int .i64 0] _ _ HQ1.out) Tryz.underlying56 rfl (by kernel_rfl)
      simp [results, Tryz.results23, asAddr, hl]
    · by_cases hzz : z < 0
      · have e1 : pstE L len t ⟨false, nn, nm⟩ = 5 := by rw [es, if_pos rfl, if_pos hzz]
        rw [ss, e1]
        rw [if_neg (by decide)]
        rw [show foundV z = .tuple #[.int .i64 0, .bool false] from by unfold foundV posZ okZ; simp; omega] at HIT
        clear es ss e1 hE
        go_enter Tryz.func23, Tryz.ntmps23
        go_wp2_with (first
          | (go_at_call 50; refine (hI.out _).mono ?_; rintro e w1 ⟨rfl, hb⟩; have r0 := heap_keep HR0.out hb; have HQ1 := Lib.hid (heap_keep HR1.out hb); have HB1 := Lib.hid (HB0.out.trans (hb.mono (by omega))); have d0 := cell_at (j := 0) (v := .bool false) r0 rfl; have d1 := cell_at (j := 1) (v := .int .i64 nn) r0 rfl; have d2 := cell_at (j := 2) (v := .string nm) r0 rfl; have y2 := keep6 HB1.out x2; have hz1 := hb.size; clear r0)
          | (refine wpList_store_rowTo rfl 56 _ _ rfl rfl (w.heap.size + 1) #[.bool false, .int .i64 0] rfl rfl _ _ HQ2.out (by kernel_rfl) (by kernel_rfl) (by kernel_rfl) ?_))
        go_quiet (fail)
        go_wp2_with (first
          | (go_at_call 51; refine (HIT.out _ (drewN_below HB1.out _)).mono ?_; rintro e w2 ⟨rfl, hb2⟩; have HB2 := Lib.hid ((drewN_below HB1.out _).trans (hb2.mono (drewN_below HB1.out _).size)); have HQ2 := Lib.hid (heap_keep (heap_keep HQ1.out (drewN_below (Below.refl _ _) _)) hb2))
          | (refine wpList_store_rowTo rfl 56 _ _ rfl rfl (w.heap.size + 1) #[.bool false, .int .i64 0] rfl rfl _ _ HQ2.out (by kernel_rfl) (by kernel_rfl) (by kernel_rfl) ?_))
        refine bodyPost_ret (v := .tuple #[.agg #[.bool false, .int .i64 0], .int .i64 5]) ?_ rfl ⟨rfl, below_setRow HB2.out (by omega) _⟩
        have hl := run_loadVar_row (P := Tryz.prog) _ (w.heap.size + 1) _ 56 _ _ _ (setRow_heap _ _ _ #[.bool false, .int .i64 0] _ _ HQ2.out) Tryz.underlying56 rfl (by kernel_rfl)
        simp [results, Tryz.results23, asAddr, hl]
      · have e1 : pstE L len t ⟨false, nn, nm⟩ = 0 := by rw [es, if_pos rfl, if_neg hzz]
        rw [ss, e1]
        rw [if_pos rfl, if_neg (by decide)]
        rw [show foundV z = .tuple #[.int .i64 z, .bool true] from by unfold foundV posZ okZ; simp; omega] at HIT
        clear es ss e1 hE
        go_enter Tryz.func23, Tryz.ntmps23
        go_wp2_with (first
          | (go_at_call 50; refine (hI.out _).mono ?_; rintro e w1 ⟨rfl, hb⟩; have r0 := heap_keep HR0.out hb; have HQ1 := Lib.hid (heap_keep HR1.out hb); have HB1 := Lib.hid (HB0.out.trans (hb.mono (by omega))); have d0 := cell_at (j := 0) (v := .bool false) r0 rfl; have d1 := cell_at (j := 1) (v := .int .i64 nn) r0 rfl; have d2 := cell_at (j := 2) (v := .string nm) r0 rfl; have y2 := keep6 HB1.out x2; have hz1 := hb.size; clear r0)
          | (refine wpList_store_rowTo rfl 56 _ _ rfl rfl (w.heap.size + 1) #[.bool false, .int .i64 0] rfl rfl _ _ HQ2.out (by kernel_rfl) (by kernel_rfl) (by kernel_rfl) ?_))
        go_quiet (fail)
        go_wp2_with (first
          | (go_at_call 51; refine (HIT.out _ (drewN_below HB1.out _)).mono ?_; rintro e w2 ⟨rfl, hb2⟩; have HB2 := Lib.hid ((drewN_below HB1.out _).trans (hb2.mono (drewN_below HB1.out _).size)); have HQ2 := Lib.hid (heap_keep (heap_keep HQ1.out (drewN_below (Below.refl _ _) _)) hb2))
          | (refine wpList_store_rowTo rfl 56 _ _ rfl rfl (w.heap.size + 1) #[.bool false, .int .i64 z] rfl rfl _ _ HQ2.out (by kernel_rfl) (by kernel_rfl) (by kernel_rfl) ?_))
        refine bodyPost_ret (v := .tuple #[.agg #[.bool false, .int .i64 z], .int .i64 0]) ?_ rfl ⟨rfl, below_setRow HB2.out (by omega) _⟩
        have hl := run_loadVar_row (P := Tryz.prog) _ (w.heap.size + 1) _ 56 _ _ _ (setRow_heap _ _ _ #[.bool false, .int .i64 z] _ _ HQ2.out) Tryz.underlying56 rfl (by kernel_rfl)
        simp [results, Tryz.results23, asAddr, hl]
  · rw [if_pos rfl] at es
    cases q1
    · have e1 : pstE L len t ⟨true, nn, nm⟩ = 4 := es
      rw [ss, e1]
      rw [if_neg (by decide)]
      clear es ss e1 hI HIT
      go_enter Tryz.func23, Tryz.ntmps23
      go_wp2_with (first
        | (go_at_call 49; refine (hE.out _).mono ?_; rintro e w1 ⟨rfl, hb⟩; have r0 := heap_keep HR0.out hb; have HQ1 := Lib.hid (heap_keep HR1.out hb); have HB1 := Lib.hid (HB0.out.trans (hb.mono (by omega))); have d0 := cell_at (j := 0) (v := .bool true) r0 rfl; have d1 := cell_at (j := 1) (v := .int .i64 nn) r0 rfl; have d2 := cell_at (j := 2) (v := .string nm) r0 rfl; have y2 := keep6 HB1.out x2; have hz1 := hb.size; clear r0)
        | (refine wpList_store_rowTo rfl 56 _ _ rfl rfl (w.heap.size + 1) #[.bool false, .int .i64 0] rfl rfl _ _ HQ1.out (by kernel_rfl) (by kernel_rfl) (by kernel_rfl) ?_))
      refine bodyPost_ret (v := .tuple #[.agg #[.bool false, .int .i64 0], .int .i64 4]) ?_ rfl ⟨rfl, below_setRow HB1.out (by omega) _⟩
      have hl := run_loadVar_row (P := Tryz.prog) _ (w.heap.size + 1) _ 56 _ _ _ (setRow_heap _ _ _ #[.bool false, .int .i64 0] _ _ HQ1.out) Tryz.underlying56 rfl (by kernel_rfl)
      simp [results, Tryz.results23, asAddr, hl]
    · by_cases hzz : (L t).bound ≤ nn
      · have e1 : pstE L len t ⟨true, nn, nm⟩ = 7 := by rw [es, if_pos rfl, if_pos hzz]
        have k7 : decide ((L t).bound ≤ nn) = true := decide_eq_true hzz
        rw [ss, e1]
        rw [if_neg (by decide)]
        clear es ss e1 hI HIT
        go_enter Tryz.func23, Tryz.ntmps23
        go_wp2_with (first
          | (go_at_call 49; refine (hE.out _).mono ?_; rintro e w1 ⟨rfl, hb⟩; have r0 := heap_keep HR0.out hb; have HQ1 := Lib.hid (heap_keep HR1.out hb); have HB1 := Lib.hid (HB0.out.trans (hb.mono (by omega))); have d0 := cell_at (j := 0) (v := .bool true) r0 rfl; have d1 := cell_at (j := 1) (v := .int .i64 nn) r0 rfl; have d2 := cell_at (j := 2) (v := .string nm) r0 rfl; have y2 := keep6 HB1.out x2; have hz1 := hb.size; clear r0)
          | (refine wpList_store_rowTo rfl 56 _ _ rfl rfl (w.heap.size + 1) #[.bool false, .int .i64 0] rfl rfl _ _ HQ1.out (by kernel_rfl) (by kernel_rfl) (by kernel_rfl) ?_))
        go_quiet (fail)
        have HQ2 := Lib.hid (fun m => heap_keep HQ1.out (drewN_below (Below.refl _ _) m))
        have HB2 := Lib.hid (fun m => drewN_below HB1.out m)
        go_wp2_with ((refine wpList_store_rowTo rfl 56 _ _ rfl rfl (w.heap.size + 1) #[.bool false, .int .i64 0] rfl rfl _ _ (HQ2.out _) (by kernel_rfl) (by kernel_rfl) (by kernel_rfl) ?_))
        refine bodyPost_ret (v := .tuple #[.agg #[.bool false, .int .i64 0], .int .i64 7]) ?_ rfl ⟨rfl, below_setRow (HB2.out _) (by omega) _⟩
        have hl := fun m => run_loadVar_row (P := Tryz.prog) _ (w.heap.size + 1) _ 56 _ _ _ (setRow_heap _ _ _ #[.bool false, .int .i64 0] _ _ (HQ2.out m)) Tryz.underlying56 rfl (by kernel_rfl)
        simp [results, Tryz.results23, asAddr, hl]
      · have e1 : pstE L len t ⟨true, nn, nm⟩ = 0 := by rw [es, if_pos rfl, if_neg hzz]
        have k7 : decide ((L t).bound ≤ nn) = false := decide_eq_false hzz
        rw [ss, e1]
        rw [if_pos rfl, if_pos rfl]
        clear es ss e1 hI HIT
        go_enter Tryz.func23, Tryz.ntmps23
        go_wp2_with (first
          | (go_at_call 49; refine (hE.out _).mono ?_; rintro e w1 ⟨rfl, hb⟩; have r0 := heap_keep HR0.out hb; have HQ1 := Lib.hid (heap_keep HR1.out hb); have HB1 := Lib.hid (HB0.out.trans (hb.mono (by omega))); have d0 := cell_at (j := 0) (v := .bool true) r0 rfl; have d1 := cell_at (j := 1) (v := .int .i64 nn) r0 rfl; have d2 := cell_at (j := 2) (v := .string nm) r0 rfl; have y2 := keep6 HB1.out x2; have hz1 := hb.size; clear r0)
          | (refine wpList_store_rowTo rfl 56 _ _ rfl rfl (w.heap.size + 1) #[.bool false, .int .i64 0] rfl rfl _ _ HQ1.out (by kernel_rfl) (by kernel_rfl) (by kernel_rfl) ?_))
        go_quiet (fail)
        have HQ2 := Lib.hid (fun m => heap_keep HQ1.out (drewN_below (Below.refl _ _) m))
        have HB2 := Lib.hid (fun m => drewN_below HB1.out m)
        go_wp2_with ((refine wpList_store_rowTo rfl 56 _ _ rfl rfl (w.heap.size + 1) #[.bool true, .int .i64 nn] rfl rfl _ _ (HQ2.out _) (by kernel_rfl) (by kernel_rfl) (by kernel_rfl) ?_))
        refine bodyPost_ret (v := .tuple #[.agg #[.bool true, .int .i64 nn], .int .i64 0]) ?_ rfl ⟨rfl, below_setRow (HB2.out _) (by omega) _⟩
        have hl := fun m => run_loadVar_row (P := Tryz.prog) _ (w.heap.size + 1) _ 56 _ _ _ (setRow_heap _ _ _ #[.bool true, .int .i64 nn] _ _ (HQ2.out m)) Tryz.underlying56 rfl (by kernel_rfl)
        simp [results, Tryz.results23, asAddr, hl]
end Go.Proofs.YtcpjbimojliogaaGreatDoor
