/- Where a path leads. -/
import Derived.Test.YtcpjbimojliogaaGreatDoorPathAlong
namespace Go.Proofs.YtcpjbimojliogaaGreatDoor
open Go Go.RowKit Go.Shelf
set_option linter.unusedVariables false
attribute [local go_sem] Oper.semAt_some

def endL (L : Nat → TypeV) : Nat → List StepV → Option Nat
  | t, [] => some t
  | t, s :: r => if nextB (L t) s then endL L (nextN L t s) r else none
def endG (L : Nat → TypeV) : List (Nat × StepV) → Nat → Option Nat
  | [], u => some u
  | x :: r, u => if nextB (L x.1) x.2 then endG L r (nextN L x.1 x.2) else none
theorem endG_along (L : Nat → TypeV) : ∀ (ps : List StepV) (t : Nat), endG L (alongL L t ps) t = endL L t ps
  | [], t => rfl
  | s :: r, t => by
    simp only [alongL, endG, endL]
    rw [endG_along L r]
def endA (L : Nat → TypeV) (len : Nat) (t : Int) (ps : List StepV) : Option Nat := if hasT L len t then endL L t.toNat ps else none
def endV : Option Nat → Value
  | some u => .tuple #[.int .i64 (u : Nat), .bool true]
  | none => .tuple #[.int .i64 0, .bool false]
theorem along_in {L : Nat → TypeV} {len : Nat} (hv : ∀ i, i < len → OkT L i) : ∀ (ps : List StepV) (t : Nat), t < len → ∀ x, x ∈ alongL L t ps → x.1 < len
  | [], t, _, x, hx => by simp [alongL] at hx
  | s :: r, t, ht, x, hx => by
    simp only [alongL, List.mem_cons] at hx
    rcases hx with rfl | hx
    · exact ht
    · exact along_in hv r _ (next_part hv ht).2 x hx

/-- the boxes of a walk along a path, in the world in which its loop begins -/
theorem along_boxes (w1 : World) (o : Obj) (ao : Option Addr) (len cap : Nat) (t : Int) (pa : Option Addr) (n pc : Nat) :
    ∃ W0, (((w1.alloc o).alloc (.cells #[.slice ao len cap] 22)).alloc (.cells #[.int .i64 t] 3)).alloc (.cells #[.slice pa n pc] 25) = W0 ∧ W0.heap.size = w1.heap.size + 4 ∧ Below w1.heap.size w1 W0 ∧ W0.heap[w1.heap.size]? = some o ∧
      W0.cell? ⟨w1.heap.size + 1, 0, none⟩ = some (.slice ao len cap) ∧ W0.cell? ⟨w1.heap.size + 2, 0, none⟩ = some (.int .i64 t) ∧ W0.cell? ⟨w1.heap.size + 3, 0, none⟩ = some (.slice pa n pc) := by
  refine ⟨_, rfl, by simp, (((((Below.refl _ w1).alloc (Nat.le_refl _) _).alloc (by simp) _).alloc (by simp; omega) _).alloc (by simp; omega) _), ?_, ?_, ?_, ?_⟩
  · exact heap_keep (heap_keep (heap_keep (alloc_at w1 o) ((Below.refl _ _).alloc (Nat.le_refl _) _)) ((Below.refl _ _).alloc (Nat.le_refl _) _)) ((Below.refl _ _).alloc (Nat.le_refl _) _)
  · have h := heap_keep (heap_keep (alloc_at (w1.alloc o) (.cells #[.slice ao len cap] 22)) ((Below.refl _ _).alloc (Nat.le_refl _) (.cells #[.int .i64 t] 3))) ((Below.refl _ _).alloc (Nat.le_refl _) (.cells #[.slice pa n pc] 25))
    rw [World.size_alloc] at h
    exact cell_at (j := 0) h rfl
  · have h := heap_keep (alloc_at ((w1.alloc o).alloc (.cells #[.slice ao len cap] 22)) (.cells #[.int .i64 t] 3)) ((Below.refl _ _).alloc (Nat.le_refl _) (.cells #[.slice pa n pc] 25))
    rw [World.size_alloc, World.size_alloc] at h
    exact cell_at (j := 0) h rfl
  · have h := alloc_at (((w1.alloc o).alloc (.cells #[.slice ao len cap] 22)).alloc (.cells #[.int .i64 t] 3)) (.cells #[.slice pa n pc] 25)
    rw [World.size_alloc, World.size_alloc, World.size_alloc] at h
    exact cell_at (j := 0) h rfl
theorem row_set {W : World} {b b' j : Nat} {v : Value} {o : Obj} (h : W.heap[b]? = some o) (hne : b ≠ b') : (W.setCell ⟨b', j, none⟩ v).heap[b]? = some o := (Below.heap_setCell W ⟨b', j, none⟩ v b hne).trans h
theorem below_new {m : Nat} {w w' : World} {k : Nat} {o : Obj} (h : Below m w w') (hk : w'.heap[k]? = some o) (h2 : m ≤ k) {X : World} (hx : Below w'.heap.size w' X) : X.heap[k]? = some o := heap_keep hk hx

set_option maxRecDepth 100000 in
set_option maxHeartbeats 4000000 in
theorem end12_any (ao : Option Addr) (len cap : Nat) (L : Nat → TypeV) (hlen : len ≤ 1000000) (hcap : len ≤ cap) (t : Int) (pa : Option Addr) (n pc : Nat) (P : Nat → StepV) (hn : n ≤ 1000000) (w : World) (H : ∀ i, i < len → TypeAt w ao i (L i)) (HP : ∀ i, i < n → StepAt w pa i (P i)) :
    Calls Tryz.prog 28 #[.slice ao len cap, .int .i64 t, .slice pa n pc] w fun e w' => e = .returned (endV (endA L len t (stepsL P n))) ∧ Below w.heap.size w w' := by
  have hmix : Tryz.prog.follows .mixedOrders = true := by kernel_rfl
  have HHas := Lib.hid (fun wx (hb : Below w.heap.size w wx) => has12_any ao len cap L t hlen hcap wx (hold H hb))
  have HAL := Lib.hid (fun wx => along12_any ao len cap t pa n pc wx)
  have HB0 := Lib.hid ((((Below.refl w.heap.size w).alloc (Nat.le_refl _) (.cells #[.slice ao len cap] 22)).alloc (by simp) (.cells #[.int .i64 0] 3)).alloc (by simp; omega) (.cells #[.bool false] 4))
  have HR0 := Lib.hid (heap_keep (heap_keep (alloc_at w (.cells #[.slice ao len cap] 22)) ((Below.refl _ _).alloc (Nat.le_refl _) (.cells #[.int .i64 0] 3))) ((Below.refl _ _).alloc (Nat.le_refl _) (.cells #[.bool false] 4)))
  have HR1 := Lib.hid (heap_keep (alloc_at (w.alloc (.cells #[.slice ao len cap] 22)) (.cells #[.int .i64 0] 3)) ((Below.refl _ _).alloc (Nat.le_refl _) (.cells #[.bool false] 4)))
  have HR2 := Lib.hid (alloc_at ((w.alloc (.cells #[.slice ao len cap] 22)).alloc (.cells #[.int .i64 0] 3)) (.cells #[.bool false] 4))
  rw [World.size_alloc] at HR1
  rw [World.size_alloc, World.size_alloc] at HR2
  have hz3 : (((w.alloc (.cells #[.slice ao len cap] 22)).alloc (.cells #[.int .i64 0] 3)).alloc (.cells #[.bool false] 4)).heap.size = w.heap.size + 3 := by simp
  have hea : endA L len t (stepsL P n) = if hasT L len t then endL L t.toNat (stepsL P n) else none := rfl
  have HH := Lib.hid H
  have HPP := Lib.hid HP
  clear H HP
  cases hT : hasT L len t with
  | false =>
    rw [hT] at HHas hea
    rw [hea]
    refine calls_of_marks Tryz.func28 rfl ?_
    simp only [Tryz.ntmps28, List.size_toArray, List.length_cons, List.length_nil, Nat.reduceAdd, Nat.reduceSub, Array.replicate_succ, Array.replicate_zero, List.push_toArray, List.append_toArray, List.nil_append, List.cons_append]
    go_wp2_with (go_at_call 20; refine (HHas.out _ HB0.out).mono ?_; rintro e w1 ⟨rfl, hb⟩; have q1 := heap_keep HR1.out hb; have q2 := heap_keep HR2.out hb; have c1 := cell_at (j := 0) (v := .int .i64 0) q1 rfl; have c2 := cell_at (j := 0) (v := .bool false) q2 rfl; have f1 := free_at (j := 0) q1; have f2 := free_at (j := 0) q2)
    refine leavesM_nil (v := .tuple #[.int .i64 0, .bool false]) ?_ ⟨rfl, ?_⟩
    · simp [results, Tryz.results28, asAddr, go_sem, c1, c2]
    · exact ((HB0.out.trans (hb.mono (by omega))).setCell (p := ⟨w.heap.size + 1, 0, none⟩) (by simp) _).setCell (p := ⟨w.heap.size + 1 + 1, 0, none⟩) (by simp; omega) _
  | true =>
    rw [hT] at HHas hea
    rw [hea]
    obtain ⟨k, rfl, hk, hok⟩ := hasT_in hT
    have hv := ok_all hok
    rw [if_pos rfl, Int.toNat_natCast]
    refine calls_of_marks Tryz.func28 rfl ?_
    simp only [Tryz.ntmps28, List.size_toArray, List.length_cons, List.length_nil, Nat.reduceAdd, Nat.reduceSub, Array.replicate_succ, Array.replicate_zero, List.push_toArray, List.append_toArray, List.nil_append, List.cons_append]
    go_wp2_with (first
      | (go_at_call 20; refine (HHas.out _ HB0.out).mono ?_; rintro e w1 ⟨rfl, hb⟩; have q0 := heap_keep HR0.out hb; have q1 := heap_keep HR1.out hb; have q2 := heap_keep HR2.out hb; have c0 := cell_at (j := 0) (v := .slice ao len cap) q0 rfl; have hz := hb.size; rw [hz3] at hz; have hne0 : ¬ w.heap.size = w1.heap.size := (by omega); have hlt0 : w.heap.size < w1.heap.size := (by omega))
      | (go_at_call 29; refine (HAL.out _).mono ?_; rintro e w2 ⟨rfl, rfl⟩))
    obtain ⟨W0, hW0, hz0, hb0, ht0, hl0, hk0, hp0⟩ := along_boxes w1 (.cells #[.int .i64 (k : Nat)] 3) ao len cap (k : Nat) pa n pc
    rw [hW0]
    have g0 := heap_keep q0 hb0
    have g1 := heap_keep q1 hb0
    have g2 := heap_keep q2 hb0
    have hbw : Below w.heap.size w W0 := (HB0.out.trans (hb.mono (by omega))).trans (hb0.mono (by omega))
    clear hW0 q0 q1 q2 c0
    have hG : ∀ x, x ∈ alongL L k (stepsL P n) → x.1 < len := along_in hv (stepsL P n) k hk
    have HHO := Lib.hid (fun wx (hb : Below w.heap.size w wx) => hold HH.out hb)
    refine wp_range (gf := 55) (w0 := W0) rfl (enters_of Tryz.func55 (by kernel_rfl) rfl)
      (along12_stops (w1.heap.size + 1) (w1.heap.size + 4) (w1.heap.size + 2) (w1.heap.size + 3) (w1.heap.size + 1) ao len cap L hlen hv k hk pa n pc P hn (fun x => x.1 < len) hG w HH.out HPP.out W0 hbw (by omega) (by omega) (by omega) (by omega) (by omega) hk0 hp0 hl0)
      (fun h k => h.trans k) (KpS.putObj (by omega) (by omega)) (Below.refl _ _) (fun _ => rfl)
      (fun pre W => (∃ u : Nat, W.heap[w1.heap.size]? = some (.cells #[.int .i64 (u : Nat)] 3) ∧ ∀ r, endG L (pre.map (·.1) ++ r) k = endG L r u) ∧ W.heap[w.heap.size]? = some (.cells #[.slice ao len cap] 22) ∧
        W.heap[w.heap.size + 1]? = some (.cells #[.int .i64 0] 3) ∧ W.heap[w.heap.size + 1 + 1]? = some (.cells #[.bool false] 4) ∧ Below w.heap.size w W ∧ W0.heap.size ≤ W.heap.size)
      (fun pre W => (∀ r, endG L (pre.map (·.1) ++ r) k = none) ∧ W.heap[w.heap.size + 1]? = some (.cells #[.int .i64 0] 3) ∧ W.heap[w.heap.size + 1 + 1]? = some (.cells #[.bool false] 4) ∧ Below w.heap.size w W)
      (fun pre X Y ⟨⟨u, h1, h2⟩, h3, h4, h5, h6, h8⟩ hst => ⟨⟨u, hst.same _ _ h1 (.inl rfl), h2⟩, hst.same _ _ h3 (.inl rfl), hst.same _ _ h4 (.inl rfl), hst.same _ _ h5 (.inl rfl), hst.below h6 (Nat.le_refl _) (by omega), Nat.le_trans h8 hst.size⟩)
      (fun pre X Y ⟨h2, h4, h5, h6⟩ hst => ⟨h2, hst.same _ _ h4 (.inl rfl), hst.same _ _ h5 (.inl rfl), hst.below h6 (Nat.le_refl _) (by omega)⟩)
      ⟨⟨k, ht0, fun r => rfl⟩, g0, g1, g2, hbw, Nat.le_refl _⟩ ?round ?done ?stop
    case round =>
      rintro l ⟨⟨a, s⟩, hx⟩ W K ⟨pre, ⟨u, h1, h2⟩, h3, h4, h5, h6, h8⟩ hK
      simp only [stepVal]
      gi_wp2
      refine hK _ _ ((KeepsOthers.alloc _ _).from _) (KpS.of_below ((Below.refl _ _).alloc (Nat.le_refl _) _) (by omega) (by omega)) (Stays.alloc _ _) ?_
      have hs0 := alloc_at W (.cells #[.bool s.elem, .int .i64 s.n] 56)
      clear h1 h2 h3 h4 h5
      rintro l2 pre2 W2 hst ⟨⟨u, h1, h2⟩, h3, h4, h5, h7, h9⟩ hl
      have hs1 := hst.same _ _ hs0 (.inl rfl)
      have c0 := cell_at (j := 0) (v := .slice ao len cap) h3 rfl
      have c1 := cell_at (j := 0) (v := .int .i64 0) h4 rfl
      have c2 := cell_at (j := 0) (v := .bool false) h5 rfl
      have c3 := cell_at (j := 0) (v := .int .i64 (u : Nat)) h1 rfl
      have s0 := cell_at (j := 0) (v := .bool s.elem) hs1 rfl
      have s1 := cell_at (j := 1) (v := .int .i64 s.n) hs1 rfl
      have f1 := free_at (j := 0) h4
      have f2 := free_at (j := 0) h5
      have f3 := free_at (j := 0) h1
      obtain ⟨tb, tf, rfl, x0, x1, x2, x3, x4, x5, wf, hit⟩ := HHO.out _ h7 a hx
      have HN := Lib.hid (next12_any (L a) s W2.drew (hit.held ((Below.refl _ _).drew)))
      obtain ⟨hp0, hp1⟩ := next_part (s := s) hv hx
      have hp2 : nextZ (L a) s = ((nextN L a s : Nat) : Int) := by unfold nextN; simp only at hp0; omega
      obtain ⟨q, hq⟩ : ∃ q, nextB (L a) s = q := ⟨_, rfl⟩
      have hen : ∀ r, endG L ((pre2.map (·.1) ++ [(a, s)]) ++ r) k = if q then endG L r (nextN L a s) else none := fun r => by
        rw [List.append_assoc, h2, ← hq]; rfl
      rw [hp2, hq] at HN
      obtain ⟨v, hv2⟩ : ∃ v, nextN L a s = v := ⟨_, rfl⟩
      rw [hv2] at HN hen
      have HEN := Lib.hid hen
      unfold typV stepVal at HN
      clear hen hq hv2 hp2 hp1 hp0 h2
      gi_wp2
      gi_region_with_o (refine ⟨trivial, ?_⟩; gi_at_call 24; refine (inRnd HN.out).mono ?_; rintro e w4 ⟨rfl, hb4⟩; have p1 := heap_keep (w := W2.drew) h1 hb4; have p4 := heap_keep (w := W2.drew) h4 hb4; have p5 := heap_keep (w := W2.drew) h5 hb4; have p3 := heap_keep (w := W2.drew) h3 hb4; have d3 := cell_at (j := 0) (v := .int .i64 (u : Nat)) p1 rfl; have d1 := cell_at (j := 0) (v := .int .i64 0) p4 rfl; have d2 := cell_at (j := 0) (v := .bool false) p5 rfl; have k3 := free_at (j := 0) p1; have k1 := free_at (j := 0) p4; have k2 := free_at (j := 0) p5)
      all_goals
        have hb5 : Below W2.heap.size W2 w4 := ((Below.refl _ W2).drew).trans hb4
        have hkf : KeepsFrom W0.heap.size W2 w4 := KeepsFrom.of_below hb5
        have hb6 : Below w.heap.size w w4 := h7.trans (hb5.mono (by omega))
        cases q
        · gi_wp2
          exact ⟨(by first | exact ((hkf.trans ((KeepsOthers.setCell _ _ _).from _)).trans ((KeepsOthers.setCell _ _ _).from _)).trans ((KeepsOthers.setCell _ _ _).from _) | (rw [← hz0]; exact ((hkf.trans ((KeepsOthers.setCell _ _ _).from _)).trans ((KeepsOthers.setCell _ _ _).from _)).trans ((KeepsOthers.setCell _ _ _).from _))), rfl,
            fun r => by have := HEN.out r; simpa using this, row_set (set_at (j := 0) (u := .int .i64 0) (row_set p4 (by omega))) (by omega), set_at (j := 0) (u := .bool false) (row_set (row_set p5 (by omega)) (by omega)),
            ((hb6.setCell (p := ⟨w1.heap.size, 0, none⟩) (by simp; omega) _).setCell (p := ⟨w.heap.size + 1, 0, none⟩) (by simp) _).setCell (p := ⟨w.heap.size + 1 + 1, 0, none⟩) (by simp; omega) _⟩
        · gi_wp2
          exact ⟨(by first | exact hkf.trans ((KeepsOthers.setCell _ _ _).from _) | (rw [← hz0]; exact hkf.trans ((KeepsOthers.setCell _ _ _).from _))), (KpS.of_below hb5 (by omega) (by omega)).trans (KpS.setCell _ _ (by omega) (by omega) (by omega)),
            ⟨v, set_at (j := 0) (u := .int .i64 (v : Nat)) p1, fun r => by have := HEN.out r; simpa using this⟩, row_set p3 (by omega), row_set p4 (by omega), row_set p5 (by omega), hb6.setCell (p := ⟨w1.heap.size, 0, none⟩) (by simp; omega) _, by have := hb5.size; simp; omega⟩
    case done =>
      rintro D xs W hD hxs ⟨⟨u, h1, h2⟩, h3, h4, h5, h6, _⟩ hdk
      have c1 := cell_at (j := 0) (v := .int .i64 0) h4 rfl
      have c2 := cell_at (j := 0) (v := .bool false) h5 rfl
      have c3 := cell_at (j := 0) (v := .int .i64 (u : Nat)) h1 rfl
      have f1 := free_at (j := 0) h4
      have f2 := free_at (j := 0) h5
      have he : endL L k (stepsL P n) = some u := by
        have := h2 []
        rw [List.append_nil, hxs, endG_along] at this
        exact this
      have HE := Lib.hid he
      have HS1 := Lib.hid (set_at (j := 0) (u := .int .i64 (u : Nat)) h4)
      clear he
      go_wp2
      refine leavesM_mark (D := D) (setC_def (setC_def hdk (by omega)) (by omega)) ⟨.tuple #[.int .i64 (u : Nat), .bool true], ?_, ?_⟩
      · have d1 := putD_cell (setC_def (b := w.heap.size + 1 + 1) (v := .bool true) (setC_def (b := w.heap.size + 1) (v := .int .i64 (u : Nat)) hdk (by omega)) (by omega)) (cell_at (j := 0) (v := .int .i64 (u : Nat)) ((Below.heap_setCell _ ⟨w.heap.size + 1 + 1, 0, none⟩ (.bool true) (w.heap.size + 1) (by simp)).trans HS1.out) rfl)
        have d2 := putD_cell (setC_def (b := w.heap.size + 1 + 1) (v := .bool true) (setC_def (b := w.heap.size + 1) (v := .int .i64 (u : Nat)) hdk (by omega)) (by omega)) (cell_at (j := 0) (v := .bool true) (set_at (j := 0) (u := .bool true) ((Below.heap_setCell _ ⟨w.heap.size + 1, 0, none⟩ (.int .i64 (u : Nat)) (w.heap.size + 1 + 1) (by simp)).trans h5)) rfl)
        simp [results, Tryz.results28, asAddr, go_sem, d1, d2]
      · exact ⟨by rw [HE.out]; rfl, putD_below (setC_def (setC_def hdk (by omega)) (by omega)) ((h6.setCell (p := ⟨w.heap.size + 1, 0, none⟩) (by simp) _).setCell (p := ⟨w.heap.size + 1 + 1, 0, none⟩) (by simp; omega) _) (by omega)⟩
    case stop =>
      rintro D pre W hD ⟨r, hr⟩ ⟨h2, h4, h5, h6⟩ hdk
      have he : endL L k (stepsL P n) = none := by
        rw [← endG_along, hr]; exact h2 r
      refine leavesM_mark (D := D) hdk ⟨.tuple #[.int .i64 0, .bool false], ?_, by rw [he]; rfl, putD_below hdk h6 (by omega)⟩
      have c1 := putD_cell hdk (cell_at (j := 0) (v := .int .i64 0) h4 rfl)
      have c2 := putD_cell hdk (cell_at (j := 0) (v := .bool false) h5 rfl)
      simp [results, Tryz.results28, asAddr, go_sem, c1, c2]
end Go.Proofs.YtcpjbimojliogaaGreatDoor
