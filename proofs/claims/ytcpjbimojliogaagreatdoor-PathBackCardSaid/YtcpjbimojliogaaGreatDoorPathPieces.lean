/- The steps of a text, passed on one by one: whatever is done with each. -/
import Derived.Test.YtcpjbimojliogaaGreatDoorPathSmall
namespace Go.Proofs.YtcpjbimojliogaaGreatDoor
open Go Go.RowKit Go.Shelf
attribute [local go_sem] Oper.semAt_some

def piecesF (s : ByteArray) : Nat → Nat → List (PieceV × Bool)
  | 0, _ => []
  | f + 1, a => if a < s.size then ((leadP (s.extract a s.size) (a == 0)).1, decide (0 < (leadP (s.extract a s.size) (a == 0)).2)) ::
      (if (leadP (s.extract a s.size) (a == 0)).2 = 0 then [] else piecesF s f (a + (leadP (s.extract a s.size) (a == 0)).2)) else []
theorem piecesF_more (s : ByteArray) : ∀ (f g a : Nat), s.size - a ≤ f → s.size - a ≤ g → piecesF s f a = piecesF s g a
  | 0, g, a, h, _ => by
    cases g with
    | zero => rfl
    | succ g => simp only [piecesF]; rw [if_neg (by omega)]
  | f + 1, 0, a, _, h => by simp only [piecesF]; rw [if_neg (by omega)]
  | f + 1, g + 1, a, h, h' => by
    simp only [piecesF]
    split
    · split
      · rfl
      · rename_i hn
        rw [piecesF_more s f g _ (by omega) (by omega)]
    · rfl
/-- the steps of a text from a place on -/
def piecesS (s : ByteArray) (a : Nat) : List (PieceV × Bool) := piecesF s (s.size - a) a
theorem piecesS_end {s : ByteArray} {a : Nat} (h : ¬ a < s.size) : piecesS s a = [] := by
  unfold piecesS
  rw [show s.size - a = 0 by omega]
  rfl
theorem piecesS_last {s : ByteArray} {a : Nat} {x : PieceV} (h : a < s.size) (hl : leadP (s.extract a s.size) (a == 0) = (x, 0)) : piecesS s a = [(x, false)] := by
  unfold piecesS
  obtain ⟨f, hf⟩ : ∃ f, s.size - a = f + 1 := ⟨s.size - a - 1, by omega⟩
  rw [hf]
  simp only [piecesF, hl]
  rw [if_pos h]
  rfl
theorem piecesS_next {s : ByteArray} {a n : Nat} {x : PieceV} (h : a < s.size) (hl : leadP (s.extract a s.size) (a == 0) = (x, n)) (hn : n ≠ 0) : piecesS s a = (x, true) :: piecesS s (a + n) := by
  unfold piecesS
  obtain ⟨f, hf⟩ : ∃ f, s.size - a = f + 1 := ⟨s.size - a - 1, by omega⟩
  rw [hf]
  simp only [piecesF, hl]
  rw [if_pos h, if_neg hn, piecesF_more s f (s.size - (a + n)) (a + n) (by omega) (by omega)]
  simp; omega
theorem leadP_le (s : ByteArray) (first : Bool) : (leadP s first).2 ≤ s.size + 2 := by
  have he : (elemP s).2 ≤ s.size + 2 := by
    unfold elemP
    split
    · simp
    · split
      · simp [digS]; omega
      · simp
  have hi : ∀ d : ByteArray, d.size ≤ 1 → (itemP s d).2 ≤ s.size + 2 := fun d hd => by
    unfold itemP
    have h1 := leadN_le (itemR s d)
    have h2 := itemR_size s d
    split
    · simp; omega
    · simp
  unfold leadP
  split
  · exact he
  · split
    · exact hi _ (by decide)
    · exact hi _ (by decide)

theorem grown_below12 {w w' : World} (h : Below w.heap.size w w') : w.grownBy w' none := ⟨h.os, h.tape, h.output, h.size, fun k hk _ => h.block k hk⟩
theorem pieces12_any (s : ByteArray) (w : World) : Calls Tryz.prog 22 #[.string s] w fun e w' =>
    e = .returned (.func (.func 47) #[] #[.pointer (some ⟨w.heap.size, 0, none⟩)]) ∧ w' = w.alloc (.cells #[.string s] 9) := by
  have hmf' := hmf
  go_enter Tryz.func22, Tryz.ntmps22
  go_wp2
  go_ret
  exact ⟨rfl, rfl⟩

set_option maxRecDepth 100000 in
set_option maxHeartbeats 2000000 in
theorem pieces12_run (l m Bn : Nat) (s : ByteArray) (hs : s.size ≤ 1000000) (J Jx : List (PieceV × Bool) → World → Prop) (W : World) (hm : m ≤ W.heap.size) (hJ : AbidesFrom W.heap.size J)
    (hY : ∀ pre x W, J pre W → pre.length < s.size → YieldAt Fence.wide 1 Tryz.prog l #[pieceV x.1, .bool x.2] W fun e W' =>
      (e = .returned (.bool true) ∧ J (pre ++ [x]) W' ∧ KpM m Bn (Bn + 1) W W') ∨ (e = .returned (.bool false) ∧ Jx (pre ++ [x]) W'))
    (hBn : W.cell? ⟨Bn, 0, none⟩ = some (.string s)) (h0 : J [] W) :
    CallsIn Fence.wide 2 Tryz.prog 47 #[.func (.yield l) #[] #[], .pointer (some ⟨Bn, 0, none⟩)] W fun e W' => (∃ v, e = .returned v) ∧
      ((∃ xs, xs = piecesS s 0 ∧ J xs W') ∨ (∃ pre, (∃ r, piecesS s 0 = pre ++ r) ∧ Jx pre W')) := by
  refine callsIn_of_wp Tryz.func47 rfl trivial ?_ rfl
  simp only [Tryz.ntmps47, List.size_toArray, List.length_cons, List.length_nil, Nat.reduceAdd, Nat.reduceSub, Array.replicate_succ, Array.replicate_zero, List.push_toArray, List.append_toArray, List.nil_append, List.cons_append]
  gi_wp2
  gi_loopw [3] (fun p wr => ∃ (pre : List (PieceV × Bool)) (k : Nat), p = .int .i64 (k : Nat) ∧ k ≤ 2000010 ∧ pre.length ≤ k ∧ piecesS s 0 = pre ++ piecesS s k ∧ J pre wr ∧ KpM m Bn (Bn + 1) W wr)
    (fun p _ => s.size - (intOf p).toNat)
  case atStart => exact ⟨[], 0, rfl, by omega, by simp, rfl, h0, KpM.refl _ _ _ _⟩
  case round =>
    obtain ⟨pre, k, rfl, hk, hpl, hx, hJs, hbl⟩ := hrel
    have hc := (World.cell?_of_block (a := ⟨Bn, 0, none⟩) (hbl.mid Bn (Nat.le_refl _) (Nat.lt_succ_self _))).trans hBn
    have hBl := World.block_lt_of_cell? W _ hBn
    simp only at hBl
    by_cases hlt : k < s.size
    · have hd : decide ((k : Int) < s.size) = true := by simp; omega
      have hsl : ∀ wx, (Instr.slice 9 (.string s) (some (.int .i64 (k : Nat))) none none).run Tryz.prog wx = .ok (.string (s.extract k s.size)) wx := fun wx => run_slice_string_l wx 9 s Tryz.underlying9 .i64 (k : Nat) (by omega) (by omega)
      have hzr : (s.extract k s.size).size ≤ 1000000 := by simp; omega
      have hz1 : 1 ≤ (s.extract k s.size).size := by simp; omega
      have hq : ((k : Int) == 0) = (k == 0) := by rw [Bool.eq_iff_iff]; simp
      have HC := Lib.hid (fun wx => leading12_any (s.extract k s.size) (k == 0) hzr hz1 wx)
      have hle := leadP_le (s.extract k s.size) (k == 0)
      obtain ⟨X, hX⟩ : ∃ X, leadP (s.extract k s.size) (k == 0) = X := ⟨_, rfl⟩
      rw [hX] at HC hle
      obtain ⟨⟨b, nn, nm⟩, m⟩ := X
      unfold pieceV at HC
      have HY := Lib.hid hY
      have HJA := Lib.hid hJ
      have e1 : m = 0 → piecesS s k = [(⟨b, nn, nm⟩, false)] := fun h => piecesS_last hlt (by rw [hX, h])
      have e2 : m ≠ 0 → piecesS s k = (⟨b, nn, nm⟩, true) :: piecesS s (k + m) := fun h => piecesS_next hlt hX h
      have HE3 := Lib.hid (show ∃ r, piecesS s k = (⟨b, nn, nm⟩, decide (0 < m)) :: r by
        by_cases h : m = 0
        · exact ⟨[], by rw [e1 h]; simp [h]⟩
        · exact ⟨_, by rw [e2 h, show decide (0 < m) = true by simp; omega]⟩)
      have HE1 := Lib.hid e1
      have HE2 := Lib.hid e2
      clear e1 e2 hX hY hJ
      gi_wp2_with (refine ⟨trivial, ?_⟩; gi_at_call 48; refine (inWide (HC.out _)).mono ?_; rintro e w1 ⟨rfl, hb⟩; have hb2 := hb.alloc hb.size (.cells #[.bool b, .int .i64 nn, .string nm] 63); obtain ⟨fn, tmps, assign, body, hy, hR⟩ := HY.out pre (⟨b, nn, nm⟩, decide (0 < m)) (w1.alloc (.cells #[.bool b, .int .i64 nn, .string nm] 63)) (HJA.out pre wr _ none hJs (grown_below12 hb2) (fun r h => by cases h)) (by omega); simp only [pieceV] at hy)
      refine hR.mono ?_
      rintro e W3 (⟨rfl, hJ3, hk3⟩ | ⟨rfl, hJx3⟩)
      · by_cases h0 : m = 0
        · have k0 : ((m : Int) == 0) = true := by simp; omega
          gi_wp2
          refine bodyPost_ret (results_none rfl _ _ _) rfl ?_
          have eb : decide (0 < m) = false := by simp [h0]
          rw [eb] at hJ3
          exact ⟨⟨_, rfl⟩, .inl ⟨_, rfl, by rw [hx, HE1.out h0]; exact hJ3⟩⟩
        · have k0 : ((m : Int) == 0) = false := by simp; omega
          have hwr : IntKind.i64.wrap ((k : Int) + m) = ((k + m : Nat) : Int) := by rw [IntWalk.i64_in _ (by omega)]; omega
          gi_wp2
          go_roundw
          case rel =>
            have h9 : m ≤ (s.extract k s.size).size + 2 := hle
            have h8 : decide (0 < m) = true := by simp; omega
            rw [h8] at hJ3
            exact ⟨pre ++ [(⟨b, nn, nm⟩, true)], k + m, rfl, by omega, by simp; omega, by rw [hx, HE2.out h0]; simp, hJ3, hbl.trans ((KpM.of_below hb2 (Nat.le_trans hm hbl.below.size) (Nat.le_trans hBl hbl.below.size)).trans hk3)⟩
          case measure => simp [intOf]; omega
      · gi_wp2
        refine bodyPost_ret (results_none rfl _ _ _) rfl ?_
        obtain ⟨r, hr⟩ := HE3.out
        exact ⟨⟨_, rfl⟩, .inr ⟨_, ⟨r, by rw [hx, hr]; simp⟩, hJx3⟩⟩
    · have hd : decide ((k : Int) < s.size) = false := by simp; omega
      gi_wp2
      go_end0
      exact ⟨⟨_, rfl⟩, .inl ⟨_, rfl, by rw [hx, piecesS_end hlt, List.append_nil]; exact hJs⟩⟩

theorem pieces12_stops (m Bn : Nat) (s : ByteArray) (hs : s.size ≤ 1000000) (w : World) (hm : m ≤ w.heap.size) (hBn : w.cell? ⟨Bn, 0, none⟩ = some (.string s)) :
    SeqStopsK Fence.wide 2 Tryz.prog 47 #[.pointer (some ⟨Bn, 0, none⟩)] (fun x : PieceV × Bool => #[pieceV x.1, .bool x.2]) (KpM m Bn (Bn + 1)) (fun xs => xs = piecesS s 0) (fun pre => ∃ r, piecesS s 0 = pre ++ r) s.size w :=
  fun l J Jx W hW hJ _ hY h0 => pieces12_run l m Bn s hs J Jx W (Nat.le_trans hm hW.size) hJ hY ((hW.cell (p := ⟨Bn, 0, none⟩) (World.block_lt_of_cell? w _ hBn)).trans hBn) h0

theorem empty_size (s : ByteArray) : s.toList.isEmpty = (s.size == 0) := by
  rw [ByteArray.toList_eq, Bool.eq_iff_iff, List.isEmpty_iff_length_eq_zero]
  simp
set_option maxRecDepth 100000 in
set_option maxHeartbeats 2000000 in
theorem hasForm12_any (s : ByteArray) (hs : s.size ≤ 1000000) (w : World) : Calls Tryz.prog 21 #[.string s] w fun e w' =>
    e = .returned (.bool ((piecesS s 0).all (·.2) && !(s.size == 0))) ∧ Below w.heap.size w w' := by
  have hpc := fun wx => pieces12_any s wx
  refine calls_of_marks Tryz.func21 rfl ?_
  simp only [Tryz.ntmps21, List.size_toArray, List.length_cons, List.length_nil, Nat.reduceAdd, Nat.reduceSub, Array.replicate_succ, Array.replicate_zero, List.push_toArray, List.append_toArray, List.nil_append, List.cons_append]
  go_wp2_with (go_at_call 22; refine (hpc _).mono ?_; rintro e w1 ⟨rfl, rfl⟩)
  have hb0 : Below w.heap.size w ((w.alloc (.cells #[.bool false] 4)).alloc (.cells #[.string s] 9)) := ((Below.refl _ w).alloc (Nat.le_refl _) _).alloc (by simp) _
  have hr0 : Boxed ((w.alloc (.cells #[.bool false] 4)).alloc (.cells #[.string s] 9)) w.heap.size 4 (.bool false) := (Boxed.new w _ _).alloc _
  have hc0 : ((w.alloc (.cells #[.bool false] 4)).alloc (.cells #[.string s] 9)).cell? ⟨w.heap.size + 1, 0, none⟩ = some (.string s) := by
    have := (Boxed.new (w.alloc (.cells #[.bool false] 4)) 9 (.string s)).cell
    rwa [World.size_alloc] at this
  have hz0 : ((w.alloc (.cells #[.bool false] 4)).alloc (.cells #[.string s] 9)).heap.size = w.heap.size + 2 := by simp
  obtain ⟨W0, hW0⟩ : ∃ W0, (w.alloc (.cells #[.bool false] 4)).alloc (.cells #[.string s] 9) = W0 := ⟨_, rfl⟩
  rw [hW0] at hb0 hr0 hc0 hz0 ⊢
  clear hW0
  refine wp_range (gf := 47) (lb := #[.pointer (some ⟨w.heap.size + 1, 0, none⟩)]) (w0 := W0) rfl (enters_of Tryz.func47 (by kernel_rfl) rfl)
    (pieces12_stops w.heap.size (w.heap.size + 1) s hs W0 (by omega) hc0) (fun h k => h.trans k) (KpM.putObj (by omega) (by omega)) (Below.refl _ _) (fun _ => rfl)
    (fun pre W => Boxed W w.heap.size 4 (.bool false) ∧ Below w.heap.size w W ∧ pre.all (·.2) = true)
    (fun pre W => Boxed W w.heap.size 4 (.bool false) ∧ Below w.heap.size w W ∧ pre.all (·.2) = false)
    (fun pre X Y h hst => ⟨hst.same _ _ h.1 (.inl rfl), hst.below h.2.1 (Nat.le_refl _) (by omega), h.2.2⟩)
    (fun pre X Y h hst => ⟨hst.same _ _ h.1 (.inl rfl), hst.below h.2.1 (Nat.le_refl _) (by omega), h.2.2⟩)
    ⟨hr0, hb0, rfl⟩ ?round ?done ?stop
  case round =>
    rintro l ⟨x, ok⟩ W K ⟨pre, hv, hB, ha⟩ hK
    gi_wp2
    refine hK _ _ (KeepsFrom.refl _ _) (KpM.refl _ _ _ _) (Stays.refl _ _) ?_
    rintro l2 pre2 W2 hst ⟨hv2, hB2, ha2⟩ hl
    have hc2 := hv2.cell
    have hf2 := hv2.frozen
    cases ok
    · gi_wp2
      exact ⟨(KeepsOthers.setCell _ _ _).from _, rfl, hv2.set _, hB2.setCell (p := ⟨w.heap.size, 0, none⟩) (Nat.le_refl _) _, by simp⟩
    · gi_wp2
      exact ⟨KeepsFrom.refl _ _, KpM.refl _ _ _ _, hv2, hB2, by simpa using ha2⟩
  case done =>
    rintro D xs W hD rfl ⟨hv, hB, ha⟩ hdk
    have hc2 := hv.cell
    have hf2 := hv.frozen
    go_wp2
    refine leavesM_mark (D := D) (setC_def hdk (by omega)) ⟨_, ?_, rfl, ?_⟩
    · have h1 := putD_cell (setC_def (b := w.heap.size) (v := .bool (!s.toList.isEmpty)) hdk (by omega)) (hv.set (.bool (!s.toList.isEmpty))).cell
      have e : ((piecesS s 0).all (·.2) && !(s.size == 0)) = !s.toList.isEmpty := by
        rw [ha, empty_size]; rfl
      rw [e]
      simp [results, Tryz.results21, asAddr, go_sem, h1]
    · exact putD_below (setC_def hdk (by omega)) (hB.setCell (p := ⟨w.heap.size, 0, none⟩) (Nat.le_refl _) _) (by omega)
  case stop =>
    rintro D pre W hD ⟨r, hr⟩ ⟨hv, hB, ha⟩ hdk
    refine leavesM_mark (D := D) hdk ⟨_, ?_, rfl, ?_⟩
    · have h1 := putD_cell hdk hv.cell
      rw [hr, List.all_append, ha]
      simp [results, Tryz.results21, asAddr, go_sem, h1]
    · exact putD_below hdk hB (by omega)
end Go.Proofs.YtcpjbimojliogaaGreatDoor
