/- Contracts of the reference of chapter 7: number, row, branch, Open. -/
import Derived.Test.YtblnhoagdnnjdaaGreatBoundsAwake
import Derived.Test.YtblnhoagdnnjdaaGreatTypesRefCheck
namespace Go.Proofs.YtblnhoagdnnjdaaGreat
open Go.RowKit
set_option linter.unusedVariables false
/-- bytes of a number at a place -/
def nB (s a : Nat) : Nat := (s - a % s) % s + s
theorem numE_nB (s a : Nat) : numE s a = a + nB s a := by unfold numE nB; omega
theorem nB_le {s : Nat} (hs : SzN s) (a : Nat) : nB s a ≤ 15 := by have := numE_le hs a; rw [numE_nB] at this; omega
theorem refNumber7_any (a s : Nat) (hs : SzN s) (ha : a ≤ 1000000000000000) (w : World) : Calls Tryz.prog 32 #[.int .i64 (a : Nat), .int .i64 (s : Nat)] w fun e w' => e = .returned (.int .i64 (nB s a : Nat)) ∧ w = w' := by
  have h := numE_gap hs a
  rw [numE_nB] at h
  have hg := gapZ_rng (a : Int) (s : Int)
  have h8 : s ≤ 8 := by rcases hs with rfl | rfl | rfl | rfl <;> omega
  have hc := fun w => refGap_any (a : Int) (s : Int) (WalkArith.wf_i64 (by omega)) w
  have e : ((nB s a : Nat) : Int) = gapZ (a : Int) (s : Int) + (s : Int) := by omega
  rw [e]
  obtain ⟨G, hG⟩ : ∃ G, gapZ (a : Int) (s : Int) = G := ⟨_, rfl⟩
  rw [hG] at hg hc ⊢
  have HC := Lib.hid hc
  clear hc hG hs h e
  go_enter Tryz.func32, Tryz.ntmps32
  go_wp2_with (go_at_call 47; refine (HC.out _).mono ?_; rintro e w' ⟨rfl, rfl⟩)
  go_ret
  exact ⟨rfl, rfl⟩
/-- the bytes of a type, by a place's rest, in memory -/
def EightAt (f : Nat → Nat) (v : Value) (w : World) : Prop := ∃ g cap, v = .slice (some ⟨g, 0, none⟩) 8 cap ∧ ∀ r, r < 8 → w.cell? ⟨g, r, none⟩ = some (.int .i64 (f r - r : Nat)) ∧ f r - r ≤ 1000000000000
theorem EightAt.held {f : Nat → Nat} {v : Value} {w w1 : World} (h : EightAt f v w) (hb : Below w.heap.size w w1) : EightAt f v w1 := by
  obtain ⟨g, cap, e, hc⟩ := h
  exact ⟨g, cap, e, fun r hr => ⟨keep6 hb (hc r hr).1, (hc r hr).2⟩⟩
theorem good_add {f : Nat → Nat} (h : Good f) (a : Nat) : f a = a + (f (a % 8) - a % 8) := by
  have h1 := good_mod h a
  have h2 := h.inc (a % 8)
  have h3 := Nat.mod_le a 8
  omega
set_option maxRecDepth 20000 in
set_option maxHeartbeats 400000 in
theorem row_any (f : Nat → Nat) (v : Value) (n a : Nat) (hf : Good f) (hn : n ≤ 1000) (ha : a + n * 1000000000000 ≤ 2000000000000000) (w : World) (H : EightAt f v w) :
    Calls Tryz.prog 33 #[v, .int .i64 (n : Nat), .int .i64 (a : Nat)] w fun e w' => e = .returned (.int .i64 (seqE (fun _ => f) n a - a : Nat)) ∧ w = w' := by
  obtain ⟨g, cap, rfl, hc⟩ := H
  obtain ⟨S, hS0, hSn, hSl⟩ : ∃ S : Nat → Nat, S 0 = a ∧ (∀ j, S (j + 1) = S j + (f (S j % 8) - S j % 8)) ∧ ∀ j, S j = seqE (fun _ => f) j a := ⟨fun j => seqE (fun _ => f) j a, rfl, fun j => good_add hf _, fun _ => rfl⟩
  rw [← hSl]
  have hge : ∀ j, a ≤ S j ∧ S j ≤ a + j * 1000000000000 := by
    intro j
    induction j with
    | zero => rw [hS0]; omega
    | succ j ih =>
      rw [hSn j, Nat.succ_mul]
      have := (hc (S j % 8) (Nat.mod_lt _ (by decide))).2
      omega
  have HG := Lib.hid hge
  have HS0 := Lib.hid hS0
  have HSN := Lib.hid hSn
  have HC := Lib.hid hc
  clear hS0 hSn hSl hc hge hf
  go_enter Tryz.func33, Tryz.ntmps33
  go_wp2
  go_loopw [7, 8] (fun s i wr => ∃ j : Nat, j ≤ n ∧ i = .int .i64 j ∧ (∃ x : Nat, s = .int .i64 (x : Nat) ∧ S j = a + x) ∧ w = wr) (fun _ i _ => n - (intOf i).toNat)
  case atStart => exact ⟨0, Nat.zero_le _, rfl, ⟨0, rfl, by rw [HS0.out]; rfl⟩, rfl⟩
  case round =>
    obtain ⟨j, hj, rfl, ⟨x, rfl, hx⟩, rfl⟩ := hrel
    by_cases hlt : j < n
    · have hg := HG.out j
      have hmul : j * 1000000000000 ≤ n * 1000000000000 := Nat.mul_le_mul_right _ hj
      have hr8 : (a + x) % 8 < 8 := Nat.mod_lt _ (by decide)
      obtain ⟨c, hd⟩ := HC.out ((a + x) % 8) hr8
      have hN := HSN.out j
      rw [hx] at hN hg
      have hi : (((a : Int) + (x : Int)) % 8) = (((a + x) % 8 : Nat) : Int) := by omega
      have hxl : x ≤ 2000000000000000 := by omega
      have hal : a ≤ 2000000000000000 := by omega
      obtain ⟨r, hr⟩ : ∃ r, (a + x) % 8 = r := ⟨_, rfl⟩
      rw [hr] at c hd hN hi hr8
      obtain ⟨d, hdd⟩ : ∃ d, f r - r = d := ⟨_, rfl⟩
      rw [hdd] at c hd hN
      have HN := Lib.hid hN
      clear hN hx hg hmul hr hdd
      go_wp2
      go_roundw
      case rel => exact ⟨j + 1, by omega, by go_num, ⟨x + d, by go_num, by rw [HN.out]; omega⟩, by first | rfl | trivial⟩
      case measure => simp [intOf]; omega
    · obtain rfl : j = n := by omega
      have HX := Lib.hid hx
      clear hx
      go_wp2
      go_ret
      exact ⟨ret_i (by have := HX.out; omega), rfl⟩
/-- the bytes of the types ahead -/
def DoneAt (E : Nat → Nat → Nat) (n : Nat) (v : Value) (w : World) : Prop := ∃ a cap, v = .slice a n cap ∧ ∀ p, p < n → ∃ g u, a = some ⟨g, 0, none⟩ ∧ w.cell? ⟨g, p, none⟩ = some u ∧ EightAt (E p) u w
theorem DoneAt.held {E : Nat → Nat → Nat} {n : Nat} {v : Value} {w w1 : World} (h : DoneAt E n v w) (hb : Below w.heap.size w w1) : DoneAt E n v w1 := by
  obtain ⟨a, cap, e, hc⟩ := h
  refine ⟨a, cap, e, fun p hp => ?_⟩
  obtain ⟨g, u, h1, h2, h3⟩ := hc p hp
  exact ⟨g, u, h1, keep6 hb h2, h3.held hb⟩
/-- the best so far -/
def bestZ (most op : Bool) (a : Nat) (y : Nat → Nat) (j : Nat) : Int :=
  if op then ((pickN most (unX op a y) j - a : Nat) : Int) else if j = 0 then -1 else ((pickN most (unX op a y) (j - 1) - a : Nat) : Int)
def overB (most : Bool) (b n : Int) : Bool := decide (b < 0) || (most && decide (b < n)) || (!most && decide (n < b))
theorem pick_ge {m op : Bool} {a : Nat} {y : Nat → Nat} (n : Nat) (hy : ∀ j, j ≤ n → a ≤ y j) : a ≤ pickN m (unX op a y) n := pick_lo n fun i hi => by
  unfold unX; split
  · split
    · exact Nat.le_refl _
    · exact hy _ (by omega)
  · exact hy _ hi
theorem best_next {most op : Bool} {a : Nat} {y : Nat → Nat} (j : Nat) (hy : ∀ i, i ≤ j → a ≤ y i) : bestZ most op a y (j + 1) = if overB most (bestZ most op a y j) ((y j - a : Nat) : Int) then ((y j - a : Nat) : Int) else bestZ most op a y j := by
  have hyj := hy j (Nat.le_refl _)
  unfold bestZ overB
  cases op with
  | true =>
    have hx : unX true a y (j + 1) = y j := by unfold unX; simp
    have hp := pick_ge (m := most) (op := true) j hy
    simp only [if_true, pickN, hx]
    cases most with
    | true =>
      simp
      by_cases c : pickN true (unX true a y) j < y j
      · rw [if_pos (by omega)]; omega
      · rw [if_neg (by omega)]; omega
    | false =>
      simp
      by_cases c : y j < pickN false (unX true a y) j
      · rw [if_pos (by omega)]; omega
      · rw [if_neg (by omega)]; omega
  | false =>
    by_cases hj : j = 0
    · subst hj
      simp [pickN, unX]
    · obtain ⟨k, rfl⟩ : ∃ k, j = k + 1 := ⟨j - 1, by omega⟩
      have hx : unX false a y (k + 1) = y (k + 1) := by unfold unX; simp
      have hp := pick_ge (m := most) (op := false) k (fun i hi => hy i (by omega))
      simp only [Bool.false_eq_true, if_false, Nat.add_sub_cancel, pickN, hx, Nat.succ_ne_zero]
      cases most with
      | true =>
        simp
        by_cases c : pickN true (unX false a y) k < y (k + 1)
        · rw [if_pos (by omega)]; omega
        · rw [if_neg (by omega)]; omega
      | false =>
        simp
        by_cases c : y (k + 1) < pickN false (unX false a y) k
        · rw [if_pos (by omega)]; omega
        · rw [if_neg (by omega)]; omega
theorem best_last {most op : Bool} {a n : Nat} {y : Nat → Nat} (hn : 1 ≤ n) : bestZ most op a y n = ((unionE most op a y n - a : Nat) : Int) := by
  unfold bestZ unionE unN
  cases op with
  | true => simp
  | false => simp; omega
set_option maxRecDepth 20000 in
set_option maxHeartbeats 1000000 in
theorem branch7_any (T : TypeV) (P : Nat → Nat) (E : Nat → Nat → Nat) (n a : Nat) (dv : Value) (most op : Bool) (hn1 : 1 ≤ T.ilen) (hn2 : T.ilen ≤ 16) (hP : ∀ j, j < T.ilen → (T.items j).type = (P j : Nat) ∧ P j < n) (hE : ∀ p, p < n → Good (E p)) (ha : a ≤ 1000000000000)
    (w : World) (HI0 : ItemsAt w T) (HD0 : DoneAt E n dv w) :
    Calls Tryz.prog 34 #[typV T, dv, .int .i64 (a : Nat), .bool most, .bool op] w fun e w' => e = .returned (.int .i64 (unionE most op a (fun j => E (P j) a) T.ilen - a : Nat)) ∧ Below w.heap.size w w' := by
  obtain ⟨y, hy⟩ : ∃ y : Nat → Nat, (fun j => E (P j) a) = y := ⟨_, rfl⟩
  have hyj : ∀ j, E (P j) a = y j := fun j => congrFun hy j
  rw [hy]
  have hya : ∀ j, j < T.ilen → a ≤ y j := fun j hj => by rw [← hyj]; exact Nat.le_of_lt ((hE _ (hP j hj).2).inc a)
  have HF := Lib.hid (best_last (most := most) (op := op) (a := a) (y := y) hn1)
  have HNX := Lib.hid (fun j (hj : j < T.ilen) => best_next (most := most) (op := op) (a := a) (y := y) j (fun i hi => hya i (by omega)))
  have hrow := fun j (hj : j < T.ilen) (u : Value) (wx : World) (hu : EightAt (E (P j)) u wx) => row_any (E (P j)) u 1 a (hE _ (hP j hj).2) (by decide) (by omega) wx hu
  have hs1 : ∀ j, seqE (fun _ => E (P j)) 1 a = y j := fun j => hyj j
  simp only [hs1] at hrow
  have HROW := Lib.hid hrow
  have HPP := Lib.hid hP
  clear hrow hs1 hya hyj hy hP hE
  obtain ⟨da, dcap, rfl, hdn⟩ := HD0
  have HDN := Lib.hid (show DoneAt E n (.slice da n dcap) w from ⟨da, dcap, rfl, hdn⟩)
  clear hdn
  obtain ⟨hil, hit⟩ := HI0
  obtain ⟨ia, hia⟩ : ∃ ia, T.ia = ia := ⟨_, rfl⟩
  rw [hia] at hit
  have HI := Lib.hid hit
  have hst := BoxT.start T w
  unfold typO at hst
  rw [hia] at hst
  have HX := Lib.hid hst
  have HIA := Lib.hid hia
  unfold typV
  rw [hia]
  clear hst hit hia
  obtain ⟨Z, hZ⟩ : ∃ Z : Nat → Int, (fun j => bestZ most op a y j) = Z := ⟨_, rfl⟩
  have hZj : ∀ j, bestZ most op a y j = Z j := fun j => congrFun hZ j
  have hz0 : Z 0 = if op then 0 else -1 := by
    rw [← hZj]; unfold bestZ
    cases op with
    | true => simp [pickN, unX]
    | false => simp
  have hF := HF.out
  have hNX := HNX.out
  simp only [hZj] at hF hNX
  have HFZ := Lib.hid hF
  have HNZ := Lib.hid hNX
  clear HF HNX
  have HZ0 := Lib.hid hz0
  clear hF hNX hz0 hZj hZ
  have hstart : Calls Tryz.prog 34 #[.agg #[.int .i64 T.kind, .string T.name, .int .i64 T.bound, .int .i64 T.of, .int .i64 T.tag, .slice ia T.ilen T.icap], .slice da n dcap, .int .i64 (a : Nat), .bool most, .bool op] w fun e w' => e = .returned (.int .i64 (Z T.ilen)) ∧ Below w.heap.size w w' := by
    cases op
    all_goals
      have hz0 := HZ0.out
      simp only [if_true, if_false, Bool.false_eq_true] at hz0
      have HZ1 := Lib.hid hz0
      clear hz0
      go_enter Tryz.func34, Tryz.ntmps34
      go_upto_region 1 with (fail)
      generalize (w.alloc (.cells #[.int .i64 T.kind, .string T.name, .int .i64 T.bound, .int .i64 T.of, .int .i64 T.tag, .slice ia T.ilen T.icap] 35)) = wb at *
      go_wp2
      go_loopw [11, 12] (fun b i wr => ∃ j : Nat, j ≤ T.ilen ∧ i = .int .i64 j ∧ b = .int .i64 (Z j) ∧ Hid (BoxT w.heap.size T w wr)) (fun _ i _ => T.ilen - (intOf i).toNat)
      case atStart => exact ⟨0, Nat.zero_le _, rfl, by rw [HZ1.out], HX⟩
      case round =>
        obtain ⟨j, hj, rfl, rfl, HX2⟩ := hrel
        obtain ⟨d0, d1, d2, d3, d4, d5⟩ := HX2.out.cells
        rw [HIA.out] at d5
        by_cases hlt : j < T.ilen
        · obtain ⟨hp1, hp2⟩ := HPP.out j hlt
          obtain ⟨b2, off2, rfl, e0, e1, e2, e3, e4, wi⟩ := (HI.out j hlt).held (w1 := wr) HX2.out.2
          obtain ⟨da', dcap', hde, hdn⟩ := HDN.out.held HX2.out.2
          injection hde with hd1 hd2 hd3
          subst hd1 hd3
          obtain ⟨gd, u, rfl, cu, hu⟩ := hdn (P j) hp2
          have HR := Lib.hid (HROW.out j hlt u wr hu)
          have hN := HNZ.out j hlt
          rw [hp1] at e2
          obtain ⟨x, hx⟩ : ∃ x : Nat, y j - a = x := ⟨_, rfl⟩
          obtain ⟨z, hz⟩ : ∃ z, Z j = z := ⟨_, rfl⟩
          have hRR := HR.out
          rw [hx] at hN hRR
          rw [hz] at hN ⊢
          have HR := Lib.hid hRR
          have HN := Lib.hid hN
          obtain ⟨p, hpp⟩ : ∃ p, P j = p := ⟨_, rfl⟩
          rw [hpp] at e2 cu hp2
          clear hN hRR hdn hu hp1 hx hz hpp e0 e1 e3 e4 wi
          by_cases h0 : z < 0
          · have HN2 := Lib.hid (show Z (j + 1) = (x : Int) by rw [HN.out]; unfold overB; rw [decide_eq_true h0]; simp)
            have g0 : decide (z < 0) = true := decide_eq_true h0
            clear h0
            go_wp2_with (go_at_call 33; refine HR.out.mono ?_; rintro e w1 ⟨rfl, rfl⟩)
            go_roundw
            case rel => exact ⟨j + 1, by omega, by go_num, by rw [HN2.out], HX2⟩
            case measure => simp [intOf]; omega
          · have g0 : decide (z < 0) = false := decide_eq_false h0
            cases most with
            | true =>
              by_cases h1 : z < (x : Int)
              · have HN2 := Lib.hid (show Z (j + 1) = (x : Int) by rw [HN.out]; unfold overB; rw [decide_eq_true h1]; simp)
                have g1 : decide (z < (x : Int)) = true := decide_eq_true h1
                clear h0 h1
                go_wp2_with (go_at_call 33; refine HR.out.mono ?_; rintro e w1 ⟨rfl, rfl⟩)
                go_roundw
                case rel => exact ⟨j + 1, by omega, by go_num, by rw [HN2.out], HX2⟩
                case measure => simp [intOf]; omega
              · have HN2 := Lib.hid (show Z (j + 1) = z by rw [HN.out]; unfold overB; rw [decide_eq_false h1, decide_eq_false h0]; simp)
                have g1 : decide (z < (x : Int)) = false := decide_eq_false h1
                clear h0 h1
                go_wp2_with (go_at_call 33; refine HR.out.mono ?_; rintro e w1 ⟨rfl, rfl⟩)
                go_roundw
                case rel => exact ⟨j + 1, by omega, by go_num, by rw [HN2.out], HX2⟩
                case measure => simp [intOf]; omega
            | false =>
              by_cases h1 : (x : Int) < z
              · have HN2 := Lib.hid (show Z (j + 1) = (x : Int) by rw [HN.out]; unfold overB; rw [decide_eq_true h1]; simp)
                have g1 : decide ((x : Int) < z) = true := decide_eq_true h1
                clear h0 h1
                go_wp2_with (go_at_call 33; refine HR.out.mono ?_; rintro e w1 ⟨rfl, rfl⟩)
                go_roundw
                case rel => exact ⟨j + 1, by omega, by go_num, by rw [HN2.out], HX2⟩
                case measure => simp [intOf]; omega
              · have HN2 := Lib.hid (show Z (j + 1) = z by rw [HN.out]; unfold overB; rw [decide_eq_false h1, decide_eq_false h0]; simp)
                have g1 : decide ((x : Int) < z) = false := decide_eq_false h1
                clear h0 h1
                go_wp2_with (go_at_call 33; refine HR.out.mono ?_; rintro e w1 ⟨rfl, rfl⟩)
                go_roundw
                case rel => exact ⟨j + 1, by omega, by go_num, by rw [HN2.out], HX2⟩
                case measure => simp [intOf]; omega
        · obtain rfl : j = T.ilen := by omega
          go_wp2
          go_ret
          exact ⟨rfl, HX2.out.2⟩
  rw [HFZ.out] at hstart
  exact hstart
/-- a type's box, beside others -/
def TBox (b : Nat) (T : TypeV) (w0 w : World) : Prop := w.heap[b]? = some (typO T) ∧ Below w0.heap.size w0 w
theorem TBox.cells {b : Nat} {T : TypeV} {w0 w : World} (h : TBox b T w0 w) : w.cell? ⟨b, 0, none⟩ = some (.int .i64 T.kind) ∧ w.cell? ⟨b, 5, none⟩ = some (.slice T.ia T.ilen T.icap) := ⟨cell_at h.1 rfl, cell_at h.1 rfl⟩
theorem TBox.drewN {b : Nat} {T : TypeV} {w0 w : World} (h : TBox b T w0 w) (m : Nat) : TBox b T w0 (w.drewN m) := by
  have hb := drewN_below (Below.refl w.heap.size w) m
  exact ⟨(hb.block b (lt_of_block h.1)).trans h.1, drewN_below h.2 m⟩
theorem any_nums {T : TypeV} {q : Int → Bool} : ∀ (n : Nat), (∀ j, j < n → q (T.items j).num = false) → (numsL T n).any q = false := fun n h => by
  rw [List.any_eq_false]
  intro x hx
  obtain ⟨j, hj, rfl⟩ := List.mem_map.1 hx
  rw [h j (List.mem_range.1 hj)]; decide
theorem any_nums_hit {T : TypeV} {q : Int → Bool} {n j : Nat} (hj : j < n) (h : q (T.items j).num = true) : (numsL T n).any q = true :=
  List.any_eq_true.2 ⟨_, List.mem_map.2 ⟨j, List.mem_range.2 hj, rfl⟩, h⟩
theorem any_may {k : Int} {q : Int → Bool} : ∀ (n : Nat), (∀ j, j < n → (mayK k (j : Nat) && q (j : Nat)) = false) → (mayL k n).any q = false
  | 0, _ => rfl
  | n + 1, h => by
    have ih := any_may n (fun j hj => h j (by omega))
    have hn := h n (Nat.lt_succ_self n)
    unfold mayL
    split
    · rename_i c
      rw [c] at hn
      rw [List.any_append, ih]
      simpa using hn
    · exact ih
theorem any_may_hit {k : Int} {q : Int → Bool} {j : Nat} (h1 : mayK k (j : Nat) = true) (h2 : q (j : Nat) = true) : ∀ (n : Nat), j < n → (mayL k n).any q = true
  | 0, h => by omega
  | n + 1, h => by
    by_cases c : j = n
    · subst c
      unfold mayL
      rw [if_pos h1, List.any_append]
      simp [h2]
    · have ih := any_may_hit h1 h2 n (by omega)
      unfold mayL
      split
      · rw [List.any_append, ih]; rfl
      · exact ih
set_option maxRecDepth 20000 in
set_option maxHeartbeats 1000000 in
theorem refOpen_enum (ao : Option Addr) (len cap : Nat) (L : Nat → TypeV) (t p : Nat) (hlen : len ≤ 1000000) (ht : t < len) (hp : p < len) (hk : (L t).kind = 14) (htag : (L t).tag = (p : Nat)) (h9 : (L p).kind = 9) (w : World) (H : ∀ i, i < len → TypeAt w ao i (L i)) :
    Calls Tryz.prog 7 #[.slice ao len cap, .int .i64 (t : Nat)] w fun e w' => e = .returned (.bool (openT L len t)) ∧ Below w.heap.size w w' := by
  have hbr := fun n wx (hb : Below w.heap.size w wx) => refBranch_any ao len cap L (t : Nat) n (by omega) wx (hold H hb)
  have hO : openT L len t = (numsL (L p) (L p).ilen).any (fun n => decide (branchL L len (t : Nat) n < 0)) := by unfold openT; rw [htag]; show (tagsT (L p)).any _ = _; unfold tagsT; rw [if_pos h9]
  rw [hO]
  obtain ⟨Q, hQ⟩ : ∃ Q : Int → Int, (fun n => branchL L len (t : Nat) n) = Q := ⟨_, rfl⟩
  have hQn : ∀ n, branchL L len (t : Nat) n = Q n := fun n => congrFun hQ n
  simp only [hQn] at hbr ⊢
  have HBR := Lib.hid hbr
  obtain ⟨b, off, rfl, t0, t1, t2, t3, t4, t5, twf, tis⟩ := H t ht
  obtain ⟨b', off', e, s0, s1, s2, s3, s4, s5, swf, sil, sit⟩ := H p hp
  injection e with e; injection e with e1 e2; subst e1 e2
  have hbl : b < w.heap.size := World.block_lt_of_cell? w _ t0
  obtain ⟨T, hT⟩ : ∃ T, L t = T := ⟨_, rfl⟩
  obtain ⟨U, hU⟩ : ∃ U, L p = U := ⟨_, rfl⟩
  rw [hT] at t0 t1 t2 t3 t4 t5 hk htag
  rw [hU] at s0 s1 s2 s3 s4 s5 sil sit h9 ⊢
  obtain ⟨ia, hia⟩ : ∃ ia, U.ia = ia := ⟨_, rfl⟩
  rw [htag] at t4
  rw [hia] at s5 sit
  have hO1 : typO T = .cells #[.int .i64 T.kind, .string T.name, .int .i64 T.bound, .int .i64 T.of, .int .i64 (p : Nat), .slice T.ia T.ilen T.icap] 35 := by unfold typO; rw [htag]
  have hO2 : typO U = .cells #[.int .i64 U.kind, .string U.name, .int .i64 U.bound, .int .i64 U.of, .int .i64 U.tag, .slice ia U.ilen U.icap] 35 := by unfold typO; rw [hia]
  have hst : TBox (w.heap.size + 1) U w ((w.alloc (typO T)).alloc (typO U)) := ⟨by have := alloc_at (w.alloc (typO T)) (typO U); simpa using this, ((Below.refl w.heap.size w).alloc (Nat.le_refl _) _).alloc (by simp) _⟩
  have hst1 : (w.alloc (typO T)).heap[w.heap.size]? = some (typO T) := alloc_at w _
  have hal := (Below.refl w.heap.size w).alloc (Nat.le_refl _) (typO T)
  rw [hO1] at hst1 hal hst
  rw [hO2] at hst
  have d4 := cell_at (j := 4) hst1 rfl
  have d0 := cell_at (j := 0) hst1 rfl
  have s0' := keep6 hal s0
  have s1' := keep6 hal s1
  have s2' := keep6 hal s2
  have s3' := keep6 hal s3
  have s4' := keep6 hal s4
  have s5' := keep6 hal s5
  have hsz : (w.alloc (.cells #[.int .i64 T.kind, .string T.name, .int .i64 T.bound, .int .i64 T.of, .int .i64 (p : Nat), .slice T.ia T.ilen T.icap] 35)).heap.size = w.heap.size + 1 := by simp
  have k14 : (T.kind != 14) = false := by simp; omega
  have k9 : (U.kind == 9) = true := by simp; omega
  have HX := Lib.hid hst
  have HI := Lib.hid sit
  have HIA := Lib.hid hia
  clear hst hst1 hal hbr H hT hU hO hk h9 hia sit hQ hQn hO1 hO2 htag
  go_enter Tryz.func7, Tryz.ntmps7
  go_upto_region 4 with (fail)
  generalize (w.alloc (.cells #[.int .i64 T.kind, .string T.name, .int .i64 T.bound, .int .i64 T.of, .int .i64 (p : Nat), .slice T.ia T.ilen T.icap] 35)) = wa at *
  clear t0 t1 t2 t3 t4 t5 s0 s1 s2 s3 s4 s5
  go_upto_region 7 with (fail)
  generalize (wa.alloc (.cells #[.int .i64 U.kind, .string U.name, .int .i64 U.bound, .int .i64 U.of, .int .i64 U.tag, .slice ia U.ilen U.icap] 35)) = wb at *
  clear d0 d4 s0' s1' s2' s3' s4' s5' k14 k9 hsz
  obtain ⟨q0, q5⟩ := HX.out.cells
  rw [HIA.out] at q5
  go_loopw [7] (fun i wr => ∃ j : Nat, j ≤ U.ilen ∧ i = .int .i64 j ∧ Hid (∀ m, m < j → decide (Q (U.items m).num < 0) = false) ∧ wb = wr) (fun i _ => U.ilen - (intOf i).toNat)
  case atStart => exact ⟨0, Nat.zero_le _, rfl, Lib.hid (fun m hm => by omega), rfl⟩
  case round =>
    obtain ⟨j, hj, rfl, HN, rfl⟩ := hrel
    by_cases hlt : j < U.ilen
    · obtain ⟨b2, off2, rfl, e0, e1, e2, e3, e4, wi⟩ := (HI.out j hlt).held (w1 := wb) HX.out.2
      have hb := HBR.out (U.items j).num wb HX.out.2
      cases hq : decide (Q (U.items j).num < 0) with
      | true =>
        have HF := Lib.hid (any_nums_hit (T := U) (q := fun n => decide (Q n < 0)) hlt hq)
        have hq2 : Q (U.items j).num < 0 := by simpa using hq
        have HB := Lib.hid hb
        clear hb
        go_wp2_with (go_at_call 13; refine HB.out.mono ?_; rintro e w1 ⟨rfl, rfl⟩)
        go_ret
        exact ⟨by rw [HF.out]; rfl, HX.out.2⟩
      | false =>
        have HN2 := Lib.hid (show ∀ m, m < j + 1 → decide (Q (U.items m).num < 0) = false from fun m hm => by
          by_cases c : m = j
          · subst c; exact hq
          · exact HN.out m (by omega))
        have hq2 : ¬ Q (U.items j).num < 0 := by simpa using hq
        have HB := Lib.hid hb
        clear hb
        go_wp2_with (go_at_call 13; refine HB.out.mono ?_; rintro e w1 ⟨rfl, rfl⟩)
        go_roundw
        case rel => exact ⟨j + 1, by omega, by go_num, HN2, by first | rfl | trivial⟩
        case measure => simp [intOf]; omega
    · obtain rfl : j = U.ilen := by omega
      have HF := Lib.hid (any_nums (T := U) (q := fun n => decide (Q n < 0)) U.ilen HN.out)
      go_wp2
      go_ret
      exact ⟨by rw [HF.out]; rfl, HX.out.2⟩
set_option maxRecDepth 20000 in
set_option maxHeartbeats 1000000 in
theorem refOpen_may (ao : Option Addr) (len cap : Nat) (L : Nat → TypeV) (t p : Nat) (hlen : len ≤ 1000000) (ht : t < len) (hp : p < len) (hk : (L t).kind = 14) (htag : (L t).tag = (p : Nat)) (h9 : ¬ (L p).kind = 9) (w : World) (H : ∀ i, i < len → TypeAt w ao i (L i)) :
    Calls Tryz.prog 7 #[.slice ao len cap, .int .i64 (t : Nat)] w fun e w' => e = .returned (.bool (openT L len t)) ∧ Below w.heap.size w w' := by
  have hbr := fun n wx (hb : Below w.heap.size w wx) => refBranch_any ao len cap L (t : Nat) n (by omega) wx (hold H hb)
  have hO : openT L len t = (mayL (L p).kind 17).any (fun n => decide (branchL L len (t : Nat) n < 0)) := by unfold openT; rw [htag]; show (tagsT (L p)).any _ = _; unfold tagsT; rw [if_neg h9]
  rw [hO]
  obtain ⟨N, hN⟩ : ∃ N : Nat, N = 17 := ⟨_, rfl⟩
  rw [← hN]
  have HNN := Lib.hid hN
  clear hN
  obtain ⟨Q, hQ⟩ : ∃ Q : Int → Int, (fun n => branchL L len (t : Nat) n) = Q := ⟨_, rfl⟩
  have hQn : ∀ n, branchL L len (t : Nat) n = Q n := fun n => congrFun hQ n
  simp only [hQn] at hbr ⊢
  have HBR := Lib.hid hbr
  obtain ⟨b, off, rfl, t0, t1, t2, t3, t4, t5, twf, tis⟩ := H t ht
  obtain ⟨b', off', e, s0, s1, s2, s3, s4, s5, swf, sil, sit⟩ := H p hp
  injection e with e; injection e with e1 e2; subst e1 e2
  have hbl : b < w.heap.size := World.block_lt_of_cell? w _ t0
  obtain ⟨T, hT⟩ : ∃ T, L t = T := ⟨_, rfl⟩
  obtain ⟨U, hU⟩ : ∃ U, L p = U := ⟨_, rfl⟩
  rw [hT] at t0 t1 t2 t3 t4 t5 hk htag
  rw [hU] at s0 s1 s2 s3 s4 s5 sil sit h9 ⊢
  obtain ⟨ia, hia⟩ : ∃ ia, U.ia = ia := ⟨_, rfl⟩
  rw [htag] at t4
  rw [hia] at s5 sit
  have hO1 : typO T = .cells #[.int .i64 T.kind, .string T.name, .int .i64 T.bound, .int .i64 T.of, .int .i64 (p : Nat), .slice T.ia T.ilen T.icap] 35 := by unfold typO; rw [htag]
  have hO2 : typO U = .cells #[.int .i64 U.kind, .string U.name, .int .i64 U.bound, .int .i64 U.of, .int .i64 U.tag, .slice ia U.ilen U.icap] 35 := by unfold typO; rw [hia]
  have hst : TBox (w.heap.size + 1) U w ((w.alloc (typO T)).alloc (typO U)) := ⟨by have := alloc_at (w.alloc (typO T)) (typO U); simpa using this, ((Below.refl w.heap.size w).alloc (Nat.le_refl _) _).alloc (by simp) _⟩
  have hst1 : (w.alloc (typO T)).heap[w.heap.size]? = some (typO T) := alloc_at w _
  have hal := (Below.refl w.heap.size w).alloc (Nat.le_refl _) (typO T)
  rw [hO1] at hst1 hal hst
  rw [hO2] at hst
  have d4 := cell_at (j := 4) hst1 rfl
  have d0 := cell_at (j := 0) hst1 rfl
  have s0' := keep6 hal s0
  have s1' := keep6 hal s1
  have s2' := keep6 hal s2
  have s3' := keep6 hal s3
  have s4' := keep6 hal s4
  have s5' := keep6 hal s5
  have hsz : (w.alloc (.cells #[.int .i64 T.kind, .string T.name, .int .i64 T.bound, .int .i64 T.of, .int .i64 (p : Nat), .slice T.ia T.ilen T.icap] 35)).heap.size = w.heap.size + 1 := by simp
  have k14 : (T.kind != 14) = false := by simp; omega
  have k9 : (U.kind == 9) = false := by simp; omega
  have HX := Lib.hid hst
  have HI := Lib.hid sit
  have HIA := Lib.hid hia
  clear hst hst1 hal hbr H hT hU hO hk h9 hia sit hQ hQn hO1 hO2 htag
  go_enter Tryz.func7, Tryz.ntmps7
  go_upto_region 4 with (fail)
  generalize (w.alloc (.cells #[.int .i64 T.kind, .string T.name, .int .i64 T.bound, .int .i64 T.of, .int .i64 (p : Nat), .slice T.ia T.ilen T.icap] 35)) = wa at *
  clear t0 t1 t2 t3 t4 t5 s0 s1 s2 s3 s4 s5
  go_upto_region 13 with (fail)
  generalize (wa.alloc (.cells #[.int .i64 U.kind, .string U.name, .int .i64 U.bound, .int .i64 U.of, .int .i64 U.tag, .slice ia U.ilen U.icap] 35)) = wb at *
  clear d0 d4 s0' s1' s2' s3' s4' s5' k14 k9 hsz
  go_loopw [8] (fun i wr => ∃ j : Nat, j ≤ N ∧ i = .int .u64 j ∧ Hid (∀ m, m < j → (mayK U.kind (m : Nat) && decide (Q (m : Nat) < 0)) = false) ∧ Hid (TBox (w.heap.size + 1) U w wr)) (fun i _ => N - (intOf i).toNat)
  case atStart => exact ⟨0, Nat.zero_le _, rfl, Lib.hid (fun m hm => by omega), HX⟩
  case round =>
    obtain ⟨j, hj, rfl, HN, HX2⟩ := hrel
    have hN := HNN.out
    obtain ⟨q0, q5⟩ := HX2.out.cells
    by_cases hlt : j < N
    · have hm := fun wx => refKMay_any U.kind (j : Nat) (WalkArith.wf_u64 (by omega)) wx
      have hb := HBR.out (j : Nat)
      cases hq : mayK U.kind (j : Nat) with
      | false =>
        rw [hq] at hm
        have HN2 := Lib.hid (show ∀ m, m < j + 1 → (mayK U.kind (m : Nat) && decide (Q (m : Nat) < 0)) = false from fun m hm => by
          by_cases c : m = j
          · subst c; rw [hq]; rfl
          · exact HN.out m (by omega))
        have HM := Lib.hid hm
        clear hm hb hq
        go_wp2_with (go_at_call 14; refine (HM.out _).mono ?_; rintro e w1 ⟨rfl, md, rfl⟩; have HX3 := Lib.hid (HX2.out.drewN md))
        go_roundw
        case rel => exact ⟨j + 1, by omega, by go_num, HN2, HX3⟩
        case measure => simp [intOf]; omega
      | true =>
        rw [hq] at hm
        have HM := Lib.hid hm
        cases hq2 : decide (Q (j : Nat) < 0) with
        | true =>
          have HF := Lib.hid (any_may_hit (k := U.kind) (q := fun n => decide (Q n < 0)) hq hq2 N hlt)
          have hq3 : Q (j : Nat) < 0 := by simpa using hq2
          have HB := Lib.hid hb
          clear hm hb hq hq2
          go_wp2_with (first
            | (go_at_call 14; refine (HM.out _).mono ?_; rintro e w1 ⟨rfl, md, rfl⟩; have HX3 := Lib.hid (HX2.out.drewN md))
            | (go_at_call 13; refine (HB.out _ HX3.out.2).mono ?_; rintro e w2 ⟨rfl, rfl⟩))
          go_ret
          exact ⟨by rw [HF.out]; rfl, HX3.out.2⟩
        | false =>
          have HN2 := Lib.hid (show ∀ m, m < j + 1 → (mayK U.kind (m : Nat) && decide (Q (m : Nat) < 0)) = false from fun m hm => by
            by_cases c : m = j
            · subst c; rw [hq2]; simp
            · exact HN.out m (by omega))
          have hq3 : ¬ Q (j : Nat) < 0 := by simpa using hq2
          have HB := Lib.hid hb
          clear hm hb hq hq2
          go_wp2_with (first
            | (go_at_call 14; refine (HM.out _).mono ?_; rintro e w1 ⟨rfl, md, rfl⟩; have HX3 := Lib.hid (HX2.out.drewN md))
            | (go_at_call 13; refine (HB.out _ HX3.out.2).mono ?_; rintro e w2 ⟨rfl, rfl⟩))
          go_roundw
          case rel => exact ⟨j + 1, by omega, by go_num, HN2, HX3⟩
          case measure => simp [intOf]; omega
    · obtain rfl : j = N := by omega
      have HF := Lib.hid (any_may (k := U.kind) (q := fun n => decide (Q n < 0)) j HN.out)
      go_wp2
      go_ret
      exact ⟨by rw [HF.out]; rfl, HX2.out.2⟩
theorem refOpen7_any (ao : Option Addr) (len cap : Nat) (L : Nat → TypeV) (t : Nat) (hlen : len ≤ 1000000) (ht : t < len) (hk : (L t).kind = 14) (htag : 0 ≤ (L t).tag ∧ (L t).tag < len) (w : World) (H : ∀ i, i < len → TypeAt w ao i (L i)) :
    Calls Tryz.prog 7 #[.slice ao len cap, .int .i64 (t : Nat)] w fun e w' => e = .returned (.bool (openT L len t)) ∧ Below w.heap.size w w' := by
  obtain ⟨p, hp⟩ := Int.eq_ofNat_of_zero_le htag.1
  by_cases h9 : (L p).kind = 9
  · exact refOpen_enum ao len cap L t p hlen ht (by omega) hk hp h9 w H
  · exact refOpen_may ao len cap L t p hlen ht (by omega) hk hp h9 w H
theorem refOpen8_any (ao : Option Addr) (len cap : Nat) (L : Nat → TypeV) (t : Nat) (hlen : len ≤ 1000000) (ht : t < len) (htag : (L t).kind = 14 → 0 ≤ (L t).tag ∧ (L t).tag < len) (w : World) (H : ∀ i, i < len → TypeAt w ao i (L i)) :
    Calls Tryz.prog 7 #[.slice ao len cap, .int .i64 (t : Nat)] w fun e w' => e = .returned (.bool (((L t).kind == 14) && openT L len t)) ∧ Below w.heap.size w w' := by
  cases hk : ((L t).kind == 14) with
  | true =>
    have hk2 : (L t).kind = 14 := by simpa using hk
    exact refOpen7_any ao len cap L t hlen ht hk2 (htag hk2) w H
  | false =>
    obtain ⟨b, off, rfl, t0, t1, t2, t3, t4, t5, twf, tis⟩ := H t ht
    have hbl : b < w.heap.size := World.block_lt_of_cell? w _ t0
    obtain ⟨T, hT⟩ : ∃ T, L t = T := ⟨_, rfl⟩
    rw [hT] at t0 t1 t2 t3 t4 t5 hk
    have hst := BoxT.start T w
    unfold typO at hst
    have HX := Lib.hid hst
    have k14 : (T.kind != 14) = true := by simpa using hk
    clear hst hT htag H
    go_enter Tryz.func7, Tryz.ntmps7
    go_wp2
    go_ret
    exact ⟨rfl, HX.out.2⟩
end Go.Proofs.YtblnhoagdnnjdaaGreat
