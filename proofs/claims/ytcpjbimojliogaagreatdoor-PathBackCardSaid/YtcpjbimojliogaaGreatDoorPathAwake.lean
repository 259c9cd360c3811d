/- Chapter 12's example, the arguments' paths, and that two lists of steps are the same. -/
import Derived.Test.YtcpjbimojliogaaGreatDoorPathRefF
import Derived.Test.YtcpjbimojliogaaGreatDoorPathRefT
import Derived.Test.YtcpjbimojliogaaGreatDoorRdgSlice
namespace Go.Proofs.YtcpjbimojliogaaGreatDoor
open Go Go.RowKit
set_option linter.unusedVariables false

/-- a step's cells -/
def StepC (w : World) (pa : Option Addr) (i : Nat) (s : StepV) : Prop :=
  ∃ b off, pa = some ⟨b, off, none⟩ ∧ w.cell? ⟨b, off + i * 2, none⟩ = some (.bool s.elem) ∧ w.cell? ⟨b, off + i * 2 + 1, none⟩ = some (.int .i64 s.n)
theorem StepC.held {w w1 : World} {pa : Option Addr} {i : Nat} {s : StepV} (h : StepC w pa i s) (hb : Below w.heap.size w w1) : StepC w1 pa i s := by
  obtain ⟨b, off, e, h0, h1⟩ := h
  exact ⟨b, off, e, keep6 hb h0, keep6 hb h1⟩
theorem StepAt.c {w : World} {pa : Option Addr} {i : Nat} {s : StepV} (h : StepAt w pa i s) : StepC w pa i s := by
  obtain ⟨b, off, e, h0, h1, _⟩ := h
  exact ⟨b, off, e, h0, h1⟩
theorem flatS_get : ∀ (l : List StepV) (j : Nat) (x : StepV), l[j]? = some x → (flatS l)[j * 2]? = some (.bool x.elem) ∧ (flatS l)[j * 2 + 1]? = some (.int .i64 x.n)
  | [], j, x, h => by simp at h
  | y :: l, 0, x, h => by simp at h; subst h; exact ⟨rfl, rfl⟩
  | y :: l, j + 1, x, h => by
    have := flatS_get l j x (by simpa using h)
    simp only [flatS]
    rw [show (j + 1) * 2 = j * 2 + 1 + 1 by omega]
    simpa using this
def stepN (l : List StepV) (i : Nat) : StepV := l.getD i ⟨false, 0⟩
theorem own_steps {w : World} {base n : Nat} {v : Value} {l : List StepV} (h : w.ownsRow base 56 2 v n (flatS l)) (hn : n = l.length) : ∃ ia cp, v = .slice ia n cp ∧ ∀ i, i < n → StepC w ia i (stepN l i) := by
  obtain ⟨ia, cp, e, hc⟩ := own_cells12 h
  refine ⟨ia, cp, e, fun i hi => ?_⟩
  have hl : l[i]? = some (stepN l i) := by
    unfold stepN
    rw [List.getD_eq_getElem?_getD, List.getElem?_eq_getElem (by omega)]
    rfl
  obtain ⟨h1, h2⟩ := flatS_get l i _ hl
  obtain ⟨g, rfl, c1⟩ := hc _ _ h1
  obtain ⟨g2, hg, c2⟩ := hc _ _ h2
  obtain rfl : g = g2 := by injection hg with h; injection h
  exact ⟨g, 0, rfl, by simpa using c1, by simpa using c2⟩
set_option maxHeartbeats 1000000 in
theorem refSameC_any (aa ba : Option Addr) (n m ac bc : Nat) (A B : Nat → StepV) (hn : n ≤ 1000000) (w : World) (HA : ∀ i, i < n → StepC w aa i (A i)) (HB : ∀ i, i < m → StepC w ba i (B i)) :
    Calls Tryz.prog 12 #[.slice aa n ac, .slice ba m bc] w fun e w' => e = .returned (.bool (samePB A B n m)) ∧ Below w.heap.size w w' := by
  have hneq := step_neq
  by_cases hnm : n = m
  · subst hnm
    have kq : ((n : Int) != n) = false := by simp
    have e0 : samePB A B n n = !hasB (fun i => !sameS (A i) (B i)) n := by unfold samePB; simp
    rw [e0]
    have HAA := Lib.hid HA
    have HBB := Lib.hid HB
    clear HA HB e0
    go_enter Tryz.func12, Tryz.ntmps12
    go_wp2
    go_loopw [5] (fun i wr => ∃ k : Nat, k ≤ n ∧ i = .int .i64 k ∧ Hid (∀ j, j < k → (!sameS (A j) (B j)) = false) ∧ Below w.heap.size w wr) (fun i _ => n - (intOf i).toNat)
    case atStart => exact ⟨0, by omega, rfl, Lib.hid fun j hj => by omega, Below.refl _ _⟩
    case round =>
      obtain ⟨k, hk, rfl, H, hbl⟩ := hrel
      by_cases hlt : k < n
      · obtain ⟨ab, aof, rfl, a0, a1⟩ := (HAA.out k hlt).held hbl
        obtain ⟨bb, bof, rfl, b0, b1⟩ := (HBB.out k hlt).held hbl
        have hsm : sameS ⟨(A k).elem, (A k).n⟩ ⟨(B k).elem, (B k).n⟩ = sameS (A k) (B k) := rfl
        cases hq : sameS (A k) (B k)
        · rw [hq] at hsm
          go_wp2_with fail
          go_quiet (fail)
          go_wp2
          go_ret
          exact ⟨ret_b (by rw [hasB_some hlt (by rw [hq]; rfl)]; rfl), drewN_below hbl _⟩
        · rw [hq] at hsm
          go_wp2_with fail
          go_quiet (fail)
          go_wp2
          go_roundw
          case measure => simp [intOf]; omega
          case rel => exact ⟨k + 1, by omega, by go_num, Lib.hid (none_next H.out (by rw [hq]; rfl)), drewN_below hbl _⟩
      · obtain rfl : k = n := by omega
        go_wp2
        go_ret
        exact ⟨ret_b (by rw [hasB_none H.out]; rfl), hbl⟩
  · have kq : ((n : Int) != m) = true := by simp; omega
    have e0 : samePB A B n m = false := by unfold samePB; simp [hnm]
    rw [e0]
    clear e0 hnm
    go_enter Tryz.func12, Tryz.ntmps12
    go_wp2
    go_ret
    exact ⟨rfl, Below.refl _ _⟩
theorem sameS_refl (a : StepV) : sameS a a = true := by unfold sameS; simp
theorem sameS_eq {a b : StepV} (h : sameS a b = true) : a = b := by
  unfold sameS at h
  simp at h
  cases a; cases b
  simp at h
  rw [h.1, h.2]
theorem samePB_refl (A : Nat → StepV) (n : Nat) : samePB A A n n = true := by
  unfold samePB
  rw [hasB_none (fun j _ => by rw [sameS_refl]; rfl)]
  simp

section
variable {H : Type} {enc : TypeId × Value → H} {w : World}
theorem steps_of {v : Value} (h : v = .slice none 0 0 ∨ ∃ (a : Addr) (len cap : Nat), v = .slice (some a) len cap ∧ len ≤ cap ∧ cap ≤ maxLen ∧ cap * Tryz.prog.bytesOf 56 ≤ 140737488351232 ∧
      ∀ i, i < cap → ∃ c : List Value, w.cells? 0 (a.add (i * 2)) 2 = some c ∧ Rdg enc Tryz.prog w 56 c) :
    ∃ (pa : Option Addr) (n pc : Nat) (P : Nat → StepV), v = .slice pa n pc ∧ n ≤ pc ∧ n ≤ 140737488351232 ∧ ∀ i, i < n → StepAt w pa i (P i) := by
  rcases h with rfl | ⟨a, len, cap, rfl, hl, hm, hby, hx⟩
  · exact ⟨none, 0, 0, fun _ => ⟨false, 0⟩, rfl, Nat.le_refl _, Nat.zero_le _, fun i hi => absurd hi (Nat.not_lt_zero i)⟩
  · have hq : ∀ i, i < len → ∃ s : StepV, StepAt w (some a) i s := by
      intro i hi
      obtain ⟨b, off, rfl, hc⟩ := slice_at (by omega) (by omega) hx
      obtain ⟨c, hcl, hat, hr⟩ := hc i (by omega)
      obtain ⟨x0, e0⟩ := rdg_bool Tryz.underlying4 (rdg_field Tryz.underlying56 hr 0 4 0 1 rfl (by kernel_rfl))
      obtain ⟨x1, e1, w1⟩ := rdg_int Tryz.underlying3 (rdg_field Tryz.underlying56 hr 1 3 1 1 rfl (by kernel_rfl))
      match c, hcl with
      | [c0, c1], _ =>
        simp at e0 e1
        subst e0 e1
        exact ⟨⟨x0, x1⟩, b, off, rfl, hat 0 (by omega), hat 1 (by omega), w1⟩
    obtain ⟨L, hL⟩ := skolem hq
    have hz : Tryz.prog.bytesOf 56 = 16 := by kernel_rfl
    rw [hz] at hby
    exact ⟨some a, len, cap, L, rfl, hl, by omega, hL⟩
end

def exPP : Nat → ItemV := fun _ => ⟨⟨#[98]⟩, 0, 1, false, false⟩
def exPQ : Nat → ItemV := fun _ => ⟨⟨#[97]⟩, 0, 2, false, false⟩
def exP (g h : Nat) : Nat → TypeV := fun i => if i = 0 then noneT 2 0 0 else if i = 1 then noneT 11 3 0 else if i = 2 then ⟨13, ⟨#[80]⟩, 0, 0, 0, some ⟨g, 0, none⟩, 1, 1, exPP⟩ else ⟨13, ⟨#[81]⟩, 0, 0, 0, some ⟨h, 0, none⟩, 1, 1, exPQ⟩
def exPPO : Obj := .cells #[.string ⟨#[98]⟩, .int .u64 0, .int .i64 1, .bool false, .bool false] 54
def exPQO : Obj := .cells #[.string ⟨#[97]⟩, .int .u64 0, .int .i64 2, .bool false, .bool false] 54
def exPTO (g h : Nat) : Obj := .cells #[.int .i64 2, .string ⟨#[]⟩, .int .i64 0, .int .i64 0, .int .i64 0, .slice none 0 0, .int .i64 11, .string ⟨#[]⟩, .int .i64 3, .int .i64 0, .int .i64 0, .slice none 0 0, .int .i64 13, .string ⟨#[80]⟩, .int .i64 0, .int .i64 0, .int .i64 0, .slice (some ⟨g, 0, none⟩) 1 1, .int .i64 13, .string ⟨#[81]⟩, .int .i64 0, .int .i64 0, .int .i64 0, .slice (some ⟨h, 0, none⟩) 1 1] 52
theorem exP_at (w : World) : ∀ i, i < 4 → TypeAt (((w.alloc exPPO).alloc exPQO).alloc (exPTO w.heap.size (w.heap.size + 1))) (some ⟨w.heap.size + 2, 0, none⟩) i (exP w.heap.size (w.heap.size + 1) i) := by
  intro i hi
  have hq := alloc_at ((w.alloc exPPO).alloc exPQO) (exPTO w.heap.size (w.heap.size + 1))
  rw [show ((w.alloc exPPO).alloc exPQO).heap.size = w.heap.size + 2 by simp] at hq
  have hb : (((w.alloc exPPO).alloc exPQO).alloc (exPTO w.heap.size (w.heap.size + 1))).heap[w.heap.size]? = some exPPO := alloc_old (alloc_old (alloc_at w exPPO))
  have hc := alloc_at (w.alloc exPPO) exPQO
  rw [show (w.alloc exPPO).heap.size = w.heap.size + 1 by simp] at hc
  have hc2 : (((w.alloc exPPO).alloc exPQO).alloc (exPTO w.heap.size (w.heap.size + 1))).heap[w.heap.size + 1]? = some exPQO := alloc_old hc
  have h4 : i = 0 ∨ i = 1 ∨ i = 2 ∨ i = 3 := by omega
  rcases h4 with rfl | rfl | rfl | rfl
  · exact ⟨_, 0, rfl, cell_at hq rfl, cell_at hq rfl, cell_at hq rfl, cell_at hq rfl, cell_at hq rfl, cell_at hq rfl, (show TypeWf (noneT 2 0 0) from by unfold TypeWf; decide), ⟨(show (0 : Nat) ≤ 3518437208780 from by decide), fun j hj => absurd hj (Nat.not_lt_zero j)⟩⟩
  · exact ⟨_, 0, rfl, cell_at hq rfl, cell_at hq rfl, cell_at hq rfl, cell_at hq rfl, cell_at hq rfl, cell_at hq rfl, (show TypeWf (noneT 11 3 0) from by unfold TypeWf; decide), ⟨(show (0 : Nat) ≤ 3518437208780 from by decide), fun j hj => absurd hj (Nat.not_lt_zero j)⟩⟩
  · refine ⟨_, 0, rfl, cell_at hq rfl, cell_at hq rfl, cell_at hq rfl, cell_at hq rfl, cell_at hq rfl, cell_at hq rfl, (show TypeWf ⟨13, ⟨#[80]⟩, 0, 0, 0, some ⟨w.heap.size, 0, none⟩, 1, 1, exPP⟩ from by unfold TypeWf; dsimp only; decide), ?_⟩
    refine ⟨by show 1 ≤ _; decide, fun j hj => ?_⟩
    obtain rfl : j = 0 := by have : j < 1 := hj; omega
    exact ⟨_, 0, rfl, cell_at hb rfl, cell_at hb rfl, cell_at hb rfl, cell_at hb rfl, cell_at hb rfl, (show ItemWf ⟨⟨#[98]⟩, 0, 1, false, false⟩ from by unfold ItemWf; decide)⟩
  · refine ⟨_, 0, rfl, cell_at hq rfl, cell_at hq rfl, cell_at hq rfl, cell_at hq rfl, cell_at hq rfl, cell_at hq rfl, (show TypeWf ⟨13, ⟨#[81]⟩, 0, 0, 0, some ⟨w.heap.size + 1, 0, none⟩, 1, 1, exPQ⟩ from by unfold TypeWf; dsimp only; decide), ?_⟩
    refine ⟨by show 1 ≤ _; decide, fun j hj => ?_⟩
    obtain rfl : j = 0 := by have : j < 1 := hj; omega
    exact ⟨_, 0, rfl, cell_at hc2 rfl, cell_at hc2 rfl, cell_at hc2 rfl, cell_at hc2 rfl, cell_at hc2 rfl, (show ItemWf ⟨⟨#[97]⟩, 0, 2, false, false⟩ from by unfold ItemWf; decide)⟩
theorem exP_ok (g h : Nat) : fErr (oneR (exP g h) 4) 4 = 0 := by kernel_rfl
theorem exP_has (g h : Nat) : hasT (exP g h) 4 3 = true := hasT_yes (k := 3) (by decide) (exP_ok g h)
def exPS : ByteArray := ⟨#[97, 46, 98, 91, 50, 93]⟩
theorem exP_form : formS exPS = true := by decide +kernel
theorem exP_pieces : piecesS exPS 0 = [(⟨false, 0, ⟨#[97]⟩⟩, true), (⟨false, 0, ⟨#[98]⟩⟩, true), (⟨true, 2, ⟨#[]⟩⟩, true)] := by kernel_rfl
theorem exP_find (g h : Nat) : findA (exP g h) 4 3 exPS = ⟨[⟨false, 0⟩, ⟨false, 0⟩, ⟨true, 2⟩], 0, 0⟩ := by
  unfold findA
  rw [exP_has, if_pos rfl, exP_form, if_pos rfl, exP_pieces]
  kernel_rfl
theorem step_eql (a c : Bool) (b d : Int) (w : World) : (binOp .eql 56 (.agg #[.bool a, .int .i64 b]) (.agg #[.bool c, .int .i64 d])).run Tryz.prog w = .ok (.bool (sameS ⟨a, b⟩ ⟨c, d⟩)) w := by
  have hu := Tryz.underlying56
  have hi := Tryz.underlying3
  have hb := Tryz.underlying4
  have p0 := fun a b w => run_equalIn_bool' (P := Tryz.prog) w 9998 4 a b hb
  have p1 := fun a c w => run_equalIn_int (P := Tryz.prog) w 9998 3 .i64 .i64 a c hi
  rw [run_eql_struct, run_equalIn_agg _ 9999 _ _ _ (by kernel_rfl) (by kernel_rfl)]
  simp only [Program.fieldsOf, hu]
  simp [Op.eqFields, go_sem, p0, p1]
  unfold sameS
  by_cases h1 : a = c <;> by_cases h2 : b = d <;> simp [h1, h2]
set_option maxRecDepth 100000 in
set_option maxHeartbeats 2000000 in
theorem awake12_any (w : World) : Calls Tryz.prog 7 #[] w fun e w' => e = .returned (.bool true) ∧ Below w.heap.size w w' := by
  have HB := Lib.hid ((((Below.refl w.heap.size w).alloc (Nat.le_refl _) exPPO).alloc (by simp) exPQO).alloc (by simp; omega) (exPTO w.heap.size (w.heap.size + 1)))
  have hA := find12_any (some ⟨w.heap.size + 2, 0, none⟩) 4 4 (exP w.heap.size (w.heap.size + 1)) (by decide) (by decide) 3 exPS (by decide +kernel) _ (exP_at w)
  rw [exP_find] at hA
  have HA := Lib.hid (show Calls Tryz.prog 8 #[.slice (some ⟨w.heap.size + 2, 0, none⟩) 4 4, .int .i64 3, .string ⟨#[97, 46, 98, 91, 50, 93]⟩] (((w.alloc exPPO).alloc exPQO).alloc (exPTO w.heap.size (w.heap.size + 1))) (FindTo ⟨[⟨false, 0⟩, ⟨false, 0⟩, ⟨true, 2⟩], 0, 0⟩ (((w.alloc exPPO).alloc exPQO).alloc (exPTO w.heap.size (w.heap.size + 1)))) from hA)
  have hse := step_eql
  have hss : sameS ⟨true, 2⟩ ⟨true, 2⟩ = true := by decide
  unfold exPPO exPQO exPTO at HB HA
  clear hA
  go_enter Tryz.func7, Tryz.ntmps7
  go_wp2_with (go_at_call 8; refine HA.out.mono ?_; rintro e w1 ⟨v1, rfl, hown, hb1⟩; obtain ⟨ia, cp, rfl, hcl⟩ := own_steps hown rfl; obtain ⟨g, off, rfl, c0, c1⟩ := hcl 2 (by decide); simp [stepN] at c0 c1; have HB1 := Lib.hid (below_step8' HB.out hb1); clear hcl hown hb1)
  go_ret
  exact ⟨rfl, HB1.out⟩
end Go.Proofs.YtcpjbimojliogaaGreatDoor
