/- The reference's May of chapter 16: may a tree be told? -/
import Derived.Test.YtjgdkiikkgdbaaaGreatDoorQ26
import Derived.Test.YtjgdkiikkgdbaaaGreatDoorQ36
import Derived.Test.YtjgdkiikkgdbaaaGreatDoorQ55
namespace Go.Proofs.YtjgdkiikkgdbaaaGreatDoor
open Go.RowKit
set_option linter.unusedVariables false
theorem mayB_eq (T : XT) : mayB T = (formB T.op T.rel T.an T.kn && ((List.range T.an).all fun i => mayOB (T.arg i)) && ((List.range T.kn).all fun i => mayB (T.kid i))) := by
  cases T with
  | nil => rfl
  | node => rfl
theorem may_noA {T : XT} {j : Nat} (hj : j < T.an) (h : mayOB (T.arg j) = false) : mayB T = false := by
  rw [mayB_eq, Bool.eq_false_iff]
  intro e
  rw [Bool.and_eq_true, Bool.and_eq_true, List.all_eq_true] at e
  have := e.1.2 j (List.mem_range.2 hj)
  rw [h] at this; exact absurd this (by decide)
theorem may_noK {T : XT} {j : Nat} (hj : j < T.kn) (h : mayB (T.kid j) = false) : mayB T = false := by
  rw [mayB_eq, Bool.eq_false_iff]
  intro e
  rw [Bool.and_eq_true, List.all_eq_true] at e
  have := e.2 j (List.mem_range.2 hj)
  rw [h] at this; exact absurd this (by decide)
theorem may_yes {T : XT} (hf : formB T.op T.rel T.an T.kn = true) (h1 : ∀ i, i < T.an → mayOB (T.arg i) = true) (h2 : ∀ i, i < T.kn → mayB (T.kid i) = true) : mayB T = true := by
  rw [mayB_eq, hf, Bool.and_eq_true, Bool.and_eq_true, List.all_eq_true, List.all_eq_true]
  exact ⟨⟨rfl, fun i hi => h1 i (List.mem_range.1 hi)⟩, fun i hi => h2 i (List.mem_range.1 hi)⟩
theorem upTo {f : Nat → Bool} {j : Nat} (h : ∀ i, i < j → f i = true) (k : f j = true) : ∀ i, i < j + 1 → f i = true := fun i hi => by
  rcases Nat.lt_succ_iff_lt_or_eq.1 hi with h1 | rfl
  · exact h i h1
  · exact k
/-- its texts are small -/
def SmX : XT → Prop
  | .nil => True
  | .node _ _ _ n _ g _ m _ f => (∀ i, i < n → (g i).text.size ≤ 1000000) ∧ ∀ i, i < m → SmX (f i)
theorem smx_iff (T : XT) : SmX T ↔ (∀ i, i < T.an → (T.arg i).text.size ≤ 1000000) ∧ ∀ i, i < T.kn → SmX (T.kid i) := by
  cases T with
  | nil => exact ⟨fun _ => ⟨fun i hi => absurd hi (Nat.not_lt_zero i), fun i hi => absurd hi (Nat.not_lt_zero i)⟩, fun _ => trivial⟩
  | node => exact Iff.rfl
theorem bl2 {w : World} {a b : Obj} {n : Nat} : Below w.heap.size w (((w.alloc a).alloc b).drewN n) := below_drewN (((Below.refl _ _).alloc (Nat.le_refl _) _).alloc (by rw [World.size_alloc]; omega) _) n
theorem row2m (w : World) (a b : Obj) (n : Nat) : (((w.alloc a).alloc b).drewN n).heap[w.heap.size]? = some a := rowKeep (below_drewN ((Below.refl _ _).alloc (Nat.le_refl _) b) n) (alloc_at w a)
def RMayC (o r : Int) (aa : Option Addr) (an ac : Nat) (ka : Option Addr) (kn kc : Nat) (w : World) (b : Bool) : Prop := Calls Tryz.prog 18 #[.agg #[.int .i64 o, .int .i64 r, .slice aa an ac, .slice ka kn kc]] w fun e w' => e = .returned (.bool b) ∧ Below w.heap.size w w'
theorem may_lo (o r : Int) (aa : Option Addr) (an ac : Nat) (ka : Option Addr) (kn kc : Nat) (w : World) (hk : kn ≤ 2513169434843) (ha : an ≤ 3518437208780) (h : o < 1) : RMayC o r aa an ac ka kn kc w false := by
  have h1 : decide (o < 1) = true := decide_eq_true h
  unfold RMayC
  go_enter Tryz.func18, Tryz.ntmps18
  go_wp2_with (fail)
  all_goals go_quiet (fail)
  all_goals go_wp2_with (fail)
  go_ret
  exact ⟨rfl, bl2⟩
theorem may_hi (o r : Int) (aa : Option Addr) (an ac : Nat) (ka : Option Addr) (kn kc : Nat) (w : World) (hk : kn ≤ 2513169434843) (ha : an ≤ 3518437208780) (h : 6 < o) : RMayC o r aa an ac ka kn kc w false := by
  have h1 : decide (o < 1) = false := decide_eq_false (by omega)
  have h2 : decide (6 < o) = true := decide_eq_true h
  unfold RMayC
  go_enter Tryz.func18, Tryz.ntmps18
  go_wp2_with (fail)
  all_goals go_quiet (fail)
  all_goals go_wp2_with (fail)
  go_ret
  exact ⟨rfl, bl2⟩
theorem form_op {o r : Int} {an kn : Nat} (h1 : o ≠ 1) (h2 : o ≠ 2) (h3 : o ≠ 3) (h4 : o ≠ 4) (h5 : o ≠ 5) (h6 : o ≠ 6) : formB o r an kn = false := by
  unfold formB; simp [h1, h2, h3, h4, h5, h6]
set_option maxHeartbeats 4000000 in
theorem may_an (o r : Int) (aa : Option Addr) (an ac : Nat) (ka : Option Addr) (kn kc : Nat) (w : World) (hk : kn ≤ 2513169434843) (ha : an ≤ 3518437208780) (h : (o = 1 ∧ an ≠ 2) ∨ (o = 2 ∧ an ≠ 3) ∨ (o = 3 ∧ an ≠ 2) ∨ (o = 4 ∧ an ≠ 0) ∨ (o = 5 ∧ an ≠ 0) ∨ (o = 6 ∧ an ≠ 0)) : RMayC o r aa an ac ka kn kc w false := by
  unfold RMayC
  rcases h with ⟨rfl, h⟩ | ⟨rfl, h⟩ | ⟨rfl, h⟩ | ⟨rfl, h⟩ | ⟨rfl, h⟩ | ⟨rfl, h⟩
  · have z1 : ((an : Int) == 2) = false := beq_eq_false_iff_ne.2 (by omega)
    clear h
    go_enter Tryz.func18, Tryz.ntmps18
    go_wp2_with (fail)
    all_goals go_quiet (fail)
    all_goals go_wp2_with (fail)
    go_ret
    exact ⟨rfl, bl2⟩
  · have z1 : ((an : Int) == 3) = false := beq_eq_false_iff_ne.2 (by omega)
    clear h
    go_enter Tryz.func18, Tryz.ntmps18
    go_wp2_with (fail)
    all_goals go_quiet (fail)
    all_goals go_wp2_with (fail)
    go_ret
    exact ⟨rfl, bl2⟩
  · have z1 : ((an : Int) == 2) = false := beq_eq_false_iff_ne.2 (by omega)
    clear h
    go_enter Tryz.func18, Tryz.ntmps18
    go_wp2_with (fail)
    all_goals go_quiet (fail)
    all_goals go_wp2_with (fail)
    go_ret
    exact ⟨rfl, bl2⟩
  · have z1 : ((an : Int) == 0) = false := beq_eq_false_iff_ne.2 (by omega)
    clear h
    go_enter Tryz.func18, Tryz.ntmps18
    go_wp2_with (fail)
    all_goals go_quiet (fail)
    all_goals go_wp2_with (fail)
    go_ret
    exact ⟨rfl, bl2⟩
  · have z1 : ((an : Int) == 0) = false := beq_eq_false_iff_ne.2 (by omega)
    clear h
    go_enter Tryz.func18, Tryz.ntmps18
    go_wp2_with (fail)
    all_goals go_quiet (fail)
    all_goals go_wp2_with (fail)
    go_ret
    exact ⟨rfl, bl2⟩
  · have z1 : ((an : Int) == 0) = false := beq_eq_false_iff_ne.2 (by omega)
    clear h
    go_enter Tryz.func18, Tryz.ntmps18
    go_wp2_with (fail)
    all_goals go_quiet (fail)
    all_goals go_wp2_with (fail)
    go_ret
    exact ⟨rfl, bl2⟩
set_option maxHeartbeats 4000000 in
theorem may_rel (o r : Int) (aa : Option Addr) (an ac : Nat) (ka : Option Addr) (kn kc : Nat) (w : World) (hk : kn ≤ 2513169434843) (ha : an ≤ 3518437208780) (h : (o = 1 ∧ an = 2 ∧ r < 1) ∨ (o = 1 ∧ an = 2 ∧ 6 < r) ∨ (o = 2 ∧ an = 3 ∧ r ≠ 0) ∨ (o = 3 ∧ an = 2 ∧ r ≠ 0) ∨ (o = 4 ∧ an = 0 ∧ r ≠ 0) ∨ (o = 5 ∧ an = 0 ∧ r ≠ 0) ∨ (o = 6 ∧ an = 0 ∧ r ≠ 0)) : RMayC o r aa an ac ka kn kc w false := by
  unfold RMayC
  rcases h with ⟨rfl, hn, h⟩ | ⟨rfl, hn, h⟩ | ⟨rfl, hn, h⟩ | ⟨rfl, hn, h⟩ | ⟨rfl, hn, h⟩ | ⟨rfl, hn, h⟩ | ⟨rfl, hn, h⟩
  · have z1 : ((an : Int) == 2) = true := beq_iff_eq.2 (by omega)
    clear hn
    go_enter Tryz.func18, Tryz.ntmps18
    go_wp2_with (fail)
    all_goals go_quiet (fail)
    all_goals go_wp2_with (fail)
    go_ret
    exact ⟨rfl, bl2⟩
  · have z1 : ((an : Int) == 2) = true := beq_iff_eq.2 (by omega)
    have z2 : ¬ r < 1 := by omega
    clear hn
    go_enter Tryz.func18, Tryz.ntmps18
    go_wp2_with (fail)
    all_goals go_quiet (fail)
    all_goals go_wp2_with (fail)
    go_ret
    exact ⟨rfl, bl2⟩
  · have z1 : ((an : Int) == 3) = true := beq_iff_eq.2 (by omega)
    have z2 : (r == 0) = false := beq_eq_false_iff_ne.2 h
    clear hn h
    go_enter Tryz.func18, Tryz.ntmps18
    go_wp2_with (fail)
    all_goals go_quiet (fail)
    all_goals go_wp2_with (fail)
    go_ret
    exact ⟨rfl, bl2⟩
  · have z1 : ((an : Int) == 2) = true := beq_iff_eq.2 (by omega)
    have z2 : (r == 0) = false := beq_eq_false_iff_ne.2 h
    clear hn h
    go_enter Tryz.func18, Tryz.ntmps18
    go_wp2_with (fail)
    all_goals go_quiet (fail)
    all_goals go_wp2_with (fail)
    go_ret
    exact ⟨rfl, bl2⟩
  · have z1 : ((an : Int) == 0) = true := beq_iff_eq.2 (by omega)
    have z2 : (r == 0) = false := beq_eq_false_iff_ne.2 h
    clear hn h
    go_enter Tryz.func18, Tryz.ntmps18
    go_wp2_with (fail)
    all_goals go_quiet (fail)
    all_goals go_wp2_with (fail)
    go_ret
    exact ⟨rfl, bl2⟩
  · have z1 : ((an : Int) == 0) = true := beq_iff_eq.2 (by omega)
    have z2 : (r == 0) = false := beq_eq_false_iff_ne.2 h
    clear hn h
    go_enter Tryz.func18, Tryz.ntmps18
    go_wp2_with (fail)
    all_goals go_quiet (fail)
    all_goals go_wp2_with (fail)
    go_ret
    exact ⟨rfl, bl2⟩
  · have z1 : ((an : Int) == 0) = true := beq_iff_eq.2 (by omega)
    have z2 : (r == 0) = false := beq_eq_false_iff_ne.2 h
    clear hn h
    go_enter Tryz.func18, Tryz.ntmps18
    go_wp2_with (fail)
    all_goals go_quiet (fail)
    all_goals go_wp2_with (fail)
    go_ret
    exact ⟨rfl, bl2⟩
set_option maxHeartbeats 4000000 in
theorem may_kn (o r : Int) (aa : Option Addr) (an ac : Nat) (ka : Option Addr) (kn kc : Nat) (w : World) (hk : kn ≤ 2513169434843) (ha : an ≤ 3518437208780) (h : (o = 1 ∧ an = 2 ∧ 1 ≤ r ∧ r ≤ 6 ∧ kn ≠ 0) ∨ (o = 2 ∧ an = 3 ∧ r = 0 ∧ kn ≠ 0) ∨ (o = 3 ∧ an = 2 ∧ r = 0 ∧ kn ≠ 0) ∨ (o = 4 ∧ an = 0 ∧ r = 0 ∧ kn ≠ 1) ∨ (o = 5 ∧ an = 0 ∧ r = 0 ∧ kn < 2) ∨ (o = 6 ∧ an = 0 ∧ r = 0 ∧ kn < 2)) : RMayC o r aa an ac ka kn kc w false := by
  unfold RMayC
  rcases h with ⟨rfl, hn, hr, hr6, h⟩ | ⟨rfl, hn, rfl, h⟩ | ⟨rfl, hn, rfl, h⟩ | ⟨rfl, hn, rfl, h⟩ | ⟨rfl, hn, rfl, h⟩ | ⟨rfl, hn, rfl, h⟩
  · have z1 : ((an : Int) == 2) = true := beq_iff_eq.2 (by omega)
    have z2 : ¬ r < 1 := by omega
    have z3 : ¬ 6 < r := by omega
    have z4 : (0 : Int) < (kn : Int) := by omega
    have z5 : decide (0 < kn) = true := decide_eq_true (by omega)
    have z6 : 0 < kn := by omega
    clear hn h hr hr6
    go_enter Tryz.func18, Tryz.ntmps18
    go_wp2_with (fail)
    all_goals go_quiet (fail)
    all_goals go_wp2_with (fail)
    go_ret
    exact ⟨rfl, bl2⟩
  · have z1 : ((an : Int) == 3) = true := beq_iff_eq.2 (by omega)
    have z4 : (0 : Int) < (kn : Int) := by omega
    have z5 : decide (0 < kn) = true := decide_eq_true (by omega)
    have z6 : 0 < kn := by omega
    clear hn h
    go_enter Tryz.func18, Tryz.ntmps18
    go_wp2_with (fail)
    all_goals go_quiet (fail)
    all_goals go_wp2_with (fail)
    go_ret
    exact ⟨rfl, bl2⟩
  · have z1 : ((an : Int) == 2) = true := beq_iff_eq.2 (by omega)
    have z4 : (0 : Int) < (kn : Int) := by omega
    have z5 : decide (0 < kn) = true := decide_eq_true (by omega)
    have z6 : 0 < kn := by omega
    clear hn h
    go_enter Tryz.func18, Tryz.ntmps18
    go_wp2_with (fail)
    all_goals go_quiet (fail)
    all_goals go_wp2_with (fail)
    go_ret
    exact ⟨rfl, bl2⟩
  · have z1 : ((an : Int) == 0) = true := beq_iff_eq.2 (by omega)
    have z4 : ((kn : Int) == 1) = false := beq_eq_false_iff_ne.2 (by omega)
    have z5 : ¬ (kn : Int) = 1 := by omega
    clear hn h
    go_enter Tryz.func18, Tryz.ntmps18
    go_wp2_with (fail)
    all_goals go_quiet (fail)
    all_goals go_wp2_with (fail)
    go_ret
    exact ⟨rfl, bl2⟩
  · have z1 : ((an : Int) == 0) = true := beq_iff_eq.2 (by omega)
    have z4 : (kn : Int) < 2 := by omega
    have z5 : decide (kn < 2) = true := decide_eq_true (by omega)
    have z6 : kn < 2 := by omega
    clear hn h
    go_enter Tryz.func18, Tryz.ntmps18
    go_wp2_with (fail)
    all_goals go_quiet (fail)
    all_goals go_wp2_with (fail)
    go_ret
    exact ⟨rfl, bl2⟩
  · have z1 : ((an : Int) == 0) = true := beq_iff_eq.2 (by omega)
    have z4 : (kn : Int) < 2 := by omega
    have z5 : decide (kn < 2) = true := decide_eq_true (by omega)
    have z6 : kn < 2 := by omega
    clear hn h
    go_enter Tryz.func18, Tryz.ntmps18
    go_wp2_with (fail)
    all_goals go_quiet (fail)
    all_goals go_wp2_with (fail)
    go_ret
    exact ⟨rfl, bl2⟩
set_option maxHeartbeats 4000000 in
theorem may_go1 (S : Nat → Prop) (T : XT) (w : World) (H : XAt w S T) (HX : XTx T) (hsm : ∀ i, i < T.an → (T.arg i).text.size ≤ 1000000) (o r : Int) (ho : T.op = o) (hr : T.rel = r)
    (HI : Hid (∀ i, i < T.kn → ∀ wx, Below w.heap.size w wx → RMayC (T.kid i).op (T.kid i).rel (T.kid i).aa (T.kid i).an (T.kid i).ac (T.kid i).ka (T.kid i).kn (T.kid i).kc wx (mayB (T.kid i))))
    (h : o = 1 ∧ T.an = 2 ∧ 1 ≤ r ∧ r ≤ 6 ∧ T.kn = 0) : RMayC o r T.aa T.an T.ac T.ka T.kn T.kc w (mayB T) := by
  have hk := xt_kn H
  have ha := xt_an H
  have HC := Lib.hid (fun i (hi : i < T.kn) wx (hb : Below w.heap.size w wx) => (kid_at H hb hi).1)
  have HAC := Lib.hid (fun i (hi : i < T.an) wx (hb : Below w.heap.size w wx) => (((xat_iff T).1 H).2.1 i hi).next hb)
  have HM := Lib.hid (fun i (hi : i < T.an) wx => may1_any (T.arg i) (((xtx_iff T).1 HX).1 i hi) (Nat.le_trans (hsm i hi) (by decide)) wx)
  have HNA := Lib.hid (fun j (hj : j < T.an) h => may_noA hj h)
  have HNK := Lib.hid (fun j (hj : j < T.kn) h => may_noK hj h)
  have HYES := Lib.hid (fun h1 h2 => may_yes (T := T) (by rw [ho, hr]; unfold formB; rcases h with ⟨rfl, h1, h2, h3, h4⟩; (simp only [h1, h4]; simp [*])) h1 h2)
  obtain ⟨R, hR⟩ : ∃ R, mayB T = R := ⟨_, rfl⟩
  rw [hR] at HNA HNK HYES ⊢
  clear H HX hsm ho hr hR
  unfold RMayC
  obtain ⟨rfl, hn, hr, hr6, h⟩ := h
  · have z1 : ((T.an : Int) != 2) = false := by rw [bne_eq_false_iff_eq]; omega
    have z2 : ¬ r < 1 := by omega
    have z3 : ¬ 6 < r := by omega
    have z4 : ¬ (0 : Int) < (T.kn : Int) := by omega
    have z5 : decide (0 < T.kn) = false := decide_eq_false (by omega)
    clear hn h hr hr6
    go_enter Tryz.func18, Tryz.ntmps18
    go_wp2_with (fail)
    all_goals go_quiet (fail)
    all_goals go_wp2_with (fail)
    go_loopw [5] (fun i wr => ∃ (j : Nat), j ≤ T.an ∧ i = .int .i64 j ∧ Hid (∀ i, i < j → mayOB (T.arg i) = true) ∧ Hid (wr.heap[w.heap.size]? = some (.cells #[.int .i64 1, .int .i64 r, .slice T.aa T.an T.ac, .slice T.ka T.kn T.kc] 25)) ∧ Hid (Below w.heap.size w wr)) (fun i _ => T.an - (intOf i).toNat)
    case atStart => exact ⟨0, Nat.zero_le _, rfl, Lib.hid (fun i hi => absurd hi (Nat.not_lt_zero i)), Lib.hid (row2m w _ _ _), Lib.hid bl2⟩
    case round =>
      obtain ⟨j, hj, rfl, HNO, HQ, HBr⟩ := hrel
      have d2 : wr.cell? ⟨w.heap.size, 2, none⟩ = some (.slice T.aa T.an T.ac) := cell_at HQ.out rfl
      by_cases hlt : j < T.an
      · obtain ⟨b, off, hia, _, hbl, hla⟩ := HAC.out j hlt wr HBr.out
        clear d2
        have d2 : wr.cell? ⟨w.heap.size, 2, none⟩ = some (.slice (some ⟨b, off, none⟩) T.an T.ac) := by rw [← hia]; exact cell_at HQ.out rfl
        have c0 : wr.cell? ⟨b, off + j * 4, none⟩ = some (.int .i64 (T.arg j).kind) := hla 0 _ rfl
        have c1 : wr.cell? ⟨b, off + j * 4 + 1, none⟩ = some (.string (T.arg j).text) := hla 1 _ rfl
        have c2 : wr.cell? ⟨b, off + j * 4 + 2, none⟩ = some (.bool (T.arg j).neg) := hla 2 _ rfl
        have c3 : wr.cell? ⟨b, off + j * 4 + 3, none⟩ = some (.int .u64 (T.arg j).num) := hla 3 _ rfl
        have HN := Lib.hid (HM.out j hlt)
        have HN : Hid (∀ wx, Calls Tryz.prog 23 #[.agg #[.int .i64 (T.arg j).kind, .string (T.arg j).text, .bool (T.arg j).neg, .int .u64 (T.arg j).num]] wx fun e w' => e = .returned (.bool (mayOB (T.arg j))) ∧ Below wx.heap.size wx w') := Lib.hid (fun wx => HN.out wx)
        obtain ⟨m, hm⟩ : ∃ m, mayOB (T.arg j) = m := ⟨_, rfl⟩
        rw [hm] at HN
        have HMM := Lib.hid hm
        have HJN := Lib.hid (HNA.out j hlt)
        clear hia hla hm hbl
        cases m with
        | false =>
          have HRF := Lib.hid (HJN.out HMM.out)
          go_wp2_with (go_at_call 23; refine (HN.out _).mono ?_; rintro e w1 ⟨rfl, hb⟩; have HB1 := Lib.hid (bthN HBr.out hb); clear hb)
          go_ret
          exact ⟨ret_bo HRF.out.symm, HB1.out⟩
        | true =>
          go_wp2_with (go_at_call 23; refine (HN.out _).mono ?_; rintro e w1 ⟨rfl, hb⟩; have HB1 := Lib.hid (bthN HBr.out hb); have HQ1 := Lib.hid (rowKeep hb HQ.out); clear hb)
          go_roundw
          case rel => exact ⟨j + 1, by omega, by go_num, Lib.hid (upTo HNO.out HMM.out), HQ1, HB1⟩
          case measure => simp [intOf]; omega
      · obtain rfl : j = T.an := by omega
        have HAY := Lib.hid (HYES.out HNO.out)
        clear hlt
        go_wp2_with (fail)
        go_loopw [6] (fun i wr => ∃ (j : Nat), j ≤ T.kn ∧ i = .int .i64 j ∧ Hid (∀ i, i < j → mayB (T.kid i) = true) ∧ Hid (wr.heap[w.heap.size]? = some (.cells #[.int .i64 1, .int .i64 r, .slice T.aa T.an T.ac, .slice T.ka T.kn T.kc] 25)) ∧ Hid (Below w.heap.size w wr)) (fun i _ => T.kn - (intOf i).toNat)
        case atStart => exact ⟨0, Nat.zero_le _, rfl, Lib.hid (fun i hi => absurd hi (Nat.not_lt_zero i)), HQ, HBr⟩
        case round =>
          clear HNO
          obtain ⟨j, hj, rfl, HNO, HQ, HBr⟩ := hrel
          by_cases hlt : j < T.kn
          · exfalso; omega
          · obtain rfl : j = T.kn := by omega
            have HRT := Lib.hid (HAY.out HNO.out)
            clear hlt
            go_wp2_with (fail)
            go_ret
            exact ⟨ret_bo HRT.out.symm, HBr.out⟩
set_option maxHeartbeats 4000000 in
theorem may_go2 (S : Nat → Prop) (T : XT) (w : World) (H : XAt w S T) (HX : XTx T) (hsm : ∀ i, i < T.an → (T.arg i).text.size ≤ 1000000) (o r : Int) (ho : T.op = o) (hr : T.rel = r)
    (HI : Hid (∀ i, i < T.kn → ∀ wx, Below w.heap.size w wx → RMayC (T.kid i).op (T.kid i).rel (T.kid i).aa (T.kid i).an (T.kid i).ac (T.kid i).ka (T.kid i).kn (T.kid i).kc wx (mayB (T.kid i))))
    (h : o = 2 ∧ T.an = 3 ∧ r = 0 ∧ T.kn = 0) : RMayC o r T.aa T.an T.ac T.ka T.kn T.kc w (mayB T) := by
  have hk := xt_kn H
  have ha := xt_an H
  have HC := Lib.hid (fun i (hi : i < T.kn) wx (hb : Below w.heap.size w wx) => (kid_at H hb hi).1)
  have HAC := Lib.hid (fun i (hi : i < T.an) wx (hb : Below w.heap.size w wx) => (((xat_iff T).1 H).2.1 i hi).next hb)
  have HM := Lib.hid (fun i (hi : i < T.an) wx => may1_any (T.arg i) (((xtx_iff T).1 HX).1 i hi) (Nat.le_trans (hsm i hi) (by decide)) wx)
  have HNA := Lib.hid (fun j (hj : j < T.an) h => may_noA hj h)
  have HNK := Lib.hid (fun j (hj : j < T.kn) h => may_noK hj h)
  have HYES := Lib.hid (fun h1 h2 => may_yes (T := T) (by rw [ho, hr]; unfold formB; rcases h with ⟨rfl, h1, rfl, h4⟩; (simp only [h1, h4]; simp [*])) h1 h2)
  obtain ⟨R, hR⟩ : ∃ R, mayB T = R := ⟨_, rfl⟩
  rw [hR] at HNA HNK HYES ⊢
  clear H HX hsm ho hr hR
  unfold RMayC
  obtain ⟨rfl, hn, rfl, h⟩ := h
  · have z1 : ((T.an : Int) != 3) = false := by rw [bne_eq_false_iff_eq]; omega
    have z4 : ¬ (0 : Int) < (T.kn : Int) := by omega
    have z5 : decide (0 < T.kn) = false := decide_eq_false (by omega)
    clear hn h
    go_enter Tryz.func18, Tryz.ntmps18
    go_wp2_with (fail)
    all_goals go_quiet (fail)
    all_goals go_wp2_with (fail)
    go_loopw [5] (fun i wr => ∃ (j : Nat), j ≤ T.an ∧ i = .int .i64 j ∧ Hid (∀ i, i < j → mayOB (T.arg i) = true) ∧ Hid (wr.heap[w.heap.size]? = some (.cells #[.int .i64 2, .int .i64 0, .slice T.aa T.an T.ac, .slice T.ka T.kn T.kc] 25)) ∧ Hid (Below w.heap.size w wr)) (fun i _ => T.an - (intOf i).toNat)
    case atStart => exact ⟨0, Nat.zero_le _, rfl, Lib.hid (fun i hi => absurd hi (Nat.not_lt_zero i)), Lib.hid (row2m w _ _ _), Lib.hid bl2⟩
    case round =>
      obtain ⟨j, hj, rfl, HNO, HQ, HBr⟩ := hrel
      have d2 : wr.cell? ⟨w.heap.size, 2, none⟩ = some (.slice T.aa T.an T.ac) := cell_at HQ.out rfl
      by_cases hlt : j < T.an
      · obtain ⟨b, off, hia, _, hbl, hla⟩ := HAC.out j hlt wr HBr.out
        clear d2
        have d2 : wr.cell? ⟨w.heap.size, 2, none⟩ = some (.slice (some ⟨b, off, none⟩) T.an T.ac) := by rw [← hia]; exact cell_at HQ.out rfl
        have c0 : wr.cell? ⟨b, off + j * 4, none⟩ = some (.int .i64 (T.arg j).kind) := hla 0 _ rfl
        have c1 : wr.cell? ⟨b, off + j * 4 + 1, none⟩ = some (.string (T.arg j).text) := hla 1 _ rfl
        have c2 : wr.cell? ⟨b, off + j * 4 + 2, none⟩ = some (.bool (T.arg j).neg) := hla 2 _ rfl
        have c3 : wr.cell? ⟨b, off + j * 4 + 3, none⟩ = some (.int .u64 (T.arg j).num) := hla 3 _ rfl
        have HN := Lib.hid (HM.out j hlt)
        have HN : Hid (∀ wx, Calls Tryz.prog 23 #[.agg #[.int .i64 (T.arg j).kind, .string (T.arg j).text, .bool (T.arg j).neg, .int .u64 (T.arg j).num]] wx fun e w' => e = .returned (.bool (mayOB (T.arg j))) ∧ Below wx.heap.size wx w') := Lib.hid (fun wx => HN.out wx)
        obtain ⟨m, hm⟩ : ∃ m, mayOB (T.arg j) = m := ⟨_, rfl⟩
        rw [hm] at HN
        have HMM := Lib.hid hm
        have HJN := Lib.hid (HNA.out j hlt)
        clear hia hla hm hbl
        cases m with
        | false =>
          have HRF := Lib.hid (HJN.out HMM.out)
          go_wp2_with (go_at_call 23; refine (HN.out _).mono ?_; rintro e w1 ⟨rfl, hb⟩; have HB1 := Lib.hid (bthN HBr.out hb); clear hb)
          go_ret
          exact ⟨ret_bo HRF.out.symm, HB1.out⟩
        | true =>
          go_wp2_with (go_at_call 23; refine (HN.out _).mono ?_; rintro e w1 ⟨rfl, hb⟩; have HB1 := Lib.hid (bthN HBr.out hb); have HQ1 := Lib.hid (rowKeep hb HQ.out); clear hb)
          go_roundw
          case rel => exact ⟨j + 1, by omega, by go_num, Lib.hid (upTo HNO.out HMM.out), HQ1, HB1⟩
          case measure => simp [intOf]; omega
      · obtain rfl : j = T.an := by omega
        have HAY := Lib.hid (HYES.out HNO.out)
        clear hlt
        go_wp2_with (fail)
        go_loopw [6] (fun i wr => ∃ (j : Nat), j ≤ T.kn ∧ i = .int .i64 j ∧ Hid (∀ i, i < j → mayB (T.kid i) = true) ∧ Hid (wr.heap[w.heap.size]? = some (.cells #[.int .i64 2, .int .i64 0, .slice T.aa T.an T.ac, .slice T.ka T.kn T.kc] 25)) ∧ Hid (Below w.heap.size w wr)) (fun i _ => T.kn - (intOf i).toNat)
        case atStart => exact ⟨0, Nat.zero_le _, rfl, Lib.hid (fun i hi => absurd hi (Nat.not_lt_zero i)), HQ, HBr⟩
        case round =>
          clear HNO
          obtain ⟨j, hj, rfl, HNO, HQ, HBr⟩ := hrel
          by_cases hlt : j < T.kn
          · exfalso; omega
          · obtain rfl : j = T.kn := by omega
            have HRT := Lib.hid (HAY.out HNO.out)
            clear hlt
            go_wp2_with (fail)
            go_ret
            exact ⟨ret_bo HRT.out.symm, HBr.out⟩
set_option maxHeartbeats 4000000 in
theorem may_go3 (S : Nat → Prop) (T : XT) (w : World) (H : XAt w S T) (HX : XTx T) (hsm : ∀ i, i < T.an → (T.arg i).text.size ≤ 1000000) (o r : Int) (ho : T.op = o) (hr : T.rel = r)
    (HI : Hid (∀ i, i < T.kn → ∀ wx, Below w.heap.size w wx → RMayC (T.kid i).op (T.kid i).rel (T.kid i).aa (T.kid i).an (T.kid i).ac (T.kid i).ka (T.kid i).kn (T.kid i).kc wx (mayB (T.kid i))))
    (h : o = 3 ∧ T.an = 2 ∧ r = 0 ∧ T.kn = 0) : RMayC o r T.aa T.an T.ac T.ka T.kn T.kc w (mayB T) := by
  have hk := xt_kn H
  have ha := xt_an H
  have HC := Lib.hid (fun i (hi : i < T.kn) wx (hb : Below w.heap.size w wx) => (kid_at H hb hi).1)
  have HAC := Lib.hid (fun i (hi : i < T.an) wx (hb : Below w.heap.size w wx) => (((xat_iff T).1 H).2.1 i hi).next hb)
  have HM := Lib.hid (fun i (hi : i < T.an) wx => may1_any (T.arg i) (((xtx_iff T).1 HX).1 i hi) (Nat.le_trans (hsm i hi) (by decide)) wx)
  have HNA := Lib.hid (fun j (hj : j < T.an) h => may_noA hj h)
  have HNK := Lib.hid (fun j (hj : j < T.kn) h => may_noK hj h)
  have HYES := Lib.hid (fun h1 h2 => may_yes (T := T) (by rw [ho, hr]; unfold formB; rcases h with ⟨rfl, h1, rfl, h4⟩; (simp only [h1, h4]; simp [*])) h1 h2)
  obtain ⟨R, hR⟩ : ∃ R, mayB T = R := ⟨_, rfl⟩
  rw [hR] at HNA HNK HYES ⊢
  clear H HX hsm ho hr hR
  unfold RMayC
  obtain ⟨rfl, hn, rfl, h⟩ := h
  · have z1 : ((T.an : Int) != 2) = false := by rw [bne_eq_false_iff_eq]; omega
    have z4 : ¬ (0 : Int) < (T.kn : Int) := by omega
    have z5 : decide (0 < T.kn) = false := decide_eq_false (by omega)
    clear hn h
    go_enter Tryz.func18, Tryz.ntmps18
    go_wp2_with (fail)
    all_goals go_quiet (fail)
    all_goals go_wp2_with (fail)
    go_loopw [5] (fun i wr => ∃ (j : Nat), j ≤ T.an ∧ i = .int .i64 j ∧ Hid (∀ i, i < j → mayOB (T.arg i) = true) ∧ Hid (wr.heap[w.heap.size]? = some (.cells #[.int .i64 3, .int .i64 0, .slice T.aa T.an T.ac, .slice T.ka T.kn T.kc] 25)) ∧ Hid (Below w.heap.size w wr)) (fun i _ => T.an - (intOf i).toNat)
    case atStart => exact ⟨0, Nat.zero_le _, rfl, Lib.hid (fun i hi => absurd hi (Nat.not_lt_zero i)), Lib.hid (row2m w _ _ _), Lib.hid bl2⟩
    case round =>
      obtain ⟨j, hj, rfl, HNO, HQ, HBr⟩ := hrel
      have d2 : wr.cell? ⟨w.heap.size, 2, none⟩ = some (.slice T.aa T.an T.ac) := cell_at HQ.out rfl
      by_cases hlt : j < T.an
      · obtain ⟨b, off, hia, _, hbl, hla⟩ := HAC.out j hlt wr HBr.out
        clear d2
        have d2 : wr.cell? ⟨w.heap.size, 2, none⟩ = some (.slice (some ⟨b, off, none⟩) T.an T.ac) := by rw [← hia]; exact cell_at HQ.out rfl
        have c0 : wr.cell? ⟨b, off + j * 4, none⟩ = some (.int .i64 (T.arg j).kind) := hla 0 _ rfl
        have c1 : wr.cell? ⟨b, off + j * 4 + 1, none⟩ = some (.string (T.arg j).text) := hla 1 _ rfl
        have c2 : wr.cell? ⟨b, off + j * 4 + 2, none⟩ = some (.bool (T.arg j).neg) := hla 2 _ rfl
        have c3 : wr.cell? ⟨b, off + j * 4 + 3, none⟩ = some (.int .u64 (T.arg j).num) := hla 3 _ rfl
        have HN := Lib.hid (HM.out j hlt)
        have HN : Hid (∀ wx, Calls Tryz.prog 23 #[.agg #[.int .i64 (T.arg j).kind, .string (T.arg j).text, .bool (T.arg j).neg, .int .u64 (T.arg j).num]] wx fun e w' => e = .returned (.bool (mayOB (T.arg j))) ∧ Below wx.heap.size wx w') := Lib.hid (fun wx => HN.out wx)
        obtain ⟨m, hm⟩ : ∃ m, mayOB (T.arg j) = m := ⟨_, rfl⟩
        rw [hm] at HN
        have HMM := Lib.hid hm
        have HJN := Lib.hid (HNA.out j hlt)
        clear hia hla hm hbl
        cases m with
        | false =>
          have HRF := Lib.hid (HJN.out HMM.out)
          go_wp2_with (go_at_call 23; refine (HN.out _).mono ?_; rintro e w1 ⟨rfl, hb⟩; have HB1 := Lib.hid (bthN HBr.out hb); clear hb)
          go_ret
          exact ⟨ret_bo HRF.out.symm, HB1.out⟩
        | true =>
          go_wp2_with (go_at_call 23; refine (HN.out _).mono ?_; rintro e w1 ⟨rfl, hb⟩; have HB1 := Lib.hid (bthN HBr.out hb); have HQ1 := Lib.hid (rowKeep hb HQ.out); clear hb)
          go_roundw
          case rel => exact ⟨j + 1, by omega, by go_num, Lib.hid (upTo HNO.out HMM.out), HQ1, HB1⟩
          case measure => simp [intOf]; omega
      · obtain rfl : j = T.an := by omega
        have HAY := Lib.hid (HYES.out HNO.out)
        clear hlt
        go_wp2_with (fail)
        go_loopw [6] (fun i wr => ∃ (j : Nat), j ≤ T.kn ∧ i = .int .i64 j ∧ Hid (∀ i, i < j → mayB (T.kid i) = true) ∧ Hid (wr.heap[w.heap.size]? = some (.cells #[.int .i64 3, .int .i64 0, .slice T.aa T.an T.ac, .slice T.ka T.kn T.kc] 25)) ∧ Hid (Below w.heap.size w wr)) (fun i _ => T.kn - (intOf i).toNat)
        case atStart => exact ⟨0, Nat.zero_le _, rfl, Lib.hid (fun i hi => absurd hi (Nat.not_lt_zero i)), HQ, HBr⟩
        case round =>
          clear HNO
          obtain ⟨j, hj, rfl, HNO, HQ, HBr⟩ := hrel
          by_cases hlt : j < T.kn
          · exfalso; omega
          · obtain rfl : j = T.kn := by omega
            have HRT := Lib.hid (HAY.out HNO.out)
            clear hlt
            go_wp2_with (fail)
            go_ret
            exact ⟨ret_bo HRT.out.symm, HBr.out⟩
set_option maxHeartbeats 4000000 in
theorem may_go4 (S : Nat → Prop) (T : XT) (w : World) (H : XAt w S T) (HX : XTx T) (hsm : ∀ i, i < T.an → (T.arg i).text.size ≤ 1000000) (o r : Int) (ho : T.op = o) (hr : T.rel = r)
    (HI : Hid (∀ i, i < T.kn → ∀ wx, Below w.heap.size w wx → RMayC (T.kid i).op (T.kid i).rel (T.kid i).aa (T.kid i).an (T.kid i).ac (T.kid i).ka (T.kid i).kn (T.kid i).kc wx (mayB (T.kid i))))
    (h : o = 4 ∧ T.an = 0 ∧ r = 0 ∧ T.kn = 1) : RMayC o r T.aa T.an T.ac T.ka T.kn T.kc w (mayB T) := by
  have hk := xt_kn H
  have ha := xt_an H
  have HC := Lib.hid (fun i (hi : i < T.kn) wx (hb : Below w.heap.size w wx) => (kid_at H hb hi).1)
  have HAC := Lib.hid (fun i (hi : i < T.an) wx (hb : Below w.heap.size w wx) => (((xat_iff T).1 H).2.1 i hi).next hb)
  have HM := Lib.hid (fun i (hi : i < T.an) wx => may1_any (T.arg i) (((xtx_iff T).1 HX).1 i hi) (Nat.le_trans (hsm i hi) (by decide)) wx)
  have HNA := Lib.hid (fun j (hj : j < T.an) h => may_noA hj h)
  have HNK := Lib.hid (fun j (hj : j < T.kn) h => may_noK hj h)
  have HYES := Lib.hid (fun h1 h2 => may_yes (T := T) (by rw [ho, hr]; unfold formB; rcases h with ⟨rfl, h1, rfl, h4⟩; (simp only [h1, h4]; simp [*])) h1 h2)
  obtain ⟨R, hR⟩ : ∃ R, mayB T = R := ⟨_, rfl⟩
  rw [hR] at HNA HNK HYES ⊢
  clear H HX hsm ho hr hR
  unfold RMayC
  obtain ⟨rfl, hn, rfl, h⟩ := h
  · have z1 : ((T.an : Int) != 0) = false := by rw [bne_eq_false_iff_eq]; omega
    have z4 : ((T.kn : Int) == 1) = true := beq_iff_eq.2 (by omega)
    have z5 : (T.kn : Int) = 1 := by omega
    clear hn h
    go_enter Tryz.func18, Tryz.ntmps18
    go_wp2_with (fail)
    all_goals go_quiet (fail)
    all_goals go_wp2_with (fail)
    go_loopw [5] (fun i wr => ∃ (j : Nat), j ≤ T.an ∧ i = .int .i64 j ∧ Hid (∀ i, i < j → mayOB (T.arg i) = true) ∧ Hid (wr.heap[w.heap.size]? = some (.cells #[.int .i64 4, .int .i64 0, .slice T.aa T.an T.ac, .slice T.ka T.kn T.kc] 25)) ∧ Hid (Below w.heap.size w wr)) (fun i _ => T.an - (intOf i).toNat)
    case atStart => exact ⟨0, Nat.zero_le _, rfl, Lib.hid (fun i hi => absurd hi (Nat.not_lt_zero i)), Lib.hid (row2m w _ _ _), Lib.hid bl2⟩
    case round =>
      obtain ⟨j, hj, rfl, HNO, HQ, HBr⟩ := hrel
      have d2 : wr.cell? ⟨w.heap.size, 2, none⟩ = some (.slice T.aa T.an T.ac) := cell_at HQ.out rfl
      by_cases hlt : j < T.an
      · obtain ⟨b, off, hia, _, hbl, hla⟩ := HAC.out j hlt wr HBr.out
        clear d2
        have d2 : wr.cell? ⟨w.heap.size, 2, none⟩ = some (.slice (some ⟨b, off, none⟩) T.an T.ac) := by rw [← hia]; exact cell_at HQ.out rfl
        have c0 : wr.cell? ⟨b, off + j * 4, none⟩ = some (.int .i64 (T.arg j).kind) := hla 0 _ rfl
        have c1 : wr.cell? ⟨b, off + j * 4 + 1, none⟩ = some (.string (T.arg j).text) := hla 1 _ rfl
        have c2 : wr.cell? ⟨b, off + j * 4 + 2, none⟩ = some (.bool (T.arg j).neg) := hla 2 _ rfl
        have c3 : wr.cell? ⟨b, off + j * 4 + 3, none⟩ = some (.int .u64 (T.arg j).num) := hla 3 _ rfl
        have HN := Lib.hid (HM.out j hlt)
        have HN : Hid (∀ wx, Calls Tryz.prog 23 #[.agg #[.int .i64 (T.arg j).kind, .string (T.arg j).text, .bool (T.arg j).neg, .int .u64 (T.arg j).num]] wx fun e w' => e = .returned (.bool (mayOB (T.arg j))) ∧ Below wx.heap.size wx w') := Lib.hid (fun wx => HN.out wx)
        obtain ⟨m, hm⟩ : ∃ m, mayOB (T.arg j) = m := ⟨_, rfl⟩
        rw [hm] at HN
        have HMM := Lib.hid hm
        have HJN := Lib.hid (HNA.out j hlt)
        clear hia hla hm hbl
        cases m with
        | false =>
          have HRF := Lib.hid (HJN.out HMM.out)
          go_wp2_with (go_at_call 23; refine (HN.out _).mono ?_; rintro e w1 ⟨rfl, hb⟩; have HB1 := Lib.hid (bthN HBr.out hb); clear hb)
          go_ret
          exact ⟨ret_bo HRF.out.symm, HB1.out⟩
        | true =>
          go_wp2_with (go_at_call 23; refine (HN.out _).mono ?_; rintro e w1 ⟨rfl, hb⟩; have HB1 := Lib.hid (bthN HBr.out hb); have HQ1 := Lib.hid (rowKeep hb HQ.out); clear hb)
          go_roundw
          case rel => exact ⟨j + 1, by omega, by go_num, Lib.hid (upTo HNO.out HMM.out), HQ1, HB1⟩
          case measure => simp [intOf]; omega
      · obtain rfl : j = T.an := by omega
        have HAY := Lib.hid (HYES.out HNO.out)
        clear hlt
        go_wp2_with (fail)
        go_loopw [6] (fun i wr => ∃ (j : Nat), j ≤ T.kn ∧ i = .int .i64 j ∧ Hid (∀ i, i < j → mayB (T.kid i) = true) ∧ Hid (wr.heap[w.heap.size]? = some (.cells #[.int .i64 4, .int .i64 0, .slice T.aa T.an T.ac, .slice T.ka T.kn T.kc] 25)) ∧ Hid (Below w.heap.size w wr)) (fun i _ => T.kn - (intOf i).toNat)
        case atStart => exact ⟨0, Nat.zero_le _, rfl, Lib.hid (fun i hi => absurd hi (Nat.not_lt_zero i)), HQ, HBr⟩
        case round =>
          clear HNO
          obtain ⟨j, hj, rfl, HNO, HQ, HBr⟩ := hrel
          by_cases hlt : j < T.kn
          · obtain ⟨b, off, hia, _, hbl, hla⟩ := HC.out j hlt wr HBr.out
            have d3 : wr.cell? ⟨w.heap.size, 3, none⟩ = some (.slice (some ⟨b, off, none⟩) T.kn T.kc) := by rw [← hia]; exact cell_at HQ.out rfl
            have c0 : wr.cell? ⟨b, off + j * 4, none⟩ = some (.int .i64 (T.kid j).op) := hla 0 _ rfl
            have c1 : wr.cell? ⟨b, off + j * 4 + 1, none⟩ = some (.int .i64 (T.kid j).rel) := hla 1 _ rfl
            have c2 : wr.cell? ⟨b, off + j * 4 + 2, none⟩ = some (.slice (T.kid j).aa (T.kid j).an (T.kid j).ac) := hla 2 _ rfl
            have c3 : wr.cell? ⟨b, off + j * 4 + 3, none⟩ = some (.slice (T.kid j).ka (T.kid j).kn (T.kid j).kc) := hla 3 _ rfl
            have HN := Lib.hid (HI.out j hlt)
            unfold RMayC at HN
            obtain ⟨m, hm⟩ : ∃ m, mayB (T.kid j) = m := ⟨_, rfl⟩
            rw [hm] at HN
            have HMM := Lib.hid hm
            have HJN := Lib.hid (HNK.out j hlt)
            clear hia hla hm hbl
            cases m with
            | false =>
              have HRF := Lib.hid (HJN.out HMM.out)
              go_wp2_with (go_at_call 18; refine (HN.out _ HBr.out).mono ?_; rintro e w1 ⟨rfl, hb⟩; have HB1 := Lib.hid (bthN HBr.out hb); clear hb)
              go_ret
              exact ⟨ret_bo HRF.out.symm, HB1.out⟩
            | true =>
              go_wp2_with (go_at_call 18; refine (HN.out _ HBr.out).mono ?_; rintro e w1 ⟨rfl, hb⟩; have HB1 := Lib.hid (bthN HBr.out hb); have HQ1 := Lib.hid (rowKeep hb HQ.out); clear hb)
              go_roundw
              case rel => exact ⟨j + 1, by omega, by go_num, Lib.hid (upTo HNO.out HMM.out), HQ1, HB1⟩
              case measure => simp [intOf]; omega
          · obtain rfl : j = T.kn := by omega
            have HRT := Lib.hid (HAY.out HNO.out)
            clear hlt
            go_wp2_with (fail)
            go_ret
            exact ⟨ret_bo HRT.out.symm, HBr.out⟩
set_option maxHeartbeats 4000000 in
theorem may_go5 (S : Nat → Prop) (T : XT) (w : World) (H : XAt w S T) (HX : XTx T) (hsm : ∀ i, i < T.an → (T.arg i).text.size ≤ 1000000) (o r : Int) (ho : T.op = o) (hr : T.rel = r)
    (HI : Hid (∀ i, i < T.kn → ∀ wx, Below w.heap.size w wx → RMayC (T.kid i).op (T.kid i).rel (T.kid i).aa (T.kid i).an (T.kid i).ac (T.kid i).ka (T.kid i).kn (T.kid i).kc wx (mayB (T.kid i))))
    (h : o = 5 ∧ T.an = 0 ∧ r = 0 ∧ 2 ≤ T.kn) : RMayC o r T.aa T.an T.ac T.ka T.kn T.kc w (mayB T) := by
  have hk := xt_kn H
  have ha := xt_an H
  have HC := Lib.hid (fun i (hi : i < T.kn) wx (hb : Below w.heap.size w wx) => (kid_at H hb hi).1)
  have HAC := Lib.hid (fun i (hi : i < T.an) wx (hb : Below w.heap.size w wx) => (((xat_iff T).1 H).2.1 i hi).next hb)
  have HM := Lib.hid (fun i (hi : i < T.an) wx => may1_any (T.arg i) (((xtx_iff T).1 HX).1 i hi) (Nat.le_trans (hsm i hi) (by decide)) wx)
  have HNA := Lib.hid (fun j (hj : j < T.an) h => may_noA hj h)
  have HNK := Lib.hid (fun j (hj : j < T.kn) h => may_noK hj h)
  have HYES := Lib.hid (fun h1 h2 => may_yes (T := T) (by rw [ho, hr]; unfold formB; rcases h with ⟨rfl, h1, rfl, h4⟩; (simp only [h1, h4]; simp [*])) h1 h2)
  obtain ⟨R, hR⟩ : ∃ R, mayB T = R := ⟨_, rfl⟩
  rw [hR] at HNA HNK HYES ⊢
  clear H HX hsm ho hr hR
  unfold RMayC
  obtain ⟨rfl, hn, rfl, h⟩ := h
  · have z1 : ((T.an : Int) != 0) = false := by rw [bne_eq_false_iff_eq]; omega
    have z4 : decide ((T.kn : Int) < 2) = false := decide_eq_false (by omega)
    have z5 : decide (T.kn < 2) = false := decide_eq_false (by omega)
    clear hn h
    go_enter Tryz.func18, Tryz.ntmps18
    go_wp2_with (fail)
    all_goals go_quiet (fail)
    all_goals go_wp2_with (fail)
    go_loopw [5] (fun i wr => ∃ (j : Nat), j ≤ T.an ∧ i = .int .i64 j ∧ Hid (∀ i, i < j → mayOB (T.arg i) = true) ∧ Hid (wr.heap[w.heap.size]? = some (.cells #[.int .i64 5, .int .i64 0, .slice T.aa T.an T.ac, .slice T.ka T.kn T.kc] 25)) ∧ Hid (Below w.heap.size w wr)) (fun i _ => T.an - (intOf i).toNat)
    case atStart => exact ⟨0, Nat.zero_le _, rfl, Lib.hid (fun i hi => absurd hi (Nat.not_lt_zero i)), Lib.hid (row2m w _ _ _), Lib.hid bl2⟩
    case round =>
      obtain ⟨j, hj, rfl, HNO, HQ, HBr⟩ := hrel
      have d2 : wr.cell? ⟨w.heap.size, 2, none⟩ = some (.slice T.aa T.an T.ac) := cell_at HQ.out rfl
      by_cases hlt : j < T.an
      · obtain ⟨b, off, hia, _, hbl, hla⟩ := HAC.out j hlt wr HBr.out
        clear d2
        have d2 : wr.cell? ⟨w.heap.size, 2, none⟩ = some (.slice (some ⟨b, off, none⟩) T.an T.ac) := by rw [← hia]; exact cell_at HQ.out rfl
        have c0 : wr.cell? ⟨b, off + j * 4, none⟩ = some (.int .i64 (T.arg j).kind) := hla 0 _ rfl
        have c1 : wr.cell? ⟨b, off + j * 4 + 1, none⟩ = some (.string (T.arg j).text) := hla 1 _ rfl
        have c2 : wr.cell? ⟨b, off + j * 4 + 2, none⟩ = some (.bool (T.arg j).neg) := hla 2 _ rfl
        have c3 : wr.cell? ⟨b, off + j * 4 + 3, none⟩ = some (.int .u64 (T.arg j).num) := hla 3 _ rfl
        have HN := Lib.hid (HM.out j hlt)
        have HN : Hid (∀ wx, Calls Tryz.prog 23 #[.agg #[.int .i64 (T.arg j).kind, .string (T.arg j).text, .bool (T.arg j).neg, .int .u64 (T.arg j).num]] wx fun e w' => e = .returned (.bool (mayOB (T.arg j))) ∧ Below wx.heap.size wx w') := Lib.hid (fun wx => HN.out wx)
        obtain ⟨m, hm⟩ : ∃ m, mayOB (T.arg j) = m := ⟨_, rfl⟩
        rw [hm] at HN
        have HMM := Lib.hid hm
        have HJN := Lib.hid (HNA.out j hlt)
        clear hia hla hm hbl
        cases m with
        | false =>
          have HRF := Lib.hid (HJN.out HMM.out)
          go_wp2_with (go_at_call 23; refine (HN.out _).mono ?_; rintro e w1 ⟨rfl, hb⟩; have HB1 := Lib.hid (bthN HBr.out hb); clear hb)
          go_ret
          exact ⟨ret_bo HRF.out.symm, HB1.out⟩
        | true =>
          go_wp2_with (go_at_call 23; refine (HN.out _).mono ?_; rintro e w1 ⟨rfl, hb⟩; have HB1 := Lib.hid (bthN HBr.out hb); have HQ1 := Lib.hid (rowKeep hb HQ.out); clear hb)
          go_roundw
          case rel => exact ⟨j + 1, by omega, by go_num, Lib.hid (upTo HNO.out HMM.out), HQ1, HB1⟩
          case measure => simp [intOf]; omega
      · obtain rfl : j = T.an := by omega
        have HAY := Lib.hid (HYES.out HNO.out)
        clear hlt
        go_wp2_with (fail)
        go_loopw [6] (fun i wr => ∃ (j : Nat), j ≤ T.kn ∧ i = .int .i64 j ∧ Hid (∀ i, i < j → mayB (T.kid i) = true) ∧ Hid (wr.heap[w.heap.size]? = some (.cells #[.int .i64 5, .int .i64 0, .slice T.aa T.an T.ac, .slice T.ka T.kn T.kc] 25)) ∧ Hid (Below w.heap.size w wr)) (fun i _ => T.kn - (intOf i).toNat)
        case atStart => exact ⟨0, Nat.zero_le _, rfl, Lib.hid (fun i hi => absurd hi (Nat.not_lt_zero i)), HQ, HBr⟩
        case round =>
          clear HNO
          obtain ⟨j, hj, rfl, HNO, HQ, HBr⟩ := hrel
          by_cases hlt : j < T.kn
          · obtain ⟨b, off, hia, _, hbl, hla⟩ := HC.out j hlt wr HBr.out
            have d3 : wr.cell? ⟨w.heap.size, 3, none⟩ = some (.slice (some ⟨b, off, none⟩) T.kn T.kc) := by rw [← hia]; exact cell_at HQ.out rfl
            have c0 : wr.cell? ⟨b, off + j * 4, none⟩ = some (.int .i64 (T.kid j).op) := hla 0 _ rfl
            have c1 : wr.cell? ⟨b, off + j * 4 + 1, none⟩ = some (.int .i64 (T.kid j).rel) := hla 1 _ rfl
            have c2 : wr.cell? ⟨b, off + j * 4 + 2, none⟩ = some (.slice (T.kid j).aa (T.kid j).an (T.kid j).ac) := hla 2 _ rfl
            have c3 : wr.cell? ⟨b, off + j * 4 + 3, none⟩ = some (.slice (T.kid j).ka (T.kid j).kn (T.kid j).kc) := hla 3 _ rfl
            have HN := Lib.hid (HI.out j hlt)
            unfold RMayC at HN
            obtain ⟨m, hm⟩ : ∃ m, mayB (T.kid j) = m := ⟨_, rfl⟩
            rw [hm] at HN
            have HMM := Lib.hid hm
            have HJN := Lib.hid (HNK.out j hlt)
            clear hia hla hm hbl
            cases m with
            | false =>
              have HRF := Lib.hid (HJN.out HMM.out)
              go_wp2_with (go_at_call 18; refine (HN.out _ HBr.out).mono ?_; rintro e w1 ⟨rfl, hb⟩; have HB1 := Lib.hid (bthN HBr.out hb); clear hb)
              go_ret
              exact ⟨ret_bo HRF.out.symm, HB1.out⟩
            | true =>
              go_wp2_with (go_at_call 18; refine (HN.out _ HBr.out).mono ?_; rintro e w1 ⟨rfl, hb⟩; have HB1 := Lib.hid (bthN HBr.out hb); have HQ1 := Lib.hid (rowKeep hb HQ.out); clear hb)
              go_roundw
              case rel => exact ⟨j + 1, by omega, by go_num, Lib.hid (upTo HNO.out HMM.out), HQ1, HB1⟩
              case measure => simp [intOf]; omega
          · obtain rfl : j = T.kn := by omega
            have HRT := Lib.hid (HAY.out HNO.out)
            clear hlt
            go_wp2_with (fail)
            go_ret
            exact ⟨ret_bo HRT.out.symm, HBr.out⟩
set_option maxHeartbeats 4000000 in
theorem may_go6 (S : Nat → Prop) (T : XT) (w : World) (H : XAt w S T) (HX : XTx T) (hsm : ∀ i, i < T.an → (T.arg i).text.size ≤ 1000000) (o r : Int) (ho : T.op = o) (hr : T.rel = r)
    (HI : Hid (∀ i, i < T.kn → ∀ wx, Below w.heap.size w wx → RMayC (T.kid i).op (T.kid i).rel (T.kid i).aa (T.kid i).an (T.kid i).ac (T.kid i).ka (T.kid i).kn (T.kid i).kc wx (mayB (T.kid i))))
    (h : o = 6 ∧ T.an = 0 ∧ r = 0 ∧ 2 ≤ T.kn) : RMayC o r T.aa T.an T.ac T.ka T.kn T.kc w (mayB T) := by
  have hk := xt_kn H
  have ha := xt_an H
  have HC := Lib.hid (fun i (hi : i < T.kn) wx (hb : Below w.heap.size w wx) => (kid_at H hb hi).1)
  have HAC := Lib.hid (fun i (hi : i < T.an) wx (hb : Below w.heap.size w wx) => (((xat_iff T).1 H).2.1 i hi).next hb)
  have HM := Lib.hid (fun i (hi : i < T.an) wx => may1_any (T.arg i) (((xtx_iff T).1 HX).1 i hi) (Nat.le_trans (hsm i hi) (by decide)) wx)
  have HNA := Lib.hid (fun j (hj : j < T.an) h => may_noA hj h)
  have HNK := Lib.hid (fun j (hj : j < T.kn) h => may_noK hj h)
  have HYES := Lib.hid (fun h1 h2 => may_yes (T := T) (by rw [ho, hr]; unfold formB; rcases h with ⟨rfl, h1, rfl, h4⟩; (simp only [h1, h4]; simp [*])) h1 h2)
  obtain ⟨R, hR⟩ : ∃ R, mayB T = R := ⟨_, rfl⟩
  rw [hR] at HNA HNK HYES ⊢
  clear H HX hsm ho hr hR
  unfold RMayC
  obtain ⟨rfl, hn, rfl, h⟩ := h
  · have z1 : ((T.an : Int) != 0) = false := by rw [bne_eq_false_iff_eq]; omega
    have z4 : decide ((T.kn : Int) < 2) = false := decide_eq_false (by omega)
    have z5 : decide (T.kn < 2) = false := decide_eq_false (by omega)
    clear hn h
    go_enter Tryz.func18, Tryz.ntmps18
    go_wp2_with (fail)
    all_goals go_quiet (fail)
    all_goals go_wp2_with (fail)
    go_loopw [5] (fun i wr => ∃ (j : Nat), j ≤ T.an ∧ i = .int .i64 j ∧ Hid (∀ i, i < j → mayOB (T.arg i) = true) ∧ Hid (wr.heap[w.heap.size]? = some (.cells #[.int .i64 6, .int .i64 0, .slice T.aa T.an T.ac, .slice T.ka T.kn T.kc] 25)) ∧ Hid (Below w.heap.size w wr)) (fun i _ => T.an - (intOf i).toNat)
    case atStart => exact ⟨0, Nat.zero_le _, rfl, Lib.hid (fun i hi => absurd hi (Nat.not_lt_zero i)), Lib.hid (row2m w _ _ _), Lib.hid bl2⟩
    case round =>
      obtain ⟨j, hj, rfl, HNO, HQ, HBr⟩ := hrel
      have d2 : wr.cell? ⟨w.heap.size, 2, none⟩ = some (.slice T.aa T.an T.ac) := cell_at HQ.out rfl
      by_cases hlt : j < T.an
      · obtain ⟨b, off, hia, _, hbl, hla⟩ := HAC.out j hlt wr HBr.out
        clear d2
        have d2 : wr.cell? ⟨w.heap.size, 2, none⟩ = some (.slice (some ⟨b, off, none⟩) T.an T.ac) := by rw [← hia]; exact cell_at HQ.out rfl
        have c0 : wr.cell? ⟨b, off + j * 4, none⟩ = some (.int .i64 (T.arg j).kind) := hla 0 _ rfl
        have c1 : wr.cell? ⟨b, off + j * 4 + 1, none⟩ = some (.string (T.arg j).text) := hla 1 _ rfl
        have c2 : wr.cell? ⟨b, off + j * 4 + 2, none⟩ = some (.bool (T.arg j).neg) := hla 2 _ rfl
        have c3 : wr.cell? ⟨b, off + j * 4 + 3, none⟩ = some (.int .u64 (T.arg j).num) := hla 3 _ rfl
        have HN := Lib.hid (HM.out j hlt)
        have HN : Hid (∀ wx, Calls Tryz.prog 23 #[.agg #[.int .i64 (T.arg j).kind, .string (T.arg j).text, .bool (T.arg j).neg, .int .u64 (T.arg j).num]] wx fun e w' => e = .returned (.bool (mayOB (T.arg j))) ∧ Below wx.heap.size wx w') := Lib.hid (fun wx => HN.out wx)
        obtain ⟨m, hm⟩ : ∃ m, mayOB (T.arg j) = m := ⟨_, rfl⟩
        rw [hm] at HN
        have HMM := Lib.hid hm
        have HJN := Lib.hid (HNA.out j hlt)
        clear hia hla hm hbl
        cases m with
        | false =>
          have HRF := Lib.hid (HJN.out HMM.out)
          go_wp2_with (go_at_call 23; refine (HN.out _).mono ?_; rintro e w1 ⟨rfl, hb⟩; have HB1 := Lib.hid (bthN HBr.out hb); clear hb)
          go_ret
          exact ⟨ret_bo HRF.out.symm, HB1.out⟩
        | true =>
          go_wp2_with (go_at_call 23; refine (HN.out _).mono ?_; rintro e w1 ⟨rfl, hb⟩; have HB1 := Lib.hid (bthN HBr.out hb); have HQ1 := Lib.hid (rowKeep hb HQ.out); clear hb)
          go_roundw
          case rel => exact ⟨j + 1, by omega, by go_num, Lib.hid (upTo HNO.out HMM.out), HQ1, HB1⟩
          case measure => simp [intOf]; omega
      · obtain rfl : j = T.an := by omega
        have HAY := Lib.hid (HYES.out HNO.out)
        clear hlt
        go_wp2_with (fail)
        go_loopw [6] (fun i wr => ∃ (j : Nat), j ≤ T.kn ∧ i = .int .i64 j ∧ Hid (∀ i, i < j → mayB (T.kid i) = true) ∧ Hid (wr.heap[w.heap.size]? = some (.cells #[.int .i64 6, .int .i64 0, .slice T.aa T.an T.ac, .slice T.ka T.kn T.kc] 25)) ∧ Hid (Below w.heap.size w wr)) (fun i _ => T.kn - (intOf i).toNat)
        case atStart => exact ⟨0, Nat.zero_le _, rfl, Lib.hid (fun i hi => absurd hi (Nat.not_lt_zero i)), HQ, HBr⟩
        case round =>
          clear HNO
          obtain ⟨j, hj, rfl, HNO, HQ, HBr⟩ := hrel
          by_cases hlt : j < T.kn
          · obtain ⟨b, off, hia, _, hbl, hla⟩ := HC.out j hlt wr HBr.out
            have d3 : wr.cell? ⟨w.heap.size, 3, none⟩ = some (.slice (some ⟨b, off, none⟩) T.kn T.kc) := by rw [← hia]; exact cell_at HQ.out rfl
            have c0 : wr.cell? ⟨b, off + j * 4, none⟩ = some (.int .i64 (T.kid j).op) := hla 0 _ rfl
            have c1 : wr.cell? ⟨b, off + j * 4 + 1, none⟩ = some (.int .i64 (T.kid j).rel) := hla 1 _ rfl
            have c2 : wr.cell? ⟨b, off + j * 4 + 2, none⟩ = some (.slice (T.kid j).aa (T.kid j).an (T.kid j).ac) := hla 2 _ rfl
            have c3 : wr.cell? ⟨b, off + j * 4 + 3, none⟩ = some (.slice (T.kid j).ka (T.kid j).kn (T.kid j).kc) := hla 3 _ rfl
            have HN := Lib.hid (HI.out j hlt)
            unfold RMayC at HN
            obtain ⟨m, hm⟩ : ∃ m, mayB (T.kid j) = m := ⟨_, rfl⟩
            rw [hm] at HN
            have HMM := Lib.hid hm
            have HJN := Lib.hid (HNK.out j hlt)
            clear hia hla hm hbl
            cases m with
            | false =>
              have HRF := Lib.hid (HJN.out HMM.out)
              go_wp2_with (go_at_call 18; refine (HN.out _ HBr.out).mono ?_; rintro e w1 ⟨rfl, hb⟩; have HB1 := Lib.hid (bthN HBr.out hb); clear hb)
              go_ret
              exact ⟨ret_bo HRF.out.symm, HB1.out⟩
            | true =>
              go_wp2_with (go_at_call 18; refine (HN.out _ HBr.out).mono ?_; rintro e w1 ⟨rfl, hb⟩; have HB1 := Lib.hid (bthN HBr.out hb); have HQ1 := Lib.hid (rowKeep hb HQ.out); clear hb)
              go_roundw
              case rel => exact ⟨j + 1, by omega, by go_num, Lib.hid (upTo HNO.out HMM.out), HQ1, HB1⟩
              case measure => simp [intOf]; omega
          · obtain rfl : j = T.kn := by omega
            have HRT := Lib.hid (HAY.out HNO.out)
            clear hlt
            go_wp2_with (fail)
            go_ret
            exact ⟨ret_bo HRT.out.symm, HBr.out⟩
theorem rmay_any (S : Nat → Prop) : ∀ (T : XT) (w : World), XAt w S T → XTx T → SmX T → RMayC T.op T.rel T.aa T.an T.ac T.ka T.kn T.kc w (mayB T) := by
  refine XT.ind fun T ih w H HX HS => ?_
  have hlen := xt_kn H
  have hlan := xt_an H
  have hs := (smx_iff T).1 HS
  have HI := Lib.hid (fun i (hi : i < T.kn) wx (hb : Below w.heap.size w wx) => ih i hi wx (kid_at H hb hi).2 (((xtx_iff T).1 HX).2 i hi) (hs.2 i hi))
  have key : ∀ b, mayB T = b → RMayC T.op T.rel T.aa T.an T.ac T.ka T.kn T.kc w b → RMayC T.op T.rel T.aa T.an T.ac T.ka T.kn T.kc w (mayB T) := fun b e h => by rw [e]; exact h
  have hnf : formB T.op T.rel T.an T.kn = false → mayB T = false := fun e => by rw [mayB_eq, e]; rfl
  by_cases h1 : T.op < 1
  · refine key false (hnf ?_) (may_lo T.op T.rel T.aa T.an T.ac T.ka T.kn T.kc w hlen hlan h1)
    exact form_op (fun e => by omega) (fun e => by omega) (fun e => by omega) (fun e => by omega) (fun e => by omega) (fun e => by omega)
  by_cases h6 : 6 < T.op
  · refine key false (hnf ?_) (may_hi T.op T.rel T.aa T.an T.ac T.ka T.kn T.kc w hlen hlan h6)
    exact form_op (fun e => by omega) (fun e => by omega) (fun e => by omega) (fun e => by omega) (fun e => by omega) (fun e => by omega)
  have ho : T.op = 1 ∨ T.op = 2 ∨ T.op = 3 ∨ T.op = 4 ∨ T.op = 5 ∨ T.op = 6 := by omega
  clear h1 h6
  rcases ho with ho | ho | ho | ho | ho | ho
  · by_cases ha : T.an = 2
    · by_cases hr : 1 ≤ T.rel ∧ T.rel ≤ 6
      · by_cases hk : T.kn = 0
        · exact may_go1 S T w H HX hs.1 T.op T.rel rfl rfl HI ⟨ho, ha, hr.1, hr.2, hk⟩
        · exact key false (hnf (by rw [ho]; first | (simp [formB, hk]; done) | (simp [formB]; omega))) (may_kn T.op T.rel T.aa T.an T.ac T.ka T.kn T.kc w hlen hlan (.inl ⟨ho, ha, hr.1, hr.2, hk⟩))
      · have hr2 : T.rel < 1 ∨ 6 < T.rel := by omega
        rcases hr2 with hr2 | hr2
        · exact key false (hnf (by rw [ho]; simp [formB]; omega)) (may_rel T.op T.rel T.aa T.an T.ac T.ka T.kn T.kc w hlen hlan (.inl ⟨ho, ha, hr2⟩))
        · exact key false (hnf (by rw [ho]; simp [formB]; omega)) (may_rel T.op T.rel T.aa T.an T.ac T.ka T.kn T.kc w hlen hlan (.inr (.inl ⟨ho, ha, hr2⟩)))
    · exact key false (hnf (by rw [ho]; first | (simp [formB, ha]; done) | (simp [formB]; omega))) (may_an T.op T.rel T.aa T.an T.ac T.ka T.kn T.kc w hlen hlan (.inl ⟨ho, ha⟩))
  · by_cases ha : T.an = 3
    · by_cases hr : T.rel = 0
      · by_cases hk : T.kn = 0
        · exact may_go2 S T w H HX hs.1 T.op T.rel rfl rfl HI ⟨ho, ha, hr, hk⟩
        · exact key false (hnf (by rw [ho]; first | (simp [formB, hk]; done) | (simp [formB]; omega))) (may_kn T.op T.rel T.aa T.an T.ac T.ka T.kn T.kc w hlen hlan (.inr (.inl ⟨ho, ha, hr, hk⟩)))
      · exact key false (hnf (by rw [ho]; first | (simp [formB, hr]; done) | (simp [formB]; omega))) (may_rel T.op T.rel T.aa T.an T.ac T.ka T.kn T.kc w hlen hlan (.inr (.inr (.inl ⟨ho, ha, hr⟩))))
    · exact key false (hnf (by rw [ho]; first | (simp [formB, ha]; done) | (simp [formB]; omega))) (may_an T.op T.rel T.aa T.an T.ac T.ka T.kn T.kc w hlen hlan (.inr (.inl ⟨ho, ha⟩)))
  · by_cases ha : T.an = 2
    · by_cases hr : T.rel = 0
      · by_cases hk : T.kn = 0
        · exact may_go3 S T w H HX hs.1 T.op T.rel rfl rfl HI ⟨ho, ha, hr, hk⟩
        · exact key false (hnf (by rw [ho]; first | (simp [formB, hk]; done) | (simp [formB]; omega))) (may_kn T.op T.rel T.aa T.an T.ac T.ka T.kn T.kc w hlen hlan (.inr (.inr (.inl ⟨ho, ha, hr, hk⟩))))
      · exact key false (hnf (by rw [ho]; first | (simp [formB, hr]; done) | (simp [formB]; omega))) (may_rel T.op T.rel T.aa T.an T.ac T.ka T.kn T.kc w hlen hlan (.inr (.inr (.inr (.inl ⟨ho, ha, hr⟩)))))
    · exact key false (hnf (by rw [ho]; first | (simp [formB, ha]; done) | (simp [formB]; omega))) (may_an T.op T.rel T.aa T.an T.ac T.ka T.kn T.kc w hlen hlan (.inr (.inr (.inl ⟨ho, ha⟩))))
  · by_cases ha : T.an = 0
    · by_cases hr : T.rel = 0
      · by_cases hk : T.kn = 1
        · exact may_go4 S T w H HX hs.1 T.op T.rel rfl rfl HI ⟨ho, ha, hr, hk⟩
        · exact key false (hnf (by rw [ho]; first | (simp [formB, hk]; done) | (simp [formB]; omega))) (may_kn T.op T.rel T.aa T.an T.ac T.ka T.kn T.kc w hlen hlan (.inr (.inr (.inr (.inl ⟨ho, ha, hr, hk⟩)))))
      · exact key false (hnf (by rw [ho]; first | (simp [formB, hr]; done) | (simp [formB]; omega))) (may_rel T.op T.rel T.aa T.an T.ac T.ka T.kn T.kc w hlen hlan (.inr (.inr (.inr (.inr (.inl ⟨ho, ha, hr⟩))))))
    · exact key false (hnf (by rw [ho]; first | (simp [formB, ha]; done) | (simp [formB]; omega))) (may_an T.op T.rel T.aa T.an T.ac T.ka T.kn T.kc w hlen hlan (.inr (.inr (.inr (.inl ⟨ho, ha⟩)))))
  · by_cases ha : T.an = 0
    · by_cases hr : T.rel = 0
      · by_cases hk : 2 ≤ T.kn
        · exact may_go5 S T w H HX hs.1 T.op T.rel rfl rfl HI ⟨ho, ha, hr, hk⟩
        · exact key false (hnf (by rw [ho]; first | (simp [formB, hk]; done) | (simp [formB]; omega))) (may_kn T.op T.rel T.aa T.an T.ac T.ka T.kn T.kc w hlen hlan (.inr (.inr (.inr (.inr (.inl ⟨ho, ha, hr, (by omega)⟩))))))
      · exact key false (hnf (by rw [ho]; first | (simp [formB, hr]; done) | (simp [formB]; omega))) (may_rel T.op T.rel T.aa T.an T.ac T.ka T.kn T.kc w hlen hlan (.inr (.inr (.inr (.inr (.inr (.inl ⟨ho, ha, hr⟩)))))))
    · exact key false (hnf (by rw [ho]; first | (simp [formB, ha]; done) | (simp [formB]; omega))) (may_an T.op T.rel T.aa T.an T.ac T.ka T.kn T.kc w hlen hlan (.inr (.inr (.inr (.inr (.inl ⟨ho, ha⟩))))))
  · by_cases ha : T.an = 0
    · by_cases hr : T.rel = 0
      · by_cases hk : 2 ≤ T.kn
        · exact may_go6 S T w H HX hs.1 T.op T.rel rfl rfl HI ⟨ho, ha, hr, hk⟩
        · exact key false (hnf (by rw [ho]; first | (simp [formB, hk]; done) | (simp [formB]; omega))) (may_kn T.op T.rel T.aa T.an T.ac T.ka T.kn T.kc w hlen hlan (.inr (.inr (.inr (.inr (.inr ⟨ho, ha, hr, (by omega)⟩))))))
      · exact key false (hnf (by rw [ho]; first | (simp [formB, hr]; done) | (simp [formB]; omega))) (may_rel T.op T.rel T.aa T.an T.ac T.ka T.kn T.kc w hlen hlan (.inr (.inr (.inr (.inr (.inr (.inr ⟨ho, ha, hr⟩)))))))
    · exact key false (hnf (by rw [ho]; first | (simp [formB, ha]; done) | (simp [formB]; omega))) (may_an T.op T.rel T.aa T.an T.ac T.ka T.kn T.kc w hlen hlan (.inr (.inr (.inr (.inr (.inr ⟨ho, ha⟩))))))
end Go.Proofs.YtjgdkiikkgdbaaaGreatDoor
