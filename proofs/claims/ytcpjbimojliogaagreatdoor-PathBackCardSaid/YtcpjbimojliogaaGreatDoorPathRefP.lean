/- The reference's steps of a text. -/
import Derived.Test.YtcpjbimojliogaaGreatDoorPathPMath
import Derived.Test.YtcpjbimojliogaaGreatDoorPathFind
namespace Go.Proofs.YtcpjbimojliogaaGreatDoor
open Go Go.RowKit
set_option linter.unusedVariables false

def flatP : List PieceV → List Value
  | [] => []
  | x :: r => .string x.name :: .int .i64 x.n :: flatP r
theorem flatP_snoc (l : List PieceV) (x : PieceV) : flatP (l ++ [x]) = flatP l ++ [.string x.name, .int .i64 x.n] := by
  induction l with
  | nil => rfl
  | cons a l ih => simp only [List.cons_append, flatP, ih]
theorem infoPiece : (Tryz.prog.info? 72).map (fun i => (i.zero, i.size, i.bytes)) = some (some (.agg #[.string ⟨#[]⟩, .int .i64 0]), 2, 24) := by kernel_rfl
def strSz : Value → Nat
  | .string x => x.size
  | _ => 0
def PiecesTo (s : ByteArray) (w : World) (e : Ending) (w' : World) : Prop :=
  ∃ v, e = .returned (.tuple #[v, .bool (formS s)]) ∧ (formS s = true → w'.ownsRow w.heap.size 72 2 v (piecesS s 0).length (flatP ((piecesS s 0).map (·.1)))) ∧ Below w.heap.size w w'
theorem form_bad {s : ByteArray} {pre : List (PieceV × Bool)} {a : Nat} {x : PieceV} (hx : piecesS s 0 = pre ++ piecesS s a) (h : a < s.size) (hl : leadP (s.extract a s.size) (a == 0) = (x, 0)) : formS s = false := by
  unfold formS
  rw [hx, piecesS_last h hl]
  simp

set_option maxRecDepth 100000 in
set_option maxHeartbeats 4000000 in
theorem rpieces12_any (s : ByteArray) (hs : s.size ≤ 1000000) (w : World) : Calls Tryz.prog 26 #[.string s] w (PiecesTo s w) := by
  obtain ⟨i0, hi, iz0, iz1, iz2⟩ := info_parts infoPiece
  have hmx : (1000001 : Nat) ≤ maxLen := by decide
  go_enter Tryz.func26, Tryz.ntmps26
  go_wp2
  go_loopw [0, 4] (fun p q wr => ∃ (pre : List (PieceV × Bool)) (a : Nat) (ia : Option Addr) (m cp : Nat), p = .string (s.extract a s.size) ∧ q = .slice ia m cp ∧ m = pre.length ∧ wr.ownsRow w.heap.size 72 2 (.slice ia m cp) m (flatP (pre.map (·.1))) ∧
      piecesS s 0 = pre ++ piecesS s a ∧ pre.all (·.2) = true ∧ (pre = [] ↔ a = 0) ∧ m ≤ a ∧ Below w.heap.size w wr)
    (fun p _ _ => strSz p)
  case atStart => exact ⟨[], 0, none, 0, 0, by simp, rfl, rfl, World.ownsRow_nil _ _ _ _, rfl, rfl, by simp, by simp, Below.refl _ _⟩
  case round =>
    obtain ⟨pre, a, ia, m, cp, rfl, rfl, hm0, hrow, hx, hal, hnz, hpl, hbl⟩ := hrel
    have hm := hm0.symm
    clear hm0
    have HM := Lib.hid hm
    have hnz2 : m = 0 ↔ a = 0 := by rw [← hnz, ← hm, List.length_eq_zero_iff]
    have HAL := Lib.hid hal
    have HX := Lib.hid hx
    have hrz : (s.extract a s.size).size = s.size - a := by simp
    have hlead : ∀ x n, a < s.size → leadP (s.extract a s.size) (a == 0) = (x, n) → rpieceS (s.extract a s.size) (!(a == 0)) = if n = 0 then none else some (x, s.extract (a + n) s.size) := fun x n _ h => by
      have := rpiece_same (r := s.extract a s.size) (nz := !(a == 0)) (x := x) (n := n) (by rw [Bool.not_not]; exact h)
      rw [this, ext_ext]
    have hbad : ∀ x, a < s.size → leadP (s.extract a s.size) (a == 0) = (x, 0) → formS s = false := fun x h1 h2 => form_bad hx h1 h2
    have hnx : ∀ x n, a < s.size → leadP (s.extract a s.size) (a == 0) = (x, n) → n ≠ 0 → piecesS s a = (x, true) :: piecesS s (a + n) := fun x n h1 h2 h3 => piecesS_next h1 h2 h3
    have hend : ¬ a < s.size → m ≠ 0 → formS s = true ∧ piecesS s 0 = pre := fun h1 h2 => by
      have e : piecesS s 0 = pre := by rw [hx, piecesS_end h1, List.append_nil]
      have hsz : (s.size == 0) = false := by
        rw [beq_eq_false_iff_ne]
        intro h0
        rw [piecesS_end (by omega)] at e
        exact h2 (hnz2.2 (hnz.1 e.symm))
      refine ⟨?_, e⟩
      unfold formS
      rw [e, hal, hsz]
      rfl
    have hemp : ¬ a < s.size → m = 0 → formS s = false := fun h1 h2 => by
      have ha := hnz2.1 h2
      unfold formS
      rw [show (s.size == 0) = true from beq_iff_eq.2 (by omega)]
      simp
    clear hx hal hnz hm
    obtain ⟨r, hr⟩ : ∃ r, s.extract a s.size = r := ⟨_, rfl⟩
    rw [hr] at hrz hlead hbad hnx ⊢
    have HE := Lib.hid (fun wx => elem12_any r (by omega) wx)
    unfold elemV at HE
    by_cases hlt : a < s.size
    · have hre : r.toList.isEmpty = false := by rw [empty_size]; exact beq_eq_false_iff_ne.2 (by omega)
      have hr0 : 0 < r.size := by omega
      obtain ⟨⟨x, n⟩, hxn⟩ : ∃ y, leadP r (a == 0) = y := ⟨_, rfl⟩
      have hl := hlead x n hlt hxn
      have hszn : n ≠ 0 → (s.extract (a + n) s.size).size < r.size := fun h => by simp; omega
      by_cases hek : elemK r < 100
      · rw [if_pos hek] at HE
        have h2 : rpieceS r (!(a == 0)) = some (⟨true, (elemK r : Nat), ⟨#[]⟩⟩, r.extract (wS (elemK r)).size r.size) := by unfold rpieceS; rw [if_pos hek]
        rw [h2] at hl
        by_cases hn : n = 0
        · rw [if_pos hn] at hl; cases hl
        · rw [if_neg hn] at hl
          obtain ⟨hx1, hx2⟩ := Prod.mk.inj (Option.some.inj hl)
          rw [hx2] at HE
          have HPN := Lib.hid (hnx x n hlt hxn hn)
          have HSZ := Lib.hid (hszn hn)
          obtain ⟨ek, hekk⟩ : ∃ ek, elemK r = ek := ⟨_, rfl⟩
          rw [hekk] at HE hx1
          have HFX := Lib.hid (show [Value.string x.name, Value.int .i64 x.n] = [.string ⟨#[]⟩, .int .i64 (ek : Nat)] by rw [← hx1])
          have hmk : m = 0 ∨ 0 < m := by omega
          clear hl h2 hek hekk hx1 hx2 hlead hbad hnx hend hemp hxn hszn
          rcases hmk with h0 | h0
          · have km : ((m : Int) == 0) = true := by simp [h0]
            clear h0
            have HRZ := Lib.hid hrz
            clear hrz
            go_wp2_with (first
              | (go_at_call 52; refine (HE.out _).mono ?_; rintro e w1 ⟨rfl, hb1⟩; have HB1 := Lib.hid (hbl.trans (hb1.mono hbl.size)); have HR1 := Lib.hid (row_keep hrow hb1); clear hb1)
              | (at_builtin; refine Hid.out ?_))
            refine Lib.hid ?_
            refine wpList_append_own _ rfl _ _ 68 rfl w.heap.size 72 i0 (.agg #[.string ⟨#[]⟩, .int .i64 0]) 2 24 Tryz.underlying68 hi iz0 iz1 iz2 rfl (by decide) (.slice ia m cp) m (flatP (pre.map (·.1))) rfl (HR1.out.alloc _) ⟨_, 0, none⟩ 1 1 [.string ⟨#[]⟩, .int .i64 (ek : Nat)] rfl rfl (two_new _ _ _ _ _ rfl) (by simp [Value.oneCell']) (by omega) (by omega) (by have := HB1.out.size; simp; omega) ?_
            intro v' w6 hown' hgrow hnil'
            obtain ⟨g', cap', rfl⟩ := ownsRow_succ hown'
            have HB6 := Lib.hid (app_below (HR1.out.alloc _) hgrow (HB1.out.alloc HB1.out.size _) (Nat.le_refl _) (by have := HB1.out.size; simp; omega))
            have HW6 := Lib.hid hown'
            clear hown' hgrow hnil'
            go_wp2
            go_roundw
            case measure => have := HSZ.out; simp only [strSz]; omega
            case rel => exact ⟨pre ++ [(x, true)], a + n, _, m + 1, _, (by first | rfl | rw [HRE.out]), rfl, (by have hm2 := HM.out; simp [hm2]), (by have := HW6.out; simp only [List.map_append, List.map_cons, List.map_nil, flatP_snoc, HFX.out]; exact this), (by rw [HX.out, HPN.out]; simp), (by simp [HAL.out]), (by simp; omega), (by omega), HB6.out⟩
          · have km : ((m : Int) == 0) = false := by simp; omega
            have HRZ := Lib.hid hrz
            clear hrz
            go_wp2_with (first
              | (go_at_call 52; refine (HE.out _).mono ?_; rintro e w1 ⟨rfl, hb1⟩; have HB1 := Lib.hid (hbl.trans (hb1.mono hbl.size)); have HR1 := Lib.hid (row_keep hrow hb1); clear hb1)
              | (at_builtin; refine Hid.out ?_))
            refine Lib.hid ?_
            refine wpList_append_own _ rfl _ _ 68 rfl w.heap.size 72 i0 (.agg #[.string ⟨#[]⟩, .int .i64 0]) 2 24 Tryz.underlying68 hi iz0 iz1 iz2 rfl (by decide) (.slice ia m cp) m (flatP (pre.map (·.1))) rfl (HR1.out.alloc _) ⟨_, 0, none⟩ 1 1 [.string ⟨#[]⟩, .int .i64 (ek : Nat)] rfl rfl (two_new _ _ _ _ _ rfl) (by simp [Value.oneCell']) (by omega) (by omega) (by have := HB1.out.size; simp; omega) ?_
            intro v' w6 hown' hgrow hnil'
            obtain ⟨g', cap', rfl⟩ := ownsRow_succ hown'
            have HB6 := Lib.hid (app_below (HR1.out.alloc _) hgrow (HB1.out.alloc HB1.out.size _) (Nat.le_refl _) (by have := HB1.out.size; simp; omega))
            have HW6 := Lib.hid hown'
            clear hown' hgrow hnil'
            go_wp2
            go_roundw
            case measure => have := HSZ.out; simp only [strSz]; omega
            case rel => exact ⟨pre ++ [(x, true)], a + n, _, m + 1, _, (by first | rfl | rw [HRE.out]), rfl, (by have hm2 := HM.out; simp [hm2]), (by have := HW6.out; simp only [List.map_append, List.map_cons, List.map_nil, flatP_snoc, HFX.out]; exact this), (by rw [HX.out, HPN.out]; simp), (by simp [HAL.out]), (by simp; omega), (by omega), HB6.out⟩
      · rw [if_neg hek] at HE
        have h2 : rpieceS r (!(a == 0)) = if (!(a == 0)) && decide (charAt r 0 ≠ 46) then none else if leadN (if (!(a == 0)) then r.extract 1 r.size else r) = 0 then none else some (⟨false, 0, (if (!(a == 0)) then r.extract 1 r.size else r).extract 0 (leadN (if (!(a == 0)) then r.extract 1 r.size else r))⟩, (if (!(a == 0)) then r.extract 1 r.size else r).extract (leadN (if (!(a == 0)) then r.extract 1 r.size else r)) (if (!(a == 0)) then r.extract 1 r.size else r).size) := by unfold rpieceS; rw [if_neg hek]
        rw [h2] at hl
        by_cases ha0 : a = 0
        · have hm0 := hnz2.2 ha0
          have ez : (!(a == 0)) = false := by simp [ha0]
          rw [ez] at hl
          simp only [Bool.false_and, Bool.false_eq_true, if_false] at hl
          have km : ((m : Int) == 0) = true := by simp [hm0]
          have kgt : ¬ 0 < m := by omega
          have HL := Lib.hid (fun wx => refLead_any r (by omega) wx)
          clear hm0 ez
          by_cases hk : leadN r = 0
          · rw [if_pos hk] at hl
            have hn : n = 0 := by
              by_cases h : n = 0
              · exact h
              · rw [if_neg h] at hl; cases hl
            have HF := Lib.hid (hbad x hlt (by rw [hn] at hxn; exact hxn))
            rw [hk] at HL
            clear hl h2 hlead hbad hnx hend hemp hxn hszn hn ha0 hk hek hnz2 hpl
            have HRZ := Lib.hid hrz
            clear hrz
            go_wp2_with (first
              | (go_at_call 52; refine (HE.out _).mono ?_; rintro e w1 ⟨rfl, hb1⟩; have HB1 := Lib.hid (hbl.trans (hb1.mono hbl.size)); have HR1 := Lib.hid (row_keep hrow hb1); clear hb1)
              | (go_at_call 53; refine (HL.out _).mono ?_; rintro e w2 ⟨rfl, hw2⟩; have hw3 := hw2; subst hw3))
            go_ret2
            exact ⟨_, (by rw [HF.out]; rfl), (fun h => by rw [HF.out] at h; cases h), HB1.out⟩
          · rw [if_neg hk] at hl
            have hn : n ≠ 0 := fun h => by rw [if_pos h] at hl; cases hl
            rw [if_neg hn] at hl
            obtain ⟨hx1, hx2⟩ := Prod.mk.inj (Option.some.inj hl)
            have HPN := Lib.hid (hnx x n hlt hxn hn)
            have HSZ := Lib.hid (hszn hn)
            obtain ⟨k, hkk⟩ : ∃ k, leadN r = k := ⟨_, rfl⟩
            have hkl := leadN_le r
            rw [hkk] at HL hx1 hx2 hkl hk
            have HRE := Lib.hid hx2
            have HFX := Lib.hid (show [Value.string x.name, Value.int .i64 x.n] = [.string (r.extract 0 k), .int .i64 0] by rw [← hx1])
            have hq0 : ((k : Int) == 0) = false := by simp; omega
            clear hl h2 hlead hbad hnx hend hemp hxn hszn hx1 hx2 hkk hek hk ha0 hnz2
            have hsh : ∀ wx, (Instr.slice 9 (.string r) none (some (.int .i64 (k : Nat))) none).run Tryz.prog wx = .ok (.string (r.extract 0 k)) wx := fun wx => run_slice_string_h wx 9 r Tryz.underlying9 .i64 (k : Nat) (by omega) (by omega)
            have hsr : ∀ wx, (Instr.slice 9 (.string r) (some (.int .i64 (k : Nat))) none none).run Tryz.prog wx = .ok (.string (r.extract k r.size)) wx := fun wx => run_slice_string_l wx 9 r Tryz.underlying9 .i64 (k : Nat) (by omega) (by omega)
            have HRZ := Lib.hid hrz
            clear hrz
            go_wp2_with (first
              | (go_at_call 52; refine (HE.out _).mono ?_; rintro e w1 ⟨rfl, hb1⟩; have HB1 := Lib.hid (hbl.trans (hb1.mono hbl.size)); have HR1 := Lib.hid (row_keep hrow hb1); clear hb1)
              | (go_at_call 53; refine (HL.out _).mono ?_; rintro e w2 ⟨rfl, hw2⟩; have hw3 := hw2; subst hw3)
              | (at_builtin; refine Hid.out ?_))
            refine Lib.hid ?_
            refine wpList_append_own _ rfl _ _ 68 rfl w.heap.size 72 i0 (.agg #[.string ⟨#[]⟩, .int .i64 0]) 2 24 Tryz.underlying68 hi iz0 iz1 iz2 rfl (by decide) (.slice ia m cp) m (flatP (pre.map (·.1))) rfl (HR1.out.alloc _) ⟨_, 0, none⟩ 1 1 [.string (r.extract 0 k), .int .i64 0] rfl rfl (two_new _ _ _ _ _ rfl) (by simp [Value.oneCell']) (by omega) (by omega) (by have := HB1.out.size; simp; omega) ?_
            intro v' w6 hown' hgrow hnil'
            obtain ⟨g', cap', rfl⟩ := ownsRow_succ hown'
            have HB6 := Lib.hid (app_below (HR1.out.alloc _) hgrow (HB1.out.alloc HB1.out.size _) (Nat.le_refl _) (by have := HB1.out.size; simp; omega))
            have HW6 := Lib.hid hown'
            clear hown' hgrow hnil'
            go_wp2
            go_roundw
            case measure => have := HSZ.out; simp only [strSz]; rw [HRE.out]; omega
            case rel => exact ⟨pre ++ [(x, true)], a + n, _, m + 1, _, (by rw [HRE.out]), rfl, (by have hm2 := HM.out; simp [hm2]), (by have := HW6.out; simp only [List.map_append, List.map_cons, List.map_nil, flatP_snoc, HFX.out]; exact this), (by rw [HX.out, HPN.out]; simp), (by simp [HAL.out]), (by simp; omega), (by omega), HB6.out⟩
        · have hm0 : 0 < m := by omega
          have ez : (!(a == 0)) = true := by simp [ha0]
          rw [ez] at hl
          simp only [Bool.true_and, if_true] at hl
          have km : ((m : Int) == 0) = false := by simp; omega
          have hg := charAt_get r 0 hr0
          by_cases h46 : charAt r 0 = 46
          · have k46 : (((r[0]'hr0).toNat : Int) != 46) = false := by rw [← hg, h46]; rfl
            rw [if_neg (by simp [h46])] at hl
            have hsl : ∀ wx, (Instr.slice 9 (.string r) (some (.int .i64 1)) none none).run Tryz.prog wx = .ok (.string (r.extract 1 r.size)) wx := fun wx => run_slice_string_l wx 9 r Tryz.underlying9 .i64 1 (by omega) (by omega)
            have hrz2 : (r.extract 1 r.size).size ≤ 1000000 := by simp; omega
            obtain ⟨r2, hr2⟩ : ∃ r2, r.extract 1 r.size = r2 := ⟨_, rfl⟩
            rw [hr2] at hl hsl hrz2
            have HL := Lib.hid (fun wx => refLead_any r2 (by omega) wx)
            clear hg h46 ez
            by_cases hk : leadN r2 = 0
            · rw [if_pos hk] at hl
              have hn : n = 0 := by
                by_cases h : n = 0
                · exact h
                · rw [if_neg h] at hl; cases hl
              have HF := Lib.hid (hbad x hlt (by rw [hn] at hxn; exact hxn))
              rw [hk] at HL
              clear hl h2 hlead hbad hnx hend hemp hxn hszn hn ha0 hk hek hnz2 hpl
              have HRZ := Lib.hid hrz
              clear hrz
              go_wp2_with (first
                | (go_at_call 52; refine (HE.out _).mono ?_; rintro e w1 ⟨rfl, hb1⟩; have HB1 := Lib.hid (hbl.trans (hb1.mono hbl.size)); have HR1 := Lib.hid (row_keep hrow hb1); clear hb1)
                | (go_at_call 53; refine (HL.out _).mono ?_; rintro e w2 ⟨rfl, hw2⟩; have hw3 := hw2; subst hw3))
              go_ret2
              exact ⟨_, (by rw [HF.out]; rfl), (fun h => by rw [HF.out] at h; cases h), HB1.out⟩
            · rw [if_neg hk] at hl
              have hn : n ≠ 0 := fun h => by rw [if_pos h] at hl; cases hl
              rw [if_neg hn] at hl
              obtain ⟨hx1, hx2⟩ := Prod.mk.inj (Option.some.inj hl)
              have HPN := Lib.hid (hnx x n hlt hxn hn)
              have HSZ := Lib.hid (hszn hn)
              obtain ⟨k, hkk⟩ : ∃ k, leadN r2 = k := ⟨_, rfl⟩
              have hkl := leadN_le r2
              rw [hkk] at HL hx1 hx2 hkl hk
              have HRE := Lib.hid hx2
              have HFX := Lib.hid (show [Value.string x.name, Value.int .i64 x.n] = [.string (r2.extract 0 k), .int .i64 0] by rw [← hx1])
              have hq0 : ((k : Int) == 0) = false := by simp; omega
              clear hl h2 hlead hbad hnx hend hemp hxn hszn hx1 hx2 hkk hek hk ha0 hnz2
              have hsh : ∀ wx, (Instr.slice 9 (.string r2) none (some (.int .i64 (k : Nat))) none).run Tryz.prog wx = .ok (.string (r2.extract 0 k)) wx := fun wx => run_slice_string_h wx 9 r2 Tryz.underlying9 .i64 (k : Nat) (by omega) (by omega)
              have hsr : ∀ wx, (Instr.slice 9 (.string r2) (some (.int .i64 (k : Nat))) none none).run Tryz.prog wx = .ok (.string (r2.extract k r2.size)) wx := fun wx => run_slice_string_l wx 9 r2 Tryz.underlying9 .i64 (k : Nat) (by omega) (by omega)
              have HRZ := Lib.hid hrz
              clear hrz
              go_wp2_with (first
                | (go_at_call 52; refine (HE.out _).mono ?_; rintro e w1 ⟨rfl, hb1⟩; have HB1 := Lib.hid (hbl.trans (hb1.mono hbl.size)); have HR1 := Lib.hid (row_keep hrow hb1); clear hb1)
                | (go_at_call 53; refine (HL.out _).mono ?_; rintro e w2 ⟨rfl, hw2⟩; have hw3 := hw2; subst hw3)
                | (at_builtin; refine Hid.out ?_))
              refine Lib.hid ?_
              refine wpList_append_own _ rfl _ _ 68 rfl w.heap.size 72 i0 (.agg #[.string ⟨#[]⟩, .int .i64 0]) 2 24 Tryz.underlying68 hi iz0 iz1 iz2 rfl (by decide) (.slice ia m cp) m (flatP (pre.map (·.1))) rfl (HR1.out.alloc _) ⟨_, 0, none⟩ 1 1 [.string (r2.extract 0 k), .int .i64 0] rfl rfl (two_new _ _ _ _ _ rfl) (by simp [Value.oneCell']) (by omega) (by omega) (by have := HB1.out.size; simp; omega) ?_
              intro v' w6 hown' hgrow hnil'
              obtain ⟨g', cap', rfl⟩ := ownsRow_succ hown'
              have HB6 := Lib.hid (app_below (HR1.out.alloc _) hgrow (HB1.out.alloc HB1.out.size _) (Nat.le_refl _) (by have := HB1.out.size; simp; omega))
              have HW6 := Lib.hid hown'
              clear hown' hgrow hnil'
              go_wp2
              go_roundw
              case measure => have := HSZ.out; simp only [strSz]; rw [HRE.out]; omega
              case rel => exact ⟨pre ++ [(x, true)], a + n, _, m + 1, _, (by rw [HRE.out]), rfl, (by have hm2 := HM.out; simp [hm2]), (by have := HW6.out; simp only [List.map_append, List.map_cons, List.map_nil, flatP_snoc, HFX.out]; exact this), (by rw [HX.out, HPN.out]; simp), (by simp [HAL.out]), (by simp; omega), (by omega), HB6.out⟩
          · have k46 : (((r[0]'hr0).toNat : Int) != 46) = true := by rw [← hg]; simp; omega
            rw [if_pos (by simp [h46])] at hl
            have hn : n = 0 := by
              by_cases h : n = 0
              · exact h
              · rw [if_neg h] at hl; cases hl
            have HF := Lib.hid (hbad x hlt (by rw [hn] at hxn; exact hxn))
            clear hl h2 hlead hbad hnx hend hemp hxn hszn hn ha0 hek hnz2 hpl hg h46 ez
            have HRZ := Lib.hid hrz
            clear hrz
            go_wp2_with (first
              | (go_at_call 52; refine (HE.out _).mono ?_; rintro e w1 ⟨rfl, hb1⟩; have HB1 := Lib.hid (hbl.trans (hb1.mono hbl.size)); have HR1 := Lib.hid (row_keep hrow hb1); clear hb1))
            go_ret2
            exact ⟨_, (by rw [HF.out]; rfl), (fun h => by rw [HF.out] at h; cases h), HB1.out⟩
    · have hre : r.toList.isEmpty = true := by rw [empty_size]; exact beq_iff_eq.2 (by omega)
      by_cases hm0 : m = 0
      · have km : ((m : Int) == 0) = true := by simp [hm0]
        have kgt : ¬ 0 < m := by omega
        have HF := Lib.hid (hemp hlt hm0)
        have h91 : charAt r 0 ≠ 91 := by
          unfold charAt
          have : r.data.toList = [] := by
            rw [← List.length_eq_zero_iff]
            have h8 : r.data.toList.length = r.size := by simp
            omega
          rw [this]
          decide
        rw [elem_not h91, if_neg (by omega)] at HE
        have HL := Lib.hid (fun wx => refLead_any r (by omega) wx)
        rw [show leadN r = 0 by have := leadN_le r; omega] at HL
        clear hlead hbad hnx hend hemp hm0 hnz2 hpl h91
        have HRZ := Lib.hid hrz
        clear hrz
        go_wp2_with (first
          | (go_at_call 52; refine (HE.out _).mono ?_; rintro e w1 ⟨rfl, hb1⟩; have HB1 := Lib.hid (hbl.trans (hb1.mono hbl.size)); have HR1 := Lib.hid (row_keep hrow hb1); clear hb1)
          | (go_at_call 53; refine (HL.out _).mono ?_; rintro e w2 ⟨rfl, hw2⟩; have hw3 := hw2; subst hw3))
        go_ret2
        exact ⟨_, (by rw [HF.out]; rfl), (fun h => by rw [HF.out] at h; cases h), HB1.out⟩
      · have km : ((m : Int) == 0) = false := by simp; omega
        obtain ⟨hf, hpe⟩ := hend hlt hm0
        have HF := Lib.hid hf
        have HPE := Lib.hid hpe
        have HROW := Lib.hid hrow
        clear hlead hbad hnx hend hemp hf hpe hm0 hnz2 hpl hrow
        go_wp2
        go_ret2
        exact ⟨_, (by rw [HF.out]; rfl), (fun _ => by rw [HPE.out, HM.out]; exact HROW.out), hbl⟩
end Go.Proofs.YtcpjbimojliogaaGreatDoor
