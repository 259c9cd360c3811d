/- The walk of AlignTakes. -/
import Derived.Test.YtgiaidoaadjfkaaAlignAwake
import Derived.Test.YtgiaidoaadjfkaaAlignParts
import Derived.Deep.RegionHeld3
import Derived.Deep.DeepCutAuto
namespace Go.Proofs.Ytgiaidoaadjfkaa
open Go.RowKit
set_option linter.unusedVariables false
/-- a cursor's step, with an error or without -/
def sxS (s : ByteArray) (a : Nat) (e n : Int) : ByteArray := if e = 0 then txS s a n else ⟨#[]⟩
def sxA (s : ByteArray) (a : Nat) (e n : Int) : Nat := if e = 0 then txA s a n else a
def sxE (s : ByteArray) (a : Nat) (e n : Int) : Int := if e = 0 then txE s a n else e
def skN (s : ByteArray) (a : Nat) (e n : Int) : Int := if e = 0 then tkN s a n else 0
def skA (s : ByteArray) (a : Nat) (e n : Int) : Nat := if e = 0 then tkA s a n else a
def skE (s : ByteArray) (a : Nat) (e n : Int) : Int := if e = 0 then tkE s a n else e
theorem sxA_le {s : ByteArray} {a : Nat} (e n : Int) (h : a ≤ s.size) : sxA s a e n ≤ s.size := by unfold sxA; split; exact txA_le n h; exact h
theorem skA_le {s : ByteArray} {a : Nat} (e n : Int) (h : a ≤ s.size) : skA s a e n ≤ s.size := by unfold skA; split; exact tkA_le n h; exact h
theorem ctext_st (c : Nat) (s : ByteArray) (a : Nat) (e n : Int) (w : World) (h : CurAt c s a e w) (ha : a ≤ s.size) (hs : s.size ≤ 281474976710656) (hn : (Lit.int .i64 n).wf = true) :
    Calls Try.prog 18 #[.pointer (some ⟨c, 0, none⟩), .int .i64 n] w (CurTo c s (sxA s a e n : Nat) (sxE s a e n) (.string (sxS s a e n)) w) := by
  unfold sxA sxE sxS
  by_cases he : e = 0
  · subst he; simp only [if_true]; exact ctext_any c s a n w h ha hs hn
  · simp only [if_neg he]; exact ctext_err c s a e n w h he
theorem refText_st (s : ByteArray) (a : Nat) (e n : Int) (ha : a ≤ s.size) (hs : s.size ≤ 281474976710656) (hn : (Lit.int .i64 n).wf = true) (w : World) :
    Calls Try.prog 17 #[.string s, .agg #[.int .i64 a, .int .i64 e], .int .i64 n] w fun r w' => r = .returned (.tuple #[.string (sxS s a e n), .agg #[.int .i64 (sxA s a e n : Nat), .int .i64 (sxE s a e n)]]) ∧ Below w.heap.size w w' := by
  unfold sxA sxE sxS
  by_cases he : e = 0
  · subst he; simp only [if_true]; exact refText_any s a n ha hs hn w
  · simp only [if_neg he]; exact refText_err s a e n he w
theorem ctake_st (c : Nat) (s : ByteArray) (a : Nat) (e n : Int) (w : World) (h : CurAt c s a e w) (ha : a ≤ s.size) (hs : s.size ≤ 281474976710656) (hn : (Lit.int .i64 n).wf = true) :
    Calls Try.prog 20 #[.pointer (some ⟨c, 0, none⟩), .int .i64 n] w (CurTo c s (skA s a e n : Nat) (skE s a e n) (.int .u64 (skN s a e n)) w) := by
  unfold skA skE skN
  by_cases he : e = 0
  · subst he; simp only [if_true]; exact ctake_any c s a n w h ha hs hn
  · simp only [if_neg he]; exact ctake_err c s a e n w h he
theorem refTake_st (s : ByteArray) (a : Nat) (e n : Int) (ha : a ≤ s.size) (hs : s.size ≤ 281474976710656) (w : World) :
    Calls Try.prog 19 #[.string s, .agg #[.int .i64 a, .int .i64 e], .int .i64 n] w fun r w' => r = .returned (.tuple #[.int .u64 (skN s a e n), .agg #[.int .i64 (skA s a e n : Nat), .int .i64 (skE s a e n)]]) ∧ Below w.heap.size w w' := by
  unfold skA skE skN
  by_cases he : e = 0
  · subst he; simp only [if_true]; exact refBTake_any s a n ha hs w
  · simp only [if_neg he]; exact refTake_err s a e n he w
/-- the statement's own cursor, in a block -/
def VarAt (b : Nat) (a e : Int) (w : World) : Prop := w.heap[b]? = some (.cells #[.int .i64 a, .int .i64 e] 42 (0, 0))
theorem keep_ad {w : World} {o : Obj} {p : Addr} {v : Value} (h : w.cell? p = some v) : (w.alloc o).drew.cell? p = some v := keep (new_below w o).drew h
theorem blk_ad {w w1 : World} {o : Obj} (hb : Below (w.alloc o).drew.heap.size (w.alloc o).drew w1) : w1.heap[w.heap.size]? = some o := (hb.block _ (by simp)).trans (alloc_at w o)
theorem keep_set2 {w : World} {b o c : Nat} {v x y : Value} (h : w.cell? ⟨b, o, none⟩ = some v) (hne : ¬ b = c) : ((w.setCell ⟨c, 0, none⟩ x).setCell ⟨c, 1, none⟩ y).cell? ⟨b, o, none⟩ = some v := by
  have e : ((w.setCell ⟨c, 0, none⟩ x).setCell ⟨c, 1, none⟩ y).heap[b]? = w.heap[b]? := (set_other hne).trans (set_other hne)
  rw [World.cell?_of_block (w := w) (a := ⟨b, o, none⟩) e]; exact h
theorem var_set {b : Nat} {a0 e0 a e : Int} {w : World} (h : VarAt b a0 e0 w) : VarAt b a e ((w.setCell ⟨b, 0, none⟩ (.int .i64 a)).setCell ⟨b, 1, none⟩ (.int .i64 e)) := by
  have h1 := set_at (j := 0) (u := .int .i64 a) h
  have h2 := set_at (j := 1) (u := .int .i64 e) h1
  simpa [VarAt] using h2
theorem cur_keep {c : Nat} {s : ByteArray} {a e : Int} {w w1 : World} (h : CurAt c s a e w) (hb : Below w.heap.size w w1) : CurAt c s a e w1 := (hb.block c (lt_of_block h)).trans h
theorem var_keep {c : Nat} {a e : Int} {w w1 : World} (h : VarAt c a e w) (hb : Below w.heap.size w w1) : VarAt c a e w1 := (hb.block c (lt_of_block h)).trans h
theorem cur_var {c b : Nat} {s : ByteArray} {a e : Int} {x y : Value} {w : World} (h : CurAt c s a e w) (hne : c ≠ b) : CurAt c s a e ((w.setCell ⟨b, 0, none⟩ x).setCell ⟨b, 1, none⟩ y) :=
  ((set_other hne).trans (set_other hne)).trans h
theorem round_below {w wr wc w2 : World} {x y : Value} (hr : Below w.heap.size w wr) (hb : Below wr.heap.size wr wc) (ho : Only (fun k => k = w.heap.size) ((wc.setCell ⟨w.heap.size + 1, 0, none⟩ x).setCell ⟨w.heap.size + 1, 1, none⟩ y) w2) : Below w.heap.size w w2 := by
  have h1 := below_step hr hb
  have h2 := (h1.setCell (p := ⟨w.heap.size + 1, 0, none⟩) (by simp) x).setCell (p := ⟨w.heap.size + 1, 1, none⟩) (by simp) y
  exact h2.trans (ho.below (by omega) h2.size)
theorem var_start (w : World) (s : ByteArray) : Hid (VarAt (w.heap.size + 1) 0 0 ((w.alloc (.cells #[.int .i64 0, .string s, .int .i64 0] 61 (0, 0))).alloc (.cells #[.int .i64 0, .int .i64 0] 42 (0, 0)))) := by
  have h := alloc_at (w.alloc (.cells #[.int .i64 0, .string s, .int .i64 0] 61 (0, 0))) (.cells #[.int .i64 0, .int .i64 0] 42 (0, 0))
  rw [World.size_alloc] at h
  exact h
set_option maxHeartbeats 4000000 in
set_option maxRecDepth 100000 in
theorem takes_walk (s : ByteArray) (ao : Option Addr) (len cap : Nat) (L : Nat → AskV) (hm : len ≤ maxLen) (hs : s.size ≤ 281474976710656) (w : World) (h : ∀ i, i < len → AskAt w ao i (L i)) :
    Calls Try.prog 4 #[.string s, .slice ao len cap] w fun e w' => e = .returned (.bool true) ∧ Below w.heap.size w w' := by
  unfold maxLen at hm
  have H := Lib.hid h
  clear h
  by_cases hl : 200 < len
  · go_enter Try.func4, Try.ntmps4
    go_wp2_with (go_at_call 7; refine (awake2_any _).mono ?_; rintro e w1 ⟨rfl, hb⟩)
    go_ret
    exact ⟨rfl, hb⟩
  · go_enter Try.func4, Try.ntmps4
    go_wp2_with (go_at_call 16; refine (read_any _ _).mono ?_; rintro e w1 ⟨rfl, rfl⟩)
    go_loopw [7] (fun i wr => ∃ (k a : Nat) (e : Int), k ≤ len ∧ i = .int .i64 k ∧ a ≤ s.size ∧ Hid (CurAt w.heap.size s a e wr) ∧ Hid (VarAt (w.heap.size + 1) a e wr) ∧ Below w.heap.size w wr) (fun i _ => len - (intOf i).toNat)
    case atStart => exact ⟨0, 0, 0, Nat.zero_le _, rfl, Nat.zero_le _, alloc_old (alloc_at w _), var_start w s, (new_below w _).alloc (by simp) _⟩
    case round =>
      obtain ⟨k, a, e, hk, rfl, ha, HC, HV, hr⟩ := hrel
      by_cases hlt : k < len
      · obtain ⟨b, off, rfl, c0, c1, wn⟩ := (H.out k hlt).held hr
        have hb0 : b < w.heap.size := by obtain ⟨b', off', e', x0, _⟩ := H.out k hlt; cases e'; exact lt_of_cell x0
        have v0 := cell_at (j := 0) HV.out rfl
        have v1 := cell_at (j := 1) HV.out rfl
        have f0 := free_at (j := 0) HV.out
        have f1 := free_at (j := 1) HV.out
        have hv := lt_of_block HV.out
        have hbne : ¬ b = wr.heap.size := by omega
        have hvne : ¬ w.heap.size + 1 = wr.heap.size := by omega
        cases hp : (L k).plain with
        | true =>
          rw [hp] at c0
          have HT := Lib.hid (fun w => refText_st s a e (L k).n ha hs wn w)
          go_upto_region 9 with (fail)
          go_cut [8, 9] (fun t p wx => ∃ q : Nat, t = .string (sxS s a e (L k).n) ∧ p = .pointer (some ⟨q, 0, none⟩) ∧ q ≠ w.heap.size + 1 ∧ Hid (VarAt q (sxA s a e (L k).n : Nat) (sxE s a e (L k).n) wx) ∧ Below wr.heap.size wr wx)
          case first =>
            go_region_held3 (fun w' => w'.cell? ⟨b, off + k * 2 + 1, none⟩ = some (.int .i64 (L k).n) ∧ w'.cell? ⟨w.heap.size + 1, 0, none⟩ = some (.int .i64 a) ∧ w'.cell? ⟨w.heap.size + 1, 1, none⟩ = some (.int .i64 e)) (first | exact ⟨keep hb1 c1, keep hb1 v0, keep hb1 v1⟩ | exact ⟨keep (new_below _ _) (keep hb1 c1), keep (new_below _ _) (keep hb1 v0), keep (new_below _ _) (keep hb1 v1)⟩ | exact ⟨keep hb1 (keep_ad c1), keep hb1 (keep_ad v0), keep hb1 (keep_ad v1)⟩ | exact ⟨keep_set2 (keep hb1 (keep_ad c1)) hbne, keep_set2 (keep hb1 (keep_ad v0)) hvne, keep_set2 (keep hb1 (keep_ad v1)) hvne⟩ | go_keep) (first | (go_at_call 17; refine (HT.out _).mono ?_; rintro e w1 ⟨rfl, hb1⟩; try (have hq := blk_ad hb1; have q0 := cell_at (j := 0) hq rfl; have q1 := cell_at (j := 1) hq rfl; have g0 := free_at (j := 0) hq; have g1 := free_at (j := 1) hq; clear hq)))
            · go_wp2_with (fail)
              go_meet
              exact ⟨_, rfl, rfl, fun h => by have := hb1.size; have h9 : wr.drew.heap.size = wr.heap.size := rfl; omega, alloc_at _ _, ((Below.refl _ wr).drew.trans hb1).alloc (by have := hb1.size; exact this) _⟩
            · go_wp2_with (fail)
              go_meet
              exact ⟨_, rfl, rfl, fun h => by omega, var_set (blk_ad hb1), (((new_below wr _).drew.trans (hb1.mono (by simp))).setCell (Nat.le_refl _) _).setCell (Nat.le_refl _) _⟩
          case rest =>
            obtain ⟨q, rfl, rfl, hq, HQ, hb9⟩ := hcut
            have HV2 := Lib.hid ((hb9.block _ hv).trans HV.out)
            have HC2 := Lib.hid (cur_keep HC.out hb9)
            have c9 := keep hb9 c1
            have qa := cell_at (j := 0) (v := .int .i64 (sxA s a e (L k).n : Nat)) HQ.out rfl
            have qb := cell_at (j := 1) (v := .int .i64 (sxE s a e (L k).n)) HQ.out rfl
            have va := cell_at (j := 0) (v := .int .i64 a) HV2.out rfl
            have vb := cell_at (j := 1) (v := .int .i64 e) HV2.out rfl
            have fa := free_at (j := 0) HV2.out
            have fb := free_at (j := 1) HV2.out
            have hbv : ¬ b = w.heap.size + 1 := by omega
            clear f0 f1 v0 v1 c0 c1 hbne hvne
            go_wp2_with (go_at_call 18; refine (ctext_st _ s a e _ _ (cur_var HC2.out (by omega)) ha hs wn).mono ?_; rintro r w2 ⟨rfl, ho, hc⟩; have HO := Lib.hid ho; have HC3 := Lib.hid hc; clear ho hc)
            have HV3 := Lib.hid (HO.out.same (var_set (a := (sxA s a e (L k).n : Nat)) (e := sxE s a e (L k).n) HV2.out) (by omega))
            have HB := Lib.hid (round_below hr hb9 HO.out)
            have ha3 := sxA_le e (L k).n ha
            clear qa qb va vb fa fb c9 hb9
            have va := cell_at (j := 0) (v := .int .i64 (sxA s a e (L k).n : Nat)) HV3.out rfl
            have vb := cell_at (j := 1) (v := .int .i64 (sxE s a e (L k).n)) HV3.out rfl
            go_region_held3 (fun w' => w'.cell? ⟨w.heap.size + 1, 0, none⟩ = some (.int .i64 (sxA s a e (L k).n : Nat)) ∧ w'.cell? ⟨w.heap.size + 1, 1, none⟩ = some (.int .i64 (sxE s a e (L k).n)) ∧ Hid (CurAt w.heap.size s (sxA s a e (L k).n : Nat) (sxE s a e (L k).n) w'))
              (first | exact ⟨va, vb, HC3⟩ | exact ⟨keep hb3 (by exact va), keep hb3 (by exact vb), cur_keep (by exact HC3.out) hb3⟩ | go_keep)
              (first
                | (go_at_call 21; refine (at_any _ _ _ _ _ (by exact HC3.out)).mono ?_; rintro r w3 ⟨rfl, rfl⟩)
                | (go_at_call 22; refine (err_any _ _ _ _ _ (by exact HC3.out)).mono ?_; rintro r w3 ⟨rfl, rfl⟩)
                | (go_at_call 23; refine (done_any _ _ _ _ _ (by exact HC3.out)).mono ?_; rintro r w3 ⟨rfl, m, rfl⟩)
                | (go_at_call 24; refine (refDone_any _ _ _ _).mono ?_; rintro r w3 ⟨rfl, hb3⟩))
            have HC4 := Lib.hid (cur_keep (s := s) (a := (sxA s a e (L k).n : Nat)) (e := sxE s a e (L k).n) (by exact HC3.out) hb3)
            have HV4 := Lib.hid (var_keep (a := (sxA s a e (L k).n : Nat)) (e := sxE s a e (L k).n) (by exact HV3.out) hb3)
            have HB4 := Lib.hid (below_step (B := w.heap.size) (w := w) (by repeat (first | exact HB.out | apply Below.drew | apply below_drewN)) hb3)
            go_wp2_with (fail)
            go_roundw
            case rel => exact ⟨k + 1, _, _, by omega, by go_num, ha3, HC4, HV4, HB4.out⟩
            case measure => simp [intOf]; omega
        | false =>
          rw [hp] at c0
          have HT := Lib.hid (fun w => refTake_st s a e (L k).n ha hs w)
          go_upto_region 13 with (fail)
          go_cut [10, 11] (fun t p wx => ∃ q : Nat, t = .int .u64 (skN s a e (L k).n) ∧ p = .pointer (some ⟨q, 0, none⟩) ∧ q ≠ w.heap.size + 1 ∧ Hid (VarAt q (skA s a e (L k).n : Nat) (skE s a e (L k).n) wx) ∧ Below wr.heap.size wr wx)
          case first =>
            go_region_held3 (fun w' => w'.cell? ⟨b, off + k * 2 + 1, none⟩ = some (.int .i64 (L k).n) ∧ w'.cell? ⟨w.heap.size + 1, 0, none⟩ = some (.int .i64 a) ∧ w'.cell? ⟨w.heap.size + 1, 1, none⟩ = some (.int .i64 e)) (first | exact ⟨keep hb1 c1, keep hb1 v0, keep hb1 v1⟩ | exact ⟨keep (new_below _ _) (keep hb1 c1), keep (new_below _ _) (keep hb1 v0), keep (new_below _ _) (keep hb1 v1)⟩ | exact ⟨keep hb1 (keep_ad c1), keep hb1 (keep_ad v0), keep hb1 (keep_ad v1)⟩ | exact ⟨keep_set2 (keep hb1 (keep_ad c1)) hbne, keep_set2 (keep hb1 (keep_ad v0)) hvne, keep_set2 (keep hb1 (keep_ad v1)) hvne⟩ | go_keep) (first | (go_at_call 19; refine (HT.out _).mono ?_; rintro e w1 ⟨rfl, hb1⟩; try (have hq := blk_ad hb1; have q0 := cell_at (j := 0) hq rfl; have q1 := cell_at (j := 1) hq rfl; have g0 := free_at (j := 0) hq; have g1 := free_at (j := 1) hq; clear hq)))
            · go_wp2_with (fail)
              go_meet
              exact ⟨_, rfl, rfl, fun h => by have := hb1.size; have h9 : wr.drew.heap.size = wr.heap.size := rfl; omega, alloc_at _ _, ((Below.refl _ wr).drew.trans hb1).alloc (by have := hb1.size; exact this) _⟩
            · go_wp2_with (fail)
              go_meet
              exact ⟨_, rfl, rfl, fun h => by omega, var_set (blk_ad hb1), (((new_below wr _).drew.trans (hb1.mono (by simp))).setCell (Nat.le_refl _) _).setCell (Nat.le_refl _) _⟩
          case rest =>
            obtain ⟨q, rfl, rfl, hq, HQ, hb9⟩ := hcut
            have HV2 := Lib.hid ((hb9.block _ hv).trans HV.out)
            have HC2 := Lib.hid (cur_keep HC.out hb9)
            have c9 := keep hb9 c1
            have qa := cell_at (j := 0) (v := .int .i64 (skA s a e (L k).n : Nat)) HQ.out rfl
            have qb := cell_at (j := 1) (v := .int .i64 (skE s a e (L k).n)) HQ.out rfl
            have va := cell_at (j := 0) (v := .int .i64 a) HV2.out rfl
            have vb := cell_at (j := 1) (v := .int .i64 e) HV2.out rfl
            have fa := free_at (j := 0) HV2.out
            have fb := free_at (j := 1) HV2.out
            have hbv : ¬ b = w.heap.size + 1 := by omega
            clear f0 f1 v0 v1 c0 c1 hbne hvne
            go_wp2_with (go_at_call 20; refine (ctake_st _ s a e _ _ (cur_var HC2.out (by omega)) ha hs wn).mono ?_; rintro r w2 ⟨rfl, ho, hc⟩; have HO := Lib.hid ho; have HC3 := Lib.hid hc; clear ho hc)
            have HV3 := Lib.hid (HO.out.same (var_set (a := (skA s a e (L k).n : Nat)) (e := skE s a e (L k).n) HV2.out) (by omega))
            have HB := Lib.hid (round_below hr hb9 HO.out)
            have ha3 := skA_le e (L k).n ha
            clear qa qb va vb fa fb c9 hb9
            have va := cell_at (j := 0) (v := .int .i64 (skA s a e (L k).n : Nat)) HV3.out rfl
            have vb := cell_at (j := 1) (v := .int .i64 (skE s a e (L k).n)) HV3.out rfl
            go_region_held3 (fun w' => w'.cell? ⟨w.heap.size + 1, 0, none⟩ = some (.int .i64 (skA s a e (L k).n : Nat)) ∧ w'.cell? ⟨w.heap.size + 1, 1, none⟩ = some (.int .i64 (skE s a e (L k).n)) ∧ Hid (CurAt w.heap.size s (skA s a e (L k).n : Nat) (skE s a e (L k).n) w'))
              (first | exact ⟨va, vb, HC3⟩ | exact ⟨keep hb3 (by exact va), keep hb3 (by exact vb), cur_keep (by exact HC3.out) hb3⟩ | go_keep)
              (first
                | (go_at_call 21; refine (at_any _ _ _ _ _ (by exact HC3.out)).mono ?_; rintro r w3 ⟨rfl, rfl⟩)
                | (go_at_call 22; refine (err_any _ _ _ _ _ (by exact HC3.out)).mono ?_; rintro r w3 ⟨rfl, rfl⟩)
                | (go_at_call 23; refine (done_any _ _ _ _ _ (by exact HC3.out)).mono ?_; rintro r w3 ⟨rfl, m, rfl⟩)
                | (go_at_call 24; refine (refDone_any _ _ _ _).mono ?_; rintro r w3 ⟨rfl, hb3⟩))
            have HC4 := Lib.hid (cur_keep (s := s) (a := (skA s a e (L k).n : Nat)) (e := skE s a e (L k).n) (by exact HC3.out) hb3)
            have HV4 := Lib.hid (var_keep (a := (skA s a e (L k).n : Nat)) (e := skE s a e (L k).n) (by exact HV3.out) hb3)
            have HB4 := Lib.hid (below_step (B := w.heap.size) (w := w) (by repeat (first | exact HB.out | apply Below.drew | apply below_drewN)) hb3)
            go_wp2_with (fail)
            go_roundw
            case rel => exact ⟨k + 1, _, _, by omega, by go_num, ha3, HC4, HV4, HB4.out⟩
            case measure => simp [intOf]; omega
      · obtain rfl : k = len := by omega
        have va := cell_at (j := 0) (v := .int .i64 a) HV.out rfl
        have vb := cell_at (j := 1) (v := .int .i64 e) HV.out rfl
        go_upto_region 19 with (fail)
        go_region_held3 (fun w' => w'.cell? ⟨w.heap.size + 1, 0, none⟩ = some (.int .i64 a) ∧ w'.cell? ⟨w.heap.size + 1, 1, none⟩ = some (.int .i64 e) ∧ Hid (CurAt w.heap.size s a e w'))
              (first | exact ⟨va, vb, HC⟩ | exact ⟨keep hb4 (keep hb3 (by exact va)), keep hb4 (keep hb3 (by exact vb)), cur_keep (cur_keep (by exact HC.out) hb3) hb4⟩ | exact ⟨keep hb3 (by exact va), keep hb3 (by exact vb), cur_keep (by exact HC.out) hb3⟩ | go_keep)
              (first
                | (go_at_call 23; refine (done_any _ _ _ _ _ (by exact HC.out)).mono ?_; rintro r w3 ⟨rfl, m, rfl⟩)
                | (go_at_call 24; refine (refDone_any _ _ _ _).mono ?_; rintro r w3 ⟨rfl, hb3⟩)
                | (go_at_call 7; refine (awake2_any _).mono ?_; rintro r w4 ⟨rfl, hb4⟩))
        go_wp2_with (fail)
        go_ret
        exact ⟨rfl, below_step (below_step (B := w.heap.size) (w := w) (by repeat (first | exact hr | apply Below.drew | apply below_drewN)) hb3) hb4⟩
end Go.Proofs.Ytgiaidoaadjfkaa
