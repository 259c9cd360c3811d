/- What a parsing function's world is; number: a number, with its sign. -/
import Derived.Test.YtbejpgoedenpmaaGreatDoorExprStep
namespace Go.Proofs.YtbejpgoedenpmaaGreatDoor
open Go.RowKit
set_option linter.unusedVariables false
/-- what a part of a test answers: an operand -/
def OpTo (w : World) (bp tb : Nat) (r : PR Opd) (x : Ending) (w' : World) : Prop := Only (fun k => k = bp) w w' ∧ match r with
  | .err e l' => x = .returned (.tuple #[.agg #[.int .i64 0, .string ⟨#[]⟩, .bool false, .int .u64 0], .int .i64 (e : Nat)]) ∧ PAt w' bp tb l'
  | .ok o l' => x = .returned (.tuple #[.agg #[.int .i64 o.kind, .string o.text, .bool o.neg, .int .u64 o.num], .int .i64 0]) ∧ PAt w' bp tb l'
abbrev set4 (w : World) (b : Nat) (a0 a1 a2 a3 : Value) : World := (((w.setCell ⟨b, 0, none⟩ a0).setCell ⟨b, 1, none⟩ a1).setCell ⟨b, 2, none⟩ a2).setCell ⟨b, 3, none⟩ a3
theorem put4 {w : World} {b : Nat} {o0 o1 o2 o3 : Value} {t : TypeId} (h : w.heap[b]? = some (.cells #[o0, o1, o2, o3] t)) (a0 a1 a2 a3 : Value) :
    (set4 w b a0 a1 a2 a3).heap[b]? = some (.cells #[a0, a1, a2, a3] t) :=
  set_at (j := 3) (set_at (j := 2) (set_at (j := 1) (set_at (j := 0) h)))
theorem only4 {S : Nat → Prop} {a w : World} {b : Nat} (h : Only S a w) (hb : S b ∨ a.heap.size ≤ b) (a0 a1 a2 a3 : Value) : Only S a (set4 w b a0 a1 a2 a3) :=
  (((h.setCell (p := ⟨b, 0, none⟩) hb _).setCell (p := ⟨b, 1, none⟩) hb _).setCell (p := ⟨b, 2, none⟩) hb _).setCell (p := ⟨b, 3, none⟩) hb _
/-- the world of a parsing function: the tokens that are left, and boxes of its own -/
structure PSt (w : World) (bp tb : Nat) (zs : List (Nat × Obj)) (l : List Tk) (wr : World) : Prop where
  pat : PAt wr bp tb l
  only : Only (fun k => k = bp) w wr
  own : ∀ p ∈ zs, wr.heap[p.1]? = some p.2 ∧ w.heap.size ≤ p.1
  lt : bp < w.heap.size ∧ tb < w.heap.size
theorem PSt.start {w : World} {bp tb : Nat} {l : List Tk} (h : PAt w bp tb l) : PSt w bp tb [] l w := ⟨h, Only.refl _ _, fun p hp => by simp at hp, h.blt, h.lt⟩
theorem PSt.next {w wr w' : World} {bp tb : Nat} {zs : List (Nat × Obj)} {l : List Tk} (h : PSt w bp tb zs l wr) (hb : Below wr.heap.size wr w') : PSt w bp tb zs l w' :=
  ⟨h.pat.next hb, h.only.step hb, fun p hp => ⟨rowKeep hb (h.own p hp).1, (h.own p hp).2⟩, h.lt⟩
theorem PSt.skip {w wr w' : World} {bp tb : Nat} {zs : List (Nat × Obj)} {l l' : List Tk} (h : PSt w bp tb zs l wr) (hp : PAt w' bp tb l') (ho : Only (fun k => k = bp) wr w') : PSt w bp tb zs l' w' :=
  ⟨hp, h.only.trans ho (fun i _ e => e), fun p hp => ⟨ho.same (h.own p hp).1 (fun e => by have := (h.own p hp).2; have := h.lt.1; omega), (h.own p hp).2⟩, h.lt⟩
theorem PSt.new {w wr : World} {bp tb : Nat} {zs : List (Nat × Obj)} {l : List Tk} (h : PSt w bp tb zs l wr) (o : Obj) : PSt w bp tb ((wr.heap.size, o) :: zs) l (wr.alloc o) := by
  have h2 := h.next ((Below.refl wr.heap.size wr).alloc (Nat.le_refl _) o)
  refine ⟨h2.pat, h2.only, fun p hp => ?_, h.lt⟩
  rcases List.mem_cons.1 hp with rfl | hp
  · exact ⟨alloc_at wr o, h.only.size⟩
  · exact h2.own p hp
/-- a store into an own box -/
theorem PSt.put {w wr : World} {bp tb b : Nat} {l : List Tk} {zs : List (Nat × Obj)} (h : PSt w bp tb zs l wr) (hb : w.heap.size ≤ b) (a0 a1 a2 a3 : Value) : PAt (set4 wr b a0 a1 a2 a3) bp tb l ∧ Only (fun k => k = bp) w (set4 wr b a0 a1 a2 a3) :=
  ⟨h.pat.only (K := fun k => k = b) (only4 (S := fun k => k = b) (Only.refl _ _) (.inl rfl) a0 a1 a2 a3) (by have := h.lt; omega) (by have := h.lt; omega), only4 h.only (.inr hb) a0 a1 a2 a3⟩
theorem endNum {V : World} {act : Act} {Q : Ending → World → Prop} {a0 a1 a2 a3 : Value} {e : Int} (hd : act.defers = []) (rb : Nat) (h2 : act.tmps.getD 2 undef = .pointer (some ⟨rb, 0, none⟩)) (h3 : act.tmps.getD 3 undef = .int .i64 e) (hr : V.heap[rb]? = some (.cells #[a0, a1, a2, a3] 58))
    (hQ : Q (.returned (.tuple #[.agg #[a0, a1, a2, a3], .int .i64 e])) V) : bodyPost Tryz.prog Tryz.f80 Q Exit.ret act V := by
  refine bodyPost_ret (v := .tuple #[.agg #[a0, a1, a2, a3], .int .i64 e]) ?_ hd hQ
  have hl2 := run_loadVar_row (P := Tryz.prog) V rb 58 58 #[a0, a1, a2, a3] _ _ hr Tryz.underlying58 rfl (by kernel_rfl)
  rw [Array.getD_eq_getD_getElem?] at h2 h3
  simp [results, Tryz.results80, asAddr, hl2, h2, h3]
set_option maxRecDepth 100000 in
set_option maxHeartbeats 2000000 in
theorem number_any (bp tb : Nat) (l : List Tk) (w : World) (hp : PAt w bp tb l) (hv : Vd l) (h99 : l.length ≤ 99) :
    Calls Tryz.prog 80 #[.pointer (some ⟨bp, 0, none⟩)] w (OpTo w bp tb (numberP l)) := by
  have hpos := hv.pos
  have HP0 := Lib.hid ((PSt.start hp).new (.cells #[.int .i64 0, .string ⟨#[]⟩, .bool false, .int .u64 0] 58))
  unfold OpTo
  cases hm : cMinus.test (hd l) with
  | true =>
    obtain ⟨hv2, hl2⟩ := hv.tail (by simp [cMinus, Cl.inner]) hm
    have hp2 := hv2.pos
    have HS1 := Lib.hid (fun (v : Value) wx (hp2 : PAt wx bp tb l) (hc : ClAt wx cMinus v) => skip_yes bp tb l cMinus v wx hp2 hc (by omega) (by omega) (Short.hd hv.short) hm)
    have hN : numberP l = numP true l.tail := by unfold numberP; rw [if_pos hm]
    rw [hN]
    obtain ⟨m, hmm⟩ : ∃ m, l.tail = m := ⟨_, rfl⟩
    rw [hmm] at HS1 hv2 hl2 hp2 ⊢
    clear hN hmm hm hp
    have hm99 : m.length ≤ 99 := by omega
    cases hk : (Cl.kd 2).test (hd m) with
    | true =>
      obtain ⟨hv3, hl3⟩ := hv2.tail (by simp [Cl.inner]) hk
      have hp3 := hv3.pos
      have HS2 := Lib.hid (fun (v : Value) wx (hp2 : PAt wx bp tb m) (hc : ClAt wx (.kd 2) v) => skip_yes bp tb m (.kd 2) v wx hp2 hc (by omega) (by omega) (Short.hd hv2.short) hk)
      have hN : numP true m = .ok ⟨2, ⟨#[]⟩, true, ((hd m).n : Nat)⟩ m.tail := by unfold numP; rw [if_pos hk]
      rw [hN]
      clear hN hk
      go_enter Tryz.func80, Tryz.ntmps80
      go_wp2_with (first
        | (go_at_call 39; refine (HS2.out _ _ HP3.out.pat HC3.out).mono ?_; rintro e w4 ⟨rfl, hp4, ho4⟩; have HP4 := Lib.hid (HP3.out.skip hp4 ho4); clear hp4 ho4; have hzz := (HP4.out.own _ List.mem_cons_self).1; have r0 : w4.cell? ⟨w.heap.size, 0, none⟩ = some (.int .i64 0) := cell_at hzz rfl; have f0 := free_at (j := 0) hzz; have r1 : w4.cell? ⟨w.heap.size, 1, none⟩ = some (.string ⟨#[]⟩) := cell_at hzz rfl; have f1 := free_at (j := 1) hzz; have r2 : w4.cell? ⟨w.heap.size, 2, none⟩ = some (.bool false) := cell_at hzz rfl; have f2 := free_at (j := 2) hzz; have r3 : w4.cell? ⟨w.heap.size, 3, none⟩ = some (.int .u64 0) := cell_at hzz rfl; have f3 := free_at (j := 3) hzz; clear hzz)
        | (go_at_call 19; refine (kindF_any 2 _).mono ?_; rintro e w3 ⟨g3, lb3, rfl, hc3, hb3⟩; have HP3 := Lib.hid (HP2.out.next hb3); have HC3 := Lib.hid hc3; clear hc3 hb3)
        | (go_at_call 39; refine (HS1.out _ _ HP1.out.pat HC1.out).mono ?_; rintro e w2 ⟨rfl, hp2, ho2⟩; have HP2 := Lib.hid (HP1.out.skip hp2 ho2); clear hp2 ho2; obtain ⟨_, _, off, cap, hbx, hcap, htk⟩ := HP2.out.pat; have p0 : w2.cell? ⟨bp, 0, none⟩ = some (.slice (some ⟨tb, off, none⟩) m.length cap) := cell_at hbx rfl; have hh := htk.head (by first | assumption | omega); have t0 : w2.cell? ⟨tb, off, none⟩ = some (.int .i64 ((hd m).k : Nat)) := hh 0 _ rfl; have t1 : w2.cell? ⟨tb, off + 1, none⟩ = some (.string (bs (hd m).t)) := hh 1 _ rfl; have t2 : w2.cell? ⟨tb, off + 2, none⟩ = some (.int .u64 ((hd m).n : Nat)) := hh 2 _ rfl; have t3 : w2.cell? ⟨tb, off + 3, none⟩ = some (.int .i64 ((hd m).a : Nat)) := hh 3 _ rfl; clear hh hbx htk)
        | (go_at_call 37; refine (signF_any [45] _ rfl _).mono ?_; rintro e w1 ⟨g1, lb1, rfl, hc1, hb1⟩; have HP1 := Lib.hid (HP0.out.next hb1); have HC1 := Lib.hid hc1; clear hc1 hb1))
      have hF := HP4.out.put (Nat.le_refl _) (.int .i64 2) (.string ⟨#[]⟩) (.bool true) (.int .u64 ((hd m).n : Nat))
      exact endNum rfl w.heap.size rfl rfl (put4 (HP4.out.own _ List.mem_cons_self).1 _ _ _ _) ⟨hF.2, rfl, hF.1⟩
    | false =>
      have HS2 := Lib.hid (fun (v : Value) wx (hp2 : PAt wx bp tb m) (hc : ClAt wx (.kd 2) v) => skip_no bp tb m (.kd 2) v wx hp2 hc (by omega) (by omega) (Short.hd hv2.short) (by simpa using hk))
      have hN : numP true m = .err 11 m := by unfold numP; rw [if_neg (by simpa using hk)]
      rw [hN]
      clear hN hk
      go_enter Tryz.func80, Tryz.ntmps80
      go_wp2_with (first
        | (go_at_call 39; refine (HS2.out _ _ HP3.out.pat HC3.out).mono ?_; rintro e w4 ⟨rfl, hb4⟩; have HP4 := Lib.hid (HP3.out.next hb4); clear hb4; have hzz := (HP4.out.own _ List.mem_cons_self).1; have r0 : w4.cell? ⟨w.heap.size, 0, none⟩ = some (.int .i64 0) := cell_at hzz rfl; have f0 := free_at (j := 0) hzz; have r1 : w4.cell? ⟨w.heap.size, 1, none⟩ = some (.string ⟨#[]⟩) := cell_at hzz rfl; have f1 := free_at (j := 1) hzz; have r2 : w4.cell? ⟨w.heap.size, 2, none⟩ = some (.bool false) := cell_at hzz rfl; have f2 := free_at (j := 2) hzz; have r3 : w4.cell? ⟨w.heap.size, 3, none⟩ = some (.int .u64 0) := cell_at hzz rfl; have f3 := free_at (j := 3) hzz; clear hzz)
        | (go_at_call 19; refine (kindF_any 2 _).mono ?_; rintro e w3 ⟨g3, lb3, rfl, hc3, hb3⟩; have HP3 := Lib.hid (HP2.out.next hb3); have HC3 := Lib.hid hc3; clear hc3 hb3)
        | (go_at_call 39; refine (HS1.out _ _ HP1.out.pat HC1.out).mono ?_; rintro e w2 ⟨rfl, hp2, ho2⟩; have HP2 := Lib.hid (HP1.out.skip hp2 ho2); clear hp2 ho2; obtain ⟨_, _, off, cap, hbx, hcap, htk⟩ := HP2.out.pat; have p0 : w2.cell? ⟨bp, 0, none⟩ = some (.slice (some ⟨tb, off, none⟩) m.length cap) := cell_at hbx rfl; have hh := htk.head (by first | assumption | omega); have t0 : w2.cell? ⟨tb, off, none⟩ = some (.int .i64 ((hd m).k : Nat)) := hh 0 _ rfl; have t1 : w2.cell? ⟨tb, off + 1, none⟩ = some (.string (bs (hd m).t)) := hh 1 _ rfl; have t2 : w2.cell? ⟨tb, off + 2, none⟩ = some (.int .u64 ((hd m).n : Nat)) := hh 2 _ rfl; have t3 : w2.cell? ⟨tb, off + 3, none⟩ = some (.int .i64 ((hd m).a : Nat)) := hh 3 _ rfl; clear hh hbx htk)
        | (go_at_call 37; refine (signF_any [45] _ rfl _).mono ?_; rintro e w1 ⟨g1, lb1, rfl, hc1, hb1⟩; have HP1 := Lib.hid (HP0.out.next hb1); have HC1 := Lib.hid hc1; clear hc1 hb1))
      have hF := HP4.out.put (Nat.le_refl _) (.int .i64 0) (.string ⟨#[]⟩) (.bool false) (.int .u64 0)
      exact endNum rfl w.heap.size rfl rfl (put4 (HP4.out.own _ List.mem_cons_self).1 _ _ _ _) ⟨hF.2, rfl, hF.1⟩
  | false =>
    have HS1 := Lib.hid (fun (v : Value) wx (hp2 : PAt wx bp tb l) (hc : ClAt wx cMinus v) => skip_no bp tb l cMinus v wx hp2 hc (by omega) (by omega) (Short.hd hv.short) (by simpa using hm))
    have hN : numberP l = numP false l := by unfold numberP; rw [if_neg (by simpa using hm)]
    rw [hN]
    have hv2 := hv
    clear hN hm hp
    cases hk : (Cl.kd 2).test (hd l) with
    | true =>
      obtain ⟨hv3, hl3⟩ := hv2.tail (by simp [Cl.inner]) hk
      have hp3 := hv3.pos
      have HS2 := Lib.hid (fun (v : Value) wx (hp2 : PAt wx bp tb l) (hc : ClAt wx (.kd 2) v) => skip_yes bp tb l (.kd 2) v wx hp2 hc (by omega) (by omega) (Short.hd hv2.short) hk)
      have hN : numP false l = .ok ⟨2, ⟨#[]⟩, false, ((hd l).n : Nat)⟩ l.tail := by unfold numP; rw [if_pos hk]
      rw [hN]
      clear hN hk
      go_enter Tryz.func80, Tryz.ntmps80
      go_wp2_with (first
        | (go_at_call 39; refine (HS2.out _ _ HP3.out.pat HC3.out).mono ?_; rintro e w4 ⟨rfl, hp4, ho4⟩; have HP4 := Lib.hid (HP3.out.skip hp4 ho4); clear hp4 ho4; have hzz := (HP4.out.own _ List.mem_cons_self).1; have r0 : w4.cell? ⟨w.heap.size, 0, none⟩ = some (.int .i64 0) := cell_at hzz rfl; have f0 := free_at (j := 0) hzz; have r1 : w4.cell? ⟨w.heap.size, 1, none⟩ = some (.string ⟨#[]⟩) := cell_at hzz rfl; have f1 := free_at (j := 1) hzz; have r2 : w4.cell? ⟨w.heap.size, 2, none⟩ = some (.bool false) := cell_at hzz rfl; have f2 := free_at (j := 2) hzz; have r3 : w4.cell? ⟨w.heap.size, 3, none⟩ = some (.int .u64 0) := cell_at hzz rfl; have f3 := free_at (j := 3) hzz; clear hzz)
        | (go_at_call 19; refine (kindF_any 2 _).mono ?_; rintro e w3 ⟨g3, lb3, rfl, hc3, hb3⟩; have HP3 := Lib.hid (HP2.out.next hb3); have HC3 := Lib.hid hc3; clear hc3 hb3)
        | (go_at_call 39; refine (HS1.out _ _ HP1.out.pat HC1.out).mono ?_; rintro e w2 ⟨rfl, hb2⟩; have HP2 := Lib.hid (HP1.out.next hb2); clear hb2; obtain ⟨_, _, off, cap, hbx, hcap, htk⟩ := HP2.out.pat; have p0 : w2.cell? ⟨bp, 0, none⟩ = some (.slice (some ⟨tb, off, none⟩) l.length cap) := cell_at hbx rfl; have hh := htk.head (by first | assumption | omega); have t0 : w2.cell? ⟨tb, off, none⟩ = some (.int .i64 ((hd l).k : Nat)) := hh 0 _ rfl; have t1 : w2.cell? ⟨tb, off + 1, none⟩ = some (.string (bs (hd l).t)) := hh 1 _ rfl; have t2 : w2.cell? ⟨tb, off + 2, none⟩ = some (.int .u64 ((hd l).n : Nat)) := hh 2 _ rfl; have t3 : w2.cell? ⟨tb, off + 3, none⟩ = some (.int .i64 ((hd l).a : Nat)) := hh 3 _ rfl; clear hh hbx htk)
        | (go_at_call 37; refine (signF_any [45] _ rfl _).mono ?_; rintro e w1 ⟨g1, lb1, rfl, hc1, hb1⟩; have HP1 := Lib.hid (HP0.out.next hb1); have HC1 := Lib.hid hc1; clear hc1 hb1))
      have hF := HP4.out.put (Nat.le_refl _) (.int .i64 2) (.string ⟨#[]⟩) (.bool false) (.int .u64 ((hd l).n : Nat))
      exact endNum rfl w.heap.size rfl rfl (put4 (HP4.out.own _ List.mem_cons_self).1 _ _ _ _) ⟨hF.2, rfl, hF.1⟩
    | false =>
      have HS2 := Lib.hid (fun (v : Value) wx (hp2 : PAt wx bp tb l) (hc : ClAt wx (.kd 2) v) => skip_no bp tb l (.kd 2) v wx hp2 hc (by omega) (by omega) (Short.hd hv2.short) (by simpa using hk))
      have hN : numP false l = .err 11 l := by unfold numP; rw [if_neg (by simpa using hk)]
      rw [hN]
      clear hN hk
      go_enter Tryz.func80, Tryz.ntmps80
      go_wp2_with (first
        | (go_at_call 39; refine (HS2.out _ _ HP3.out.pat HC3.out).mono ?_; rintro e w4 ⟨rfl, hb4⟩; have HP4 := Lib.hid (HP3.out.next hb4); clear hb4; have hzz := (HP4.out.own _ List.mem_cons_self).1; have r0 : w4.cell? ⟨w.heap.size, 0, none⟩ = some (.int .i64 0) := cell_at hzz rfl; have f0 := free_at (j := 0) hzz; have r1 : w4.cell? ⟨w.heap.size, 1, none⟩ = some (.string ⟨#[]⟩) := cell_at hzz rfl; have f1 := free_at (j := 1) hzz; have r2 : w4.cell? ⟨w.heap.size, 2, none⟩ = some (.bool false) := cell_at hzz rfl; have f2 := free_at (j := 2) hzz; have r3 : w4.cell? ⟨w.heap.size, 3, none⟩ = some (.int .u64 0) := cell_at hzz rfl; have f3 := free_at (j := 3) hzz; clear hzz)
        | (go_at_call 19; refine (kindF_any 2 _).mono ?_; rintro e w3 ⟨g3, lb3, rfl, hc3, hb3⟩; have HP3 := Lib.hid (HP2.out.next hb3); have HC3 := Lib.hid hc3; clear hc3 hb3)
        | (go_at_call 39; refine (HS1.out _ _ HP1.out.pat HC1.out).mono ?_; rintro e w2 ⟨rfl, hb2⟩; have HP2 := Lib.hid (HP1.out.next hb2); clear hb2; obtain ⟨_, _, off, cap, hbx, hcap, htk⟩ := HP2.out.pat; have p0 : w2.cell? ⟨bp, 0, none⟩ = some (.slice (some ⟨tb, off, none⟩) l.length cap) := cell_at hbx rfl; have hh := htk.head (by first | assumption | omega); have t0 : w2.cell? ⟨tb, off, none⟩ = some (.int .i64 ((hd l).k : Nat)) := hh 0 _ rfl; have t1 : w2.cell? ⟨tb, off + 1, none⟩ = some (.string (bs (hd l).t)) := hh 1 _ rfl; have t2 : w2.cell? ⟨tb, off + 2, none⟩ = some (.int .u64 ((hd l).n : Nat)) := hh 2 _ rfl; have t3 : w2.cell? ⟨tb, off + 3, none⟩ = some (.int .i64 ((hd l).a : Nat)) := hh 3 _ rfl; clear hh hbx htk)
        | (go_at_call 37; refine (signF_any [45] _ rfl _).mono ?_; rintro e w1 ⟨g1, lb1, rfl, hc1, hb1⟩; have HP1 := Lib.hid (HP0.out.next hb1); have HC1 := Lib.hid hc1; clear hc1 hb1))
      have hF := HP4.out.put (Nat.le_refl _) (.int .i64 0) (.string ⟨#[]⟩) (.bool false) (.int .u64 0)
      exact endNum rfl w.heap.size rfl rfl (put4 (HP4.out.own _ List.mem_cons_self).1 _ _ _ _) ⟨hF.2, rfl, hF.1⟩
end Go.Proofs.YtbejpgoedenpmaaGreatDoor
