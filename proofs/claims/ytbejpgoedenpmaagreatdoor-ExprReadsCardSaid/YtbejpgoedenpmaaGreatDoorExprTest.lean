/- negated, between, test: a test. -/
import Derived.Test.YtbejpgoedenpmaaGreatDoorExprFur
namespace Go.Proofs.YtbejpgoedenpmaaGreatDoor
open Go.RowKit
set_option linter.unusedVariables false
/-- what a part of a filter answers: a tree, all of it new -/
def XTo (w : World) (bp tb : Nat) (r : PR XT) (x : Ending) (w' : World) : Prop := Only (fun k => k = bp) w w' ∧ ∃ (T : XT) (e : Nat) (l' : List Tk), x = .returned (.tuple #[.agg #[.int .i64 T.op, .int .i64 T.rel, .slice T.aa T.an T.ac, .slice T.ka T.kn T.kc], .int .i64 (e : Nat)]) ∧ PAt w' bp tb l' ∧ XAt w' (fun b => w.heap.size ≤ b) T ∧ AnsX r T e l'
theorem AnsX.neg {r : PR XT} {T U : XT} {l' : List Tk} (h : AnsX r T 0 l') (hr : ∀ e l, r = .err e l → e ≠ 0) (hU : ∀ t, SameX T t → SameX U (mkX 4 0 [] [t])) : AnsX (negR r) U 0 l' := by
  rcases h with ⟨_, t, rfl, ht⟩ | ⟨_, rfl⟩
  · exact .inl ⟨rfl, _, rfl, hU t ht⟩
  · exact absurd rfl (hr 0 l' rfl)
theorem AnsX.negB {r : PR XT} {T : XT} {e : Nat} {l' : List Tk} (h : AnsX r T e l') (he : e ≠ 0) : AnsX (negR r) .nil e l' := by
  rcases h with ⟨rfl, _⟩ | ⟨_, rfl⟩
  · exact absurd rfl he
  · exact .inr ⟨rfl, rfl⟩
theorem endNeg {V : World} {act : Act} {Q : Ending → World → Prop} {a0 a1 a2 a3 : Value} {e : Int} (hd : act.defers = []) (rb : Nat) (h2 : act.tmps.getD 4 undef = .pointer (some ⟨rb, 0, none⟩)) (h3 : act.tmps.getD 5 undef = .int .i64 e) (hr : V.heap[rb]? = some (.cells #[a0, a1, a2, a3] 25))
    (hQ : Q (.returned (.tuple #[.agg #[a0, a1, a2, a3], .int .i64 e])) V) : bodyPost Tryz.prog Tryz.f40 Q Exit.ret act V := by
  refine bodyPost_ret (v := .tuple #[.agg #[a0, a1, a2, a3], .int .i64 e]) ?_ hd hQ
  have hl2 := run_loadVar_row (P := Tryz.prog) V rb 25 25 #[a0, a1, a2, a3] _ _ hr Tryz.underlying25 rfl (by kernel_rfl)
  rw [Array.getD_eq_getD_getElem?] at h2 h3
  simp [results, Tryz.results40, asAddr, hl2, h2, h3]
theorem endBtw {V : World} {act : Act} {Q : Ending → World → Prop} {a0 a1 a2 a3 : Value} {e : Int} (hd : act.defers = []) (rb : Nat) (h2 : act.tmps.getD 4 undef = .pointer (some ⟨rb, 0, none⟩)) (h3 : act.tmps.getD 5 undef = .int .i64 e) (hr : V.heap[rb]? = some (.cells #[a0, a1, a2, a3] 25))
    (hQ : Q (.returned (.tuple #[.agg #[a0, a1, a2, a3], .int .i64 e])) V) : bodyPost Tryz.prog Tryz.f65 Q Exit.ret act V := by
  refine bodyPost_ret (v := .tuple #[.agg #[a0, a1, a2, a3], .int .i64 e]) ?_ hd hQ
  have hl2 := run_loadVar_row (P := Tryz.prog) V rb 25 25 #[a0, a1, a2, a3] _ _ hr Tryz.underlying25 rfl (by kernel_rfl)
  rw [Array.getD_eq_getD_getElem?] at h2 h3
  simp [results, Tryz.results65, asAddr, hl2, h2, h3]
theorem endTest {V : World} {act : Act} {Q : Ending → World → Prop} {a0 a1 a2 a3 : Value} {e : Int} (hd : act.defers = []) (rb : Nat) (h2 : act.tmps.getD 2 undef = .pointer (some ⟨rb, 0, none⟩)) (h3 : act.tmps.getD 3 undef = .int .i64 e) (hr : V.heap[rb]? = some (.cells #[a0, a1, a2, a3] 25))
    (hQ : Q (.returned (.tuple #[.agg #[a0, a1, a2, a3], .int .i64 e])) V) : bodyPost Tryz.prog Tryz.f38 Q Exit.ret act V := by
  refine bodyPost_ret (v := .tuple #[.agg #[a0, a1, a2, a3], .int .i64 e]) ?_ hd hQ
  have hl2 := run_loadVar_row (P := Tryz.prog) V rb 25 25 #[a0, a1, a2, a3] _ _ hr Tryz.underlying25 rfl (by kernel_rfl)
  rw [Array.getD_eq_getD_getElem?] at h2 h3
  simp [results, Tryz.results38, asAddr, hl2, h2, h3]
theorem lies_block {w : World} {b : Nat} {cs : List Value} {t : TypeId} (h : w.heap[b]? = some (.cells cs.toArray t)) : LiesAt w b 0 cs := fun r u hu => by
  rw [Nat.zero_add]; exact cell_at h (by simpa using hu)
def NegTo (w : World) (S : Nat → Prop) (r : PR XT) (e : Nat) (l' : List Tk) (x : Ending) (w' : World) : Prop := Below w.heap.size w w' ∧ ∃ T : XT, x = .returned (.tuple #[.agg #[.int .i64 T.op, .int .i64 T.rel, .slice T.aa T.an T.ac, .slice T.ka T.kn T.kc], .int .i64 (e : Nat)]) ∧ XAt w' (fun b => S b ∨ w.heap.size ≤ b) T ∧ AnsX (negR r) T e l'
set_option maxRecDepth 100000 in
set_option maxHeartbeats 2000000 in
theorem negated_any (w : World) (S : Nat → Prop) (r : PR XT) (hr : ∀ e l, r = .err e l → e ≠ 0) (T : XT) (e : Nat) (l' : List Tk) (hT : XAt w S T) (ha : AnsX r T e l') :
    Calls Tryz.prog 40 #[.agg #[.int .i64 T.op, .int .i64 T.rel, .slice T.aa T.an T.ac, .slice T.ka T.kn T.kc], .int .i64 (e : Nat)] w (NegTo w S r e l') := by
  have hb0 : Below w.heap.size w ((w.alloc (.cells #[.int .i64 T.op, .int .i64 T.rel, .slice T.aa T.an T.ac, .slice T.ka T.kn T.kc] 25)).alloc (.cells #[.int .i64 0, .int .i64 0, .slice none 0 0, .slice none 0 0] 25)) := ((Below.refl w.heap.size w).alloc (Nat.le_refl _) _).alloc (by simp) _
  have hq : ((w.alloc (.cells #[.int .i64 T.op, .int .i64 T.rel, .slice T.aa T.an T.ac, .slice T.ka T.kn T.kc] 25)).alloc (.cells #[.int .i64 0, .int .i64 0, .slice none 0 0, .slice none 0 0] 25)).heap[w.heap.size + 1]? = some (.cells #[.int .i64 0, .int .i64 0, .slice none 0 0, .slice none 0 0] 25) := by
    have := alloc_at (w.alloc (.cells #[.int .i64 T.op, .int .i64 T.rel, .slice T.aa T.an T.ac, .slice T.ka T.kn T.kc] 25)) (.cells #[.int .i64 0, .int .i64 0, .slice none 0 0, .slice none 0 0] 25)
    simpa using this
  have HB := Lib.hid hb0
  have HQ := Lib.hid hq
  have HT := Lib.hid hT
  have HA := Lib.hid ha
  clear hb0 hq hT ha
  by_cases he : e = 0
  · subst he
    have HR := Lib.hid hr
    clear hr
    go_enter Tryz.func40, Tryz.ntmps40
    go_wp2
    obtain ⟨V, hV⟩ : ∃ V, ((w.alloc (.cells #[.int .i64 T.op, .int .i64 T.rel, .slice T.aa T.an T.ac, .slice T.ka T.kn T.kc] 25)).alloc (.cells #[.int .i64 4, .int .i64 0, .slice none 0 0, .slice (some ⟨w.heap.size + 1 + 1, 0, none⟩) 1 1] 25)).alloc (.cells #[.int .i64 T.op, .int .i64 T.rel, .slice T.aa T.an T.ac, .slice T.ka T.kn T.kc] 25) = V := ⟨_, rfl⟩
    have e1 : (w.alloc (.cells #[.int .i64 T.op, .int .i64 T.rel, .slice T.aa T.an T.ac, .slice T.ka T.kn T.kc] 25)).heap.size = w.heap.size + 1 := by simp
    have e2 : ((w.alloc (.cells #[.int .i64 T.op, .int .i64 T.rel, .slice T.aa T.an T.ac, .slice T.ka T.kn T.kc] 25)).alloc (.cells #[.int .i64 4, .int .i64 0, .slice none 0 0, .slice (some ⟨w.heap.size + 1 + 1, 0, none⟩) 1 1] 25)).heap.size = w.heap.size + 1 + 1 := by simp
    have v1 : V.heap[w.heap.size + 1]? = some (.cells #[.int .i64 4, .int .i64 0, .slice none 0 0, .slice (some ⟨w.heap.size + 1 + 1, 0, none⟩) 1 1] 25) := by
      have := alloc_at (w.alloc (.cells #[.int .i64 T.op, .int .i64 T.rel, .slice T.aa T.an T.ac, .slice T.ka T.kn T.kc] 25)) (.cells #[.int .i64 4, .int .i64 0, .slice none 0 0, .slice (some ⟨w.heap.size + 1 + 1, 0, none⟩) 1 1] 25)
      rw [e1] at this
      rw [← hV]; exact alloc_old this
    have v2 : V.heap[w.heap.size + 1 + 1]? = some (.cells #[.int .i64 T.op, .int .i64 T.rel, .slice T.aa T.an T.ac, .slice T.ka T.kn T.kc] 25) := by
      have := alloc_at ((w.alloc (.cells #[.int .i64 T.op, .int .i64 T.rel, .slice T.aa T.an T.ac, .slice T.ka T.kn T.kc] 25)).alloc (.cells #[.int .i64 4, .int .i64 0, .slice none 0 0, .slice (some ⟨w.heap.size + 1 + 1, 0, none⟩) 1 1] 25)) (.cells #[.int .i64 T.op, .int .i64 T.rel, .slice T.aa T.an T.ac, .slice T.ka T.kn T.kc] 25)
      rw [e2] at this
      rw [← hV]; exact this
    have vb : Below w.heap.size w V := by
      rw [← hV]; exact ((Below.refl w.heap.size w).alloc (Nat.le_refl _) _).alloc (by simp) _ |>.alloc (by simp; omega) _
    rw [hV]
    refine endNeg rfl (w.heap.size + 1) rfl rfl v1 ⟨vb, .node 4 0 none 0 0 (fun _ => default) (some ⟨w.heap.size + 1 + 1, 0, none⟩) 1 1 (fun _ => T), rfl, ?_, ?_⟩
    · refine (xat_iff _).2 ⟨⟨Nat.zero_le _, by show 1 ≤ _; omega⟩, fun i hi => absurd hi (Nat.not_lt_zero i), fun i hi => ?_⟩
      obtain rfl : i = 0 := Nat.lt_one_iff.1 hi
      exact ⟨⟨_, 0, rfl, .inr (by omega), lt_of_block v2, lies_block v2⟩, (HT.out.next vb).sub (fun b hb _ => .inl hb)⟩
    · exact HA.out.neg HR.out (fun t ht => (sameX_iff _ _).2 ⟨rfl, rfl, rfl, fun i hi => absurd hi (Nat.not_lt_zero i), rfl, fun i hi => by
        obtain rfl : i = 0 := Nat.lt_one_iff.1 hi
        exact ht⟩)
  · have q2 : (((e : Nat) : Int) != 0) = true := by simp; omega
    clear hr
    go_enter Tryz.func40, Tryz.ntmps40
    go_wp2
    exact endNeg rfl (w.heap.size + 1) rfl rfl HQ.out ⟨HB.out, .nil, rfl, trivial, HA.out.negB he⟩
/-- a row of one operand is owned -/
theorem own_one {w : World} {ab : Nat} {o : Opd} (h : w.heap[ab]? = some (.cells #[.int .i64 o.kind, .string o.text, .bool o.neg, .int .u64 o.num] 58)) : w.ownsRow ab 58 4 (.slice (some ⟨ab, 0, none⟩) [o].length 1) [o].length ([o].flatMap opdC) :=
  ⟨rfl, .inr ⟨ab, 1, _, rfl, Nat.le_refl _, h, Nat.le_refl _, by decide, rfl, rfl⟩⟩
theorem rowOne {w : World} {c : Cl} {v : Value} (h : ClAt w c v) : ClRow (w.alloc (.cells #[v] 47)) w.heap.size [c] [v] := by
  refine ⟨alloc_at w _, rfl, fun i hi => ?_⟩
  obtain rfl : i = 0 := Nat.lt_one_iff.1 hi
  exact h.next ((Below.refl _ _).alloc (Nat.le_refl _) _)
theorem rowTwo {w : World} {c d : Cl} {v u : Value} (h : ClAt w c v) (h2 : ClAt w d u) : ClRow (w.alloc (.cells #[v, u] 47)) w.heap.size [c, d] [v, u] := by
  refine ⟨alloc_at w _, rfl, fun i hi => ?_⟩
  match i, hi with
  | 0, _ => exact h.next ((Below.refl _ _).alloc (Nat.le_refl _) _)
  | 1, _ => exact h2.next ((Below.refl _ _).alloc (Nat.le_refl _) _)
/-- what further answers, in the world of its caller -/
def FurP (w : World) (bp tb ab : Nat) (zs : List (Nat × Obj)) (N : Nat) (r : PR XT) (x : Ending) (w' : World) : Prop := ∃ (T : XT) (e : Nat) (l' : List Tk), x = .returned (.tuple #[.agg #[.int .i64 T.op, .int .i64 T.rel, .slice T.aa T.an T.ac, .slice T.ka T.kn T.kc], .int .i64 (e : Nat)]) ∧ PSt w bp tb zs l' w' ∧ XAt w' (fun b => b = ab ∨ N ≤ b) T ∧ AnsX r T e l'
theorem furP_of {w wk wl w' : World} {bp tb ab : Nat} {zs zs2 : List (Nat × Obj)} {l : List Tk} {r : PR XT} {x : Ending} (hp : PSt w bp tb zs2 l wk) (hab : w.heap.size ≤ ab) (hz : ∀ p ∈ zs, p ∈ zs2 ∧ p.1 ≠ ab) (hb : Below wk.heap.size wk wl) (h : FurTo wl bp tb ab r x w') : FurP w bp tb ab zs wl.heap.size r x w' := by
  obtain ⟨ho, T, e, l', rfl, hpat, hx, ha⟩ := h
  have h2 := hp.next hb
  refine ⟨T, e, l', rfl, ⟨hpat, h2.only.trans ho (fun i hi k => by omega), fun p hpz => ?_, hp.lt⟩, hx, ha⟩
  obtain ⟨m1, m2⟩ := hz p hpz
  have h3 := h2.own p m1
  exact ⟨ho.same h3.1 (by have := h3.2; have := hp.lt; omega), h3.2⟩
/-- a tree into the result's box -/
theorem fin_x {w w' : World} {bp tb : Nat} {zs : List (Nat × Obj)} {S : Nat → Prop} {r : PR XT} {T : XT} {e : Nat} {l' : List Tk} (h : PSt w bp tb zs l' w') (hx : XAt w' S T) (hS : ∀ b, S b → b < w'.heap.size → w.heap.size < b) (ha : AnsX r T e l') :
    XTo w bp tb r (.returned (.tuple #[.agg #[.int .i64 T.op, .int .i64 T.rel, .slice T.aa T.an T.ac, .slice T.ka T.kn T.kc], .int .i64 (e : Nat)])) (set4 w' w.heap.size (.int .i64 T.op) (.int .i64 T.rel) (.slice T.aa T.an T.ac) (.slice T.ka T.kn T.kc)) := by
  have hF := h.put (Nat.le_refl _) (.int .i64 T.op) (.int .i64 T.rel) (.slice T.aa T.an T.ac) (.slice T.ka T.kn T.kc)
  have h4 := only4 (b := w.heap.size) (S := fun k => k = w.heap.size) (Only.refl _ w') (.inl rfl) (.int .i64 T.op) (.int .i64 T.rel) (.slice T.aa T.an T.ac) (.slice T.ka T.kn T.kc)
  exact ⟨hF.2, T, e, l', rfl, hF.1, (hx.only h4 (fun b hb hl e => by have := hS b hb hl; omega)).sub (fun b hb hl => Nat.le_of_lt (hS b hb (by simpa using hl))), ha⟩
theorem set4_size (w : World) (b : Nat) (a0 a1 a2 a3 : Value) : (set4 w b a0 a1 a2 a3).heap.size = w.heap.size := by simp
set_option maxRecDepth 100000 in
set_option maxHeartbeats 2000000 in
theorem between_any (w0 : World) (bp tb ab : Nat) (zs : List (Nat × Obj)) (l : List Tk) (o : Opd) (w : World) (hp : PSt w0 bp tb ((ab, (.cells #[.int .i64 o.kind, .string o.text, .bool o.neg, .int .u64 o.num] 58)) :: zs) l w) (hz : ∀ p ∈ zs, p.1 ≠ ab) (hv : Vd l) (h99 : l.length ≤ 99) :
    Calls Tryz.prog 65 #[.pointer (some ⟨bp, 0, none⟩), .slice (some ⟨ab, 0, none⟩) 1 1] w (FurP w0 bp tb ab zs w.heap.size (furX 2 0 betw l [o])) := by
  have hablt : ab < w.heap.size := lt_of_block (hp.own _ List.mem_cons_self).1
  have habge : w0.heap.size ≤ ab := (hp.own _ List.mem_cons_self).2
  have HP0 := Lib.hid (show PSt w0 bp tb ((w.heap.size, (.cells #[.int .i64 0, .int .i64 0, .slice none 0 0, .slice none 0 0] 25)) :: (ab, (.cells #[.int .i64 o.kind, .string o.text, .bool o.neg, .int .u64 o.num] 58)) :: zs) l (w.alloc (.cells #[.int .i64 0, .int .i64 0, .slice none 0 0, .slice none 0 0] 25)) from hp.new _)
  have HFU := Lib.hid (show ∀ (wk : World) (g1 g2 : Nat) (lb1 lb2 : Array Value), PSt w0 bp tb ((w.heap.size, (.cells #[.int .i64 0, .int .i64 0, .slice none 0 0, .slice none 0 0] 25)) :: (ab, (.cells #[.int .i64 o.kind, .string o.text, .bool o.neg, .int .u64 o.num] 58)) :: zs) l wk → w.heap.size < wk.heap.size → ClAt wk (.wd kBETWEEN) (.func (.func g1) #[] lb1) → ClAt wk (.wd kAND) (.func (.func g2) #[] lb2) → Calls Tryz.prog 66 #[.pointer (some ⟨bp, 0, none⟩), .agg #[.int .i64 2, .int .i64 0, .slice (some ⟨ab, 0, none⟩) 1 1, .slice none 0 0], .slice (some ⟨wk.heap.size, 0, none⟩) 2 2] (wk.alloc (.cells #[.func (.func g1) #[] lb1, .func (.func g2) #[] lb2] 47)) (fun x w' => ∃ (T : XT) (e : Nat) (l' : List Tk), x = .returned (.tuple #[.agg #[.int .i64 T.op, .int .i64 T.rel, .slice T.aa T.an T.ac, .slice T.ka T.kn T.kc], .int .i64 (e : Nat)]) ∧ PSt w0 bp tb ((w.heap.size, (.cells #[.int .i64 0, .int .i64 0, .slice none 0 0, .slice none 0 0] 25)) :: zs) l' w' ∧ XAt w' (fun b => b = ab ∨ w.heap.size < b) T ∧ AnsX (furX 2 0 betw l [o]) T e l') from fun wk g1 g2 lb1 lb2 hk hsz h1 h2 => by
    have hb1 : Below wk.heap.size wk (wk.alloc (.cells #[.func (.func g1) #[] lb1, .func (.func g2) #[] lb2] 47)) := (Below.refl _ _).alloc (Nat.le_refl _) _
    have hk2 := hk.next hb1
    refine (further_any 2 0 betw betw_inner [.func (.func g1) #[] lb1, .func (.func g2) #[] lb2] bp tb ab wk.heap.size 1 l [o] _ hk2.pat (rowTwo h1 h2) (own_one (hk2.own _ (List.mem_cons_of_mem _ List.mem_cons_self)).1) (by have := hp.lt; omega) hv h99 (by show 1 + 2 ≤ 10; omega)).mono ?_
    intro x w' hx
    obtain ⟨T, e, l', h3, h4, h5, h6⟩ := furP_of (zs := (w.heap.size, (.cells #[.int .i64 0, .int .i64 0, .slice none 0 0, .slice none 0 0] 25)) :: zs) hk habge (fun p hp => by
      rcases List.mem_cons.1 hp with rfl | hp
      · exact ⟨List.mem_cons_self, by show w.heap.size ≠ ab; omega⟩
      · exact ⟨List.mem_cons_of_mem _ (List.mem_cons_of_mem _ hp), hz p hp⟩) hb1 hx
    exact ⟨T, e, l', h3, h4, h5.sub (fun b hb _ => hb.imp id (fun h => by have := hb1.size; omega)), h6⟩)
  have HZL := Lib.hid (show ∀ p ∈ zs, p.1 < w.heap.size from fun p hpz => lt_of_block (hp.own p (List.mem_cons_of_mem _ hpz)).1)
  clear hp
  go_enter Tryz.func65, Tryz.ntmps65
  go_wp2_with (first
    | (go_at_call 66; refine (HFU.out _ _ _ _ _ HP2.out (by have := lt_of_block (HP2.out.own _ List.mem_cons_self).1; omega) HC1b.out HC2.out).mono ?_; rintro x w3 ⟨T, e3, l3, rfl, hp3, hx3, ha3⟩; have HP3 := Lib.hid hp3; have HX3 := Lib.hid hx3; have HA3 := Lib.hid ha3; have hzz := (hp3.own _ List.mem_cons_self).1; have r0 : w3.cell? ⟨w.heap.size, 0, none⟩ = some (.int .i64 0) := cell_at hzz rfl; have f0 := free_at (j := 0) hzz; have r1 : w3.cell? ⟨w.heap.size, 1, none⟩ = some (.int .i64 0) := cell_at hzz rfl; have f1 := free_at (j := 1) hzz; have r2 : w3.cell? ⟨w.heap.size, 2, none⟩ = some (.slice none 0 0) := cell_at hzz rfl; have f2 := free_at (j := 2) hzz; have r3 : w3.cell? ⟨w.heap.size, 3, none⟩ = some (.slice none 0 0) := cell_at hzz rfl; have f3 := free_at (j := 3) hzz; clear hzz; clear hp3 hx3 ha3)
    | (go_at_call 36; refine (wordF_any kAND _ rfl _).mono ?_; rintro e w2 ⟨g2, lb2, rfl, hc2, hb2⟩; have HP2 := Lib.hid (HP1.out.next hb2); have HC1b := Lib.hid (HC1.out.next hb2); have HC2 := Lib.hid hc2; clear hc2 hb2)
    | (go_at_call 36; refine (wordF_any kBETWEEN _ rfl _).mono ?_; rintro e w1 ⟨g1, lb1, rfl, hc1, hb1⟩; have HP1 := Lib.hid (HP0.out.next hb1); have HC1 := Lib.hid hc1; clear hc1 hb1))
  obtain ⟨r1, r2⟩ := HP3.out.own _ List.mem_cons_self
  have h4 := only4 (b := w.heap.size) (S := fun k => k = w.heap.size) (Only.refl _ w3) (.inl rfl) (.int .i64 T.op) (.int .i64 T.rel) (.slice T.aa T.an T.ac) (.slice T.ka T.kn T.kc)
  have hsz := HP3.out.lt
  have hpat := HP3.out.pat.only h4 (by omega) (by omega)
  have honly := only4 (b := w.heap.size) HP3.out.only (.inr (by omega)) (.int .i64 T.op) (.int .i64 T.rel) (.slice T.aa T.an T.ac) (.slice T.ka T.kn T.kc)
  refine endBtw rfl w.heap.size rfl rfl (put4 r1 _ _ _ _) ⟨T, e3, l3, rfl, ⟨hpat, honly, fun p hp => ?_, hsz⟩, ?_, HA3.out⟩
  · have h5 := HP3.out.own p (List.mem_cons_of_mem _ hp)
    have h6 := HZL.out p hp
    exact ⟨h4.same h5.1 (by omega), h5.2⟩
  · exact (HX3.out.only h4 (fun b hb _ => by omega)).sub (fun b hb _ => by omega)
end Go.Proofs.YtbejpgoedenpmaaGreatDoor
