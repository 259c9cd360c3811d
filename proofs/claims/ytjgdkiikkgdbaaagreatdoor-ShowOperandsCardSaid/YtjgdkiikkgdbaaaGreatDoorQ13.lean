/- negated, between, test: a test. -/
import Derived.Test.YtjgdkiikkgdbaaaGreatDoorQ12
namespace Go.Proofs.YtjgdkiikkgdbaaaGreatDoor
open Go.RowKit
set_option linter.unusedVariables false
/-- what a part of a filter answers: a tree, all of it new -/
def XTo (w : World) (bp tb : Nat) (r : PR XT) (x : Ending) (w' : World) : Prop := Only (fun k => k = bp) w w' ∧ ∃ (T : XT) (e : Nat) (l' : List Tk), x = .returned (.tuple #[.agg #[.int .i64 T.op, .int .i64 T.rel, .slice T.aa T.an T.ac, .slice T.ka T.kn T.kc], .int .i64 (e : Nat)]) ∧ PAt w' bp tb l' ∧ XAt w' (fun b => w.heap.size ≤ b) T ∧ AnsX r T e l'
theorem AnsX.neg {r : PR XT} {T U : XT} {l' : List Tk} (h : AnsX r T 0 l') (hr : ∀ e l, r = .err e l → e ≠ 0) (hU : ∀ t, SameX T t → SameX U (mkX 4 0 [] [t])) : AnsX (negR r) U 0 l' := by
  rcases h with ⟨_, t, rfl, ht⟩ | ⟨_, rfl⟩
  · exact .inl ⟨rfl, _, rfl, hU t ht⟩
  · exact absurd rfl (hr 0 l' rfl)
theorem AnsX.negB {r : PR XT} {T : XT} {e : Nat} {l' : List Tk} (h : AnsX r T e l') (he : e ≠ 0) : AnsX (negR r) .nil e l' := by
  rcases h with ⟨rfl, _⟩ | ⟨_, rfl⟩
  · exact absurd rfl he
  · exact .inr ⟨rfl, rfl⟩
theorem endNeg {V : World} {act : Act} {Q : Ending → World → Prop} {a0 a1 a2 a3 : Value} {e : Int} (hd : act.defers = []) (rb : Nat) (h2 : act.tmps.getD 4 undef = .pointer (some ⟨rb, 0, none⟩)) (h3 : act.tmps.getD 5 undef = .int .i64 e) (hr : V.heap[rb]? = some (.cells #[a0, a1, a2, a3] 25))
    (hQ : Q (.returned (.tuple #[.agg #[a0, a1, a2, a3], .int .i64 e])) V) : bodyPost Tryz.prog Tryz.f72 Q Exit.ret act V := by
  refine bodyPost_ret (v := .tuple #[.agg #[a0, a1, a2, a3], .int .i64 e]) ?_ hd hQ
  have hl2 := run_loadVar_row (P := Tryz.prog) V rb 25 25 #[a0, a1, a2, a3] _ _ hr Tryz.underlying25 rfl (by kernel_rfl)
  rw [Array.getD_eq_getD_getElem?] at h2 h3
  simp [results, Tryz.results72, asAddr, hl2, h2, h3]
theorem endBtw {V : World} {act : Act} {Q : Ending → World → Prop} {a0 a1 a2 a3 : Value} {e : Int} (hd : act.defers = []) (rb : Nat) (h2 : act.tmps.getD 4 undef = .pointer (some ⟨rb, 0, none⟩)) (h3 : act.tmps.getD 5 undef = .int .i64 e) (hr : V.heap[rb]? = some (.cells #[a0, a1, a2, a3] 25))
    (hQ : Q (.returned (.tuple #[.agg #[a0, a1, a2, a3], .int .i64 e])) V) : bodyPost Tryz.prog Tryz.f110 Q Exit.ret act V := by
  refine bodyPost_ret (v := .tuple #[.agg #[a0, a1, a2, a3], .int .i64 e]) ?_ hd hQ
  have hl2 := run_loadVar_row (P := Tryz.prog) V rb 25 25 #[a0, a1, a2, a3] _ _ hr Tryz.underlying25 rfl (by kernel_rfl)
  rw [Array.getD_eq_getD_getElem?] at h2 h3
  simp [results, Tryz.results110, asAddr, hl2, h2, h3]
theorem endTest {V : World} {act : Act} {Q : Ending → World → Prop} {a0 a1 a2 a3 : Value} {e : Int} (hd : act.defers = []) (rb : Nat) (h2 : act.tmps.getD 2 undef = .pointer (some ⟨rb, 0, none⟩)) (h3 : act.tmps.getD 3 undef = .int .i64 e) (hr : V.heap[rb]? = some (.cells #[a0, a1, a2, a3] 25))
    (hQ : Q (.returned (.tuple #[.agg #[a0, a1, a2, a3], .int .i64 e])) V) : bodyPost Tryz.prog Tryz.f70 Q Exit.ret act V := by
  refine bodyPost_ret (v := .tuple #[.agg #[a0, a1, a2, a3], .int .i64 e]) ?_ hd hQ
  have hl2 := run_loadVar_row (P := Tryz.prog) V rb 25 25 #[a0, a1, a2, a3] _ _ hr Tryz.underlying25 rfl (by kernel_rfl)
  rw [Array.getD_eq_getD_getElem?] at h2 h3
  simp [results, Tryz.results70, asAddr, hl2, h2, h3]
theorem lies_block {w : World} {b : Nat} {cs : List Value} {t : TypeId} (h : w.heap[b]? = some (.cells cs.toArray t)) : LiesAt w b 0 cs := fun r u hu => by
  rw [Nat.zero_add]; exact cell_at h (by simpa using hu)
def NegTo (w : World) (S : Nat → Prop) (r : PR XT) (e : Nat) (l' : List Tk) (x : Ending) (w' : World) : Prop := Below w.heap.size w w' ∧ ∃ T : XT, x = .returned (.tuple #[.agg #[.int .i64 T.op, .int .i64 T.rel, .slice T.aa T.an T.ac, .slice T.ka T.kn T.kc], .int .i64 (e : Nat)]) ∧ XAt w' (fun b => S b ∨ w.heap.size ≤ b) T ∧ AnsX (negR r) T e l'
set_option maxRecDepth 100000 in
set_option maxHeartbeats 2000000 in
theorem negated_any (w : World) (S : Nat → Prop) (r : PR XT) (hr : ∀ e l, r = .err e l → e ≠ 0) (T : XT) (e : Nat) (l' : List Tk) (hT : XAt w S T) (ha : AnsX r T e l') :
    Calls Tryz.prog 72 #[.agg #[.int .i64 T.op, .int .i64 T.rel, .slice T.aa T.an T.ac, .slice T.ka T.kn T.kc], .int .i64 (e : Nat)] w (NegTo w S r e l') := by
  have hb0 : Below w.heap.size w ((w.alloc (.cells #[.int .i64 T.op, .int .i64 T.rel, .slice T.aa T.an T.ac, .slice T.ka T.kn T.kc] 25)).alloc (.cells #[.int .i64 0, .int .i64 0, .slice none 0 0, .slice none 0 0] 25)) := ((Below.refl w.heap.size w).alloc (Nat.le_refl _) _).alloc (by simp) _
  have hq : ((w.alloc (.cells #[.int .i64 T.op, .int .i64 T.rel, .slice T.aa T.an T.ac, .slice T.ka T.kn T.kc] 25)).alloc (.cells #[.int .i64 0, .int .i64 0, .slice none 0 0, .slice none 0 0] 25)).heap[w.heap.size + 1]? = some (.cells #[.int .i64 0, .int .i64 0, .slice none 0 0, .slice none 0 0] 25) := by
    have := alloc_at (w.alloc (.cells #[.int .i64 T.op, .int .i64 T.rel, .slice T.aa T.an T.ac, .slice T.ka T.kn T.kc] 25)) (.cells #[.int .i64 0, .int .i64 0, .slice none 0 0, .slice none 0 0] 25)
    simpa using this
  have HB := Lib.hid hb0
  have HQ := Lib.hid hq
  have HT := Lib.hid hT
  have HA := Lib.hid ha
  clear hb0 hq hT ha
  by_cases he : e = 0
  · subst he
    have HR := Lib.hid hr
    clear hr
    go_enter Tryz.func72, Tryz.ntmps72
    go_wp2
    obtain ⟨V, hV⟩ : ∃ V, ((w.alloc (.cells #[.int .i64 T.op, .int .i64 T.rel, .slice T.aa T.an T.ac, .slice T.ka T.kn T.kc] 25)).alloc (.cells #[.int .i64 4, .int .i64 0, .slice none 0 0, .slice (some ⟨w.heap.size + 1 + 1, 0, none⟩) 1 1] 25)).alloc (.cells #[.int .i64 T.op, .int .i64 T.rel, .slice T.aa T.an T.ac, .slice T.ka T.kn T.kc] 25) = V := ⟨_, rfl⟩
    have e1 : (w.alloc (.cells #[.int .i64 T.op, .int .i64 T.rel, .slice T.aa T.an T.ac, .slice T.ka T.kn T.kc] 25)).heap.size = w.heap.size + 1 := by simp
    have e2 : ((w.alloc (.cells #[.int .i64 T.op, .int .i64 T.rel, .slice T.aa T.an T.ac, .slice T.ka T.kn T.kc] 25)).alloc (.cells #[.int .i64 4, .int .i64 0, .slice none 0 0, .slice (some ⟨w.heap.size + 1 + 1, 0, none⟩) 1 1] 25)).heap.size = w.heap.size + 1 + 1 := by simp
    have v1 : V.heap[w.heap.size + 1]? = some (.cells #[.int .i64 4, .int .i64 0, .slice none 0 0, .slice (some ⟨w.heap.size + 1 + 1, 0, none⟩) 1 1] 25) := by
      have := alloc_at (w.alloc (.cells #[.int .i64 T.op, .int .i64 T.rel, .slice T.aa T.an T.ac, .slice T.ka T.kn T.kc] 25)) (.cells #[.int .i64 4, .int .i64 0, .slice none 0 0, .slice (some ⟨w.heap.size + 1 + 1, 0, none⟩) 1 1] 25)
      rw [e1] at this
      rw [← hV]; exact alloc_old this
    have v2 : V.heap[w.heap.size + 1 + 1]? = some (.cells #[.int .i64 T.op, .int .i64 T.rel, .slice T.aa T.an T.ac, .slice T.ka T.kn T.kc] 25) := by
      have := alloc_at ((w.alloc (.cells #[.int .i64 T.op, .int .i64 T.rel, .slice T.aa T.an T.ac, .slice T.ka T.kn T.kc] 25)).alloc (.cells #[.int .i64 4, .int .i64 0, .slice none 0 0, .slice (some ⟨w.heap.size + 1 + 1, 0, none⟩) 1 1] 25)) (.cells #[.int .i64 T.op, .int .i64 T.rel, .slice T.aa T.an T.ac, .slice T.ka T.kn T.kc] 25)
      rw [e2] at this
      rw [← hV]; exact this
    have vb : Below w.heap.size w V := by
      rw [← hV]; exact ((Below.refl w.heap.size w).alloc (Nat.le_refl _) _).alloc (by simp) _ |>.alloc (by simp; omega) _
    rw [hV]
    refine endNeg rfl (w.heap.size + 1) rfl rfl v1 ⟨vb, .node 4 0 none 0 0 (fun _ => default) (some ⟨w.heap.size + 1 + 1, 0, none⟩) 1 1 (fun _ => T), rfl, ?_, ?_⟩
    · refine (xat_iff _).2 ⟨⟨Nat.zero_le _, by show 1 ≤ _; omega⟩, fun i hi => absurd hi (Nat.not_lt_zero i), fun i hi => ?_⟩
      obtain rfl : i = 0 := Nat.lt_one_iff.1 hi
      exact ⟨⟨_, 0, rfl, .inr (by omega), lt_of_block v2, lies_block v2⟩, (HT.out.next vb).sub (fun b hb _ => .inl hb)⟩
    · exact HA.out.neg HR.out (fun t ht => (sameX_iff _ _).2 ⟨rfl, rfl, rfl, fun i hi => absurd hi (Nat.not_lt_zero i), rfl, fun i hi => by
        obtain rfl : i = 0 := Nat.lt_one_iff.1 hi
        exact ht⟩)
  · have q2 : (((e : Nat) : Int) != 0) = true := by simp; omega
    clear hr
    go_enter Tryz.func72, Tryz.ntmps72
    go_wp2
    exact endNeg rfl (w.heap.size + 1) rfl rfl HQ.out ⟨HB.out, .nil, rfl, trivial, HA.out.negB he⟩
/-- a row of one operand is owned -/
theorem own_one {w : World} {ab : Nat} {o : Opd} (h : w.heap[ab]? = some (.cells #[.int .i64 o.kind, .string o.text, .bool o.neg, .int .u64 o.num] 34)) : w.ownsRow ab 34 4 (.slice (some ⟨ab, 0, none⟩) [o].length 1) [o].length ([o].flatMap opdC) :=
  ⟨rfl, .inr ⟨ab, 1, _, rfl, Nat.le_refl _, h, Nat.le_refl _, by decide, rfl, rfl⟩⟩
theorem rowOne {w : World} {c : Cl} {v : Value} (h : ClAt w c v) : ClRow (w.alloc (.cells #[v] 64)) w.heap.size [c] [v] := by
  refine ⟨alloc_at w _, rfl, fun i hi => ?_⟩
  obtain rfl : i = 0 := Nat.lt_one_iff.1 hi
  exact h.next ((Below.refl _ _).alloc (Nat.le_refl _) _)
theorem rowTwo {w : World} {c d : Cl} {v u : Value} (h : ClAt w c v) (h2 : ClAt w d u) : ClRow (w.alloc (.cells #[v, u] 64)) w.heap.size [c, d] [v, u] := by
  refine ⟨alloc_at w _, rfl, fun i hi => ?_⟩
  match i, hi with
  | 0, _ => exact h.next ((Below.refl _ _).alloc (Nat.le_refl _) _)
  | 1, _ => exact h2.next ((Below.refl _ _).alloc (Nat.le_refl _) _)
/-- what further answers, in the world of its caller -/
def FurP (w : World) (bp tb ab : Nat) (zs : List (Nat × Obj)) (N : Nat) (r : PR XT) (x : Ending) (w' : World) : Prop := ∃ (T : XT) (e : Nat) (l' : List Tk), x = .returned (.tuple #[.agg #[.int .i64 T.op, .int .i64 T.rel, .slice T.aa T.an T.ac, .slice T.ka T.kn T.kc], .int .i64 (e : Nat)]) ∧ PSt w bp tb zs l' w' ∧ XAt w' (fun b => b = ab ∨ N ≤ b) T ∧ AnsX r T e l'
theorem furP_of {w wk wl w' : World} {bp tb ab : Nat} {zs zs2 : List (Nat × Obj)} {l : List Tk} {r : PR XT} {x : Ending} (hp : PSt w bp tb zs2 l wk) (hab : w.heap.size ≤ ab) (hz : ∀ p ∈ zs, p ∈ zs2 ∧ p.1 ≠ ab) (hb : Below wk.heap.size wk wl) (h : FurTo wl bp tb ab r x w') : FurP w bp tb ab zs wl.heap.size r x w' := by
  obtain ⟨ho, T, e, l', rfl, hpat, hx, ha⟩ := h
  have h2 := hp.next hb
  refine ⟨T, e, l', rfl, ⟨hpat, h2.only.trans ho (fun i hi k => by omega), fun p hpz => ?_, hp.lt⟩, hx, ha⟩
  obtain ⟨m1, m2⟩ := hz p hpz
  have h3 := h2.own p m1
  exact ⟨ho.same h3.1 (by have := h3.2; have := hp.lt; omega), h3.2⟩
/-- a tree into the result's box -/
theorem fin_x {w w' : World} {bp tb : Nat} {zs : List (Nat × Obj)} {S : Nat → Prop} {r : PR XT} {T : XT} {e : Nat} {l' : List Tk} (h : PSt w bp tb zs l' w') (hx : XAt w' S T) (hS : ∀ b, S b → b < w'.heap.size → w.heap.size < b) (ha : AnsX r T e l') :
    XTo w bp tb r (.returned (.tuple #[.agg #[.int .i64 T.op, .int .i64 T.rel, .slice T.aa T.an T.ac, .slice T.ka T.kn T.kc], .int .i64 (e : Nat)])) (set4 w' w.heap.size (.int .i64 T.op) (.int .i64 T.rel) (.slice T.aa T.an T.ac) (.slice T.ka T.kn T.kc)) := by
  have hF := h.put (Nat.le_refl _) (.int .i64 T.op) (.int .i64 T.rel) (.slice T.aa T.an T.ac) (.slice T.ka T.kn T.kc)
  have h4 := only4 (b := w.heap.size) (S := fun k => k = w.heap.size) (Only.refl _ w') (.inl rfl) (.int .i64 T.op) (.int .i64 T.rel) (.slice T.aa T.an T.ac) (.slice T.ka T.kn T.kc)
  exact ⟨hF.2, T, e, l', rfl, hF.1, (hx.only h4 (fun b hb hl e => by have := hS b hb hl; omega)).sub (fun b hb hl => Nat.le_of_lt (hS b hb (by simpa using hl))), ha⟩
set_option maxRecDepth 100000 in
set_option maxHeartbeats 2000000 in
theorem between_any (w0 : World) (bp tb ab : Nat) (zs : List (Nat × Obj)) (l : List Tk) (o : Opd) (w : World) (hp : PSt w0 bp tb ((ab, (.cells #[.int .i64 o.kind, .string o.text, .bool o.neg, .int .u64 o.num] 34)) :: zs) l w) (hz : ∀ p ∈ zs, p.1 ≠ ab) (hv : Vd l) (h99 : l.length ≤ 99) :
    Calls Tryz.prog 110 #[.pointer (some ⟨bp, 0, none⟩), .slice (some ⟨ab, 0, none⟩) 1 1] w (FurP w0 bp tb ab zs w.heap.size (furX 2 0 betw l [o])) := by
  have hablt : ab < w.heap.size := lt_of_block (hp.own _ List.mem_cons_self).1
  have habge : w0.heap.size ≤ ab := (hp.own _ List.mem_cons_self).2
  have HP0 := Lib.hid (show PSt w0 bp tb ((w.heap.size, (.cells #[.int .i64 0, .int .i64 0, .slice none 0 0, .slice none 0 0] 25)) :: (ab, (.cells #[.int .i64 o.kind, .string o.text, .bool o.neg, .int .u64 o.num] 34)) :: zs) l (w.alloc (.cells #[.int .i64 0, .int .i64 0, .slice none 0 0, .slice none 0 0] 25)) from hp.new _)
  have HFU := Lib.hid (show ∀ (wk : World) (g1 g2 : Nat) (lb1 lb2 : Array Value), PSt w0 bp tb ((w.heap.size, (.cells #[.int .i64 0, .int .i64 0, .slice none 0 0, .slice none 0 0] 25)) :: (ab, (.cells #[.int .i64 o.kind, .string o.text, .bool o.neg, .int .u64 o.num] 34)) :: zs) l wk → w.heap.size < wk.heap.size → ClAt wk (.wd kBETWEEN) (.func (.func g1) #[] lb1) → ClAt wk (.wd kAND) (.func (.func g2) #[] lb2) → Calls Tryz.prog 111 #[.pointer (some ⟨bp, 0, none⟩), .agg #[.int .i64 2, .int .i64 0, .slice (some ⟨ab, 0, none⟩) 1 1, .slice none 0 0], .slice (some ⟨wk.heap.size, 0, none⟩) 2 2] (wk.alloc (.cells #[.func (.func g1) #[] lb1, .func (.func g2) #[] lb2] 64)) (fun x w' => ∃ (T : XT) (e : Nat) (l' : List Tk), x = .returned (.tuple #[.agg #[.int .i64 T.op, .int .i64 T.rel, .slice T.aa T.an T.ac, .slice T.ka T.kn T.kc], .int .i64 (e : Nat)]) ∧ PSt w0 bp tb ((w.heap.size, (.cells #[.int .i64 0, .int .i64 0, .slice none 0 0, .slice none 0 0] 25)) :: zs) l' w' ∧ XAt w' (fun b => b = ab ∨ w.heap.size < b) T ∧ AnsX (furX 2 0 betw l [o]) T e l') from fun wk g1 g2 lb1 lb2 hk hsz h1 h2 => by
    have hb1 : Below wk.heap.size wk (wk.alloc (.cells #[.func (.func g1) #[] lb1, .func (.func g2) #[] lb2] 64)) := (Below.refl _ _).alloc (Nat.le_refl _) _
    have hk2 := hk.next hb1
    refine (further_any 2 0 betw betw_inner [.func (.func g1) #[] lb1, .func (.func g2) #[] lb2] bp tb ab wk.heap.size 1 l [o] _ hk2.pat (rowTwo h1 h2) (own_one (hk2.own _ (List.mem_cons_of_mem _ List.mem_cons_self)).1) (by have := hp.lt; omega) hv h99 (by show 1 + 2 ≤ 10; omega)).mono ?_
    intro x w' hx
    obtain ⟨T, e, l', h3, h4, h5, h6⟩ := furP_of (zs := (w.heap.size, (.cells #[.int .i64 0, .int .i64 0, .slice none 0 0, .slice none 0 0] 25)) :: zs) hk habge (fun p hp => by
      rcases List.mem_cons.1 hp with rfl | hp
      · exact ⟨List.mem_cons_self, by show w.heap.size ≠ ab; omega⟩
      · exact ⟨List.mem_cons_of_mem _ (List.mem_cons_of_mem _ hp), hz p hp⟩) hb1 hx
    exact ⟨T, e, l', h3, h4, h5.sub (fun b hb _ => hb.imp id (fun h => by have := hb1.size; omega)), h6⟩)
  have HZL := Lib.hid (show ∀ p ∈ zs, p.1 < w.heap.size from fun p hpz => lt_of_block (hp.own p (List.mem_cons_of_mem _ hpz)).1)
  clear hp
  go_enter Tryz.func110, Tryz.ntmps110
  go_wp2_with (first
    | (go_at_call 111; refine (HFU.out _ _ _ _ _ HP2.out (by have := lt_of_block (HP2.out.own _ List.mem_cons_self).1; omega) HC1b.out HC2.out).mono ?_; rintro x w3 ⟨T, e3, l3, rfl, hp3, hx3, ha3⟩; have HP3 := Lib.hid hp3; have HX3 := Lib.hid hx3; have HA3 := Lib.hid ha3; have hzz := (hp3.own _ List.mem_cons_self).1; obtain ⟨r0, f0, r1, f1, r2, f2, r3, f3⟩ := bf4 hzz; clear hzz; clear hp3 hx3 ha3)
    | (go_at_call 68; refine (wordF_any kAND _ rfl _).mono ?_; rintro e w2 ⟨g2, lb2, rfl, hc2, hb2⟩; have HP2 := Lib.hid (HP1.out.next hb2); have HC1b := Lib.hid (HC1.out.next hb2); have HC2 := Lib.hid hc2; clear hc2 hb2)
    | (go_at_call 68; refine (wordF_any kBETWEEN _ rfl _).mono ?_; rintro e w1 ⟨g1, lb1, rfl, hc1, hb1⟩; have HP1 := Lib.hid (HP0.out.next hb1); have HC1 := Lib.hid hc1; clear hc1 hb1))
  obtain ⟨r1, r2⟩ := HP3.out.own _ List.mem_cons_self
  have h4 := only4 (b := w.heap.size) (S := fun k => k = w.heap.size) (Only.refl _ w3) (.inl rfl) (.int .i64 T.op) (.int .i64 T.rel) (.slice T.aa T.an T.ac) (.slice T.ka T.kn T.kc)
  have hsz := HP3.out.lt
  have hpat := HP3.out.pat.only h4 (by omega) (by omega)
  have honly := only4 (b := w.heap.size) HP3.out.only (.inr (by omega)) (.int .i64 T.op) (.int .i64 T.rel) (.slice T.aa T.an T.ac) (.slice T.ka T.kn T.kc)
  refine endBtw rfl w.heap.size rfl rfl (put4 r1 _ _ _ _) ⟨T, e3, l3, rfl, ⟨hpat, honly, fun p hp => ?_, hsz⟩, ?_, HA3.out⟩
  · have h5 := HP3.out.own p (List.mem_cons_of_mem _ hp)
    have h6 := HZL.out p hp
    exact ⟨h4.same h5.1 (by omega), h5.2⟩
  · exact (HX3.out.only h4 (fun b hb _ => by omega)).sub (fun b hb _ => by omega)
end Go.Proofs.YtjgdkiikkgdbaaaGreatDoor
/- test: a test. -/
namespace Go.Proofs.YtjgdkiikkgdbaaaGreatDoor
open Go.RowKit
set_option linter.unusedVariables false
theorem PSt.sub {w wr : World} {bp tb : Nat} {zs zs2 : List (Nat × Obj)} {l : List Tk} (h : PSt w bp tb zs l wr) (hs : ∀ p ∈ zs2, p ∈ zs) : PSt w bp tb zs2 l wr := ⟨h.pat, h.only, fun p hp => h.own p (hs p hp), h.lt⟩
theorem fur_one (w : World) (bp tb ab : Nat) (o : Opd) (l : List Tk) (op rel : Int) (c : Cl) (hc : c.inner) (v : Value) (wk : World) (hp : PSt w bp tb [(ab, (.cells #[.int .i64 o.kind, .string o.text, .bool o.neg, .int .u64 o.num] 34)), (w.heap.size, (.cells #[.int .i64 0, .int .i64 0, .slice none 0 0, .slice none 0 0] 25))] l wk) (hab : w.heap.size < ab) (hcl : ClAt wk c v) (hv : Vd l) (h99 : l.length ≤ 99) :
    Calls Tryz.prog 111 #[.pointer (some ⟨bp, 0, none⟩), .agg #[.int .i64 op, .int .i64 rel, .slice (some ⟨ab, 0, none⟩) 1 1, .slice none 0 0], .slice (some ⟨wk.heap.size, 0, none⟩) 1 1] (wk.alloc (.cells #[v] 64)) (FurP w bp tb ab [(w.heap.size, (.cells #[.int .i64 0, .int .i64 0, .slice none 0 0, .slice none 0 0] 25))] wk.heap.size (furX op rel [c] l [o])) := by
  have hb1 : Below wk.heap.size wk (wk.alloc (.cells #[v] 64)) := (Below.refl _ _).alloc (Nat.le_refl _) _
  have hk2 := hp.next hb1
  refine (further_any op rel [c] (by intro d hd; simp at hd; rw [hd]; exact hc) [v] bp tb ab wk.heap.size 1 l [o] _ hk2.pat (rowOne hcl) (own_one (hk2.own _ List.mem_cons_self).1) (by have := hp.lt; omega) hv h99 (by show 1 + 1 ≤ 10; omega)).mono ?_
  intro x w' hx
  obtain ⟨T, e, l', h3, h4, h5, h6⟩ := furP_of (zs := [(w.heap.size, (.cells #[.int .i64 0, .int .i64 0, .slice none 0 0, .slice none 0 0] 25))]) hp (Nat.le_of_lt hab) (fun p hp => by
    simp at hp; subst hp
    exact ⟨List.mem_cons_of_mem _ List.mem_cons_self, by show w.heap.size ≠ ab; omega⟩) hb1 hx
  exact ⟨T, e, l', h3, h4, h5.sub (fun b hb _ => hb.imp id (fun h => by have := hb1.size; omega)), h6⟩
theorem furX_err (op rel : Int) (cs : List Cl) (h1 : ∀ c ∈ cs, c.inner) (h0 : cs ≠ []) (l : List Tk) (a : List Opd) (hv : Vd l) (h99 : l.length ≤ 99) : ∀ e l', furX op rel cs l a = .err e l' → e ≠ 0 := by
  intro e l' h
  have := furX_less op rel cs h1 h0 l a hv h99
  rw [h] at this
  exact this.2.2
set_option maxRecDepth 100000 in
set_option maxHeartbeats 8000000 in
theorem test_any (bp tb : Nat) (l : List Tk) (w : World) (hp : PAt w bp tb l) (hv : Vd l) (h99 : l.length ≤ 99) :
    Calls Tryz.prog 70 #[.pointer (some ⟨bp, 0, none⟩)] w (XTo w bp tb (testP l)) := by
  have HP0 := Lib.hid (show PSt w bp tb [(w.heap.size, (.cells #[.int .i64 0, .int .i64 0, .slice none 0 0, .slice none 0 0] 25))] l (w.alloc (.cells #[.int .i64 0, .int .i64 0, .slice none 0 0, .slice none 0 0] 25)) from (PSt.start hp).new _)
  have hless := operandP_less l hv h99
  have HOP := Lib.hid (operand_any bp tb l (w.alloc (.cells #[.int .i64 0, .int .i64 0, .slice none 0 0, .slice none 0 0] 25)) HP0.out.pat hv h99)
  have hT : testP l = match operandP l with | .err e l' => .err e l' | .ok o l' => testO o l' := rfl
  rw [hT]
  clear hT hp
  cases hop : operandP l with
  | err e1 l1 =>
    rw [hop] at HOP hless
    unfold OpTo at HOP
    have q2 : (((e1 : Nat) : Int) != 0) = true := by have := hless.2.2; simp; omega
    clear hop hless
    go_enter Tryz.func70, Tryz.ntmps70
    go_wp2_with (go_at_call 109; refine (HOP.out).mono ?_; rintro x w1 ⟨ho1, rfl, hpt1⟩; have HP1 := Lib.hid (HP0.out.skip hpt1 ho1); have hw1 := lt_of_block (HP1.out.own _ List.mem_cons_self).1; have hw1n : ¬ w.heap.size = w1.heap.size := (by omega); have hzz := (HP1.out.own _ List.mem_cons_self).1; obtain ⟨r0, f0, r1, f1, r2, f2, r3, f3⟩ := bf4 hzz; clear hzz; clear ho1 hpt1)
    have hF := HP1.out.put (Nat.le_refl _) (.int .i64 0) (.int .i64 0) (.slice none 0 0) (.slice none 0 0)
    exact endTest rfl w.heap.size rfl rfl (alloc_old (put4 (HP1.out.own _ List.mem_cons_self).1 _ _ _ _)) ⟨hF.2.alloc _, .nil, e1, l1, rfl, hF.1.next ((Below.refl _ _).alloc (Nat.le_refl _) _), trivial, .inr ⟨rfl, rfl⟩⟩
  | ok o l1 =>
    rw [hop] at HOP hless
    unfold OpTo at HOP
    show Calls _ _ _ w (XTo w bp tb (testO o l1))
    have hv1 := hless.1
    have h199 : l1.length ≤ 99 := by have := hless.2; omega
    have hp1 := hv1.pos
    have HNEW := Lib.hid (show ∀ w1, PSt w bp tb [(w.heap.size, (.cells #[.int .i64 0, .int .i64 0, .slice none 0 0, .slice none 0 0] 25))] l1 w1 → PSt w bp tb [(w1.heap.size + 1, (.cells #[.int .i64 o.kind, .string o.text, .bool o.neg, .int .u64 o.num] 34)), (w.heap.size, (.cells #[.int .i64 0, .int .i64 0, .slice none 0 0, .slice none 0 0] 25))] l1 ((w1.alloc (.cells #[.int .i64 o.kind, .string o.text, .bool o.neg, .int .u64 o.num] 34)).alloc (.cells #[.int .i64 o.kind, .string o.text, .bool o.neg, .int .u64 o.num] 34)) from fun w1 h => by
      have h2 := (h.new (.cells #[.int .i64 o.kind, .string o.text, .bool o.neg, .int .u64 o.num] 34)).new (.cells #[.int .i64 o.kind, .string o.text, .bool o.neg, .int .u64 o.num] 34)
      have e : (w1.alloc (.cells #[.int .i64 o.kind, .string o.text, .bool o.neg, .int .u64 o.num] 34)).heap.size = w1.heap.size + 1 := by simp
      rw [e] at h2
      exact h2.sub (fun p hp => by
        rcases List.mem_cons.1 hp with rfl | hp
        · exact List.mem_cons_self
        · exact List.mem_cons_of_mem _ (List.mem_cons_of_mem _ hp)))
    clear hop hless
    cases h1 : (Cl.wd kNOT).test (hd l1) with
    | true =>
      obtain ⟨hv2, hl2⟩ := hv1.tail (by trivial) h1
      have hp2 := hv2.pos
      have hN : testO o l1 = negR (furX 2 0 betw l1.tail [o]) := by unfold testO; rw [if_pos h1]
      rw [hN]
      have HS1 := Lib.hid (fun (v : Value) wx (hp2 : PAt wx bp tb l1) (hc : ClAt wx (.wd kNOT) v) => skip_yes bp tb l1 (.wd kNOT) v wx hp2 hc (by omega) h199 (Short.hd hv1.short) h1)
      have HNG := Lib.hid (fun (wx : World) (S : Nat → Prop) (T : XT) (e : Nat) (l' : List Tk) (hT : XAt wx S T) (ha : AnsX (furX 2 0 betw l1.tail [o]) T e l') => negated_any wx S _ (furX_err 2 0 betw betw_inner (by simp [betw]) l1.tail [o] hv2 (by omega)) T e l' hT ha)
      have HBT := Lib.hid (fun (ab : Nat) wx (hpx : PSt w bp tb [(ab, (.cells #[.int .i64 o.kind, .string o.text, .bool o.neg, .int .u64 o.num] 34)), (w.heap.size, (.cells #[.int .i64 0, .int .i64 0, .slice none 0 0, .slice none 0 0] 25))] l1.tail wx) (hab : w.heap.size < ab) => between_any w bp tb ab [(w.heap.size, (.cells #[.int .i64 0, .int .i64 0, .slice none 0 0, .slice none 0 0] 25))] l1.tail o wx hpx (fun p hp => by simp at hp; subst hp; show w.heap.size ≠ ab; omega) hv2 (by omega))
      clear hN
      go_enter Tryz.func70, Tryz.ntmps70
      go_wp2_with (first
        | (go_at_call 72; refine (HNG.out _ _ T e4 l4 HXL.out HAL.out).mono ?_; rintro x w5 ⟨hb5, T5, rfl, hx5, ha5⟩; have HPM := Lib.hid (HPL.out.next hb5); have HXM := Lib.hid hx5; have HAM := Lib.hid ha5; have hzz := (HPM.out.own _ List.mem_cons_self).1; obtain ⟨r0, f0, r1, f1, r2, f2, r3, f3⟩ := bf4 hzz; clear hzz; have hsz5 := lt_of_block (HPL.out.own _ List.mem_cons_self).1; clear hb5 hx5 ha5)
        | (go_at_call 110; refine (HBT.out _ _ HP3.out (by omega)).mono ?_; rintro x w4 ⟨T, e4, l4, rfl, hp4, hx4, ha4⟩; have HPL := Lib.hid hp4; have HXL := Lib.hid hx4; have HAL := Lib.hid ha4; have hsz4 := lt_of_block (HP3.out.own _ (List.mem_cons_of_mem _ List.mem_cons_self)).1; have hzz := (hp4.own _ List.mem_cons_self).1; obtain ⟨r0, f0, r1, f1, r2, f2, r3, f3⟩ := bf4 hzz; clear hzz; clear hp4 hx4 ha4)
        | (go_at_call 71; refine (HS1.out _ _ HP2.out.pat HC2.out).mono ?_; rintro e w3 ⟨rfl, hp3, ho3⟩; have HP3 := Lib.hid (HP2.out.skip hp3 ho3); clear hp3 ho3)
        | (go_at_call 68; refine (wordF_any kNOT _ rfl _).mono ?_; rintro e w2 ⟨g2, lb2, rfl, hc2, hb2⟩; have HP2 := Lib.hid (HP1.out.next hb2); have HC2 := Lib.hid hc2; clear hc2 hb2)
        | (go_at_call 109; refine (HOP.out).mono ?_; rintro x w1 ⟨ho1, rfl, hpt1⟩; have HPo := Lib.hid (HP0.out.skip hpt1 ho1); have hw1 := lt_of_block (HPo.out.own _ List.mem_cons_self).1; have HP1 := Lib.hid (HNEW.out w1 HPo.out); clear ho1 hpt1))
      exact endTest rfl w.heap.size rfl rfl (put4 (HPM.out.own _ List.mem_cons_self).1 _ _ _ _) (fin_x HPM.out HXM.out (fun b hb hl => by rcases hb with (hb | hb) | hb <;> omega) HAM.out)
    | false =>
      have HS1 := Lib.hid (fun (v : Value) wx (hp2 : PAt wx bp tb l1) (hc : ClAt wx (.wd kNOT) v) => skip_no bp tb l1 (.wd kNOT) v wx hp2 hc (by omega) h199 (Short.hd hv1.short) h1)
      cases h2 : (Cl.wd kBETWEEN).test (hd l1) with
      | true =>
        have hN : testO o l1 = furX 2 0 betw l1 [o] := by unfold testO; rw [if_neg (by simpa using h1), if_pos h2]
        rw [hN]
        have HS2 := Lib.hid (show ∀ (v : Value) wx, PAt wx bp tb l1 → ClAt wx (.wd kBETWEEN) v → Calls Tryz.prog 28 #[.pointer (some ⟨bp, 0, none⟩), v] wx fun e w' => e = .returned (.bool true) ∧ Below wx.heap.size wx w' from fun v wx hp2 hc => by have := at_any bp tb l1 (.wd kBETWEEN) v wx hp2 hc hp1 h199 (Short.hd hv1.short); rwa [h2] at this)
        have HBT := Lib.hid (fun (ab : Nat) wx (hpx : PSt w bp tb [(ab, (.cells #[.int .i64 o.kind, .string o.text, .bool o.neg, .int .u64 o.num] 34)), (w.heap.size, (.cells #[.int .i64 0, .int .i64 0, .slice none 0 0, .slice none 0 0] 25))] l1 wx) (hab : w.heap.size < ab) => between_any w bp tb ab [(w.heap.size, (.cells #[.int .i64 0, .int .i64 0, .slice none 0 0, .slice none 0 0] 25))] l1 o wx hpx (fun p hp => by simp at hp; subst hp; show w.heap.size ≠ ab; omega) hv1 h199)
        clear hN
        go_enter Tryz.func70, Tryz.ntmps70
        go_wp2_with (first
          | (go_at_call 110; refine (HBT.out _ _ HP5.out (by omega)).mono ?_; rintro x w6 ⟨T, e6, l6, rfl, hp6, hx6, ha6⟩; have HPL := Lib.hid hp6; have HXL := Lib.hid hx6; have HAL := Lib.hid ha6; have hsz6 := lt_of_block (HP5.out.own _ (List.mem_cons_of_mem _ List.mem_cons_self)).1; have hzz := (hp6.own _ List.mem_cons_self).1; obtain ⟨r0, f0, r1, f1, r2, f2, r3, f3⟩ := bf4 hzz; clear hzz; clear hp6 hx6 ha6)
          | (go_at_call 28; refine (HS2.out _ _ HP4.out.pat HC4.out).mono ?_; rintro e w5 ⟨rfl, hb5⟩; have HP5 := Lib.hid (HP4.out.next hb5); clear hb5)
          | (go_at_call 68; refine (wordF_any kBETWEEN _ rfl _).mono ?_; rintro e w4 ⟨g4, lb4, rfl, hc4, hb4⟩; have HP4 := Lib.hid (HP3.out.next hb4); have HC4 := Lib.hid hc4; clear hc4 hb4)
          | (go_at_call 71; refine (HS1.out _ _ HP2.out.pat HC2.out).mono ?_; rintro e w3 ⟨rfl, hb3⟩; have HP3 := Lib.hid (HP2.out.next hb3); clear hb3)
          | (go_at_call 68; refine (wordF_any kNOT _ rfl _).mono ?_; rintro e w2 ⟨g2, lb2, rfl, hc2, hb2⟩; have HP2 := Lib.hid (HP1.out.next hb2); have HC2 := Lib.hid hc2; clear hc2 hb2)
          | (go_at_call 109; refine (HOP.out).mono ?_; rintro x w1 ⟨ho1, rfl, hpt1⟩; have HPo := Lib.hid (HP0.out.skip hpt1 ho1); have hw1 := lt_of_block (HPo.out.own _ List.mem_cons_self).1; have HP1 := Lib.hid (HNEW.out w1 HPo.out); clear ho1 hpt1))
        exact endTest rfl w.heap.size rfl rfl (put4 (HPL.out.own _ List.mem_cons_self).1 _ _ _ _) (fin_x HPL.out HXL.out (fun b hb hl => by rcases hb with hb | hb <;> omega) HAL.out)
      | false =>
        have HS2 := Lib.hid (show ∀ (v : Value) wx, PAt wx bp tb l1 → ClAt wx (.wd kBETWEEN) v → Calls Tryz.prog 28 #[.pointer (some ⟨bp, 0, none⟩), v] wx fun e w' => e = .returned (.bool false) ∧ Below wx.heap.size wx w' from fun v wx hp2 hc => by have := at_any bp tb l1 (.wd kBETWEEN) v wx hp2 hc hp1 h199 (Short.hd hv1.short); rwa [h2] at this)
        have HFU := Lib.hid (fun (op rel : Int) (c : Cl) (hc : c.inner) (v : Value) (ab : Nat) wk (hpx : PSt w bp tb [(ab, (.cells #[.int .i64 o.kind, .string o.text, .bool o.neg, .int .u64 o.num] 34)), (w.heap.size, (.cells #[.int .i64 0, .int .i64 0, .slice none 0 0, .slice none 0 0] 25))] l1 wk) (hab : w.heap.size < ab) (hcl : ClAt wk c v) => fur_one w bp tb ab o l1 op rel c hc v wk hpx hab hcl hv1 h199)
        cases h3 : (Cl.wd kLIKE).test (hd l1) with
        | true =>
          have hN : testO o l1 = furX 3 0 [.wd kLIKE] l1 [o] := by unfold testO; rw [if_neg (by simpa using h1), if_neg (by simpa using h2), if_pos h3]
          rw [hN]
          have HS3 := Lib.hid (show ∀ (v : Value) wx, PAt wx bp tb l1 → ClAt wx (.wd kLIKE) v → Calls Tryz.prog 28 #[.pointer (some ⟨bp, 0, none⟩), v] wx fun e w' => e = .returned (.bool true) ∧ Below wx.heap.size wx w' from fun v wx hp2 hc => by have := at_any bp tb l1 (.wd kLIKE) v wx hp2 hc hp1 h199 (Short.hd hv1.short); rwa [h3] at this)
          clear hN
          go_enter Tryz.func70, Tryz.ntmps70
          go_wp2_with (first
            | (go_at_call 111; refine (HFU.out 3 0 (.wd kLIKE) trivial _ (w1.heap.size + 1) _ HP8.out (by omega) HC8.out).mono ?_; rintro x w9 ⟨T, e9, l9, rfl, hp9, hx9, ha9⟩; have HPL := Lib.hid hp9; have HXL := Lib.hid hx9; have HAL := Lib.hid ha9; have hsz9 := lt_of_block (HP8.out.own _ (List.mem_cons_of_mem _ List.mem_cons_self)).1; have hzz := (hp9.own _ List.mem_cons_self).1; obtain ⟨r0, f0, r1, f1, r2, f2, r3, f3⟩ := bf4 hzz; clear hzz; clear hp9 hx9 ha9)
            | (go_at_call 68; refine (wordF_any kLIKE _ rfl _).mono ?_; rintro e w8 ⟨g8, lb8, rfl, hc8, hb8⟩; have HP8 := Lib.hid (HP7.out.next hb8); have HC8 := Lib.hid hc8; clear hc8 hb8)
            | (go_at_call 28; refine (HS3.out _ _ HP6.out.pat HC6.out).mono ?_; rintro e w7 ⟨rfl, hb7⟩; have HP7 := Lib.hid (HP6.out.next hb7); clear hb7)
            | (go_at_call 68; refine (wordF_any kLIKE _ rfl _).mono ?_; rintro e w6 ⟨g6, lb6, rfl, hc6, hb6⟩; have HP6 := Lib.hid (HP5.out.next hb6); have HC6 := Lib.hid hc6; clear hc6 hb6)
            | (go_at_call 28; refine (HS2.out _ _ HP4.out.pat HC4.out).mono ?_; rintro e w5 ⟨rfl, hb5⟩; have HP5 := Lib.hid (HP4.out.next hb5); clear hb5)
            | (go_at_call 68; refine (wordF_any kBETWEEN _ rfl _).mono ?_; rintro e w4 ⟨g4, lb4, rfl, hc4, hb4⟩; have HP4 := Lib.hid (HP3.out.next hb4); have HC4 := Lib.hid hc4; clear hc4 hb4)
            | (go_at_call 71; refine (HS1.out _ _ HP2.out.pat HC2.out).mono ?_; rintro e w3 ⟨rfl, hb3⟩; have HP3 := Lib.hid (HP2.out.next hb3); clear hb3)
            | (go_at_call 68; refine (wordF_any kNOT _ rfl _).mono ?_; rintro e w2 ⟨g2, lb2, rfl, hc2, hb2⟩; have HP2 := Lib.hid (HP1.out.next hb2); have HC2 := Lib.hid hc2; clear hc2 hb2)
            | (go_at_call 109; refine (HOP.out).mono ?_; rintro x w1 ⟨ho1, rfl, hpt1⟩; have HPo := Lib.hid (HP0.out.skip hpt1 ho1); have hw1 := lt_of_block (HPo.out.own _ List.mem_cons_self).1; have HP1 := Lib.hid (HNEW.out w1 HPo.out); clear ho1 hpt1))
          exact endTest rfl w.heap.size rfl rfl (put4 (HPL.out.own _ List.mem_cons_self).1 _ _ _ _) (fin_x HPL.out HXL.out (fun b hb hl => by rcases hb with hb | hb <;> omega) HAL.out)
        | false =>
          have hN : testO o l1 = furX 1 (relT (hd l1) : Nat) [.rl] l1 [o] := by unfold testO; rw [if_neg (by simpa using h1), if_neg (by simpa using h2), if_neg (by simpa using h3)]
          rw [hN]
          have HS3 := Lib.hid (show ∀ (v : Value) wx, PAt wx bp tb l1 → ClAt wx (.wd kLIKE) v → Calls Tryz.prog 28 #[.pointer (some ⟨bp, 0, none⟩), v] wx fun e w' => e = .returned (.bool false) ∧ Below wx.heap.size wx w' from fun v wx hp2 hc => by have := at_any bp tb l1 (.wd kLIKE) v wx hp2 hc hp1 h199 (Short.hd hv1.short); rwa [h3] at this)
          have HRL := Lib.hid (fun wx => relation_any (hd l1) wx)
          unfold RelTo at HRL
          clear hN
          go_enter Tryz.func70, Tryz.ntmps70
          go_wp2_with (first
            | (go_at_call 111; refine (HFU.out 1 _ .rl trivial _ (w1.heap.size + 1) _ HP8.out (by omega) rfl).mono ?_; rintro x w9 ⟨T, e9, l9, rfl, hp9, hx9, ha9⟩; have HPL := Lib.hid hp9; have HXL := Lib.hid hx9; have HAL := Lib.hid ha9; have hsz9 := lt_of_block (HP8.out.own _ (List.mem_cons_of_mem _ List.mem_cons_self)).1; have hzz := (hp9.own _ List.mem_cons_self).1; obtain ⟨r0, f0, r1, f1, r2, f2, r3, f3⟩ := bf4 hzz; clear hzz; clear hp9 hx9 ha9)
            | (go_at_call 112; refine (HRL.out _).mono ?_; rintro x w8 ⟨rfl, hb8⟩; have HP8 := Lib.hid (HP7.out.next hb8); clear hb8)
            | (go_at_call 28; refine (HS3.out _ _ HP6.out.pat HC6.out).mono ?_; rintro e w7 ⟨rfl, hb7⟩; have HP7 := Lib.hid (HP6.out.next hb7); clear hb7; obtain ⟨_, _, off, cap, hbx, hcap, htk⟩ := HP7.out.pat; have p0 : w7.cell? ⟨bp, 0, none⟩ = some (.slice (some ⟨tb, off, none⟩) l1.length cap) := cell_at hbx rfl; have hh := htk.head (by first | assumption | omega); have t0 : w7.cell? ⟨tb, off, none⟩ = some (.int .i64 ((hd l1).k : Nat)) := hh 0 _ rfl; have t1 : w7.cell? ⟨tb, off + 1, none⟩ = some (.string (bs (hd l1).t)) := hh 1 _ rfl; have t2 : w7.cell? ⟨tb, off + 2, none⟩ = some (.int .u64 ((hd l1).n : Nat)) := hh 2 _ rfl; have t3 : w7.cell? ⟨tb, off + 3, none⟩ = some (.int .i64 ((hd l1).a : Nat)) := hh 3 _ rfl; clear hh hbx htk)
            | (go_at_call 68; refine (wordF_any kLIKE _ rfl _).mono ?_; rintro e w6 ⟨g6, lb6, rfl, hc6, hb6⟩; have HP6 := Lib.hid (HP5.out.next hb6); have HC6 := Lib.hid hc6; clear hc6 hb6)
            | (go_at_call 28; refine (HS2.out _ _ HP4.out.pat HC4.out).mono ?_; rintro e w5 ⟨rfl, hb5⟩; have HP5 := Lib.hid (HP4.out.next hb5); clear hb5)
            | (go_at_call 68; refine (wordF_any kBETWEEN _ rfl _).mono ?_; rintro e w4 ⟨g4, lb4, rfl, hc4, hb4⟩; have HP4 := Lib.hid (HP3.out.next hb4); have HC4 := Lib.hid hc4; clear hc4 hb4)
            | (go_at_call 71; refine (HS1.out _ _ HP2.out.pat HC2.out).mono ?_; rintro e w3 ⟨rfl, hb3⟩; have HP3 := Lib.hid (HP2.out.next hb3); clear hb3)
            | (go_at_call 68; refine (wordF_any kNOT _ rfl _).mono ?_; rintro e w2 ⟨g2, lb2, rfl, hc2, hb2⟩; have HP2 := Lib.hid (HP1.out.next hb2); have HC2 := Lib.hid hc2; clear hc2 hb2)
            | (go_at_call 109; refine (HOP.out).mono ?_; rintro x w1 ⟨ho1, rfl, hpt1⟩; have HPo := Lib.hid (HP0.out.skip hpt1 ho1); have hw1 := lt_of_block (HPo.out.own _ List.mem_cons_self).1; have HP1 := Lib.hid (HNEW.out w1 HPo.out); clear ho1 hpt1))
          exact endTest rfl w.heap.size rfl rfl (put4 (HPL.out.own _ List.mem_cons_self).1 _ _ _ _) (fin_x HPL.out HXL.out (fun b hb hl => by rcases hb with hb | hb <;> omega) HAL.out)
end Go.Proofs.YtjgdkiikkgdbaaaGreatDoor
