/- or, not and the closures that or passes on: a filter, to whatever depth. -/
import Derived.Laws.EntriesVeiled
import Derived.Test.YtjgdkiikkgdbaaaGreatDoorQ14
namespace Go.Proofs.YtjgdkiikkgdbaaaGreatDoor
open Go.RowKit
set_option linter.unusedVariables false
/-- what a callee answers, in its caller's world -/
def InX (w : World) (bp tb : Nat) (zs : List (Nat × Obj)) (N : Nat) (r : PR XT) (x : Ending) (w' : World) : Prop := ∃ (T : XT) (e : Nat) (l' : List Tk), x = .returned (.tuple #[.agg #[.int .i64 T.op, .int .i64 T.rel, .slice T.aa T.an T.ac, .slice T.ka T.kn T.kc], .int .i64 (e : Nat)]) ∧ PSt w bp tb zs l' w' ∧ XAt w' (fun b => N ≤ b) T ∧ AnsX r T e l'
theorem wrapX {w wx w' : World} {bp tb : Nat} {zs : List (Nat × Obj)} {l : List Tk} {r : PR XT} {x : Ending} (hp : PSt w bp tb zs l wx) (h : XTo wx bp tb r x w') : InX w bp tb zs wx.heap.size r x w' := by
  obtain ⟨ho, T, e, l', rfl, hpat, hx, ha⟩ := h
  exact ⟨T, e, l', rfl, hp.skip hpat ho, hx, ha⟩
def NotC (bp tb k n : Nat) : Prop := ∀ (l : List Tk) (w : World), PAt w bp tb l → Vd l → l.length ≤ 99 → Calls Tryz.prog 48 #[.pointer (some ⟨bp, 0, none⟩), .int .i64 (n : Nat)] w (XTo w bp tb (notP k l))
def OrC (bp tb k n : Nat) : Prop := ∀ (l : List Tk) (w : World), PAt w bp tb l → Vd l → l.length ≤ 99 → Calls Tryz.prog 27 #[.pointer (some ⟨bp, 0, none⟩), .int .i64 (n : Nat)] w (XTo w bp tb (orP k l))
theorem endOr1 {V : World} {act : Act} {Q : Ending → World → Prop} {a0 a1 a2 a3 : Value} {e : Int} (hd : act.defers = []) (rb : Nat) (h2 : act.tmps.getD 2 undef = .pointer (some ⟨rb, 0, none⟩)) (h3 : act.tmps.getD 3 undef = .int .i64 e) (hr : V.heap[rb]? = some (.cells #[a0, a1, a2, a3] 25))
    (hQ : Q (.returned (.tuple #[.agg #[a0, a1, a2, a3], .int .i64 e])) V) : bodyPost Tryz.prog Tryz.f47 Q Exit.ret act V := by
  refine bodyPost_ret (v := .tuple #[.agg #[a0, a1, a2, a3], .int .i64 e]) ?_ hd hQ
  have hl2 := run_loadVar_row (P := Tryz.prog) V rb 25 25 #[a0, a1, a2, a3] _ _ hr Tryz.underlying25 rfl (by kernel_rfl)
  rw [Array.getD_eq_getD_getElem?] at h2 h3
  simp [results, Tryz.results47, asAddr, hl2, h2, h3]
theorem endOr2 {V : World} {act : Act} {Q : Ending → World → Prop} {a0 a1 a2 a3 : Value} {e : Int} (hd : act.defers = []) (rb : Nat) (h2 : act.tmps.getD 2 undef = .pointer (some ⟨rb, 0, none⟩)) (h3 : act.tmps.getD 3 undef = .int .i64 e) (hr : V.heap[rb]? = some (.cells #[a0, a1, a2, a3] 25))
    (hQ : Q (.returned (.tuple #[.agg #[a0, a1, a2, a3], .int .i64 e])) V) : bodyPost Tryz.prog Tryz.f49 Q Exit.ret act V := by
  refine bodyPost_ret (v := .tuple #[.agg #[a0, a1, a2, a3], .int .i64 e]) ?_ hd hQ
  have hl2 := run_loadVar_row (P := Tryz.prog) V rb 25 25 #[a0, a1, a2, a3] _ _ hr Tryz.underlying25 rfl (by kernel_rfl)
  rw [Array.getD_eq_getD_getElem?] at h2 h3
  simp [results, Tryz.results49, asAddr, hl2, h2, h3]
theorem endOr {V : World} {act : Act} {Q : Ending → World → Prop} {a0 a1 a2 a3 : Value} {e : Int} (hd : act.defers = []) (rb : Nat) (h2 : act.tmps.getD 4 undef = .pointer (some ⟨rb, 0, none⟩)) (h3 : act.tmps.getD 5 undef = .int .i64 e) (hr : V.heap[rb]? = some (.cells #[a0, a1, a2, a3] 25))
    (hQ : Q (.returned (.tuple #[.agg #[a0, a1, a2, a3], .int .i64 e])) V) : bodyPost Tryz.prog Tryz.f27 Q Exit.ret act V := by
  refine bodyPost_ret (v := .tuple #[.agg #[a0, a1, a2, a3], .int .i64 e]) ?_ hd hQ
  have hl2 := run_loadVar_row (P := Tryz.prog) V rb 25 25 #[a0, a1, a2, a3] _ _ hr Tryz.underlying25 rfl (by kernel_rfl)
  rw [Array.getD_eq_getD_getElem?] at h2 h3
  simp [results, Tryz.results27, asAddr, hl2, h2, h3]
theorem endNot {V : World} {act : Act} {Q : Ending → World → Prop} {a0 a1 a2 a3 : Value} {e : Int} (hd : act.defers = []) (rb : Nat) (h2 : act.tmps.getD 4 undef = .pointer (some ⟨rb, 0, none⟩)) (h3 : act.tmps.getD 5 undef = .int .i64 e) (hr : V.heap[rb]? = some (.cells #[a0, a1, a2, a3] 25))
    (hQ : Q (.returned (.tuple #[.agg #[a0, a1, a2, a3], .int .i64 e])) V) : bodyPost Tryz.prog Tryz.f48 Q Exit.ret act V := by
  refine bodyPost_ret (v := .tuple #[.agg #[a0, a1, a2, a3], .int .i64 e]) ?_ hd hQ
  have hl2 := run_loadVar_row (P := Tryz.prog) V rb 25 25 #[a0, a1, a2, a3] _ _ hr Tryz.underlying25 rfl (by kernel_rfl)
  rw [Array.getD_eq_getD_getElem?] at h2 h3
  simp [results, Tryz.results48, asAddr, hl2, h2, h3]
theorem eOr1 : Enters 47 := enters_of Tryz.func47 (by kernel_rfl) rfl
theorem eOr2 : Enters 49 := enters_of Tryz.func49 (by kernel_rfl) rfl
set_option maxRecDepth 100000 in
theorem or1_any (bp tb k n : Nat) (HN : NotC bp tb k n) (b0 b1 : Nat) (l : List Tk) (w : World) (h0 : w.heap[b0]? = some (.cells #[.pointer (some ⟨bp, 0, none⟩)] 90)) (h1 : w.heap[b1]? = some (.cells #[.int .i64 (n : Nat)] 3)) (hp : PAt w bp tb l) (hv : Vd l) (h99 : l.length ≤ 99) :
    Calls Tryz.prog 47 #[.pointer (some ⟨b0, 0, none⟩), .pointer (some ⟨b1, 0, none⟩)] w (XTo w bp tb (notP k l)) := by
  have c0 : w.cell? ⟨b0, 0, none⟩ = some (.pointer (some ⟨bp, 0, none⟩)) := cell_at h0 rfl
  have c1 : w.cell? ⟨b1, 0, none⟩ = some (.int .i64 (n : Nat)) := cell_at h1 rfl
  have k0 := lt_of_block h0
  have k1 := lt_of_block h1
  have m0 : ¬ b0 = w.heap.size := by omega
  have m1 : ¬ b1 = w.heap.size := by omega
  have HP0 := Lib.hid (show PSt w bp tb [(w.heap.size, (.cells #[.int .i64 0, .int .i64 0, .slice none 0 0, .slice none 0 0] 25))] l (w.alloc (.cells #[.int .i64 0, .int .i64 0, .slice none 0 0, .slice none 0 0] 25)) from (PSt.start hp).new _)
  have HNN := Lib.hid (HN l (w.alloc (.cells #[.int .i64 0, .int .i64 0, .slice none 0 0, .slice none 0 0] 25)) HP0.out.pat hv h99)
  clear h0 h1 hp hv h99
  go_enter Tryz.func47, Tryz.ntmps47
  go_wp2_with (go_at_call 48; refine (HNN.out ).mono ?_; rintro x w1 hxx; obtain ⟨T, e1, l1, rfl, hp1, hx1, ha1⟩ := wrapX HP0.out hxx; have HP1 := Lib.hid hp1; have HX1 := Lib.hid hx1; have HA1 := Lib.hid ha1; have hsz1 := lt_of_block (HP0.out.own _ List.mem_cons_self).1; have hzz := (hp1.own _ List.mem_cons_self).1; obtain ⟨r0, f0, r1, f1, r2, f2, r3, f3⟩ := bf4 hzz; clear hzz; clear hxx hp1 hx1 ha1)
  exact endOr1 rfl w.heap.size rfl rfl (put4 (HP1.out.own _ List.mem_cons_self).1 _ _ _ _) (fin_x HP1.out HX1.out (fun b hb hl => by omega) HA1.out)
set_option maxRecDepth 100000 in
theorem or2_any (bp tb k n : Nat) (HN : NotC bp tb k n) (b0 b1 b2 : Nat) (l : List Tk) (w : World) (h0 : w.heap[b0]? = some (.cells #[.pointer (some ⟨bp, 0, none⟩)] 90)) (h1 : w.heap[b1]? = some (.cells #[.int .i64 (n : Nat)] 3)) (h2 : w.heap[b2]? = some (.cells #[(.func (.func 47) #[] #[.pointer (some ⟨b0, 0, none⟩), .pointer (some ⟨b1, 0, none⟩)])] 91)) (hp : PAt w bp tb l) (hv : Vd l) (h99 : l.length ≤ 99) :
    Calls Tryz.prog 49 #[.pointer (some ⟨b0, 0, none⟩), .pointer (some ⟨b2, 0, none⟩)] w (XTo w bp tb (serP 5 kAND (notP k) l)) := by
  have c0 : w.cell? ⟨b0, 0, none⟩ = some (.pointer (some ⟨bp, 0, none⟩)) := cell_at h0 rfl
  have c2 : w.cell? ⟨b2, 0, none⟩ = some (.func (.func 47) #[] #[.pointer (some ⟨b0, 0, none⟩), .pointer (some ⟨b1, 0, none⟩)]) := cell_at h2 rfl
  have k0 := lt_of_block h0
  have k2 := lt_of_block h2
  have m0 : ¬ b0 = w.heap.size := by omega
  have m2 : ¬ b2 = w.heap.size := by omega
  have HP0 := Lib.hid (show PSt w bp tb [(w.heap.size, (.cells #[.int .i64 0, .int .i64 0, .slice none 0 0, .slice none 0 0] 25))] l (w.alloc (.cells #[.int .i64 0, .int .i64 0, .slice none 0 0, .slice none 0 0] 25)) from (PSt.start hp).new _)
  have hne : b0 ≠ bp ∧ b1 ≠ bp := by
    obtain ⟨_, _, off, cap, hbx, _⟩ := hp
    refine ⟨fun e => ?_, fun e => ?_⟩
    · subst e; rw [h0] at hbx; cases hbx
    · subst e; rw [h1] at hbx; cases hbx
  have HSE := Lib.hid (series_any (notP k) (notP_less k) 5 kAND (by decide) bp tb 47 #[.pointer (some ⟨b0, 0, none⟩), .pointer (some ⟨b1, 0, none⟩)] eOr1 l (w.alloc (.cells #[.int .i64 0, .int .i64 0, .slice none 0 0, .slice none 0 0] 25)) HP0.out.pat hv h99 (fun wx l' ho hpx hvx hx99 =>
    or1_any bp tb k n HN b0 b1 l' wx (ho.same (alloc_old h0) hne.1) (ho.same (alloc_old h1) hne.2) hpx hvx hx99))
  clear h0 h1 h2 hp hv h99
  go_enter Tryz.func49, Tryz.ntmps49
  go_wp2_with (go_at_call 50; refine (HSE.out ).mono ?_; rintro x w1 hxx; obtain ⟨T, e1, l1, rfl, hp1, hx1, ha1⟩ := wrapX HP0.out hxx; have HP1 := Lib.hid hp1; have HX1 := Lib.hid hx1; have HA1 := Lib.hid ha1; have hsz1 := lt_of_block (HP0.out.own _ List.mem_cons_self).1; have hzz := (hp1.own _ List.mem_cons_self).1; obtain ⟨r0, f0, r1, f1, r2, f2, r3, f3⟩ := bf4 hzz; clear hzz; clear hxx hp1 hx1 ha1)
  exact endOr2 rfl w.heap.size rfl rfl (put4 (HP1.out.own _ List.mem_cons_self).1 _ _ _ _) (fin_x HP1.out HX1.out (fun b hb hl => by omega) HA1.out)
set_option maxRecDepth 100000 in
set_option maxHeartbeats 2000000 in
theorem or_any (bp tb k n : Nat) (HN : NotC bp tb k n) : OrC bp tb k n := by
  intro l w hp hv h99
  have hmf' := hmf
  have e1 : (w.alloc (.cells #[.pointer (some ⟨bp, 0, none⟩)] 90)).heap.size = w.heap.size + 1 := by simp
  have e2 : ((w.alloc (.cells #[.pointer (some ⟨bp, 0, none⟩)] 90)).alloc (.cells #[.int .i64 (n : Nat)] 3)).heap.size = w.heap.size + 1 + 1 := by simp
  have e3 : (((w.alloc (.cells #[.pointer (some ⟨bp, 0, none⟩)] 90)).alloc (.cells #[.int .i64 (n : Nat)] 3)).alloc (.cells #[.int .i64 0, .int .i64 0, .slice none 0 0, .slice none 0 0] 25)).heap.size = w.heap.size + 1 + 1 + 1 := by simp
  have hnew := alloc_at (((w.alloc (.cells #[.pointer (some ⟨bp, 0, none⟩)] 90)).alloc (.cells #[.int .i64 (n : Nat)] 3)).alloc (.cells #[.int .i64 0, .int .i64 0, .slice none 0 0, .slice none 0 0] 25)) (.cells #[.func (.func 47) #[] #[.pointer (some ⟨w.heap.size, 0, none⟩), .pointer (some ⟨w.heap.size + 1, 0, none⟩)]] 91)
  rw [e3] at hnew
  have HP0 := Lib.hid (show PSt w bp tb [(w.heap.size + 1 + 1, (.cells #[.int .i64 0, .int .i64 0, .slice none 0 0, .slice none 0 0] 25))] l ((((w.alloc (.cells #[.pointer (some ⟨bp, 0, none⟩)] 90)).alloc (.cells #[.int .i64 (n : Nat)] 3)).alloc (.cells #[.int .i64 0, .int .i64 0, .slice none 0 0, .slice none 0 0] 25)).alloc (.cells #[.func (.func 47) #[] #[.pointer (some ⟨w.heap.size, 0, none⟩), .pointer (some ⟨w.heap.size + 1, 0, none⟩)]] 91)) from by
    have := ((((PSt.start hp).new (.cells #[.pointer (some ⟨bp, 0, none⟩)] 90)).new (.cells #[.int .i64 (n : Nat)] 3)).new (.cells #[.int .i64 0, .int .i64 0, .slice none 0 0, .slice none 0 0] 25)).new (.cells #[.func (.func 47) #[] #[.pointer (some ⟨w.heap.size, 0, none⟩), .pointer (some ⟨w.heap.size + 1, 0, none⟩)]] 91)
    rw [e1, e2, e3] at this
    exact this.sub (zs2 := [(w.heap.size + 1 + 1, (.cells #[.int .i64 0, .int .i64 0, .slice none 0 0, .slice none 0 0] 25))]) (fun p hp => by simp at hp; subst hp; simp))
  have q0 : ((((w.alloc (.cells #[.pointer (some ⟨bp, 0, none⟩)] 90)).alloc (.cells #[.int .i64 (n : Nat)] 3)).alloc (.cells #[.int .i64 0, .int .i64 0, .slice none 0 0, .slice none 0 0] 25)).alloc (.cells #[.func (.func 47) #[] #[.pointer (some ⟨w.heap.size, 0, none⟩), .pointer (some ⟨w.heap.size + 1, 0, none⟩)]] 91)).heap[w.heap.size]? = some (.cells #[.pointer (some ⟨bp, 0, none⟩)] 90) := alloc_old (alloc_old (alloc_old (alloc_at w _)))
  have q1 : ((((w.alloc (.cells #[.pointer (some ⟨bp, 0, none⟩)] 90)).alloc (.cells #[.int .i64 (n : Nat)] 3)).alloc (.cells #[.int .i64 0, .int .i64 0, .slice none 0 0, .slice none 0 0] 25)).alloc (.cells #[.func (.func 47) #[] #[.pointer (some ⟨w.heap.size, 0, none⟩), .pointer (some ⟨w.heap.size + 1, 0, none⟩)]] 91)).heap[w.heap.size + 1]? = some (.cells #[.int .i64 (n : Nat)] 3) := by
    have := alloc_at (w.alloc (.cells #[.pointer (some ⟨bp, 0, none⟩)] 90)) (.cells #[.int .i64 (n : Nat)] 3)
    rw [e1] at this
    exact alloc_old (alloc_old this)
  have q2 : ((((w.alloc (.cells #[.pointer (some ⟨bp, 0, none⟩)] 90)).alloc (.cells #[.int .i64 (n : Nat)] 3)).alloc (.cells #[.int .i64 0, .int .i64 0, .slice none 0 0, .slice none 0 0] 25)).alloc (.cells #[.func (.func 47) #[] #[.pointer (some ⟨w.heap.size, 0, none⟩), .pointer (some ⟨w.heap.size + 1, 0, none⟩)]] 91)).heap[w.heap.size + 1 + 1 + 1]? = some (.cells #[.func (.func 47) #[] #[.pointer (some ⟨w.heap.size, 0, none⟩), .pointer (some ⟨w.heap.size + 1, 0, none⟩)]] 91) := hnew
  have hbl := hp.blt
  have HSE := Lib.hid (series_any (serP 5 kAND (notP k)) (andP_less k) 6 kOR (by decide) bp tb 49 #[.pointer (some ⟨w.heap.size, 0, none⟩), .pointer (some ⟨w.heap.size + 1 + 1 + 1, 0, none⟩)] eOr2 l _ HP0.out.pat hv h99 (fun wx l' ho hpx hvx hx99 =>
    or2_any bp tb k n HN w.heap.size (w.heap.size + 1) (w.heap.size + 1 + 1 + 1) l' wx (ho.same q0 (by omega)) (ho.same q1 (by omega)) (ho.same q2 (by omega)) hpx hvx hx99))
  have hO : serP 6 kOR (serP 5 kAND (notP k)) l = orP k l := rfl
  rw [hO] at HSE
  have x0 : ((((w.alloc (.cells #[.pointer (some ⟨bp, 0, none⟩)] 90)).alloc (.cells #[.int .i64 (n : Nat)] 3)).alloc (.cells #[.int .i64 0, .int .i64 0, .slice none 0 0, .slice none 0 0] 25)).alloc (.cells #[.func (.func 47) #[] #[.pointer (some ⟨w.heap.size, 0, none⟩), .pointer (some ⟨w.heap.size + 1, 0, none⟩)]] 91)).cell? ⟨w.heap.size, 0, none⟩ = some (.pointer (some ⟨bp, 0, none⟩)) := cell_at q0 rfl
  clear q0 q1 q2 hp hv h99 e1 e2 e3 hO hnew
  go_enter Tryz.func27, Tryz.ntmps27
  go_wp2_with (go_at_call 50; refine (HSE.out ).mono ?_; rintro x w1 hxx; obtain ⟨T, e1, l1, rfl, hp1, hx1, ha1⟩ := wrapX HP0.out hxx; have HP1 := Lib.hid hp1; have HX1 := Lib.hid hx1; have HA1 := Lib.hid ha1; have hsz1 := lt_of_block (HP0.out.own _ List.mem_cons_self).1; have hzz := (hp1.own _ List.mem_cons_self).1; obtain ⟨r0, f0, r1, f1, r2, f2, r3, f3⟩ := bf4 hzz; clear hzz; clear hxx hp1 hx1 ha1)
  have hF := HP1.out.put (b := w.heap.size + 1 + 1) (by omega) (.int .i64 T.op) (.int .i64 T.rel) (.slice T.aa T.an T.ac) (.slice T.ka T.kn T.kc)
  have h4 := only4 (b := w.heap.size + 1 + 1) (S := fun k => k = w.heap.size + 1 + 1) (Only.refl _ w1) (.inl rfl) (.int .i64 T.op) (.int .i64 T.rel) (.slice T.aa T.an T.ac) (.slice T.ka T.kn T.kc)
  exact endOr rfl (w.heap.size + 1 + 1) rfl rfl (put4 (HP1.out.own _ List.mem_cons_self).1 _ _ _ _) ⟨hF.2, T, e1, l1, rfl, hF.1, (HX1.out.only h4 (fun b hb hl e => by simp at hb; omega)).sub (fun b hb hl => by simp at hb; omega), HA1.out⟩
end Go.Proofs.YtjgdkiikkgdbaaaGreatDoor
