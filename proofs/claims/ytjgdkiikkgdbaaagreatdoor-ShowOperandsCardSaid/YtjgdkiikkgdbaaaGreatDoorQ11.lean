/- operand: an operand. -/
import Derived.Test.YtjgdkiikkgdbaaaGreatDoorQ10
namespace Go.Proofs.YtjgdkiikkgdbaaaGreatDoor
open Go.RowKit
set_option linter.unusedVariables false
/-- good or bad in one form -/
def AnsO (r : PR Opd) (o : Opd) (e : Nat) (l' : List Tk) : Prop := (e = 0 ∧ r = .ok o l') ∨ (o = default ∧ r = .err e l')
theorem OpTo.gen {w w' : World} {bp tb : Nat} {r : PR Opd} {x : Ending} (h : OpTo w bp tb r x w') : ∃ (o : Opd) (e : Nat) (l' : List Tk), x = .returned (.tuple #[.agg #[.int .i64 o.kind, .string o.text, .bool o.neg, .int .u64 o.num], .int .i64 (e : Nat)]) ∧ PAt w' bp tb l' ∧ Only (fun k => k = bp) w w' ∧ AnsO r o e l' := by
  obtain ⟨ho, h⟩ := h
  cases r with
  | err e l' => exact ⟨default, e, l', h.1, h.2, ho, .inr ⟨rfl, rfl⟩⟩
  | ok o l' => exact ⟨o, 0, l', h.1, h.2, ho, .inl ⟨rfl, rfl⟩⟩
theorem OpTo.of {w w' : World} {bp tb : Nat} {r : PR Opd} {o : Opd} {e : Nat} {l' : List Tk} (hp : PAt w' bp tb l') (ho : Only (fun k => k = bp) w w') (ha : AnsO r o e l') :
    OpTo w bp tb r (.returned (.tuple #[.agg #[.int .i64 o.kind, .string o.text, .bool o.neg, .int .u64 o.num], .int .i64 (e : Nat)])) w' := by
  rcases ha with ⟨rfl, rfl⟩ | ⟨rfl, rfl⟩
  · exact ⟨ho, rfl, hp⟩
  · exact ⟨ho, rfl, hp⟩
theorem endOpd {V : World} {act : Act} {Q : Ending → World → Prop} {a0 a1 a2 a3 : Value} {e : Int} (hd : act.defers = []) (rb : Nat) (h2 : act.tmps.getD 2 undef = .pointer (some ⟨rb, 0, none⟩)) (h3 : act.tmps.getD 3 undef = .int .i64 e) (hr : V.heap[rb]? = some (.cells #[a0, a1, a2, a3] 34))
    (hQ : Q (.returned (.tuple #[.agg #[a0, a1, a2, a3], .int .i64 e])) V) : bodyPost Tryz.prog Tryz.f109 Q Exit.ret act V := by
  refine bodyPost_ret (v := .tuple #[.agg #[a0, a1, a2, a3], .int .i64 e]) ?_ hd hQ
  have hl2 := run_loadVar_row (P := Tryz.prog) V rb 34 34 #[a0, a1, a2, a3] _ _ hr Tryz.underlying34 rfl (by kernel_rfl)
  rw [Array.getD_eq_getD_getElem?] at h2 h3
  simp [results, Tryz.results109, asAddr, hl2, h2, h3]
set_option maxRecDepth 100000 in
set_option maxHeartbeats 8000000 in
theorem operand_any (bp tb : Nat) (l : List Tk) (w : World) (hp : PAt w bp tb l) (hv : Vd l) (h99 : l.length ≤ 99) :
    Calls Tryz.prog 109 #[.pointer (some ⟨bp, 0, none⟩)] w (OpTo w bp tb (operandP l)) := by
  have hpos := hv.pos
  have es : (w.alloc (.cells #[.int .i64 0, .string ⟨#[]⟩, .bool false, .int .u64 0] 34)).heap.size = w.heap.size + 1 := by simp
  have HP0 := Lib.hid (show PSt w bp tb [(w.heap.size + 1, (.cells #[.int .i64 ((hd l).k : Nat), .string (bs (hd l).t), .int .u64 ((hd l).n : Nat), .int .i64 ((hd l).a : Nat)] 67)), (w.heap.size, (.cells #[.int .i64 0, .string ⟨#[]⟩, .bool false, .int .u64 0] 34))] l ((w.alloc (.cells #[.int .i64 0, .string ⟨#[]⟩, .bool false, .int .u64 0] 34)).alloc (.cells #[.int .i64 ((hd l).k : Nat), .string (bs (hd l).t), .int .u64 ((hd l).n : Nat), .int .i64 ((hd l).a : Nat)] 67)) from by
    have := ((PSt.start hp).new (.cells #[.int .i64 0, .string ⟨#[]⟩, .bool false, .int .u64 0] 34)).new (.cells #[.int .i64 ((hd l).k : Nat), .string (bs (hd l).t), .int .u64 ((hd l).n : Nat), .int .i64 ((hd l).a : Nat)] 67)
    rw [es] at this; exact this)
  have hbl := hp.blt
  have hbn : ¬ bp = w.heap.size := by omega
  have htl := hp.lt
  have htn : ¬ tb = w.heap.size := by omega
  obtain ⟨_, _, off, cap, hbx, hcap, htk⟩ := hp
  have p0 : w.cell? ⟨bp, 0, none⟩ = some (.slice (some ⟨tb, off, none⟩) l.length cap) := cell_at hbx rfl
  have hh := htk.head (by first | assumption | omega)
  have t0 : w.cell? ⟨tb, off, none⟩ = some (.int .i64 ((hd l).k : Nat)) := hh 0 _ rfl
  have t1 : w.cell? ⟨tb, off + 1, none⟩ = some (.string (bs (hd l).t)) := hh 1 _ rfl
  have t2 : w.cell? ⟨tb, off + 2, none⟩ = some (.int .u64 ((hd l).n : Nat)) := hh 2 _ rfl
  have t3 : w.cell? ⟨tb, off + 3, none⟩ = some (.int .i64 ((hd l).a : Nat)) := hh 3 _ rfl
  clear hh hbx htk
  cases h0 : (Cl.kd 3).test (hd l) with
  | true =>
      obtain ⟨hv2, hl2⟩ := hv.tail (by simp [Cl.inner]) h0
      have hp2 := hv2.pos
      have hN : operandP l = .ok ⟨3, ⟨(hd l).t.toArray⟩, false, 0⟩ l.tail := by unfold operandP; rw [if_pos h0]
      rw [hN]
      have HS0 := Lib.hid (fun (v : Value) wx (hp2 : PAt wx bp tb l) (hc : ClAt wx (.kd 3) v) => skip_yes bp tb l (.kd 3) v wx hp2 hc (by omega) (by omega) (Short.hd hv.short) h0)
      clear hN
      go_enter Tryz.func109, Tryz.ntmps109
      go_wp2_with (first
        | (go_at_call 71; refine (HS0.out _ _ HP1.out.pat HC1.out).mono ?_; rintro e w2 ⟨rfl, hp2, ho2⟩; have HP2 := Lib.hid (HP1.out.skip hp2 ho2); clear hp2 ho2; have htt := (HP2.out.own _ List.mem_cons_self).1; have x1 : w2.cell? ⟨w.heap.size + 1, 1, none⟩ = some (.string (bs (hd l).t)) := cell_at htt rfl; have x2 : w2.cell? ⟨w.heap.size + 1, 2, none⟩ = some (.int .u64 ((hd l).n : Nat)) := cell_at htt rfl; clear htt; have hzz := (HP2.out.own _ (List.mem_cons_of_mem _ List.mem_cons_self)).1; obtain ⟨r0, f0, r1, f1, r2, f2, r3, f3⟩ := bf4 hzz; clear hzz)
        | (go_at_call 29; refine (kindF_any 3 _).mono ?_; rintro e w1 ⟨g1, lb1, rfl, hc1, hb1⟩; have HP1 := Lib.hid (HP0.out.next hb1); have HC1 := Lib.hid hc1; clear hc1 hb1))
      have hF := HP2.out.put (Nat.le_refl _) (.int .i64 3) (.string (bs (hd l).t)) (.bool false) (.int .u64 0)
      exact endOpd rfl w.heap.size rfl rfl (put4 (HP2.out.own _ (List.mem_cons_of_mem _ List.mem_cons_self)).1 _ _ _ _) ⟨hF.2, rfl, hF.1⟩
  | false =>
    have HS0 := Lib.hid (fun (v : Value) wx (hp2 : PAt wx bp tb l) (hc : ClAt wx (.kd 3) v) => skip_no bp tb l (.kd 3) v wx hp2 hc (by omega) (by omega) (Short.hd hv.short) h0)
    cases h1 : (Cl.kd 4).test (hd l) with
    | true =>
        obtain ⟨hv2, hl2⟩ := hv.tail (by simp [Cl.inner]) h1
        have hp2 := hv2.pos
        have hN : operandP l = .ok ⟨5, ⟨#[]⟩, false, ((hd l).n : Nat)⟩ l.tail := by unfold operandP; rw [if_neg (by simpa using h0)]; rw [if_pos h1]
        rw [hN]
        have HS1 := Lib.hid (fun (v : Value) wx (hp2 : PAt wx bp tb l) (hc : ClAt wx (.kd 4) v) => skip_yes bp tb l (.kd 4) v wx hp2 hc (by omega) (by omega) (Short.hd hv.short) h1)
        clear hN
        go_enter Tryz.func109, Tryz.ntmps109
        go_wp2_with (first
          | (go_at_call 71; refine (HS1.out _ _ HP3.out.pat HC3.out).mono ?_; rintro e w4 ⟨rfl, hp4, ho4⟩; have HP4 := Lib.hid (HP3.out.skip hp4 ho4); clear hp4 ho4; have htt := (HP4.out.own _ List.mem_cons_self).1; have x1 : w4.cell? ⟨w.heap.size + 1, 1, none⟩ = some (.string (bs (hd l).t)) := cell_at htt rfl; have x2 : w4.cell? ⟨w.heap.size + 1, 2, none⟩ = some (.int .u64 ((hd l).n : Nat)) := cell_at htt rfl; clear htt; have hzz := (HP4.out.own _ (List.mem_cons_of_mem _ List.mem_cons_self)).1; obtain ⟨r0, f0, r1, f1, r2, f2, r3, f3⟩ := bf4 hzz; clear hzz)
          | (go_at_call 29; refine (kindF_any 4 _).mono ?_; rintro e w3 ⟨g3, lb3, rfl, hc3, hb3⟩; have HP3 := Lib.hid (HP2.out.next hb3); have HC3 := Lib.hid hc3; clear hc3 hb3)
          | (go_at_call 71; refine (HS0.out _ _ HP1.out.pat HC1.out).mono ?_; rintro e w2 ⟨rfl, hb2⟩; have HP2 := Lib.hid (HP1.out.next hb2); clear hb2)
          | (go_at_call 29; refine (kindF_any 3 _).mono ?_; rintro e w1 ⟨g1, lb1, rfl, hc1, hb1⟩; have HP1 := Lib.hid (HP0.out.next hb1); have HC1 := Lib.hid hc1; clear hc1 hb1))
        have hF := HP4.out.put (Nat.le_refl _) (.int .i64 5) (.string ⟨#[]⟩) (.bool false) (.int .u64 ((hd l).n : Nat))
        exact endOpd rfl w.heap.size rfl rfl (put4 (HP4.out.own _ (List.mem_cons_of_mem _ List.mem_cons_self)).1 _ _ _ _) ⟨hF.2, rfl, hF.1⟩
    | false =>
      have HS1 := Lib.hid (fun (v : Value) wx (hp2 : PAt wx bp tb l) (hc : ClAt wx (.kd 4) v) => skip_no bp tb l (.kd 4) v wx hp2 hc (by omega) (by omega) (Short.hd hv.short) h1)
      cases h2 : (Cl.wd kTRUE).test (hd l) with
      | true =>
          obtain ⟨hv2, hl2⟩ := hv.tail (by simp [Cl.inner]) h2
          have hp2 := hv2.pos
          have hN : operandP l = .ok ⟨4, ⟨#[]⟩, false, 1⟩ l.tail := by unfold operandP; rw [if_neg (by simpa using h0)]; rw [if_neg (by simpa using h1)]; rw [if_pos h2]
          rw [hN]
          have HS2 := Lib.hid (fun (v : Value) wx (hp2 : PAt wx bp tb l) (hc : ClAt wx (.wd kTRUE) v) => skip_yes bp tb l (.wd kTRUE) v wx hp2 hc (by omega) (by omega) (Short.hd hv.short) h2)
          clear hN
          go_enter Tryz.func109, Tryz.ntmps109
          go_wp2_with (first
            | (go_at_call 71; refine (HS2.out _ _ HP5.out.pat HC5.out).mono ?_; rintro e w6 ⟨rfl, hp6, ho6⟩; have HP6 := Lib.hid (HP5.out.skip hp6 ho6); clear hp6 ho6; have htt := (HP6.out.own _ List.mem_cons_self).1; have x1 : w6.cell? ⟨w.heap.size + 1, 1, none⟩ = some (.string (bs (hd l).t)) := cell_at htt rfl; have x2 : w6.cell? ⟨w.heap.size + 1, 2, none⟩ = some (.int .u64 ((hd l).n : Nat)) := cell_at htt rfl; clear htt; have hzz := (HP6.out.own _ (List.mem_cons_of_mem _ List.mem_cons_self)).1; obtain ⟨r0, f0, r1, f1, r2, f2, r3, f3⟩ := bf4 hzz; clear hzz)
            | (go_at_call 68; refine (wordF_any kTRUE _ rfl _).mono ?_; rintro e w5 ⟨g5, lb5, rfl, hc5, hb5⟩; have HP5 := Lib.hid (HP4.out.next hb5); have HC5 := Lib.hid hc5; clear hc5 hb5)
            | (go_at_call 71; refine (HS1.out _ _ HP3.out.pat HC3.out).mono ?_; rintro e w4 ⟨rfl, hb4⟩; have HP4 := Lib.hid (HP3.out.next hb4); clear hb4)
            | (go_at_call 29; refine (kindF_any 4 _).mono ?_; rintro e w3 ⟨g3, lb3, rfl, hc3, hb3⟩; have HP3 := Lib.hid (HP2.out.next hb3); have HC3 := Lib.hid hc3; clear hc3 hb3)
            | (go_at_call 71; refine (HS0.out _ _ HP1.out.pat HC1.out).mono ?_; rintro e w2 ⟨rfl, hb2⟩; have HP2 := Lib.hid (HP1.out.next hb2); clear hb2)
            | (go_at_call 29; refine (kindF_any 3 _).mono ?_; rintro e w1 ⟨g1, lb1, rfl, hc1, hb1⟩; have HP1 := Lib.hid (HP0.out.next hb1); have HC1 := Lib.hid hc1; clear hc1 hb1))
          have hF := HP6.out.put (Nat.le_refl _) (.int .i64 4) (.string ⟨#[]⟩) (.bool false) (.int .u64 1)
          exact endOpd rfl w.heap.size rfl rfl (put4 (HP6.out.own _ (List.mem_cons_of_mem _ List.mem_cons_self)).1 _ _ _ _) ⟨hF.2, rfl, hF.1⟩
      | false =>
        have HS2 := Lib.hid (fun (v : Value) wx (hp2 : PAt wx bp tb l) (hc : ClAt wx (.wd kTRUE) v) => skip_no bp tb l (.wd kTRUE) v wx hp2 hc (by omega) (by omega) (Short.hd hv.short) h2)
        cases h3 : (Cl.wd kFALSE).test (hd l) with
        | true =>
            obtain ⟨hv2, hl2⟩ := hv.tail (by simp [Cl.inner]) h3
            have hp2 := hv2.pos
            have hN : operandP l = .ok ⟨4, ⟨#[]⟩, false, 0⟩ l.tail := by unfold operandP; rw [if_neg (by simpa using h0)]; rw [if_neg (by simpa using h1)]; rw [if_neg (by simpa using h2)]; rw [if_pos h3]
            rw [hN]
            have HS3 := Lib.hid (fun (v : Value) wx (hp2 : PAt wx bp tb l) (hc : ClAt wx (.wd kFALSE) v) => skip_yes bp tb l (.wd kFALSE) v wx hp2 hc (by omega) (by omega) (Short.hd hv.short) h3)
            clear hN
            go_enter Tryz.func109, Tryz.ntmps109
            go_wp2_with (first
              | (go_at_call 71; refine (HS3.out _ _ HP7.out.pat HC7.out).mono ?_; rintro e w8 ⟨rfl, hp8, ho8⟩; have HP8 := Lib.hid (HP7.out.skip hp8 ho8); clear hp8 ho8; have htt := (HP8.out.own _ List.mem_cons_self).1; have x1 : w8.cell? ⟨w.heap.size + 1, 1, none⟩ = some (.string (bs (hd l).t)) := cell_at htt rfl; have x2 : w8.cell? ⟨w.heap.size + 1, 2, none⟩ = some (.int .u64 ((hd l).n : Nat)) := cell_at htt rfl; clear htt; have hzz := (HP8.out.own _ (List.mem_cons_of_mem _ List.mem_cons_self)).1; obtain ⟨r0, f0, r1, f1, r2, f2, r3, f3⟩ := bf4 hzz; clear hzz)
              | (go_at_call 68; refine (wordF_any kFALSE _ rfl _).mono ?_; rintro e w7 ⟨g7, lb7, rfl, hc7, hb7⟩; have HP7 := Lib.hid (HP6.out.next hb7); have HC7 := Lib.hid hc7; clear hc7 hb7)
              | (go_at_call 71; refine (HS2.out _ _ HP5.out.pat HC5.out).mono ?_; rintro e w6 ⟨rfl, hb6⟩; have HP6 := Lib.hid (HP5.out.next hb6); clear hb6)
              | (go_at_call 68; refine (wordF_any kTRUE _ rfl _).mono ?_; rintro e w5 ⟨g5, lb5, rfl, hc5, hb5⟩; have HP5 := Lib.hid (HP4.out.next hb5); have HC5 := Lib.hid hc5; clear hc5 hb5)
              | (go_at_call 71; refine (HS1.out _ _ HP3.out.pat HC3.out).mono ?_; rintro e w4 ⟨rfl, hb4⟩; have HP4 := Lib.hid (HP3.out.next hb4); clear hb4)
              | (go_at_call 29; refine (kindF_any 4 _).mono ?_; rintro e w3 ⟨g3, lb3, rfl, hc3, hb3⟩; have HP3 := Lib.hid (HP2.out.next hb3); have HC3 := Lib.hid hc3; clear hc3 hb3)
              | (go_at_call 71; refine (HS0.out _ _ HP1.out.pat HC1.out).mono ?_; rintro e w2 ⟨rfl, hb2⟩; have HP2 := Lib.hid (HP1.out.next hb2); clear hb2)
              | (go_at_call 29; refine (kindF_any 3 _).mono ?_; rintro e w1 ⟨g1, lb1, rfl, hc1, hb1⟩; have HP1 := Lib.hid (HP0.out.next hb1); have HC1 := Lib.hid hc1; clear hc1 hb1))
            have hF := HP8.out.put (Nat.le_refl _) (.int .i64 4) (.string ⟨#[]⟩) (.bool false) (.int .u64 0)
            exact endOpd rfl w.heap.size rfl rfl (put4 (HP8.out.own _ (List.mem_cons_of_mem _ List.mem_cons_self)).1 _ _ _ _) ⟨hF.2, rfl, hF.1⟩
        | false =>
          have HS3 := Lib.hid (fun (v : Value) wx (hp2 : PAt wx bp tb l) (hc : ClAt wx (.wd kFALSE) v) => skip_no bp tb l (.wd kFALSE) v wx hp2 hc (by omega) (by omega) (Short.hd hv.short) h3)
          cases h4 : cMinus.test (hd l) with
          | true =>
              have HS4 := Lib.hid (show ∀ (v : Value) wx, PAt wx bp tb l → ClAt wx cMinus v → Calls Tryz.prog 28 #[.pointer (some ⟨bp, 0, none⟩), v] wx fun e w' => e = .returned (.bool true) ∧ Below wx.heap.size wx w' from fun v wx hp2 hc => by have := at_any bp tb l cMinus v wx hp2 hc (by omega) (by omega) (Short.hd hv.short); rwa [h4] at this)
              have hN : operandP l = numberP l := by unfold operandP; rw [if_neg (by simpa using h0)]; rw [if_neg (by simpa using h1)]; rw [if_neg (by simpa using h2)]; rw [if_neg (by simpa using h3)]; rw [if_pos (by rw [h4]; rfl)]
              rw [hN]
              have HNX := Lib.hid (fun wx (hp2 : PAt wx bp tb l) => number_any bp tb l wx hp2 hv h99)
              clear hN
              go_enter Tryz.func109, Tryz.ntmps109
              go_wp2_with (first
                | (go_at_call 134; refine (HNX.out _ HP10.out.pat).mono ?_; rintro x wn hx; obtain ⟨o, en, ln, rfl, hpn, hon, han⟩ := hx.gen; have HPn := Lib.hid (HP10.out.skip hpn hon); have HAN := Lib.hid han; have hzz := (HPn.out.own _ (List.mem_cons_of_mem _ List.mem_cons_self)).1; obtain ⟨r0, f0, r1, f1, r2, f2, r3, f3⟩ := bf4 hzz; clear hzz; clear hpn hon han hx)
                | (go_at_call 28; refine (HS4.out _ _ HP9.out.pat HC9.out).mono ?_; rintro e w10 ⟨rfl, hb10⟩; have HP10 := Lib.hid (HP9.out.next hb10); clear hb10)
                | (go_at_call 69; refine (signF_any [45] _ rfl _).mono ?_; rintro e w9 ⟨g9, lb9, rfl, hc9, hb9⟩; have HP9 := Lib.hid (HP8.out.next hb9); have HC9 := Lib.hid hc9; clear hc9 hb9)
                | (go_at_call 71; refine (HS3.out _ _ HP7.out.pat HC7.out).mono ?_; rintro e w8 ⟨rfl, hb8⟩; have HP8 := Lib.hid (HP7.out.next hb8); clear hb8)
                | (go_at_call 68; refine (wordF_any kFALSE _ rfl _).mono ?_; rintro e w7 ⟨g7, lb7, rfl, hc7, hb7⟩; have HP7 := Lib.hid (HP6.out.next hb7); have HC7 := Lib.hid hc7; clear hc7 hb7)
                | (go_at_call 71; refine (HS2.out _ _ HP5.out.pat HC5.out).mono ?_; rintro e w6 ⟨rfl, hb6⟩; have HP6 := Lib.hid (HP5.out.next hb6); clear hb6)
                | (go_at_call 68; refine (wordF_any kTRUE _ rfl _).mono ?_; rintro e w5 ⟨g5, lb5, rfl, hc5, hb5⟩; have HP5 := Lib.hid (HP4.out.next hb5); have HC5 := Lib.hid hc5; clear hc5 hb5)
                | (go_at_call 71; refine (HS1.out _ _ HP3.out.pat HC3.out).mono ?_; rintro e w4 ⟨rfl, hb4⟩; have HP4 := Lib.hid (HP3.out.next hb4); clear hb4)
                | (go_at_call 29; refine (kindF_any 4 _).mono ?_; rintro e w3 ⟨g3, lb3, rfl, hc3, hb3⟩; have HP3 := Lib.hid (HP2.out.next hb3); have HC3 := Lib.hid hc3; clear hc3 hb3)
                | (go_at_call 71; refine (HS0.out _ _ HP1.out.pat HC1.out).mono ?_; rintro e w2 ⟨rfl, hb2⟩; have HP2 := Lib.hid (HP1.out.next hb2); clear hb2)
                | (go_at_call 29; refine (kindF_any 3 _).mono ?_; rintro e w1 ⟨g1, lb1, rfl, hc1, hb1⟩; have HP1 := Lib.hid (HP0.out.next hb1); have HC1 := Lib.hid hc1; clear hc1 hb1))
              have hF := HPn.out.put (Nat.le_refl _) (.int .i64 o.kind) (.string o.text) (.bool o.neg) (.int .u64 o.num)
              exact endOpd rfl w.heap.size rfl rfl (put4 (HPn.out.own _ (List.mem_cons_of_mem _ List.mem_cons_self)).1 _ _ _ _) (OpTo.of hF.1 hF.2 HAN.out)
          | false =>
            have HS4 := Lib.hid (show ∀ (v : Value) wx, PAt wx bp tb l → ClAt wx cMinus v → Calls Tryz.prog 28 #[.pointer (some ⟨bp, 0, none⟩), v] wx fun e w' => e = .returned (.bool false) ∧ Below wx.heap.size wx w' from fun v wx hp2 hc => by have := at_any bp tb l cMinus v wx hp2 hc (by omega) (by omega) (Short.hd hv.short); rwa [h4] at this)
            cases h5 : (Cl.kd 2).test (hd l) with
            | true =>
                have HS5 := Lib.hid (show ∀ (v : Value) wx, PAt wx bp tb l → ClAt wx (.kd 2) v → Calls Tryz.prog 28 #[.pointer (some ⟨bp, 0, none⟩), v] wx fun e w' => e = .returned (.bool true) ∧ Below wx.heap.size wx w' from fun v wx hp2 hc => by have := at_any bp tb l (.kd 2) v wx hp2 hc (by omega) (by omega) (Short.hd hv.short); rwa [h5] at this)
                have hN : operandP l = numberP l := by unfold operandP; rw [if_neg (by simpa using h0)]; rw [if_neg (by simpa using h1)]; rw [if_neg (by simpa using h2)]; rw [if_neg (by simpa using h3)]; rw [if_pos (by rw [h5]; simp)]
                rw [hN]
                have HNX := Lib.hid (fun wx (hp2 : PAt wx bp tb l) => number_any bp tb l wx hp2 hv h99)
                clear hN
                go_enter Tryz.func109, Tryz.ntmps109
                go_wp2_with (first
                  | (go_at_call 134; refine (HNX.out _ HP12.out.pat).mono ?_; rintro x wn hx; obtain ⟨o, en, ln, rfl, hpn, hon, han⟩ := hx.gen; have HPn := Lib.hid (HP12.out.skip hpn hon); have HAN := Lib.hid han; have hzz := (HPn.out.own _ (List.mem_cons_of_mem _ List.mem_cons_self)).1; obtain ⟨r0, f0, r1, f1, r2, f2, r3, f3⟩ := bf4 hzz; clear hzz; clear hpn hon han hx)
                  | (go_at_call 28; refine (HS5.out _ _ HP11.out.pat HC11.out).mono ?_; rintro e w12 ⟨rfl, hb12⟩; have HP12 := Lib.hid (HP11.out.next hb12); clear hb12)
                  | (go_at_call 29; refine (kindF_any 2 _).mono ?_; rintro e w11 ⟨g11, lb11, rfl, hc11, hb11⟩; have HP11 := Lib.hid (HP10.out.next hb11); have HC11 := Lib.hid hc11; clear hc11 hb11)
                  | (go_at_call 28; refine (HS4.out _ _ HP9.out.pat HC9.out).mono ?_; rintro e w10 ⟨rfl, hb10⟩; have HP10 := Lib.hid (HP9.out.next hb10); clear hb10)
                  | (go_at_call 69; refine (signF_any [45] _ rfl _).mono ?_; rintro e w9 ⟨g9, lb9, rfl, hc9, hb9⟩; have HP9 := Lib.hid (HP8.out.next hb9); have HC9 := Lib.hid hc9; clear hc9 hb9)
                  | (go_at_call 71; refine (HS3.out _ _ HP7.out.pat HC7.out).mono ?_; rintro e w8 ⟨rfl, hb8⟩; have HP8 := Lib.hid (HP7.out.next hb8); clear hb8)
                  | (go_at_call 68; refine (wordF_any kFALSE _ rfl _).mono ?_; rintro e w7 ⟨g7, lb7, rfl, hc7, hb7⟩; have HP7 := Lib.hid (HP6.out.next hb7); have HC7 := Lib.hid hc7; clear hc7 hb7)
                  | (go_at_call 71; refine (HS2.out _ _ HP5.out.pat HC5.out).mono ?_; rintro e w6 ⟨rfl, hb6⟩; have HP6 := Lib.hid (HP5.out.next hb6); clear hb6)
                  | (go_at_call 68; refine (wordF_any kTRUE _ rfl _).mono ?_; rintro e w5 ⟨g5, lb5, rfl, hc5, hb5⟩; have HP5 := Lib.hid (HP4.out.next hb5); have HC5 := Lib.hid hc5; clear hc5 hb5)
                  | (go_at_call 71; refine (HS1.out _ _ HP3.out.pat HC3.out).mono ?_; rintro e w4 ⟨rfl, hb4⟩; have HP4 := Lib.hid (HP3.out.next hb4); clear hb4)
                  | (go_at_call 29; refine (kindF_any 4 _).mono ?_; rintro e w3 ⟨g3, lb3, rfl, hc3, hb3⟩; have HP3 := Lib.hid (HP2.out.next hb3); have HC3 := Lib.hid hc3; clear hc3 hb3)
                  | (go_at_call 71; refine (HS0.out _ _ HP1.out.pat HC1.out).mono ?_; rintro e w2 ⟨rfl, hb2⟩; have HP2 := Lib.hid (HP1.out.next hb2); clear hb2)
                  | (go_at_call 29; refine (kindF_any 3 _).mono ?_; rintro e w1 ⟨g1, lb1, rfl, hc1, hb1⟩; have HP1 := Lib.hid (HP0.out.next hb1); have HC1 := Lib.hid hc1; clear hc1 hb1))
                have hF := HPn.out.put (Nat.le_refl _) (.int .i64 o.kind) (.string o.text) (.bool o.neg) (.int .u64 o.num)
                exact endOpd rfl w.heap.size rfl rfl (put4 (HPn.out.own _ (List.mem_cons_of_mem _ List.mem_cons_self)).1 _ _ _ _) (OpTo.of hF.1 hF.2 HAN.out)
            | false =>
                  have HS5 := Lib.hid (show ∀ (v : Value) wx, PAt wx bp tb l → ClAt wx (.kd 2) v → Calls Tryz.prog 28 #[.pointer (some ⟨bp, 0, none⟩), v] wx fun e w' => e = .returned (.bool false) ∧ Below wx.heap.size wx w' from fun v wx hp2 hc => by have := at_any bp tb l (.kd 2) v wx hp2 hc (by omega) (by omega) (Short.hd hv.short); rwa [h5] at this)
                  have hN : operandP l = pathP l := by unfold operandP; rw [if_neg (by simpa using h0)]; rw [if_neg (by simpa using h1)]; rw [if_neg (by simpa using h2)]; rw [if_neg (by simpa using h3)]; rw [if_neg (by rw [h4, h5]; simp)]
                  rw [hN]
                  have HNX := Lib.hid (fun wx (hp2 : PAt wx bp tb l) => path_any bp tb l wx hp2 hv h99)
                  clear hN
                  go_enter Tryz.func109, Tryz.ntmps109
                  go_wp2_with (first
                    | (go_at_call 135; refine (HNX.out _ HP12.out.pat).mono ?_; rintro x wn hx; obtain ⟨o, en, ln, rfl, hpn, hon, han⟩ := hx.gen; have HPn := Lib.hid (HP12.out.skip hpn hon); have HAN := Lib.hid han; have hzz := (HPn.out.own _ (List.mem_cons_of_mem _ List.mem_cons_self)).1; obtain ⟨r0, f0, r1, f1, r2, f2, r3, f3⟩ := bf4 hzz; clear hzz; clear hpn hon han hx)
                    | (go_at_call 28; refine (HS5.out _ _ HP11.out.pat HC11.out).mono ?_; rintro e w12 ⟨rfl, hb12⟩; have HP12 := Lib.hid (HP11.out.next hb12); clear hb12)
                    | (go_at_call 29; refine (kindF_any 2 _).mono ?_; rintro e w11 ⟨g11, lb11, rfl, hc11, hb11⟩; have HP11 := Lib.hid (HP10.out.next hb11); have HC11 := Lib.hid hc11; clear hc11 hb11)
                    | (go_at_call 28; refine (HS4.out _ _ HP9.out.pat HC9.out).mono ?_; rintro e w10 ⟨rfl, hb10⟩; have HP10 := Lib.hid (HP9.out.next hb10); clear hb10)
                    | (go_at_call 69; refine (signF_any [45] _ rfl _).mono ?_; rintro e w9 ⟨g9, lb9, rfl, hc9, hb9⟩; have HP9 := Lib.hid (HP8.out.next hb9); have HC9 := Lib.hid hc9; clear hc9 hb9)
                    | (go_at_call 71; refine (HS3.out _ _ HP7.out.pat HC7.out).mono ?_; rintro e w8 ⟨rfl, hb8⟩; have HP8 := Lib.hid (HP7.out.next hb8); clear hb8)
                    | (go_at_call 68; refine (wordF_any kFALSE _ rfl _).mono ?_; rintro e w7 ⟨g7, lb7, rfl, hc7, hb7⟩; have HP7 := Lib.hid (HP6.out.next hb7); have HC7 := Lib.hid hc7; clear hc7 hb7)
                    | (go_at_call 71; refine (HS2.out _ _ HP5.out.pat HC5.out).mono ?_; rintro e w6 ⟨rfl, hb6⟩; have HP6 := Lib.hid (HP5.out.next hb6); clear hb6)
                    | (go_at_call 68; refine (wordF_any kTRUE _ rfl _).mono ?_; rintro e w5 ⟨g5, lb5, rfl, hc5, hb5⟩; have HP5 := Lib.hid (HP4.out.next hb5); have HC5 := Lib.hid hc5; clear hc5 hb5)
                    | (go_at_call 71; refine (HS1.out _ _ HP3.out.pat HC3.out).mono ?_; rintro e w4 ⟨rfl, hb4⟩; have HP4 := Lib.hid (HP3.out.next hb4); clear hb4)
                    | (go_at_call 29; refine (kindF_any 4 _).mono ?_; rintro e w3 ⟨g3, lb3, rfl, hc3, hb3⟩; have HP3 := Lib.hid (HP2.out.next hb3); have HC3 := Lib.hid hc3; clear hc3 hb3)
                    | (go_at_call 71; refine (HS0.out _ _ HP1.out.pat HC1.out).mono ?_; rintro e w2 ⟨rfl, hb2⟩; have HP2 := Lib.hid (HP1.out.next hb2); clear hb2)
                    | (go_at_call 29; refine (kindF_any 3 _).mono ?_; rintro e w1 ⟨g1, lb1, rfl, hc1, hb1⟩; have HP1 := Lib.hid (HP0.out.next hb1); have HC1 := Lib.hid hc1; clear hc1 hb1))
                  have hF := HPn.out.put (Nat.le_refl _) (.int .i64 o.kind) (.string o.text) (.bool o.neg) (.int .u64 o.num)
                  exact endOpd rfl w.heap.size rfl rfl (put4 (HPn.out.own _ (List.mem_cons_of_mem _ List.mem_cons_self)).1 _ _ _ _) (OpTo.of hF.1 hF.2 HAN.out)
            
end Go.Proofs.YtjgdkiikkgdbaaaGreatDoor
