/- test: a test. -/
import Derived.Test.YtbejpgoedenpmaaGreatDoorExprTest
namespace Go.Proofs.YtbejpgoedenpmaaGreatDoor
open Go.RowKit
set_option linter.unusedVariables false
theorem PSt.sub {w wr : World} {bp tb : Nat} {zs zs2 : List (Nat × Obj)} {l : List Tk} (h : PSt w bp tb zs l wr) (hs : ∀ p ∈ zs2, p ∈ zs) : PSt w bp tb zs2 l wr := ⟨h.pat, h.only, fun p hp => h.own p (hs p hp), h.lt⟩
theorem fur_one (w : World) (bp tb ab : Nat) (o : Opd) (l : List Tk) (op rel : Int) (c : Cl) (hc : c.inner) (v : Value) (wk : World) (hp : PSt w bp tb [(ab, (.cells #[.int .i64 o.kind, .string o.text, .bool o.neg, .int .u64 o.num] 58)), (w.heap.size, (.cells #[.int .i64 0, .int .i64 0, .slice none 0 0, .slice none 0 0] 25))] l wk) (hab : w.heap.size < ab) (hcl : ClAt wk c v) (hv : Vd l) (h99 : l.length ≤ 99) :
    Calls Tryz.prog 66 #[.pointer (some ⟨bp, 0, none⟩), .agg #[.int .i64 op, .int .i64 rel, .slice (some ⟨ab, 0, none⟩) 1 1, .slice none 0 0], .slice (some ⟨wk.heap.size, 0, none⟩) 1 1] (wk.alloc (.cells #[v] 47)) (FurP w bp tb ab [(w.heap.size, (.cells #[.int .i64 0, .int .i64 0, .slice none 0 0, .slice none 0 0] 25))] wk.heap.size (furX op rel [c] l [o])) := by
  have hb1 : Below wk.heap.size wk (wk.alloc (.cells #[v] 47)) := (Below.refl _ _).alloc (Nat.le_refl _) _
  have hk2 := hp.next hb1
  refine (further_any op rel [c] (by intro d hd; simp at hd; rw [hd]; exact hc) [v] bp tb ab wk.heap.size 1 l [o] _ hk2.pat (rowOne hcl) (own_one (hk2.own _ List.mem_cons_self).1) (by have := hp.lt; omega) hv h99 (by show 1 + 1 ≤ 10; omega)).mono ?_
  intro x w' hx
  obtain ⟨T, e, l', h3, h4, h5, h6⟩ := furP_of (zs := [(w.heap.size, (.cells #[.int .i64 0, .int .i64 0, .slice none 0 0, .slice none 0 0] 25))]) hp (Nat.le_of_lt hab) (fun p hp => by
    simp at hp; subst hp
    exact ⟨List.mem_cons_of_mem _ List.mem_cons_self, by show w.heap.size ≠ ab; omega⟩) hb1 hx
  exact ⟨T, e, l', h3, h4, h5.sub (fun b hb _ => hb.imp id (fun h => by have := hb1.size; omega)), h6⟩
theorem furX_err (op rel : Int) (cs : List Cl) (h1 : ∀ c ∈ cs, c.inner) (h0 : cs ≠ []) (l : List Tk) (a : List Opd) (hv : Vd l) (h99 : l.length ≤ 99) : ∀ e l', furX op rel cs l a = .err e l' → e ≠ 0 := by
  intro e l' h
  have := furX_less op rel cs h1 h0 l a hv h99
  rw [h] at this
  exact this.2.2
set_option maxRecDepth 100000 in
set_option maxHeartbeats 8000000 in
theorem test_any (bp tb : Nat) (l : List Tk) (w : World) (hp : PAt w bp tb l) (hv : Vd l) (h99 : l.length ≤ 99) :
    Calls Tryz.prog 38 #[.pointer (some ⟨bp, 0, none⟩)] w (XTo w bp tb (testP l)) := by
  have HP0 := Lib.hid (show PSt w bp tb [(w.heap.size, (.cells #[.int .i64 0, .int .i64 0, .slice none 0 0, .slice none 0 0] 25))] l (w.alloc (.cells #[.int .i64 0, .int .i64 0, .slice none 0 0, .slice none 0 0] 25)) from (PSt.start hp).new _)
  have hless := operandP_less l hv h99
  have HOP := Lib.hid (operand_any bp tb l (w.alloc (.cells #[.int .i64 0, .int .i64 0, .slice none 0 0, .slice none 0 0] 25)) HP0.out.pat hv h99)
  have hT : testP l = match operandP l with | .err e l' => .err e l' | .ok o l' => testO o l' := rfl
  rw [hT]
  clear hT hp
  cases hop : operandP l with
  | err e1 l1 =>
    rw [hop] at HOP hless
    unfold OpTo at HOP
    have q2 : (((e1 : Nat) : Int) != 0) = true := by have := hless.2.2; simp; omega
    clear hop hless
    go_enter Tryz.func38, Tryz.ntmps38
    go_wp2_with (go_at_call 64; refine (HOP.out).mono ?_; rintro x w1 ⟨ho1, rfl, hpt1⟩; have HP1 := Lib.hid (HP0.out.skip hpt1 ho1); have hw1 := lt_of_block (HP1.out.own _ List.mem_cons_self).1; have hw1n : ¬ w.heap.size = w1.heap.size := (by omega); have hzz := (HP1.out.own _ List.mem_cons_self).1; have r0 : w1.cell? ⟨w.heap.size, 0, none⟩ = some (.int .i64 0) := cell_at hzz rfl; have f0 := free_at (j := 0) hzz; have r1 : w1.cell? ⟨w.heap.size, 1, none⟩ = some (.int .i64 0) := cell_at hzz rfl; have f1 := free_at (j := 1) hzz; have r2 : w1.cell? ⟨w.heap.size, 2, none⟩ = some (.slice none 0 0) := cell_at hzz rfl; have f2 := free_at (j := 2) hzz; have r3 : w1.cell? ⟨w.heap.size, 3, none⟩ = some (.slice none 0 0) := cell_at hzz rfl; have f3 := free_at (j := 3) hzz; clear hzz; clear ho1 hpt1)
    have hF := HP1.out.put (Nat.le_refl _) (.int .i64 0) (.int .i64 0) (.slice none 0 0) (.slice none 0 0)
    exact endTest rfl w.heap.size rfl rfl (alloc_old (put4 (HP1.out.own _ List.mem_cons_self).1 _ _ _ _)) ⟨hF.2.alloc _, .nil, e1, l1, rfl, hF.1.next ((Below.refl _ _).alloc (Nat.le_refl _) _), trivial, .inr ⟨rfl, rfl⟩⟩
  | ok o l1 =>
    rw [hop] at HOP hless
    unfold OpTo at HOP
    show Calls _ _ _ w (XTo w bp tb (testO o l1))
    have hv1 := hless.1
    have h199 : l1.length ≤ 99 := by have := hless.2; omega
    have hp1 := hv1.pos
    have HNEW := Lib.hid (show ∀ w1, PSt w bp tb [(w.heap.size, (.cells #[.int .i64 0, .int .i64 0, .slice none 0 0, .slice none 0 0] 25))] l1 w1 → PSt w bp tb [(w1.heap.size + 1, (.cells #[.int .i64 o.kind, .string o.text, .bool o.neg, .int .u64 o.num] 58)), (w.heap.size, (.cells #[.int .i64 0, .int .i64 0, .slice none 0 0, .slice none 0 0] 25))] l1 ((w1.alloc (.cells #[.int .i64 o.kind, .string o.text, .bool o.neg, .int .u64 o.num] 58)).alloc (.cells #[.int .i64 o.kind, .string o.text, .bool o.neg, .int .u64 o.num] 58)) from fun w1 h => by
      have h2 := (h.new (.cells #[.int .i64 o.kind, .string o.text, .bool o.neg, .int .u64 o.num] 58)).new (.cells #[.int .i64 o.kind, .string o.text, .bool o.neg, .int .u64 o.num] 58)
      have e : (w1.alloc (.cells #[.int .i64 o.kind, .string o.text, .bool o.neg, .int .u64 o.num] 58)).heap.size = w1.heap.size + 1 := by simp
      rw [e] at h2
      exact h2.sub (fun p hp => by
        rcases List.mem_cons.1 hp with rfl | hp
        · exact List.mem_cons_self
        · exact List.mem_cons_of_mem _ (List.mem_cons_of_mem _ hp)))
    clear hop hless
    cases h1 : (Cl.wd kNOT).test (hd l1) with
    | true =>
      obtain ⟨hv2, hl2⟩ := hv1.tail (by trivial) h1
      have hp2 := hv2.pos
      have hN : testO o l1 = negR (furX 2 0 betw l1.tail [o]) := by unfold testO; rw [if_pos h1]
      rw [hN]
      have HS1 := Lib.hid (fun (v : Value) wx (hp2 : PAt wx bp tb l1) (hc : ClAt wx (.wd kNOT) v) => skip_yes bp tb l1 (.wd kNOT) v wx hp2 hc (by omega) h199 (Short.hd hv1.short) h1)
      have HNG := Lib.hid (fun (wx : World) (S : Nat → Prop) (T : XT) (e : Nat) (l' : List Tk) (hT : XAt wx S T) (ha : AnsX (furX 2 0 betw l1.tail [o]) T e l') => negated_any wx S _ (furX_err 2 0 betw betw_inner (by simp [betw]) l1.tail [o] hv2 (by omega)) T e l' hT ha)
      have HBT := Lib.hid (fun (ab : Nat) wx (hpx : PSt w bp tb [(ab, (.cells #[.int .i64 o.kind, .string o.text, .bool o.neg, .int .u64 o.num] 58)), (w.heap.size, (.cells #[.int .i64 0, .int .i64 0, .slice none 0 0, .slice none 0 0] 25))] l1.tail wx) (hab : w.heap.size < ab) => between_any w bp tb ab [(w.heap.size, (.cells #[.int .i64 0, .int .i64 0, .slice none 0 0, .slice none 0 0] 25))] l1.tail o wx hpx (fun p hp => by simp at hp; subst hp; show w.heap.size ≠ ab; omega) hv2 (by omega))
      clear hN
      go_enter Tryz.func38, Tryz.ntmps38
      go_wp2_with (first
        | (go_at_call 40; refine (HNG.out _ _ T e4 l4 HXL.out HAL.out).mono ?_; rintro x w5 ⟨hb5, T5, rfl, hx5, ha5⟩; have HPM := Lib.hid (HPL.out.next hb5); have HXM := Lib.hid hx5; have HAM := Lib.hid ha5; have hzz := (HPM.out.own _ List.mem_cons_self).1; have r0 : w5.cell? ⟨w.heap.size, 0, none⟩ = some (.int .i64 0) := cell_at hzz rfl; have f0 := free_at (j := 0) hzz; have r1 : w5.cell? ⟨w.heap.size, 1, none⟩ = some (.int .i64 0) := cell_at hzz rfl; have f1 := free_at (j := 1) hzz; have r2 : w5.cell? ⟨w.heap.size, 2, none⟩ = some (.slice none 0 0) := cell_at hzz rfl; have f2 := free_at (j := 2) hzz; have r3 : w5.cell? ⟨w.heap.size, 3, none⟩ = some (.slice none 0 0) := cell_at hzz rfl; have f3 := free_at (j := 3) hzz; clear hzz; have hsz5 := lt_of_block (HPL.out.own _ List.mem_cons_self).1; clear hb5 hx5 ha5)
        | (go_at_call 65; refine (HBT.out _ _ HP3.out (by omega)).mono ?_; rintro x w4 ⟨T, e4, l4, rfl, hp4, hx4, ha4⟩; have HPL := Lib.hid hp4; have HXL := Lib.hid hx4; have HAL := Lib.hid ha4; have hsz4 := lt_of_block (HP3.out.own _ (List.mem_cons_of_mem _ List.mem_cons_self)).1; have hzz := (hp4.own _ List.mem_cons_self).1; have r0 : w4.cell? ⟨w.heap.size, 0, none⟩ = some (.int .i64 0) := cell_at hzz rfl; have f0 := free_at (j := 0) hzz; have r1 : w4.cell? ⟨w.heap.size, 1, none⟩ = some (.int .i64 0) := cell_at hzz rfl; have f1 := free_at (j := 1) hzz; have r2 : w4.cell? ⟨w.heap.size, 2, none⟩ = some (.slice none 0 0) := cell_at hzz rfl; have f2 := free_at (j := 2) hzz; have r3 : w4.cell? ⟨w.heap.size, 3, none⟩ = some (.slice none 0 0) := cell_at hzz rfl; have f3 := free_at (j := 3) hzz; clear hzz; clear hp4 hx4 ha4)
        | (go_at_call 39; refine (HS1.out _ _ HP2.out.pat HC2.out).mono ?_; rintro e w3 ⟨rfl, hp3, ho3⟩; have HP3 := Lib.hid (HP2.out.skip hp3 ho3); clear hp3 ho3)
        | (go_at_call 36; refine (wordF_any kNOT _ rfl _).mono ?_; rintro e w2 ⟨g2, lb2, rfl, hc2, hb2⟩; have HP2 := Lib.hid (HP1.out.next hb2); have HC2 := Lib.hid hc2; clear hc2 hb2)
        | (go_at_call 64; refine (HOP.out).mono ?_; rintro x w1 ⟨ho1, rfl, hpt1⟩; have HPo := Lib.hid (HP0.out.skip hpt1 ho1); have hw1 := lt_of_block (HPo.out.own _ List.mem_cons_self).1; have HP1 := Lib.hid (HNEW.out w1 HPo.out); clear ho1 hpt1))
      exact endTest rfl w.heap.size rfl rfl (put4 (HPM.out.own _ List.mem_cons_self).1 _ _ _ _) (fin_x HPM.out HXM.out (fun b hb hl => by rcases hb with (hb | hb) | hb <;> omega) HAM.out)
    | false =>
      have HS1 := Lib.hid (fun (v : Value) wx (hp2 : PAt wx bp tb l1) (hc : ClAt wx (.wd kNOT) v) => skip_no bp tb l1 (.wd kNOT) v wx hp2 hc (by omega) h199 (Short.hd hv1.short) h1)
      cases h2 : (Cl.wd kBETWEEN).test (hd l1) with
      | true =>
        have hN : testO o l1 = furX 2 0 betw l1 [o] := by unfold testO; rw [if_neg (by simpa using h1), if_pos h2]
        rw [hN]
        have HS2 := Lib.hid (show ∀ (v : Value) wx, PAt wx bp tb l1 → ClAt wx (.wd kBETWEEN) v → Calls Tryz.prog 18 #[.pointer (some ⟨bp, 0, none⟩), v] wx fun e w' => e = .returned (.bool true) ∧ Below wx.heap.size wx w' from fun v wx hp2 hc => by have := at_any bp tb l1 (.wd kBETWEEN) v wx hp2 hc hp1 h199 (Short.hd hv1.short); rwa [h2] at this)
        have HBT := Lib.hid (fun (ab : Nat) wx (hpx : PSt w bp tb [(ab, (.cells #[.int .i64 o.kind, .string o.text, .bool o.neg, .int .u64 o.num] 58)), (w.heap.size, (.cells #[.int .i64 0, .int .i64 0, .slice none 0 0, .slice none 0 0] 25))] l1 wx) (hab : w.heap.size < ab) => between_any w bp tb ab [(w.heap.size, (.cells #[.int .i64 0, .int .i64 0, .slice none 0 0, .slice none 0 0] 25))] l1 o wx hpx (fun p hp => by simp at hp; subst hp; show w.heap.size ≠ ab; omega) hv1 h199)
        clear hN
        go_enter Tryz.func38, Tryz.ntmps38
        go_wp2_with (first
          | (go_at_call 65; refine (HBT.out _ _ HP5.out (by omega)).mono ?_; rintro x w6 ⟨T, e6, l6, rfl, hp6, hx6, ha6⟩; have HPL := Lib.hid hp6; have HXL := Lib.hid hx6; have HAL := Lib.hid ha6; have hsz6 := lt_of_block (HP5.out.own _ (List.mem_cons_of_mem _ List.mem_cons_self)).1; have hzz := (hp6.own _ List.mem_cons_self).1; have r0 : w6.cell? ⟨w.heap.size, 0, none⟩ = some (.int .i64 0) := cell_at hzz rfl; have f0 := free_at (j := 0) hzz; have r1 : w6.cell? ⟨w.heap.size, 1, none⟩ = some (.int .i64 0) := cell_at hzz rfl; have f1 := free_at (j := 1) hzz; have r2 : w6.cell? ⟨w.heap.size, 2, none⟩ = some (.slice none 0 0) := cell_at hzz rfl; have f2 := free_at (j := 2) hzz; have r3 : w6.cell? ⟨w.heap.size, 3, none⟩ = some (.slice none 0 0) := cell_at hzz rfl; have f3 := free_at (j := 3) hzz; clear hzz; clear hp6 hx6 ha6)
          | (go_at_call 18; refine (HS2.out _ _ HP4.out.pat HC4.out).mono ?_; rintro e w5 ⟨rfl, hb5⟩; have HP5 := Lib.hid (HP4.out.next hb5); clear hb5)
          | (go_at_call 36; refine (wordF_any kBETWEEN _ rfl _).mono ?_; rintro e w4 ⟨g4, lb4, rfl, hc4, hb4⟩; have HP4 := Lib.hid (HP3.out.next hb4); have HC4 := Lib.hid hc4; clear hc4 hb4)
          | (go_at_call 39; refine (HS1.out _ _ HP2.out.pat HC2.out).mono ?_; rintro e w3 ⟨rfl, hb3⟩; have HP3 := Lib.hid (HP2.out.next hb3); clear hb3)
          | (go_at_call 36; refine (wordF_any kNOT _ rfl _).mono ?_; rintro e w2 ⟨g2, lb2, rfl, hc2, hb2⟩; have HP2 := Lib.hid (HP1.out.next hb2); have HC2 := Lib.hid hc2; clear hc2 hb2)
          | (go_at_call 64; refine (HOP.out).mono ?_; rintro x w1 ⟨ho1, rfl, hpt1⟩; have HPo := Lib.hid (HP0.out.skip hpt1 ho1); have hw1 := lt_of_block (HPo.out.own _ List.mem_cons_self).1; have HP1 := Lib.hid (HNEW.out w1 HPo.out); clear ho1 hpt1))
        exact endTest rfl w.heap.size rfl rfl (put4 (HPL.out.own _ List.mem_cons_self).1 _ _ _ _) (fin_x HPL.out HXL.out (fun b hb hl => by rcases hb with hb | hb <;> omega) HAL.out)
      | false =>
        have HS2 := Lib.hid (show ∀ (v : Value) wx, PAt wx bp tb l1 → ClAt wx (.wd kBETWEEN) v → Calls Tryz.prog 18 #[.pointer (some ⟨bp, 0, none⟩), v] wx fun e w' => e = .returned (.bool false) ∧ Below wx.heap.size wx w' from fun v wx hp2 hc => by have := at_any bp tb l1 (.wd kBETWEEN) v wx hp2 hc hp1 h199 (Short.hd hv1.short); rwa [h2] at this)
        have HFU := Lib.hid (fun (op rel : Int) (c : Cl) (hc : c.inner) (v : Value) (ab : Nat) wk (hpx : PSt w bp tb [(ab, (.cells #[.int .i64 o.kind, .string o.text, .bool o.neg, .int .u64 o.num] 58)), (w.heap.size, (.cells #[.int .i64 0, .int .i64 0, .slice none 0 0, .slice none 0 0] 25))] l1 wk) (hab : w.heap.size < ab) (hcl : ClAt wk c v) => fur_one w bp tb ab o l1 op rel c hc v wk hpx hab hcl hv1 h199)
        cases h3 : (Cl.wd kLIKE).test (hd l1) with
        | true =>
          have hN : testO o l1 = furX 3 0 [.wd kLIKE] l1 [o] := by unfold testO; rw [if_neg (by simpa using h1), if_neg (by simpa using h2), if_pos h3]
          rw [hN]
          have HS3 := Lib.hid (show ∀ (v : Value) wx, PAt wx bp tb l1 → ClAt wx (.wd kLIKE) v → Calls Tryz.prog 18 #[.pointer (some ⟨bp, 0, none⟩), v] wx fun e w' => e = .returned (.bool true) ∧ Below wx.heap.size wx w' from fun v wx hp2 hc => by have := at_any bp tb l1 (.wd kLIKE) v wx hp2 hc hp1 h199 (Short.hd hv1.short); rwa [h3] at this)
          clear hN
          go_enter Tryz.func38, Tryz.ntmps38
          go_wp2_with (first
            | (go_at_call 66; refine (HFU.out 3 0 (.wd kLIKE) trivial _ (w1.heap.size + 1) _ HP8.out (by omega) HC8.out).mono ?_; rintro x w9 ⟨T, e9, l9, rfl, hp9, hx9, ha9⟩; have HPL := Lib.hid hp9; have HXL := Lib.hid hx9; have HAL := Lib.hid ha9; have hsz9 := lt_of_block (HP8.out.own _ (List.mem_cons_of_mem _ List.mem_cons_self)).1; have hzz := (hp9.own _ List.mem_cons_self).1; have r0 : w9.cell? ⟨w.heap.size, 0, none⟩ = some (.int .i64 0) := cell_at hzz rfl; have f0 := free_at (j := 0) hzz; have r1 : w9.cell? ⟨w.heap.size, 1, none⟩ = some (.int .i64 0) := cell_at hzz rfl; have f1 := free_at (j := 1) hzz; have r2 : w9.cell? ⟨w.heap.size, 2, none⟩ = some (.slice none 0 0) := cell_at hzz rfl; have f2 := free_at (j := 2) hzz; have r3 : w9.cell? ⟨w.heap.size, 3, none⟩ = some (.slice none 0 0) := cell_at hzz rfl; have f3 := free_at (j := 3) hzz; clear hzz; clear hp9 hx9 ha9)
            | (go_at_call 36; refine (wordF_any kLIKE _ rfl _).mono ?_; rintro e w8 ⟨g8, lb8, rfl, hc8, hb8⟩; have HP8 := Lib.hid (HP7.out.next hb8); have HC8 := Lib.hid hc8; clear hc8 hb8)
            | (go_at_call 18; refine (HS3.out _ _ HP6.out.pat HC6.out).mono ?_; rintro e w7 ⟨rfl, hb7⟩; have HP7 := Lib.hid (HP6.out.next hb7); clear hb7)
            | (go_at_call 36; refine (wordF_any kLIKE _ rfl _).mono ?_; rintro e w6 ⟨g6, lb6, rfl, hc6, hb6⟩; have HP6 := Lib.hid (HP5.out.next hb6); have HC6 := Lib.hid hc6; clear hc6 hb6)
            | (go_at_call 18; refine (HS2.out _ _ HP4.out.pat HC4.out).mono ?_; rintro e w5 ⟨rfl, hb5⟩; have HP5 := Lib.hid (HP4.out.next hb5); clear hb5)
            | (go_at_call 36; refine (wordF_any kBETWEEN _ rfl _).mono ?_; rintro e w4 ⟨g4, lb4, rfl, hc4, hb4⟩; have HP4 := Lib.hid (HP3.out.next hb4); have HC4 := Lib.hid hc4; clear hc4 hb4)
            | (go_at_call 39; refine (HS1.out _ _ HP2.out.pat HC2.out).mono ?_; rintro e w3 ⟨rfl, hb3⟩; have HP3 := Lib.hid (HP2.out.next hb3); clear hb3)
            | (go_at_call 36; refine (wordF_any kNOT _ rfl _).mono ?_; rintro e w2 ⟨g2, lb2, rfl, hc2, hb2⟩; have HP2 := Lib.hid (HP1.out.next hb2); have HC2 := Lib.hid hc2; clear hc2 hb2)
            | (go_at_call 64; refine (HOP.out).mono ?_; rintro x w1 ⟨ho1, rfl, hpt1⟩; have HPo := Lib.hid (HP0.out.skip hpt1 ho1); have hw1 := lt_of_block (HPo.out.own _ List.mem_cons_self).1; have HP1 := Lib.hid (HNEW.out w1 HPo.out); clear ho1 hpt1))
          exact endTest rfl w.heap.size rfl rfl (put4 (HPL.out.own _ List.mem_cons_self).1 _ _ _ _) (fin_x HPL.out HXL.out (fun b hb hl => by rcases hb with hb | hb <;> omega) HAL.out)
        | false =>
          have hN : testO o l1 = furX 1 (relT (hd l1) : Nat) [.rl] l1 [o] := by unfold testO; rw [if_neg (by simpa using h1), if_neg (by simpa using h2), if_neg (by simpa using h3)]
          rw [hN]
          have HS3 := Lib.hid (show ∀ (v : Value) wx, PAt wx bp tb l1 → ClAt wx (.wd kLIKE) v → Calls Tryz.prog 18 #[.pointer (some ⟨bp, 0, none⟩), v] wx fun e w' => e = .returned (.bool false) ∧ Below wx.heap.size wx w' from fun v wx hp2 hc => by have := at_any bp tb l1 (.wd kLIKE) v wx hp2 hc hp1 h199 (Short.hd hv1.short); rwa [h3] at this)
          have HRL := Lib.hid (fun wx => relation_any (hd l1) wx)
          unfold RelTo at HRL
          clear hN
          go_enter Tryz.func38, Tryz.ntmps38
          go_wp2_with (first
            | (go_at_call 66; refine (HFU.out 1 _ .rl trivial _ (w1.heap.size + 1) _ HP8.out (by omega) rfl).mono ?_; rintro x w9 ⟨T, e9, l9, rfl, hp9, hx9, ha9⟩; have HPL := Lib.hid hp9; have HXL := Lib.hid hx9; have HAL := Lib.hid ha9; have hsz9 := lt_of_block (HP8.out.own _ (List.mem_cons_of_mem _ List.mem_cons_self)).1; have hzz := (hp9.own _ List.mem_cons_self).1; have r0 : w9.cell? ⟨w.heap.size, 0, none⟩ = some (.int .i64 0) := cell_at hzz rfl; have f0 := free_at (j := 0) hzz; have r1 : w9.cell? ⟨w.heap.size, 1, none⟩ = some (.int .i64 0) := cell_at hzz rfl; have f1 := free_at (j := 1) hzz; have r2 : w9.cell? ⟨w.heap.size, 2, none⟩ = some (.slice none 0 0) := cell_at hzz rfl; have f2 := free_at (j := 2) hzz; have r3 : w9.cell? ⟨w.heap.size, 3, none⟩ = some (.slice none 0 0) := cell_at hzz rfl; have f3 := free_at (j := 3) hzz; clear hzz; clear hp9 hx9 ha9)
            | (go_at_call 67; refine (HRL.out _).mono ?_; rintro x w8 ⟨rfl, hb8⟩; have HP8 := Lib.hid (HP7.out.next hb8); clear hb8)
            | (go_at_call 18; refine (HS3.out _ _ HP6.out.pat HC6.out).mono ?_; rintro e w7 ⟨rfl, hb7⟩; have HP7 := Lib.hid (HP6.out.next hb7); clear hb7; obtain ⟨_, _, off, cap, hbx, hcap, htk⟩ := HP7.out.pat; have p0 : w7.cell? ⟨bp, 0, none⟩ = some (.slice (some ⟨tb, off, none⟩) l1.length cap) := cell_at hbx rfl; have hh := htk.head (by first | assumption | omega); have t0 : w7.cell? ⟨tb, off, none⟩ = some (.int .i64 ((hd l1).k : Nat)) := hh 0 _ rfl; have t1 : w7.cell? ⟨tb, off + 1, none⟩ = some (.string (bs (hd l1).t)) := hh 1 _ rfl; have t2 : w7.cell? ⟨tb, off + 2, none⟩ = some (.int .u64 ((hd l1).n : Nat)) := hh 2 _ rfl; have t3 : w7.cell? ⟨tb, off + 3, none⟩ = some (.int .i64 ((hd l1).a : Nat)) := hh 3 _ rfl; clear hh hbx htk)
            | (go_at_call 36; refine (wordF_any kLIKE _ rfl _).mono ?_; rintro e w6 ⟨g6, lb6, rfl, hc6, hb6⟩; have HP6 := Lib.hid (HP5.out.next hb6); have HC6 := Lib.hid hc6; clear hc6 hb6)
            | (go_at_call 18; refine (HS2.out _ _ HP4.out.pat HC4.out).mono ?_; rintro e w5 ⟨rfl, hb5⟩; have HP5 := Lib.hid (HP4.out.next hb5); clear hb5)
            | (go_at_call 36; refine (wordF_any kBETWEEN _ rfl _).mono ?_; rintro e w4 ⟨g4, lb4, rfl, hc4, hb4⟩; have HP4 := Lib.hid (HP3.out.next hb4); have HC4 := Lib.hid hc4; clear hc4 hb4)
            | (go_at_call 39; refine (HS1.out _ _ HP2.out.pat HC2.out).mono ?_; rintro e w3 ⟨rfl, hb3⟩; have HP3 := Lib.hid (HP2.out.next hb3); clear hb3)
            | (go_at_call 36; refine (wordF_any kNOT _ rfl _).mono ?_; rintro e w2 ⟨g2, lb2, rfl, hc2, hb2⟩; have HP2 := Lib.hid (HP1.out.next hb2); have HC2 := Lib.hid hc2; clear hc2 hb2)
            | (go_at_call 64; refine (HOP.out).mono ?_; rintro x w1 ⟨ho1, rfl, hpt1⟩; have HPo := Lib.hid (HP0.out.skip hpt1 ho1); have hw1 := lt_of_block (HPo.out.own _ List.mem_cons_self).1; have HP1 := Lib.hid (HNEW.out w1 HPo.out); clear ho1 hpt1))
          exact endTest rfl w.heap.size rfl rfl (put4 (HPL.out.own _ List.mem_cons_self).1 _ _ _ _) (fin_x HPL.out HXL.out (fun b hb hl => by rcases hb with hb | hb <;> omega) HAL.out)
end Go.Proofs.YtbejpgoedenpmaaGreatDoor
