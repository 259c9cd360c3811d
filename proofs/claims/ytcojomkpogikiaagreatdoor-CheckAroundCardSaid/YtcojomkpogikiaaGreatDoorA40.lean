/- test: a test. -/
import Derived.Test.YtcojomkpogikiaaGreatDoorA39
namespace Go.Proofs.YtcojomkpogikiaaGreatDoor
open Go.RowKit
set_option linter.unusedVariables false
theorem PSt.sub {w wr : World} {bp tb : Nat} {zs zs2 : List (Nat × Obj)} {l : List Tk} (h : PSt w bp tb zs l wr) (hs : ∀ p ∈ zs2, p ∈ zs) : PSt w bp tb zs2 l wr := ⟨h.pat, h.only, fun p hp => h.own p (hs p hp), h.lt⟩
theorem fur_one (w : World) (bp tb ab : Nat) (o : Opd) (l : List Tk) (op rel : Int) (c : Cl) (hc : c.inner) (v : Value) (wk : World) (hp : PSt w bp tb [(ab, (.cells #[.int .i64 o.kind, .string o.text, .bool o.neg, .int .u64 o.num] 40)), (w.heap.size, (.cells #[.int .i64 0, .int .i64 0, .slice none 0 0, .slice none 0 0] 26))] l wk) (hab : w.heap.size < ab) (hcl : ClAt wk c v) (hv : Vd l) (h99 : l.length ≤ 99) :
    Calls Tryz.prog 160 #[.pointer (some ⟨bp, 0, none⟩), .agg #[.int .i64 op, .int .i64 rel, .slice (some ⟨ab, 0, none⟩) 1 1, .slice none 0 0], .slice (some ⟨wk.heap.size, 0, none⟩) 1 1] (wk.alloc (.cells #[v] 90)) (FurP w bp tb ab [(w.heap.size, (.cells #[.int .i64 0, .int .i64 0, .slice none 0 0, .slice none 0 0] 26))] wk.heap.size (furX op rel [c] l [o])) := by
  have hb1 : Below wk.heap.size wk (wk.alloc (.cells #[v] 90)) := (Below.refl _ _).alloc (Nat.le_refl _) _
  have hk2 := hp.next hb1
  refine (further_any op rel [c] (by intro d hd; simp at hd; rw [hd]; exact hc) [v] bp tb ab wk.heap.size 1 l [o] _ hk2.pat (rowOne hcl) (own_one (hk2.own _ List.mem_cons_self).1) (by have := hp.lt; omega) hv h99 (by show 1 + 1 ≤ 10; omega)).mono ?_
  intro x w' hx
  obtain ⟨T, e, l', h3, h4, h5, h6⟩ := furP_of (zs := [(w.heap.size, (.cells #[.int .i64 0, .int .i64 0, .slice none 0 0, .slice none 0 0] 26))]) hp (Nat.le_of_lt hab) (fun p hp => by
    simp at hp; subst hp
    exact ⟨List.mem_cons_of_mem _ List.mem_cons_self, by show w.heap.size ≠ ab; omega⟩) hb1 hx
  exact ⟨T, e, l', h3, h4, h5.sub (fun b hb _ => hb.imp id (fun h => by have := hb1.size; omega)), h6⟩
theorem furX_err (op rel : Int) (cs : List Cl) (h1 : ∀ c ∈ cs, c.inner) (h0 : cs ≠ []) (l : List Tk) (a : List Opd) (hv : Vd l) (h99 : l.length ≤ 99) : ∀ e l', furX op rel cs l a = .err e l' → e ≠ 0 := by
  intro e l' h
  have := furX_less op rel cs h1 h0 l a hv h99
  rw [h] at this
  exact this.2.2
set_option maxRecDepth 100000 in
set_option maxHeartbeats 8000000 in
theorem test_any (bp tb : Nat) (l : List Tk) (w : World) (hp : PAt w bp tb l) (hv : Vd l) (h99 : l.length ≤ 99) :
    Calls Tryz.prog 106 #[.pointer (some ⟨bp, 0, none⟩)] w (XTo w bp tb (testP l)) := by
  have HP0 := Lib.hid (show PSt w bp tb [(w.heap.size, (.cells #[.int .i64 0, .int .i64 0, .slice none 0 0, .slice none 0 0] 26))] l (w.alloc (.cells #[.int .i64 0, .int .i64 0, .slice none 0 0, .slice none 0 0] 26)) from (PSt.start hp).new _)
  have hless := operandP_less l hv h99
  have HOP := Lib.hid (operand_any bp tb l (w.alloc (.cells #[.int .i64 0, .int .i64 0, .slice none 0 0, .slice none 0 0] 26)) HP0.out.pat hv h99)
  have hT : testP l = match operandP l with | .err e l' => .err e l' | .ok o l' => testO o l' := rfl
  rw [hT]
  clear hT hp
  cases hop : operandP l with
  | err e1 l1 =>
    rw [hop] at HOP hless
    unfold OpTo at HOP
    have q2 : (((e1 : Nat) : Int) != 0) = true := by have := hless.2.2; simp; omega
    clear hop hless
    go_enter Tryz.func106, Tryz.ntmps106
    go_wp2_with (go_at_call 158; refine (HOP.out).mono ?_; rintro x w1 ⟨ho1, rfl, hpt1⟩; have HP1 := Lib.hid (HP0.out.skip hpt1 ho1); have hw1 := lt_of_block (HP1.out.own _ List.mem_cons_self).1; have hw1n : ¬ w.heap.size = w1.heap.size := (by omega); have hzz := (HP1.out.own _ List.mem_cons_self).1; obtain ⟨r0, f0, r1, f1, r2, f2, r3, f3⟩ := bf4 hzz; clear hzz; clear ho1 hpt1)
    have hF := HP1.out.put (Nat.le_refl _) (.int .i64 0) (.int .i64 0) (.slice none 0 0) (.slice none 0 0)
    exact endTest rfl w.heap.size rfl rfl (alloc_old (put4 (HP1.out.own _ List.mem_cons_self).1 _ _ _ _)) ⟨hF.2.alloc _, .nil, e1, l1, rfl, hF.1.next ((Below.refl _ _).alloc (Nat.le_refl _) _), trivial, .inr ⟨rfl, rfl⟩⟩
  | ok o l1 =>
    rw [hop] at HOP hless
    unfold OpTo at HOP
    show Calls _ _ _ w (XTo w bp tb (testO o l1))
    have hv1 := hless.1
    have h199 : l1.length ≤ 99 := by have := hless.2; omega
    have hp1 := hv1.pos
    have HNEW := Lib.hid (show ∀ w1, PSt w bp tb [(w.heap.size, (.cells #[.int .i64 0, .int .i64 0, .slice none 0 0, .slice none 0 0] 26))] l1 w1 → PSt w bp tb [(w1.heap.size + 1, (.cells #[.int .i64 o.kind, .string o.text, .bool o.neg, .int .u64 o.num] 40)), (w.heap.size, (.cells #[.int .i64 0, .int .i64 0, .slice none 0 0, .slice none 0 0] 26))] l1 ((w1.alloc (.cells #[.int .i64 o.kind, .string o.text, .bool o.neg, .int .u64 o.num] 40)).alloc (.cells #[.int .i64 o.kind, .string o.text, .bool o.neg, .int .u64 o.num] 40)) from fun w1 h => by
      have h2 := (h.new (.cells #[.int .i64 o.kind, .string o.text, .bool o.neg, .int .u64 o.num] 40)).new (.cells #[.int .i64 o.kind, .string o.text, .bool o.neg, .int .u64 o.num] 40)
      have e : (w1.alloc (.cells #[.int .i64 o.kind, .string o.text, .bool o.neg, .int .u64 o.num] 40)).heap.size = w1.heap.size + 1 := by simp
      rw [e] at h2
      exact h2.sub (fun p hp => by
        rcases List.mem_cons.1 hp with rfl | hp
        · exact List.mem_cons_self
        · exact List.mem_cons_of_mem _ (List.mem_cons_of_mem _ hp)))
    clear hop hless
    cases h1 : (Cl.wd kNOT).test (hd l1) with
    | true =>
      obtain ⟨hv2, hl2⟩ := hv1.tail (by trivial) h1
      have hp2 := hv2.pos
      have hN : testO o l1 = negR (furX 2 0 betw l1.tail [o]) := by unfold testO; rw [if_pos h1]
      rw [hN]
      have HS1 := Lib.hid (fun (v : Value) wx (hp2 : PAt wx bp tb l1) (hc : ClAt wx (.wd kNOT) v) => skip_yes bp tb l1 (.wd kNOT) v wx hp2 hc (by omega) h199 (Short.hd hv1.short) h1)
      have HNG := Lib.hid (fun (wx : World) (S : Nat → Prop) (T : XT) (e : Nat) (l' : List Tk) (hT : XAt wx S T) (ha : AnsX (furX 2 0 betw l1.tail [o]) T e l') => negated_any wx S _ (furX_err 2 0 betw betw_inner (by simp [betw]) l1.tail [o] hv2 (by omega)) T e l' hT ha)
      have HBT := Lib.hid (fun (ab : Nat) wx (hpx : PSt w bp tb [(ab, (.cells #[.int .i64 o.kind, .string o.text, .bool o.neg, .int .u64 o.num] 40)), (w.heap.size, (.cells #[.int .i64 0, .int .i64 0, .slice none 0 0, .slice none 0 0] 26))] l1.tail wx) (hab : w.heap.size < ab) => between_any w bp tb ab [(w.heap.size, (.cells #[.int .i64 0, .int .i64 0, .slice none 0 0, .slice none 0 0] 26))] l1.tail o wx hpx (fun p hp => by simp at hp; subst hp; show w.heap.size ≠ ab; omega) hv2 (by omega))
      clear hN
      go_enter Tryz.func106, Tryz.ntmps106
      go_wp2_with (first
        | (go_at_call 108; refine (HNG.out _ _ T e4 l4 HXL.out HAL.out).mono ?_; rintro x w5 ⟨hb5, T5, rfl, hx5, ha5⟩; have HPM := Lib.hid (HPL.out.next hb5); have HXM := Lib.hid hx5; have HAM := Lib.hid ha5; have hzz := (HPM.out.own _ List.mem_cons_self).1; obtain ⟨r0, f0, r1, f1, r2, f2, r3, f3⟩ := bf4 hzz; clear hzz; have hsz5 := lt_of_block (HPL.out.own _ List.mem_cons_self).1; clear hb5 hx5 ha5)
        | (go_at_call 159; refine (HBT.out _ _ HP3.out (by omega)).mono ?_; rintro x w4 ⟨T, e4, l4, rfl, hp4, hx4, ha4⟩; have HPL := Lib.hid hp4; have HXL := Lib.hid hx4; have HAL := Lib.hid ha4; have hsz4 := lt_of_block (HP3.out.own _ (List.mem_cons_of_mem _ List.mem_cons_self)).1; have hzz := (hp4.own _ List.mem_cons_self).1; obtain ⟨r0, f0, r1, f1, r2, f2, r3, f3⟩ := bf4 hzz; clear hzz; clear hp4 hx4 ha4)
        | (go_at_call 107; refine (HS1.out _ _ HP2.out.pat HC2.out).mono ?_; rintro e w3 ⟨rfl, hp3, ho3⟩; have HP3 := Lib.hid (HP2.out.skip hp3 ho3); clear hp3 ho3)
        | (go_at_call 104; refine (wordF_any kNOT _ rfl _).mono ?_; rintro e w2 ⟨g2, lb2, rfl, hc2, hb2⟩; have HP2 := Lib.hid (HP1.out.next hb2); have HC2 := Lib.hid hc2; clear hc2 hb2)
        | (go_at_call 158; refine (HOP.out).mono ?_; rintro x w1 ⟨ho1, rfl, hpt1⟩; have HPo := Lib.hid (HP0.out.skip hpt1 ho1); have hw1 := lt_of_block (HPo.out.own _ List.mem_cons_self).1; have HP1 := Lib.hid (HNEW.out w1 HPo.out); clear ho1 hpt1))
      exact endTest rfl w.heap.size rfl rfl (put4 (HPM.out.own _ List.mem_cons_self).1 _ _ _ _) (fin_x HPM.out HXM.out (fun b hb hl => by rcases hb with (hb | hb) | hb <;> omega) HAM.out)
    | false =>
      have HS1 := Lib.hid (fun (v : Value) wx (hp2 : PAt wx bp tb l1) (hc : ClAt wx (.wd kNOT) v) => skip_no bp tb l1 (.wd kNOT) v wx hp2 hc (by omega) h199 (Short.hd hv1.short) h1)
      cases h2 : (Cl.wd kBETWEEN).test (hd l1) with
      | true =>
        have hN : testO o l1 = furX 2 0 betw l1 [o] := by unfold testO; rw [if_neg (by simpa using h1), if_pos h2]
        rw [hN]
        have HS2 := Lib.hid (show ∀ (v : Value) wx, PAt wx bp tb l1 → ClAt wx (.wd kBETWEEN) v → Calls Tryz.prog 35 #[.pointer (some ⟨bp, 0, none⟩), v] wx fun e w' => e = .returned (.bool true) ∧ Below wx.heap.size wx w' from fun v wx hp2 hc => by have := at_any bp tb l1 (.wd kBETWEEN) v wx hp2 hc hp1 h199 (Short.hd hv1.short); rwa [h2] at this)
        have HBT := Lib.hid (fun (ab : Nat) wx (hpx : PSt w bp tb [(ab, (.cells #[.int .i64 o.kind, .string o.text, .bool o.neg, .int .u64 o.num] 40)), (w.heap.size, (.cells #[.int .i64 0, .int .i64 0, .slice none 0 0, .slice none 0 0] 26))] l1 wx) (hab : w.heap.size < ab) => between_any w bp tb ab [(w.heap.size, (.cells #[.int .i64 0, .int .i64 0, .slice none 0 0, .slice none 0 0] 26))] l1 o wx hpx (fun p hp => by simp at hp; subst hp; show w.heap.size ≠ ab; omega) hv1 h199)
        clear hN
        go_enter Tryz.func106, Tryz.ntmps106
        go_wp2_with (first
          | (go_at_call 159; refine (HBT.out _ _ HP5.out (by omega)).mono ?_; rintro x w6 ⟨T, e6, l6, rfl, hp6, hx6, ha6⟩; have HPL := Lib.hid hp6; have HXL := Lib.hid hx6; have HAL := Lib.hid ha6; have hsz6 := lt_of_block (HP5.out.own _ (List.mem_cons_of_mem _ List.mem_cons_self)).1; have hzz := (hp6.own _ List.mem_cons_self).1; obtain ⟨r0, f0, r1, f1, r2, f2, r3, f3⟩ := bf4 hzz; clear hzz; clear hp6 hx6 ha6)
          | (go_at_call 35; refine (HS2.out _ _ HP4.out.pat HC4.out).mono ?_; rintro e w5 ⟨rfl, hb5⟩; have HP5 := Lib.hid (HP4.out.next hb5); clear hb5)
          | (go_at_call 104; refine (wordF_any kBETWEEN _ rfl _).mono ?_; rintro e w4 ⟨g4, lb4, rfl, hc4, hb4⟩; have HP4 := Lib.hid (HP3.out.next hb4); have HC4 := Lib.hid hc4; clear hc4 hb4)
          | (go_at_call 107; refine (HS1.out _ _ HP2.out.pat HC2.out).mono ?_; rintro e w3 ⟨rfl, hb3⟩; have HP3 := Lib.hid (HP2.out.next hb3); clear hb3)
          | (go_at_call 104; refine (wordF_any kNOT _ rfl _).mono ?_; rintro e w2 ⟨g2, lb2, rfl, hc2, hb2⟩; have HP2 := Lib.hid (HP1.out.next hb2); have HC2 := Lib.hid hc2; clear hc2 hb2)
          | (go_at_call 158; refine (HOP.out).mono ?_; rintro x w1 ⟨ho1, rfl, hpt1⟩; have HPo := Lib.hid (HP0.out.skip hpt1 ho1); have hw1 := lt_of_block (HPo.out.own _ List.mem_cons_self).1; have HP1 := Lib.hid (HNEW.out w1 HPo.out); clear ho1 hpt1))
        exact endTest rfl w.heap.size rfl rfl (put4 (HPL.out.own _ List.mem_cons_self).1 _ _ _ _) (fin_x HPL.out HXL.out (fun b hb hl => by rcases hb with hb | hb <;> omega) HAL.out)
      | false =>
        have HS2 := Lib.hid (show ∀ (v : Value) wx, PAt wx bp tb l1 → ClAt wx (.wd kBETWEEN) v → Calls Tryz.prog 35 #[.pointer (some ⟨bp, 0, none⟩), v] wx fun e w' => e = .returned (.bool false) ∧ Below wx.heap.size wx w' from fun v wx hp2 hc => by have := at_any bp tb l1 (.wd kBETWEEN) v wx hp2 hc hp1 h199 (Short.hd hv1.short); rwa [h2] at this)
        have HFU := Lib.hid (fun (op rel : Int) (c : Cl) (hc : c.inner) (v : Value) (ab : Nat) wk (hpx : PSt w bp tb [(ab, (.cells #[.int .i64 o.kind, .string o.text, .bool o.neg, .int .u64 o.num] 40)), (w.heap.size, (.cells #[.int .i64 0, .int .i64 0, .slice none 0 0, .slice none 0 0] 26))] l1 wk) (hab : w.heap.size < ab) (hcl : ClAt wk c v) => fur_one w bp tb ab o l1 op rel c hc v wk hpx hab hcl hv1 h199)
        cases h3 : (Cl.wd kLIKE).test (hd l1) with
        | true =>
          have hN : testO o l1 = furX 3 0 [.wd kLIKE] l1 [o] := by unfold testO; rw [if_neg (by simpa using h1), if_neg (by simpa using h2), if_pos h3]
          rw [hN]
          have HS3 := Lib.hid (show ∀ (v : Value) wx, PAt wx bp tb l1 → ClAt wx (.wd kLIKE) v → Calls Tryz.prog 35 #[.pointer (some ⟨bp, 0, none⟩), v] wx fun e w' => e = .returned (.bool true) ∧ Below wx.heap.size wx w' from fun v wx hp2 hc => by have := at_any bp tb l1 (.wd kLIKE) v wx hp2 hc hp1 h199 (Short.hd hv1.short); rwa [h3] at this)
          clear hN
          go_enter Tryz.func106, Tryz.ntmps106
          go_wp2_with (first
            | (go_at_call 160; refine (HFU.out 3 0 (.wd kLIKE) trivial _ (w1.heap.size + 1) _ HP8.out (by omega) HC8.out).mono ?_; rintro x w9 ⟨T, e9, l9, rfl, hp9, hx9, ha9⟩; have HPL := Lib.hid hp9; have HXL := Lib.hid hx9; have HAL := Lib.hid ha9; have hsz9 := lt_of_block (HP8.out.own _ (List.mem_cons_of_mem _ List.mem_cons_self)).1; have hzz := (hp9.own _ List.mem_cons_self).1; obtain ⟨r0, f0, r1, f1, r2, f2, r3, f3⟩ := bf4 hzz; clear hzz; clear hp9 hx9 ha9)
            | (go_at_call 104; refine (wordF_any kLIKE _ rfl _).mono ?_; rintro e w8 ⟨g8, lb8, rfl, hc8, hb8⟩; have HP8 := Lib.hid (HP7.out.next hb8); have HC8 := Lib.hid hc8; clear hc8 hb8)
            | (go_at_call 35; refine (HS3.out _ _ HP6.out.pat HC6.out).mono ?_; rintro e w7 ⟨rfl, hb7⟩; have HP7 := Lib.hid (HP6.out.next hb7); clear hb7)
            | (go_at_call 104; refine (wordF_any kLIKE _ rfl _).mono ?_; rintro e w6 ⟨g6, lb6, rfl, hc6, hb6⟩; have HP6 := Lib.hid (HP5.out.next hb6); have HC6 := Lib.hid hc6; clear hc6 hb6)
            | (go_at_call 35; refine (HS2.out _ _ HP4.out.pat HC4.out).mono ?_; rintro e w5 ⟨rfl, hb5⟩; have HP5 := Lib.hid (HP4.out.next hb5); clear hb5)
            | (go_at_call 104; refine (wordF_any kBETWEEN _ rfl _).mono ?_; rintro e w4 ⟨g4, lb4, rfl, hc4, hb4⟩; have HP4 := Lib.hid (HP3.out.next hb4); have HC4 := Lib.hid hc4; clear hc4 hb4)
            | (go_at_call 107; refine (HS1.out _ _ HP2.out.pat HC2.out).mono ?_; rintro e w3 ⟨rfl, hb3⟩; have HP3 := Lib.hid (HP2.out.next hb3); clear hb3)
            | (go_at_call 104; refine (wordF_any kNOT _ rfl _).mono ?_; rintro e w2 ⟨g2, lb2, rfl, hc2, hb2⟩; have HP2 := Lib.hid (HP1.out.next hb2); have HC2 := Lib.hid hc2; clear hc2 hb2)
            | (go_at_call 158; refine (HOP.out).mono ?_; rintro x w1 ⟨ho1, rfl, hpt1⟩; have HPo := Lib.hid (HP0.out.skip hpt1 ho1); have hw1 := lt_of_block (HPo.out.own _ List.mem_cons_self).1; have HP1 := Lib.hid (HNEW.out w1 HPo.out); clear ho1 hpt1))
          exact endTest rfl w.heap.size rfl rfl (put4 (HPL.out.own _ List.mem_cons_self).1 _ _ _ _) (fin_x HPL.out HXL.out (fun b hb hl => by rcases hb with hb | hb <;> omega) HAL.out)
        | false =>
          have hN : testO o l1 = furX 1 (relT (hd l1) : Nat) [.rl] l1 [o] := by unfold testO; rw [if_neg (by simpa using h1), if_neg (by simpa using h2), if_neg (by simpa using h3)]
          rw [hN]
          have HS3 := Lib.hid (show ∀ (v : Value) wx, PAt wx bp tb l1 → ClAt wx (.wd kLIKE) v → Calls Tryz.prog 35 #[.pointer (some ⟨bp, 0, none⟩), v] wx fun e w' => e = .returned (.bool false) ∧ Below wx.heap.size wx w' from fun v wx hp2 hc => by have := at_any bp tb l1 (.wd kLIKE) v wx hp2 hc hp1 h199 (Short.hd hv1.short); rwa [h3] at this)
          have HRL := Lib.hid (fun wx => relation_any (hd l1) wx)
          unfold RelTo at HRL
          clear hN
          go_enter Tryz.func106, Tryz.ntmps106
          go_wp2_with (first
            | (go_at_call 160; refine (HFU.out 1 _ .rl trivial _ (w1.heap.size + 1) _ HP8.out (by omega) rfl).mono ?_; rintro x w9 ⟨T, e9, l9, rfl, hp9, hx9, ha9⟩; have HPL := Lib.hid hp9; have HXL := Lib.hid hx9; have HAL := Lib.hid ha9; have hsz9 := lt_of_block (HP8.out.own _ (List.mem_cons_of_mem _ List.mem_cons_self)).1; have hzz := (hp9.own _ List.mem_cons_self).1; obtain ⟨r0, f0, r1, f1, r2, f2, r3, f3⟩ := bf4 hzz; clear hzz; clear hp9 hx9 ha9)
            | (go_at_call 161; refine (HRL.out _).mono ?_; rintro x w8 ⟨rfl, hb8⟩; have HP8 := Lib.hid (HP7.out.next hb8); clear hb8)
            | (go_at_call 35; refine (HS3.out _ _ HP6.out.pat HC6.out).mono ?_; rintro e w7 ⟨rfl, hb7⟩; have HP7 := Lib.hid (HP6.out.next hb7); clear hb7; obtain ⟨_, _, off, cap, hbx, hcap, htk⟩ := HP7.out.pat; have p0 : w7.cell? ⟨bp, 0, none⟩ = some (.slice (some ⟨tb, off, none⟩) l1.length cap) := cell_at hbx rfl; have hh := htk.head (by first | assumption | omega); have t0 : w7.cell? ⟨tb, off, none⟩ = some (.int .i64 ((hd l1).k : Nat)) := hh 0 _ rfl; have t1 : w7.cell? ⟨tb, off + 1, none⟩ = some (.string (bs (hd l1).t)) := hh 1 _ rfl; have t2 : w7.cell? ⟨tb, off + 2, none⟩ = some (.int .u64 ((hd l1).n : Nat)) := hh 2 _ rfl; have t3 : w7.cell? ⟨tb, off + 3, none⟩ = some (.int .i64 ((hd l1).a : Nat)) := hh 3 _ rfl; clear hh hbx htk)
            | (go_at_call 104; refine (wordF_any kLIKE _ rfl _).mono ?_; rintro e w6 ⟨g6, lb6, rfl, hc6, hb6⟩; have HP6 := Lib.hid (HP5.out.next hb6); have HC6 := Lib.hid hc6; clear hc6 hb6)
            | (go_at_call 35; refine (HS2.out _ _ HP4.out.pat HC4.out).mono ?_; rintro e w5 ⟨rfl, hb5⟩; have HP5 := Lib.hid (HP4.out.next hb5); clear hb5)
            | (go_at_call 104; refine (wordF_any kBETWEEN _ rfl _).mono ?_; rintro e w4 ⟨g4, lb4, rfl, hc4, hb4⟩; have HP4 := Lib.hid (HP3.out.next hb4); have HC4 := Lib.hid hc4; clear hc4 hb4)
            | (go_at_call 107; refine (HS1.out _ _ HP2.out.pat HC2.out).mono ?_; rintro e w3 ⟨rfl, hb3⟩; have HP3 := Lib.hid (HP2.out.next hb3); clear hb3)
            | (go_at_call 104; refine (wordF_any kNOT _ rfl _).mono ?_; rintro e w2 ⟨g2, lb2, rfl, hc2, hb2⟩; have HP2 := Lib.hid (HP1.out.next hb2); have HC2 := Lib.hid hc2; clear hc2 hb2)
            | (go_at_call 158; refine (HOP.out).mono ?_; rintro x w1 ⟨ho1, rfl, hpt1⟩; have HPo := Lib.hid (HP0.out.skip hpt1 ho1); have hw1 := lt_of_block (HPo.out.own _ List.mem_cons_self).1; have HP1 := Lib.hid (HNEW.out w1 HPo.out); clear ho1 hpt1))
          exact endTest rfl w.heap.size rfl rfl (put4 (HPL.out.own _ List.mem_cons_self).1 _ _ _ _) (fin_x HPL.out HXL.out (fun b hb hl => by rcases hb with hb | hb <;> omega) HAL.out)
end Go.Proofs.YtcojomkpogikiaaGreatDoor
/- series: operands with a word between them. -/
namespace Go.Proofs.YtcojomkpogikiaaGreatDoor
open Go.RowKit
set_option linter.unusedVariables false
theorem infoX : (Tryz.prog.info? 26).map (fun i => (i.zero, i.size, i.bytes)) = some (some (.agg #[.int .i64 0, .int .i64 0, .slice none 0 0, .slice none 0 0]), 4, 64) := by kernel_rfl
theorem xtC_get : ∀ (a : List XT) (i m : Nat), i < a.length → m < 4 → (a.flatMap xtC)[i * 4 + m]? = (xtC (a.getD i .nil))[m]?
  | [], i, m, h, _ => by simp at h
  | x :: r, 0, m, _, hm => by
    rw [List.flatMap_cons, List.getElem?_append_left (by show _ < 4; omega), Nat.zero_mul, Nat.zero_add]; rfl
  | x :: r, i + 1, m, h, hm => by
    rw [List.flatMap_cons, List.getElem?_append_right (by show 4 ≤ _; omega)]
    show (r.flatMap xtC)[(i + 1) * 4 + m - 4]? = _
    rw [show (i + 1) * 4 + m - 4 = i * 4 + m by omega, xtC_get r i m (by simpa using h) hm]
    rfl
theorem xts_at {w : World} {base n c g : Nat} {a : List XT} {S : Nat → Prop} (h : w.ownsRow base 26 4 (.slice (some ⟨g, 0, none⟩) n c) n (a.flatMap xtC)) (hS : S g) (hl : g < w.heap.size) : ∀ i, i < a.length → CellsAt w S (some ⟨g, 0, none⟩) i (xtC (a.getD i .nil)) := by
  intro i hi
  refine ⟨g, 0, rfl, hS, hl, fun r u hu => ?_⟩
  have hr : r < 4 := (List.getElem?_eq_some_iff.1 hu).1
  have h2 := h.cells (g := g) rfl (i * 4 + r) u (by rw [xtC_get a i r hi hr]; exact hu)
  have hadd : (⟨g, 0, none⟩ : Addr).add (i * 4 + r) = ⟨g, 0 + i * 4 + r, none⟩ := by unfold Addr.add; split <;> simp_all
  rwa [hadd] at h2
def Sames (ks ts : List XT) : Prop := ks.length = ts.length ∧ ∀ i, i < ks.length → SameX (ks.getD i .nil) (ts.getD i .nil)
theorem Sames.nil : Sames [] [] := ⟨rfl, fun i hi => by simp at hi⟩
theorem Sames.snoc {ks ts : List XT} {x t : XT} (h : Sames ks ts) (hx : SameX x t) : Sames (ks ++ [x]) (ts ++ [t]) := by
  refine ⟨by simp [h.1], fun i hi => ?_⟩
  rw [List.length_append] at hi
  rcases Nat.lt_or_ge i ks.length with c | c
  · have := h.2 i c
    have c2 : i < ts.length := by have := h.1; omega
    simpa [List.getD_eq_getElem?_getD, List.getElem?_append_left c, List.getElem?_append_left c2] using this
  · obtain rfl : i = ks.length := by simp at hi; omega
    have := h.1
    simpa [List.getD_eq_getElem?_getD, this] using hx
structure SerSt (w : World) (bp tb : Nat) (v : Value) (ks : List XT) (l : List Tk) (wr : World) : Prop where
  pat : PAt wr bp tb l
  only : Only (fun k => k = bp) w wr
  res : wr.heap[w.heap.size]? = some (.cells #[.int .i64 0, .int .i64 0, .slice none 0 0, .slice none 0 0] 26)
  row : wr.ownsRow (w.heap.size + 1) 26 4 v ks.length (ks.flatMap xtC)
  kids : ∀ i, i < ks.length → XAt wr (fun b => w.heap.size < b ∧ v.ownBlock ≠ some b) (ks.getD i .nil)
  lt : bp < w.heap.size ∧ tb < w.heap.size
theorem SerSt.next {w wr w' : World} {bp tb : Nat} {v : Value} {ks : List XT} {l : List Tk} (h : SerSt w bp tb v ks l wr) (hb : Below wr.heap.size wr w') : SerSt w bp tb v ks l w' :=
  ⟨h.pat.next hb, h.only.step hb, rowKeep hb h.res, (Only.of_below (S := fun _ => False) hb).row h.row (fun _ _ f => f), fun i hi => (h.kids i hi).next hb, h.lt⟩
theorem SerSt.skip {w wr w' : World} {bp tb : Nat} {v : Value} {ks : List XT} {l l' : List Tk} (h : SerSt w bp tb v ks l wr) (hp : PAt w' bp tb l') (ho : Only (fun k => k = bp) wr w') : SerSt w bp tb v ks l' w' :=
  ⟨hp, h.only.trans ho (fun i _ e => e), ho.same h.res (by have := h.lt; omega), ho.row h.row (fun k hk e => by have := (h.row.lt k hk).1; have := h.lt; omega), fun i hi => (h.kids i hi).only ho (fun b hb _ e => by have := hb.1; have := h.lt; omega), h.lt⟩
theorem SerSt.app {w wr w2 : World} {bp tb gg cp N : Nat} {v : Value} {ks : List XT} {T : XT} {l : List Tk} (h : SerSt w bp tb v ks l wr) (hT : XAt wr (fun b => N ≤ b) T) (hN : ∀ k, v.ownBlock = some k → k < N) (hN2 : w.heap.size < N)
    (hown : w2.ownsRow (w.heap.size + 1) 26 4 (.slice (some ⟨gg, 0, none⟩) (ks.length + 1) cp) (ks.length + 1) (ks.flatMap xtC ++ xtC T)) (hg : wr.grownBy w2 v.ownBlock) (hat : v.ownBlock = some gg ∨ gg = wr.heap.size) :
    SerSt w bp tb (.slice (some ⟨gg, 0, none⟩) (ks.length + 1) cp) (ks ++ [T]) l w2 := by
  have hv : ∀ k, v.ownBlock = some k → w.heap.size < k := fun k hk => by have := (h.row.lt k hk).1; omega
  have ho : Only (fun k => v.ownBlock = some k) wr w2 := ⟨hg.os, hg.tape, hg.output, hg.size, fun k hk hn => hg.block k hk (fun e => hn e.symm)⟩
  have hl : (ks ++ [T]).length = ks.length + 1 := by simp
  have hf : (ks ++ [T]).flatMap xtC = ks.flatMap xtC ++ xtC T := by simp
  have hob : (Value.slice (some ⟨gg, 0, none⟩) (ks.length + 1) cp).ownBlock = some gg := rfl
  refine ⟨h.pat.only ho (fun e => by have := hv _ e; have := h.lt; omega) (fun e => by have := hv _ e; have := h.lt; omega), h.only.trans ho (fun i hi e => by have := hv _ e; omega), ho.same h.res (fun e => by have := hv _ e; omega), by rw [hl, hf]; exact hown, fun i hi => ?_, h.lt⟩
  rw [hob]
  have hne : ∀ b, v.ownBlock ≠ some b → b < wr.heap.size → some gg ≠ some b := fun b h1 h2 e => by
    rcases hat with e2 | e2
    · exact h1 (e2.trans e)
    · injection e with e; omega
  rcases Nat.lt_or_ge i ks.length with c | c
  · have e : (ks ++ [T]).getD i .nil = ks.getD i .nil := by simp [List.getD_eq_getElem?_getD, List.getElem?_append_left c]
    rw [e]
    exact XAt.held_of (fun b hb hl => ⟨hb.1, hne b hb.2 hl⟩) ho.size (fun b hb hl => ho.block b hl hb.2) _ (h.kids i c)
  · obtain rfl : i = ks.length := by omega
    have e : (ks ++ [T]).getD ks.length .nil = T := by simp [List.getD_eq_getElem?_getD]
    rw [e]
    exact XAt.held_of (fun b hb hl => ⟨by omega, hne b (fun e => by have := hN b e; omega) hl⟩) ho.size (fun b hb hl => ho.block b hl (fun e => by have := hN b e; omega)) _ hT
theorem newX (T : XT) (w1 : World) (O1 : Obj) : ∀ i u, (xtC T)[i]? = some u → ((w1.alloc O1).alloc (.cells #[.int .i64 T.op, .int .i64 T.rel, .slice T.aa T.an T.ac, .slice T.ka T.kn T.kc] 26)).cell? ((⟨w1.heap.size + 1, 0, none⟩ : Addr).add i) = some u := by
  have h := alloc_at (w1.alloc O1) (.cells #[.int .i64 T.op, .int .i64 T.rel, .slice T.aa T.an T.ac, .slice T.ka T.kn T.kc] 26)
  have hz : (w1.alloc O1).heap.size = w1.heap.size + 1 := by simp
  rw [hz] at h
  intro i u hu
  exact World.news_of_block h i u hu
theorem serX_more (op : Int) (ts : List XT) (h : ts.length ≠ 1) : serX op ts = mkX op 0 [] ts := by
  match ts, h with
  | [], _ => rfl
  | [x], h => simp at h
  | x :: y :: r, _ => rfl
theorem list_one {ts : List XT} (h : ts.length = 1) : ts = [ts.getD 0 .nil] := by
  match ts, h with
  | [x], _ => rfl
theorem XTo.cases {w w' : World} {bp tb : Nat} {r : PR XT} {x : Ending} (h : XTo w bp tb r x w') : ∃ (T : XT) (e : Nat) (l' : List Tk), x = .returned (.tuple #[.agg #[.int .i64 T.op, .int .i64 T.rel, .slice T.aa T.an T.ac, .slice T.ka T.kn T.kc], .int .i64 (e : Nat)]) ∧ PAt w' bp tb l' ∧ Only (fun k => k = bp) w w' ∧ XAt w' (fun b => w.heap.size ≤ b) T ∧ AnsX r T e l' := by
  obtain ⟨h1, T, e, l', h2, h3, h4, h5⟩ := h
  exact ⟨T, e, l', h2, h3, h1, h4, h5⟩
theorem AnsX.ok_of {t : XT} {q l' : List Tk} {T : XT} {e : Nat} (h : AnsX (.ok t q) T e l') : e = 0 ∧ l' = q ∧ SameX T t := by
  rcases h with ⟨h1, t', h2, h3⟩ | ⟨_, h2⟩
  · injection h2 with h4 h5; subst h4; exact ⟨h1, h5.symm, h3⟩
  · cases h2
theorem AnsX.err_of {e0 : Nat} {q l' : List Tk} {T : XT} {e : Nat} (h : AnsX (.err e0 q) T e l') : e = e0 ∧ l' = q ∧ T = .nil := by
  rcases h with ⟨h1, t', h2, h3⟩ | ⟨h1, h2⟩
  · cases h2
  · injection h2 with h4 h5; exact ⟨h4.symm, h5.symm, h1⟩
theorem endSer {V : World} {act : Act} {Q : Ending → World → Prop} {a0 a1 a2 a3 : Value} {e : Int} (hd : act.defers = []) (rb : Nat) (h2 : act.tmps.getD 8 undef = .pointer (some ⟨rb, 0, none⟩)) (h3 : act.tmps.getD 9 undef = .int .i64 e) (hr : V.heap[rb]? = some (.cells #[a0, a1, a2, a3] 26))
    (hQ : Q (.returned (.tuple #[.agg #[a0, a1, a2, a3], .int .i64 e])) V) : bodyPost Tryz.prog Tryz.f70 Q Exit.ret act V := by
  refine bodyPost_ret (v := .tuple #[.agg #[a0, a1, a2, a3], .int .i64 e]) ?_ hd hQ
  have hl2 := run_loadVar_row (P := Tryz.prog) V rb 26 26 #[a0, a1, a2, a3] _ _ hr Tryz.underlying26 rfl (by kernel_rfl)
  rw [Array.getD_eq_getD_getElem?] at h2 h3
  simp [results, Tryz.results70, asAddr, hl2, h2, h3]
set_option maxRecDepth 100000 in
set_option maxHeartbeats 8000000 in
theorem series_any (P : List Tk → PR XT) (hless : ∀ l, Vd l → l.length ≤ 99 → Less l (P l)) (op : Int) (ws : List UInt8) (hws : ws.length ≤ 10) (bp tb : Nat) (g : Nat) (lb : Array Value) (eg : Enters g) (l : List Tk) (w : World) (hp : PAt w bp tb l) (hv : Vd l) (h99 : l.length ≤ 99)
    (hpart : ∀ wx l, Only (fun k => k = bp) w wx → PAt wx bp tb l → Vd l → l.length ≤ 99 → Calls Tryz.prog g lb wx (XTo wx bp tb (P l))) :
    Calls Tryz.prog 70 #[.pointer (some ⟨bp, 0, none⟩), .int .i64 op, .string (bs ws), .func (.func g) #[] lb] w (XTo w bp tb (serP op ws P l)) := by
  obtain ⟨i0, hi, hz0, hz1, hz2⟩ := info_parts infoX
  obtain ⟨RR, hRR⟩ : ∃ RR, serL P ws 100 l [] = RR := ⟨_, rfl⟩
  have hS : serP op ws P l = serO op RR := by rw [← hRR]; rfl
  rw [hS]
  have HE := Lib.hid hRR
  have HB0 := Lib.hid (show SerSt w bp tb (.slice none 0 0) [] l (w.alloc (.cells #[.int .i64 0, .int .i64 0, .slice none 0 0, .slice none 0 0] 26)) from by
    have hb : Below w.heap.size w (w.alloc (.cells #[.int .i64 0, .int .i64 0, .slice none 0 0, .slice none 0 0] 26)) := (Below.refl _ _).alloc (Nat.le_refl _) _
    exact ⟨hp.next hb, Only.of_below hb, alloc_at w _, World.ownsRow_nil _ _ _ _, fun i hi => by simp at hi, hp.blt, hp.lt⟩)
  have HPART := Lib.hid hpart
  have HLS := Lib.hid hless
  have HV := Lib.hid hv
  have HTG := Lib.hid (fun (o : Obj) (wx : World) => (Below.refl wx.heap.size wx).alloc (Nat.le_refl _) o)
  have HNX := Lib.hid newX
  clear hRR hS hp hv hpart hless
  unfold Enters at eg
  go_enter Tryz.func70, Tryz.ntmps70
  go_wp2
  go_loopw [10] (fun v wr => ∃ (ks ts : List XT) (m : List Tk) (f : Nat), Hid (SerSt w bp tb v ks m wr) ∧ Hid (Sames ks ts) ∧ Hid (Vd m) ∧ m.length ≤ 99 ∧ m.length ≤ f ∧ ks.length + m.length ≤ 100 ∧ ((ks = [] ∧ ts = [] ∧ v = .slice none 0 0 ∧ Hid (serL P ws (f + 1) m [] = RR)) ∨ ∃ g0 cap, ks ≠ [] ∧ v = .slice (some ⟨g0, 0, none⟩) ks.length cap ∧ Hid ((if (Cl.wd ws).test (hd m) then serL P ws f m.tail ts else .ok ts m) = RR))) (fun _ wr => leftN wr bp)
  case atStart => exact ⟨[], [], l, 99, HB0, Lib.hid Sames.nil, HV, h99, h99, by simp; omega, .inl ⟨rfl, rfl, rfl, HE⟩⟩
  case round =>
    obtain ⟨ks, ts, m, f, HS, HSM, HVm, hm99, hmf, hkl, hcase⟩ := hrel
    have hlm := HS.out.pat.leftN
    have hm0 := HVm.out.pos
    rcases hcase with ⟨rfl, rfl, rfl, HEx⟩ | ⟨g0, cap, hks0, rfl, HEx⟩
    · have hE := HEx.out
      rw [serL] at hE
      · have hless := HLS.out m HVm.out (by omega)
        have HPT := Lib.hid (fun wx (ho : Only (fun k => k = bp) w wx) (hpx : PAt wx bp tb m) => HPART.out wx m ho hpx HVm.out (by omega))
        cases hP : P m with
        | err e0 l0 =>
          rw [hP] at HPT hless hE
          have HR := Lib.hid (show RR = .err e0 l0 from hE.symm)
          have q2 : (((e0 : Nat) : Int) != 0) = true := by have := hless.2.2; simp; omega
          clear hE hP hless
          go_wp2_with (first
            | (go_at_fn g; refine (HPT.out _ (HS.out).only (HS.out).pat).mono ?_; rintro x w4 hx4; obtain ⟨T, e4, l4, rfl, hp4, ho4, hx5, ha4⟩ := hx4.cases; obtain ⟨rfl, rfl, rfl⟩ := ha4.err_of; have HS4 := Lib.hid ((HS.out).skip hp4 ho4); have hzz := HS4.out.res; obtain ⟨r0, f0, r1, f1, r2, f2, r3, f3⟩ := bf4 hzz; clear hzz; have zl := lt_of_block HS4.out.res; have zn : ¬ w.heap.size = w4.heap.size := (by omega); clear hp4 ho4 hx5 ha4))
          have hO := only4 (b := w.heap.size) HS4.out.only (.inr (Nat.le_refl _)) (.int .i64 0) (.int .i64 0) (.slice none 0 0) (.slice none 0 0)
          have hPA := HS4.out.pat.only (K := fun k => k = w.heap.size) (only4 (b := w.heap.size) (S := fun k => k = w.heap.size) (Only.refl _ _) (.inl rfl) (.int .i64 0) (.int .i64 0) (.slice none 0 0) (.slice none 0 0)) (by have := HS4.out.lt; omega) (by have := HS4.out.lt; omega)
          refine endSer rfl w.heap.size rfl rfl (alloc_old (put4 HS4.out.res _ _ _ _)) ?_
          rw [HR.out]
          exact ⟨hO.alloc _, .nil, e4, l4, rfl, hPA.next (HTG.out _ _), trivial, .inr ⟨rfl, rfl⟩⟩
        | ok t0 l0 =>
          rw [hP] at HPT hless hE
          have HV0 := Lib.hid hless.1
          have hl0 := hless.2
          have HR := Lib.hid (show (if (Cl.wd ws).test (hd l0) then serL P ws f l0.tail (([] : List XT) ++ [t0]) else .ok (([] : List XT) ++ [t0]) l0) = RR from hE)
          clear hE hP hless
          have HOB := Lib.hid (show ∀ k, (Value.slice none 0 0).ownBlock = some k → k < wr.heap.size from fun k hk => (HS.out.row.lt k hk).2)
          have HOC := Lib.hid (show w.heap.size < wr.heap.size from lt_of_block HS.out.res)
          go_wp2_with (first
            | (at_builtin; refine wpList_append_lies _ rfl _ _ 24 rfl (w.heap.size + 1) 26 i0 _ 4 64 Tryz.underlying24 hi hz0 hz1 hz2 rfl (by decide) _ _ _ rfl ((HS4.out.row.alloc _).alloc _) ⟨_, 0, none⟩ 1 1 (xtC T) rfl rfl (HNX.out T w4 _) (fun u hu => by (simp [xtC] at hu; rcases hu with rfl | rfl | rfl | rfl <;> rfl)) (by decide) (by unfold maxLen; omega) (by omega) (by have := lt_of_block HS4.out.res; simp; omega) _ rfl ?_; intro gg cp w5 hown5 hg5 hat5 hlt5; have hbb := bthen (HTG.out (.cells #[.int .i64 T.op, .int .i64 T.rel, .slice T.aa T.an T.ac, .slice T.ka T.kn T.kc] 26) w4) (HTG.out (.cells #[.int .i64 T.op, .int .i64 T.rel, .slice T.aa T.an T.ac, .slice T.ka T.kn T.kc] 26) (w4.alloc (.cells #[.int .i64 T.op, .int .i64 T.rel, .slice T.aa T.an T.ac, .slice T.ka T.kn T.kc] 26))); have h45 := HS4.out.next hbb; have HSN := Lib.hid (h45.app (HX4.out.next hbb) HOB.out HOC.out hown5 hg5 hat5); clear hown5 hg5 hat5 hlt5 h45 hbb)
            | (go_at_fn g; refine (HPT.out _ (HS.out).only (HS.out).pat).mono ?_; rintro x w4 hx4; obtain ⟨T, e4, l4, rfl, hp4, ho4, hx5, ha4⟩ := hx4.cases; obtain ⟨rfl, rfl, hs4⟩ := ha4.ok_of; have HS4 := Lib.hid ((HS.out).skip hp4 ho4); have HX4 := Lib.hid hx5; have HSA := Lib.hid hs4; have hw34 := ho4.size; clear hp4 ho4 hx5 ha4 hs4))
          have hks : (([] : List XT) ++ [T]).length = ([] : List XT).length + 1 := by simp
          have hsm := Sames.nil.snoc HSA.out
          have hmz := HSN.out.pat.leftN
          go_roundw
          case rel => exact ⟨([] : List XT) ++ [T], ([] : List XT) ++ [t0], l4, f, HSN, Lib.hid hsm, HV0, by omega, by omega, by rw [hks]; simp; omega, .inr ⟨gg, cp, by simp, by rw [hks]; rfl, HR⟩⟩
          case measure => rw [hmz, hlm]; omega
    · have hkp : 0 < ks.length := List.length_pos_iff.2 hks0
      have q0 : ((ks.length : Int) == 0) = false := beq_eq_false_iff_ne.2 (by omega)
      have hE := HEx.out
      cases hct : (Cl.wd ws).test (hd m) with
      | true =>
        rw [hct] at hE
        obtain ⟨hv2, hl2⟩ := HVm.out.tail (by trivial) hct
        have hp2 := hv2.pos
        have HSK := Lib.hid (fun (v : Value) wx (hp2 : PAt wx bp tb m) (hc : ClAt wx (.wd ws) v) => skip_yes bp tb m (.wd ws) v wx hp2 hc (by omega) hm99 (Short.hd HVm.out.short) hct)
        obtain ⟨m2, hm2⟩ : ∃ q, m.tail = q := ⟨_, rfl⟩
        rw [hm2] at hE hv2 hl2 hp2 HSK
        obtain ⟨f2, rfl⟩ : ∃ f2, f = f2 + 1 := ⟨f - 1, by omega⟩
        have hE : serL P ws (f2 + 1) m2 ts = RR := hE
        rw [serL] at hE
        have HV2 := Lib.hid hv2
        clear hct hm2 hv2
        · have hless := HLS.out m2 HV2.out (by omega)
          have HPT := Lib.hid (fun wx (ho : Only (fun k => k = bp) w wx) (hpx : PAt wx bp tb m2) => HPART.out wx m2 ho hpx HV2.out (by omega))
          cases hP : P m2 with
          | err e0 l0 =>
            rw [hP] at HPT hless hE
            have HR := Lib.hid (show RR = .err e0 l0 from hE.symm)
            have q2 : (((e0 : Nat) : Int) != 0) = true := by have := hless.2.2; simp; omega
            clear hE hP hless
            go_wp2_with (first
              | (go_at_fn g; refine (HPT.out _ (HS3.out).only (HS3.out).pat).mono ?_; rintro x w4 hx4; obtain ⟨T, e4, l4, rfl, hp4, ho4, hx5, ha4⟩ := hx4.cases; obtain ⟨rfl, rfl, rfl⟩ := ha4.err_of; have HS4 := Lib.hid ((HS3.out).skip hp4 ho4); have hzz := HS4.out.res; obtain ⟨r0, f0, r1, f1, r2, f2, r3, f3⟩ := bf4 hzz; clear hzz; have zl := lt_of_block HS4.out.res; have zn : ¬ w.heap.size = w4.heap.size := (by omega); clear hp4 ho4 hx5 ha4)
              | (go_at_call 107; refine (HSK.out _ _ HS2.out.pat HC2.out).mono ?_; rintro e w3 ⟨rfl, hp3, ho3⟩; have HS3 := Lib.hid (HS2.out.skip hp3 ho3); have HOB := Lib.hid (show ∀ k, (Value.slice (some ⟨g0, 0, none⟩) ks.length cap).ownBlock = some k → k < w3.heap.size from fun k hk => (HS3.out.row.lt k hk).2); have HOC := Lib.hid (show w.heap.size < w3.heap.size from lt_of_block HS3.out.res); clear hp3 ho3)
              | (go_at_call 104; refine (wordF_any ws _ rfl _).mono ?_; rintro e w2 ⟨g2, lb2, rfl, hc2, hb2⟩; have HS2 := Lib.hid (HS.out.next hb2); have HC2 := Lib.hid hc2; clear hc2 hb2))
            have hO := only4 (b := w.heap.size) HS4.out.only (.inr (Nat.le_refl _)) (.int .i64 0) (.int .i64 0) (.slice none 0 0) (.slice none 0 0)
            have hPA := HS4.out.pat.only (K := fun k => k = w.heap.size) (only4 (b := w.heap.size) (S := fun k => k = w.heap.size) (Only.refl _ _) (.inl rfl) (.int .i64 0) (.int .i64 0) (.slice none 0 0) (.slice none 0 0)) (by have := HS4.out.lt; omega) (by have := HS4.out.lt; omega)
            refine endSer rfl w.heap.size rfl rfl (alloc_old (put4 HS4.out.res _ _ _ _)) ?_
            rw [HR.out]
            exact ⟨hO.alloc _, .nil, e4, l4, rfl, hPA.next (HTG.out _ _), trivial, .inr ⟨rfl, rfl⟩⟩
          | ok t0 l0 =>
            rw [hP] at HPT hless hE
            have HV0 := Lib.hid hless.1
            have hl0 := hless.2
            have HR := Lib.hid (show (if (Cl.wd ws).test (hd l0) then serL P ws f2 l0.tail (ts ++ [t0]) else .ok (ts ++ [t0]) l0) = RR from hE)
            clear hE hP hless
            go_wp2_with (first
              | (at_builtin; refine wpList_append_lies _ rfl _ _ 24 rfl (w.heap.size + 1) 26 i0 _ 4 64 Tryz.underlying24 hi hz0 hz1 hz2 rfl (by decide) _ _ _ rfl ((HS4.out.row.alloc _).alloc _) ⟨_, 0, none⟩ 1 1 (xtC T) rfl rfl (HNX.out T w4 _) (fun u hu => by (simp [xtC] at hu; rcases hu with rfl | rfl | rfl | rfl <;> rfl)) (by decide) (by unfold maxLen; omega) (by omega) (by have := lt_of_block HS4.out.res; simp; omega) _ rfl ?_; intro gg cp w5 hown5 hg5 hat5 hlt5; have hbb := bthen (HTG.out (.cells #[.int .i64 T.op, .int .i64 T.rel, .slice T.aa T.an T.ac, .slice T.ka T.kn T.kc] 26) w4) (HTG.out (.cells #[.int .i64 T.op, .int .i64 T.rel, .slice T.aa T.an T.ac, .slice T.ka T.kn T.kc] 26) (w4.alloc (.cells #[.int .i64 T.op, .int .i64 T.rel, .slice T.aa T.an T.ac, .slice T.ka T.kn T.kc] 26))); have h45 := HS4.out.next hbb; have HSN := Lib.hid (h45.app (HX4.out.next hbb) HOB.out HOC.out hown5 hg5 hat5); clear hown5 hg5 hat5 hlt5 h45 hbb)
              | (go_at_fn g; refine (HPT.out _ (HS3.out).only (HS3.out).pat).mono ?_; rintro x w4 hx4; obtain ⟨T, e4, l4, rfl, hp4, ho4, hx5, ha4⟩ := hx4.cases; obtain ⟨rfl, rfl, hs4⟩ := ha4.ok_of; have HS4 := Lib.hid ((HS3.out).skip hp4 ho4); have HX4 := Lib.hid hx5; have HSA := Lib.hid hs4; have hw34 := ho4.size; clear hp4 ho4 hx5 ha4 hs4)
              | (go_at_call 107; refine (HSK.out _ _ HS2.out.pat HC2.out).mono ?_; rintro e w3 ⟨rfl, hp3, ho3⟩; have HS3 := Lib.hid (HS2.out.skip hp3 ho3); have HOB := Lib.hid (show ∀ k, (Value.slice (some ⟨g0, 0, none⟩) ks.length cap).ownBlock = some k → k < w3.heap.size from fun k hk => (HS3.out.row.lt k hk).2); have HOC := Lib.hid (show w.heap.size < w3.heap.size from lt_of_block HS3.out.res); clear hp3 ho3)
              | (go_at_call 104; refine (wordF_any ws _ rfl _).mono ?_; rintro e w2 ⟨g2, lb2, rfl, hc2, hb2⟩; have HS2 := Lib.hid (HS.out.next hb2); have HC2 := Lib.hid hc2; clear hc2 hb2))
            have hks : (ks ++ [T]).length = ks.length + 1 := by simp
            have hsm := HSM.out.snoc HSA.out
            have hmz := HSN.out.pat.leftN
            go_roundw
            case rel => exact ⟨ks ++ [T], ts ++ [t0], l4, f2, HSN, Lib.hid hsm, HV0, by omega, by omega, by rw [hks]; omega, .inr ⟨gg, cp, by simp, by rw [hks], HR⟩⟩
            case measure => rw [hmz, hlm]; omega
      | false =>
        rw [hct] at hE
        have HR := Lib.hid (show RR = .ok ts m from hE.symm)
        have HSK := Lib.hid (fun (v : Value) wx (hp2 : PAt wx bp tb m) (hc : ClAt wx (.wd ws) v) => skip_no bp tb m (.wd ws) v wx hp2 hc hm0 hm99 (Short.hd HVm.out.short) hct)
        clear hct hE
        have HSS := HSK
        by_cases h1 : ks.length = 1
        · have q1 : ((ks.length : Int) == 1) = true := beq_iff_eq.2 (by omega)
          have HLN := Lib.hid (show ts.length = 1 by have := HSM.out.1; omega)
          have HK1 := Lib.hid h1
          obtain ⟨T, hT⟩ : ∃ T, ks.getD 0 .nil = T := ⟨_, rfl⟩
          have HTT := Lib.hid hT
          clear hT h1
          go_wp2_with (first
            | (go_at_call 107; refine (HSK.out _ _ HS2.out.pat HC2.out).mono ?_; rintro e w3 ⟨rfl, hb3⟩; have HS3 := Lib.hid (HS2.out.next hb3); obtain ⟨bq, oq, eq, _, _, hla⟩ := xts_at (S := fun _ => True) HS3.out.row trivial (HS3.out.row.lt g0 rfl).2 0 hkp; injection eq with eq; injection eq with eb eo _; subst eb; subst eo; rw [HTT.out] at hla; have c0 : w3.cell? ⟨g0, 0, none⟩ = some (.int .i64 T.op) := hla 0 _ rfl; have c1 : w3.cell? ⟨g0, 1, none⟩ = some (.int .i64 T.rel) := hla 1 _ rfl; have c2 : w3.cell? ⟨g0, 2, none⟩ = some (.slice T.aa T.an T.ac) := hla 2 _ rfl; have c3 : w3.cell? ⟨g0, 3, none⟩ = some (.slice T.ka T.kn T.kc) := hla 3 _ rfl; have hzz := HS3.out.res; obtain ⟨r0, f0, r1, f1, r2, f2, r3, f3⟩ := bf4 hzz; clear hzz; clear hb3 hla)
            | (go_at_call 104; refine (wordF_any ws _ rfl _).mono ?_; rintro e w2 ⟨g2, lb2, rfl, hc2, hb2⟩; have HS2 := Lib.hid (HS.out.next hb2); have HC2 := Lib.hid hc2; clear hc2 hb2))
          have hk := HS3.out.kids 0 hkp
          have hsm := HSM.out.2 0 hkp
          have hts : ts = [ts.getD 0 .nil] := list_one HLN.out
          rw [HTT.out] at hk hsm
          have h4 := only4 (b := w.heap.size) (S := fun k => k = w.heap.size) (Only.refl _ w3) (.inl rfl) (.int .i64 T.op) (.int .i64 T.rel) (.slice T.aa T.an T.ac) (.slice T.ka T.kn T.kc)
          have hO := only4 (b := w.heap.size) HS3.out.only (.inr (Nat.le_refl _)) (.int .i64 T.op) (.int .i64 T.rel) (.slice T.aa T.an T.ac) (.slice T.ka T.kn T.kc)
          have hPA := HS3.out.pat.only h4 (by have := HS3.out.lt; omega) (by have := HS3.out.lt; omega)
          refine endSer rfl w.heap.size rfl rfl (put4 HS3.out.res _ _ _ _) ⟨hO, T, 0, m, rfl, hPA, (hk.only h4 (fun b hb _ e => by have := hb.1; omega)).sub (fun b hb _ => by have := hb.1; omega), .inl ⟨rfl, ts.getD 0 .nil, ?_, hsm⟩⟩
          rw [HR.out]; show PR.ok (serX op ts) m = _; rw [hts]; rfl
        · have q1 : ((ks.length : Int) == 1) = false := beq_eq_false_iff_ne.2 (by omega)
          go_wp2_with (first
            | (go_at_call 107; refine (HSK.out _ _ HS2.out.pat HC2.out).mono ?_; rintro e w3 ⟨rfl, hb3⟩; have HS3 := Lib.hid (HS2.out.next hb3); have hzz := HS3.out.res; obtain ⟨r0, f0, r1, f1, r2, f2, r3, f3⟩ := bf4 hzz; clear hzz; clear hb3)
            | (go_at_call 104; refine (wordF_any ws _ rfl _).mono ?_; rintro e w2 ⟨g2, lb2, rfl, hc2, hb2⟩; have HS2 := Lib.hid (HS.out.next hb2); have HC2 := Lib.hid hc2; clear hc2 hb2))
          have h4 := only4 (b := w.heap.size) (S := fun k => k = w.heap.size) (Only.refl _ w3) (.inl rfl) (.int .i64 op) (.int .i64 0) (.slice none 0 0) (.slice (some ⟨g0, 0, none⟩) ks.length cap)
          have hO := only4 (b := w.heap.size) HS3.out.only (.inr (Nat.le_refl _)) (.int .i64 op) (.int .i64 0) (.slice none 0 0) (.slice (some ⟨g0, 0, none⟩) ks.length cap)
          have hPA := HS3.out.pat.only h4 (by have := HS3.out.lt; omega) (by have := HS3.out.lt; omega)
          have hrl := HS3.out.row.lt g0 rfl
          have hca := xts_at (S := fun b => w.heap.size < b) HS3.out.row (by omega) hrl.2
          refine endSer rfl w.heap.size rfl rfl (put4 HS3.out.res _ _ _ _) ⟨hO, .node op 0 none 0 0 (fun _ => default) (some ⟨g0, 0, none⟩) ks.length cap (fun i => ks.getD i .nil), 0, m, rfl, hPA, ?_, .inl ⟨rfl, mkX op 0 [] ts, ?_, ?_⟩⟩
          · refine (xat_iff _).2 ⟨⟨Nat.zero_le _, by show ks.length ≤ _; omega⟩, fun i hi => absurd hi (Nat.not_lt_zero i), fun i hi => ⟨((hca i hi).only h4 (fun b hb _ e => by omega)).held (fun b hb _ => Nat.le_of_lt hb) (Nat.le_refl _) (fun _ _ _ => rfl), ((HS3.out.kids i hi).only h4 (fun b hb _ e => by have := hb.1; omega)).sub (fun b hb _ => by have := hb.1; omega)⟩⟩
          · rw [HR.out]; show PR.ok (serX op ts) m = _; rw [serX_more op ts (by have := HSM.out.1; omega)]
          · exact (sameX_iff _ _).2 ⟨rfl, rfl, rfl, fun i hi => absurd hi (Nat.not_lt_zero i), HSM.out.1, fun i hi => HSM.out.2 i hi⟩
end Go.Proofs.YtcojomkpogikiaaGreatDoor
