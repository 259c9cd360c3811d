/- TypesFinds: for every list of types, and any place, name and number, the law returns true, and its arguments read as before. No condition. -/
import Derived.Test.YtkaddjmngfpcfaaRdg
import Derived.Test.YtkaddjmngfpcfaaTypesLawMath
namespace Go.Proofs.Ytkaddjmngfpcfaa.typesFinds
open Go.ChangeShapes Go.WideShapes Go.ChangeAt Go.RowKit
open Go.ChangeMaps (open_string shut_string)
set_option linter.unusedVariables false

theorem posZ_max (z : Int) : (if z < 0 then 0 else z) = posZ z := rfl
set_option maxRecDepth 100000 in
set_option maxHeartbeats 4000000 in
theorem walk (ao : Option Addr) (len cap : Nat) (L : Nat → TypeV) (t u : Int) (s : ByteArray) (hcap : len ≤ cap) (hm : len ≤ 140737488351232) (w : World) (H : ∀ i, i < len → TypeAt w ao i (L i)) :
    Calls Try.prog 4 #[.slice ao len cap, .agg #[.int .i64 t, .string s, .int .u64 u]] w fun e w' => e = .returned (.bool true) ∧ Below w.heap.size w w' := by
  have HL := Lib.hid (fun w1 (hb : Below w.heap.size w w1) => hold H hb)
  have hg := fun w1 (hb : Below w.heap.size w w1) => great_any ao len cap L hm w1 (hold H hb)
  have HB := Lib.hid ((Below.refl w.heap.size w).alloc (Nat.le_refl _) (.cells #[.int .i64 t, .string s, .int .u64 u] 31))
  have HK := Lib.hid (alloc_at w (.cells #[.int .i64 t, .string s, .int .u64 u] 31))
  clear H
  cases hbig : greatB L len with
  | true =>
    rw [hbig] at hg
    have HG := Lib.hid hg
    have hr := HB.out
    clear hg
    go_enter Try.func4, Try.ntmps4
    go_wp2_with (first
      | (go_at_call 6; refine (HG.out _ hr).mono ?_; rintro e w1 ⟨rfl, rfl⟩)
      | (go_at_call 9; refine (awake6_any _).mono ?_; rintro e w1 ⟨rfl, hb⟩; have hr := below_step6 hr hb; clear hb))
    go_ret
    exact ⟨rfl, hr⟩
  | false =>
    rw [hbig] at hg
    have HG := Lib.hid hg
    have hl := great_lt hbig
    have hI := fun w1 (hb : Below w.heap.size w w1) => item6_any ao len cap L t s (by omega) w1 (HL.out w1 hb)
    have hV := fun w1 (hb : Below w.heap.size w w1) => value6_any ao len cap L t u (by omega) w1 (HL.out w1 hb)
    have hN := fun w1 (hb : Below w.heap.size w w1) => branch6_any ao len cap L t u (by omega) w1 (HL.out w1 hb)
    have rI := fun w1 (hb : Below w.heap.size w w1) => refItem_any ao len cap L t s (by omega) w1 (HL.out w1 hb)
    have rV := fun w1 (hb : Below w.heap.size w w1) => refValue_any ao len cap L t u (by omega) w1 (HL.out w1 hb)
    have rN := fun w1 (hb : Below w.heap.size w w1) => refBranch_any ao len cap L t u (by omega) w1 (HL.out w1 hb)
    obtain ⟨z1, hz1⟩ : ∃ z, itemL L len t s = z := ⟨_, rfl⟩
    obtain ⟨z2, hz2⟩ : ∃ z, valueL L len t u = z := ⟨_, rfl⟩
    obtain ⟨z3, hz3⟩ : ∃ z, branchL L len t u = z := ⟨_, rfl⟩
    rw [hz1] at hI rI
    rw [hz2] at hV rV
    rw [hz3] at hN rN
    unfold foundV okZ at hI hV hN
    obtain ⟨p1, hp1⟩ : ∃ p, posZ z1 = p := ⟨_, rfl⟩
    obtain ⟨p2, hp2⟩ : ∃ p, posZ z2 = p := ⟨_, rfl⟩
    obtain ⟨p3, hp3⟩ : ∃ p, posZ z3 = p := ⟨_, rfl⟩
    obtain ⟨x1, hx1⟩ : ∃ p, decide (0 ≤ z1) = p := ⟨_, rfl⟩
    obtain ⟨x2, hx2⟩ : ∃ p, decide (0 ≤ z2) = p := ⟨_, rfl⟩
    obtain ⟨x3, hx3⟩ : ∃ p, decide (0 ≤ z3) = p := ⟨_, rfl⟩
    rw [hp1, hx1] at hI
    rw [hp2, hx2] at hV
    rw [hp3, hx3] at hN
    have HI := Lib.hid hI
    have HV := Lib.hid hV
    have HN := Lib.hid hN
    have RI := Lib.hid rI
    have RV := Lib.hid rV
    have RN := Lib.hid rN
    have HP1 := Lib.hid hp1
    have HP2 := Lib.hid hp2
    have HP3 := Lib.hid hp3
    have HX1 := Lib.hid hx1
    have HX2 := Lib.hid hx2
    have HX3 := Lib.hid hx3
    clear hg hbig hI hV hN rI rV rN hz1 hz2 hz3 hp1 hp2 hp3 hx1 hx2 hx3
    go_enter Try.func4, Try.ntmps4
    go_upto_region 6 with (first
      | (go_at_call 6; refine (HG.out _ HB.out).mono ?_; rintro e w1 ⟨rfl, rfl⟩)
      | (go_at_call 10; refine (HI.out _ HB.out).mono ?_; rintro e w2 ⟨rfl, hb2⟩; have HK := Lib.hid (rblk_keep HK.out hb2); have HB := Lib.hid (HB.out.trans (hb2.mono HB.out.size)); have k0 := cell_at (j := 0) HK.out rfl; have k1 := cell_at (j := 1) HK.out rfl; have k2 := cell_at (j := 2) HK.out rfl; clear hb2)
      | (go_at_call 11; refine (HV.out _ HB.out).mono ?_; rintro e w2 ⟨rfl, hb2⟩; have HK := Lib.hid (rblk_keep HK.out hb2); have HB := Lib.hid (HB.out.trans (hb2.mono HB.out.size)); have k0 := cell_at (j := 0) HK.out rfl; have k1 := cell_at (j := 1) HK.out rfl; have k2 := cell_at (j := 2) HK.out rfl; clear hb2)
      | (go_at_call 12; refine (HN.out _ HB.out).mono ?_; rintro e w2 ⟨rfl, hb2⟩; have HK := Lib.hid (rblk_keep HK.out hb2); have HB := Lib.hid (HB.out.trans (hb2.mono HB.out.size)); have k0 := cell_at (j := 0) HK.out rfl; have k1 := cell_at (j := 1) HK.out rfl; have k2 := cell_at (j := 2) HK.out rfl; clear hb2))
    go_cut [11, 12, 13] (fun a b c wx => a = .int .i64 z1 ∧ b = .int .i64 z2 ∧ c = .int .i64 z3 ∧ Hid (wx.heap[w.heap.size]? = some (.cells #[.int .i64 t, .string s, .int .u64 u] 31 (0, 0))) ∧ Hid (Below w.heap.size w wx))
    case first =>
      go_wp2_with fail
      go_big_quiet (first
        | (go_at_call 13; exact Calls.quiet_of_same (P := Try.prog) ((RI.out _ (by first | exact HB.out | exact drewN_below HB.out _)).mono fun _ _ ⟨a, b⟩ => ⟨a, b.symm⟩))
        | (go_at_call 14; exact Calls.quiet_of_same (P := Try.prog) ((RV.out _ (by first | exact HB.out | exact drewN_below HB.out _)).mono fun _ _ ⟨a, b⟩ => ⟨a, b.symm⟩))
        | (go_at_call 15; exact Calls.quiet_of_same (P := Try.prog) ((RN.out _ (by first | exact HB.out | exact drewN_below HB.out _)).mono fun _ _ ⟨a, b⟩ => ⟨a, b.symm⟩)))
      go_wp2
      go_meet
      exact ⟨rfl, rfl, rfl, Lib.hid HK.out, Lib.hid (drewN_below HB.out _)⟩
    case rest =>
      obtain ⟨rfl, rfl, rfl, HK9, HB9⟩ := hcut
      clear HK HB k0 k1 k2
      go_upto_region 7 with (fail)
      go_cut [95] (fun a wx => a = .bool false ∧ wc = wx)
      case first =>
        have e1 : (0 ≤ z1 ∧ x1 = true ∧ p1 = z1) ∨ (z1 < 0 ∧ x1 = false ∧ p1 = 0) := by
          rw [← HX1.out, ← HP1.out]; unfold posZ; by_cases h : z1 < 0
          · right; rw [if_pos h]; exact ⟨h, by simpa using h, rfl⟩
          · left; rw [if_neg h]; exact ⟨by omega, by simp; omega, rfl⟩
        have e2 : (0 ≤ z2 ∧ x2 = true ∧ p2 = z2) ∨ (z2 < 0 ∧ x2 = false ∧ p2 = 0) := by
          rw [← HX2.out, ← HP2.out]; unfold posZ; by_cases h : z2 < 0
          · right; rw [if_pos h]; exact ⟨h, by simpa using h, rfl⟩
          · left; rw [if_neg h]; exact ⟨by omega, by simp; omega, rfl⟩
        have e3 : (0 ≤ z3 ∧ x3 = true ∧ p3 = z3) ∨ (z3 < 0 ∧ x3 = false ∧ p3 = 0) := by
          rw [← HX3.out, ← HP3.out]; unfold posZ; by_cases h : z3 < 0
          · right; rw [if_pos h]; exact ⟨h, by simpa using h, rfl⟩
          · left; rw [if_neg h]; exact ⟨by omega, by simp; omega, rfl⟩
        clear HX1 HX2 HX3 HP1 HP2 HP3 HI HV HN RI RV RN
        rcases e1 with ⟨s1, rfl, rfl⟩ | ⟨s1, rfl, rfl⟩ <;> rcases e2 with ⟨s2, rfl, rfl⟩ | ⟨s2, rfl, rfl⟩ <;> rcases e3 with ⟨s3, rfl, rfl⟩ | ⟨s3, rfl, rfl⟩
        all_goals
          go_wp2
          all_goals
            go_meet
            exact ⟨by first | rfl | (simp; omega), by first | rfl | trivial⟩
      case rest =>
        obtain ⟨rfl, rfl⟩ := hcut
        clear HX1 HX2 HX3 HP1 HP2 HP3 HI HV HN RI RV RN
        have hc2 := fun w1 (hb : Below w.heap.size w w1) => refCheck_any ao len cap L (by omega) w1 (HL.out w1 hb)
        have hd1 := fun w1 (hb : Below w.heap.size w w1) => deep6_any ao len cap L (by omega) t w1 (HL.out w1 hb)
        have hd2 := fun w1 (hb : Below w.heap.size w w1) => refDeep_any ao len cap L (by omega) t w1 (HL.out w1 hb)
        unfold faultV at hc2
        unfold DeepTo at hd2
        obtain ⟨E, hE⟩ : ∃ E, fErr (oneR L len) len = E := ⟨_, rfl⟩
        obtain ⟨A, hA⟩ : ∃ A, fAt (oneR L len) len = A := ⟨_, rfl⟩
        obtain ⟨d, hd⟩ : ∃ d, deepL L len t = d := ⟨_, rfl⟩
        rw [hE, hA] at hc2
        rw [hd] at hd1 hd2
        have HC := Lib.hid hc2
        have HD := Lib.hid hd1
        have RD := Lib.hid hd2
        have HFE := fault_err E A
        have k0 := cell_at (j := 0) HK9.out rfl
        clear hc2 hd1 hd2 hE hA hd
        by_cases h0 : E = 0
        · subst h0
          go_wp2_with fail
          go_region_held3 (fun w' => w'.cell? ⟨w.heap.size, 0, none⟩ = some (.int .i64 t) ∧ Hid (Below w.heap.size w w'))
            (first | exact ⟨k0, Lib.hid HB9.out.drew⟩ | exact ⟨k0, HB9⟩ | fail)
            (first
              | (go_at_call 8; refine (HC.out _ (by first | exact HB9.out | exact HB9.out.drew)).mono ?_; rintro e w3 ⟨rfl, hb3⟩; have k0 := keep6 hb3 (by exact k0); have HB9 := Lib.hid (below_step6 (by first | exact HB9.out | exact HB9.out.drew) hb3); clear hb3)
              | (go_at_call 16; refine (HD.out _ (by first | exact HB9.out | exact HB9.out.drew)).mono ?_; rintro e w3 ⟨rfl, hb3⟩; have k0 := keep6 hb3 (by exact k0); have HB9 := Lib.hid (below_step6 (by first | exact HB9.out | exact HB9.out.drew) hb3); clear hb3)
              | (go_at_call 17; refine (RD.out _ (by first | exact HB9.out | exact HB9.out.drew)).mono ?_; rintro e w3 ⟨rfl, hb3⟩; have k0 := keep6 hb3 (by exact k0); have HB9 := Lib.hid (below_step6 (by first | exact HB9.out | exact HB9.out.drew) hb3); clear hb3)
              | (go_at_call 9; refine (awake6_any _).mono ?_; rintro e w3 ⟨rfl, hb3⟩; have k0 := keep6 hb3 (by exact k0); have HB9 := Lib.hid (below_step6 (by first | exact HB9.out | exact HB9.out.drew) hb3); clear hb3))
          go_wp2_with fail
          go_ret
          exact ⟨rfl, HB9.out⟩
        · have hE1 : (E != 0) = true := by simpa using h0
          go_wp2_with fail
          refine wp_region_held_drew (S := (fun w' => Hid (Below w.heap.size w w'))) (by kernel_rfl) (Lib.hid HB9.out.drew) (fun hHeld => ?_)
          refine wpAnyH_take (i := 0) (oi := { dst := some 96, op := Op.move (Go.Operand.tmp 0), type := 22, pos := "law.go:43", after := #[], guard := none }) (v := ?_) rfl (by kernel_rfl) (by kernel_rfl) (by kernel_rfl) (fun _ _ _ h => h) (Or.inl ⟨by rfl, ?_⟩) hHeld ?_
          rotate_left 1
          · (intro wx hSw; obtain q0 := hSw; go_simp; try with_reducible rfl)
          try simp only [Act.put, List.setIfInBounds_toArray, List.set_cons_zero, List.set_cons_succ]
          refine wpAnyH_ready (rs := [1]) (by kernel_rfl) (by simp) ?_
          refine AllReadyH.cons (o := { dst := some 97, op := Op.call { callee := Go.Callee.value (Go.Operand.func 8), args := #[Go.Operand.tmp 96], argTypes := #[22] }, type := 26, pos := "law.go:43", after := #[{ on := 0, ground := Go.Ground.data }], guard := none }) rfl (fun K hK => ?_) AllReadyH.nil
          go_simp
          (go_at_call 8; refine (HC.out _ (Hid.out hHeld)).mono ?_; rintro e w3 ⟨rfl, hb3⟩)
          refine hK.out _ _ (Lib.hid (below_step6 (Hid.out hHeld) hb3)) (fun hHeld => ?_)
          clear hK K
          try simp only [Act.put, List.setIfInBounds_toArray, List.set_cons_zero, List.set_cons_succ]
          refine wpAnyH_take (i := 2) (oi := { dst := some 98, op := Op.field 26 (Go.Operand.tmp 97) 0, type := 24, pos := "law.go:43", after := #[{ on := 1, ground := Go.Ground.data }], guard := none }) (v := ?_) rfl (by kernel_rfl) (by kernel_rfl) (by kernel_rfl) (fun _ _ _ h => h) (Or.inl ⟨by rfl, ?_⟩) hHeld ?_
          rotate_left 1
          · (intro wx hSw; obtain q0 := hSw; go_simp; try with_reducible rfl)
          try simp only [Act.put, List.setIfInBounds_toArray, List.set_cons_zero, List.set_cons_succ]
          refine wpAnyH_take (i := 3) (oi := { dst := some 99, op := Op.binOp Go.BinOp.neq 24 (Go.Operand.tmp 98) (Go.Operand.const (Go.Value.int Go.IntKind.i64 0)) 24, type := 4, pos := "law.go:43", after := #[{ on := 2, ground := Go.Ground.data }], guard := none }) (v := ?_) rfl (by kernel_rfl) (by kernel_rfl) (by kernel_rfl) (fun _ _ _ h => h) (Or.inl ⟨by rfl, ?_⟩) hHeld ?_
          rotate_left 1
          · (intro wx hSw; obtain q0 := hSw; go_simp; try with_reducible rfl)
          try simp only [Act.put, List.setIfInBounds_toArray, List.set_cons_zero, List.set_cons_succ]
          refine wpAnyH_take (i := 4) (oi := { dst := some 100, op := Op.move (Go.Operand.tmp 99), type := 4, pos := "law.go:43", after := #[{ on := 3, ground := Go.Ground.data }, { on := 1, ground := Go.Ground.chain }], guard := none }) (v := ?_) rfl (by kernel_rfl) (by kernel_rfl) (by kernel_rfl) (fun _ _ _ h => h) (Or.inl ⟨by rfl, ?_⟩) hHeld ?_
          rotate_left 1
          · (intro wx hSw; obtain q0 := hSw; go_simp; try with_reducible rfl)
          try simp only [Act.put, List.setIfInBounds_toArray, List.set_cons_zero, List.set_cons_succ]
          refine wpAnyH_take (i := 5) (oi := { dst := some 101, op := Op.move (Go.Operand.tmp 0), type := 22, pos := "law.go:43", after := #[{ on := 4, ground := Go.Ground.guard }], guard := some (4, false) }) (v := undef) rfl (by kernel_rfl) (by kernel_rfl) (by kernel_rfl) (fun _ _ _ h => h) (Or.inr ⟨by rfl, rfl⟩) hHeld ?_
          try simp only [Act.put, List.setIfInBounds_toArray, List.set_cons_zero, List.set_cons_succ]
          refine wpAnyH_take (i := 6) (oi := { dst := some 102, op := Op.fieldAddr 31 (Go.Operand.tmp 3) 0, type := 0, pos := "law.go:43", after := #[{ on := 4, ground := Go.Ground.guard }], guard := some (4, false) }) (v := undef) rfl (by kernel_rfl) (by kernel_rfl) (by kernel_rfl) (fun _ _ _ h => h) (Or.inr ⟨by rfl, rfl⟩) hHeld ?_
          try simp only [Act.put, List.setIfInBounds_toArray, List.set_cons_zero, List.set_cons_succ]
          refine wpAnyH_take (i := 7) (oi := { dst := some 103, op := Op.load 3 (Go.Operand.tmp 102), type := 3, pos := "law.go:43", after := #[{ on := 6, ground := Go.Ground.data }, { on := 4, ground := Go.Ground.guard }], guard := some (4, false) }) (v := undef) rfl (by kernel_rfl) (by kernel_rfl) (by kernel_rfl) (fun _ _ _ h => h) (Or.inr ⟨by rfl, rfl⟩) hHeld ?_
          try simp only [Act.put, List.setIfInBounds_toArray, List.set_cons_zero, List.set_cons_succ]
          refine wpAnyH_take (i := 8) (oi := { dst := some 104, op := Op.call { callee := Go.Callee.value (Go.Operand.func 16), args := #[Go.Operand.tmp 101, Go.Operand.tmp 103], argTypes := #[22, 3] }, type := 3, pos := "law.go:43", after := #[{ on := 5, ground := Go.Ground.data }, { on := 7, ground := Go.Ground.data }, { on := 4, ground := Go.Ground.chain }, { on := 4, ground := Go.Ground.guard }], guard := some (4, false) }) (v := undef) rfl (by kernel_rfl) (by kernel_rfl) (by kernel_rfl) (fun _ _ _ h => h) (Or.inr ⟨by rfl, rfl⟩) hHeld ?_
          try simp only [Act.put, List.setIfInBounds_toArray, List.set_cons_zero, List.set_cons_succ]
          refine wpAnyH_take (i := 9) (oi := { dst := some 105, op := Op.move (Go.Operand.tmp 0), type := 22, pos := "law.go:43", after := #[{ on := 4, ground := Go.Ground.guard }], guard := some (4, false) }) (v := undef) rfl (by kernel_rfl) (by kernel_rfl) (by kernel_rfl) (fun _ _ _ h => h) (Or.inr ⟨by rfl, rfl⟩) hHeld ?_
          try simp only [Act.put, List.setIfInBounds_toArray, List.set_cons_zero, List.set_cons_succ]
          refine wpAnyH_take (i := 10) (oi := { dst := some 106, op := Op.fieldAddr 31 (Go.Operand.tmp 3) 0, type := 0, pos := "law.go:43", after := #[{ on := 4, ground := Go.Ground.guard }], guard := some (4, false) }) (v := undef) rfl (by kernel_rfl) (by kernel_rfl) (by kernel_rfl) (fun _ _ _ h => h) (Or.inr ⟨by rfl, rfl⟩) hHeld ?_
          try simp only [Act.put, List.setIfInBounds_toArray, List.set_cons_zero, List.set_cons_succ]
          refine wpAnyH_take (i := 11) (oi := { dst := some 107, op := Op.load 3 (Go.Operand.tmp 106), type := 3, pos := "law.go:43", after := #[{ on := 10, ground := Go.Ground.data }, { on := 4, ground := Go.Ground.guard }], guard := some (4, false) }) (v := undef) rfl (by kernel_rfl) (by kernel_rfl) (by kernel_rfl) (fun _ _ _ h => h) (Or.inr ⟨by rfl, rfl⟩) hHeld ?_
          try simp only [Act.put, List.setIfInBounds_toArray, List.set_cons_zero, List.set_cons_succ]
          refine wpAnyH_take (i := 12) (oi := { dst := some 108, op := Op.call { callee := Go.Callee.value (Go.Operand.func 17), args := #[Go.Operand.tmp 105, Go.Operand.tmp 107], argTypes := #[22, 3] }, type := 3, pos := "law.go:43", after := #[{ on := 9, ground := Go.Ground.data }, { on := 11, ground := Go.Ground.data }, { on := 8, ground := Go.Ground.chain }, { on := 4, ground := Go.Ground.guard }], guard := some (4, false) }) (v := undef) rfl (by kernel_rfl) (by kernel_rfl) (by kernel_rfl) (fun _ _ _ h => h) (Or.inr ⟨by rfl, rfl⟩) hHeld ?_
          try simp only [Act.put, List.setIfInBounds_toArray, List.set_cons_zero, List.set_cons_succ]
          refine wpAnyH_take (i := 13) (oi := { dst := some 109, op := Op.binOp Go.BinOp.eql 3 (Go.Operand.tmp 104) (Go.Operand.tmp 108) 3, type := 4, pos := "law.go:43", after := #[{ on := 8, ground := Go.Ground.data }, { on := 12, ground := Go.Ground.data }, { on := 4, ground := Go.Ground.guard }], guard := some (4, false) }) (v := undef) rfl (by kernel_rfl) (by kernel_rfl) (by kernel_rfl) (fun _ _ _ h => h) (Or.inr ⟨by rfl, rfl⟩) hHeld ?_
          try simp only [Act.put, List.setIfInBounds_toArray, List.set_cons_zero, List.set_cons_succ]
          refine wpAnyH_take (i := 14) (oi := { dst := some 110, op := Op.pick (Go.Operand.tmp 100) (Go.Operand.const (Go.Value.bool true)) (Go.Operand.tmp 109), type := 4, pos := "law.go:43", after := #[{ on := 4, ground := Go.Ground.data }, { on := 13, ground := Go.Ground.data }], guard := none }) (v := ?_) rfl (by kernel_rfl) (by kernel_rfl) (by kernel_rfl) (fun _ _ _ h => h) (Or.inl ⟨by rfl, ?_⟩) hHeld ?_
          rotate_left 1
          · (intro wx hSw; obtain q0 := hSw; go_simp; try with_reducible rfl)
          try simp only [Act.put, List.setIfInBounds_toArray, List.set_cons_zero, List.set_cons_succ]
          refine wpAnyH_take (i := 15) (oi := { dst := some 111, op := Op.move (Go.Operand.tmp 110), type := 4, pos := "law.go:43", after := #[{ on := 14, ground := Go.Ground.data }, { on := 12, ground := Go.Ground.chain }], guard := none }) (v := ?_) rfl (by kernel_rfl) (by kernel_rfl) (by kernel_rfl) (fun _ _ _ h => h) (Or.inl ⟨by rfl, ?_⟩) hHeld ?_
          rotate_left 1
          · (intro wx hSw; obtain q0 := hSw; go_simp; try with_reducible rfl)
          try simp only [Act.put, List.setIfInBounds_toArray, List.set_cons_zero, List.set_cons_succ]
          refine wpAnyH_ready (rs := [16]) (by kernel_rfl) (by simp) ?_
          refine AllReadyH.cons (o := { dst := some 112, op := Op.call { callee := Go.Callee.value (Go.Operand.func 9), args := #[], argTypes := #[] }, type := 4, pos := "law.go:43", after := #[{ on := 15, ground := Go.Ground.chain }, { on := 15, ground := Go.Ground.guard }], guard := some (15, true) }) rfl (fun K hK => ?_) AllReadyH.nil
          go_simp
          (go_at_call 9; refine (awake6_any _).mono ?_; rintro e w3 ⟨rfl, hb3⟩)
          refine hK.out _ _ (Lib.hid (below_step6 (Hid.out hHeld) hb3)) (fun hHeld => ?_)
          clear hK K
          try simp only [Act.put, List.setIfInBounds_toArray, List.set_cons_zero, List.set_cons_succ]
          refine wpAnyH_take (i := 17) (oi := { dst := some 113, op := Op.pick (Go.Operand.tmp 111) (Go.Operand.tmp 112) (Go.Operand.const (Go.Value.bool false)), type := 4, pos := "law.go:43", after := #[{ on := 15, ground := Go.Ground.data }, { on := 16, ground := Go.Ground.data }], guard := none }) (v := ?_) rfl (by kernel_rfl) (by kernel_rfl) (by kernel_rfl) (fun _ _ _ h => h) (Or.inl ⟨by rfl, ?_⟩) hHeld ?_
          rotate_left 1
          · (intro wx hSw; obtain q0 := hSw; go_simp; try with_reducible rfl)
          try simp only [Act.put, List.setIfInBounds_toArray, List.set_cons_zero, List.set_cons_succ]
          refine wpAnyH_take (i := 18) (oi := { dst := some 4, op := Op.assign (Go.Operand.tmp 113), type := 4, pos := "law.go:43", after := #[{ on := 17, ground := Go.Ground.data }, { on := 16, ground := Go.Ground.chain }, { on := 0, ground := Go.Ground.phase }, { on := 1, ground := Go.Ground.phase }, { on := 2, ground := Go.Ground.phase }, { on := 3, ground := Go.Ground.phase }, { on := 4, ground := Go.Ground.phase }, { on := 5, ground := Go.Ground.phase }, { on := 6, ground := Go.Ground.phase }, { on := 7, ground := Go.Ground.phase }, { on := 8, ground := Go.Ground.phase }, { on := 9, ground := Go.Ground.phase }, { on := 10, ground := Go.Ground.phase }, { on := 11, ground := Go.Ground.phase }, { on := 12, ground := Go.Ground.phase }, { on := 13, ground := Go.Ground.phase }, { on := 14, ground := Go.Ground.phase }, { on := 15, ground := Go.Ground.phase }, { on := 16, ground := Go.Ground.phase }, { on := 17, ground := Go.Ground.phase }], guard := none }) (v := ?_) rfl (by kernel_rfl) (by kernel_rfl) (by kernel_rfl) (fun _ _ _ h => h) (Or.inl ⟨by rfl, ?_⟩) hHeld ?_
          rotate_left 1
          · (intro wx hSw; obtain q0 := hSw; go_simp; try with_reducible rfl)
          try simp only [Act.put, List.setIfInBounds_toArray, List.set_cons_zero, List.set_cons_succ]
          refine wpAnyH_done (by kernel_rfl) ?_ _
          go_wp2_with fail
          go_ret
          exact ⟨rfl, Hid.out hHeld⟩
set_option maxRecDepth 100000 in
theorem lifted (os : Os) (started : os.Started) (H : Type) (enc : TypeId × Value → H) :
    ReturnsInHanded {} Try.checked os 4 .any (Rows.typesFindsSpec.pre6 enc Try.prog Try.f4 Rows.typesFindsRow.domain false) (Rows.typesFindsSpec.post enc Try.prog Try.f4 false true false false) := by
  refine returnsInHanded_of_change_sized (C := Try.checked) own started (by kernel_rfl) Try.func4
    (ChangeSpec.witness6 (enc := enc) (C := Try.checked) false ⟨#[], #[.slice none 0 0, .agg #[.int .i64 0, .string ⟨#[]⟩, .int .u64 0]], []⟩ 8 (by kernel_rfl) (by kernel_rfl) (by kernel_rfl) (by kernel_rfl)) ?_
  intro W base args ds gs before hval0 hW hcnd hsz _
  have hval : ∀ (j : Nat) t v, Try.f4.params[j]? = some t → args[j]? = some v → Value.okWide Try.prog W .any base t v := hval0
  have hW' := hW
  obtain ⟨p, q, hA0, hV, rfl, hfz, hnd⟩ := hW
  have hA : DataW.TrodAll enc Try.prog W 0 (fun _ => true) true Try.f4.params.toList args.toList ds p := hA0
  rw [Try.params4] at hA hval
  obtain ⟨rfl, rfl⟩ := trodVars_none hV
  clear hA0 hval0
  simp only [List.append_nil] at hW'
  have hlt := hW'.lt
  have hA1 := hA
  have hsz1 : (DataW.weightsEach Try.prog (Try.f4.params.toList ++ []) (ds ++ [])).all (· ≤ reachBytes) = true := hsz
  rw [Try.params4, List.append_nil, List.append_nil] at hsz1
  have hrd := rdg_all _ _ _ _ hA1 (fun n hn => by simpa using List.all_eq_true.1 hsz1 n hn)
  obtain ⟨v0, vs0, d0, ds0, p0, q0, hargs, rfl, rfl, h0, r0⟩ := trodAll_cons hA
  obtain ⟨v1, vs1, d1, ds1, p1, q1, rfl, rfl, rfl, h1, r1⟩ := trodAll_cons r0
  obtain ⟨rfl, rfl, rfl⟩ := trodAll_nil r1
  obtain rfl : args = #[v0, v1] := by cases args; simp_all
  have g1 := hrd 1 31 v1 rfl rfl
  obtain ⟨cs1, rfl, hz1⟩ := ok_agg (by first | exact .inl ⟨_, Try.underlying31⟩ | exact .inr ⟨_, _, Try.underlying31⟩) (hval 1 31 v1 rfl rfl)

  obtain ⟨ao, len, cap, L, rfl, hcap, _, hm, H⟩ := types_of2 (rop_slice 6 Try.underlying22 (by kernel_rfl) (hval 0 22 v0 rfl rfl) (hrd 0 22 v0 rfl rfl))
  obtain ⟨c0, c1, c2, rfl⟩ := arr3 (hz1.trans (by kernel_rfl))
  obtain ⟨t, et, wt⟩ := rdg_int Try.underlying3 (rdg_field Try.underlying31 g1 0 3 0 1 rfl (by kernel_rfl))
  obtain ⟨s, es, ws⟩ := rdg_string Try.underlying9 (rdg_field Try.underlying31 g1 1 9 1 1 rfl (by kernel_rfl))
  obtain ⟨u, eu, wu⟩ := rdg_int Try.underlying29 (rdg_field Try.underlying31 g1 2 29 2 1 rfl (by kernel_rfl))
  simp [Value.cells] at et es eu
  subst et es eu
  refine (walk ao len cap L t u s hcap hm W H).mono fun e W' ⟨he, bel⟩ => ?_
  subst he
  exact ⟨_, rfl, _, _, _, [], _, [], hW', trodAll_mk1 (shut_bool Try.underlying4 _), trodAll_below laidOut bel [22, 31] _ _ _ (by kernel_rfl) hA1 hlt, rfl, bel.frame _, fun h => by cases h⟩
theorem over : Rows.typesFindsRow.holds Try.pinned (OpenSpec.ofChange Rows.typesFindsSpec) :=
  OpenClaim.holds_of_wide 4 Try.f4 rfl rfl rfl rfl rfl rfl rfl ⟨rfl, rfl, rfl, rfl, rfl⟩ rfl rfl rfl rfl rfl (by kernel_rfl) Try.func4 (by kernel_rfl)
    (of_decide_eq_true (by kernel_rfl)) (by unfold Func.isWrapper; first | (rw [if_pos (by decide +kernel)]; kernel_rfl) | (rw [if_neg (by decide +kernel)]; exact ⟨rfl, rfl⟩))
    (fun os started H enc _ => lifted os started H enc)
theorem proved : Rows.TypesFindsSaid := over
#print axioms proved
end Go.Proofs.Ytkaddjmngfpcfaa.typesFinds
