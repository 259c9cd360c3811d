/- The reference's Same, where two lists are the same. -/
import Derived.Test.YtcdplpdgokhopaaDoorTokToks
import Derived.Test.YtcdplpdgokhopaaDoorRegionDeep
import Derived.Deep.DeepCutAuto
import Derived.Laws.StructEq
namespace Go.Proofs.YtcdplpdgokhopaaDoor
open Go.RowKit
set_option linter.unusedVariables false
set_option maxRecDepth 100000 in
theorem tok_eq (x : TkV) (w : World) : (binOp .neq 33 (.agg #[.int .i64 x.k, .string x.t, .int .u64 x.n, .int .i64 x.a]) (.agg #[.int .i64 x.k, .string x.t, .int .u64 x.n, .int .i64 x.a])).run Tryd.prog w = .ok (.bool false) w := by
  have hu := Tryd.underlying33
  have hi := Tryd.underlying3
  have hn := Tryd.underlying31
  have hs := Tryd.underlying9
  have p0 := fun w => run_equalIn_int (P := Tryd.prog) w 9998 3 .i64 .i64 x.k x.k hi
  have p1 := fun w => run_equalIn_string (P := Tryd.prog) w 9998 9 x.t x.t hs
  have p2 := fun w => run_equalIn_int (P := Tryd.prog) w 9998 31 .u64 .u64 x.n x.n hn
  have p3 := fun w => run_equalIn_int (P := Tryd.prog) w 9998 3 .i64 .i64 x.a x.a hi
  rw [run_neq_struct, run_equalIn_agg _ 9999 _ _ _ (by kernel_rfl) (by kernel_rfl)]
  simp only [Program.fieldsOf, hu]
  simp [Op.eqFields, go_sem, p0, p1, p2, p3]
theorem lt_of_cellT {w : World} {b o : Nat} {v : Value} (h : w.cell? ⟨b, o, none⟩ = some v) : b < w.heap.size := World.block_lt_of_cell? w _ h
def sameTk (p : Bool) (x y : TkV) : Prop := x.k = y.k ∧ x.t = y.t ∧ x.n = y.n ∧ (p = true → x.a = y.a)
set_option maxRecDepth 100000 in
set_option maxHeartbeats 4000000 in
theorem same_any (ao bo : Option Addr) (n ca cb : Nat) (L M : Nat → TkV) (p : Bool) (hn : n ≤ 1000) (w : World) (HL : ∀ i, i < n → TkAt w ao i (L i)) (HM : ∀ i, i < n → TkAt w bo i (M i)) (hs : ∀ i, i < n → sameTk p (L i) (M i)) :
    Calls Tryd.prog 8 #[.slice ao n ca, .slice bo n cb, .bool p] w fun e w' => e = .returned (.bool true) ∧ Below w.heap.size w w' := by
  have HHL := Lib.hid HL
  have HHM := Lib.hid HM
  have HS := Lib.hid hs
  have HEQ := Lib.hid tok_eq
  clear HL HM hs
  go_enter Tryd.func8, Tryd.ntmps8
  go_wp2_with (fail)
  go_loopw [7] (fun i wr => ∃ j : Nat, j ≤ n ∧ i = .int .i64 j ∧ Hid (Below w.heap.size w wr)) (fun i _ => n - (intOf i).toNat)
  case atStart => exact ⟨0, Nat.zero_le _, rfl, Lib.hid (Below.refl _ _)⟩
  case round =>
    obtain ⟨j, hj, rfl, HB⟩ := hrel
    by_cases hlt : j < n
    · obtain ⟨b, off, rfl, c0, c1, c2, c3⟩ := (HHL.out j hlt).held HB.out
      obtain ⟨b', off', rfl, d0, d1, d2, d3⟩ := (HHM.out j hlt).held HB.out
      obtain ⟨e1, e2, e3, e4⟩ := HS.out j hlt
      obtain ⟨X, hX⟩ : ∃ X, L j = X := ⟨_, rfl⟩
      obtain ⟨Y, hY⟩ : ∃ Y, M j = Y := ⟨_, rfl⟩
      rw [hX] at c0 c1 c2 c3 e1 e2 e3 e4
      rw [hY] at d0 d1 d2 d3 e1 e2 e3 e4
      obtain ⟨k, t, m, a⟩ := X
      obtain ⟨k', t', m', a'⟩ := Y
      dsimp only at c0 c1 c2 c3 d0 d1 d2 d3 e1 e2 e3 e4
      subst e1 e2 e3
      have hq := lt_of_cellT c0
      have hq' := lt_of_cellT d0
      have hq2 : ¬ b = wr.heap.size := by omega
      have hq3 : ¬ b' = wr.heap.size := by omega
      have HEQX := Lib.hid (HEQ.out ⟨k, t, m, a'⟩)
      clear hX hY
      cases p with
      | true =>
        have e5 := e4 rfl
        subst e5
        clear e4
        go_upto_region 9 with (fail)
        have hW := alloc_at wr (.cells #[.int .i64 k, .string t, .int .u64 m, .int .i64 a] 33)
        have hB1 := (Below.refl wr.heap.size wr).alloc (Nat.le_refl _) (.cells #[.int .i64 k, .string t, .int .u64 m, .int .i64 a] 33)
        obtain ⟨bx, hbx⟩ : ∃ bx, wr.heap.size = bx := ⟨_, rfl⟩
        have HB1 := Lib.hid (HB.out.trans (hB1.mono HB.out.size))
        generalize hWg : wr.alloc (.cells #[.int .i64 k, .string t, .int .u64 m, .int .i64 a] 33) = W at hW hB1 HB1 ⊢
        have g0 := keepL hB1 d0
        have g1 := keepL hB1 d1
        have g2 := keepL hB1 d2
        have g3 := keepL hB1 d3
        rw [hbx] at hW
        try simp only [hbx]
        have f0 : W.cell? ⟨bx, 0, none⟩ = some (.int .i64 k) := cell_at hW rfl
        have f1 : W.cell? ⟨bx, 1, none⟩ = some (.string t) := cell_at hW rfl
        have f2 : W.cell? ⟨bx, 2, none⟩ = some (.int .u64 m) := cell_at hW rfl
        have f3 : W.cell? ⟨bx, 3, none⟩ = some (.int .i64 a) := cell_at hW rfl
        have heq := HEQX.out
        clear c0 c1 c2 c3 d0 d1 d2 d3 hq hq' hq2 hq3 hWg hW hB1 hbx
        go_wp2_with fail
        go_quiet (fail)
        all_goals go_wp2_with fail
        all_goals exact ⟨⟨j + 1, by omega, by go_num, Lib.hid ⟨HB1.out.os, HB1.out.tape, HB1.out.output, HB1.out.size, HB1.out.block⟩⟩, by simp [intOf]; omega⟩
      | false =>
        clear e4
        go_upto_region 9 with (fail)
        have hW := alloc_at wr (.cells #[.int .i64 k, .string t, .int .u64 m, .int .i64 a'] 33)
        have hB1 := (Below.refl wr.heap.size wr).alloc (Nat.le_refl _) (.cells #[.int .i64 k, .string t, .int .u64 m, .int .i64 a'] 33)
        obtain ⟨bx, hbx⟩ : ∃ bx, wr.heap.size = bx := ⟨_, rfl⟩
        have HB1 := Lib.hid (HB.out.trans (hB1.mono HB.out.size))
        generalize hWg : wr.alloc (.cells #[.int .i64 k, .string t, .int .u64 m, .int .i64 a'] 33) = W at hW hB1 HB1 ⊢
        have g0 := keepL hB1 d0
        have g1 := keepL hB1 d1
        have g2 := keepL hB1 d2
        have g3 := keepL hB1 d3
        rw [hbx] at hW
        try simp only [hbx]
        have f0 : W.cell? ⟨bx, 0, none⟩ = some (.int .i64 k) := cell_at hW rfl
        have f1 : W.cell? ⟨bx, 1, none⟩ = some (.string t) := cell_at hW rfl
        have f2 : W.cell? ⟨bx, 2, none⟩ = some (.int .u64 m) := cell_at hW rfl
        have f3 : W.cell? ⟨bx, 3, none⟩ = some (.int .i64 a') := cell_at hW rfl
        have heq := HEQX.out
        clear c0 c1 c2 c3 d0 d1 d2 d3 hq hq' hq2 hq3 hWg hW hB1 hbx
        go_wp2_with fail
        go_quiet (fail)
        all_goals go_wp2_with fail
        all_goals exact ⟨⟨j + 1, by omega, by go_num, Lib.hid ⟨HB1.out.os, HB1.out.tape, HB1.out.output, HB1.out.size, HB1.out.block⟩⟩, by simp [intOf]; omega⟩
    · go_wp2_with (fail)
      go_ret
      exact ⟨rfl, HB.out⟩
end Go.Proofs.YtcdplpdgokhopaaDoor
