/- Contract of package prim's rows: the array that it makes, and a row of it. -/
import Derived.Test.YtohphejhlgnciaaGreatPrimRefCmp
import Derived.Deep.WholeRow
import Derived.Great.BuildSlice
namespace Go.Proofs.YtohphejhlgnciaaGreat
open Go.RowKit
set_option linter.unusedVariables false
def rowsC : Array Value := #[.int .i64 0, .bool false, .int .i64 1, .bool false, .int .i64 1, .bool false, .int .i64 2, .bool true, .int .i64 2, .bool false, .int .i64 4, .bool true, .int .i64 4, .bool false, .int .i64 8, .bool true, .int .i64 8, .bool false, .int .i64 4, .bool true]
theorem rows_any (w : World) : Calls Tryz.prog 119 #[] w fun e w' => e = .returned (.agg rowsC) ∧ Below w.heap.size w w' := by
  go_enter Tryz.func119, Tryz.ntmps119
  go_wp2_with (first
    | (refine wpList_buildTo rfl 107 _ rfl (some 10) rfl rowsC (by kernel_rfl) ?_)
    | (refine wpList_store_rowTo rfl 107 _ _ rfl rfl w.heap.size rowsC rfl rfl _ _ (heap_alloc_last w _) (by kernel_rfl) (by kernel_rfl) (by kernel_rfl) ?_))
  rw [World.setRow_alloc_new]
  refine bodyPost_ret (v := .agg rowsC) ?_ rfl ⟨rfl, by go_grown⟩
  have hl := run_loadVar_new (P := Tryz.prog) w 107 rowsC 10 _ Tryz.underlying107 (by kernel_rfl)
  simp [results, Tryz.results119, asAddr, Act.put]
  exact hl
theorem number_same (k : Int) (w : World) : Calls Tryz.prog 41 #[.int .i64 k] w fun e w' => e = .returned (.bool (numK k)) ∧ w = w' := by
  go_enter Tryz.func41, Tryz.ntmps41
  go_wp2
  all_goals
    go_ret
    refine ⟨ret_bool ?_, rfl⟩
    rw [Bool.eq_iff_iff]; simp [numK]; try omega
theorem rblk_keep {w w1 : World} {b : Nat} {o : Obj} (h : w.heap[b]? = some o) (hb : Below w.heap.size w w1) : w1.heap[b]? = some o := (hb.block b (lt_of_block h)).trans h
theorem rblk_new {w w1 : World} {o : Obj} (hb : Below (w.alloc o).heap.size (w.alloc o) w1) : w1.heap[w.heap.size]? = some o := rblk_keep (alloc_at w o) hb
theorem row_at (k : Int) (hk : numK k = true) (w : World) : (Instr.index 107 (.agg rowsC) (.int .i64 k)).run Tryz.prog w = .ok (.agg #[.int .i64 (szK k), .bool (sgK k)]) w := by
  rcases numK_cases hk with rfl | rfl | rfl | rfl | rfl | rfl | rfl | rfl | rfl <;> kernel_rfl
theorem rowOf_any (k : Int) (w : World) : Calls Tryz.prog 113 #[.int .i64 k] w fun e w' => e = .returned (.agg #[.int .i64 (szK k), .bool (sgK k)]) ∧ Below w.heap.size w w' := by
  have hr := Below.refl w.heap.size w
  cases hk : numK k with
  | false =>
    have hz : szK k = 0 := by simp [numK] at hk; unfold szK; rw [if_neg (by omega), if_neg (by omega), if_neg (by omega), if_neg (by omega)]
    have hs : sgK k = false := by
      cases h : sgK k with
      | false => rfl
      | true => have := sgK_num h; rw [hk] at this; cases this
    rw [hz, hs]
    clear hz hs
    have HN := Lib.hid (fun w => hk ▸ number_same k w)
    go_enter Tryz.func113, Tryz.ntmps113
    go_wp2_with (go_at_call 41; refine (HN.out _).mono ?_; rintro e w' ⟨rfl, rfl⟩)
    go_returns
    exact ⟨rfl, by go_grown⟩
  | true =>
    have HN := Lib.hid (fun w => hk ▸ number_same k w)
    have hix := row_at k hk
    clear hk
    go_enter Tryz.func113, Tryz.ntmps113
    go_wp2_with (first
      | (go_at_call 41; refine (HN.out _).mono ?_; rintro e w' ⟨rfl, rfl⟩)
      | (go_at_call 119; refine (rows_any _).mono ?_; rintro e w1 ⟨rfl, hb⟩; have hr := ((Below.refl w.heap.size w).alloc (Nat.le_refl _) _).trans (hb.mono (by simp)); have hq := rblk_new hb; have c0 := cell_at (j := 0) hq rfl; have c1 := cell_at (j := 1) hq rfl; have f0 : w1.frozen? ⟨w.heap.size, 0, none⟩ = false := free_at hq; have f1 : w1.frozen? ⟨w.heap.size, 1, none⟩ = false := free_at hq; have HQ := Lib.hid hq; clear hq hb))
    have q0 := set_at (j := 0) (u := .int .i64 (szK k)) HQ.out
    have q1 := set_at (j := 1) (u := .bool (sgK k)) q0
    have e0 := cell_at (j := 0) (v := .int .i64 (szK k)) q0 rfl
    have e1 := cell_at (j := 1) (v := .bool (sgK k)) q1 rfl
    refine bodyPost_ret (v := .agg #[.int .i64 (szK k), .bool (sgK k)]) ?_ rfl ⟨rfl, by go_grown⟩
    simp [results, Tryz.results113, go_sem, e0, e1]
end Go.Proofs.YtohphejhlgnciaaGreat
