/- PutApart: for every list of types, every number and every two values the law returns true, and its arguments read as before. No condition. -/
import Derived.Test.YtficmdomnilhnaaGreatRdgSlice
import Derived.Test.YtficmdomnilhnaaGreatFitsAwake
import Derived.Test.YtficmdomnilhnaaGreatPutAwake
import Derived.Test.YtficmdomnilhnaaGreatPutSame
import Derived.Test.YtficmdomnilhnaaGreatValCSame
namespace Go.Proofs.YtficmdomnilhnaaGreat.putApart
open Go.ChangeShapes Go.WideShapes Go.ChangeAt Go.RowKit
open Go.ChangeMaps (open_string shut_string)
set_option linter.unusedVariables false

theorem toList_inj {a b : ByteArray} (h : a.toList = b.toList) : a = b := by
  by_cases c : a = b
  · exact c
  · have := text_ne c; rw [h] at this; simp at this
theorem prefix_of {a b : ByteArray} (h : b.extract 0 a.size = a) : ∃ y, a.data.toList ++ y = b.data.toList := by
  refine ⟨b.data.toList.drop a.size, ?_⟩
  have e : a.data.toList = b.data.toList.take a.size := by
    have : (b.extract 0 a.size).data.toList = b.data.toList.take a.size := by simp
    rw [h] at this
    exact this
  rw [e]
  exact List.take_append_drop _ _
theorem putErr_zero {L : Nat → TypeV} {len : Nat} {t : Int} {T : VT} (h : putErr L len t T = 0) : fitsA L len t T = 0 ∧ endR (rowT L T t.toNat) 0 ≤ 512 := by
  unfold putErr at h
  split at h
  · rename_i c; exact absurd h c
  · rename_i c
    split at h
    · cases h
    · exact ⟨Classical.not_not.1 c, by omega⟩

set_option maxHeartbeats 8000000 in
theorem walk_no (ao : Option Addr) (len cap : Nat) (t : Int) (T U : VT) (a b : ByteArray) (e f : Int) (w : World) (hef : e ≠ 0 ∨ f ≠ 0) (ha : e ≠ 0 → a = ⟨#[]⟩) (hb : f ≠ 0 → b = ⟨#[]⟩)
    (hw : ∀ wx, Below w.heap.size w wx → Calls Tryz.prog 8 #[] wx fun e w' => e = .returned (.bool true) ∧ Below wx.heap.size wx w')
    (hg : ∀ wx, Below w.heap.size w wx → Calls Tryz.prog 6 #[.slice ao len cap] wx fun e w' => e = .returned (.bool false) ∧ wx = w')
    (hm1 : ∀ wx, Below w.heap.size w wx → Calls Tryz.prog 7 #[.agg #[.int .i64 T.kind, .int .u64 T.num, .string T.text, .slice T.ia T.len T.cap], .int .i64 0] wx fun e w' => e = .returned (.bool false) ∧ Below wx.heap.size wx w')
    (hm2 : ∀ wx, Below w.heap.size w wx → Calls Tryz.prog 7 #[.agg #[.int .i64 U.kind, .int .u64 U.num, .string U.text, .slice U.ia U.len U.cap], .int .i64 0] wx fun e w' => e = .returned (.bool false) ∧ Below wx.heap.size wx w')
    (hp1 : ∀ wx, Below w.heap.size w wx → Calls Tryz.prog 9 #[.slice ao len cap, .int .i64 t, .agg #[.int .i64 T.kind, .int .u64 T.num, .string T.text, .slice T.ia T.len T.cap]] wx fun e' w' => e' = .returned (.tuple #[.string a, .int .i64 e]) ∧ Below wx.heap.size wx w')
    (hp2 : ∀ wx, Below w.heap.size w wx → Calls Tryz.prog 9 #[.slice ao len cap, .int .i64 t, .agg #[.int .i64 U.kind, .int .u64 U.num, .string U.text, .slice U.ia U.len U.cap]] wx fun e' w' => e' = .returned (.tuple #[.string b, .int .i64 f]) ∧ Below wx.heap.size wx w') :
    Calls Tryz.prog 4 #[.slice ao len cap, .int .i64 t, .agg #[.int .i64 T.kind, .int .u64 T.num, .string T.text, .slice T.ia T.len T.cap, .int .i64 U.kind, .int .u64 U.num, .string U.text, .slice U.ia U.len U.cap]] w fun e w' => e = .returned (.bool true) ∧ Below w.heap.size w w' := by
  have HW := Lib.hid hw
  have HG := Lib.hid hg
  have HM1 := Lib.hid hm1
  have HM2 := Lib.hid hm2
  have HP1 := Lib.hid hp1
  have HP2 := Lib.hid hp2
  have HX0 := Lib.hid (alloc_at w (.cells #[.int .i64 T.kind, .int .u64 T.num, .string T.text, .slice T.ia T.len T.cap, .int .i64 U.kind, .int .u64 U.num, .string U.text, .slice U.ia U.len U.cap] 41))
  have HB0 := Lib.hid ((Below.refl w.heap.size w).alloc (Nat.le_refl _) (.cells #[.int .i64 T.kind, .int .u64 T.num, .string T.text, .slice T.ia T.len T.cap, .int .i64 U.kind, .int .u64 U.num, .string U.text, .slice U.ia U.len U.cap] 41))
  clear hw hg hm1 hm2 hp1 hp2
  by_cases c1 : e ≠ 0
  · obtain rfl := ha c1
    have x1 : (e != 0) = true := by simpa using c1
    have x2 : (e == 0) = false := by simpa using c1
    by_cases c2 : f ≠ 0
    · obtain rfl := hb c2
      have x3 : (f != 0) = true := by simpa using c2
      have x4 : (f == 0) = false := by simpa using c2
      clear hef ha hb c1 c2
      go_enter Tryz.func4, Tryz.ntmps4
      go_wp2_with (first
        | (go_at_call 6; refine (HG.out _ HB0.out).mono ?_; rintro e0 w' ⟨rfl, rfl⟩)
        | (go_at_call 7; (with_reducible refine (HM1.out _ HB0.out).mono ?_); rintro e1 w1 ⟨rfl, hb1⟩; have HB1 := Lib.hid (below_step8' HB0.out hb1); have HX1 := Lib.hid (box_keep HX0.out hb1); have d0 : w1.cell? ⟨w.heap.size, 0, none⟩ = some (.int .i64 T.kind) := cell_at HX1.out rfl; have d1 : w1.cell? ⟨w.heap.size, 1, none⟩ = some (.int .u64 T.num) := cell_at HX1.out rfl; have d2 : w1.cell? ⟨w.heap.size, 2, none⟩ = some (.string T.text) := cell_at HX1.out rfl; have d3 : w1.cell? ⟨w.heap.size, 3, none⟩ = some (.slice T.ia T.len T.cap) := cell_at HX1.out rfl; have d4 : w1.cell? ⟨w.heap.size, 4, none⟩ = some (.int .i64 U.kind) := cell_at HX1.out rfl; have d5 : w1.cell? ⟨w.heap.size, 5, none⟩ = some (.int .u64 U.num) := cell_at HX1.out rfl; have d6 : w1.cell? ⟨w.heap.size, 6, none⟩ = some (.string U.text) := cell_at HX1.out rfl; have d7 : w1.cell? ⟨w.heap.size, 7, none⟩ = some (.slice U.ia U.len U.cap) := cell_at HX1.out rfl; clear hb1)
        | (go_at_call 7; (with_reducible refine (HM2.out _ HB1.out).mono ?_); rintro e2 w2 ⟨rfl, hb2⟩; have HB2 := Lib.hid (below_step8' HB1.out hb2); have HX2 := Lib.hid (box_keep HX1.out hb2); clear d0 d1 d2 d3 d4 d5 d6 d7; have d0 : w2.cell? ⟨w.heap.size, 0, none⟩ = some (.int .i64 T.kind) := cell_at HX2.out rfl; have d1 : w2.cell? ⟨w.heap.size, 1, none⟩ = some (.int .u64 T.num) := cell_at HX2.out rfl; have d2 : w2.cell? ⟨w.heap.size, 2, none⟩ = some (.string T.text) := cell_at HX2.out rfl; have d3 : w2.cell? ⟨w.heap.size, 3, none⟩ = some (.slice T.ia T.len T.cap) := cell_at HX2.out rfl; have d4 : w2.cell? ⟨w.heap.size, 4, none⟩ = some (.int .i64 U.kind) := cell_at HX2.out rfl; have d5 : w2.cell? ⟨w.heap.size, 5, none⟩ = some (.int .u64 U.num) := cell_at HX2.out rfl; have d6 : w2.cell? ⟨w.heap.size, 6, none⟩ = some (.string U.text) := cell_at HX2.out rfl; have d7 : w2.cell? ⟨w.heap.size, 7, none⟩ = some (.slice U.ia U.len U.cap) := cell_at HX2.out rfl; clear hb2)
        | (go_at_call 9; (with_reducible refine (HP1.out _ HB2.out).mono ?_); rintro e3 w3 ⟨rfl, hb3⟩; have HB3 := Lib.hid (below_step8' HB2.out hb3); have HX3 := Lib.hid (box_keep HX2.out hb3); clear d0 d1 d2 d3 d4 d5 d6 d7; have d0 : w3.cell? ⟨w.heap.size, 0, none⟩ = some (.int .i64 T.kind) := cell_at HX3.out rfl; have d1 : w3.cell? ⟨w.heap.size, 1, none⟩ = some (.int .u64 T.num) := cell_at HX3.out rfl; have d2 : w3.cell? ⟨w.heap.size, 2, none⟩ = some (.string T.text) := cell_at HX3.out rfl; have d3 : w3.cell? ⟨w.heap.size, 3, none⟩ = some (.slice T.ia T.len T.cap) := cell_at HX3.out rfl; have d4 : w3.cell? ⟨w.heap.size, 4, none⟩ = some (.int .i64 U.kind) := cell_at HX3.out rfl; have d5 : w3.cell? ⟨w.heap.size, 5, none⟩ = some (.int .u64 U.num) := cell_at HX3.out rfl; have d6 : w3.cell? ⟨w.heap.size, 6, none⟩ = some (.string U.text) := cell_at HX3.out rfl; have d7 : w3.cell? ⟨w.heap.size, 7, none⟩ = some (.slice U.ia U.len U.cap) := cell_at HX3.out rfl; clear hb3)
        | (go_at_call 9; (with_reducible refine (HP2.out _ HB3.out).mono ?_); rintro e4 w4 ⟨rfl, hb4⟩; have HB4 := Lib.hid (below_step8' HB3.out hb4); have HX4 := Lib.hid (box_keep HX3.out hb4); clear d0 d1 d2 d3 d4 d5 d6 d7; have d0 : w4.cell? ⟨w.heap.size, 0, none⟩ = some (.int .i64 T.kind) := cell_at HX4.out rfl; have d1 : w4.cell? ⟨w.heap.size, 1, none⟩ = some (.int .u64 T.num) := cell_at HX4.out rfl; have d2 : w4.cell? ⟨w.heap.size, 2, none⟩ = some (.string T.text) := cell_at HX4.out rfl; have d3 : w4.cell? ⟨w.heap.size, 3, none⟩ = some (.slice T.ia T.len T.cap) := cell_at HX4.out rfl; have d4 : w4.cell? ⟨w.heap.size, 4, none⟩ = some (.int .i64 U.kind) := cell_at HX4.out rfl; have d5 : w4.cell? ⟨w.heap.size, 5, none⟩ = some (.int .u64 U.num) := cell_at HX4.out rfl; have d6 : w4.cell? ⟨w.heap.size, 6, none⟩ = some (.string U.text) := cell_at HX4.out rfl; have d7 : w4.cell? ⟨w.heap.size, 7, none⟩ = some (.slice U.ia U.len U.cap) := cell_at HX4.out rfl; clear hb4)
        | (go_at_call 8; refine (HW.out _ HB4.out).mono ?_; rintro e9 w9 ⟨rfl, hb9⟩; have HB9 := Lib.hid (below_step8' HB4.out hb9); clear hb9))
      go_ret
      exact ⟨rfl, HB9.out⟩
    · obtain rfl : f = 0 := Classical.not_not.1 c2
      clear hef ha hb c1 c2
      go_enter Tryz.func4, Tryz.ntmps4
      go_wp2_with (first
        | (go_at_call 6; refine (HG.out _ HB0.out).mono ?_; rintro e0 w' ⟨rfl, rfl⟩)
        | (go_at_call 7; (with_reducible refine (HM1.out _ HB0.out).mono ?_); rintro e1 w1 ⟨rfl, hb1⟩; have HB1 := Lib.hid (below_step8' HB0.out hb1); have HX1 := Lib.hid (box_keep HX0.out hb1); have d0 : w1.cell? ⟨w.heap.size, 0, none⟩ = some (.int .i64 T.kind) := cell_at HX1.out rfl; have d1 : w1.cell? ⟨w.heap.size, 1, none⟩ = some (.int .u64 T.num) := cell_at HX1.out rfl; have d2 : w1.cell? ⟨w.heap.size, 2, none⟩ = some (.string T.text) := cell_at HX1.out rfl; have d3 : w1.cell? ⟨w.heap.size, 3, none⟩ = some (.slice T.ia T.len T.cap) := cell_at HX1.out rfl; have d4 : w1.cell? ⟨w.heap.size, 4, none⟩ = some (.int .i64 U.kind) := cell_at HX1.out rfl; have d5 : w1.cell? ⟨w.heap.size, 5, none⟩ = some (.int .u64 U.num) := cell_at HX1.out rfl; have d6 : w1.cell? ⟨w.heap.size, 6, none⟩ = some (.string U.text) := cell_at HX1.out rfl; have d7 : w1.cell? ⟨w.heap.size, 7, none⟩ = some (.slice U.ia U.len U.cap) := cell_at HX1.out rfl; clear hb1)
        | (go_at_call 7; (with_reducible refine (HM2.out _ HB1.out).mono ?_); rintro e2 w2 ⟨rfl, hb2⟩; have HB2 := Lib.hid (below_step8' HB1.out hb2); have HX2 := Lib.hid (box_keep HX1.out hb2); clear d0 d1 d2 d3 d4 d5 d6 d7; have d0 : w2.cell? ⟨w.heap.size, 0, none⟩ = some (.int .i64 T.kind) := cell_at HX2.out rfl; have d1 : w2.cell? ⟨w.heap.size, 1, none⟩ = some (.int .u64 T.num) := cell_at HX2.out rfl; have d2 : w2.cell? ⟨w.heap.size, 2, none⟩ = some (.string T.text) := cell_at HX2.out rfl; have d3 : w2.cell? ⟨w.heap.size, 3, none⟩ = some (.slice T.ia T.len T.cap) := cell_at HX2.out rfl; have d4 : w2.cell? ⟨w.heap.size, 4, none⟩ = some (.int .i64 U.kind) := cell_at HX2.out rfl; have d5 : w2.cell? ⟨w.heap.size, 5, none⟩ = some (.int .u64 U.num) := cell_at HX2.out rfl; have d6 : w2.cell? ⟨w.heap.size, 6, none⟩ = some (.string U.text) := cell_at HX2.out rfl; have d7 : w2.cell? ⟨w.heap.size, 7, none⟩ = some (.slice U.ia U.len U.cap) := cell_at HX2.out rfl; clear hb2)
        | (go_at_call 9; (with_reducible refine (HP1.out _ HB2.out).mono ?_); rintro e3 w3 ⟨rfl, hb3⟩; have HB3 := Lib.hid (below_step8' HB2.out hb3); have HX3 := Lib.hid (box_keep HX2.out hb3); clear d0 d1 d2 d3 d4 d5 d6 d7; have d0 : w3.cell? ⟨w.heap.size, 0, none⟩ = some (.int .i64 T.kind) := cell_at HX3.out rfl; have d1 : w3.cell? ⟨w.heap.size, 1, none⟩ = some (.int .u64 T.num) := cell_at HX3.out rfl; have d2 : w3.cell? ⟨w.heap.size, 2, none⟩ = some (.string T.text) := cell_at HX3.out rfl; have d3 : w3.cell? ⟨w.heap.size, 3, none⟩ = some (.slice T.ia T.len T.cap) := cell_at HX3.out rfl; have d4 : w3.cell? ⟨w.heap.size, 4, none⟩ = some (.int .i64 U.kind) := cell_at HX3.out rfl; have d5 : w3.cell? ⟨w.heap.size, 5, none⟩ = some (.int .u64 U.num) := cell_at HX3.out rfl; have d6 : w3.cell? ⟨w.heap.size, 6, none⟩ = some (.string U.text) := cell_at HX3.out rfl; have d7 : w3.cell? ⟨w.heap.size, 7, none⟩ = some (.slice U.ia U.len U.cap) := cell_at HX3.out rfl; clear hb3)
        | (go_at_call 9; (with_reducible refine (HP2.out _ HB3.out).mono ?_); rintro e4 w4 ⟨rfl, hb4⟩; have HB4 := Lib.hid (below_step8' HB3.out hb4); have HX4 := Lib.hid (box_keep HX3.out hb4); clear d0 d1 d2 d3 d4 d5 d6 d7; have d0 : w4.cell? ⟨w.heap.size, 0, none⟩ = some (.int .i64 T.kind) := cell_at HX4.out rfl; have d1 : w4.cell? ⟨w.heap.size, 1, none⟩ = some (.int .u64 T.num) := cell_at HX4.out rfl; have d2 : w4.cell? ⟨w.heap.size, 2, none⟩ = some (.string T.text) := cell_at HX4.out rfl; have d3 : w4.cell? ⟨w.heap.size, 3, none⟩ = some (.slice T.ia T.len T.cap) := cell_at HX4.out rfl; have d4 : w4.cell? ⟨w.heap.size, 4, none⟩ = some (.int .i64 U.kind) := cell_at HX4.out rfl; have d5 : w4.cell? ⟨w.heap.size, 5, none⟩ = some (.int .u64 U.num) := cell_at HX4.out rfl; have d6 : w4.cell? ⟨w.heap.size, 6, none⟩ = some (.string U.text) := cell_at HX4.out rfl; have d7 : w4.cell? ⟨w.heap.size, 7, none⟩ = some (.slice U.ia U.len U.cap) := cell_at HX4.out rfl; clear hb4)
        | (go_at_call 8; refine (HW.out _ HB4.out).mono ?_; rintro e9 w9 ⟨rfl, hb9⟩; have HB9 := Lib.hid (below_step8' HB4.out hb9); clear hb9))
      go_ret
      exact ⟨rfl, HB9.out⟩
  · obtain rfl : e = 0 := Classical.not_not.1 c1
    have c2 : f ≠ 0 := by exact hef.resolve_left c1
    obtain rfl := hb c2
    have x3 : (f != 0) = true := by simpa using c2
    have x4 : (f == 0) = false := by simpa using c2
    clear hef ha hb c1 c2
    go_enter Tryz.func4, Tryz.ntmps4
    go_wp2_with (first
      | (go_at_call 6; refine (HG.out _ HB0.out).mono ?_; rintro e0 w' ⟨rfl, rfl⟩)
      | (go_at_call 7; (with_reducible refine (HM1.out _ HB0.out).mono ?_); rintro e1 w1 ⟨rfl, hb1⟩; have HB1 := Lib.hid (below_step8' HB0.out hb1); have HX1 := Lib.hid (box_keep HX0.out hb1); have d0 : w1.cell? ⟨w.heap.size, 0, none⟩ = some (.int .i64 T.kind) := cell_at HX1.out rfl; have d1 : w1.cell? ⟨w.heap.size, 1, none⟩ = some (.int .u64 T.num) := cell_at HX1.out rfl; have d2 : w1.cell? ⟨w.heap.size, 2, none⟩ = some (.string T.text) := cell_at HX1.out rfl; have d3 : w1.cell? ⟨w.heap.size, 3, none⟩ = some (.slice T.ia T.len T.cap) := cell_at HX1.out rfl; have d4 : w1.cell? ⟨w.heap.size, 4, none⟩ = some (.int .i64 U.kind) := cell_at HX1.out rfl; have d5 : w1.cell? ⟨w.heap.size, 5, none⟩ = some (.int .u64 U.num) := cell_at HX1.out rfl; have d6 : w1.cell? ⟨w.heap.size, 6, none⟩ = some (.string U.text) := cell_at HX1.out rfl; have d7 : w1.cell? ⟨w.heap.size, 7, none⟩ = some (.slice U.ia U.len U.cap) := cell_at HX1.out rfl; clear hb1)
      | (go_at_call 7; (with_reducible refine (HM2.out _ HB1.out).mono ?_); rintro e2 w2 ⟨rfl, hb2⟩; have HB2 := Lib.hid (below_step8' HB1.out hb2); have HX2 := Lib.hid (box_keep HX1.out hb2); clear d0 d1 d2 d3 d4 d5 d6 d7; have d0 : w2.cell? ⟨w.heap.size, 0, none⟩ = some (.int .i64 T.kind) := cell_at HX2.out rfl; have d1 : w2.cell? ⟨w.heap.size, 1, none⟩ = some (.int .u64 T.num) := cell_at HX2.out rfl; have d2 : w2.cell? ⟨w.heap.size, 2, none⟩ = some (.string T.text) := cell_at HX2.out rfl; have d3 : w2.cell? ⟨w.heap.size, 3, none⟩ = some (.slice T.ia T.len T.cap) := cell_at HX2.out rfl; have d4 : w2.cell? ⟨w.heap.size, 4, none⟩ = some (.int .i64 U.kind) := cell_at HX2.out rfl; have d5 : w2.cell? ⟨w.heap.size, 5, none⟩ = some (.int .u64 U.num) := cell_at HX2.out rfl; have d6 : w2.cell? ⟨w.heap.size, 6, none⟩ = some (.string U.text) := cell_at HX2.out rfl; have d7 : w2.cell? ⟨w.heap.size, 7, none⟩ = some (.slice U.ia U.len U.cap) := cell_at HX2.out rfl; clear hb2)
      | (go_at_call 9; (with_reducible refine (HP1.out _ HB2.out).mono ?_); rintro e3 w3 ⟨rfl, hb3⟩; have HB3 := Lib.hid (below_step8' HB2.out hb3); have HX3 := Lib.hid (box_keep HX2.out hb3); clear d0 d1 d2 d3 d4 d5 d6 d7; have d0 : w3.cell? ⟨w.heap.size, 0, none⟩ = some (.int .i64 T.kind) := cell_at HX3.out rfl; have d1 : w3.cell? ⟨w.heap.size, 1, none⟩ = some (.int .u64 T.num) := cell_at HX3.out rfl; have d2 : w3.cell? ⟨w.heap.size, 2, none⟩ = some (.string T.text) := cell_at HX3.out rfl; have d3 : w3.cell? ⟨w.heap.size, 3, none⟩ = some (.slice T.ia T.len T.cap) := cell_at HX3.out rfl; have d4 : w3.cell? ⟨w.heap.size, 4, none⟩ = some (.int .i64 U.kind) := cell_at HX3.out rfl; have d5 : w3.cell? ⟨w.heap.size, 5, none⟩ = some (.int .u64 U.num) := cell_at HX3.out rfl; have d6 : w3.cell? ⟨w.heap.size, 6, none⟩ = some (.string U.text) := cell_at HX3.out rfl; have d7 : w3.cell? ⟨w.heap.size, 7, none⟩ = some (.slice U.ia U.len U.cap) := cell_at HX3.out rfl; clear hb3)
      | (go_at_call 9; (with_reducible refine (HP2.out _ HB3.out).mono ?_); rintro e4 w4 ⟨rfl, hb4⟩; have HB4 := Lib.hid (below_step8' HB3.out hb4); have HX4 := Lib.hid (box_keep HX3.out hb4); clear d0 d1 d2 d3 d4 d5 d6 d7; have d0 : w4.cell? ⟨w.heap.size, 0, none⟩ = some (.int .i64 T.kind) := cell_at HX4.out rfl; have d1 : w4.cell? ⟨w.heap.size, 1, none⟩ = some (.int .u64 T.num) := cell_at HX4.out rfl; have d2 : w4.cell? ⟨w.heap.size, 2, none⟩ = some (.string T.text) := cell_at HX4.out rfl; have d3 : w4.cell? ⟨w.heap.size, 3, none⟩ = some (.slice T.ia T.len T.cap) := cell_at HX4.out rfl; have d4 : w4.cell? ⟨w.heap.size, 4, none⟩ = some (.int .i64 U.kind) := cell_at HX4.out rfl; have d5 : w4.cell? ⟨w.heap.size, 5, none⟩ = some (.int .u64 U.num) := cell_at HX4.out rfl; have d6 : w4.cell? ⟨w.heap.size, 6, none⟩ = some (.string U.text) := cell_at HX4.out rfl; have d7 : w4.cell? ⟨w.heap.size, 7, none⟩ = some (.slice U.ia U.len U.cap) := cell_at HX4.out rfl; clear hb4)
      | (go_at_call 8; refine (HW.out _ HB4.out).mono ?_; rintro e9 w9 ⟨rfl, hb9⟩; have HB9 := Lib.hid (below_step8' HB4.out hb9); clear hb9))
    go_ret
    exact ⟨rfl, HB9.out⟩
set_option maxHeartbeats 8000000 in
theorem walk_yes (ao : Option Addr) (len cap : Nat) (t : Int) (T U : VT) (a b : ByteArray) (s : Bool) (w : World) (hab : (a.toList == b.toList) = s) (h0 : 0 < a.size) (ham : a.size ≤ 1000) (hbm : b.size ≤ 1000)
    (hpre : s = false → a.size < b.size → ((b.extract 0 a.size).toList == a.toList) = false)
    (hs : ∀ wx, Below w.heap.size w wx → Calls Tryz.prog 15 #[.agg #[.int .i64 T.kind, .int .u64 T.num, .string T.text, .slice T.ia T.len T.cap], .agg #[.int .i64 U.kind, .int .u64 U.num, .string U.text, .slice U.ia U.len U.cap]] wx fun e w' => e = .returned (.bool s) ∧ Below wx.heap.size wx w')
    (hw : ∀ wx, Below w.heap.size w wx → Calls Tryz.prog 8 #[] wx fun e w' => e = .returned (.bool true) ∧ Below wx.heap.size wx w')
    (hg : ∀ wx, Below w.heap.size w wx → Calls Tryz.prog 6 #[.slice ao len cap] wx fun e w' => e = .returned (.bool false) ∧ wx = w')
    (hm1 : ∀ wx, Below w.heap.size w wx → Calls Tryz.prog 7 #[.agg #[.int .i64 T.kind, .int .u64 T.num, .string T.text, .slice T.ia T.len T.cap], .int .i64 0] wx fun e w' => e = .returned (.bool false) ∧ Below wx.heap.size wx w')
    (hm2 : ∀ wx, Below w.heap.size w wx → Calls Tryz.prog 7 #[.agg #[.int .i64 U.kind, .int .u64 U.num, .string U.text, .slice U.ia U.len U.cap], .int .i64 0] wx fun e w' => e = .returned (.bool false) ∧ Below wx.heap.size wx w')
    (hp1 : ∀ wx, Below w.heap.size w wx → Calls Tryz.prog 9 #[.slice ao len cap, .int .i64 t, .agg #[.int .i64 T.kind, .int .u64 T.num, .string T.text, .slice T.ia T.len T.cap]] wx fun e' w' => e' = .returned (.tuple #[.string a, .int .i64 0]) ∧ Below wx.heap.size wx w')
    (hp2 : ∀ wx, Below w.heap.size w wx → Calls Tryz.prog 9 #[.slice ao len cap, .int .i64 t, .agg #[.int .i64 U.kind, .int .u64 U.num, .string U.text, .slice U.ia U.len U.cap]] wx fun e' w' => e' = .returned (.tuple #[.string b, .int .i64 0]) ∧ Below wx.heap.size wx w') :
    Calls Tryz.prog 4 #[.slice ao len cap, .int .i64 t, .agg #[.int .i64 T.kind, .int .u64 T.num, .string T.text, .slice T.ia T.len T.cap, .int .i64 U.kind, .int .u64 U.num, .string U.text, .slice U.ia U.len U.cap]] w fun e w' => e = .returned (.bool true) ∧ Below w.heap.size w w' := by
  have HW := Lib.hid hw
  have HG := Lib.hid hg
  have HM1 := Lib.hid hm1
  have HM2 := Lib.hid hm2
  have HP1 := Lib.hid hp1
  have HP2 := Lib.hid hp2
  have HX0 := Lib.hid (alloc_at w (.cells #[.int .i64 T.kind, .int .u64 T.num, .string T.text, .slice T.ia T.len T.cap, .int .i64 U.kind, .int .u64 U.num, .string U.text, .slice U.ia U.len U.cap] 41))
  have HB0 := Lib.hid ((Below.refl w.heap.size w).alloc (Nat.le_refl _) (.cells #[.int .i64 T.kind, .int .u64 T.num, .string T.text, .slice T.ia T.len T.cap, .int .i64 U.kind, .int .u64 U.num, .string U.text, .slice U.ia U.len U.cap] 41))
  clear hw hg hm1 hm2 hp1 hp2
  have HS := Lib.hid hs
  clear hs
  have n0 : (((a.size : Nat) : Int) == 0) = false := by
    have : ((a.size : Nat) : Int) ≠ 0 := by omega
    simpa using this
  cases s with
  | true =>
    clear hpre
    go_enter Tryz.func4, Tryz.ntmps4
    go_wp2_with (first
      | (go_at_call 6; refine (HG.out _ HB0.out).mono ?_; rintro e0 w' ⟨rfl, rfl⟩)
      | (go_at_call 7; (with_reducible refine (HM1.out _ HB0.out).mono ?_); rintro e1 w1 ⟨rfl, hb1⟩; have HB1 := Lib.hid (below_step8' HB0.out hb1); have HX1 := Lib.hid (box_keep HX0.out hb1); have d0 : w1.cell? ⟨w.heap.size, 0, none⟩ = some (.int .i64 T.kind) := cell_at HX1.out rfl; have d1 : w1.cell? ⟨w.heap.size, 1, none⟩ = some (.int .u64 T.num) := cell_at HX1.out rfl; have d2 : w1.cell? ⟨w.heap.size, 2, none⟩ = some (.string T.text) := cell_at HX1.out rfl; have d3 : w1.cell? ⟨w.heap.size, 3, none⟩ = some (.slice T.ia T.len T.cap) := cell_at HX1.out rfl; have d4 : w1.cell? ⟨w.heap.size, 4, none⟩ = some (.int .i64 U.kind) := cell_at HX1.out rfl; have d5 : w1.cell? ⟨w.heap.size, 5, none⟩ = some (.int .u64 U.num) := cell_at HX1.out rfl; have d6 : w1.cell? ⟨w.heap.size, 6, none⟩ = some (.string U.text) := cell_at HX1.out rfl; have d7 : w1.cell? ⟨w.heap.size, 7, none⟩ = some (.slice U.ia U.len U.cap) := cell_at HX1.out rfl; clear hb1)
      | (go_at_call 7; (with_reducible refine (HM2.out _ HB1.out).mono ?_); rintro e2 w2 ⟨rfl, hb2⟩; have HB2 := Lib.hid (below_step8' HB1.out hb2); have HX2 := Lib.hid (box_keep HX1.out hb2); clear d0 d1 d2 d3 d4 d5 d6 d7; have d0 : w2.cell? ⟨w.heap.size, 0, none⟩ = some (.int .i64 T.kind) := cell_at HX2.out rfl; have d1 : w2.cell? ⟨w.heap.size, 1, none⟩ = some (.int .u64 T.num) := cell_at HX2.out rfl; have d2 : w2.cell? ⟨w.heap.size, 2, none⟩ = some (.string T.text) := cell_at HX2.out rfl; have d3 : w2.cell? ⟨w.heap.size, 3, none⟩ = some (.slice T.ia T.len T.cap) := cell_at HX2.out rfl; have d4 : w2.cell? ⟨w.heap.size, 4, none⟩ = some (.int .i64 U.kind) := cell_at HX2.out rfl; have d5 : w2.cell? ⟨w.heap.size, 5, none⟩ = some (.int .u64 U.num) := cell_at HX2.out rfl; have d6 : w2.cell? ⟨w.heap.size, 6, none⟩ = some (.string U.text) := cell_at HX2.out rfl; have d7 : w2.cell? ⟨w.heap.size, 7, none⟩ = some (.slice U.ia U.len U.cap) := cell_at HX2.out rfl; clear hb2)
      | (go_at_call 9; (with_reducible refine (HP1.out _ HB2.out).mono ?_); rintro e3 w3 ⟨rfl, hb3⟩; have HB3 := Lib.hid (below_step8' HB2.out hb3); have HX3 := Lib.hid (box_keep HX2.out hb3); clear d0 d1 d2 d3 d4 d5 d6 d7; have d0 : w3.cell? ⟨w.heap.size, 0, none⟩ = some (.int .i64 T.kind) := cell_at HX3.out rfl; have d1 : w3.cell? ⟨w.heap.size, 1, none⟩ = some (.int .u64 T.num) := cell_at HX3.out rfl; have d2 : w3.cell? ⟨w.heap.size, 2, none⟩ = some (.string T.text) := cell_at HX3.out rfl; have d3 : w3.cell? ⟨w.heap.size, 3, none⟩ = some (.slice T.ia T.len T.cap) := cell_at HX3.out rfl; have d4 : w3.cell? ⟨w.heap.size, 4, none⟩ = some (.int .i64 U.kind) := cell_at HX3.out rfl; have d5 : w3.cell? ⟨w.heap.size, 5, none⟩ = some (.int .u64 U.num) := cell_at HX3.out rfl; have d6 : w3.cell? ⟨w.heap.size, 6, none⟩ = some (.string U.text) := cell_at HX3.out rfl; have d7 : w3.cell? ⟨w.heap.size, 7, none⟩ = some (.slice U.ia U.len U.cap) := cell_at HX3.out rfl; clear hb3)
      | (go_at_call 9; (with_reducible refine (HP2.out _ HB3.out).mono ?_); rintro e4 w4 ⟨rfl, hb4⟩; have HB4 := Lib.hid (below_step8' HB3.out hb4); have HX4 := Lib.hid (box_keep HX3.out hb4); clear d0 d1 d2 d3 d4 d5 d6 d7; have d0 : w4.cell? ⟨w.heap.size, 0, none⟩ = some (.int .i64 T.kind) := cell_at HX4.out rfl; have d1 : w4.cell? ⟨w.heap.size, 1, none⟩ = some (.int .u64 T.num) := cell_at HX4.out rfl; have d2 : w4.cell? ⟨w.heap.size, 2, none⟩ = some (.string T.text) := cell_at HX4.out rfl; have d3 : w4.cell? ⟨w.heap.size, 3, none⟩ = some (.slice T.ia T.len T.cap) := cell_at HX4.out rfl; have d4 : w4.cell? ⟨w.heap.size, 4, none⟩ = some (.int .i64 U.kind) := cell_at HX4.out rfl; have d5 : w4.cell? ⟨w.heap.size, 5, none⟩ = some (.int .u64 U.num) := cell_at HX4.out rfl; have d6 : w4.cell? ⟨w.heap.size, 6, none⟩ = some (.string U.text) := cell_at HX4.out rfl; have d7 : w4.cell? ⟨w.heap.size, 7, none⟩ = some (.slice U.ia U.len U.cap) := cell_at HX4.out rfl; clear hb4)
      | (go_at_call 15; (with_reducible refine (HS.out _ HB4.out).mono ?_); rintro e5 w5 ⟨rfl, hb5⟩; have HB5 := Lib.hid (below_step8' HB4.out hb5); have HX5 := Lib.hid (box_keep HX4.out hb5); clear d0 d1 d2 d3 d4 d5 d6 d7; have d0 : w5.cell? ⟨w.heap.size, 0, none⟩ = some (.int .i64 T.kind) := cell_at HX5.out rfl; have d1 : w5.cell? ⟨w.heap.size, 1, none⟩ = some (.int .u64 T.num) := cell_at HX5.out rfl; have d2 : w5.cell? ⟨w.heap.size, 2, none⟩ = some (.string T.text) := cell_at HX5.out rfl; have d3 : w5.cell? ⟨w.heap.size, 3, none⟩ = some (.slice T.ia T.len T.cap) := cell_at HX5.out rfl; have d4 : w5.cell? ⟨w.heap.size, 4, none⟩ = some (.int .i64 U.kind) := cell_at HX5.out rfl; have d5 : w5.cell? ⟨w.heap.size, 5, none⟩ = some (.int .u64 U.num) := cell_at HX5.out rfl; have d6 : w5.cell? ⟨w.heap.size, 6, none⟩ = some (.string U.text) := cell_at HX5.out rfl; have d7 : w5.cell? ⟨w.heap.size, 7, none⟩ = some (.slice U.ia U.len U.cap) := cell_at HX5.out rfl; clear hb5)
      | (go_at_call 8; refine (HW.out _ HB5.out).mono ?_; rintro e9 w9 ⟨rfl, hb9⟩; have HB9 := Lib.hid (below_step8' HB5.out hb9); clear hb9))
    go_ret
    exact ⟨rfl, HB9.out⟩
  | false =>
    by_cases c : b.size ≤ a.size
    · have c' : ((b.size : Nat) : Int) ≤ ((a.size : Nat) : Int) := by omega
      clear hpre
      go_enter Tryz.func4, Tryz.ntmps4
      go_wp2_with (first
        | (go_at_call 6; refine (HG.out _ HB0.out).mono ?_; rintro e0 w' ⟨rfl, rfl⟩)
        | (go_at_call 7; (with_reducible refine (HM1.out _ HB0.out).mono ?_); rintro e1 w1 ⟨rfl, hb1⟩; have HB1 := Lib.hid (below_step8' HB0.out hb1); have HX1 := Lib.hid (box_keep HX0.out hb1); have d0 : w1.cell? ⟨w.heap.size, 0, none⟩ = some (.int .i64 T.kind) := cell_at HX1.out rfl; have d1 : w1.cell? ⟨w.heap.size, 1, none⟩ = some (.int .u64 T.num) := cell_at HX1.out rfl; have d2 : w1.cell? ⟨w.heap.size, 2, none⟩ = some (.string T.text) := cell_at HX1.out rfl; have d3 : w1.cell? ⟨w.heap.size, 3, none⟩ = some (.slice T.ia T.len T.cap) := cell_at HX1.out rfl; have d4 : w1.cell? ⟨w.heap.size, 4, none⟩ = some (.int .i64 U.kind) := cell_at HX1.out rfl; have d5 : w1.cell? ⟨w.heap.size, 5, none⟩ = some (.int .u64 U.num) := cell_at HX1.out rfl; have d6 : w1.cell? ⟨w.heap.size, 6, none⟩ = some (.string U.text) := cell_at HX1.out rfl; have d7 : w1.cell? ⟨w.heap.size, 7, none⟩ = some (.slice U.ia U.len U.cap) := cell_at HX1.out rfl; clear hb1)
        | (go_at_call 7; (with_reducible refine (HM2.out _ HB1.out).mono ?_); rintro e2 w2 ⟨rfl, hb2⟩; have HB2 := Lib.hid (below_step8' HB1.out hb2); have HX2 := Lib.hid (box_keep HX1.out hb2); clear d0 d1 d2 d3 d4 d5 d6 d7; have d0 : w2.cell? ⟨w.heap.size, 0, none⟩ = some (.int .i64 T.kind) := cell_at HX2.out rfl; have d1 : w2.cell? ⟨w.heap.size, 1, none⟩ = some (.int .u64 T.num) := cell_at HX2.out rfl; have d2 : w2.cell? ⟨w.heap.size, 2, none⟩ = some (.string T.text) := cell_at HX2.out rfl; have d3 : w2.cell? ⟨w.heap.size, 3, none⟩ = some (.slice T.ia T.len T.cap) := cell_at HX2.out rfl; have d4 : w2.cell? ⟨w.heap.size, 4, none⟩ = some (.int .i64 U.kind) := cell_at HX2.out rfl; have d5 : w2.cell? ⟨w.heap.size, 5, none⟩ = some (.int .u64 U.num) := cell_at HX2.out rfl; have d6 : w2.cell? ⟨w.heap.size, 6, none⟩ = some (.string U.text) := cell_at HX2.out rfl; have d7 : w2.cell? ⟨w.heap.size, 7, none⟩ = some (.slice U.ia U.len U.cap) := cell_at HX2.out rfl; clear hb2)
        | (go_at_call 9; (with_reducible refine (HP1.out _ HB2.out).mono ?_); rintro e3 w3 ⟨rfl, hb3⟩; have HB3 := Lib.hid (below_step8' HB2.out hb3); have HX3 := Lib.hid (box_keep HX2.out hb3); clear d0 d1 d2 d3 d4 d5 d6 d7; have d0 : w3.cell? ⟨w.heap.size, 0, none⟩ = some (.int .i64 T.kind) := cell_at HX3.out rfl; have d1 : w3.cell? ⟨w.heap.size, 1, none⟩ = some (.int .u64 T.num) := cell_at HX3.out rfl; have d2 : w3.cell? ⟨w.heap.size, 2, none⟩ = some (.string T.text) := cell_at HX3.out rfl; have d3 : w3.cell? ⟨w.heap.size, 3, none⟩ = some (.slice T.ia T.len T.cap) := cell_at HX3.out rfl; have d4 : w3.cell? ⟨w.heap.size, 4, none⟩ = some (.int .i64 U.kind) := cell_at HX3.out rfl; have d5 : w3.cell? ⟨w.heap.size, 5, none⟩ = some (.int .u64 U.num) := cell_at HX3.out rfl; have d6 : w3.cell? ⟨w.heap.size, 6, none⟩ = some (.string U.text) := cell_at HX3.out rfl; have d7 : w3.cell? ⟨w.heap.size, 7, none⟩ = some (.slice U.ia U.len U.cap) := cell_at HX3.out rfl; clear hb3)
        | (go_at_call 9; (with_reducible refine (HP2.out _ HB3.out).mono ?_); rintro e4 w4 ⟨rfl, hb4⟩; have HB4 := Lib.hid (below_step8' HB3.out hb4); have HX4 := Lib.hid (box_keep HX3.out hb4); clear d0 d1 d2 d3 d4 d5 d6 d7; have d0 : w4.cell? ⟨w.heap.size, 0, none⟩ = some (.int .i64 T.kind) := cell_at HX4.out rfl; have d1 : w4.cell? ⟨w.heap.size, 1, none⟩ = some (.int .u64 T.num) := cell_at HX4.out rfl; have d2 : w4.cell? ⟨w.heap.size, 2, none⟩ = some (.string T.text) := cell_at HX4.out rfl; have d3 : w4.cell? ⟨w.heap.size, 3, none⟩ = some (.slice T.ia T.len T.cap) := cell_at HX4.out rfl; have d4 : w4.cell? ⟨w.heap.size, 4, none⟩ = some (.int .i64 U.kind) := cell_at HX4.out rfl; have d5 : w4.cell? ⟨w.heap.size, 5, none⟩ = some (.int .u64 U.num) := cell_at HX4.out rfl; have d6 : w4.cell? ⟨w.heap.size, 6, none⟩ = some (.string U.text) := cell_at HX4.out rfl; have d7 : w4.cell? ⟨w.heap.size, 7, none⟩ = some (.slice U.ia U.len U.cap) := cell_at HX4.out rfl; clear hb4)
        | (go_at_call 15; (with_reducible refine (HS.out _ HB4.out).mono ?_); rintro e5 w5 ⟨rfl, hb5⟩; have HB5 := Lib.hid (below_step8' HB4.out hb5); have HX5 := Lib.hid (box_keep HX4.out hb5); clear d0 d1 d2 d3 d4 d5 d6 d7; have d0 : w5.cell? ⟨w.heap.size, 0, none⟩ = some (.int .i64 T.kind) := cell_at HX5.out rfl; have d1 : w5.cell? ⟨w.heap.size, 1, none⟩ = some (.int .u64 T.num) := cell_at HX5.out rfl; have d2 : w5.cell? ⟨w.heap.size, 2, none⟩ = some (.string T.text) := cell_at HX5.out rfl; have d3 : w5.cell? ⟨w.heap.size, 3, none⟩ = some (.slice T.ia T.len T.cap) := cell_at HX5.out rfl; have d4 : w5.cell? ⟨w.heap.size, 4, none⟩ = some (.int .i64 U.kind) := cell_at HX5.out rfl; have d5 : w5.cell? ⟨w.heap.size, 5, none⟩ = some (.int .u64 U.num) := cell_at HX5.out rfl; have d6 : w5.cell? ⟨w.heap.size, 6, none⟩ = some (.string U.text) := cell_at HX5.out rfl; have d7 : w5.cell? ⟨w.heap.size, 7, none⟩ = some (.slice U.ia U.len U.cap) := cell_at HX5.out rfl; clear hb5)
        | (go_at_call 8; refine (HW.out _ HB5.out).mono ?_; rintro e9 w9 ⟨rfl, hb9⟩; have HB9 := Lib.hid (below_step8' HB5.out hb9); clear hb9))
      go_ret
      exact ⟨rfl, HB9.out⟩
    · have c' : ¬ ((b.size : Nat) : Int) ≤ ((a.size : Nat) : Int) := by omega
      have hsl : ∀ wx, (Instr.slice 9 (.string b) none (some (.int .i64 ((a.size : Nat) : Int))) none).run Tryz.prog wx = .ok (.string (b.extract 0 a.size)) wx := fun wx => run_slice_string_h wx 9 b Tryz.underlying9 .i64 ((a.size : Nat) : Int) (by omega) (by omega)
      have hp := hpre rfl (by omega)
      obtain ⟨z, hz⟩ : ∃ z, b.extract 0 a.size = z := ⟨_, rfl⟩
      rw [hz] at hp hsl
      clear hz hpre
      go_enter Tryz.func4, Tryz.ntmps4
      go_wp2_with (first
        | (go_at_call 6; refine (HG.out _ HB0.out).mono ?_; rintro e0 w' ⟨rfl, rfl⟩)
        | (go_at_call 7; (with_reducible refine (HM1.out _ HB0.out).mono ?_); rintro e1 w1 ⟨rfl, hb1⟩; have HB1 := Lib.hid (below_step8' HB0.out hb1); have HX1 := Lib.hid (box_keep HX0.out hb1); have d0 : w1.cell? ⟨w.heap.size, 0, none⟩ = some (.int .i64 T.kind) := cell_at HX1.out rfl; have d1 : w1.cell? ⟨w.heap.size, 1, none⟩ = some (.int .u64 T.num) := cell_at HX1.out rfl; have d2 : w1.cell? ⟨w.heap.size, 2, none⟩ = some (.string T.text) := cell_at HX1.out rfl; have d3 : w1.cell? ⟨w.heap.size, 3, none⟩ = some (.slice T.ia T.len T.cap) := cell_at HX1.out rfl; have d4 : w1.cell? ⟨w.heap.size, 4, none⟩ = some (.int .i64 U.kind) := cell_at HX1.out rfl; have d5 : w1.cell? ⟨w.heap.size, 5, none⟩ = some (.int .u64 U.num) := cell_at HX1.out rfl; have d6 : w1.cell? ⟨w.heap.size, 6, none⟩ = some (.string U.text) := cell_at HX1.out rfl; have d7 : w1.cell? ⟨w.heap.size, 7, none⟩ = some (.slice U.ia U.len U.cap) := cell_at HX1.out rfl; clear hb1)
        | (go_at_call 7; (with_reducible refine (HM2.out _ HB1.out).mono ?_); rintro e2 w2 ⟨rfl, hb2⟩; have HB2 := Lib.hid (below_step8' HB1.out hb2); have HX2 := Lib.hid (box_keep HX1.out hb2); clear d0 d1 d2 d3 d4 d5 d6 d7; have d0 : w2.cell? ⟨w.heap.size, 0, none⟩ = some (.int .i64 T.kind) := cell_at HX2.out rfl; have d1 : w2.cell? ⟨w.heap.size, 1, none⟩ = some (.int .u64 T.num) := cell_at HX2.out rfl; have d2 : w2.cell? ⟨w.heap.size, 2, none⟩ = some (.string T.text) := cell_at HX2.out rfl; have d3 : w2.cell? ⟨w.heap.size, 3, none⟩ = some (.slice T.ia T.len T.cap) := cell_at HX2.out rfl; have d4 : w2.cell? ⟨w.heap.size, 4, none⟩ = some (.int .i64 U.kind) := cell_at HX2.out rfl; have d5 : w2.cell? ⟨w.heap.size, 5, none⟩ = some (.int .u64 U.num) := cell_at HX2.out rfl; have d6 : w2.cell? ⟨w.heap.size, 6, none⟩ = some (.string U.text) := cell_at HX2.out rfl; have d7 : w2.cell? ⟨w.heap.size, 7, none⟩ = some (.slice U.ia U.len U.cap) := cell_at HX2.out rfl; clear hb2)
        | (go_at_call 9; (with_reducible refine (HP1.out _ HB2.out).mono ?_); rintro e3 w3 ⟨rfl, hb3⟩; have HB3 := Lib.hid (below_step8' HB2.out hb3); have HX3 := Lib.hid (box_keep HX2.out hb3); clear d0 d1 d2 d3 d4 d5 d6 d7; have d0 : w3.cell? ⟨w.heap.size, 0, none⟩ = some (.int .i64 T.kind) := cell_at HX3.out rfl; have d1 : w3.cell? ⟨w.heap.size, 1, none⟩ = some (.int .u64 T.num) := cell_at HX3.out rfl; have d2 : w3.cell? ⟨w.heap.size, 2, none⟩ = some (.string T.text) := cell_at HX3.out rfl; have d3 : w3.cell? ⟨w.heap.size, 3, none⟩ = some (.slice T.ia T.len T.cap) := cell_at HX3.out rfl; have d4 : w3.cell? ⟨w.heap.size, 4, none⟩ = some (.int .i64 U.kind) := cell_at HX3.out rfl; have d5 : w3.cell? ⟨w.heap.size, 5, none⟩ = some (.int .u64 U.num) := cell_at HX3.out rfl; have d6 : w3.cell? ⟨w.heap.size, 6, none⟩ = some (.string U.text) := cell_at HX3.out rfl; have d7 : w3.cell? ⟨w.heap.size, 7, none⟩ = some (.slice U.ia U.len U.cap) := cell_at HX3.out rfl; clear hb3)
        | (go_at_call 9; (with_reducible refine (HP2.out _ HB3.out).mono ?_); rintro e4 w4 ⟨rfl, hb4⟩; have HB4 := Lib.hid (below_step8' HB3.out hb4); have HX4 := Lib.hid (box_keep HX3.out hb4); clear d0 d1 d2 d3 d4 d5 d6 d7; have d0 : w4.cell? ⟨w.heap.size, 0, none⟩ = some (.int .i64 T.kind) := cell_at HX4.out rfl; have d1 : w4.cell? ⟨w.heap.size, 1, none⟩ = some (.int .u64 T.num) := cell_at HX4.out rfl; have d2 : w4.cell? ⟨w.heap.size, 2, none⟩ = some (.string T.text) := cell_at HX4.out rfl; have d3 : w4.cell? ⟨w.heap.size, 3, none⟩ = some (.slice T.ia T.len T.cap) := cell_at HX4.out rfl; have d4 : w4.cell? ⟨w.heap.size, 4, none⟩ = some (.int .i64 U.kind) := cell_at HX4.out rfl; have d5 : w4.cell? ⟨w.heap.size, 5, none⟩ = some (.int .u64 U.num) := cell_at HX4.out rfl; have d6 : w4.cell? ⟨w.heap.size, 6, none⟩ = some (.string U.text) := cell_at HX4.out rfl; have d7 : w4.cell? ⟨w.heap.size, 7, none⟩ = some (.slice U.ia U.len U.cap) := cell_at HX4.out rfl; clear hb4)
        | (go_at_call 15; (with_reducible refine (HS.out _ HB4.out).mono ?_); rintro e5 w5 ⟨rfl, hb5⟩; have HB5 := Lib.hid (below_step8' HB4.out hb5); have HX5 := Lib.hid (box_keep HX4.out hb5); clear d0 d1 d2 d3 d4 d5 d6 d7; have d0 : w5.cell? ⟨w.heap.size, 0, none⟩ = some (.int .i64 T.kind) := cell_at HX5.out rfl; have d1 : w5.cell? ⟨w.heap.size, 1, none⟩ = some (.int .u64 T.num) := cell_at HX5.out rfl; have d2 : w5.cell? ⟨w.heap.size, 2, none⟩ = some (.string T.text) := cell_at HX5.out rfl; have d3 : w5.cell? ⟨w.heap.size, 3, none⟩ = some (.slice T.ia T.len T.cap) := cell_at HX5.out rfl; have d4 : w5.cell? ⟨w.heap.size, 4, none⟩ = some (.int .i64 U.kind) := cell_at HX5.out rfl; have d5 : w5.cell? ⟨w.heap.size, 5, none⟩ = some (.int .u64 U.num) := cell_at HX5.out rfl; have d6 : w5.cell? ⟨w.heap.size, 6, none⟩ = some (.string U.text) := cell_at HX5.out rfl; have d7 : w5.cell? ⟨w.heap.size, 7, none⟩ = some (.slice U.ia U.len U.cap) := cell_at HX5.out rfl; clear hb5)
        | (go_at_call 8; refine (HW.out _ HB5.out).mono ?_; rintro e9 w9 ⟨rfl, hb9⟩; have HB9 := Lib.hid (below_step8' HB5.out hb9); clear hb9))
      go_ret
      exact ⟨rfl, HB9.out⟩
set_option maxRecDepth 100000 in
set_option maxHeartbeats 4000000 in
theorem walk (ao : Option Addr) (len cap : Nat) (L : Nat → TypeV) (t : Int) (T U : VT) (S : Nat → Prop) (hcap : len ≤ cap) (hm : len ≤ 140737488351232) (hcp : ∀ i, i < len → (L i).ilen ≤ (L i).icap) (w : World) (H : ∀ i, i < len → TypeAt w ao i (L i)) (HV : ValAt w S T) (HU : ValAt w S U) :
    Calls Tryz.prog 4 #[.slice ao len cap, .int .i64 t, .agg #[.int .i64 T.kind, .int .u64 T.num, .string T.text, .slice T.ia T.len T.cap, .int .i64 U.kind, .int .u64 U.num, .string U.text, .slice U.ia U.len U.cap]] w fun e w' => e = .returned (.bool true) ∧ Below w.heap.size w w' := by
  have hw := fun wx (hb : Below w.heap.size w wx) => awake10_any wx
  have hg := fun wx (hb : Below w.heap.size w wx) => great_any ao len cap L hm wx (hold H hb)
  have hmu := fun wx (hb : Below w.heap.size w wx) => refMuch_any S T 0 wx (HV.next hb) (by omega)
  have hmv := fun wx (hb : Below w.heap.size w wx) => refMuch_any S U 0 wx (HU.next hb) (by omega)
  unfold RMuchTo at hmu hmv
  rw [show ((0 : Nat) : Int) = 0 from rfl] at hmu hmv
  have HX0 := Lib.hid (alloc_at w (.cells #[.int .i64 T.kind, .int .u64 T.num, .string T.text, .slice T.ia T.len T.cap, .int .i64 U.kind, .int .u64 U.num, .string U.text, .slice U.ia U.len U.cap] 41))
  have HB0 := Lib.hid ((Below.refl w.heap.size w).alloc (Nat.le_refl _) (.cells #[.int .i64 T.kind, .int .u64 T.num, .string T.text, .slice T.ia T.len T.cap, .int .i64 U.kind, .int .u64 U.num, .string U.text, .slice U.ia U.len U.cap] 41))
  have HW := Lib.hid hw
  cases hbig : greatB L len with
  | true =>
    rw [hbig] at hg
    have HG := Lib.hid hg
    clear hw hg hmu hmv hbig HV HU H hcp
    go_enter Tryz.func4, Tryz.ntmps4
    go_wp2_with (first
      | (go_at_call 6; refine (HG.out _ HB0.out).mono ?_; rintro e0 w' ⟨rfl, rfl⟩)
      | (go_at_call 8; refine (HW.out _ HB0.out).mono ?_; rintro e9 w9 ⟨rfl, hb9⟩; have HB9 := Lib.hid (below_step8' HB0.out hb9); clear hb9))
    go_ret
    exact ⟨rfl, HB9.out⟩
  | false =>
  have hlen := great_lt hbig
  rw [hbig] at hg
  cases hmt : muchT T 0 with
  | true =>
    rw [hmt] at hmu
    have HG := Lib.hid hg
    have HM1 := Lib.hid hmu
    clear hw hg hmu hmv hmt HV HU H hcp hbig
    go_enter Tryz.func4, Tryz.ntmps4
    go_wp2_with (first
      | (go_at_call 6; refine (HG.out _ HB0.out).mono ?_; rintro e0 w' ⟨rfl, rfl⟩)
      | (go_at_call 7; (with_reducible refine (HM1.out _ HB0.out).mono ?_); rintro e1 w1 ⟨rfl, hb1⟩; have HB1 := Lib.hid (below_step8' HB0.out hb1); have HX1 := Lib.hid (box_keep HX0.out hb1); have d0 : w1.cell? ⟨w.heap.size, 0, none⟩ = some (.int .i64 T.kind) := cell_at HX1.out rfl; have d1 : w1.cell? ⟨w.heap.size, 1, none⟩ = some (.int .u64 T.num) := cell_at HX1.out rfl; have d2 : w1.cell? ⟨w.heap.size, 2, none⟩ = some (.string T.text) := cell_at HX1.out rfl; have d3 : w1.cell? ⟨w.heap.size, 3, none⟩ = some (.slice T.ia T.len T.cap) := cell_at HX1.out rfl; have d4 : w1.cell? ⟨w.heap.size, 4, none⟩ = some (.int .i64 U.kind) := cell_at HX1.out rfl; have d5 : w1.cell? ⟨w.heap.size, 5, none⟩ = some (.int .u64 U.num) := cell_at HX1.out rfl; have d6 : w1.cell? ⟨w.heap.size, 6, none⟩ = some (.string U.text) := cell_at HX1.out rfl; have d7 : w1.cell? ⟨w.heap.size, 7, none⟩ = some (.slice U.ia U.len U.cap) := cell_at HX1.out rfl; clear hb1)
      | (go_at_call 8; refine (HW.out _ HB1.out).mono ?_; rintro e9 w9 ⟨rfl, hb9⟩; have HB9 := Lib.hid (below_step8' HB1.out hb9); clear hb9))
    go_ret
    exact ⟨rfl, HB9.out⟩
  | false =>
  rw [hmt] at hmu
  cases hmt2 : muchT U 0 with
  | true =>
    rw [hmt2] at hmv
    have HG := Lib.hid hg
    have HM1 := Lib.hid hmu
    have HM2 := Lib.hid hmv
    clear hw hg hmu hmv hmt hmt2 HV HU H hcp hbig
    go_enter Tryz.func4, Tryz.ntmps4
    go_wp2_with (first
      | (go_at_call 6; refine (HG.out _ HB0.out).mono ?_; rintro e0 w' ⟨rfl, rfl⟩)
      | (go_at_call 7; (with_reducible refine (HM1.out _ HB0.out).mono ?_); rintro e1 w1 ⟨rfl, hb1⟩; have HB1 := Lib.hid (below_step8' HB0.out hb1); have HX1 := Lib.hid (box_keep HX0.out hb1); have d0 : w1.cell? ⟨w.heap.size, 0, none⟩ = some (.int .i64 T.kind) := cell_at HX1.out rfl; have d1 : w1.cell? ⟨w.heap.size, 1, none⟩ = some (.int .u64 T.num) := cell_at HX1.out rfl; have d2 : w1.cell? ⟨w.heap.size, 2, none⟩ = some (.string T.text) := cell_at HX1.out rfl; have d3 : w1.cell? ⟨w.heap.size, 3, none⟩ = some (.slice T.ia T.len T.cap) := cell_at HX1.out rfl; have d4 : w1.cell? ⟨w.heap.size, 4, none⟩ = some (.int .i64 U.kind) := cell_at HX1.out rfl; have d5 : w1.cell? ⟨w.heap.size, 5, none⟩ = some (.int .u64 U.num) := cell_at HX1.out rfl; have d6 : w1.cell? ⟨w.heap.size, 6, none⟩ = some (.string U.text) := cell_at HX1.out rfl; have d7 : w1.cell? ⟨w.heap.size, 7, none⟩ = some (.slice U.ia U.len U.cap) := cell_at HX1.out rfl; clear hb1)
      | (go_at_call 7; (with_reducible refine (HM2.out _ HB1.out).mono ?_); rintro e2 w2 ⟨rfl, hb2⟩; have HB2 := Lib.hid (below_step8' HB1.out hb2); have HX2 := Lib.hid (box_keep HX1.out hb2); clear d0 d1 d2 d3 d4 d5 d6 d7; have d0 : w2.cell? ⟨w.heap.size, 0, none⟩ = some (.int .i64 T.kind) := cell_at HX2.out rfl; have d1 : w2.cell? ⟨w.heap.size, 1, none⟩ = some (.int .u64 T.num) := cell_at HX2.out rfl; have d2 : w2.cell? ⟨w.heap.size, 2, none⟩ = some (.string T.text) := cell_at HX2.out rfl; have d3 : w2.cell? ⟨w.heap.size, 3, none⟩ = some (.slice T.ia T.len T.cap) := cell_at HX2.out rfl; have d4 : w2.cell? ⟨w.heap.size, 4, none⟩ = some (.int .i64 U.kind) := cell_at HX2.out rfl; have d5 : w2.cell? ⟨w.heap.size, 5, none⟩ = some (.int .u64 U.num) := cell_at HX2.out rfl; have d6 : w2.cell? ⟨w.heap.size, 6, none⟩ = some (.string U.text) := cell_at HX2.out rfl; have d7 : w2.cell? ⟨w.heap.size, 7, none⟩ = some (.slice U.ia U.len U.cap) := cell_at HX2.out rfl; clear hb2)
      | (go_at_call 8; refine (HW.out _ HB2.out).mono ?_; rintro e9 w9 ⟨rfl, hb9⟩; have HB9 := Lib.hid (below_step8' HB2.out hb9); clear hb9))
    go_ret
    exact ⟨rfl, HB9.out⟩
  | false =>
  rw [hmt2] at hmv
  clear HX0 HB0 HW
  have hp1 := fun wx (hb : Below w.heap.size w wx) => put_any10 ao len cap L (by omega) hcap hcp S t T wx (HV.next hb) (hold H hb)
  have hp2 := fun wx (hb : Below w.heap.size w wx) => put_any10 ao len cap L (by omega) hcap hcp S t U wx (HU.next hb) (hold H hb)
  have hz : ∀ X : VT, putErr L len t X ≠ 0 → putBytes L len t X = ⟨#[]⟩ := fun X h => by unfold putBytes; rw [if_neg h]
  by_cases hE : putErr L len t T ≠ 0 ∨ putErr L len t U ≠ 0
  · exact walk_no ao len cap t T U _ _ _ _ w hE (hz T) (hz U) hw hg hmu hmv hp1 hp2
  · have e1 : putErr L len t T = 0 := by by_cases c : putErr L len t T = 0 <;> simp_all
    have e2 : putErr L len t U = 0 := by by_cases c : putErr L len t U = 0 <;> simp_all
    rw [e1] at hp1
    rw [e2] at hp2
    obtain ⟨g1, g2⟩ := putErr_zero e1
    obtain ⟨g3, g4⟩ := putErr_zero e2
    obtain ⟨k, rfl, hk, hfe, hft⟩ := fitsA_zero g1
    obtain ⟨k', hkk, _, _, hfu⟩ := fitsA_zero g3
    obtain rfl : k = k' := by omega
    have hv := ok_all hfe
    have r1 := row_okP hv T k hk hft
    have r2 := row_okP hv U k hk hfu
    have b1 : putBytes L len (k : Nat) T = bytR (rowT L T k) ⟨#[]⟩ := by unfold putBytes; rw [if_pos e1]; rfl
    have b2 : putBytes L len (k : Nat) U = bytR (rowT L U k) ⟨#[]⟩ := by unfold putBytes; rw [if_pos e2]; rfl
    have l1 : (putBytes L len (k : Nat) T).data.toList = bytL (rowT L T k) 0 := by rw [b1, bytR_list _ r1]; rfl
    have l2 : (putBytes L len (k : Nat) U).data.toList = bytL (rowT L U k) 0 := by rw [b2, bytR_list _ r2]; rfl
    have z1 : (putBytes L len (k : Nat) T).size = endR (rowT L T k) 0 := by rw [b1]; exact bytR_size _ r1 ⟨#[]⟩
    have z2 : (putBytes L len (k : Nat) U).size = endR (rowT L U k) 0 := by rw [b2]; exact bytR_size _ r2 ⟨#[]⟩
    have hpos := (fits_ends (op := fun _ => true) hv (fun _ _ _ e => by cases e) T k hk (valAt_wf T HV) hft 0).1
    have hin := (end_good (op := fun _ => true) (most := false) hv hk).inc 0
    have g2' : endR (rowT L T k) 0 ≤ 512 := g2
    have g4' : endR (rowT L U k) 0 ≤ 512 := g4
    have hinj := fun x y h => row_inj hv (enum_ok hfe) T k U 0 x y hk (valAt_wf T HV) (valAt_wf U HU) hft hfu h
    refine walk_yes ao len cap (k : Nat) T U _ _ (sameT T U) w ?_ (by omega) (by omega) (by omega) ?_ (fun wx hb => same8_any S S T U wx (HV.next hb) (HU.next hb)) hw hg hmu hmv hp1 hp2
    · cases hst : sameT T U with
      | true =>
        have : putBytes L len (k : Nat) T = putBytes L len (k : Nat) U := by rw [b1, b2, same_row L T U k hst]
        rw [this]; simp
      | false =>
        cases hq : ((putBytes L len (k : Nat) T).toList == (putBytes L len (k : Nat) U).toList) with
        | false => rfl
        | true =>
          exfalso
          have h1 : (putBytes L len (k : Nat) T).toList = (putBytes L len (k : Nat) U).toList := by simpa using hq
          have h2 := toList_inj h1
          rw [h2] at l1
          have h3 := hinj [] [] (by rw [← l1, ← l2])
          rw [hst] at h3; cases h3.1
    · intro hst hlt
      cases hq : (((putBytes L len (k : Nat) U).extract 0 (putBytes L len (k : Nat) T).size).toList == (putBytes L len (k : Nat) T).toList) with
      | false => rfl
      | true =>
        exfalso
        have h1 : ((putBytes L len (k : Nat) U).extract 0 (putBytes L len (k : Nat) T).size).toList = (putBytes L len (k : Nat) T).toList := by simpa using hq
        have h2 := toList_inj h1
        obtain ⟨y, hy⟩ := prefix_of h2
        rw [l1, l2] at hy
        have h3 := hinj y [] (by rw [hy, List.append_nil])
        rw [hst] at h3; cases h3.1
set_option maxRecDepth 100000 in
theorem lifted (os : Os) (started : os.Started) (H : Type) (enc : TypeId × Value → H) :
    ReturnsInHanded {} Tryz.checked os 4 .any (Rows.putApartSpec.pre6 enc Tryz.prog Tryz.f4 Rows.putApartRow.domain false) (Rows.putApartSpec.post enc Tryz.prog Tryz.f4 false true false false) := by
  refine returnsInHanded_of_change_sized (C := Tryz.checked) own started (by kernel_rfl) Tryz.func4
    (ChangeSpec.witness6 (enc := enc) (C := Tryz.checked) false ⟨#[], #[.slice none 0 0, .int .i64 0, .agg #[.int .i64 0, .int .u64 0, .string ⟨#[]⟩, .slice none 0 0, .int .i64 0, .int .u64 0, .string ⟨#[]⟩, .slice none 0 0]], []⟩ 8 (by kernel_rfl) (by kernel_rfl) (by kernel_rfl) (by kernel_rfl)) ?_
  intro W base args ds gs before hval0 hW hcnd hsz _
  have hval : ∀ (j : Nat) t v, Tryz.f4.params[j]? = some t → args[j]? = some v → Value.okWide Tryz.prog W .any base t v := hval0
  have hW' := hW
  obtain ⟨p, q, hA0, hV, rfl, hfz, hnd⟩ := hW
  have hA : DataW.TrodAll enc Tryz.prog W 0 (fun _ => true) true Tryz.f4.params.toList args.toList ds p := hA0
  rw [Tryz.params4] at hA hval
  obtain ⟨rfl, rfl⟩ := trodVars_none hV
  clear hA0 hval0
  simp only [List.append_nil] at hW'
  have hlt := hW'.lt
  have hA1 := hA
  have hsz1 : (DataW.weightsEach Tryz.prog (Tryz.f4.params.toList ++ []) (ds ++ [])).all (· ≤ reachBytes) = true := hsz
  rw [Tryz.params4, List.append_nil, List.append_nil] at hsz1
  have hrd := rdg_all _ _ _ _ hA1 (fun n hn => by simpa using List.all_eq_true.1 hsz1 n hn)
  obtain ⟨v0, vs0, d0, ds0, p0, q0, hargs, rfl, rfl, h0, r0⟩ := trodAll_cons hA
  obtain ⟨v1, vs1, d1, ds1, p1, q1, rfl, rfl, rfl, h1, r1⟩ := trodAll_cons r0
  obtain ⟨v2, vs2, d2, ds2, p2, q2, rfl, rfl, rfl, h2, r2⟩ := trodAll_cons r1
  obtain ⟨rfl, rfl, rfl⟩ := trodAll_nil r2
  obtain rfl : args = #[v0, v1, v2] := by cases args; simp_all
  obtain ⟨a1, rfl, w1⟩ := rop_int Tryz.underlying3 (hval 1 3 v1 rfl rfl) (hrd 1 3 v1 rfl rfl)
  have g2 := hrd 2 41 v2 rfl rfl
  obtain ⟨cs2, rfl, hz2⟩ := ok_agg (by first | exact .inl ⟨_, Tryz.underlying41⟩ | exact .inr ⟨_, _, Tryz.underlying41⟩) (hval 2 41 v2 rfl rfl)
  obtain ⟨ao, len, cap, L, rfl, hcap, hm, hcp, H⟩ := types_of3 (rop_slice 6 Tryz.underlying22 (by kernel_rfl) (hval 0 22 v0 rfl rfl) (hrd 0 22 v0 rfl rfl))
  obtain ⟨y0, y1, y2, y3, y4, y5, y6, y7, rfl⟩ := arr8 (hz2.trans (by kernel_rfl))
  have s1 := rdg_elem Tryz.underlying41 g2 0 4 (by omega) (by kernel_rfl)
  have s2 := rdg_elem Tryz.underlying41 g2 1 4 (by omega) (by kernel_rfl)
  obtain ⟨T, hT, HT⟩ := val_of (cs := #[y0, y1, y2, y3]) (by kernel_rfl) (by simpa [Value.cells] using s1)
  obtain ⟨U, hU, HU⟩ := val_of (cs := #[y4, y5, y6, y7]) (by kernel_rfl) (by simpa [Value.cells] using s2)
  unfold valV at hT hU
  simp only [Value.agg.injEq, Array.mk.injEq, List.cons.injEq, and_true] at hT hU
  obtain ⟨rfl, rfl, rfl, rfl⟩ := hT
  obtain ⟨rfl, rfl, rfl, rfl⟩ := hU
  refine (walk ao len cap L a1 T U _ hcap hm hcp W H HT HU).mono fun e W' ⟨he, bel⟩ => ?_
  subst he
  exact ⟨_, rfl, _, _, _, [], _, [], hW', trodAll_mk1 (shut_bool Tryz.underlying4 _), trodAll_below laidOut bel [22, 3, 41] _ _ _ (by kernel_rfl) hA1 hlt, rfl, bel.frame _, fun h => by cases h⟩
theorem over : Rows.putApartRow.holds Tryz.pinned (OpenSpec.ofChange Rows.putApartSpec) :=
  OpenClaim.holds_of_wide 4 Tryz.f4 rfl rfl rfl rfl rfl rfl rfl ⟨rfl, rfl, rfl, rfl, rfl⟩ rfl rfl rfl rfl rfl (by kernel_rfl) Tryz.func4 (by kernel_rfl)
    (of_decide_eq_true (by kernel_rfl)) (by unfold Func.isWrapper; first | (rw [if_pos (by decide +kernel)]; kernel_rfl) | (rw [if_neg (by decide +kernel)]; exact ⟨rfl, rfl⟩))
    (fun os started H enc _ => lifted os started H enc)
theorem proved : Rows.PutApartSaid := over
#print axioms proved
end Go.Proofs.YtficmdomnilhnaaGreat.putApart
