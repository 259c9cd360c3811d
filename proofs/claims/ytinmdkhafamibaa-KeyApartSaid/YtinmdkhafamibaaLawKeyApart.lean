/- KeyApart: for every list of types, every number and every two values the law returns true, and its arguments read as before. No condition. -/
import Derived.Test.YtinmdkhafamibaaRdgSlice
import Derived.Test.YtinmdkhafamibaaKeyApart
import Derived.Test.YtinmdkhafamibaaKeyAwake
import Derived.Test.YtinmdkhafamibaaValCSame
namespace Go.Proofs.Ytinmdkhafamibaa.keyApart
open Go.ChangeShapes Go.WideShapes Go.ChangeAt Go.RowKit
open Go.ChangeMaps (open_string shut_string)
set_option linter.unusedVariables false

theorem range_keep {w w1 : World} {b o : Nat} {cs : List Value} (h : w.rangeAt b o cs) (hb : Below w.heap.size w w1) : w1.rangeAt b o cs := fun j v hv => keep hb (h j v hv)
theorem row_range {w : World} {g : Nat} {K : List UInt8} (h : w.heap[g]? = some (.cells (kc K) 31 (0, 0))) : w.rangeAt g 0 (Lib.byteCells K) := fun j v hv => by
  rw [Nat.zero_add]
  exact cell_at h (by simpa [kc] using hv)

theorem wpList_load_rowW {P : Program} {ops : Array Oper} {rest : List Oper} {o : Oper} {a : Act} {w : World} {Q : Exit → Act → World → Prop} (hw : Region.wanted o (yielded ops a.tmps) = true) (ty : TypeId) (x : Operand) (ho : o.op = .load ty x)
    (g : Nat) (hx : a.eval x = .pointer (some ⟨g, 0, none⟩)) (t : TypeId) (cs : Array Value) (fr : Nat × Nat) (d : TypeDesc) (hg : w.heap[g]? = some (.cells cs t fr))
    (hu : P.underlying ty = some d) (hd : (match d with | .struct _ | .array _ _ => true | _ => false) = true) (hi : (P.info? ty).map (·.size) = some cs.size)
    (h : wpList P ops Q rest (a.put o.dst (.agg cs)) w) : wpList P ops Q (o :: rest) a w :=
  BigFrame.wpList_want hw fun K hK => wp_load_row ty x ho g hx t cs fr d hg hu hd hi (hK _ _ h)
theorem wpList_buildW {P : Program} {ops : Array Oper} {rest : List Oper} {o : Oper} {a : Act} {w : World} {Q : Exit → Act → World → Prop} (hw : Region.wanted o (yielded ops a.tmps) = true) (t : TypeId) (parts : Array (Nat × Operand)) (ho : o.op = .build t parts)
    (d : Option Tmp) (hd : o.dst = d) (cells : Array Value) (hf : P.built t (parts.map fun (i, x) => (i, a.eval x)).toList = some cells)
    (h : wpList P ops Q rest (a.put d (.agg cells)) w) : wpList P ops Q (o :: rest) a w := by
  subst hd
  refine BigFrame.wpList_want hw fun K hK => wp_build t parts ho (by rw [hf]; rfl) ?_
  rw [hf]
  exact hK _ _ h
set_option maxRecDepth 100000 in
set_option maxHeartbeats 8000000 in
theorem walk_no (ao : Option Addr) (len cap : Nat) (t : Int) (T U : VT) (A B : List UInt8) (l : List Nat) (E F G : Int) (w : World) (hAl : A.length = 17) (hBl : B.length = 17) (hE : E ≠ 0 → F = E ∧ G = E ∧ l = []) (hF : F ≠ 0 → A = List.replicate 17 0) (hG : G ≠ 0 → B = List.replicate 17 0) (hor : E ≠ 0 ∨ F ≠ 0 ∨ G ≠ 0)
    (hg : ∀ wx, Below w.heap.size w wx → Calls Try.prog 13 #[.slice ao len cap] wx fun e w' => e = .returned (.bool false) ∧ wx = w')
    (hm1 : ∀ wx, Below w.heap.size w wx → Calls Try.prog 14 #[.agg #[.int .i64 T.kind, .int .u64 T.num, .string T.text, .slice T.ia T.len T.cap], .int .i64 0] wx fun e w' => e = .returned (.bool false) ∧ Below wx.heap.size wx w')
    (hm2 : ∀ wx, Below w.heap.size w wx → Calls Try.prog 14 #[.agg #[.int .i64 U.kind, .int .u64 U.num, .string U.text, .slice U.ia U.len U.cap], .int .i64 0] wx fun e w' => e = .returned (.bool false) ∧ Below wx.heap.size wx w')
    (hfd : ∀ wx, Below w.heap.size w wx → Calls Try.prog 15 #[.slice ao len cap, .int .i64 t] wx fun e w' => (∃ v, e = .returned (.tuple #[v, .int .i64 E]) ∧ IntsAt w' v l) ∧ Below wx.heap.size wx w')
    (ho1 : ∀ wx, Below w.heap.size w wx → Calls Try.prog 16 #[.slice ao len cap, .int .i64 t, .agg #[.int .i64 T.kind, .int .u64 T.num, .string T.text, .slice T.ia T.len T.cap]] wx fun e' w' => e' = .returned (.tuple #[.agg (kc A), .int .i64 F]) ∧ Below wx.heap.size wx w')
    (ho2 : ∀ wx, Below w.heap.size w wx → Calls Try.prog 16 #[.slice ao len cap, .int .i64 t, .agg #[.int .i64 U.kind, .int .u64 U.num, .string U.text, .slice U.ia U.len U.cap]] wx fun e' w' => e' = .returned (.tuple #[.agg (kc B), .int .i64 G]) ∧ Below wx.heap.size wx w') :
    Calls Try.prog 4 #[.slice ao len cap, .int .i64 t, .agg #[.int .i64 T.kind, .int .u64 T.num, .string T.text, .slice T.ia T.len T.cap, .int .i64 U.kind, .int .u64 U.num, .string U.text, .slice U.ia U.len U.cap]] w fun e w' => e = .returned (.bool true) ∧ Below w.heap.size w w' := by
  have HG := Lib.hid hg
  have HM1 := Lib.hid hm1
  have HM2 := Lib.hid hm2
  have HFD := Lib.hid hfd
  have HO1 := Lib.hid ho1
  have HO2 := Lib.hid ho2
  have HX0 := Lib.hid (alloc_at w (.cells #[.int .i64 T.kind, .int .u64 T.num, .string T.text, .slice T.ia T.len T.cap, .int .i64 U.kind, .int .u64 U.num, .string U.text, .slice U.ia U.len U.cap] 39))
  have HB0 := Lib.hid ((Below.refl w.heap.size w).alloc (Nat.le_refl _) (.cells #[.int .i64 T.kind, .int .u64 T.num, .string T.text, .slice T.ia T.len T.cap, .int .i64 U.kind, .int .u64 U.num, .string U.text, .slice U.ia U.len U.cap] 39))
  obtain ⟨m, hm⟩ : ∃ m, l.length = m := ⟨_, rfl⟩
  have HLM := Lib.hid hm
  have HKA := Lib.hid (show (Try.prog.info? 31).map (·.size) = some (kc A).size by rw [kc_size, hAl]; exact infoKey)
  have HKB := Lib.hid (show (Try.prog.info? 31).map (·.size) = some (kc B).size by rw [kc_size, hBl]; exact infoKey)
  clear hg hm1 hm2 hfd ho1 ho2

  obtain ⟨Z, hZ⟩ : ∃ Z, List.replicate 17 (0 : UInt8) = Z := ⟨_, rfl⟩
  have hbd : Try.prog.built 31 [] = some (kc Z) := by rw [← hZ]; kernel_rfl
  have hzl : Z.length = 17 := by rw [← hZ]; rfl
  rw [hZ] at hF hG
  clear hZ
  have hq : ∀ X : List UInt8, X = Z → ∀ wx : World, (Op.equalIn 10000 31 (.agg (kc X)) (.agg (kc Z))).run Try.prog wx = .ok true wx := fun X hX wx => by
    have := equal_key wx (a := X) (b := Z) (by rw [hX]; exact hzl) hzl
    rw [decide_eq_true hX] at this
    exact this
  by_cases c1 : E ≠ 0
  · obtain ⟨hf1, hg1, hl1⟩ := hE c1
    have hf2 := hf1.symm
    have hg2 := hg1.symm
    subst hf2 hg2 hl1
    have qA := hq A (hF c1)
    have qB := hq B (hG c1)
    obtain rfl : m = 0 := hm.symm
    have x1 : (E != 0) = true := by simpa using c1
    have x2 : (E == 0) = false := by simpa using c1
    clear hE hF hG hor hq c1 hm
    go_enter Try.func4, Try.ntmps4
    go_wp2_with (first
      | (go_at_call 13; refine (HG.out _ HB0.out).mono ?_; rintro e0 w' ⟨rfl, rfl⟩)
      | (go_at_call 14; (with_reducible refine (HM1.out _ HB0.out).mono ?_); rintro e1 w1 ⟨rfl, hb1⟩; have HB1 := Lib.hid (below_step8' HB0.out hb1); have HX1 := Lib.hid (box_keep HX0.out hb1); have d0 : w1.cell? ⟨w.heap.size, 0, none⟩ = some (.int .i64 T.kind) := cell_at HX1.out rfl; have d1 : w1.cell? ⟨w.heap.size, 1, none⟩ = some (.int .u64 T.num) := cell_at HX1.out rfl; have d2 : w1.cell? ⟨w.heap.size, 2, none⟩ = some (.string T.text) := cell_at HX1.out rfl; have d3 : w1.cell? ⟨w.heap.size, 3, none⟩ = some (.slice T.ia T.len T.cap) := cell_at HX1.out rfl; have d4 : w1.cell? ⟨w.heap.size, 4, none⟩ = some (.int .i64 U.kind) := cell_at HX1.out rfl; have d5 : w1.cell? ⟨w.heap.size, 5, none⟩ = some (.int .u64 U.num) := cell_at HX1.out rfl; have d6 : w1.cell? ⟨w.heap.size, 6, none⟩ = some (.string U.text) := cell_at HX1.out rfl; have d7 : w1.cell? ⟨w.heap.size, 7, none⟩ = some (.slice U.ia U.len U.cap) := cell_at HX1.out rfl; clear hb1)
      | (go_at_call 14; (with_reducible refine (HM2.out _ HB1.out).mono ?_); rintro e2 w2 ⟨rfl, hb2⟩; have HB2 := Lib.hid (below_step8' HB1.out hb2); have HX2 := Lib.hid (box_keep HX1.out hb2); clear d0 d1 d2 d3 d4 d5 d6 d7; have d0 : w2.cell? ⟨w.heap.size, 0, none⟩ = some (.int .i64 T.kind) := cell_at HX2.out rfl; have d1 : w2.cell? ⟨w.heap.size, 1, none⟩ = some (.int .u64 T.num) := cell_at HX2.out rfl; have d2 : w2.cell? ⟨w.heap.size, 2, none⟩ = some (.string T.text) := cell_at HX2.out rfl; have d3 : w2.cell? ⟨w.heap.size, 3, none⟩ = some (.slice T.ia T.len T.cap) := cell_at HX2.out rfl; have d4 : w2.cell? ⟨w.heap.size, 4, none⟩ = some (.int .i64 U.kind) := cell_at HX2.out rfl; have d5 : w2.cell? ⟨w.heap.size, 5, none⟩ = some (.int .u64 U.num) := cell_at HX2.out rfl; have d6 : w2.cell? ⟨w.heap.size, 6, none⟩ = some (.string U.text) := cell_at HX2.out rfl; have d7 : w2.cell? ⟨w.heap.size, 7, none⟩ = some (.slice U.ia U.len U.cap) := cell_at HX2.out rfl; clear hb2)
      | (go_at_call 15; refine (HFD.out _ HB2.out).mono ?_; rintro e3 w3 ⟨⟨v3, rfl, hv3⟩, hb3⟩; have HB3 := Lib.hid (below_step8' HB2.out hb3); have HX3 := Lib.hid (box_keep HX2.out hb3); have HV3 := Lib.hid hv3; unfold IntsAt at hv3; rw [HLM.out] at hv3; obtain ⟨fa, fc, rfl, hfi3⟩ := hv3; clear d0 d1 d2 d3 d4 d5 d6 d7; have d0 : w3.cell? ⟨w.heap.size, 0, none⟩ = some (.int .i64 T.kind) := cell_at HX3.out rfl; have d1 : w3.cell? ⟨w.heap.size, 1, none⟩ = some (.int .u64 T.num) := cell_at HX3.out rfl; have d2 : w3.cell? ⟨w.heap.size, 2, none⟩ = some (.string T.text) := cell_at HX3.out rfl; have d3 : w3.cell? ⟨w.heap.size, 3, none⟩ = some (.slice T.ia T.len T.cap) := cell_at HX3.out rfl; have d4 : w3.cell? ⟨w.heap.size, 4, none⟩ = some (.int .i64 U.kind) := cell_at HX3.out rfl; have d5 : w3.cell? ⟨w.heap.size, 5, none⟩ = some (.int .u64 U.num) := cell_at HX3.out rfl; have d6 : w3.cell? ⟨w.heap.size, 6, none⟩ = some (.string U.text) := cell_at HX3.out rfl; have d7 : w3.cell? ⟨w.heap.size, 7, none⟩ = some (.slice U.ia U.len U.cap) := cell_at HX3.out rfl; clear hb3 hfi3)
      | (go_at_call 16; (with_reducible refine (HO1.out _ HB3.out).mono ?_); rintro e4 w4 ⟨rfl, hb4⟩; have HB4 := Lib.hid (below_step8' HB3.out hb4); have HX4 := Lib.hid (box_keep HX3.out hb4); have HV4 := Lib.hid (HV3.out.keep hb4); clear d0 d1 d2 d3 d4 d5 d6 d7; clear hb4)
      | (refine wpList_store_rowTo rfl 31 _ _ rfl rfl w4.heap.size (kc A) rfl rfl _ _ (alloc_at w4 _) HKA.out (by rw [kc_size, hAl]; rfl) (kc_one _) ?_; rw [World.setRow_alloc_new]; obtain ⟨y4, hy4⟩ : ∃ x, w4.alloc (.cells (kc A) 31) = x := ⟨_, rfl⟩; rw [hy4]; have hby : Below w4.heap.size w4 y4 := (by rw [← hy4]; exact (Below.refl _ _).alloc (Nat.le_refl _) _); have HA4 := Lib.hid (show y4.heap[w4.heap.size]? = some (.cells (kc A) 31 (0, 0)) by rw [← hy4]; exact alloc_at w4 _); have HBY4 := Lib.hid (below_step8' HB4.out hby); have HXY4 := Lib.hid (box_keep HX4.out hby); have HVY4 := Lib.hid (HV4.out.keep hby); have d0 : y4.cell? ⟨w.heap.size, 0, none⟩ = some (.int .i64 T.kind) := cell_at HXY4.out rfl; have d1 : y4.cell? ⟨w.heap.size, 1, none⟩ = some (.int .u64 T.num) := cell_at HXY4.out rfl; have d2 : y4.cell? ⟨w.heap.size, 2, none⟩ = some (.string T.text) := cell_at HXY4.out rfl; have d3 : y4.cell? ⟨w.heap.size, 3, none⟩ = some (.slice T.ia T.len T.cap) := cell_at HXY4.out rfl; have d4 : y4.cell? ⟨w.heap.size, 4, none⟩ = some (.int .i64 U.kind) := cell_at HXY4.out rfl; have d5 : y4.cell? ⟨w.heap.size, 5, none⟩ = some (.int .u64 U.num) := cell_at HXY4.out rfl; have d6 : y4.cell? ⟨w.heap.size, 6, none⟩ = some (.string U.text) := cell_at HXY4.out rfl; have d7 : y4.cell? ⟨w.heap.size, 7, none⟩ = some (.slice U.ia U.len U.cap) := cell_at HXY4.out rfl; clear hy4 hby)
      | (go_at_call 16; (with_reducible refine (HO2.out _ HBY4.out).mono ?_); rintro e5 w5 ⟨rfl, hb5⟩; have HB5 := Lib.hid (below_step8' HBY4.out hb5); have HX5 := Lib.hid (box_keep HXY4.out hb5); have HA5 := Lib.hid (rblk_keep HA4.out hb5); have HV5 := Lib.hid (HVY4.out.keep hb5); clear d0 d1 d2 d3 d4 d5 d6 d7; clear hb5)
      | (refine wpList_store_rowTo rfl 31 _ _ rfl rfl w5.heap.size (kc B) rfl rfl _ _ (alloc_at w5 _) HKB.out (by rw [kc_size, hBl]; rfl) (kc_one _) ?_; rw [World.setRow_alloc_new]; obtain ⟨y5, hy5⟩ : ∃ x, w5.alloc (.cells (kc B) 31) = x := ⟨_, rfl⟩; rw [hy5]; have hby : Below w5.heap.size w5 y5 := (by rw [← hy5]; exact (Below.refl _ _).alloc (Nat.le_refl _) _); have HBK := Lib.hid (show y5.heap[w5.heap.size]? = some (.cells (kc B) 31 (0, 0)) by rw [← hy5]; exact alloc_at w5 _); have HBY5 := Lib.hid (below_step8' HB5.out hby); have HXY5 := Lib.hid (box_keep HX5.out hby); have HAK := Lib.hid (rblk_keep HA5.out hby); have HVY5 := Lib.hid (HV5.out.keep hby); clear hy5 hby)
      | (refine wpList_load_rowW (by rfl) 31 _ rfl w4.heap.size rfl 31 (kc A) (0, 0) _ HAK.out Try.underlying31 rfl HKA.out ?_)
      | (refine wpList_load_rowW (by rfl) 31 _ rfl w5.heap.size rfl 31 (kc B) (0, 0) _ HBK.out Try.underlying31 rfl HKB.out ?_)
      | (refine wpList_buildW (by rfl) 31 _ rfl (some 84) rfl (kc Z) (by simpa using hbd) ?_)
      | (refine wpList_buildW (by rfl) 31 _ rfl (some 93) rfl (kc Z) (by simpa using hbd) ?_)
      | (go_at_call 5; refine (awake13_any _).mono ?_; rintro e9 w9 ⟨rfl, hb9⟩; have HB9 := Lib.hid (below_step8' HBY5.out hb9); clear hb9))
    go_ret
    exact ⟨rfl, HB9.out⟩
  · obtain rfl : E = 0 := Classical.not_not.1 c1
    by_cases c2 : F ≠ 0
    · have qA := hq A (hF c2)
      have x1 : (F != 0) = true := by simpa using c2
      have x2 : (F == 0) = false := by simpa using c2
      by_cases c3 : G ≠ 0
      · have qB := hq B (hG c3)
        have x3 : (G != 0) = true := by simpa using c3
        have x4 : (G == 0) = false := by simpa using c3
        clear hE hF hG hor hq c1 c2 c3 hm
        go_enter Try.func4, Try.ntmps4
        go_wp2_with (first
          | (go_at_call 13; refine (HG.out _ HB0.out).mono ?_; rintro e0 w' ⟨rfl, rfl⟩)
          | (go_at_call 14; (with_reducible refine (HM1.out _ HB0.out).mono ?_); rintro e1 w1 ⟨rfl, hb1⟩; have HB1 := Lib.hid (below_step8' HB0.out hb1); have HX1 := Lib.hid (box_keep HX0.out hb1); have d0 : w1.cell? ⟨w.heap.size, 0, none⟩ = some (.int .i64 T.kind) := cell_at HX1.out rfl; have d1 : w1.cell? ⟨w.heap.size, 1, none⟩ = some (.int .u64 T.num) := cell_at HX1.out rfl; have d2 : w1.cell? ⟨w.heap.size, 2, none⟩ = some (.string T.text) := cell_at HX1.out rfl; have d3 : w1.cell? ⟨w.heap.size, 3, none⟩ = some (.slice T.ia T.len T.cap) := cell_at HX1.out rfl; have d4 : w1.cell? ⟨w.heap.size, 4, none⟩ = some (.int .i64 U.kind) := cell_at HX1.out rfl; have d5 : w1.cell? ⟨w.heap.size, 5, none⟩ = some (.int .u64 U.num) := cell_at HX1.out rfl; have d6 : w1.cell? ⟨w.heap.size, 6, none⟩ = some (.string U.text) := cell_at HX1.out rfl; have d7 : w1.cell? ⟨w.heap.size, 7, none⟩ = some (.slice U.ia U.len U.cap) := cell_at HX1.out rfl; clear hb1)
          | (go_at_call 14; (with_reducible refine (HM2.out _ HB1.out).mono ?_); rintro e2 w2 ⟨rfl, hb2⟩; have HB2 := Lib.hid (below_step8' HB1.out hb2); have HX2 := Lib.hid (box_keep HX1.out hb2); clear d0 d1 d2 d3 d4 d5 d6 d7; have d0 : w2.cell? ⟨w.heap.size, 0, none⟩ = some (.int .i64 T.kind) := cell_at HX2.out rfl; have d1 : w2.cell? ⟨w.heap.size, 1, none⟩ = some (.int .u64 T.num) := cell_at HX2.out rfl; have d2 : w2.cell? ⟨w.heap.size, 2, none⟩ = some (.string T.text) := cell_at HX2.out rfl; have d3 : w2.cell? ⟨w.heap.size, 3, none⟩ = some (.slice T.ia T.len T.cap) := cell_at HX2.out rfl; have d4 : w2.cell? ⟨w.heap.size, 4, none⟩ = some (.int .i64 U.kind) := cell_at HX2.out rfl; have d5 : w2.cell? ⟨w.heap.size, 5, none⟩ = some (.int .u64 U.num) := cell_at HX2.out rfl; have d6 : w2.cell? ⟨w.heap.size, 6, none⟩ = some (.string U.text) := cell_at HX2.out rfl; have d7 : w2.cell? ⟨w.heap.size, 7, none⟩ = some (.slice U.ia U.len U.cap) := cell_at HX2.out rfl; clear hb2)
          | (go_at_call 15; refine (HFD.out _ HB2.out).mono ?_; rintro e3 w3 ⟨⟨v3, rfl, hv3⟩, hb3⟩; have HB3 := Lib.hid (below_step8' HB2.out hb3); have HX3 := Lib.hid (box_keep HX2.out hb3); have HV3 := Lib.hid hv3; unfold IntsAt at hv3; rw [HLM.out] at hv3; obtain ⟨fa, fc, rfl, hfi3⟩ := hv3; clear d0 d1 d2 d3 d4 d5 d6 d7; have d0 : w3.cell? ⟨w.heap.size, 0, none⟩ = some (.int .i64 T.kind) := cell_at HX3.out rfl; have d1 : w3.cell? ⟨w.heap.size, 1, none⟩ = some (.int .u64 T.num) := cell_at HX3.out rfl; have d2 : w3.cell? ⟨w.heap.size, 2, none⟩ = some (.string T.text) := cell_at HX3.out rfl; have d3 : w3.cell? ⟨w.heap.size, 3, none⟩ = some (.slice T.ia T.len T.cap) := cell_at HX3.out rfl; have d4 : w3.cell? ⟨w.heap.size, 4, none⟩ = some (.int .i64 U.kind) := cell_at HX3.out rfl; have d5 : w3.cell? ⟨w.heap.size, 5, none⟩ = some (.int .u64 U.num) := cell_at HX3.out rfl; have d6 : w3.cell? ⟨w.heap.size, 6, none⟩ = some (.string U.text) := cell_at HX3.out rfl; have d7 : w3.cell? ⟨w.heap.size, 7, none⟩ = some (.slice U.ia U.len U.cap) := cell_at HX3.out rfl; clear hb3 hfi3)
          | (go_at_call 16; (with_reducible refine (HO1.out _ HB3.out).mono ?_); rintro e4 w4 ⟨rfl, hb4⟩; have HB4 := Lib.hid (below_step8' HB3.out hb4); have HX4 := Lib.hid (box_keep HX3.out hb4); have HV4 := Lib.hid (HV3.out.keep hb4); clear d0 d1 d2 d3 d4 d5 d6 d7; clear hb4)
          | (refine wpList_store_rowTo rfl 31 _ _ rfl rfl w4.heap.size (kc A) rfl rfl _ _ (alloc_at w4 _) HKA.out (by rw [kc_size, hAl]; rfl) (kc_one _) ?_; rw [World.setRow_alloc_new]; obtain ⟨y4, hy4⟩ : ∃ x, w4.alloc (.cells (kc A) 31) = x := ⟨_, rfl⟩; rw [hy4]; have hby : Below w4.heap.size w4 y4 := (by rw [← hy4]; exact (Below.refl _ _).alloc (Nat.le_refl _) _); have HA4 := Lib.hid (show y4.heap[w4.heap.size]? = some (.cells (kc A) 31 (0, 0)) by rw [← hy4]; exact alloc_at w4 _); have HBY4 := Lib.hid (below_step8' HB4.out hby); have HXY4 := Lib.hid (box_keep HX4.out hby); have HVY4 := Lib.hid (HV4.out.keep hby); have d0 : y4.cell? ⟨w.heap.size, 0, none⟩ = some (.int .i64 T.kind) := cell_at HXY4.out rfl; have d1 : y4.cell? ⟨w.heap.size, 1, none⟩ = some (.int .u64 T.num) := cell_at HXY4.out rfl; have d2 : y4.cell? ⟨w.heap.size, 2, none⟩ = some (.string T.text) := cell_at HXY4.out rfl; have d3 : y4.cell? ⟨w.heap.size, 3, none⟩ = some (.slice T.ia T.len T.cap) := cell_at HXY4.out rfl; have d4 : y4.cell? ⟨w.heap.size, 4, none⟩ = some (.int .i64 U.kind) := cell_at HXY4.out rfl; have d5 : y4.cell? ⟨w.heap.size, 5, none⟩ = some (.int .u64 U.num) := cell_at HXY4.out rfl; have d6 : y4.cell? ⟨w.heap.size, 6, none⟩ = some (.string U.text) := cell_at HXY4.out rfl; have d7 : y4.cell? ⟨w.heap.size, 7, none⟩ = some (.slice U.ia U.len U.cap) := cell_at HXY4.out rfl; clear hy4 hby)
          | (go_at_call 16; (with_reducible refine (HO2.out _ HBY4.out).mono ?_); rintro e5 w5 ⟨rfl, hb5⟩; have HB5 := Lib.hid (below_step8' HBY4.out hb5); have HX5 := Lib.hid (box_keep HXY4.out hb5); have HA5 := Lib.hid (rblk_keep HA4.out hb5); have HV5 := Lib.hid (HVY4.out.keep hb5); clear d0 d1 d2 d3 d4 d5 d6 d7; clear hb5)
          | (refine wpList_store_rowTo rfl 31 _ _ rfl rfl w5.heap.size (kc B) rfl rfl _ _ (alloc_at w5 _) HKB.out (by rw [kc_size, hBl]; rfl) (kc_one _) ?_; rw [World.setRow_alloc_new]; obtain ⟨y5, hy5⟩ : ∃ x, w5.alloc (.cells (kc B) 31) = x := ⟨_, rfl⟩; rw [hy5]; have hby : Below w5.heap.size w5 y5 := (by rw [← hy5]; exact (Below.refl _ _).alloc (Nat.le_refl _) _); have HBK := Lib.hid (show y5.heap[w5.heap.size]? = some (.cells (kc B) 31 (0, 0)) by rw [← hy5]; exact alloc_at w5 _); have HBY5 := Lib.hid (below_step8' HB5.out hby); have HXY5 := Lib.hid (box_keep HX5.out hby); have HAK := Lib.hid (rblk_keep HA5.out hby); have HVY5 := Lib.hid (HV5.out.keep hby); clear hy5 hby)
          | (refine wpList_load_rowW (by rfl) 31 _ rfl w4.heap.size rfl 31 (kc A) (0, 0) _ HAK.out Try.underlying31 rfl HKA.out ?_)
          | (refine wpList_load_rowW (by rfl) 31 _ rfl w5.heap.size rfl 31 (kc B) (0, 0) _ HBK.out Try.underlying31 rfl HKB.out ?_)
          | (refine wpList_buildW (by rfl) 31 _ rfl (some 84) rfl (kc Z) (by simpa using hbd) ?_)
          | (refine wpList_buildW (by rfl) 31 _ rfl (some 93) rfl (kc Z) (by simpa using hbd) ?_)
          | (go_at_call 5; refine (awake13_any _).mono ?_; rintro e9 w9 ⟨rfl, hb9⟩; have HB9 := Lib.hid (below_step8' HBY5.out hb9); clear hb9))
        go_ret
        exact ⟨rfl, HB9.out⟩
      · obtain rfl : G = 0 := Classical.not_not.1 c3
        clear hE hF hG hor hq c1 c2 c3 hm
        go_enter Try.func4, Try.ntmps4
        go_wp2_with (first
          | (go_at_call 13; refine (HG.out _ HB0.out).mono ?_; rintro e0 w' ⟨rfl, rfl⟩)
          | (go_at_call 14; (with_reducible refine (HM1.out _ HB0.out).mono ?_); rintro e1 w1 ⟨rfl, hb1⟩; have HB1 := Lib.hid (below_step8' HB0.out hb1); have HX1 := Lib.hid (box_keep HX0.out hb1); have d0 : w1.cell? ⟨w.heap.size, 0, none⟩ = some (.int .i64 T.kind) := cell_at HX1.out rfl; have d1 : w1.cell? ⟨w.heap.size, 1, none⟩ = some (.int .u64 T.num) := cell_at HX1.out rfl; have d2 : w1.cell? ⟨w.heap.size, 2, none⟩ = some (.string T.text) := cell_at HX1.out rfl; have d3 : w1.cell? ⟨w.heap.size, 3, none⟩ = some (.slice T.ia T.len T.cap) := cell_at HX1.out rfl; have d4 : w1.cell? ⟨w.heap.size, 4, none⟩ = some (.int .i64 U.kind) := cell_at HX1.out rfl; have d5 : w1.cell? ⟨w.heap.size, 5, none⟩ = some (.int .u64 U.num) := cell_at HX1.out rfl; have d6 : w1.cell? ⟨w.heap.size, 6, none⟩ = some (.string U.text) := cell_at HX1.out rfl; have d7 : w1.cell? ⟨w.heap.size, 7, none⟩ = some (.slice U.ia U.len U.cap) := cell_at HX1.out rfl; clear hb1)
          | (go_at_call 14; (with_reducible refine (HM2.out _ HB1.out).mono ?_); rintro e2 w2 ⟨rfl, hb2⟩; have HB2 := Lib.hid (below_step8' HB1.out hb2); have HX2 := Lib.hid (box_keep HX1.out hb2); clear d0 d1 d2 d3 d4 d5 d6 d7; have d0 : w2.cell? ⟨w.heap.size, 0, none⟩ = some (.int .i64 T.kind) := cell_at HX2.out rfl; have d1 : w2.cell? ⟨w.heap.size, 1, none⟩ = some (.int .u64 T.num) := cell_at HX2.out rfl; have d2 : w2.cell? ⟨w.heap.size, 2, none⟩ = some (.string T.text) := cell_at HX2.out rfl; have d3 : w2.cell? ⟨w.heap.size, 3, none⟩ = some (.slice T.ia T.len T.cap) := cell_at HX2.out rfl; have d4 : w2.cell? ⟨w.heap.size, 4, none⟩ = some (.int .i64 U.kind) := cell_at HX2.out rfl; have d5 : w2.cell? ⟨w.heap.size, 5, none⟩ = some (.int .u64 U.num) := cell_at HX2.out rfl; have d6 : w2.cell? ⟨w.heap.size, 6, none⟩ = some (.string U.text) := cell_at HX2.out rfl; have d7 : w2.cell? ⟨w.heap.size, 7, none⟩ = some (.slice U.ia U.len U.cap) := cell_at HX2.out rfl; clear hb2)
          | (go_at_call 15; refine (HFD.out _ HB2.out).mono ?_; rintro e3 w3 ⟨⟨v3, rfl, hv3⟩, hb3⟩; have HB3 := Lib.hid (below_step8' HB2.out hb3); have HX3 := Lib.hid (box_keep HX2.out hb3); have HV3 := Lib.hid hv3; unfold IntsAt at hv3; rw [HLM.out] at hv3; obtain ⟨fa, fc, rfl, hfi3⟩ := hv3; clear d0 d1 d2 d3 d4 d5 d6 d7; have d0 : w3.cell? ⟨w.heap.size, 0, none⟩ = some (.int .i64 T.kind) := cell_at HX3.out rfl; have d1 : w3.cell? ⟨w.heap.size, 1, none⟩ = some (.int .u64 T.num) := cell_at HX3.out rfl; have d2 : w3.cell? ⟨w.heap.size, 2, none⟩ = some (.string T.text) := cell_at HX3.out rfl; have d3 : w3.cell? ⟨w.heap.size, 3, none⟩ = some (.slice T.ia T.len T.cap) := cell_at HX3.out rfl; have d4 : w3.cell? ⟨w.heap.size, 4, none⟩ = some (.int .i64 U.kind) := cell_at HX3.out rfl; have d5 : w3.cell? ⟨w.heap.size, 5, none⟩ = some (.int .u64 U.num) := cell_at HX3.out rfl; have d6 : w3.cell? ⟨w.heap.size, 6, none⟩ = some (.string U.text) := cell_at HX3.out rfl; have d7 : w3.cell? ⟨w.heap.size, 7, none⟩ = some (.slice U.ia U.len U.cap) := cell_at HX3.out rfl; clear hb3 hfi3)
          | (go_at_call 16; (with_reducible refine (HO1.out _ HB3.out).mono ?_); rintro e4 w4 ⟨rfl, hb4⟩; have HB4 := Lib.hid (below_step8' HB3.out hb4); have HX4 := Lib.hid (box_keep HX3.out hb4); have HV4 := Lib.hid (HV3.out.keep hb4); clear d0 d1 d2 d3 d4 d5 d6 d7; clear hb4)
          | (refine wpList_store_rowTo rfl 31 _ _ rfl rfl w4.heap.size (kc A) rfl rfl _ _ (alloc_at w4 _) HKA.out (by rw [kc_size, hAl]; rfl) (kc_one _) ?_; rw [World.setRow_alloc_new]; obtain ⟨y4, hy4⟩ : ∃ x, w4.alloc (.cells (kc A) 31) = x := ⟨_, rfl⟩; rw [hy4]; have hby : Below w4.heap.size w4 y4 := (by rw [← hy4]; exact (Below.refl _ _).alloc (Nat.le_refl _) _); have HA4 := Lib.hid (show y4.heap[w4.heap.size]? = some (.cells (kc A) 31 (0, 0)) by rw [← hy4]; exact alloc_at w4 _); have HBY4 := Lib.hid (below_step8' HB4.out hby); have HXY4 := Lib.hid (box_keep HX4.out hby); have HVY4 := Lib.hid (HV4.out.keep hby); have d0 : y4.cell? ⟨w.heap.size, 0, none⟩ = some (.int .i64 T.kind) := cell_at HXY4.out rfl; have d1 : y4.cell? ⟨w.heap.size, 1, none⟩ = some (.int .u64 T.num) := cell_at HXY4.out rfl; have d2 : y4.cell? ⟨w.heap.size, 2, none⟩ = some (.string T.text) := cell_at HXY4.out rfl; have d3 : y4.cell? ⟨w.heap.size, 3, none⟩ = some (.slice T.ia T.len T.cap) := cell_at HXY4.out rfl; have d4 : y4.cell? ⟨w.heap.size, 4, none⟩ = some (.int .i64 U.kind) := cell_at HXY4.out rfl; have d5 : y4.cell? ⟨w.heap.size, 5, none⟩ = some (.int .u64 U.num) := cell_at HXY4.out rfl; have d6 : y4.cell? ⟨w.heap.size, 6, none⟩ = some (.string U.text) := cell_at HXY4.out rfl; have d7 : y4.cell? ⟨w.heap.size, 7, none⟩ = some (.slice U.ia U.len U.cap) := cell_at HXY4.out rfl; clear hy4 hby)
          | (go_at_call 16; (with_reducible refine (HO2.out _ HBY4.out).mono ?_); rintro e5 w5 ⟨rfl, hb5⟩; have HB5 := Lib.hid (below_step8' HBY4.out hb5); have HX5 := Lib.hid (box_keep HXY4.out hb5); have HA5 := Lib.hid (rblk_keep HA4.out hb5); have HV5 := Lib.hid (HVY4.out.keep hb5); clear d0 d1 d2 d3 d4 d5 d6 d7; clear hb5)
          | (refine wpList_store_rowTo rfl 31 _ _ rfl rfl w5.heap.size (kc B) rfl rfl _ _ (alloc_at w5 _) HKB.out (by rw [kc_size, hBl]; rfl) (kc_one _) ?_; rw [World.setRow_alloc_new]; obtain ⟨y5, hy5⟩ : ∃ x, w5.alloc (.cells (kc B) 31) = x := ⟨_, rfl⟩; rw [hy5]; have hby : Below w5.heap.size w5 y5 := (by rw [← hy5]; exact (Below.refl _ _).alloc (Nat.le_refl _) _); have HBK := Lib.hid (show y5.heap[w5.heap.size]? = some (.cells (kc B) 31 (0, 0)) by rw [← hy5]; exact alloc_at w5 _); have HBY5 := Lib.hid (below_step8' HB5.out hby); have HXY5 := Lib.hid (box_keep HX5.out hby); have HAK := Lib.hid (rblk_keep HA5.out hby); have HVY5 := Lib.hid (HV5.out.keep hby); clear hy5 hby)
          | (refine wpList_load_rowW (by rfl) 31 _ rfl w4.heap.size rfl 31 (kc A) (0, 0) _ HAK.out Try.underlying31 rfl HKA.out ?_)
          | (refine wpList_load_rowW (by rfl) 31 _ rfl w5.heap.size rfl 31 (kc B) (0, 0) _ HBK.out Try.underlying31 rfl HKB.out ?_)
          | (refine wpList_buildW (by rfl) 31 _ rfl (some 84) rfl (kc Z) (by simpa using hbd) ?_)
          | (refine wpList_buildW (by rfl) 31 _ rfl (some 93) rfl (kc Z) (by simpa using hbd) ?_)
          | (go_at_call 5; refine (awake13_any _).mono ?_; rintro e9 w9 ⟨rfl, hb9⟩; have HB9 := Lib.hid (below_step8' HBY5.out hb9); clear hb9))
        go_ret
        exact ⟨rfl, HB9.out⟩
    · obtain rfl : F = 0 := Classical.not_not.1 c2
      have c3 : G ≠ 0 := (hor.resolve_left c1).resolve_left c2
      have qB := hq B (hG c3)
      have x3 : (G != 0) = true := by simpa using c3
      have x4 : (G == 0) = false := by simpa using c3
      clear hE hF hG hor hq c1 c2 c3 hm
      go_enter Try.func4, Try.ntmps4
      go_wp2_with (first
        | (go_at_call 13; refine (HG.out _ HB0.out).mono ?_; rintro e0 w' ⟨rfl, rfl⟩)
        | (go_at_call 14; (with_reducible refine (HM1.out _ HB0.out).mono ?_); rintro e1 w1 ⟨rfl, hb1⟩; have HB1 := Lib.hid (below_step8' HB0.out hb1); have HX1 := Lib.hid (box_keep HX0.out hb1); have d0 : w1.cell? ⟨w.heap.size, 0, none⟩ = some (.int .i64 T.kind) := cell_at HX1.out rfl; have d1 : w1.cell? ⟨w.heap.size, 1, none⟩ = some (.int .u64 T.num) := cell_at HX1.out rfl; have d2 : w1.cell? ⟨w.heap.size, 2, none⟩ = some (.string T.text) := cell_at HX1.out rfl; have d3 : w1.cell? ⟨w.heap.size, 3, none⟩ = some (.slice T.ia T.len T.cap) := cell_at HX1.out rfl; have d4 : w1.cell? ⟨w.heap.size, 4, none⟩ = some (.int .i64 U.kind) := cell_at HX1.out rfl; have d5 : w1.cell? ⟨w.heap.size, 5, none⟩ = some (.int .u64 U.num) := cell_at HX1.out rfl; have d6 : w1.cell? ⟨w.heap.size, 6, none⟩ = some (.string U.text) := cell_at HX1.out rfl; have d7 : w1.cell? ⟨w.heap.size, 7, none⟩ = some (.slice U.ia U.len U.cap) := cell_at HX1.out rfl; clear hb1)
        | (go_at_call 14; (with_reducible refine (HM2.out _ HB1.out).mono ?_); rintro e2 w2 ⟨rfl, hb2⟩; have HB2 := Lib.hid (below_step8' HB1.out hb2); have HX2 := Lib.hid (box_keep HX1.out hb2); clear d0 d1 d2 d3 d4 d5 d6 d7; have d0 : w2.cell? ⟨w.heap.size, 0, none⟩ = some (.int .i64 T.kind) := cell_at HX2.out rfl; have d1 : w2.cell? ⟨w.heap.size, 1, none⟩ = some (.int .u64 T.num) := cell_at HX2.out rfl; have d2 : w2.cell? ⟨w.heap.size, 2, none⟩ = some (.string T.text) := cell_at HX2.out rfl; have d3 : w2.cell? ⟨w.heap.size, 3, none⟩ = some (.slice T.ia T.len T.cap) := cell_at HX2.out rfl; have d4 : w2.cell? ⟨w.heap.size, 4, none⟩ = some (.int .i64 U.kind) := cell_at HX2.out rfl; have d5 : w2.cell? ⟨w.heap.size, 5, none⟩ = some (.int .u64 U.num) := cell_at HX2.out rfl; have d6 : w2.cell? ⟨w.heap.size, 6, none⟩ = some (.string U.text) := cell_at HX2.out rfl; have d7 : w2.cell? ⟨w.heap.size, 7, none⟩ = some (.slice U.ia U.len U.cap) := cell_at HX2.out rfl; clear hb2)
        | (go_at_call 15; refine (HFD.out _ HB2.out).mono ?_; rintro e3 w3 ⟨⟨v3, rfl, hv3⟩, hb3⟩; have HB3 := Lib.hid (below_step8' HB2.out hb3); have HX3 := Lib.hid (box_keep HX2.out hb3); have HV3 := Lib.hid hv3; unfold IntsAt at hv3; rw [HLM.out] at hv3; obtain ⟨fa, fc, rfl, hfi3⟩ := hv3; clear d0 d1 d2 d3 d4 d5 d6 d7; have d0 : w3.cell? ⟨w.heap.size, 0, none⟩ = some (.int .i64 T.kind) := cell_at HX3.out rfl; have d1 : w3.cell? ⟨w.heap.size, 1, none⟩ = some (.int .u64 T.num) := cell_at HX3.out rfl; have d2 : w3.cell? ⟨w.heap.size, 2, none⟩ = some (.string T.text) := cell_at HX3.out rfl; have d3 : w3.cell? ⟨w.heap.size, 3, none⟩ = some (.slice T.ia T.len T.cap) := cell_at HX3.out rfl; have d4 : w3.cell? ⟨w.heap.size, 4, none⟩ = some (.int .i64 U.kind) := cell_at HX3.out rfl; have d5 : w3.cell? ⟨w.heap.size, 5, none⟩ = some (.int .u64 U.num) := cell_at HX3.out rfl; have d6 : w3.cell? ⟨w.heap.size, 6, none⟩ = some (.string U.text) := cell_at HX3.out rfl; have d7 : w3.cell? ⟨w.heap.size, 7, none⟩ = some (.slice U.ia U.len U.cap) := cell_at HX3.out rfl; clear hb3 hfi3)
        | (go_at_call 16; (with_reducible refine (HO1.out _ HB3.out).mono ?_); rintro e4 w4 ⟨rfl, hb4⟩; have HB4 := Lib.hid (below_step8' HB3.out hb4); have HX4 := Lib.hid (box_keep HX3.out hb4); have HV4 := Lib.hid (HV3.out.keep hb4); clear d0 d1 d2 d3 d4 d5 d6 d7; clear hb4)
        | (refine wpList_store_rowTo rfl 31 _ _ rfl rfl w4.heap.size (kc A) rfl rfl _ _ (alloc_at w4 _) HKA.out (by rw [kc_size, hAl]; rfl) (kc_one _) ?_; rw [World.setRow_alloc_new]; obtain ⟨y4, hy4⟩ : ∃ x, w4.alloc (.cells (kc A) 31) = x := ⟨_, rfl⟩; rw [hy4]; have hby : Below w4.heap.size w4 y4 := (by rw [← hy4]; exact (Below.refl _ _).alloc (Nat.le_refl _) _); have HA4 := Lib.hid (show y4.heap[w4.heap.size]? = some (.cells (kc A) 31 (0, 0)) by rw [← hy4]; exact alloc_at w4 _); have HBY4 := Lib.hid (below_step8' HB4.out hby); have HXY4 := Lib.hid (box_keep HX4.out hby); have HVY4 := Lib.hid (HV4.out.keep hby); have d0 : y4.cell? ⟨w.heap.size, 0, none⟩ = some (.int .i64 T.kind) := cell_at HXY4.out rfl; have d1 : y4.cell? ⟨w.heap.size, 1, none⟩ = some (.int .u64 T.num) := cell_at HXY4.out rfl; have d2 : y4.cell? ⟨w.heap.size, 2, none⟩ = some (.string T.text) := cell_at HXY4.out rfl; have d3 : y4.cell? ⟨w.heap.size, 3, none⟩ = some (.slice T.ia T.len T.cap) := cell_at HXY4.out rfl; have d4 : y4.cell? ⟨w.heap.size, 4, none⟩ = some (.int .i64 U.kind) := cell_at HXY4.out rfl; have d5 : y4.cell? ⟨w.heap.size, 5, none⟩ = some (.int .u64 U.num) := cell_at HXY4.out rfl; have d6 : y4.cell? ⟨w.heap.size, 6, none⟩ = some (.string U.text) := cell_at HXY4.out rfl; have d7 : y4.cell? ⟨w.heap.size, 7, none⟩ = some (.slice U.ia U.len U.cap) := cell_at HXY4.out rfl; clear hy4 hby)
        | (go_at_call 16; (with_reducible refine (HO2.out _ HBY4.out).mono ?_); rintro e5 w5 ⟨rfl, hb5⟩; have HB5 := Lib.hid (below_step8' HBY4.out hb5); have HX5 := Lib.hid (box_keep HXY4.out hb5); have HA5 := Lib.hid (rblk_keep HA4.out hb5); have HV5 := Lib.hid (HVY4.out.keep hb5); clear d0 d1 d2 d3 d4 d5 d6 d7; clear hb5)
        | (refine wpList_store_rowTo rfl 31 _ _ rfl rfl w5.heap.size (kc B) rfl rfl _ _ (alloc_at w5 _) HKB.out (by rw [kc_size, hBl]; rfl) (kc_one _) ?_; rw [World.setRow_alloc_new]; obtain ⟨y5, hy5⟩ : ∃ x, w5.alloc (.cells (kc B) 31) = x := ⟨_, rfl⟩; rw [hy5]; have hby : Below w5.heap.size w5 y5 := (by rw [← hy5]; exact (Below.refl _ _).alloc (Nat.le_refl _) _); have HBK := Lib.hid (show y5.heap[w5.heap.size]? = some (.cells (kc B) 31 (0, 0)) by rw [← hy5]; exact alloc_at w5 _); have HBY5 := Lib.hid (below_step8' HB5.out hby); have HXY5 := Lib.hid (box_keep HX5.out hby); have HAK := Lib.hid (rblk_keep HA5.out hby); have HVY5 := Lib.hid (HV5.out.keep hby); clear hy5 hby)
        | (refine wpList_load_rowW (by rfl) 31 _ rfl w4.heap.size rfl 31 (kc A) (0, 0) _ HAK.out Try.underlying31 rfl HKA.out ?_)
        | (refine wpList_load_rowW (by rfl) 31 _ rfl w5.heap.size rfl 31 (kc B) (0, 0) _ HBK.out Try.underlying31 rfl HKB.out ?_)
        | (refine wpList_buildW (by rfl) 31 _ rfl (some 84) rfl (kc Z) (by simpa using hbd) ?_)
        | (refine wpList_buildW (by rfl) 31 _ rfl (some 93) rfl (kc Z) (by simpa using hbd) ?_)
        | (go_at_call 5; refine (awake13_any _).mono ?_; rintro e9 w9 ⟨rfl, hb9⟩; have HB9 := Lib.hid (below_step8' HBY5.out hb9); clear hb9))
      go_ret
      exact ⟨rfl, HB9.out⟩

set_option maxRecDepth 100000 in
set_option maxHeartbeats 16000000 in
theorem walk_yes (ao : Option Addr) (len cap : Nat) (t : Int) (T U : VT) (S : Nat → Prop) (A B : List UInt8) (l : List Nat) (s : Bool) (w : World) (hAl : A.length = 17) (hBl : B.length = 17) (hml : l.length ≤ 16) (hlt : ∀ (j x : Nat), l[j]? = some x → x < T.len ∧ x < U.len)
    (hab : decide (A = B) = s) (hts : ((ktx A).toList == (ktx B).toList) = s) (hal : alk T.kid U.kid l = s) (hok : kok A = true)
    (hsm : ∀ x, x < T.len → x < U.len → ∀ wx, Below w.heap.size w wx → Calls Try.prog 17 #[.agg #[.int .i64 (T.kid x).kind, .int .u64 (T.kid x).num, .string (T.kid x).text, .slice (T.kid x).ia (T.kid x).len (T.kid x).cap], .agg #[.int .i64 (U.kid x).kind, .int .u64 (U.kid x).num, .string (U.kid x).text, .slice (U.kid x).ia (U.kid x).len (U.kid x).cap]] wx fun e w' => e = .returned (.bool (sameT (T.kid x) (U.kid x))) ∧ Below wx.heap.size wx w')
    (hcT : ∀ x, x < T.len → ∀ wx, Below w.heap.size w wx → CellsAt wx S T.ia x (T.kid x)) (hcU : ∀ x, x < U.len → ∀ wx, Below w.heap.size w wx → CellsAt wx S U.ia x (U.kid x))
    (hg : ∀ wx, Below w.heap.size w wx → Calls Try.prog 13 #[.slice ao len cap] wx fun e w' => e = .returned (.bool false) ∧ wx = w')
    (hm1 : ∀ wx, Below w.heap.size w wx → Calls Try.prog 14 #[.agg #[.int .i64 T.kind, .int .u64 T.num, .string T.text, .slice T.ia T.len T.cap], .int .i64 0] wx fun e w' => e = .returned (.bool false) ∧ Below wx.heap.size wx w')
    (hm2 : ∀ wx, Below w.heap.size w wx → Calls Try.prog 14 #[.agg #[.int .i64 U.kind, .int .u64 U.num, .string U.text, .slice U.ia U.len U.cap], .int .i64 0] wx fun e w' => e = .returned (.bool false) ∧ Below wx.heap.size wx w')
    (hfd : ∀ wx, Below w.heap.size w wx → Calls Try.prog 15 #[.slice ao len cap, .int .i64 t] wx fun e w' => (∃ v, e = .returned (.tuple #[v, .int .i64 0]) ∧ IntsAt w' v l) ∧ Below wx.heap.size wx w')
    (ho1 : ∀ wx, Below w.heap.size w wx → Calls Try.prog 16 #[.slice ao len cap, .int .i64 t, .agg #[.int .i64 T.kind, .int .u64 T.num, .string T.text, .slice T.ia T.len T.cap]] wx fun e' w' => e' = .returned (.tuple #[.agg (kc A), .int .i64 0]) ∧ Below wx.heap.size wx w')
    (ho2 : ∀ wx, Below w.heap.size w wx → Calls Try.prog 16 #[.slice ao len cap, .int .i64 t, .agg #[.int .i64 U.kind, .int .u64 U.num, .string U.text, .slice U.ia U.len U.cap]] wx fun e' w' => e' = .returned (.tuple #[.agg (kc B), .int .i64 0]) ∧ Below wx.heap.size wx w') :
    Calls Try.prog 4 #[.slice ao len cap, .int .i64 t, .agg #[.int .i64 T.kind, .int .u64 T.num, .string T.text, .slice T.ia T.len T.cap, .int .i64 U.kind, .int .u64 U.num, .string U.text, .slice U.ia U.len U.cap]] w fun e w' => e = .returned (.bool true) ∧ Below w.heap.size w w' := by
  have HG := Lib.hid hg
  have HM1 := Lib.hid hm1
  have HM2 := Lib.hid hm2
  have HFD := Lib.hid hfd
  have HO1 := Lib.hid ho1
  have HO2 := Lib.hid ho2
  have HX0 := Lib.hid (alloc_at w (.cells #[.int .i64 T.kind, .int .u64 T.num, .string T.text, .slice T.ia T.len T.cap, .int .i64 U.kind, .int .u64 U.num, .string U.text, .slice U.ia U.len U.cap] 39))
  have HB0 := Lib.hid ((Below.refl w.heap.size w).alloc (Nat.le_refl _) (.cells #[.int .i64 T.kind, .int .u64 T.num, .string T.text, .slice T.ia T.len T.cap, .int .i64 U.kind, .int .u64 U.num, .string U.text, .slice U.ia U.len U.cap] 39))
  obtain ⟨m, hm⟩ : ∃ m, l.length = m := ⟨_, rfl⟩
  have HLM := Lib.hid hm
  have HKA := Lib.hid (show (Try.prog.info? 31).map (·.size) = some (kc A).size by rw [kc_size, hAl]; exact infoKey)
  have HKB := Lib.hid (show (Try.prog.info? 31).map (·.size) = some (kc B).size by rw [kc_size, hBl]; exact infoKey)
  clear hg hm1 hm2 hfd ho1 ho2

  have HSM := Lib.hid hsm
  have HCT := Lib.hid hcT
  have HCU := Lib.hid hcU
  have HLT := Lib.hid hlt
  have HINA := Lib.hid (show (Try.prog.info? 31).map (·.size) = some (Lib.byteCells A).length by rw [Lib.byteCells_length, hAl]; exact infoKey)
  have HINB := Lib.hid (show (Try.prog.info? 31).map (·.size) = some (Lib.byteCells B).length by rw [Lib.byteCells_length, hBl]; exact infoKey)
  have HTA := Lib.hid (show ∀ wx, Calls Try.prog 11 #[.agg (Lib.byteCells A).toArray] wx fun e w' => e = .returned (.string (ktx A)) ∧ Below wx.heap.size wx w' from fun wx => text_any13 A hAl wx)
  have HTB := Lib.hid (show ∀ wx, Calls Try.prog 11 #[.agg (Lib.byteCells B).toArray] wx fun e w' => e = .returned (.string (ktx B)) ∧ Below wx.heap.size wx w' from fun wx => text_any13 B hBl wx)
  have hby := fun wx => bytes_any13 A hAl wx
  rw [hok] at hby
  have HBYA := Lib.hid hby
  have heq : ∀ wx : World, (Op.equalIn 10000 31 (.agg (Lib.byteCells A).toArray) (.agg (Lib.byteCells B).toArray)).run Try.prog wx = .ok s wx := fun wx => by
    have := equal_key wx hAl hBl
    rw [hab] at this
    exact this
  have HALL := Lib.hid (show alk T.kid U.kid (l.take m) = s by rw [← hm, List.take_length]; exact hal)
  have HAN := Lib.hid (show ∀ (j x : Nat), l[j]? = some x → alk T.kid U.kid (l.take (j + 1)) = (alk T.kid U.kid (l.take j) && sameT (T.kid x) (U.kid x)) from fun j x hx => by
    obtain ⟨h1, h2⟩ := List.getElem?_eq_some_iff.1 hx
    rw [List.take_succ_eq_append_getElem h1, h2, alk_snoc])
  rw [hm] at hml
  obtain ⟨xa, hxa⟩ : ∃ x, kx A = x := ⟨_, rfl⟩
  obtain ⟨ta, hta⟩ : ∃ x, ktx A = x := ⟨_, rfl⟩
  obtain ⟨tb, htb⟩ : ∃ x, ktx B = x := ⟨_, rfl⟩
  rw [hxa] at HBYA
  rw [hta] at HTA hts
  rw [htb] at HTB hts
  obtain ⟨tia, htia⟩ : ∃ x, T.ia = x := ⟨_, rfl⟩
  obtain ⟨uia, huia⟩ : ∃ x, U.ia = x := ⟨_, rfl⟩
  have HTI := Lib.hid htia
  have HUI := Lib.hid huia
  clear hby hsm hcT hcU hlt hok hal hab hm hxa hta htb htia huia
  go_enter Try.func4, Try.ntmps4
  go_wp2_with (first
        | (go_at_call 13; refine (HG.out _ HB0.out).mono ?_; rintro e0 w' ⟨rfl, rfl⟩)
        | (go_at_call 14; (with_reducible refine (HM1.out _ HB0.out).mono ?_); rintro e1 w1 ⟨rfl, hb1⟩; have HB1 := Lib.hid (below_step8' HB0.out hb1); have HX1 := Lib.hid (box_keep HX0.out hb1); have d0 : w1.cell? ⟨w.heap.size, 0, none⟩ = some (.int .i64 T.kind) := cell_at HX1.out rfl; have d1 : w1.cell? ⟨w.heap.size, 1, none⟩ = some (.int .u64 T.num) := cell_at HX1.out rfl; have d2 : w1.cell? ⟨w.heap.size, 2, none⟩ = some (.string T.text) := cell_at HX1.out rfl; have d3 : w1.cell? ⟨w.heap.size, 3, none⟩ = some (.slice T.ia T.len T.cap) := cell_at HX1.out rfl; have d4 : w1.cell? ⟨w.heap.size, 4, none⟩ = some (.int .i64 U.kind) := cell_at HX1.out rfl; have d5 : w1.cell? ⟨w.heap.size, 5, none⟩ = some (.int .u64 U.num) := cell_at HX1.out rfl; have d6 : w1.cell? ⟨w.heap.size, 6, none⟩ = some (.string U.text) := cell_at HX1.out rfl; have d7 : w1.cell? ⟨w.heap.size, 7, none⟩ = some (.slice U.ia U.len U.cap) := cell_at HX1.out rfl; clear hb1)
        | (go_at_call 14; (with_reducible refine (HM2.out _ HB1.out).mono ?_); rintro e2 w2 ⟨rfl, hb2⟩; have HB2 := Lib.hid (below_step8' HB1.out hb2); have HX2 := Lib.hid (box_keep HX1.out hb2); clear d0 d1 d2 d3 d4 d5 d6 d7; have d0 : w2.cell? ⟨w.heap.size, 0, none⟩ = some (.int .i64 T.kind) := cell_at HX2.out rfl; have d1 : w2.cell? ⟨w.heap.size, 1, none⟩ = some (.int .u64 T.num) := cell_at HX2.out rfl; have d2 : w2.cell? ⟨w.heap.size, 2, none⟩ = some (.string T.text) := cell_at HX2.out rfl; have d3 : w2.cell? ⟨w.heap.size, 3, none⟩ = some (.slice T.ia T.len T.cap) := cell_at HX2.out rfl; have d4 : w2.cell? ⟨w.heap.size, 4, none⟩ = some (.int .i64 U.kind) := cell_at HX2.out rfl; have d5 : w2.cell? ⟨w.heap.size, 5, none⟩ = some (.int .u64 U.num) := cell_at HX2.out rfl; have d6 : w2.cell? ⟨w.heap.size, 6, none⟩ = some (.string U.text) := cell_at HX2.out rfl; have d7 : w2.cell? ⟨w.heap.size, 7, none⟩ = some (.slice U.ia U.len U.cap) := cell_at HX2.out rfl; clear hb2)
        | (go_at_call 15; refine (HFD.out _ HB2.out).mono ?_; rintro e3 w3 ⟨⟨v3, rfl, hv3⟩, hb3⟩; have HB3 := Lib.hid (below_step8' HB2.out hb3); have HX3 := Lib.hid (box_keep HX2.out hb3); have HV3 := Lib.hid hv3; unfold IntsAt at hv3; rw [HLM.out] at hv3; obtain ⟨fa, fc, rfl, hfi3⟩ := hv3; clear d0 d1 d2 d3 d4 d5 d6 d7; have d0 : w3.cell? ⟨w.heap.size, 0, none⟩ = some (.int .i64 T.kind) := cell_at HX3.out rfl; have d1 : w3.cell? ⟨w.heap.size, 1, none⟩ = some (.int .u64 T.num) := cell_at HX3.out rfl; have d2 : w3.cell? ⟨w.heap.size, 2, none⟩ = some (.string T.text) := cell_at HX3.out rfl; have d3 : w3.cell? ⟨w.heap.size, 3, none⟩ = some (.slice T.ia T.len T.cap) := cell_at HX3.out rfl; have d4 : w3.cell? ⟨w.heap.size, 4, none⟩ = some (.int .i64 U.kind) := cell_at HX3.out rfl; have d5 : w3.cell? ⟨w.heap.size, 5, none⟩ = some (.int .u64 U.num) := cell_at HX3.out rfl; have d6 : w3.cell? ⟨w.heap.size, 6, none⟩ = some (.string U.text) := cell_at HX3.out rfl; have d7 : w3.cell? ⟨w.heap.size, 7, none⟩ = some (.slice U.ia U.len U.cap) := cell_at HX3.out rfl; clear hb3 hfi3)
        | (go_at_call 16; (with_reducible refine (HO1.out _ HB3.out).mono ?_); rintro e4 w4 ⟨rfl, hb4⟩; have HB4 := Lib.hid (below_step8' HB3.out hb4); have HX4 := Lib.hid (box_keep HX3.out hb4); have HV4 := Lib.hid (HV3.out.keep hb4); clear d0 d1 d2 d3 d4 d5 d6 d7; clear hb4)
        | (refine wpList_store_rowTo rfl 31 _ _ rfl rfl w4.heap.size (kc A) rfl rfl _ _ (alloc_at w4 _) HKA.out (by rw [kc_size, hAl]; rfl) (kc_one _) ?_; rw [World.setRow_alloc_new]; obtain ⟨y4, hy4⟩ : ∃ x, w4.alloc (.cells (kc A) 31) = x := ⟨_, rfl⟩; rw [hy4]; have hby : Below w4.heap.size w4 y4 := (by rw [← hy4]; exact (Below.refl _ _).alloc (Nat.le_refl _) _); have HA4 := Lib.hid (show y4.heap[w4.heap.size]? = some (.cells (kc A) 31 (0, 0)) by rw [← hy4]; exact alloc_at w4 _); have HBY4 := Lib.hid (below_step8' HB4.out hby); have HXY4 := Lib.hid (box_keep HX4.out hby); have HVY4 := Lib.hid (HV4.out.keep hby); have d0 : y4.cell? ⟨w.heap.size, 0, none⟩ = some (.int .i64 T.kind) := cell_at HXY4.out rfl; have d1 : y4.cell? ⟨w.heap.size, 1, none⟩ = some (.int .u64 T.num) := cell_at HXY4.out rfl; have d2 : y4.cell? ⟨w.heap.size, 2, none⟩ = some (.string T.text) := cell_at HXY4.out rfl; have d3 : y4.cell? ⟨w.heap.size, 3, none⟩ = some (.slice T.ia T.len T.cap) := cell_at HXY4.out rfl; have d4 : y4.cell? ⟨w.heap.size, 4, none⟩ = some (.int .i64 U.kind) := cell_at HXY4.out rfl; have d5 : y4.cell? ⟨w.heap.size, 5, none⟩ = some (.int .u64 U.num) := cell_at HXY4.out rfl; have d6 : y4.cell? ⟨w.heap.size, 6, none⟩ = some (.string U.text) := cell_at HXY4.out rfl; have d7 : y4.cell? ⟨w.heap.size, 7, none⟩ = some (.slice U.ia U.len U.cap) := cell_at HXY4.out rfl; clear hy4 hby)
        | (go_at_call 16; (with_reducible refine (HO2.out _ HBY4.out).mono ?_); rintro e5 w5 ⟨rfl, hb5⟩; have HB5 := Lib.hid (below_step8' HBY4.out hb5); have HX5 := Lib.hid (box_keep HXY4.out hb5); have HA5 := Lib.hid (rblk_keep HA4.out hb5); have HV5 := Lib.hid (HVY4.out.keep hb5); clear d0 d1 d2 d3 d4 d5 d6 d7; clear hb5)
        | (refine wpList_store_rowTo rfl 31 _ _ rfl rfl w5.heap.size (kc B) rfl rfl _ _ (alloc_at w5 _) HKB.out (by rw [kc_size, hBl]; rfl) (kc_one _) ?_; rw [World.setRow_alloc_new]; obtain ⟨y5, hy5⟩ : ∃ x, w5.alloc (.cells (kc B) 31) = x := ⟨_, rfl⟩; rw [hy5]; have hby : Below w5.heap.size w5 y5 := (by rw [← hy5]; exact (Below.refl _ _).alloc (Nat.le_refl _) _); have HBK := Lib.hid (show y5.heap[w5.heap.size]? = some (.cells (kc B) 31 (0, 0)) by rw [← hy5]; exact alloc_at w5 _); have HBY5 := Lib.hid (below_step8' HB5.out hby); have HXY5 := Lib.hid (box_keep HX5.out hby); have HAK := Lib.hid (rblk_keep HA5.out hby); have HVY5 := Lib.hid (HV5.out.keep hby); clear hy5 hby))
  go_loopw [13, 14] (fun q i wr => ∃ j : Nat, j ≤ m ∧ i = .int .i64 j ∧ q = .bool (alk T.kid U.kid (l.take j)) ∧ Hid (Below y5.heap.size y5 wr)) (fun _ i _ => m - (intOf i).toNat)
  case atStart => exact ⟨0, Nat.zero_le _, rfl, rfl, Lib.hid (Below.refl _ _)⟩
  case round =>
    obtain ⟨j, hj, rfl, rfl, HBr⟩ := hrel
    have HBW := Lib.hid (below_step8' HBY5.out HBr.out)
    by_cases hlj : j < m
    · obtain ⟨x, hx⟩ : ∃ x, l[j]? = some x := ⟨_, List.getElem?_eq_getElem (by rw [HLM.out]; exact hlj)⟩
      obtain ⟨hxT, hxU⟩ := HLT.out j x hx
      have HN := Lib.hid (HAN.out j x hx)
      cases hq : alk T.kid U.kid (l.take j) with
      | true =>
        rw [hq, Bool.true_and] at HN
        have hv := HVY5.out.keep HBr.out
        obtain ⟨fa', fc', hfe, hfi⟩ := hv
        obtain ⟨fb, fo, hfa, c0⟩ := hfi j x hx
        subst hfa
        obtain rfl : fa = some ⟨fb, fo, none⟩ := by injection hfe
        have hct := HCT.out x hxT wr HBW.out
        have hcu := HCU.out x hxU wr HBW.out
        rw [HTI.out] at hct
        rw [HUI.out] at hcu
        obtain ⟨cb, co, rfl, _, _, z0, z1, z2, z3⟩ := hct
        obtain ⟨cb', co', rfl, _, _, y0, y1, y2, y3⟩ := hcu
        have HXr := Lib.hid (box_keep HXY5.out HBr.out)
        have e3 : wr.cell? ⟨w.heap.size, 3, none⟩ = some (.slice (some ⟨cb, co, none⟩) T.len T.cap) := by rw [← HTI.out]; exact cell_at HXr.out rfl
        have e7 : wr.cell? ⟨w.heap.size, 7, none⟩ = some (.slice (some ⟨cb', co', none⟩) U.len U.cap) := by rw [← HUI.out]; exact cell_at HXr.out rfl
        have HS := Lib.hid (fun wx (hb : Below wr.heap.size wr wx) => HSM.out x hxT hxU wx (below_step8' HBW.out hb))
        obtain ⟨sq, hsq⟩ : ∃ b, sameT (T.kid x) (U.kid x) = b := ⟨_, rfl⟩
        rw [hsq] at HS HN
        have HB7 := Lib.hid (Below.refl wr.heap.size wr)
        clear hx hq hfi hfe hsq
        go_wp2
        go_region_held3 (fun w' => w'.cell? ⟨w.heap.size, 3, none⟩ = some (.slice (some ⟨cb, co, none⟩) T.len T.cap) ∧ w'.cell? ⟨w.heap.size, 7, none⟩ = some (.slice (some ⟨cb', co', none⟩) U.len U.cap) ∧ w'.cell? ⟨fb, fo + j, none⟩ = some (.int .i64 (x : Nat)) ∧ w'.cell? ⟨cb, co + x * 4, none⟩ = some (.int .i64 (T.kid x).kind) ∧ w'.cell? ⟨cb, co + x * 4 + 1, none⟩ = some (.int .u64 (T.kid x).num) ∧ w'.cell? ⟨cb, co + x * 4 + 2, none⟩ = some (.string (T.kid x).text) ∧ w'.cell? ⟨cb, co + x * 4 + 3, none⟩ = some (.slice (T.kid x).ia (T.kid x).len (T.kid x).cap) ∧ w'.cell? ⟨cb', co' + x * 4, none⟩ = some (.int .i64 (U.kid x).kind) ∧ w'.cell? ⟨cb', co' + x * 4 + 1, none⟩ = some (.int .u64 (U.kid x).num) ∧ w'.cell? ⟨cb', co' + x * 4 + 2, none⟩ = some (.string (U.kid x).text) ∧ w'.cell? ⟨cb', co' + x * 4 + 3, none⟩ = some (.slice (U.kid x).ia (U.kid x).len (U.kid x).cap) ∧ Hid (Below wr.heap.size wr w')) (first | exact ⟨e3, e7, c0, z0, z1, z2, z3, y0, y1, y2, y3, Lib.hid HB7.out.drew⟩ | exact ⟨e3, e7, c0, z0, z1, z2, z3, y0, y1, y2, y3, HB7⟩ | fail)
          (first
            | (go_at_call 17; refine (HS.out _ (by first | exact HB7.out | exact HB7.out.drew)).mono ?_; rintro e w7 ⟨rfl, hb7⟩; have e3 := keep hb7 (by exact e3); have e7 := keep hb7 (by exact e7); have c0 := keep hb7 (by exact c0); have z0 := keep hb7 (by exact z0); have z1 := keep hb7 (by exact z1); have z2 := keep hb7 (by exact z2); have z3 := keep hb7 (by exact z3); have y0 := keep hb7 (by exact y0); have y1 := keep hb7 (by exact y1); have y2 := keep hb7 (by exact y2); have y3 := keep hb7 (by exact y3); have HB7 := Lib.hid (below_step8' (by first | exact HB7.out | exact HB7.out.drew) hb7); clear hb7))
        all_goals
          go_wp2
          go_roundw
          case rel => exact ⟨j + 1, by omega, by go_num, by rw [HN.out], Lib.hid (below_step8' HBr.out HB7.out)⟩
          case measure => simp [intOf]; omega
      | false =>
        rw [hq, Bool.false_and] at HN
        clear hx hq
        go_wp2_with fail
        go_quiet (fail)
        go_wp2
        go_roundw
        case rel => exact ⟨j + 1, by omega, by go_num, by rw [HN.out], Lib.hid (drewN_below HBr.out _)⟩
        case measure => simp [intOf]; omega
    · obtain rfl : j = m := by omega
      rw [HALL.out]
      have HAKr := Lib.hid (rblk_keep HAK.out HBr.out)
      have HBKr := Lib.hid (rblk_keep HBK.out HBr.out)
      cases s with
      | true =>
        go_wp2_with (first
          | (refine wpList_load_row rfl 31 _ rfl w4.heap.size rfl 31 (kc A) (0, 0) _ HAKr.out Try.underlying31 rfl HKA.out ?_)
          | (go_at_call 9; refine (HBYA.out _).mono ?_; rintro e w6 ⟨rfl, hb6⟩; have HB6 := Lib.hid (below_step8' HBW.out hb6); have HRA := Lib.hid (row_range (rblk_keep HAKr.out hb6)); have HRB := Lib.hid (row_range (rblk_keep HBKr.out hb6)); clear hb6))
        refine wp_region_held_drew (S := (fun w' => w'.rangeAt w4.heap.size 0 (Lib.byteCells A) ∧ w'.rangeAt w5.heap.size 0 (Lib.byteCells B) ∧ Hid (Below w.heap.size w w'))) (by kernel_rfl) (⟨HRA.out, HRB.out, Lib.hid HB6.out.drew⟩) (fun hHeld => ?_)
        refine wpAnyH_take (i := 0) (oi := { dst := some 133, op := Op.load 31 (Go.Operand.tmp 9), type := 31, pos := "law.go:85", after := #[], guard := none }) (v := .agg (Lib.byteCells A).toArray) rfl (by kernel_rfl) (by kernel_rfl) (by kernel_rfl) (fun _ _ _ h => h) (yieldsIf_load_mid (by rfl) _ _ rfl w4.heap.size 0 rfl (Lib.byteCells A) _ (fun wx hw => hw.1) Try.underlying31 rfl HINA.out) hHeld ?_
        try simp only [Act.put, List.setIfInBounds_toArray, List.set_cons_zero, List.set_cons_succ]
        refine wpAnyH_take (i := 1) (oi := { dst := some 134, op := Op.load 31 (Go.Operand.tmp 11), type := 31, pos := "law.go:85", after := #[], guard := none }) (v := .agg (Lib.byteCells B).toArray) rfl (by kernel_rfl) (by kernel_rfl) (by kernel_rfl) (fun _ _ _ h => h) (yieldsIf_load_mid (by rfl) _ _ rfl w5.heap.size 0 rfl (Lib.byteCells B) _ (fun wx hw => hw.2.1) Try.underlying31 rfl HINB.out) hHeld ?_
        try simp only [Act.put, List.setIfInBounds_toArray, List.set_cons_zero, List.set_cons_succ]
        refine wpAnyH_take (i := 2) (oi := { dst := some 135, op := Op.binOp Go.BinOp.eql 31 (Go.Operand.tmp 133) (Go.Operand.tmp 134) 31, type := 4, pos := "law.go:85", after := #[{ on := 0, ground := Go.Ground.data }, { on := 1, ground := Go.Ground.data }], guard := none }) (v := ?_) rfl (by kernel_rfl) (by kernel_rfl) (by kernel_rfl) (fun _ _ _ h => h) (Or.inl ⟨by rfl, ?_⟩) hHeld ?_
        rotate_left 1
        · (intro wx hSw; obtain ⟨q0, q1, q2⟩ := hSw; go_simp; try with_reducible rfl)
        try simp only [Act.put, List.setIfInBounds_toArray, List.set_cons_zero, List.set_cons_succ]
        refine wpAnyH_take (i := 3) (oi := { dst := some 136, op := Op.move (Go.Operand.tmp 13), type := 4, pos := "law.go:85", after := #[], guard := none }) (v := ?_) rfl (by kernel_rfl) (by kernel_rfl) (by kernel_rfl) (fun _ _ _ h => h) (Or.inl ⟨by rfl, ?_⟩) hHeld ?_
        rotate_left 1
        · (intro wx hSw; obtain ⟨q0, q1, q2⟩ := hSw; go_simp; try with_reducible rfl)
        try simp only [Act.put, List.setIfInBounds_toArray, List.set_cons_zero, List.set_cons_succ]
        refine wpAnyH_take (i := 4) (oi := { dst := some 137, op := Op.binOp Go.BinOp.eql 4 (Go.Operand.tmp 135) (Go.Operand.tmp 136) 4, type := 4, pos := "law.go:85", after := #[{ on := 2, ground := Go.Ground.data }, { on := 3, ground := Go.Ground.data }], guard := none }) (v := ?_) rfl (by kernel_rfl) (by kernel_rfl) (by kernel_rfl) (fun _ _ _ h => h) (Or.inl ⟨by rfl, ?_⟩) hHeld ?_
        rotate_left 1
        · (intro wx hSw; obtain ⟨q0, q1, q2⟩ := hSw; go_simp; try with_reducible rfl)
        try simp only [Act.put, List.setIfInBounds_toArray, List.set_cons_zero, List.set_cons_succ]
        refine wpAnyH_take (i := 5) (oi := { dst := some 138, op := Op.move (Go.Operand.tmp 137), type := 4, pos := "law.go:85", after := #[{ on := 4, ground := Go.Ground.data }], guard := none }) (v := ?_) rfl (by kernel_rfl) (by kernel_rfl) (by kernel_rfl) (fun _ _ _ h => h) (Or.inl ⟨by rfl, ?_⟩) hHeld ?_
        rotate_left 1
        · (intro wx hSw; obtain ⟨q0, q1, q2⟩ := hSw; go_simp; try with_reducible rfl)
        try simp only [Act.put, List.setIfInBounds_toArray, List.set_cons_zero, List.set_cons_succ]
        refine wpAnyH_take (i := 6) (oi := { dst := some 139, op := Op.move (Go.Operand.tmp 16), type := 4, pos := "law.go:85", after := #[{ on := 5, ground := Go.Ground.guard }], guard := some (5, true) }) (v := ?_) rfl (by kernel_rfl) (by kernel_rfl) (by kernel_rfl) (fun _ _ _ h => h) (Or.inl ⟨by rfl, ?_⟩) hHeld ?_
        rotate_left 1
        · (intro wx hSw; obtain ⟨q0, q1, q2⟩ := hSw; go_simp; try with_reducible rfl)
        try simp only [Act.put, List.setIfInBounds_toArray, List.set_cons_zero, List.set_cons_succ]
        refine wpAnyH_take (i := 7) (oi := { dst := some 140, op := Op.pick (Go.Operand.tmp 138) (Go.Operand.tmp 139) (Go.Operand.const (Go.Value.bool false)), type := 4, pos := "law.go:85", after := #[{ on := 5, ground := Go.Ground.data }, { on := 6, ground := Go.Ground.data }], guard := none }) (v := ?_) rfl (by kernel_rfl) (by kernel_rfl) (by kernel_rfl) (fun _ _ _ h => h) (Or.inl ⟨by rfl, ?_⟩) hHeld ?_
        rotate_left 1
        · (intro wx hSw; obtain ⟨q0, q1, q2⟩ := hSw; go_simp; try with_reducible rfl)
        try simp only [Act.put, List.setIfInBounds_toArray, List.set_cons_zero, List.set_cons_succ]
        refine wpAnyH_take (i := 8) (oi := { dst := some 141, op := Op.move (Go.Operand.tmp 140), type := 4, pos := "law.go:85", after := #[{ on := 7, ground := Go.Ground.data }, { on := 5, ground := Go.Ground.chain }], guard := none }) (v := ?_) rfl (by kernel_rfl) (by kernel_rfl) (by kernel_rfl) (fun _ _ _ h => h) (Or.inl ⟨by rfl, ?_⟩) hHeld ?_
        rotate_left 1
        · (intro wx hSw; obtain ⟨q0, q1, q2⟩ := hSw; go_simp; try with_reducible rfl)
        try simp only [Act.put, List.setIfInBounds_toArray, List.set_cons_zero, List.set_cons_succ]
        refine wpAnyH_take (i := 9) (oi := { dst := some 142, op := Op.load 31 (Go.Operand.tmp 9), type := 31, pos := "law.go:85", after := #[{ on := 8, ground := Go.Ground.guard }], guard := some (8, true) }) (v := .agg (Lib.byteCells A).toArray) rfl (by kernel_rfl) (by kernel_rfl) (by kernel_rfl) (fun _ _ _ h => h) (yieldsIf_load_mid (by rfl) _ _ rfl w4.heap.size 0 rfl (Lib.byteCells A) _ (fun wx hw => hw.1) Try.underlying31 rfl HINA.out) hHeld ?_
        try simp only [Act.put, List.setIfInBounds_toArray, List.set_cons_zero, List.set_cons_succ]
        refine wpAnyH_take (i := 11) (oi := { dst := some 144, op := Op.load 31 (Go.Operand.tmp 11), type := 31, pos := "law.go:85", after := #[{ on := 8, ground := Go.Ground.guard }], guard := some (8, true) }) (v := .agg (Lib.byteCells B).toArray) rfl (by kernel_rfl) (by kernel_rfl) (by kernel_rfl) (fun _ _ _ h => h) (yieldsIf_load_mid (by rfl) _ _ rfl w5.heap.size 0 rfl (Lib.byteCells B) _ (fun wx hw => hw.2.1) Try.underlying31 rfl HINB.out) hHeld ?_
        try simp only [Act.put, List.setIfInBounds_toArray, List.set_cons_zero, List.set_cons_succ]
        refine wpAnyH_take (i := 14) (oi := { dst := some 147, op := Op.move (Go.Operand.tmp 13), type := 4, pos := "law.go:85", after := #[{ on := 8, ground := Go.Ground.guard }], guard := some (8, true) }) (v := ?_) rfl (by kernel_rfl) (by kernel_rfl) (by kernel_rfl) (fun _ _ _ h => h) (Or.inl ⟨by rfl, ?_⟩) hHeld ?_
        rotate_left 1
        · (intro wx hSw; obtain ⟨q0, q1, q2⟩ := hSw; go_simp; try with_reducible rfl)
        try simp only [Act.put, List.setIfInBounds_toArray, List.set_cons_zero, List.set_cons_succ]
        refine wpAnyH_ready (rs := [10]) (by kernel_rfl) (by simp) ?_
        refine AllReadyH.cons (o := { dst := some 143, op := Op.call { callee := Go.Callee.value (Go.Operand.func 11), args := #[Go.Operand.tmp 142], argTypes := #[31] }, type := 9, pos := "law.go:85", after := #[{ on := 9, ground := Go.Ground.data }, { on := 8, ground := Go.Ground.chain }, { on := 8, ground := Go.Ground.guard }], guard := some (8, true) }) rfl (fun K0 hK0 => ?_) AllReadyH.nil
        go_simp
        (go_at_call 11; (with_reducible refine (HTA.out _).mono ?_); rintro e w3 ⟨rfl, hb3⟩)
        refine hK0.out _ _ (⟨range_keep hHeld.1 hb3, range_keep hHeld.2.1 hb3, Lib.hid (below_step8' hHeld.2.2.out hb3)⟩) (fun hHeld => ?_)
        clear hK0 K0
        try simp only [Act.put, List.setIfInBounds_toArray, List.set_cons_zero, List.set_cons_succ]
        refine wpAnyH_ready (rs := [12]) (by kernel_rfl) (by simp) ?_
        refine AllReadyH.cons (o := { dst := some 145, op := Op.call { callee := Go.Callee.value (Go.Operand.func 11), args := #[Go.Operand.tmp 144], argTypes := #[31] }, type := 9, pos := "law.go:85", after := #[{ on := 11, ground := Go.Ground.data }, { on := 10, ground := Go.Ground.chain }, { on := 8, ground := Go.Ground.guard }], guard := some (8, true) }) rfl (fun K0 hK0 => ?_) AllReadyH.nil
        go_simp
        (go_at_call 11; (with_reducible refine (HTB.out _).mono ?_); rintro e w3 ⟨rfl, hb3⟩)
        refine hK0.out _ _ (⟨range_keep hHeld.1 hb3, range_keep hHeld.2.1 hb3, Lib.hid (below_step8' hHeld.2.2.out hb3)⟩) (fun hHeld => ?_)
        clear hK0 K0
        try simp only [Act.put, List.setIfInBounds_toArray, List.set_cons_zero, List.set_cons_succ]
        refine wpAnyH_take (i := 13) (oi := { dst := some 146, op := Op.binOp Go.BinOp.eql 9 (Go.Operand.tmp 143) (Go.Operand.tmp 145) 9, type := 4, pos := "law.go:85", after := #[{ on := 10, ground := Go.Ground.data }, { on := 12, ground := Go.Ground.data }, { on := 8, ground := Go.Ground.guard }], guard := some (8, true) }) (v := ?_) rfl (by kernel_rfl) (by kernel_rfl) (by kernel_rfl) (fun _ _ _ h => h) (Or.inl ⟨by rfl, ?_⟩) hHeld ?_
        rotate_left 1
        · (intro wx hSw; obtain ⟨q0, q1, q2⟩ := hSw; go_simp; try with_reducible rfl)
        try simp only [Act.put, List.setIfInBounds_toArray, List.set_cons_zero, List.set_cons_succ]
        refine wpAnyH_take (i := 15) (oi := { dst := some 148, op := Op.binOp Go.BinOp.eql 4 (Go.Operand.tmp 146) (Go.Operand.tmp 147) 4, type := 4, pos := "law.go:85", after := #[{ on := 13, ground := Go.Ground.data }, { on := 14, ground := Go.Ground.data }, { on := 8, ground := Go.Ground.guard }], guard := some (8, true) }) (v := ?_) rfl (by kernel_rfl) (by kernel_rfl) (by kernel_rfl) (fun _ _ _ h => h) (Or.inl ⟨by rfl, ?_⟩) hHeld ?_
        rotate_left 1
        · (intro wx hSw; obtain ⟨q0, q1, q2⟩ := hSw; go_simp; try with_reducible rfl)
        try simp only [Act.put, List.setIfInBounds_toArray, List.set_cons_zero, List.set_cons_succ]
        refine wpAnyH_take (i := 16) (oi := { dst := some 149, op := Op.pick (Go.Operand.tmp 141) (Go.Operand.tmp 148) (Go.Operand.const (Go.Value.bool false)), type := 4, pos := "law.go:85", after := #[{ on := 8, ground := Go.Ground.data }, { on := 15, ground := Go.Ground.data }], guard := none }) (v := ?_) rfl (by kernel_rfl) (by kernel_rfl) (by kernel_rfl) (fun _ _ _ h => h) (Or.inl ⟨by rfl, ?_⟩) hHeld ?_
        rotate_left 1
        · (intro wx hSw; obtain ⟨q0, q1, q2⟩ := hSw; go_simp; try with_reducible rfl)
        try simp only [Act.put, List.setIfInBounds_toArray, List.set_cons_zero, List.set_cons_succ]
        refine wpAnyH_take (i := 17) (oi := { dst := some 150, op := Op.move (Go.Operand.tmp 149), type := 4, pos := "law.go:85", after := #[{ on := 16, ground := Go.Ground.data }, { on := 12, ground := Go.Ground.chain }], guard := none }) (v := ?_) rfl (by kernel_rfl) (by kernel_rfl) (by kernel_rfl) (fun _ _ _ h => h) (Or.inl ⟨by rfl, ?_⟩) hHeld ?_
        rotate_left 1
        · (intro wx hSw; obtain ⟨q0, q1, q2⟩ := hSw; go_simp; try with_reducible rfl)
        try simp only [Act.put, List.setIfInBounds_toArray, List.set_cons_zero, List.set_cons_succ]
        refine wpAnyH_ready (rs := [18]) (by kernel_rfl) (by simp) ?_
        refine AllReadyH.cons (o := { dst := some 151, op := Op.call { callee := Go.Callee.value (Go.Operand.func 5), args := #[], argTypes := #[] }, type := 4, pos := "law.go:85", after := #[{ on := 17, ground := Go.Ground.chain }, { on := 17, ground := Go.Ground.guard }], guard := some (17, true) }) rfl (fun K0 hK0 => ?_) AllReadyH.nil
        go_simp
        (go_at_call 5; refine (awake13_any _).mono ?_; rintro e w3 ⟨rfl, hb3⟩)
        refine hK0.out _ _ (⟨range_keep hHeld.1 hb3, range_keep hHeld.2.1 hb3, Lib.hid (below_step8' hHeld.2.2.out hb3)⟩) (fun hHeld => ?_)
        clear hK0 K0
        try simp only [Act.put, List.setIfInBounds_toArray, List.set_cons_zero, List.set_cons_succ]
        refine wpAnyH_take (i := 19) (oi := { dst := some 152, op := Op.pick (Go.Operand.tmp 150) (Go.Operand.tmp 151) (Go.Operand.const (Go.Value.bool false)), type := 4, pos := "law.go:85", after := #[{ on := 17, ground := Go.Ground.data }, { on := 18, ground := Go.Ground.data }], guard := none }) (v := ?_) rfl (by kernel_rfl) (by kernel_rfl) (by kernel_rfl) (fun _ _ _ h => h) (Or.inl ⟨by rfl, ?_⟩) hHeld ?_
        rotate_left 1
        · (intro wx hSw; obtain ⟨q0, q1, q2⟩ := hSw; go_simp; try with_reducible rfl)
        try simp only [Act.put, List.setIfInBounds_toArray, List.set_cons_zero, List.set_cons_succ]
        refine wpAnyH_take (i := 20) (oi := { dst := some 6, op := Op.assign (Go.Operand.tmp 152), type := 4, pos := "law.go:85", after := #[{ on := 19, ground := Go.Ground.data }, { on := 18, ground := Go.Ground.chain }, { on := 0, ground := Go.Ground.phase }, { on := 1, ground := Go.Ground.phase }, { on := 2, ground := Go.Ground.phase }, { on := 3, ground := Go.Ground.phase }, { on := 4, ground := Go.Ground.phase }, { on := 5, ground := Go.Ground.phase }, { on := 6, ground := Go.Ground.phase }, { on := 7, ground := Go.Ground.phase }, { on := 8, ground := Go.Ground.phase }, { on := 9, ground := Go.Ground.phase }, { on := 10, ground := Go.Ground.phase }, { on := 11, ground := Go.Ground.phase }, { on := 12, ground := Go.Ground.phase }, { on := 13, ground := Go.Ground.phase }, { on := 14, ground := Go.Ground.phase }, { on := 15, ground := Go.Ground.phase }, { on := 16, ground := Go.Ground.phase }, { on := 17, ground := Go.Ground.phase }, { on := 18, ground := Go.Ground.phase }, { on := 19, ground := Go.Ground.phase }], guard := none }) (v := ?_) rfl (by kernel_rfl) (by kernel_rfl) (by kernel_rfl) (fun _ _ _ h => h) (Or.inl ⟨by rfl, ?_⟩) hHeld ?_
        rotate_left 1
        · (intro wx hSw; obtain ⟨q0, q1, q2⟩ := hSw; go_simp; try with_reducible rfl)
        try simp only [Act.put, List.setIfInBounds_toArray, List.set_cons_zero, List.set_cons_succ]
        refine wpAnyH_done (by kernel_rfl) ?_ _
        go_wp2
        go_ret
        exact ⟨rfl, hHeld.2.2.out⟩
      | false =>
        go_wp2_with (first
          | (refine wpList_load_row rfl 31 _ rfl w4.heap.size rfl 31 (kc A) (0, 0) _ HAKr.out Try.underlying31 rfl HKA.out ?_)
          | (go_at_call 9; refine (HBYA.out _).mono ?_; rintro e w6 ⟨rfl, hb6⟩; have HB6 := Lib.hid (below_step8' HBW.out hb6); have HRA := Lib.hid (row_range (rblk_keep HAKr.out hb6)); have HRB := Lib.hid (row_range (rblk_keep HBKr.out hb6)); clear hb6))
        refine wp_region_held_drew (S := (fun w' => w'.rangeAt w4.heap.size 0 (Lib.byteCells A) ∧ w'.rangeAt w5.heap.size 0 (Lib.byteCells B) ∧ Hid (Below w.heap.size w w'))) (by kernel_rfl) (⟨HRA.out, HRB.out, Lib.hid HB6.out.drew⟩) (fun hHeld => ?_)
        refine wpAnyH_take (i := 0) (oi := { dst := some 133, op := Op.load 31 (Go.Operand.tmp 9), type := 31, pos := "law.go:85", after := #[], guard := none }) (v := .agg (Lib.byteCells A).toArray) rfl (by kernel_rfl) (by kernel_rfl) (by kernel_rfl) (fun _ _ _ h => h) (yieldsIf_load_mid (by rfl) _ _ rfl w4.heap.size 0 rfl (Lib.byteCells A) _ (fun wx hw => hw.1) Try.underlying31 rfl HINA.out) hHeld ?_
        try simp only [Act.put, List.setIfInBounds_toArray, List.set_cons_zero, List.set_cons_succ]
        refine wpAnyH_take (i := 1) (oi := { dst := some 134, op := Op.load 31 (Go.Operand.tmp 11), type := 31, pos := "law.go:85", after := #[], guard := none }) (v := .agg (Lib.byteCells B).toArray) rfl (by kernel_rfl) (by kernel_rfl) (by kernel_rfl) (fun _ _ _ h => h) (yieldsIf_load_mid (by rfl) _ _ rfl w5.heap.size 0 rfl (Lib.byteCells B) _ (fun wx hw => hw.2.1) Try.underlying31 rfl HINB.out) hHeld ?_
        try simp only [Act.put, List.setIfInBounds_toArray, List.set_cons_zero, List.set_cons_succ]
        refine wpAnyH_take (i := 2) (oi := { dst := some 135, op := Op.binOp Go.BinOp.eql 31 (Go.Operand.tmp 133) (Go.Operand.tmp 134) 31, type := 4, pos := "law.go:85", after := #[{ on := 0, ground := Go.Ground.data }, { on := 1, ground := Go.Ground.data }], guard := none }) (v := ?_) rfl (by kernel_rfl) (by kernel_rfl) (by kernel_rfl) (fun _ _ _ h => h) (Or.inl ⟨by rfl, ?_⟩) hHeld ?_
        rotate_left 1
        · (intro wx hSw; obtain ⟨q0, q1, q2⟩ := hSw; go_simp; try with_reducible rfl)
        try simp only [Act.put, List.setIfInBounds_toArray, List.set_cons_zero, List.set_cons_succ]
        refine wpAnyH_take (i := 3) (oi := { dst := some 136, op := Op.move (Go.Operand.tmp 13), type := 4, pos := "law.go:85", after := #[], guard := none }) (v := ?_) rfl (by kernel_rfl) (by kernel_rfl) (by kernel_rfl) (fun _ _ _ h => h) (Or.inl ⟨by rfl, ?_⟩) hHeld ?_
        rotate_left 1
        · (intro wx hSw; obtain ⟨q0, q1, q2⟩ := hSw; go_simp; try with_reducible rfl)
        try simp only [Act.put, List.setIfInBounds_toArray, List.set_cons_zero, List.set_cons_succ]
        refine wpAnyH_take (i := 4) (oi := { dst := some 137, op := Op.binOp Go.BinOp.eql 4 (Go.Operand.tmp 135) (Go.Operand.tmp 136) 4, type := 4, pos := "law.go:85", after := #[{ on := 2, ground := Go.Ground.data }, { on := 3, ground := Go.Ground.data }], guard := none }) (v := ?_) rfl (by kernel_rfl) (by kernel_rfl) (by kernel_rfl) (fun _ _ _ h => h) (Or.inl ⟨by rfl, ?_⟩) hHeld ?_
        rotate_left 1
        · (intro wx hSw; obtain ⟨q0, q1, q2⟩ := hSw; go_simp; try with_reducible rfl)
        try simp only [Act.put, List.setIfInBounds_toArray, List.set_cons_zero, List.set_cons_succ]
        refine wpAnyH_take (i := 5) (oi := { dst := some 138, op := Op.move (Go.Operand.tmp 137), type := 4, pos := "law.go:85", after := #[{ on := 4, ground := Go.Ground.data }], guard := none }) (v := ?_) rfl (by kernel_rfl) (by kernel_rfl) (by kernel_rfl) (fun _ _ _ h => h) (Or.inl ⟨by rfl, ?_⟩) hHeld ?_
        rotate_left 1
        · (intro wx hSw; obtain ⟨q0, q1, q2⟩ := hSw; go_simp; try with_reducible rfl)
        try simp only [Act.put, List.setIfInBounds_toArray, List.set_cons_zero, List.set_cons_succ]
        refine wpAnyH_take (i := 6) (oi := { dst := some 139, op := Op.move (Go.Operand.tmp 16), type := 4, pos := "law.go:85", after := #[{ on := 5, ground := Go.Ground.guard }], guard := some (5, true) }) (v := ?_) rfl (by kernel_rfl) (by kernel_rfl) (by kernel_rfl) (fun _ _ _ h => h) (Or.inl ⟨by rfl, ?_⟩) hHeld ?_
        rotate_left 1
        · (intro wx hSw; obtain ⟨q0, q1, q2⟩ := hSw; go_simp; try with_reducible rfl)
        try simp only [Act.put, List.setIfInBounds_toArray, List.set_cons_zero, List.set_cons_succ]
        refine wpAnyH_take (i := 7) (oi := { dst := some 140, op := Op.pick (Go.Operand.tmp 138) (Go.Operand.tmp 139) (Go.Operand.const (Go.Value.bool false)), type := 4, pos := "law.go:85", after := #[{ on := 5, ground := Go.Ground.data }, { on := 6, ground := Go.Ground.data }], guard := none }) (v := ?_) rfl (by kernel_rfl) (by kernel_rfl) (by kernel_rfl) (fun _ _ _ h => h) (Or.inl ⟨by rfl, ?_⟩) hHeld ?_
        rotate_left 1
        · (intro wx hSw; obtain ⟨q0, q1, q2⟩ := hSw; go_simp; try with_reducible rfl)
        try simp only [Act.put, List.setIfInBounds_toArray, List.set_cons_zero, List.set_cons_succ]
        refine wpAnyH_take (i := 8) (oi := { dst := some 141, op := Op.move (Go.Operand.tmp 140), type := 4, pos := "law.go:85", after := #[{ on := 7, ground := Go.Ground.data }, { on := 5, ground := Go.Ground.chain }], guard := none }) (v := ?_) rfl (by kernel_rfl) (by kernel_rfl) (by kernel_rfl) (fun _ _ _ h => h) (Or.inl ⟨by rfl, ?_⟩) hHeld ?_
        rotate_left 1
        · (intro wx hSw; obtain ⟨q0, q1, q2⟩ := hSw; go_simp; try with_reducible rfl)
        try simp only [Act.put, List.setIfInBounds_toArray, List.set_cons_zero, List.set_cons_succ]
        refine wpAnyH_take (i := 9) (oi := { dst := some 142, op := Op.load 31 (Go.Operand.tmp 9), type := 31, pos := "law.go:85", after := #[{ on := 8, ground := Go.Ground.guard }], guard := some (8, true) }) (v := .agg (Lib.byteCells A).toArray) rfl (by kernel_rfl) (by kernel_rfl) (by kernel_rfl) (fun _ _ _ h => h) (yieldsIf_load_mid (by rfl) _ _ rfl w4.heap.size 0 rfl (Lib.byteCells A) _ (fun wx hw => hw.1) Try.underlying31 rfl HINA.out) hHeld ?_
        try simp only [Act.put, List.setIfInBounds_toArray, List.set_cons_zero, List.set_cons_succ]
        refine wpAnyH_take (i := 11) (oi := { dst := some 144, op := Op.load 31 (Go.Operand.tmp 11), type := 31, pos := "law.go:85", after := #[{ on := 8, ground := Go.Ground.guard }], guard := some (8, true) }) (v := .agg (Lib.byteCells B).toArray) rfl (by kernel_rfl) (by kernel_rfl) (by kernel_rfl) (fun _ _ _ h => h) (yieldsIf_load_mid (by rfl) _ _ rfl w5.heap.size 0 rfl (Lib.byteCells B) _ (fun wx hw => hw.2.1) Try.underlying31 rfl HINB.out) hHeld ?_
        try simp only [Act.put, List.setIfInBounds_toArray, List.set_cons_zero, List.set_cons_succ]
        refine wpAnyH_take (i := 14) (oi := { dst := some 147, op := Op.move (Go.Operand.tmp 13), type := 4, pos := "law.go:85", after := #[{ on := 8, ground := Go.Ground.guard }], guard := some (8, true) }) (v := ?_) rfl (by kernel_rfl) (by kernel_rfl) (by kernel_rfl) (fun _ _ _ h => h) (Or.inl ⟨by rfl, ?_⟩) hHeld ?_
        rotate_left 1
        · (intro wx hSw; obtain ⟨q0, q1, q2⟩ := hSw; go_simp; try with_reducible rfl)
        try simp only [Act.put, List.setIfInBounds_toArray, List.set_cons_zero, List.set_cons_succ]
        refine wpAnyH_ready (rs := [10]) (by kernel_rfl) (by simp) ?_
        refine AllReadyH.cons (o := { dst := some 143, op := Op.call { callee := Go.Callee.value (Go.Operand.func 11), args := #[Go.Operand.tmp 142], argTypes := #[31] }, type := 9, pos := "law.go:85", after := #[{ on := 9, ground := Go.Ground.data }, { on := 8, ground := Go.Ground.chain }, { on := 8, ground := Go.Ground.guard }], guard := some (8, true) }) rfl (fun K0 hK0 => ?_) AllReadyH.nil
        go_simp
        (go_at_call 11; (with_reducible refine (HTA.out _).mono ?_); rintro e w3 ⟨rfl, hb3⟩)
        refine hK0.out _ _ (⟨range_keep hHeld.1 hb3, range_keep hHeld.2.1 hb3, Lib.hid (below_step8' hHeld.2.2.out hb3)⟩) (fun hHeld => ?_)
        clear hK0 K0
        try simp only [Act.put, List.setIfInBounds_toArray, List.set_cons_zero, List.set_cons_succ]
        refine wpAnyH_ready (rs := [12]) (by kernel_rfl) (by simp) ?_
        refine AllReadyH.cons (o := { dst := some 145, op := Op.call { callee := Go.Callee.value (Go.Operand.func 11), args := #[Go.Operand.tmp 144], argTypes := #[31] }, type := 9, pos := "law.go:85", after := #[{ on := 11, ground := Go.Ground.data }, { on := 10, ground := Go.Ground.chain }, { on := 8, ground := Go.Ground.guard }], guard := some (8, true) }) rfl (fun K0 hK0 => ?_) AllReadyH.nil
        go_simp
        (go_at_call 11; (with_reducible refine (HTB.out _).mono ?_); rintro e w3 ⟨rfl, hb3⟩)
        refine hK0.out _ _ (⟨range_keep hHeld.1 hb3, range_keep hHeld.2.1 hb3, Lib.hid (below_step8' hHeld.2.2.out hb3)⟩) (fun hHeld => ?_)
        clear hK0 K0
        try simp only [Act.put, List.setIfInBounds_toArray, List.set_cons_zero, List.set_cons_succ]
        refine wpAnyH_take (i := 13) (oi := { dst := some 146, op := Op.binOp Go.BinOp.eql 9 (Go.Operand.tmp 143) (Go.Operand.tmp 145) 9, type := 4, pos := "law.go:85", after := #[{ on := 10, ground := Go.Ground.data }, { on := 12, ground := Go.Ground.data }, { on := 8, ground := Go.Ground.guard }], guard := some (8, true) }) (v := ?_) rfl (by kernel_rfl) (by kernel_rfl) (by kernel_rfl) (fun _ _ _ h => h) (Or.inl ⟨by rfl, ?_⟩) hHeld ?_
        rotate_left 1
        · (intro wx hSw; obtain ⟨q0, q1, q2⟩ := hSw; go_simp; try with_reducible rfl)
        try simp only [Act.put, List.setIfInBounds_toArray, List.set_cons_zero, List.set_cons_succ]
        refine wpAnyH_take (i := 15) (oi := { dst := some 148, op := Op.binOp Go.BinOp.eql 4 (Go.Operand.tmp 146) (Go.Operand.tmp 147) 4, type := 4, pos := "law.go:85", after := #[{ on := 13, ground := Go.Ground.data }, { on := 14, ground := Go.Ground.data }, { on := 8, ground := Go.Ground.guard }], guard := some (8, true) }) (v := ?_) rfl (by kernel_rfl) (by kernel_rfl) (by kernel_rfl) (fun _ _ _ h => h) (Or.inl ⟨by rfl, ?_⟩) hHeld ?_
        rotate_left 1
        · (intro wx hSw; obtain ⟨q0, q1, q2⟩ := hSw; go_simp; try with_reducible rfl)
        try simp only [Act.put, List.setIfInBounds_toArray, List.set_cons_zero, List.set_cons_succ]
        refine wpAnyH_take (i := 16) (oi := { dst := some 149, op := Op.pick (Go.Operand.tmp 141) (Go.Operand.tmp 148) (Go.Operand.const (Go.Value.bool false)), type := 4, pos := "law.go:85", after := #[{ on := 8, ground := Go.Ground.data }, { on := 15, ground := Go.Ground.data }], guard := none }) (v := ?_) rfl (by kernel_rfl) (by kernel_rfl) (by kernel_rfl) (fun _ _ _ h => h) (Or.inl ⟨by rfl, ?_⟩) hHeld ?_
        rotate_left 1
        · (intro wx hSw; obtain ⟨q0, q1, q2⟩ := hSw; go_simp; try with_reducible rfl)
        try simp only [Act.put, List.setIfInBounds_toArray, List.set_cons_zero, List.set_cons_succ]
        refine wpAnyH_take (i := 17) (oi := { dst := some 150, op := Op.move (Go.Operand.tmp 149), type := 4, pos := "law.go:85", after := #[{ on := 16, ground := Go.Ground.data }, { on := 12, ground := Go.Ground.chain }], guard := none }) (v := ?_) rfl (by kernel_rfl) (by kernel_rfl) (by kernel_rfl) (fun _ _ _ h => h) (Or.inl ⟨by rfl, ?_⟩) hHeld ?_
        rotate_left 1
        · (intro wx hSw; obtain ⟨q0, q1, q2⟩ := hSw; go_simp; try with_reducible rfl)
        try simp only [Act.put, List.setIfInBounds_toArray, List.set_cons_zero, List.set_cons_succ]
        refine wpAnyH_ready (rs := [18]) (by kernel_rfl) (by simp) ?_
        refine AllReadyH.cons (o := { dst := some 151, op := Op.call { callee := Go.Callee.value (Go.Operand.func 5), args := #[], argTypes := #[] }, type := 4, pos := "law.go:85", after := #[{ on := 17, ground := Go.Ground.chain }, { on := 17, ground := Go.Ground.guard }], guard := some (17, true) }) rfl (fun K0 hK0 => ?_) AllReadyH.nil
        go_simp
        (go_at_call 5; refine (awake13_any _).mono ?_; rintro e w3 ⟨rfl, hb3⟩)
        refine hK0.out _ _ (⟨range_keep hHeld.1 hb3, range_keep hHeld.2.1 hb3, Lib.hid (below_step8' hHeld.2.2.out hb3)⟩) (fun hHeld => ?_)
        clear hK0 K0
        try simp only [Act.put, List.setIfInBounds_toArray, List.set_cons_zero, List.set_cons_succ]
        refine wpAnyH_take (i := 19) (oi := { dst := some 152, op := Op.pick (Go.Operand.tmp 150) (Go.Operand.tmp 151) (Go.Operand.const (Go.Value.bool false)), type := 4, pos := "law.go:85", after := #[{ on := 17, ground := Go.Ground.data }, { on := 18, ground := Go.Ground.data }], guard := none }) (v := ?_) rfl (by kernel_rfl) (by kernel_rfl) (by kernel_rfl) (fun _ _ _ h => h) (Or.inl ⟨by rfl, ?_⟩) hHeld ?_
        rotate_left 1
        · (intro wx hSw; obtain ⟨q0, q1, q2⟩ := hSw; go_simp; try with_reducible rfl)
        try simp only [Act.put, List.setIfInBounds_toArray, List.set_cons_zero, List.set_cons_succ]
        refine wpAnyH_take (i := 20) (oi := { dst := some 6, op := Op.assign (Go.Operand.tmp 152), type := 4, pos := "law.go:85", after := #[{ on := 19, ground := Go.Ground.data }, { on := 18, ground := Go.Ground.chain }, { on := 0, ground := Go.Ground.phase }, { on := 1, ground := Go.Ground.phase }, { on := 2, ground := Go.Ground.phase }, { on := 3, ground := Go.Ground.phase }, { on := 4, ground := Go.Ground.phase }, { on := 5, ground := Go.Ground.phase }, { on := 6, ground := Go.Ground.phase }, { on := 7, ground := Go.Ground.phase }, { on := 8, ground := Go.Ground.phase }, { on := 9, ground := Go.Ground.phase }, { on := 10, ground := Go.Ground.phase }, { on := 11, ground := Go.Ground.phase }, { on := 12, ground := Go.Ground.phase }, { on := 13, ground := Go.Ground.phase }, { on := 14, ground := Go.Ground.phase }, { on := 15, ground := Go.Ground.phase }, { on := 16, ground := Go.Ground.phase }, { on := 17, ground := Go.Ground.phase }, { on := 18, ground := Go.Ground.phase }, { on := 19, ground := Go.Ground.phase }], guard := none }) (v := ?_) rfl (by kernel_rfl) (by kernel_rfl) (by kernel_rfl) (fun _ _ _ h => h) (Or.inl ⟨by rfl, ?_⟩) hHeld ?_
        rotate_left 1
        · (intro wx hSw; obtain ⟨q0, q1, q2⟩ := hSw; go_simp; try with_reducible rfl)
        try simp only [Act.put, List.setIfInBounds_toArray, List.set_cons_zero, List.set_cons_succ]
        refine wpAnyH_done (by kernel_rfl) ?_ _
        go_wp2
        go_ret
        exact ⟨rfl, hHeld.2.2.out⟩

set_option maxRecDepth 100000 in
set_option maxHeartbeats 4000000 in
theorem walk (ao : Option Addr) (len cap : Nat) (L : Nat → TypeV) (t : Int) (T U : VT) (S : Nat → Prop) (hcap : len ≤ cap) (hm : len ≤ 140737488351232) (hcp : ∀ i, i < len → (L i).ilen ≤ (L i).icap) (w : World) (H : ∀ i, i < len → TypeAt w ao i (L i)) (HV : ValAt w S T) (HU : ValAt w S U) :
    Calls Try.prog 4 #[.slice ao len cap, .int .i64 t, .agg #[.int .i64 T.kind, .int .u64 T.num, .string T.text, .slice T.ia T.len T.cap, .int .i64 U.kind, .int .u64 U.num, .string U.text, .slice U.ia U.len U.cap]] w fun e w' => e = .returned (.bool true) ∧ Below w.heap.size w w' := by
  have hg := fun wx (hb : Below w.heap.size w wx) => great_any ao len cap L hm wx (hold H hb)
  have hmu := fun wx (hb : Below w.heap.size w wx) => refMuch_any S T 0 wx (HV.next hb) (by omega)
  have hmv := fun wx (hb : Below w.heap.size w wx) => refMuch_any S U 0 wx (HU.next hb) (by omega)
  unfold RMuchTo at hmu hmv
  rw [show ((0 : Nat) : Int) = 0 from rfl] at hmu hmv
  have HX0 := Lib.hid (alloc_at w (.cells #[.int .i64 T.kind, .int .u64 T.num, .string T.text, .slice T.ia T.len T.cap, .int .i64 U.kind, .int .u64 U.num, .string U.text, .slice U.ia U.len U.cap] 39))
  have HB0 := Lib.hid ((Below.refl w.heap.size w).alloc (Nat.le_refl _) (.cells #[.int .i64 T.kind, .int .u64 T.num, .string T.text, .slice T.ia T.len T.cap, .int .i64 U.kind, .int .u64 U.num, .string U.text, .slice U.ia U.len U.cap] 39))
  cases hbig : greatB L len with
  | true =>
    rw [hbig] at hg
    have HG := Lib.hid hg
    clear hg hmu hmv hbig HV HU H hcp
    go_enter Try.func4, Try.ntmps4
    go_wp2_with (first
      | (go_at_call 13; refine (HG.out _ HB0.out).mono ?_; rintro e0 w' ⟨rfl, rfl⟩)
      | (go_at_call 5; refine (awake13_any _).mono ?_; rintro e9 w9 ⟨rfl, hb9⟩; have HB9 := Lib.hid (below_step8' HB0.out hb9); clear hb9))
    go_ret
    exact ⟨rfl, HB9.out⟩
  | false =>
  have hlen := great_lt hbig
  rw [hbig] at hg
  cases hmt : muchT T 0 with
  | true =>
    rw [hmt] at hmu
    have HG := Lib.hid hg
    have HM1 := Lib.hid hmu
    clear hg hmu hmv hmt HV HU H hcp hbig
    go_enter Try.func4, Try.ntmps4
    go_wp2_with (first
      | (go_at_call 13; refine (HG.out _ HB0.out).mono ?_; rintro e0 w' ⟨rfl, rfl⟩)
      | (go_at_call 14; (with_reducible refine (HM1.out _ HB0.out).mono ?_); rintro e1 w1 ⟨rfl, hb1⟩; have HB1 := Lib.hid (below_step8' HB0.out hb1); have HX1 := Lib.hid (box_keep HX0.out hb1); have d0 : w1.cell? ⟨w.heap.size, 0, none⟩ = some (.int .i64 T.kind) := cell_at HX1.out rfl; have d1 : w1.cell? ⟨w.heap.size, 1, none⟩ = some (.int .u64 T.num) := cell_at HX1.out rfl; have d2 : w1.cell? ⟨w.heap.size, 2, none⟩ = some (.string T.text) := cell_at HX1.out rfl; have d3 : w1.cell? ⟨w.heap.size, 3, none⟩ = some (.slice T.ia T.len T.cap) := cell_at HX1.out rfl; have d4 : w1.cell? ⟨w.heap.size, 4, none⟩ = some (.int .i64 U.kind) := cell_at HX1.out rfl; have d5 : w1.cell? ⟨w.heap.size, 5, none⟩ = some (.int .u64 U.num) := cell_at HX1.out rfl; have d6 : w1.cell? ⟨w.heap.size, 6, none⟩ = some (.string U.text) := cell_at HX1.out rfl; have d7 : w1.cell? ⟨w.heap.size, 7, none⟩ = some (.slice U.ia U.len U.cap) := cell_at HX1.out rfl; clear hb1)
      | (go_at_call 5; refine (awake13_any _).mono ?_; rintro e9 w9 ⟨rfl, hb9⟩; have HB9 := Lib.hid (below_step8' HB1.out hb9); clear hb9))
    go_ret
    exact ⟨rfl, HB9.out⟩
  | false =>
  rw [hmt] at hmu
  cases hmt2 : muchT U 0 with
  | true =>
    rw [hmt2] at hmv
    have HG := Lib.hid hg
    have HM1 := Lib.hid hmu
    have HM2 := Lib.hid hmv
    clear hg hmu hmv hmt hmt2 HV HU H hcp hbig
    go_enter Try.func4, Try.ntmps4
    go_wp2_with (first
      | (go_at_call 13; refine (HG.out _ HB0.out).mono ?_; rintro e0 w' ⟨rfl, rfl⟩)
      | (go_at_call 14; (with_reducible refine (HM1.out _ HB0.out).mono ?_); rintro e1 w1 ⟨rfl, hb1⟩; have HB1 := Lib.hid (below_step8' HB0.out hb1); have HX1 := Lib.hid (box_keep HX0.out hb1); have d0 : w1.cell? ⟨w.heap.size, 0, none⟩ = some (.int .i64 T.kind) := cell_at HX1.out rfl; have d1 : w1.cell? ⟨w.heap.size, 1, none⟩ = some (.int .u64 T.num) := cell_at HX1.out rfl; have d2 : w1.cell? ⟨w.heap.size, 2, none⟩ = some (.string T.text) := cell_at HX1.out rfl; have d3 : w1.cell? ⟨w.heap.size, 3, none⟩ = some (.slice T.ia T.len T.cap) := cell_at HX1.out rfl; have d4 : w1.cell? ⟨w.heap.size, 4, none⟩ = some (.int .i64 U.kind) := cell_at HX1.out rfl; have d5 : w1.cell? ⟨w.heap.size, 5, none⟩ = some (.int .u64 U.num) := cell_at HX1.out rfl; have d6 : w1.cell? ⟨w.heap.size, 6, none⟩ = some (.string U.text) := cell_at HX1.out rfl; have d7 : w1.cell? ⟨w.heap.size, 7, none⟩ = some (.slice U.ia U.len U.cap) := cell_at HX1.out rfl; clear hb1)
      | (go_at_call 14; (with_reducible refine (HM2.out _ HB1.out).mono ?_); rintro e2 w2 ⟨rfl, hb2⟩; have HB2 := Lib.hid (below_step8' HB1.out hb2); have HX2 := Lib.hid (box_keep HX1.out hb2); clear d0 d1 d2 d3 d4 d5 d6 d7; have d0 : w2.cell? ⟨w.heap.size, 0, none⟩ = some (.int .i64 T.kind) := cell_at HX2.out rfl; have d1 : w2.cell? ⟨w.heap.size, 1, none⟩ = some (.int .u64 T.num) := cell_at HX2.out rfl; have d2 : w2.cell? ⟨w.heap.size, 2, none⟩ = some (.string T.text) := cell_at HX2.out rfl; have d3 : w2.cell? ⟨w.heap.size, 3, none⟩ = some (.slice T.ia T.len T.cap) := cell_at HX2.out rfl; have d4 : w2.cell? ⟨w.heap.size, 4, none⟩ = some (.int .i64 U.kind) := cell_at HX2.out rfl; have d5 : w2.cell? ⟨w.heap.size, 5, none⟩ = some (.int .u64 U.num) := cell_at HX2.out rfl; have d6 : w2.cell? ⟨w.heap.size, 6, none⟩ = some (.string U.text) := cell_at HX2.out rfl; have d7 : w2.cell? ⟨w.heap.size, 7, none⟩ = some (.slice U.ia U.len U.cap) := cell_at HX2.out rfl; clear hb2)
      | (go_at_call 5; refine (awake13_any _).mono ?_; rintro e9 w9 ⟨rfl, hb9⟩; have HB9 := Lib.hid (below_step8' HB2.out hb9); clear hb9))
    go_ret
    exact ⟨rfl, HB9.out⟩
  | false =>
  rw [hmt2] at hmv
  clear HX0 HB0
  have hfd := fun wx (hb : Below w.heap.size w wx) => fields13_any ao len cap L t (by omega) hcap wx (hold H hb)
  unfold FldTo at hfd
  have ho1 := fun wx (hb : Below w.heap.size w wx) => of_any13 ao len cap L (by omega) hcap hcp S t T wx (HV.next hb) (hold H hb)
  have ho2 := fun wx (hb : Below w.heap.size w wx) => of_any13 ao len cap L (by omega) hcap hcp S t U wx (HU.next hb) (hold H hb)
  have hAl := keyK_len L len t T
  have hBl := keyK_len L len t U
  have hz : ∀ X : VT, keyE L len t X ≠ 0 → keyK L len t X = List.replicate 17 0 := fun X h => by unfold keyK; rw [if_neg h]
  by_cases hor : fldE L len t ≠ 0 ∨ keyE L len t T ≠ 0 ∨ keyE L len t U ≠ 0
  · exact walk_no ao len cap t T U _ _ _ _ _ _ w hAl hBl (fun h => ⟨by unfold keyE; rw [if_pos h], by unfold keyE; rw [if_pos h], by unfold fldL; rw [if_neg h]⟩) (hz T) (hz U) hor hg hmu hmv hfd ho1 ho2
  · have hE : fldE L len t = 0 := by by_cases c : fldE L len t = 0 <;> simp_all
    have e1 : keyE L len t T = 0 := by by_cases c : keyE L len t T = 0 <;> simp_all
    have e2 : keyE L len t U = 0 := by by_cases c : keyE L len t U = 0 <;> simp_all
    have kA : keyK L len t T = kb (keyB T.kid (fldL L len t)) := by unfold keyK; rw [if_pos e1]
    have kB : keyK L len t U = kb (keyB U.kid (fldL L len t)) := by unfold keyK; rw [if_pos e2]
    have a1 : fitsA L len t T = 0 := by unfold keyE at e1; rw [if_neg (by rw [hE]; decide)] at e1; exact e1
    have a2 : fitsA L len t U = 0 := by unfold keyE at e2; rw [if_neg (by rw [hE]; decide)] at e2; exact e2
    rw [hE] at hfd
    rw [e1] at ho1
    rw [e2] at ho2
    obtain ⟨k, rfl, hk, hok, h13, h16, hfl⟩ := fld_zero hE
    have hft : ∀ X : VT, fitsA L len (k : Nat) X = 0 → fitsT L X k = 0 := fun X h => by
      unfold fitsA at h
      split at h
      · rw [Int.toNat_natCast] at h; exact h
      · cases h
    have f1 := hft T a1
    have f2 := hft U a2
    have k1 := kid_ok f1 h13
    have k2 := kid_ok f2 h13
    have hmem : ∀ (j x : Nat), (fldL L len (k : Nat))[j]? = some x → x < (L k).ilen ∧ ((L k).items x).key = true := fun j x hx => by
      rw [hfl] at hx
      have := List.mem_filter.1 (List.mem_of_getElem? hx)
      exact ⟨List.mem_range.1 this.1, this.2⟩
    have hv := ok_all hok
    have hty := fun x (hx : x < (L k).ilen) => (hv k hk).items (.inl h13) x hx
    have hVT := (valAt_iff T).1 HV
    have hVU := (valAt_iff U).1 HU
    have l1 := keyB_le hok hk h13 f1 (L k).ilen (Nat.le_refl _)
    have l2 := keyB_le hok hk h13 f2 (L k).ilen (Nat.le_refl _)
    rw [← hfl] at l1 l2
    have n1 : (keyB T.kid (fldL L len (k : Nat))).length ≤ 16 := by omega
    have n2 : (keyB U.kid (fldL L len (k : Nat))).length ≤ 16 := by omega
    have hlen16 : (fldL L len (k : Nat)).length ≤ 16 := by
      rw [hfl]
      have h2 := keyF_len (L k) (L k).ilen
      have h3 := ((hv k hk).count (.inl h13)).2
      omega
    have hiff : keyB T.kid (fldL L len (k : Nat)) = keyB U.kid (fldL L len (k : Nat)) ↔ alk T.kid U.kid (fldL L len (k : Nat)) = true := by
      constructor
      · refine keyB_inj (fun i hi r s h => ?_)
        obtain ⟨j, hj, hji⟩ := List.getElem_of_mem hi
        obtain ⟨m1, m2⟩ := hmem j i (by rw [List.getElem?_eq_getElem hj, hji])
        have wT := ((valAt_iff (T.kid i)).1 (hVT.2 i (by rw [k1.1]; exact m1)).2).1
        have wU := ((valAt_iff (U.kid i)).1 (hVU.2 i (by rw [k2.1]; exact m1)).2).1
        exact fb_inj (enum_ok hok) (by have := hty i m1; omega : ((L k).items i).type.toNat < len) (k1.2 i m1) (k2.2 i m1) (key_kind hok hk h13 m1 m2) (fun c => ((hv _ (by have := hty i m1; omega)).bound (.inl c)).2) wT wU h
      · exact keyB_same
    have hs := fun x (hx : x < T.len) (hx' : x < U.len) wx (hb : Below w.heap.size w wx) => same8_any S S (T.kid x) (U.kid x) wx ((hVT.2 x hx).2.next hb) ((hVU.2 x hx').2.next hb)
    rw [kA] at ho1 hAl
    rw [kB] at ho2 hBl
    refine walk_yes ao len cap (k : Nat) T U S _ _ (fldL L len (k : Nat)) (alk T.kid U.kid (fldL L len (k : Nat))) w hAl hBl hlen16 (fun j x hx => ⟨by rw [k1.1]; exact (hmem j x hx).1, by rw [k2.1]; exact (hmem j x hx).1⟩) ?_ ?_ rfl (kb_kok _ n1).1 hs (fun x hx wx hb => (hVT.2 x hx).1.next hb) (fun x hx wx hb => (hVU.2 x hx).1.next hb) hg hmu hmv hfd ho1 ho2
    · cases ha : alk T.kid U.kid (fldL L len (k : Nat)) with
      | true => rw [decide_eq_true_eq]; rw [hiff.2 ha]
      | false =>
        rw [decide_eq_false_iff_not]
        intro h
        rw [hiff.1 (kb_inj n1 n2 h)] at ha; cases ha
    · cases ha : alk T.kid U.kid (fldL L len (k : Nat)) with
      | true => rw [hiff.2 ha]; simp
      | false =>
        cases hq : ((ktx (kb (keyB T.kid (fldL L len (k : Nat))))).toList == (ktx (kb (keyB U.kid (fldL L len (k : Nat))))).toList) with
        | false => rfl
        | true =>
          exfalso
          have h1 : (ktx (kb (keyB T.kid (fldL L len (k : Nat))))).toList = (ktx (kb (keyB U.kid (fldL L len (k : Nat))))).toList := by simpa using hq
          rw [ByteArray.toList_eq, ByteArray.toList_eq] at h1
          have h2 := ktx_inj n1 n2 (data_same h1)
          rw [hiff.1 h2] at ha; cases ha
set_option maxRecDepth 100000 in
theorem lifted (os : Os) (started : os.Started) (H : Type) (enc : TypeId × Value → H) :
    ReturnsInHanded {} Try.checked os 4 .any (Rows.keyApartSpec.pre6 enc Try.prog Try.f4 Rows.keyApartRow.domain false) (Rows.keyApartSpec.post enc Try.prog Try.f4 false true false false) := by
  refine returnsInHanded_of_change_sized (C := Try.checked) own started (by kernel_rfl) Try.func4
    (ChangeSpec.witness6 (enc := enc) (C := Try.checked) false ⟨#[], #[.slice none 0 0, .int .i64 0, .agg #[.int .i64 0, .int .u64 0, .string ⟨#[]⟩, .slice none 0 0, .int .i64 0, .int .u64 0, .string ⟨#[]⟩, .slice none 0 0]], []⟩ 8 (by kernel_rfl) (by kernel_rfl) (by kernel_rfl) (by kernel_rfl)) ?_
  intro W base args ds gs before hval0 hW hcnd hsz _
  have hval : ∀ (j : Nat) t v, Try.f4.params[j]? = some t → args[j]? = some v → Value.okWide Try.prog W .any base t v := hval0
  have hW' := hW
  obtain ⟨p, q, hA0, hV, rfl, hfz, hnd⟩ := hW
  have hA : DataW.TrodAll enc Try.prog W 0 (fun _ => true) true Try.f4.params.toList args.toList ds p := hA0
  rw [Try.params4] at hA hval
  obtain ⟨rfl, rfl⟩ := trodVars_none hV
  clear hA0 hval0
  simp only [List.append_nil] at hW'
  have hlt := hW'.lt
  have hA1 := hA
  have hsz1 : (DataW.weightsEach Try.prog (Try.f4.params.toList ++ []) (ds ++ [])).all (· ≤ reachBytes) = true := hsz
  rw [Try.params4, List.append_nil, List.append_nil] at hsz1
  have hrd := rdg_all _ _ _ _ hA1 (fun n hn => by simpa using List.all_eq_true.1 hsz1 n hn)
  obtain ⟨v0, vs0, d0, ds0, p0, q0, hargs, rfl, rfl, h0, r0⟩ := trodAll_cons hA
  obtain ⟨v1, vs1, d1, ds1, p1, q1, rfl, rfl, rfl, h1, r1⟩ := trodAll_cons r0
  obtain ⟨v2, vs2, d2, ds2, p2, q2, rfl, rfl, rfl, h2, r2⟩ := trodAll_cons r1
  obtain ⟨rfl, rfl, rfl⟩ := trodAll_nil r2
  obtain rfl : args = #[v0, v1, v2] := by cases args; simp_all
  obtain ⟨a1, rfl, w1⟩ := rop_int Try.underlying3 (hval 1 3 v1 rfl rfl) (hrd 1 3 v1 rfl rfl)
  have g2 := hrd 2 39 v2 rfl rfl
  obtain ⟨cs2, rfl, hz2⟩ := ok_agg (by first | exact .inl ⟨_, Try.underlying39⟩ | exact .inr ⟨_, _, Try.underlying39⟩) (hval 2 39 v2 rfl rfl)
  obtain ⟨ao, len, cap, L, rfl, hcap, hm, hcp, H⟩ := types_of3 (rop_slice 6 Try.underlying34 (by kernel_rfl) (hval 0 34 v0 rfl rfl) (hrd 0 34 v0 rfl rfl))
  obtain ⟨y0, y1, y2, y3, y4, y5, y6, y7, rfl⟩ := arr8 (hz2.trans (by kernel_rfl))
  have s1 := rdg_elem Try.underlying39 g2 0 4 (by omega) (by kernel_rfl)
  have s2 := rdg_elem Try.underlying39 g2 1 4 (by omega) (by kernel_rfl)
  obtain ⟨T, hT, HT⟩ := val_of (cs := #[y0, y1, y2, y3]) (by kernel_rfl) (by simpa [Value.cells] using s1)
  obtain ⟨U, hU, HU⟩ := val_of (cs := #[y4, y5, y6, y7]) (by kernel_rfl) (by simpa [Value.cells] using s2)
  unfold valV at hT hU
  simp only [Value.agg.injEq, Array.mk.injEq, List.cons.injEq, and_true] at hT hU
  obtain ⟨rfl, rfl, rfl, rfl⟩ := hT
  obtain ⟨rfl, rfl, rfl, rfl⟩ := hU
  refine (walk ao len cap L a1 T U _ hcap hm hcp W H HT HU).mono fun e W' ⟨he, bel⟩ => ?_
  subst he
  exact ⟨_, rfl, _, _, _, [], _, [], hW', trodAll_mk1 (shut_bool Try.underlying4 _), trodAll_below laidOut bel [34, 3, 39] _ _ _ (by kernel_rfl) hA1 hlt, rfl, bel.frame _, fun h => by cases h⟩
theorem over : Rows.keyApartRow.holds Try.pinned (OpenSpec.ofChange Rows.keyApartSpec) :=
  OpenClaim.holds_of_wide 4 Try.f4 rfl rfl rfl rfl rfl rfl rfl ⟨rfl, rfl, rfl, rfl, rfl⟩ rfl rfl rfl rfl rfl (by kernel_rfl) Try.func4 (by kernel_rfl)
    (of_decide_eq_true (by kernel_rfl)) (by unfold Func.isWrapper; first | (rw [if_pos (by decide +kernel)]; kernel_rfl) | (rw [if_neg (by decide +kernel)]; exact ⟨rfl, rfl⟩))
    (fun os started H enc _ => lifted os started H enc)
theorem proved : Rows.KeyApartSaid := over
#print axioms proved
end Go.Proofs.Ytinmdkhafamibaa.keyApart
