/- Chapter 18's law CheckData, walked over what the code's functions answer. -/
import Derived.Test.YtcojomkpogikiaaGreatDoorQ46
import Derived.Test.YtcojomkpogikiaaGreatDoorQ50
namespace Go.Proofs.YtcojomkpogikiaaGreatDoor
open Go.RowKit
set_option linter.unusedVariables false
set_option linter.unusedSimpArgs false
theorem dat_eql18 (k n : Int) (g : Bool) (x : ByteArray) (w : World) : (binOp .eql 43 (.agg #[.int .i64 k, .bool g, .int .u64 n, .string x]) (.agg #[.int .i64 k, .bool g, .int .u64 n, .string x])).run Tryz.prog w = .ok (.bool true) w := by
  have hu := Tryz.underlying43
  have hi := Tryz.underlying3
  have hb := Tryz.underlying4
  have hn := Tryz.underlying38
  have hs := Tryz.underlying9
  have p0 := fun w => run_equalIn_int (P := Tryz.prog) w 9998 3 .i64 .i64 k k hi
  have p1 := fun w => run_equalIn_bool' (P := Tryz.prog) w 9998 4 g g hb
  have p2 := fun w => run_equalIn_int (P := Tryz.prog) w 9998 38 .u64 .u64 n n hn
  have p3 := fun w => run_equalIn_string (P := Tryz.prog) w 9998 9 x x hs
  rw [run_eql_struct, run_equalIn_agg _ 9999 _ _ _ (by kernel_rfl) (by kernel_rfl)]
  simp only [Program.fieldsOf, hu]
  simp [Op.eqFields, go_sem, p0, p1, p2, p3]
set_option maxRecDepth 100000 in
set_option maxHeartbeats 8000000 in
theorem data18 (C : CheckC) (L : Nat → Pa.TypeV) (ao : Option Addr) (len cap : Nat) (t : Int) (a b : Opd) (w : World) (hlen : len ≤ 140737488351232) (hcap : len ≤ cap) (H : ∀ i, i < len → Pa.TypeAt w ao i (L i)) (Hc : ∀ i, i < len → (L i).ilen ≤ (L i).icap) (ha : OpX a) (hb : OpX b) (hV : LibAt w) :
    Calls Tryz.prog 5 #[.slice ao len cap, .int .i64 t, .agg #[.int .i64 a.kind, .string a.text, .bool a.neg, .int .u64 a.num, .int .i64 b.kind, .string b.text, .bool b.neg, .int .u64 b.num]] w fun e w' => e = .returned (.bool true) ∧ Below w.heap.size w w' := by
  have HGL := Lib.hid (fun wx (hb : Below w.heap.size w wx) => Pa.great_any ao len cap L hlen wx (hold18 H hb))
  have HAW := Lib.hid (fun wx (hb : Below w.heap.size w wx) => awake18 C wx (hV.held hb))
  have HB0 := Lib.hid ((Below.refl w.heap.size w).alloc (Nat.le_refl _) (.cells #[.int .i64 a.kind, .string a.text, .bool a.neg, .int .u64 a.num, .int .i64 b.kind, .string b.text, .bool b.neg, .int .u64 b.num] 41))
  have HQ := Lib.hid (alloc_at w (.cells #[.int .i64 a.kind, .string a.text, .bool a.neg, .int .u64 a.num, .int .i64 b.kind, .string b.text, .bool b.neg, .int .u64 b.num] 41))
  have hal := ha.1
  have hbl := hb.1
  cases hl : Pa.greatB L len with
  | true =>
    rw [hl] at HGL
    clear H hV hl ha hb
    go_enter Tryz.func5, Tryz.ntmps5
    go_wp2_with (first | (go_at_call 9; refine (HAW.out _ (by exact HB0.out)).mono ?_; rintro e w2 ⟨rfl, hb⟩; have HB2 := Lib.hid (bth HB0.out hb); clear hb) | (go_at_call 7; refine (HGL.out _ (by exact HB0.out)).mono ?_; rintro e w1 ⟨rfl, rfl⟩))
    go_ret
    exact ⟨rfl, HB2.out⟩
  | false =>
    rw [hl] at HGL
    have h100 := Pa.great_lt hl
    by_cases h1 : 300 < a.text.size
    · have h1i : (300 : Int) < (a.text.size : Int) := by omega
      clear H hV hl ha hb
      go_enter Tryz.func5, Tryz.ntmps5
      go_wp2_with (first | (go_at_call 9; refine (HAW.out _ (by exact HB0.out)).mono ?_; rintro e w2 ⟨rfl, hb⟩; have HB2 := Lib.hid (bth HB0.out hb); clear hb) | (go_at_call 7; refine (HGL.out _ (by exact HB0.out)).mono ?_; rintro e w1 ⟨rfl, rfl⟩))
      go_ret
      exact ⟨rfl, HB2.out⟩
    · have h1i : ¬ (300 : Int) < (a.text.size : Int) := by omega
      by_cases h2 : 300 < b.text.size
      · have h2i : (300 : Int) < (b.text.size : Int) := by omega
        clear H hV hl ha hb
        go_enter Tryz.func5, Tryz.ntmps5
        go_wp2_with (first | (go_at_call 9; refine (HAW.out _ (by exact HB0.out)).mono ?_; rintro e w2 ⟨rfl, hb⟩; have HB2 := Lib.hid (bth HB0.out hb); clear hb) | (go_at_call 7; refine (HGL.out _ (by exact HB0.out)).mono ?_; rintro e w1 ⟨rfl, rfl⟩))
        go_ret
        exact ⟨rfl, HB2.out⟩
      · have h2i : ¬ (300 : Int) < (b.text.size : Int) := by omega
        have HC := Lib.hid (fun wx (hx : Below w.heap.size w wx) => C.dat L ao len cap t a b wx h100 hcap (hold18 H hx) Hc (by omega) (by omega) ha hb (hV.held hx))
        have HR := Lib.hid (fun wx (hx : Below w.heap.size w wx) => rdatum_any L ao len cap (by omega) t a b (by omega) (by omega) wx (hold18 H hx))
        unfold RDatTo at HR
        obtain ⟨⟨dk, dg, dn, dx⟩, hdd⟩ : ∃ d, datE L len t a b = d := ⟨_, rfl⟩
        rw [hdd] at HC HR
        unfold Pa.datV at HC HR
        simp only at HC HR
        have hde := dat_eql18 dk dn dg dx
        have h2d : decide ((300 : Int) < (b.text.size : Int)) = false := decide_eq_false h2i
        clear H hV hl ha hb Hc hdd h1 h2
        go_enter Tryz.func5, Tryz.ntmps5
        go_upto_region 3 with (first | (go_at_call 7; refine (HGL.out _ (by exact HB0.out)).mono ?_; rintro e w1 ⟨rfl, rfl⟩))
        generalize w.alloc (.cells #[.int .i64 a.kind, .string a.text, .bool a.neg, .int .u64 a.num, .int .i64 b.kind, .string b.text, .bool b.neg, .int .u64 b.num] 41) = W0 at *
        try rw [h2d]
        refine wp_region_ext (by kernel_rfl) 19 (fun v => ((.slice ao len cap : Value) :: (.int .i64 t : Value) :: (.agg #[.int .i64 a.kind, .string a.text, .bool a.neg, .int .u64 a.num, .int .i64 b.kind, .string b.text, .bool b.neg, .int .u64 b.num] : Value) :: (undef : Value) :: (undef : Value) :: (.pointer (some ⟨w.heap.size, 0, none⟩) : Value) :: (v 18 : Value) :: (.slice ao len cap : Value) :: (.bool false : Value) :: (.bool false : Value) :: (.pointer (some ⟨w.heap.size, 0, none⟩) : Value) :: (.pointer (some ⟨w.heap.size, 1, none⟩) : Value) :: (.string a.text : Value) :: (.int .i64 (a.text.size : Nat) : Value) :: (.bool false : Value) :: (.bool false : Value) :: (.bool false : Value) :: (.pointer (some ⟨w.heap.size, 4, none⟩) : Value) :: (.pointer (some ⟨w.heap.size, 5, none⟩) : Value) :: (.string b.text : Value) :: (.int .i64 (b.text.size : Nat) : Value) :: (.bool false : Value) :: (.bool false : Value) :: (undef : Value) :: (v 0 : Value) :: (v 1 : Value) :: (v 2 : Value) :: (v 3 : Value) :: (v 4 : Value) :: (v 5 : Value) :: (v 6 : Value) :: (v 7 : Value) :: (v 8 : Value) :: (v 9 : Value) :: (v 10 : Value) :: (v 11 : Value) :: (v 12 : Value) :: (v 13 : Value) :: (v 14 : Value) :: (v 15 : Value) :: (v 16 : Value) :: (v 17 : Value) :: []).toArray) (fun k => if k = 18 then .bool false else undef) (fun _ => none) (fun j => [.slice ao len cap, .int .i64 t, .pointer (some ⟨w.heap.size, 0, none⟩), .agg #[.int .i64 a.kind, .string a.text, .bool a.neg, .int .u64 a.num], .pointer (some ⟨w.heap.size, 4, none⟩), .agg #[.int .i64 b.kind, .string b.text, .bool b.neg, .int .u64 b.num], .agg #[.int .i64 dk, .bool dg, .int .u64 dn, .string dx], .slice ao len cap, .int .i64 t, .pointer (some ⟨w.heap.size, 0, none⟩), .agg #[.int .i64 a.kind, .string a.text, .bool a.neg, .int .u64 a.num], .pointer (some ⟨w.heap.size, 4, none⟩), .agg #[.int .i64 b.kind, .string b.text, .bool b.neg, .int .u64 b.num], .agg #[.int .i64 dk, .bool dg, .int .u64 dn, .string dx], .bool true, .bool true, .bool true, .bool true, .bool true].getD j undef) (fun w' => Below W0.heap.size W0 w')
          (Nat.le_of_ble_eq_true (by kernel_rfl)) (by kernel_rfl) (fun _ _ h hb => bth h hb) (Below.refl _ _) (fun j hj v w1 hBx hsz hd => ?_) (fun v w1 hv hdist hBx hb => ?_)
        · have b1 := rowKeep hBx HQ.out
          have y0 : w1.cell? ⟨w.heap.size, 0, none⟩ = some (.int .i64 a.kind) := cell_at b1 rfl
          have y1 : w1.cell? ⟨w.heap.size, 1, none⟩ = some (.string a.text) := cell_at b1 rfl
          have y2 : w1.cell? ⟨w.heap.size, 2, none⟩ = some (.bool a.neg) := cell_at b1 rfl
          have y3 : w1.cell? ⟨w.heap.size, 3, none⟩ = some (.int .u64 a.num) := cell_at b1 rfl
          have y4 : w1.cell? ⟨w.heap.size, 4, none⟩ = some (.int .i64 b.kind) := cell_at b1 rfl
          have y5 : w1.cell? ⟨w.heap.size, 5, none⟩ = some (.string b.text) := cell_at b1 rfl
          have y6 : w1.cell? ⟨w.heap.size, 6, none⟩ = some (.bool b.neg) := cell_at b1 rfl
          have y7 : w1.cell? ⟨w.heap.size, 7, none⟩ = some (.int .u64 b.num) := cell_at b1 rfl
          clear b1
          have hBw := bth HB0.out hBx
          have hjN : j = 0 ∨ j = 1 ∨ j = 2 ∨ j = 3 ∨ j = 4 ∨ j = 5 ∨ j = 6 ∨ j = 7 ∨ j = 8 ∨ j = 9 ∨ j = 10 ∨ j = 11 ∨ j = 12 ∨ j = 13 ∨ j = 14 ∨ j = 15 ∨ j = 16 ∨ j = 17 ∨ j = 18 := by omega
          rcases hjN with rfl | rfl | rfl | rfl | rfl | rfl | rfl | rfl | rfl | rfl | rfl | rfl | rfl | rfl | rfl | rfl | rfl | rfl | rfl
          · skip
            refine wpOp_step (o := _) rfl (fun K' hK => ?_)
            go_simp
            exact hK _ _ ⟨.slice ao len cap, rfl, Below.refl _ _, (fun _ => rfl), fun o h => by cases h⟩
          · skip
            refine wpOp_step (o := _) rfl (fun K' hK => ?_)
            go_simp
            exact hK _ _ ⟨.int .i64 t, rfl, Below.refl _ _, (fun _ => rfl), fun o h => by cases h⟩
          · skip
            refine wpOp_step (o := _) rfl (fun K' hK => ?_)
            go_simp
            exact hK _ _ ⟨.pointer (some ⟨w.heap.size, 0, none⟩), rfl, Below.refl _ _, (fun _ => rfl), fun o h => by cases h⟩
          · have e2 : v 2 = .pointer (some ⟨w.heap.size, 0, none⟩) := hd 2 (List.contains_iff_mem.1 (by kernel_rfl))
            refine wpOp_step (o := _) rfl (fun K' hK => ?_)
            go_simp
            exact hK _ _ ⟨.agg #[.int .i64 a.kind, .string a.text, .bool a.neg, .int .u64 a.num], fr_eq18 (by simp [upd, e2]), Below.refl _ _, (fun _ => rfl), fun o h => by cases h⟩
          · skip
            refine wpOp_step (o := _) rfl (fun K' hK => ?_)
            go_simp
            exact hK _ _ ⟨.pointer (some ⟨w.heap.size, 4, none⟩), rfl, Below.refl _ _, (fun _ => rfl), fun o h => by cases h⟩
          · have e4 : v 4 = .pointer (some ⟨w.heap.size, 4, none⟩) := hd 4 (List.contains_iff_mem.1 (by kernel_rfl))
            refine wpOp_step (o := _) rfl (fun K' hK => ?_)
            go_simp
            exact hK _ _ ⟨.agg #[.int .i64 b.kind, .string b.text, .bool b.neg, .int .u64 b.num], fr_eq18 (by simp [upd, e4]), Below.refl _ _, (fun _ => rfl), fun o h => by cases h⟩
          · have e0 : v 0 = .slice ao len cap := hd 0 (List.contains_iff_mem.1 (by kernel_rfl)); have e1 : v 1 = .int .i64 t := hd 1 (List.contains_iff_mem.1 (by kernel_rfl)); have e3 : v 3 = .agg #[.int .i64 a.kind, .string a.text, .bool a.neg, .int .u64 a.num] := hd 3 (List.contains_iff_mem.1 (by kernel_rfl)); have e5 : v 5 = .agg #[.int .i64 b.kind, .string b.text, .bool b.neg, .int .u64 b.num] := hd 5 (List.contains_iff_mem.1 (by kernel_rfl))
            refine wpOp_step (o := _) rfl (fun K' hK => ?_)
            go_simp
            refine (HC.out w1 hBw).mono ?_
            rintro e w3 ⟨rfl, hb3⟩
            exact hK _ _ ⟨.agg #[.int .i64 dk, .bool dg, .int .u64 dn, .string dx], fr_eq18 (by simp [upd, e0, e1, e3, e5]), hb3, fun _ => rfl, fun o h => by cases h⟩
          · skip
            refine wpOp_step (o := _) rfl (fun K' hK => ?_)
            go_simp
            exact hK _ _ ⟨.slice ao len cap, rfl, Below.refl _ _, (fun _ => rfl), fun o h => by cases h⟩
          · skip
            refine wpOp_step (o := _) rfl (fun K' hK => ?_)
            go_simp
            exact hK _ _ ⟨.int .i64 t, rfl, Below.refl _ _, (fun _ => rfl), fun o h => by cases h⟩
          · skip
            refine wpOp_step (o := _) rfl (fun K' hK => ?_)
            go_simp
            exact hK _ _ ⟨.pointer (some ⟨w.heap.size, 0, none⟩), rfl, Below.refl _ _, (fun _ => rfl), fun o h => by cases h⟩
          · have e9 : v 9 = .pointer (some ⟨w.heap.size, 0, none⟩) := hd 9 (List.contains_iff_mem.1 (by kernel_rfl))
            refine wpOp_step (o := _) rfl (fun K' hK => ?_)
            go_simp
            exact hK _ _ ⟨.agg #[.int .i64 a.kind, .string a.text, .bool a.neg, .int .u64 a.num], fr_eq18 (by simp [upd, e9]), Below.refl _ _, (fun _ => rfl), fun o h => by cases h⟩
          · skip
            refine wpOp_step (o := _) rfl (fun K' hK => ?_)
            go_simp
            exact hK _ _ ⟨.pointer (some ⟨w.heap.size, 4, none⟩), rfl, Below.refl _ _, (fun _ => rfl), fun o h => by cases h⟩
          · have e11 : v 11 = .pointer (some ⟨w.heap.size, 4, none⟩) := hd 11 (List.contains_iff_mem.1 (by kernel_rfl))
            refine wpOp_step (o := _) rfl (fun K' hK => ?_)
            go_simp
            exact hK _ _ ⟨.agg #[.int .i64 b.kind, .string b.text, .bool b.neg, .int .u64 b.num], fr_eq18 (by simp [upd, e11]), Below.refl _ _, (fun _ => rfl), fun o h => by cases h⟩
          · have e7 : v 7 = .slice ao len cap := hd 7 (List.contains_iff_mem.1 (by kernel_rfl)); have e8 : v 8 = .int .i64 t := hd 8 (List.contains_iff_mem.1 (by kernel_rfl)); have e10 : v 10 = .agg #[.int .i64 a.kind, .string a.text, .bool a.neg, .int .u64 a.num] := hd 10 (List.contains_iff_mem.1 (by kernel_rfl)); have e12 : v 12 = .agg #[.int .i64 b.kind, .string b.text, .bool b.neg, .int .u64 b.num] := hd 12 (List.contains_iff_mem.1 (by kernel_rfl))
            refine wpOp_step (o := _) rfl (fun K' hK => ?_)
            go_simp
            refine (HR.out w1 hBw).mono ?_
            rintro e w3 ⟨rfl, hb3⟩
            exact hK _ _ ⟨.agg #[.int .i64 dk, .bool dg, .int .u64 dn, .string dx], fr_eq18 (by simp [upd, e7, e8, e10, e12]), hb3, fun _ => rfl, fun o h => by cases h⟩
          · have e6 : v 6 = .agg #[.int .i64 dk, .bool dg, .int .u64 dn, .string dx] := hd 6 (List.contains_iff_mem.1 (by kernel_rfl)); have e13 : v 13 = .agg #[.int .i64 dk, .bool dg, .int .u64 dn, .string dx] := hd 13 (List.contains_iff_mem.1 (by kernel_rfl))
            refine wpOp_step (o := _) rfl (fun K' hK => ?_)
            go_simp
            exact hK _ _ ⟨.bool true, fr_eq18 (by simp [upd, e6, e13]), Below.refl _ _, (fun _ => rfl), fun o h => by cases h⟩
          · have e14 : v 14 = .bool true := hd 14 (List.contains_iff_mem.1 (by kernel_rfl))
            refine wpOp_step (o := _) rfl (fun K' hK => ?_)
            go_simp
            exact hK _ _ ⟨.bool true, fr_eq18 (by simp [upd, e14]), Below.refl _ _, (fun _ => rfl), fun o h => by cases h⟩
          · have e15 : v 15 = .bool true := hd 15 (List.contains_iff_mem.1 (by kernel_rfl))
            refine wpOp_step (o := _) rfl (fun K' hK => ?_)
            go_simp
            refine (HAW.out w1 hBw).mono ?_
            rintro e w3 ⟨rfl, hb3⟩
            exact hK _ _ ⟨.bool true, fr_eq18 (by simp [upd, e15]), hb3, fun _ => rfl, fun o h => by cases h⟩
          · have e15 : v 15 = .bool true := hd 15 (List.contains_iff_mem.1 (by kernel_rfl)); have e16 : v 16 = .bool true := hd 16 (List.contains_iff_mem.1 (by kernel_rfl))
            refine wpOp_step (o := _) rfl (fun K' hK => ?_)
            go_simp
            exact hK _ _ ⟨.bool true, fr_eq18 (by simp [upd, e15, e16]), Below.refl _ _, (fun _ => rfl), fun o h => by cases h⟩
          · have e17 : v 17 = .bool true := hd 17 (List.contains_iff_mem.1 (by kernel_rfl))
            refine wpOp_step (o := _) rfl (fun K' hK => ?_)
            go_simp
            exact hK _ _ ⟨.bool true, fr_eq18 (by simp [upd, e17]), Below.refl _ _, (fun _ => rfl), fun o h => by cases h⟩
        · have HB4 := Lib.hid (bth HB0.out hb)
          have e0 : v 0 = .slice ao len cap := hv 0 (by decide)
          have e1 : v 1 = .int .i64 t := hv 1 (by decide)
          have e2 : v 2 = .pointer (some ⟨w.heap.size, 0, none⟩) := hv 2 (by decide)
          have e3 : v 3 = .agg #[.int .i64 a.kind, .string a.text, .bool a.neg, .int .u64 a.num] := hv 3 (by decide)
          have e4 : v 4 = .pointer (some ⟨w.heap.size, 4, none⟩) := hv 4 (by decide)
          have e5 : v 5 = .agg #[.int .i64 b.kind, .string b.text, .bool b.neg, .int .u64 b.num] := hv 5 (by decide)
          have e6 : v 6 = .agg #[.int .i64 dk, .bool dg, .int .u64 dn, .string dx] := hv 6 (by decide)
          have e7 : v 7 = .slice ao len cap := hv 7 (by decide)
          have e8 : v 8 = .int .i64 t := hv 8 (by decide)
          have e9 : v 9 = .pointer (some ⟨w.heap.size, 0, none⟩) := hv 9 (by decide)
          have e10 : v 10 = .agg #[.int .i64 a.kind, .string a.text, .bool a.neg, .int .u64 a.num] := hv 10 (by decide)
          have e11 : v 11 = .pointer (some ⟨w.heap.size, 4, none⟩) := hv 11 (by decide)
          have e12 : v 12 = .agg #[.int .i64 b.kind, .string b.text, .bool b.neg, .int .u64 b.num] := hv 12 (by decide)
          have e13 : v 13 = .agg #[.int .i64 dk, .bool dg, .int .u64 dn, .string dx] := hv 13 (by decide)
          have e14 : v 14 = .bool true := hv 14 (by decide)
          have e15 : v 15 = .bool true := hv 15 (by decide)
          have e16 : v 16 = .bool true := hv 16 (by decide)
          have e17 : v 17 = .bool true := hv 17 (by decide)
          have e18 : v 18 = .bool true := hv 18 (by decide)
          clear hv hdist hBx hb
          refine wpAny_of_held (S := fun _ => True) _ _ _ _ ?_
          simp only [e0, e1, e2, e3, e4, e5, e6, e7, e8, e9, e10, e11, e12, e13, e14, e15, e16, e17, e18]
          clear e0 e1 e2 e3 e4 e5 e6 e7 e8 e9 e10 e11 e12 e13 e14 e15 e16 e17 e18
          refine wpAnyH_done (by kernel_rfl) ?_ _
          go_wp2_with fail
          go_ret
          exact ⟨rfl, HB4.out⟩
end Go.Proofs.YtcojomkpogikiaaGreatDoor
