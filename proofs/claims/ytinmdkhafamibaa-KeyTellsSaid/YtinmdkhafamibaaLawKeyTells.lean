/- KeyTells: for every list of keys the law returns true, and its argument reads as before. No condition. -/
import Derived.Test.YtinmdkhafamibaaRdgSlice
import Derived.Test.YtinmdkhafamibaaKeyText
import Derived.Test.YtinmdkhafamibaaKeyGroups
import Derived.Test.YtinmdkhafamibaaKeyAwake
namespace Go.Proofs.Ytinmdkhafamibaa.keyTells
open Go.ChangeShapes Go.WideShapes Go.ChangeAt Go.RowKit
open Go.ChangeMaps (open_string shut_string)
set_option linter.unusedVariables false

section
variable {H : Type} {enc : TypeId × Value → H} {w : World}
theorem keys_of {v : Value} (h : v = .slice none 0 0 ∨ ∃ (a : Addr) (len cap : Nat), v = .slice (some a) len cap ∧ len ≤ cap ∧ cap ≤ maxLen ∧ cap * Try.prog.bytesOf 31 ≤ 140737488351232 ∧
      ∀ i, i < cap → ∃ c : List Value, w.cells? 0 (a.add (i * 17)) 17 = some c ∧ Rdg enc Try.prog w 31 c) :
    ∃ (ao : Option Addr) (len cap : Nat) (K : Nat → List UInt8), v = .slice ao len cap ∧ len ≤ 140737488351232 ∧ (∀ i, i < len → (K i).length = 17) ∧ ∀ i, i < len → KeyAt w ao i (K i) := by
  rcases h with rfl | ⟨a, len, cap, rfl, hl, hm, hby, hx⟩
  · exact ⟨none, 0, 0, fun _ => [], rfl, Nat.zero_le _, fun i hi => by omega, fun i hi => by omega⟩
  · have hq : ∀ i, i < len → ∃ p : List UInt8, p.length = 17 ∧ KeyAt w (some a) i p := by
      intro i hi
      obtain ⟨b, off, rfl, hc⟩ := slice_at (by omega) (by omega) hx
      obtain ⟨c, hcl, hat, hr⟩ := hc i (by omega)
      obtain ⟨K, hK, rfl⟩ := rdg_key hr
      refine ⟨K, hK, b, off, rfl, fun j v hj => ?_⟩
      have hj17 : j < 17 := by
        have := (List.getElem?_eq_some_iff.1 hj).1
        rw [Lib.byteCells_length, hK] at this; exact this
      rw [hat j hj17]; exact hj
    obtain ⟨K, hL⟩ := skolem hq
    refine ⟨some a, len, cap, K, rfl, ?_, fun i hi => (hL i hi).1, fun i hi => (hL i hi).2⟩
    have hz : Try.prog.bytesOf 31 = 17 := by kernel_rfl
    rw [hz] at hby
    omega
end

set_option maxRecDepth 100000 in
set_option maxHeartbeats 8000000 in
theorem walk (ao : Option Addr) (len cap : Nat) (K : Nat → List UInt8) (hm : len ≤ 140737488351232) (hK : ∀ i, i < len → (K i).length = 17) (w : World) (H : ∀ i, i < len → KeyAt w ao i (K i)) :
    Calls Try.prog 3 #[.slice ao len cap] w fun e w' => e = .returned (.bool true) ∧ Below w.heap.size w w' := by
  have HR := Lib.hid (Below.refl w.heap.size w)
  by_cases hbig : 200 < len
  · clear H hK
    go_enter Try.func3, Try.ntmps3
    go_wp2_with (go_at_call 5; refine (awake13_any _).mono ?_; rintro e w9 ⟨rfl, hb9⟩; have HB9 := Lib.hid (below_step8' HR.out hb9); clear hb9)
    go_ret
    exact ⟨rfl, HB9.out⟩
  · have hlen : len ≤ 200 := by omega
    have HH := Lib.hid (fun i (hi : i < len) wx (hb : Below w.heap.size w wx) => (H i hi).keep hb)
    have HKL := Lib.hid hK
    have HG1 := Lib.hid (fun wx (hb : Below w.heap.size w wx) => groups_any13 ao len cap K hlen hK wx (fun i hi => (H i hi).keep hb))
    have HG2 := Lib.hid (fun wx (hb : Below w.heap.size w wx) => refGroups_any ao len cap K hlen hK wx (fun i hi => (H i hi).keep hb))
    have hgl : (grpK K len).length ≤ len := by unfold grpK; rw [List.length_map]; exact fstK_len K len
    have hml : ∀ (j : Nat) (l : List Nat), (grpK K len)[j]? = some l → l.length ≤ 1000000 := fun j l hj => by
      unfold grpK at hj
      rw [List.getElem?_map] at hj
      obtain ⟨f, _, rfl⟩ := Option.map_eq_some_iff.1 hj
      have := memK_len K len f; omega
    obtain ⟨G, hG⟩ : ∃ G, grpK K len = G := ⟨_, rfl⟩
    rw [hG] at HG1 HG2 hgl hml
    obtain ⟨m, hmm⟩ : ∃ m, G.length = m := ⟨_, rfl⟩
    have HGL := Lib.hid hmm
    rw [hmm] at hgl
    have HML := Lib.hid hml
    clear H hK hG hmm hml
    go_enter Try.func3, Try.ntmps3
    go_wp2_with (first
      | (go_at_call 6; refine (HG1.out _ HR.out).mono ?_; rintro e w1 ⟨⟨v1, rfl, hg1⟩, hb1⟩; have HB1 := Lib.hid (below_step8' HR.out hb1); have HV1 := Lib.hid hg1; unfold GrpsAt at hg1; rw [HGL.out] at hg1; obtain ⟨a1, c1, rfl, hx1⟩ := hg1; clear hx1 hb1)
      | (go_at_call 7; refine (HG2.out _ HB1.out).mono ?_; rintro e w2 ⟨⟨v2, rfl, hg2⟩, hb2⟩; have HB2 := Lib.hid (below_step8' HB1.out hb2); have HV12 := Lib.hid (HV1.out.keep hb2); have HV2 := Lib.hid hg2; unfold GrpsAt at hg2; rw [HGL.out] at hg2; obtain ⟨a2, c2, rfl, hx2⟩ := hg2; clear hx2 hb2))
    go_loopw [5] (fun i wr => ∃ k : Nat, k ≤ m ∧ i = .int .i64 k ∧ Hid (Below w2.heap.size w2 wr)) (fun i _ => m - (intOf i).toNat)
    case atStart => exact ⟨0, Nat.zero_le _, rfl, Lib.hid (Below.refl _ _)⟩
    case round =>
      obtain ⟨k, hk, rfl, HBr⟩ := hrel
      by_cases hlt : k < m
      · obtain ⟨l, hl⟩ : ∃ l, G[k]? = some l := ⟨_, List.getElem?_eq_getElem (by rw [HGL.out]; exact hlt)⟩
        obtain ⟨ay1, ac1, e1, h1⟩ := HV12.out.keep HBr.out
        obtain ⟨b1, o1, u1, f1, c1', i1⟩ := h1 k l hl
        obtain ⟨ay2, ac2, e2, h2⟩ := HV2.out.keep HBr.out
        obtain ⟨b2, o2, u2, f2, c2', i2⟩ := h2 k l hl
        subst f1 f2
        obtain ⟨rfl, _⟩ : a1 = some ⟨b1, o1, none⟩ ∧ True := ⟨by injection e1, trivial⟩
        obtain ⟨rfl, _⟩ : a2 = some ⟨b2, o2, none⟩ ∧ True := ⟨by injection e2, trivial⟩
        have hll := HML.out k l hl
        have HC1 := Lib.hid c1'
        have HC2 := Lib.hid c2'
        have HSM := Lib.hid (fun wx (hb : Below wr.heap.size wr wx) => same_any l hll u1 u2 wx (i1.keep hb) (i2.keep hb))
        have HB0 := Lib.hid (Below.refl wr.heap.size wr)
        clear h1 h2 e1 e2 i1 i2 hl c1' c2'
        go_wp2
        go_region_held3 (fun w' => w'.cell? ⟨b1, o1 + k, none⟩ = some u1 ∧ w'.cell? ⟨b2, o2 + k, none⟩ = some u2 ∧ Hid (Below wr.heap.size wr w')) (first | exact ⟨HC1.out, HC2.out, Lib.hid HB0.out.drew⟩ | exact ⟨keep HB0.out HC1.out, keep HB0.out HC2.out, HB0⟩ | fail)
          (first
            | (go_at_call 8; refine (HSM.out _ (by first | exact HB0.out | exact HB0.out.drew)).mono ?_; rintro e w3 ⟨rfl, hb3⟩; have HB0 := Lib.hid (below_step8' (by first | exact HB0.out | exact HB0.out.drew) hb3); clear hb3))
        all_goals
          go_wp2
          go_roundw
          case rel => exact ⟨k + 1, by omega, by go_num, Lib.hid (below_step8' HBr.out HB0.out)⟩
          case measure => simp [intOf]; omega
      · obtain rfl : k = m := by omega
        have HBw := Lib.hid (below_step8' HB2.out HBr.out)
        go_wp2
        go_loopw [6] (fun i wr => ∃ k : Nat, k ≤ len ∧ i = .int .i64 k ∧ Hid (Below w.heap.size w wr)) (fun i _ => len - (intOf i).toNat)
        case atStart => exact ⟨0, Nat.zero_le _, rfl, HBw⟩
        case round =>
          obtain ⟨k, hk, rfl, HB⟩ := hrel
          by_cases hlt : k < len
          · obtain ⟨b, off, rfl, r1⟩ := HH.out k hlt wr HB.out
            have hkl := HKL.out k hlt
            have HRG := Lib.hid r1
            have HIN := Lib.hid (show (Try.prog.info? 31).map (·.size) = some (Lib.byteCells (K k)).length by rw [Lib.byteCells_length, hkl]; exact infoKey)
            have HBY := Lib.hid (fun wx => bytes_any13 (K k) hkl wx)
            have HBR := Lib.hid (fun wx => refBytes_any (K k) hkl wx)
            have HTX := Lib.hid (fun wx => text_any13 (K k) hkl wx)
            have HTR := Lib.hid (fun wx => refText_any13 (K k) hkl wx)
            obtain ⟨X, hX⟩ : ∃ X, kx (K k) = X := ⟨_, rfl⟩
            obtain ⟨Bo, hBo⟩ : ∃ X, kok (K k) = X := ⟨_, rfl⟩
            obtain ⟨Tx, hTx⟩ : ∃ X, ktx (K k) = X := ⟨_, rfl⟩
            rw [hX, hBo] at HBY HBR
            rw [hTx] at HTX HTR
            clear r1 hX hBo hTx
            go_wp2_with (first
              | (refine wpList_load_mid rfl 31 _ rfl b (off + k * 17) rfl (Lib.byteCells (K k)) _ HRG.out Try.underlying31 rfl HIN.out ?_)
              | (refine wpList_load_mid rfl 31 _ rfl b (off + k * 17) rfl (Lib.byteCells (K k)) _ HRG4.out Try.underlying31 rfl HIN.out ?_)
              | (go_at_call 9; refine (HBY.out _).mono ?_; rintro e w4 ⟨rfl, hb4⟩; have HB4 := Lib.hid (below_step8' HB.out hb4); have HRG4 := Lib.hid (range_keep HRG.out hb4); clear HRG hb4)
              | (go_at_call 10; refine (HBR.out _).mono ?_; rintro e w5 ⟨rfl, hb5⟩; have HB3 := Lib.hid (below_step8' HB4.out hb5); have HRG := Lib.hid (range_keep HRG4.out hb5); clear hb5))
            refine wp_region_held_drew (S := (fun w' => w'.rangeAt b (off + k * 17) (Lib.byteCells (K k)) ∧ Hid (Below w.heap.size w w'))) (by kernel_rfl) (⟨HRG.out, Lib.hid HB3.out.drew⟩) (fun hHeld => ?_)
            refine wpAnyH_take (i := 0) (oi := { dst := some 62, op := Op.move (Go.Operand.tmp 7), type := 9, pos := "law.go:62", after := #[], guard := none }) (v := ?_) rfl (by kernel_rfl) (by kernel_rfl) (by kernel_rfl) (fun _ _ _ h => h) (Or.inl ⟨by rfl, ?_⟩) hHeld ?_
            rotate_left 1
            · (intro wx hSw; obtain ⟨q0, q1⟩ := hSw; go_simp; try with_reducible rfl)
            try simp only [Act.put, List.setIfInBounds_toArray, List.set_cons_zero, List.set_cons_succ]
            refine wpAnyH_take (i := 1) (oi := { dst := some 63, op := Op.move (Go.Operand.tmp 9), type := 9, pos := "law.go:62", after := #[], guard := none }) (v := ?_) rfl (by kernel_rfl) (by kernel_rfl) (by kernel_rfl) (fun _ _ _ h => h) (Or.inl ⟨by rfl, ?_⟩) hHeld ?_
            rotate_left 1
            · (intro wx hSw; obtain ⟨q0, q1⟩ := hSw; go_simp; try with_reducible rfl)
            try simp only [Act.put, List.setIfInBounds_toArray, List.set_cons_zero, List.set_cons_succ]
            refine wpAnyH_take (i := 2) (oi := { dst := some 64, op := Op.binOp Go.BinOp.neq 9 (Go.Operand.tmp 62) (Go.Operand.tmp 63) 9, type := 4, pos := "law.go:62", after := #[{ on := 0, ground := Go.Ground.data }, { on := 1, ground := Go.Ground.data }], guard := none }) (v := ?_) rfl (by kernel_rfl) (by kernel_rfl) (by kernel_rfl) (fun _ _ _ h => h) (Or.inl ⟨by rfl, ?_⟩) hHeld ?_
            rotate_left 1
            · (intro wx hSw; obtain ⟨q0, q1⟩ := hSw; go_simp; try with_reducible rfl)
            try simp only [Act.put, List.setIfInBounds_toArray, List.set_cons_zero, List.set_cons_succ]
            refine wpAnyH_take (i := 3) (oi := { dst := some 65, op := Op.move (Go.Operand.tmp 64), type := 4, pos := "law.go:62", after := #[{ on := 2, ground := Go.Ground.data }], guard := none }) (v := ?_) rfl (by kernel_rfl) (by kernel_rfl) (by kernel_rfl) (fun _ _ _ h => h) (Or.inl ⟨by rfl, ?_⟩) hHeld ?_
            rotate_left 1
            · (intro wx hSw; obtain ⟨q0, q1⟩ := hSw; go_simp; try with_reducible rfl)
            try simp only [Act.put, List.setIfInBounds_toArray, List.set_cons_zero, List.set_cons_succ]
            refine wpAnyH_take (i := 4) (oi := { dst := some 66, op := Op.move (Go.Operand.tmp 8), type := 4, pos := "law.go:62", after := #[{ on := 3, ground := Go.Ground.guard }], guard := some (3, false) }) (v := ?_) rfl (by kernel_rfl) (by kernel_rfl) (by kernel_rfl) (fun _ _ _ h => h) (Or.inl ⟨by rfl, ?_⟩) hHeld ?_
            rotate_left 1
            · (intro wx hSw; obtain ⟨q0, q1⟩ := hSw; go_simp; try with_reducible rfl)
            try simp only [Act.put, List.setIfInBounds_toArray, List.set_cons_zero, List.set_cons_succ]
            refine wpAnyH_take (i := 5) (oi := { dst := some 67, op := Op.move (Go.Operand.tmp 10), type := 4, pos := "law.go:62", after := #[{ on := 3, ground := Go.Ground.guard }], guard := some (3, false) }) (v := ?_) rfl (by kernel_rfl) (by kernel_rfl) (by kernel_rfl) (fun _ _ _ h => h) (Or.inl ⟨by rfl, ?_⟩) hHeld ?_
            rotate_left 1
            · (intro wx hSw; obtain ⟨q0, q1⟩ := hSw; go_simp; try with_reducible rfl)
            try simp only [Act.put, List.setIfInBounds_toArray, List.set_cons_zero, List.set_cons_succ]
            refine wpAnyH_take (i := 6) (oi := { dst := some 68, op := Op.binOp Go.BinOp.neq 4 (Go.Operand.tmp 66) (Go.Operand.tmp 67) 4, type := 4, pos := "law.go:62", after := #[{ on := 4, ground := Go.Ground.data }, { on := 5, ground := Go.Ground.data }, { on := 3, ground := Go.Ground.guard }], guard := some (3, false) }) (v := ?_) rfl (by kernel_rfl) (by kernel_rfl) (by kernel_rfl) (fun _ _ _ h => h) (Or.inl ⟨by rfl, ?_⟩) hHeld ?_
            rotate_left 1
            · (intro wx hSw; obtain ⟨q0, q1⟩ := hSw; go_simp; try with_reducible rfl)
            try simp only [Act.put, List.setIfInBounds_toArray, List.set_cons_zero, List.set_cons_succ]
            refine wpAnyH_take (i := 7) (oi := { dst := some 69, op := Op.pick (Go.Operand.tmp 65) (Go.Operand.const (Go.Value.bool true)) (Go.Operand.tmp 68), type := 4, pos := "law.go:62", after := #[{ on := 3, ground := Go.Ground.data }, { on := 6, ground := Go.Ground.data }], guard := none }) (v := ?_) rfl (by kernel_rfl) (by kernel_rfl) (by kernel_rfl) (fun _ _ _ h => h) (Or.inl ⟨by rfl, ?_⟩) hHeld ?_
            rotate_left 1
            · (intro wx hSw; obtain ⟨q0, q1⟩ := hSw; go_simp; try with_reducible rfl)
            try simp only [Act.put, List.setIfInBounds_toArray, List.set_cons_zero, List.set_cons_succ]
            refine wpAnyH_take (i := 8) (oi := { dst := some 70, op := Op.move (Go.Operand.tmp 69), type := 4, pos := "law.go:62", after := #[{ on := 7, ground := Go.Ground.data }, { on := 3, ground := Go.Ground.chain }], guard := none }) (v := ?_) rfl (by kernel_rfl) (by kernel_rfl) (by kernel_rfl) (fun _ _ _ h => h) (Or.inl ⟨by rfl, ?_⟩) hHeld ?_
            rotate_left 1
            · (intro wx hSw; obtain ⟨q0, q1⟩ := hSw; go_simp; try with_reducible rfl)
            try simp only [Act.put, List.setIfInBounds_toArray, List.set_cons_zero, List.set_cons_succ]
            refine wpAnyH_take (i := 9) (oi := { dst := some 71, op := Op.move (Go.Operand.tmp 0), type := 22, pos := "law.go:62", after := #[{ on := 8, ground := Go.Ground.guard }], guard := some (8, false) }) (v := ?_) rfl (by kernel_rfl) (by kernel_rfl) (by kernel_rfl) (fun _ _ _ h => h) (Or.inl ⟨by rfl, ?_⟩) hHeld ?_
            rotate_left 1
            · (intro wx hSw; obtain ⟨q0, q1⟩ := hSw; go_simp; try with_reducible rfl)
            try simp only [Act.put, List.setIfInBounds_toArray, List.set_cons_zero, List.set_cons_succ]
            refine wpAnyH_take (i := 10) (oi := { dst := some 72, op := Op.move (Go.Operand.tmp 6), type := 3, pos := "law.go:62", after := #[{ on := 8, ground := Go.Ground.guard }], guard := some (8, false) }) (v := ?_) rfl (by kernel_rfl) (by kernel_rfl) (by kernel_rfl) (fun _ _ _ h => h) (Or.inl ⟨by rfl, ?_⟩) hHeld ?_
            rotate_left 1
            · (intro wx hSw; obtain ⟨q0, q1⟩ := hSw; go_simp; try with_reducible rfl)
            try simp only [Act.put, List.setIfInBounds_toArray, List.set_cons_zero, List.set_cons_succ]
            refine wpAnyH_take (i := 11) (oi := { dst := some 73, op := Op.indexAddr 22 (Go.Operand.tmp 71) (Go.Operand.tmp 72), type := 0, pos := "law.go:62", after := #[{ on := 9, ground := Go.Ground.data }, { on := 10, ground := Go.Ground.data }, { on := 8, ground := Go.Ground.guard }], guard := some (8, false) }) (v := ?_) rfl (by kernel_rfl) (by kernel_rfl) (by kernel_rfl) (fun _ _ _ h => h) (Or.inl ⟨by rfl, ?_⟩) hHeld ?_
            rotate_left 1
            · (intro wx hSw; obtain ⟨q0, q1⟩ := hSw; go_simp; try with_reducible rfl)
            try simp only [Act.put, List.setIfInBounds_toArray, List.set_cons_zero, List.set_cons_succ]
            refine wpAnyH_take (i := 12) (oi := { dst := some 74, op := Op.load 31 (Go.Operand.tmp 73), type := 31, pos := "law.go:62", after := #[{ on := 11, ground := Go.Ground.data }, { on := 8, ground := Go.Ground.guard }], guard := some (8, false) }) (v := .agg (Lib.byteCells (K k)).toArray) rfl (by kernel_rfl) (by kernel_rfl) (by kernel_rfl) (fun _ _ _ h => h) (yieldsIf_load_mid (by rfl) _ _ rfl b (off + k * 17) rfl (Lib.byteCells (K k)) _ (fun wx hw => hw.1) Try.underlying31 rfl HIN.out) hHeld ?_
            try simp only [Act.put, List.setIfInBounds_toArray, List.set_cons_zero, List.set_cons_succ]
            refine wpAnyH_take (i := 14) (oi := { dst := some 76, op := Op.move (Go.Operand.tmp 0), type := 22, pos := "law.go:62", after := #[{ on := 8, ground := Go.Ground.guard }], guard := some (8, false) }) (v := ?_) rfl (by kernel_rfl) (by kernel_rfl) (by kernel_rfl) (fun _ _ _ h => h) (Or.inl ⟨by rfl, ?_⟩) hHeld ?_
            rotate_left 1
            · (intro wx hSw; obtain ⟨q0, q1⟩ := hSw; go_simp; try with_reducible rfl)
            try simp only [Act.put, List.setIfInBounds_toArray, List.set_cons_zero, List.set_cons_succ]
            refine wpAnyH_take (i := 15) (oi := { dst := some 77, op := Op.move (Go.Operand.tmp 6), type := 3, pos := "law.go:62", after := #[{ on := 8, ground := Go.Ground.guard }], guard := some (8, false) }) (v := ?_) rfl (by kernel_rfl) (by kernel_rfl) (by kernel_rfl) (fun _ _ _ h => h) (Or.inl ⟨by rfl, ?_⟩) hHeld ?_
            rotate_left 1
            · (intro wx hSw; obtain ⟨q0, q1⟩ := hSw; go_simp; try with_reducible rfl)
            try simp only [Act.put, List.setIfInBounds_toArray, List.set_cons_zero, List.set_cons_succ]
            refine wpAnyH_take (i := 16) (oi := { dst := some 78, op := Op.indexAddr 22 (Go.Operand.tmp 76) (Go.Operand.tmp 77), type := 0, pos := "law.go:62", after := #[{ on := 14, ground := Go.Ground.data }, { on := 15, ground := Go.Ground.data }, { on := 8, ground := Go.Ground.guard }], guard := some (8, false) }) (v := ?_) rfl (by kernel_rfl) (by kernel_rfl) (by kernel_rfl) (fun _ _ _ h => h) (Or.inl ⟨by rfl, ?_⟩) hHeld ?_
            rotate_left 1
            · (intro wx hSw; obtain ⟨q0, q1⟩ := hSw; go_simp; try with_reducible rfl)
            try simp only [Act.put, List.setIfInBounds_toArray, List.set_cons_zero, List.set_cons_succ]
            refine wpAnyH_take (i := 17) (oi := { dst := some 79, op := Op.load 31 (Go.Operand.tmp 78), type := 31, pos := "law.go:62", after := #[{ on := 16, ground := Go.Ground.data }, { on := 8, ground := Go.Ground.guard }], guard := some (8, false) }) (v := .agg (Lib.byteCells (K k)).toArray) rfl (by kernel_rfl) (by kernel_rfl) (by kernel_rfl) (fun _ _ _ h => h) (yieldsIf_load_mid (by rfl) _ _ rfl b (off + k * 17) rfl (Lib.byteCells (K k)) _ (fun wx hw => hw.1) Try.underlying31 rfl HIN.out) hHeld ?_
            try simp only [Act.put, List.setIfInBounds_toArray, List.set_cons_zero, List.set_cons_succ]
            refine wpAnyH_ready (rs := [13]) (by kernel_rfl) (by simp) ?_
            refine AllReadyH.cons (o := { dst := some 75, op := Op.call { callee := Go.Callee.value (Go.Operand.func 11), args := #[Go.Operand.tmp 74], argTypes := #[31] }, type := 9, pos := "law.go:62", after := #[{ on := 12, ground := Go.Ground.data }, { on := 8, ground := Go.Ground.chain }, { on := 8, ground := Go.Ground.guard }], guard := some (8, false) }) rfl (fun K0 hK0 => ?_) AllReadyH.nil
            go_simp
            (go_at_call 11; refine (HTX.out _).mono ?_; rintro e w3 ⟨rfl, hb3⟩)
            refine hK0.out _ _ (⟨range_keep hHeld.1 hb3, Lib.hid (below_step8' hHeld.2.out hb3)⟩) (fun hHeld => ?_)
            clear hK0 K0
            try simp only [Act.put, List.setIfInBounds_toArray, List.set_cons_zero, List.set_cons_succ]
            refine wpAnyH_ready (rs := [18]) (by kernel_rfl) (by simp) ?_
            refine AllReadyH.cons (o := { dst := some 80, op := Op.call { callee := Go.Callee.value (Go.Operand.func 12), args := #[Go.Operand.tmp 79], argTypes := #[31] }, type := 9, pos := "law.go:62", after := #[{ on := 17, ground := Go.Ground.data }, { on := 13, ground := Go.Ground.chain }, { on := 8, ground := Go.Ground.guard }], guard := some (8, false) }) rfl (fun K0 hK0 => ?_) AllReadyH.nil
            go_simp
            (go_at_call 12; refine (HTR.out _).mono ?_; rintro e w3 ⟨rfl, hb3⟩)
            refine hK0.out _ _ (⟨range_keep hHeld.1 hb3, Lib.hid (below_step8' hHeld.2.out hb3)⟩) (fun hHeld => ?_)
            clear hK0 K0
            try simp only [Act.put, List.setIfInBounds_toArray, List.set_cons_zero, List.set_cons_succ]
            refine wpAnyH_take (i := 19) (oi := { dst := some 81, op := Op.binOp Go.BinOp.neq 9 (Go.Operand.tmp 75) (Go.Operand.tmp 80) 9, type := 4, pos := "law.go:62", after := #[{ on := 13, ground := Go.Ground.data }, { on := 18, ground := Go.Ground.data }, { on := 8, ground := Go.Ground.guard }], guard := some (8, false) }) (v := ?_) rfl (by kernel_rfl) (by kernel_rfl) (by kernel_rfl) (fun _ _ _ h => h) (Or.inl ⟨by rfl, ?_⟩) hHeld ?_
            rotate_left 1
            · (intro wx hSw; obtain ⟨q0, q1⟩ := hSw; go_simp; try with_reducible rfl)
            try simp only [Act.put, List.setIfInBounds_toArray, List.set_cons_zero, List.set_cons_succ]
            refine wpAnyH_take (i := 20) (oi := { dst := some 82, op := Op.pick (Go.Operand.tmp 70) (Go.Operand.const (Go.Value.bool true)) (Go.Operand.tmp 81), type := 4, pos := "law.go:62", after := #[{ on := 8, ground := Go.Ground.data }, { on := 19, ground := Go.Ground.data }], guard := none }) (v := ?_) rfl (by kernel_rfl) (by kernel_rfl) (by kernel_rfl) (fun _ _ _ h => h) (Or.inl ⟨by rfl, ?_⟩) hHeld ?_
            rotate_left 1
            · (intro wx hSw; obtain ⟨q0, q1⟩ := hSw; go_simp; try with_reducible rfl)
            try simp only [Act.put, List.setIfInBounds_toArray, List.set_cons_zero, List.set_cons_succ]
            refine wpAnyH_done (by kernel_rfl) ?_ _
            go_wp2
            go_roundw
            case rel => exact ⟨k + 1, by omega, by go_num, hHeld.2⟩
            case measure => simp [intOf]; omega
          · obtain rfl : k = len := by omega
            go_wp2_with (go_at_call 5; refine (awake13_any _).mono ?_; rintro e w9 ⟨rfl, hb9⟩; have HB9 := Lib.hid (below_step8' HB.out hb9); clear hb9)
            go_ret
            exact ⟨rfl, HB9.out⟩
set_option maxRecDepth 100000 in
theorem lifted (os : Os) (started : os.Started) (H : Type) (enc : TypeId × Value → H) :
    ReturnsInHanded {} Try.checked os 3 .any (Rows.keyTellsSpec.pre6 enc Try.prog Try.f3 Rows.keyTellsRow.domain false) (Rows.keyTellsSpec.post enc Try.prog Try.f3 false true false false) := by
  refine returnsInHanded_of_change_sized (C := Try.checked) own started (by kernel_rfl) Try.func3
    (ChangeSpec.witness6 (enc := enc) (C := Try.checked) false ⟨#[], #[.slice none 0 0], []⟩ 8 (by kernel_rfl) (by kernel_rfl) (by kernel_rfl) (by kernel_rfl)) ?_
  intro W base args ds gs before hval0 hW hcnd hsz _
  have hval : ∀ (j : Nat) t v, Try.f3.params[j]? = some t → args[j]? = some v → Value.okWide Try.prog W .any base t v := hval0
  have hW' := hW
  obtain ⟨p, q, hA0, hV, rfl, hfz, hnd⟩ := hW
  have hA : DataW.TrodAll enc Try.prog W 0 (fun _ => true) true Try.f3.params.toList args.toList ds p := hA0
  rw [Try.params3] at hA hval
  obtain ⟨rfl, rfl⟩ := trodVars_none hV
  clear hA0 hval0
  simp only [List.append_nil] at hW'
  have hlt := hW'.lt
  have hA1 := hA
  have hsz1 : (DataW.weightsEach Try.prog (Try.f3.params.toList ++ []) (ds ++ [])).all (· ≤ reachBytes) = true := hsz
  rw [Try.params3, List.append_nil, List.append_nil] at hsz1
  have hrd := rdg_all _ _ _ _ hA1 (fun n hn => by simpa using List.all_eq_true.1 hsz1 n hn)
  obtain ⟨v0, vs0, d0, ds0, p0, q0, hargs, rfl, rfl, h0, r0⟩ := trodAll_cons hA
  obtain ⟨rfl, rfl, rfl⟩ := trodAll_nil r0
  obtain rfl : args = #[v0] := by cases args; simp_all

  obtain ⟨ao, len, cap, K, rfl, hm, hK, H⟩ := keys_of (rop_slice 17 Try.underlying22 (by kernel_rfl) (hval 0 22 v0 rfl rfl) (hrd 0 22 v0 rfl rfl))
  refine (walk ao len cap K hm hK W H).mono fun e W' ⟨he, bel⟩ => ?_
  subst he
  exact ⟨_, rfl, _, _, _, [], _, [], hW', trodAll_mk1 (shut_bool Try.underlying4 _), trodAll_below laidOut bel [22] _ _ _ (by kernel_rfl) hA1 hlt, rfl, bel.frame _, fun h => by cases h⟩
theorem over : Rows.keyTellsRow.holds Try.pinned (OpenSpec.ofChange Rows.keyTellsSpec) :=
  OpenClaim.holds_of_wide 3 Try.f3 rfl rfl rfl rfl rfl rfl rfl ⟨rfl, rfl, rfl, rfl, rfl⟩ rfl rfl rfl rfl rfl (by kernel_rfl) Try.func3 (by kernel_rfl)
    (of_decide_eq_true (by kernel_rfl)) (by unfold Func.isWrapper; first | (rw [if_pos (by decide +kernel)]; kernel_rfl) | (rw [if_neg (by decide +kernel)]; exact ⟨rfl, rfl⟩))
    (fun os started H enc _ => lifted os started H enc)
theorem proved : Rows.KeyTellsSaid := over
#print axioms proved
end Go.Proofs.Ytinmdkhafamibaa.keyTells
