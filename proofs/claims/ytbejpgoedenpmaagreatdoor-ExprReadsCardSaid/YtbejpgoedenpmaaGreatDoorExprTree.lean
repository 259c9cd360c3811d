/- Trees that come in: how deep, how great; Deep, Size and Great, of the code and of the reference. -/
import Derived.Test.YtbejpgoedenpmaaGreatDoorExprAt
import Derived.Lib.Hide
import Derived.OwnWalk
import Derived.LoopN
namespace Go.Proofs.YtbejpgoedenpmaaGreatDoor
open Go.RowKit
set_option linter.unusedVariables false
def maxTo (f : Nat → Nat) : Nat → Nat | 0 => 0 | n + 1 => max (maxTo f n) (f n)
def anyTo (f : Nat → Bool) : Nat → Bool | 0 => false | n + 1 => anyTo f n || f n
theorem max_succ (f : Nat → Nat) (j : Nat) : maxTo f (j + 1) = max (maxTo f j) (f j) := rfl
theorem maxTo_ge {f : Nat → Nat} : ∀ {n i : Nat}, i < n → f i ≤ maxTo f n
  | n + 1, i, hi => by
    rw [maxTo]
    rcases Nat.lt_succ_iff_lt_or_eq.1 hi with h | rfl
    · have := maxTo_ge (f := f) h; omega
    · omega
theorem maxTo_le {f : Nat → Nat} {m : Nat} : ∀ n, (∀ i, i < n → f i ≤ m) → maxTo f n ≤ m
  | 0, _ => Nat.zero_le _
  | n + 1, h => by have := maxTo_le n (fun i hi => h i (by omega)); have := h n (by omega); rw [maxTo]; omega
theorem anyTo_iff {f : Nat → Bool} : ∀ n, anyTo f n = true ↔ ∃ i, i < n ∧ f i = true
  | 0 => by simp [anyTo]
  | n + 1 => by
    rw [anyTo, Bool.or_eq_true, anyTo_iff n]
    constructor
    · rintro (⟨i, hi, h⟩ | h)
      · exact ⟨i, by omega, h⟩
      · exact ⟨n, by omega, h⟩
    · rintro ⟨i, hi, h⟩
      rcases Nat.lt_succ_iff_lt_or_eq.1 hi with h' | rfl
      · exact .inl ⟨i, h', h⟩
      · exact .inr h
theorem anyTo_false {f : Nat → Bool} {n : Nat} (h : anyTo f n = false) (i : Nat) (hi : i < n) : f i = false := by
  cases hx : f i with
  | false => rfl
  | true => rw [(anyTo_iff n).2 ⟨i, hi, hx⟩] at h; cases h
theorem anyTo_none {f : Nat → Bool} : ∀ {n : Nat}, (∀ i, i < n → f i = false) → anyTo f n = false
  | 0, _ => rfl
  | n + 1, h => by rw [anyTo, anyTo_none (fun i hi => h i (by omega)), h n (by omega)]; rfl
/-- how deep -/
def deepX : XT → Nat
  | .nil => 1
  | .node _ _ _ _ _ _ _ m _ f => 1 + maxTo (fun i => deepX (f i)) m
theorem deepX_eq (T : XT) : deepX T = 1 + maxTo (fun i => deepX (T.kid i)) T.kn := by cases T <;> rfl
/-- a sum of numbers that wrap round -/
def sumW (a : Int) (f : Nat → Int) : Nat → Int | 0 => a | n + 1 => wrap64 (sumW a f n + f n)
/-- how great -/
def sizeX : XT → Int
  | .nil => 1
  | .node _ _ _ n _ _ _ m _ f => sumW (1 + (n : Int)) (fun i => sizeX (f i)) m
theorem sizeX_eq (T : XT) : sizeX T = sumW (1 + (T.an : Int)) (fun i => sizeX (T.kid i)) T.kn := by cases T <;> rfl
/-- texts' bytes, up to a bound -/
def minA (f : Nat → Nat) : Nat → Nat | 0 => 0 | n + 1 => min (minA f n + f n) 100000
theorem minA_le (f : Nat → Nat) : ∀ n, minA f n ≤ 100000
  | 0 => Nat.zero_le _
  | n + 1 => Nat.min_le_right _ _
def minK (a : Int) (f : Nat → Int) : Nat → Int | 0 => a | n + 1 => min (wrap64 (minK a f n + f n)) 100000
/-- too great, or too deep, to be asked -/
def greatX : XT → Nat → Bool
  | .nil, d => decide (40 < d)
  | .node _ _ _ n _ g _ m _ f, d => decide (40 < d) || decide (100 < m) || decide (100 < n) || anyTo (fun i => greatX (f i) (d + 1)) m || decide ((3000 : Int) < minK (minA (fun i => (g i).text.size) n : Nat) (fun i => sizeX (f i)) m)
theorem greatX_eq (T : XT) (d : Nat) : greatX T d = (decide (40 < d) || decide (100 < T.kn) || decide (100 < T.an) || anyTo (fun i => greatX (T.kid i) (d + 1)) T.kn || decide ((3000 : Int) < minK (minA (fun i => (T.arg i).text.size) T.an : Nat) (fun i => sizeX (T.kid i)) T.kn)) := by
  cases T with
  | nil => simp [greatX, XT.kn, XT.an, anyTo, minK, minA]
  | node => rfl
theorem great_deep : ∀ (T : XT) (d : Nat), greatX T d = false → deepX T + d ≤ 41 := by
  refine XT.ind fun T ih d h => ?_
  rw [greatX_eq] at h
  simp only [Bool.or_eq_false_iff, decide_eq_false_iff_not, Nat.not_lt] at h
  obtain ⟨⟨⟨⟨h1, h2⟩, h3⟩, h4⟩, h5⟩ := h
  rw [deepX_eq]
  have := maxTo_le (f := fun i => deepX (T.kid i)) (m := 40 - d) T.kn (fun i hi => by
    have := ih i hi _ (anyTo_false h4 i hi)
    show deepX (T.kid i) ≤ _
    omega)
  omega
theorem kid_deepX {T : XT} {i : Nat} (hi : i < T.kn) : deepX (T.kid i) < deepX T := by
  rw [deepX_eq T]; have : deepX (T.kid i) ≤ _ := maxTo_ge (f := fun i => deepX (T.kid i)) hi; omega
/-- its texts fit into memory -/
def XTx : XT → Prop
  | .nil => True
  | .node _ _ _ n _ g _ m _ f => (∀ i, i < n → (g i).text.size ≤ 140737488351232) ∧ ∀ i, i < m → XTx (f i)
theorem xtx_iff (T : XT) : XTx T ↔ (∀ i, i < T.an → (T.arg i).text.size ≤ 140737488351232) ∧ ∀ i, i < T.kn → XTx (T.kid i) := by
  cases T with
  | nil => exact ⟨fun _ => ⟨fun i hi => absurd hi (Nat.not_lt_zero i), fun i hi => absurd hi (Nat.not_lt_zero i)⟩, fun _ => trivial⟩
  | node => exact Iff.rfl
theorem ret_i8 {k : IntKind} {a b : Int} (h : a = b) : Ending.returned (.int k a) = .returned (.int k b) := by rw [h]
theorem bth {w a b : World} (h : Below w.heap.size w a) (k : Below a.heap.size a b) : Below w.heap.size w b := h.trans (k.mono h.size)
theorem kid_at {w : World} {S : Nat → Prop} {T : XT} (H : XAt w S T) {wx : World} (hb : Below w.heap.size w wx) {i : Nat} (hi : i < T.kn) : CellsAt wx S T.ka i (xtC (T.kid i)) ∧ XAt wx S (T.kid i) := by
  have h := ((xat_iff T).1 H).2.2 i hi
  exact ⟨h.1.next hb, h.2.next hb⟩
def RDeepTo (T : XT) (w : World) : Prop := Calls Tryz.prog 12 #[.agg #[.int .i64 T.op, .int .i64 T.rel, .slice T.aa T.an T.ac, .slice T.ka T.kn T.kc]] w fun e w' => e = .returned (.int .i64 (deepX T : Nat)) ∧ Below w.heap.size w w'
set_option maxHeartbeats 2000000 in
theorem refDeep_any (S : Nat → Prop) : ∀ (T : XT) (w : World), XAt w S T → deepX T ≤ 1000000 → RDeepTo T w := by
  refine XT.ind fun T ih w H hd => ?_
  have HI := Lib.hid (fun i (hi : i < T.kn) wx (hb : Below w.heap.size w wx) => ih i hi wx (kid_at H hb hi).2 (Nat.le_trans (Nat.le_of_lt (kid_deepX hi)) hd))
  have HC := Lib.hid (fun i (hi : i < T.kn) wx (hb : Below w.heap.size w wx) => (kid_at H hb hi).1)
  have hlen := xt_kn H
  have HD := Lib.hid (deepX_eq T)
  have HK := Lib.hid (fun i (hi : i < T.kn) => Nat.le_trans (Nat.le_of_lt (kid_deepX hi)) hd)
  obtain ⟨F, hF⟩ : ∃ F : Nat → Nat, F = fun i => deepX (T.kid i) := ⟨_, rfl⟩
  have HF := Lib.hid hF
  clear ih H hF
  unfold RDeepTo
  go_enter Tryz.func12, Tryz.ntmps12
  go_wp2
  go_loopw [3, 4] (fun n i wr => ∃ (j m : Nat), j ≤ T.kn ∧ i = .int .i64 j ∧ n = .int .i64 m ∧ Hid (m = 1 + maxTo F j) ∧ m ≤ 1000001 ∧ Hid (wr.heap[w.heap.size]? = some (.cells #[.int .i64 T.op, .int .i64 T.rel, .slice T.aa T.an T.ac, .slice T.ka T.kn T.kc] 25)) ∧ Hid (Below w.heap.size w wr)) (fun _ i _ => T.kn - (intOf i).toNat)
  case atStart => exact ⟨0, 1, Nat.zero_le _, rfl, rfl, Lib.hid rfl, by omega, Lib.hid (alloc_at w _), Lib.hid ((Below.refl _ _).alloc (Nat.le_refl _) _)⟩
  case round =>
    obtain ⟨j, m, hj, rfl, rfl, HM, hm, HQ, HBr⟩ := hrel
    by_cases hlt : j < T.kn
    · obtain ⟨b, off, hia, _, hbl, hla⟩ := HC.out j hlt wr HBr.out
      have c0 : wr.cell? ⟨b, off + j * 4, none⟩ = some (.int .i64 (T.kid j).op) := hla 0 _ rfl
      have c1 : wr.cell? ⟨b, off + j * 4 + 1, none⟩ = some (.int .i64 (T.kid j).rel) := hla 1 _ rfl
      have c2 : wr.cell? ⟨b, off + j * 4 + 2, none⟩ = some (.slice (T.kid j).aa (T.kid j).an (T.kid j).ac) := hla 2 _ rfl
      have c3 : wr.cell? ⟨b, off + j * 4 + 3, none⟩ = some (.slice (T.kid j).ka (T.kid j).kn (T.kid j).kc) := hla 3 _ rfl
      have HN := Lib.hid (HI.out j hlt)
      have hk := HK.out j hlt
      obtain ⟨d, hdd⟩ : ∃ d, deepX (T.kid j) = d := ⟨_, rfl⟩
      unfold RDeepTo at HN
      rw [hdd] at HN hk
      have HX := Lib.hid (show maxTo F (j + 1) = max (maxTo F j) d by rw [max_succ, HF.out, ← hdd])
      have HIA := Lib.hid hia
      have d3 : wr.cell? ⟨w.heap.size, 3, none⟩ = some (.slice (some ⟨b, off, none⟩) T.kn T.kc) := by rw [← hia]; exact cell_at HQ.out rfl
      clear hia
      clear hdd hla
      go_wp2_with (go_at_call 12; refine (HN.out _ HBr.out).mono ?_; rintro e w2 ⟨rfl, hb2⟩)
      · have HQ2 := Lib.hid (rowKeep hb2 HQ.out)
        have HB2 := Lib.hid (HBr.out.trans (hb2.mono HBr.out.size))
        have hgt : (m : Int) < (d : Int) + 1 := by assumption
        go_roundw
        case rel => exact ⟨j + 1, d + 1, by omega, by go_num, by go_num, Lib.hid (by rw [HX.out]; have := HM.out; omega), by omega, HQ2, HB2⟩
        case measure => simp [intOf]; omega
      · have HQ2 := Lib.hid (rowKeep hb2 HQ.out)
        have HB2 := Lib.hid (HBr.out.trans (hb2.mono HBr.out.size))
        have hgt : (d : Int) + 1 ≤ (m : Int) := by assumption
        go_roundw
        case rel => exact ⟨j + 1, m, by omega, by go_num, rfl, Lib.hid (by rw [HX.out]; have := HM.out; omega), hm, HQ2, HB2⟩
        case measure => simp [intOf]; omega
    · obtain rfl : j = T.kn := by omega
      have d3 : wr.cell? ⟨w.heap.size, 3, none⟩ = some (.slice T.ka T.kn T.kc) := cell_at HQ.out rfl
      go_wp2
      go_ret
      exact ⟨ret_i8 (by rw [HD.out, HM.out, HF.out]), HBr.out⟩
def CDeepTo (T : XT) (w : World) : Prop := Calls Tryz.prog 11 #[.agg #[.int .i64 T.op, .int .i64 T.rel, .slice T.aa T.an T.ac, .slice T.ka T.kn T.kc]] w fun e w' => e = .returned (.int .i64 (deepX T : Nat)) ∧ Below w.heap.size w w'
set_option maxHeartbeats 2000000 in
theorem deep_any (S : Nat → Prop) : ∀ (T : XT) (w : World), XAt w S T → deepX T ≤ 1000000 → CDeepTo T w := by
  refine XT.ind fun T ih w H hd => ?_
  have HC := Lib.hid (fun i (hi : i < T.kn) wx (hb : Below w.heap.size w wx) => (kid_at H hb hi).1)
  have hlen := xt_kn H
  have hlan := xt_an H
  have HI := Lib.hid (fun i (hi : i < T.kn) wx (hb : Below w.heap.size w wx) => ih i hi wx (kid_at H hb hi).2 (Nat.le_trans (Nat.le_of_lt (kid_deepX hi)) hd))
  have HD := Lib.hid (deepX_eq T)
  have HK := Lib.hid (fun i (hi : i < T.kn) => Nat.le_trans (Nat.le_of_lt (kid_deepX hi)) hd)
  obtain ⟨F, hF⟩ : ∃ F : Nat → Nat, F = fun i => deepX (T.kid i) := ⟨_, rfl⟩
  have HF := Lib.hid hF
  obtain ⟨ao, hao⟩ : ∃ a, T.ka = a := ⟨_, rfl⟩
  have HAO := Lib.hid hao
  clear ih H hF
  unfold CDeepTo
  rw [hao]
  clear hao
  go_enter Tryz.func11, Tryz.ntmps11
  go_wp2
  go_loopw [3, 9] (fun n i wr => ∃ (j m : Nat), j ≤ T.kn ∧ i = .int .i64 j ∧ n = .int .i64 m ∧ Hid (m = maxTo F j) ∧ m ≤ 1000000 ∧ Hid (Below w.heap.size w wr)) (fun _ i _ => T.kn - (intOf i).toNat)
  case atStart => exact ⟨0, 0, Nat.zero_le _, rfl, rfl, Lib.hid rfl, by omega, Lib.hid ((Below.refl _ _).alloc (Nat.le_refl _) _)⟩
  case round =>
    obtain ⟨j, m, hj, rfl, rfl, HM, hm, HBr⟩ := hrel
    by_cases hlt : j < T.kn
    · obtain ⟨b, off, hia, _, hbl, hla⟩ := HC.out j hlt wr HBr.out
      obtain rfl : ao = some ⟨b, off, none⟩ := HAO.out.symm.trans hia
      have c0 : wr.cell? ⟨b, off + j * 4, none⟩ = some (.int .i64 (T.kid j).op) := hla 0 _ rfl
      have c1 : wr.cell? ⟨b, off + j * 4 + 1, none⟩ = some (.int .i64 (T.kid j).rel) := hla 1 _ rfl
      have c2 : wr.cell? ⟨b, off + j * 4 + 2, none⟩ = some (.slice (T.kid j).aa (T.kid j).an (T.kid j).ac) := hla 2 _ rfl
      have c3 : wr.cell? ⟨b, off + j * 4 + 3, none⟩ = some (.slice (T.kid j).ka (T.kid j).kn (T.kid j).kc) := hla 3 _ rfl
      have HN := Lib.hid (HI.out j hlt)
      have hk := HK.out j hlt
      obtain ⟨d, hdd⟩ : ∃ d, deepX (T.kid j) = d := ⟨_, rfl⟩
      unfold CDeepTo at HN
      rw [hdd] at HN hk
      have HX := Lib.hid (show maxTo F (j + 1) = max (maxTo F j) d by rw [max_succ, HF.out, ← hdd])
      have HW := Lib.hid (show Below w.heap.size w _ from (HBr.out.alloc (HBr.out.size) (.cells #[.int .i64 (T.kid j).op, .int .i64 (T.kid j).rel, .slice (T.kid j).aa (T.kid j).an (T.kid j).ac, .slice (T.kid j).ka (T.kid j).kn (T.kid j).kc] 25)))
      clear hdd hla hia
      go_wp2_with (go_at_call 11; refine (HN.out _ HW.out).mono ?_; rintro e w2 ⟨rfl, hb2⟩)
      all_goals
        have HB2 := Lib.hid (bth HW.out hb2)
        go_roundw
        case rel => exact ⟨j + 1, max m d, by omega, by go_num, by first | go_num | rfl | (congr 1; omega), Lib.hid (by rw [HX.out, HM.out]), by omega, HB2⟩
        case measure => simp [intOf]; omega
    · obtain rfl : j = T.kn := by omega
      go_wp2
      go_ret
      exact ⟨ret_i8 (by rw [HD.out, HM.out, HF.out]; rfl), HBr.out⟩
def CSizeTo (T : XT) (w : World) : Prop := Calls Tryz.prog 13 #[.agg #[.int .i64 T.op, .int .i64 T.rel, .slice T.aa T.an T.ac, .slice T.ka T.kn T.kc]] w fun e w' => e = .returned (.int .i64 (sizeX T)) ∧ Below w.heap.size w w'
set_option maxHeartbeats 2000000 in
theorem size_any (S : Nat → Prop) : ∀ (T : XT) (w : World), XAt w S T → CSizeTo T w := by
  refine XT.ind fun T ih w H => ?_
  have HC := Lib.hid (fun i (hi : i < T.kn) wx (hb : Below w.heap.size w wx) => (kid_at H hb hi).1)
  have hlen := xt_kn H
  have hlan := xt_an H
  have HI := Lib.hid (fun i (hi : i < T.kn) wx (hb : Below w.heap.size w wx) => ih i hi wx (kid_at H hb hi).2)
  have HD := Lib.hid (sizeX_eq T)
  obtain ⟨F, hF⟩ : ∃ F : Nat → Int, F = fun i => sizeX (T.kid i) := ⟨_, rfl⟩
  have HF := Lib.hid hF
  obtain ⟨ao, hao⟩ : ∃ a, T.ka = a := ⟨_, rfl⟩
  have HAO := Lib.hid hao
  clear ih H hF
  unfold CSizeTo
  rw [hao]
  clear hao
  go_enter Tryz.func13, Tryz.ntmps13
  go_wp2
  go_loopw [3, 13] (fun n i wr => ∃ (j : Nat) (m : Int), j ≤ T.kn ∧ i = .int .i64 j ∧ n = .int .i64 m ∧ Hid (m = sumW (1 + (T.an : Int)) F j) ∧ Hid (Below w.heap.size w wr)) (fun _ i _ => T.kn - (intOf i).toNat)
  case atStart => exact ⟨0, 1 + (T.an : Int), Nat.zero_le _, rfl, by go_num, Lib.hid rfl, Lib.hid ((Below.refl _ _).alloc (Nat.le_refl _) _)⟩
  case round =>
    obtain ⟨j, m, hj, rfl, rfl, HM, HBr⟩ := hrel
    by_cases hlt : j < T.kn
    · obtain ⟨b, off, hia, _, hbl, hla⟩ := HC.out j hlt wr HBr.out
      obtain rfl : ao = some ⟨b, off, none⟩ := HAO.out.symm.trans hia
      have c0 : wr.cell? ⟨b, off + j * 4, none⟩ = some (.int .i64 (T.kid j).op) := hla 0 _ rfl
      have c1 : wr.cell? ⟨b, off + j * 4 + 1, none⟩ = some (.int .i64 (T.kid j).rel) := hla 1 _ rfl
      have c2 : wr.cell? ⟨b, off + j * 4 + 2, none⟩ = some (.slice (T.kid j).aa (T.kid j).an (T.kid j).ac) := hla 2 _ rfl
      have c3 : wr.cell? ⟨b, off + j * 4 + 3, none⟩ = some (.slice (T.kid j).ka (T.kid j).kn (T.kid j).kc) := hla 3 _ rfl
      have HN := Lib.hid (HI.out j hlt)
      obtain ⟨d, hdd⟩ : ∃ d, sizeX (T.kid j) = d := ⟨_, rfl⟩
      unfold CSizeTo at HN
      rw [hdd] at HN
      have HX := Lib.hid (show sumW (1 + (T.an : Int)) F (j + 1) = wrap64 (sumW (1 + (T.an : Int)) F j + d) by rw [← hdd, HF.out]; rfl)
      have HW := Lib.hid (show Below w.heap.size w _ from (HBr.out.alloc (HBr.out.size) (.cells #[.int .i64 (T.kid j).op, .int .i64 (T.kid j).rel, .slice (T.kid j).aa (T.kid j).an (T.kid j).ac, .slice (T.kid j).ka (T.kid j).kn (T.kid j).kc] 25)))
      clear hdd hla hia
      go_wp2_with (go_at_call 13; refine (HN.out _ HW.out).mono ?_; rintro e w2 ⟨rfl, hb2⟩)
      have HB2 := Lib.hid (bth HW.out hb2)
      go_roundw
      case rel => exact ⟨j + 1, wrap64 (m + d), by omega, by go_num, rfl, Lib.hid (by rw [HX.out, HM.out]), HB2⟩
      case measure => simp [intOf]; omega
    · obtain rfl : j = T.kn := by omega
      go_wp2
      go_ret
      exact ⟨ret_i8 (by rw [HD.out, HM.out, HF.out]), HBr.out⟩
def RSizeTo (T : XT) (w : World) : Prop := Calls Tryz.prog 14 #[.agg #[.int .i64 T.op, .int .i64 T.rel, .slice T.aa T.an T.ac, .slice T.ka T.kn T.kc]] w fun e w' => e = .returned (.int .i64 (sizeX T)) ∧ Below w.heap.size w w'
set_option maxHeartbeats 2000000 in
theorem refSize_any (S : Nat → Prop) : ∀ (T : XT) (w : World), XAt w S T → RSizeTo T w := by
  refine XT.ind fun T ih w H => ?_
  have HC := Lib.hid (fun i (hi : i < T.kn) wx (hb : Below w.heap.size w wx) => (kid_at H hb hi).1)
  have hlen := xt_kn H
  have hlan := xt_an H
  have HI := Lib.hid (fun i (hi : i < T.kn) wx (hb : Below w.heap.size w wx) => ih i hi wx (kid_at H hb hi).2)
  have HD := Lib.hid (sizeX_eq T)
  obtain ⟨F, hF⟩ : ∃ F : Nat → Int, F = fun i => sizeX (T.kid i) := ⟨_, rfl⟩
  have HF := Lib.hid hF
  clear ih H hF
  unfold RSizeTo
  go_enter Tryz.func14, Tryz.ntmps14
  go_wp2
  go_loopw [3, 4] (fun n i wr => ∃ (j : Nat) (m : Int), j ≤ T.kn ∧ i = .int .i64 j ∧ n = .int .i64 m ∧ Hid (m = sumW (1 + (T.an : Int)) F j) ∧ Hid (Below w.heap.size w wr) ∧ Hid (wr.heap[w.heap.size]? = some (.cells #[.int .i64 T.op, .int .i64 T.rel, .slice T.aa T.an T.ac, .slice T.ka T.kn T.kc] 25))) (fun _ i _ => T.kn - (intOf i).toNat)
  case atStart => exact ⟨0, 1 + (T.an : Int), Nat.zero_le _, rfl, by go_num, Lib.hid rfl, Lib.hid ((Below.refl _ _).alloc (Nat.le_refl _) _), Lib.hid (alloc_at w _)⟩
  case round =>
    obtain ⟨j, m, hj, rfl, rfl, HM, HBr, HQ⟩ := hrel
    by_cases hlt : j < T.kn
    · obtain ⟨b, off, hia, _, hbl, hla⟩ := HC.out j hlt wr HBr.out
      have d3 : wr.cell? ⟨w.heap.size, 3, none⟩ = some (.slice (some ⟨b, off, none⟩) T.kn T.kc) := by rw [← hia]; exact cell_at HQ.out rfl
      have c0 : wr.cell? ⟨b, off + j * 4, none⟩ = some (.int .i64 (T.kid j).op) := hla 0 _ rfl
      have c1 : wr.cell? ⟨b, off + j * 4 + 1, none⟩ = some (.int .i64 (T.kid j).rel) := hla 1 _ rfl
      have c2 : wr.cell? ⟨b, off + j * 4 + 2, none⟩ = some (.slice (T.kid j).aa (T.kid j).an (T.kid j).ac) := hla 2 _ rfl
      have c3 : wr.cell? ⟨b, off + j * 4 + 3, none⟩ = some (.slice (T.kid j).ka (T.kid j).kn (T.kid j).kc) := hla 3 _ rfl
      have HN := Lib.hid (HI.out j hlt)
      obtain ⟨d, hdd⟩ : ∃ d, sizeX (T.kid j) = d := ⟨_, rfl⟩
      unfold RSizeTo at HN
      rw [hdd] at HN
      have HX := Lib.hid (show sumW (1 + (T.an : Int)) F (j + 1) = wrap64 (sumW (1 + (T.an : Int)) F j + d) by rw [← hdd, HF.out]; rfl)
      have HW := HBr
      clear hdd hla hia
      go_wp2_with (go_at_call 14; refine (HN.out _ HW.out).mono ?_; rintro e w2 ⟨rfl, hb2⟩; have HQ2 := Lib.hid (rowKeep hb2 HQ.out))
      have HB2 := Lib.hid (bth HW.out hb2)
      go_roundw
      case rel => exact ⟨j + 1, wrap64 (m + d), by omega, by go_num, rfl, Lib.hid (by rw [HX.out, HM.out]), HB2, HQ2⟩
      case measure => simp [intOf]; omega
    · obtain rfl : j = T.kn := by omega
      have d3 : wr.cell? ⟨w.heap.size, 3, none⟩ = some (.slice T.ka T.kn T.kc) := cell_at HQ.out rfl
      go_wp2
      go_ret
      exact ⟨ret_i8 (by rw [HD.out, HM.out, HF.out]), HBr.out⟩
end Go.Proofs.YtbejpgoedenpmaaGreatDoor
