/- Chapter 18's laws CheckTells and CheckData, walked over what the code's functions answer. -/
import Derived.Test.YtcojomkpogikiaaGreatDoorQ46
import Derived.Test.YtcojomkpogikiaaGreatDoorQ55
namespace Go.Proofs.YtcojomkpogikiaaGreatDoor
open Go.RowKit
set_option linter.unusedVariables false
set_option linter.unusedSimpArgs false
def sumF18 (f : Nat → Int) : Nat → Int | 0 => 0 | n + 1 => sumF18 f n + f n
theorem sumF_le18 {F : Nat → Int} : ∀ n, (∀ i, i < n → 1 ≤ F i) → (n : Int) ≤ sumF18 F n
  | 0, _ => by show ((0 : Nat) : Int) ≤ 0; omega
  | n + 1, h => by
    have := sumF_le18 n (fun i hi => h i (by omega))
    have := h n (by omega)
    show ((n + 1 : Nat) : Int) ≤ sumF18 F n + F n
    omega
theorem minK_sum18 {a : Int} {F : Nat → Int} (h0 : 0 ≤ a) (h1 : a ≤ 100000) : ∀ n, (∀ i, i < n → 1 ≤ F i ∧ F i ≤ 3101) → minK a F n = min (a + sumF18 F n) 100000
  | 0, _ => by show a = min (a + 0) 100000; omega
  | n + 1, h => by
    have h2 := minK_sum18 h0 h1 n (fun i hi => h i (by omega))
    have h3 := sumF_le18 n (fun i hi => (h i (by omega)).1)
    have h4 := h n (by omega)
    show min (wrap64 (minK a F n + F n)) 100000 = min (a + (sumF18 F n + F n)) 100000
    rw [h2, IntWalk.wrap64_in _ (by omega)]
    omega
theorem sumW_sum18 {a : Int} {F : Nat → Int} (h0 : 0 ≤ a) (h1 : a ≤ 1000) : ∀ n, n ≤ 100 → (∀ i, i < n → 1 ≤ F i ∧ F i ≤ 3101) → sumW a F n = a + sumF18 F n ∧ sumF18 F n ≤ 3101 * n
  | 0, _, _ => by constructor; · show a = a + 0; omega
                  · show (0 : Int) ≤ _; omega
  | n + 1, hn, h => by
    obtain ⟨h2, h5⟩ := sumW_sum18 h0 h1 n (by omega) (fun i hi => h i (by omega))
    have h3 := sumF_le18 n (fun i hi => (h i (by omega)).1)
    have h4 := h n (by omega)
    constructor
    · show wrap64 (sumW a F n + F n) = a + (sumF18 F n + F n)
      rw [h2, IntWalk.wrap64_in _ (by omega)]; omega
    · show sumF18 F n + F n ≤ _; omega
theorem minA_ge18 {f : Nat → Nat} : ∀ n, minA f n < 100000 → ∀ i, i < n → f i ≤ minA f n
  | 0, _, i, hi => absurd hi (Nat.not_lt_zero i)
  | n + 1, h, i, hi => by
    have hd : minA f (n + 1) = min (minA f n + f n) 100000 := rfl
    rcases Nat.lt_succ_iff_lt_or_eq.1 hi with h1 | rfl
    · have := minA_ge18 (f := f) n (by omega) i h1
      omega
    · omega
theorem great_size18 : ∀ (T : XT) (d : Nat), greatX T d = false → (1 ≤ sizeX T ∧ sizeX T ≤ 3101) ∧ (∀ i, i < T.an → (T.arg i).text.size ≤ 3000) ∧ T.kn ≤ 100 ∧ (∀ i, i < T.kn → greatX (T.kid i) (d + 1) = false) ∧ sizeX T = 1 + (T.an : Int) + sumF18 (fun i => sizeX (T.kid i)) T.kn := by
  refine XT.ind fun T ih d h => ?_
  rw [greatX_eq] at h
  simp only [Bool.or_eq_false_iff, decide_eq_false_iff_not, Nat.not_lt] at h
  obtain ⟨⟨⟨⟨h1, h2⟩, h3⟩, h4⟩, h5⟩ := h
  have hk : ∀ i, i < T.kn → 1 ≤ sizeX (T.kid i) ∧ sizeX (T.kid i) ≤ 3101 := fun i hi => (ih i hi (d + 1) (anyTo_false h4 i hi)).1
  have hml := minA_le (fun i => (T.arg i).text.size) T.an
  rw [minK_sum18 (by omega) (by omega) T.kn hk] at h5
  have hs := sumF_le18 (F := fun i => sizeX (T.kid i)) T.kn (fun i hi => (hk i hi).1)
  have hw := (sumW_sum18 (a := 1 + (T.an : Int)) (F := fun i => sizeX (T.kid i)) (by omega) (by omega) T.kn h2 hk).1
  rw [sizeX_eq, hw]
  refine ⟨by omega, fun i hi => ?_, h2, fun i hi => anyTo_false h4 i hi, rfl⟩
  have := minA_ge18 (f := fun i => (T.arg i).text.size) T.an (by omega) i hi
  have h6 : (T.arg i).text.size ≤ minA (fun i => (T.arg i).text.size) T.an := this
  omega
theorem xfw_great : ∀ (T : XT) (d : Nat), greatX T d = false → XFw T := by
  refine XT.ind fun T ih d h => ?_
  rw [greatX_eq] at h
  simp only [Bool.or_eq_false_iff, decide_eq_false_iff_not, Nat.not_lt] at h
  obtain ⟨⟨⟨⟨_, h2⟩, h3⟩, h4⟩, _⟩ := h
  refine (xfw_iff T).2 ⟨by omega, by omega, fun i hi => ih i hi (d + 1) ?_⟩
  cases hq : greatX (T.kid i) (d + 1) with
  | false => rfl
  | true => rw [(anyTo_iff T.kn).2 ⟨i, hi, hq⟩] at h4; cases h4
theorem xsm_great : ∀ (T : XT) (d : Nat), greatX T d = false → XSm T := by
  refine XT.ind fun T ih d h => ?_
  obtain ⟨_, h2, _, h4, _⟩ := great_size18 T d h
  exact (xsm_iff T).2 ⟨fun i hi => Nat.le_trans (h2 i hi) (by decide), fun i hi => ih i hi _ (h4 i hi)⟩
set_option maxRecDepth 100000 in
set_option maxHeartbeats 8000000 in
theorem tells18 (C : CheckC) (S : Nat → Prop) (L : Nat → Pa.TypeV) (ao : Option Addr) (len cap : Nat) (t : Int) (T : XT) (w : World) (hlen : len ≤ 140737488351232) (hcap : len ≤ cap) (H : ∀ i, i < len → Pa.TypeAt w ao i (L i)) (Hc : ∀ i, i < len → (L i).ilen ≤ (L i).icap) (HX : XAt w S T) (HT : XTx T) (hV : LibAt w) :
    Calls Tryz.prog 3 #[.slice ao len cap, .int .i64 t, .agg #[.int .i64 T.op, .int .i64 T.rel, .slice T.aa T.an T.ac, .slice T.ka T.kn T.kc]] w fun e w' => e = .returned (.bool true) ∧ Below w.heap.size w w' := by
  have HGL := Lib.hid (fun wx (hb : Below w.heap.size w wx) => Pa.great_any ao len cap L hlen wx (hold18 H hb))
  have HG := Lib.hid (fun wx (hb : Below w.heap.size w wx) => great_any S T 0 wx (HX.next hb) HT (by omega))
  have HAW := Lib.hid (fun wx (hb : Below w.heap.size w wx) => awake18 C wx (hV.held hb))
  have HB0 := Lib.hid ((Below.refl w.heap.size w).alloc (Nat.le_refl _) (.cells #[.int .i64 T.op, .int .i64 T.rel, .slice T.aa T.an T.ac, .slice T.ka T.kn T.kc] 26))
  have HQ := Lib.hid (alloc_at w (.cells #[.int .i64 T.op, .int .i64 T.rel, .slice T.aa T.an T.ac, .slice T.ka T.kn T.kc] 26))
  unfold RGreatTo at HG
  rw [show ((0 : Nat) : Int) = 0 from rfl] at HG
  cases hl : Pa.greatB L len with
  | true =>
    rw [hl] at HGL
    clear H HX HT hV hl HG
    go_enter Tryz.func3, Tryz.ntmps3
    go_wp2_with (first
      | (go_at_call 9; refine (HAW.out _ (by exact HB0.out)).mono ?_; rintro e w2 ⟨rfl, hb⟩; have HB2 := Lib.hid (bth HB0.out hb); clear hb)
      | (go_at_call 7; refine (HGL.out _ (by exact HB0.out)).mono ?_; rintro e w1 ⟨rfl, rfl⟩))
    go_ret
    exact ⟨rfl, HB2.out⟩
  | false =>
    rw [hl] at HGL
    have h100 := Pa.great_lt hl
    cases hq : greatX T 0 with
    | true =>
      rw [hq] at HG
      clear H HX HT hV hl hq
      go_enter Tryz.func3, Tryz.ntmps3
      go_wp2_with (first
        | (go_at_call 9; refine (HAW.out _ (by exact HB1.out)).mono ?_; rintro e w2 ⟨rfl, hb⟩; have HB2 := Lib.hid (bth HB1.out hb); clear hb)
        | (go_at_call 8; refine (HG.out _ (by exact HB0.out)).mono ?_; rintro e w1 ⟨rfl, hb⟩; have HB1 := Lib.hid (bth HB0.out hb); clear hb)
        | (go_at_call 7; refine (HGL.out _ (by exact HB0.out)).mono ?_; rintro e w1 ⟨rfl, rfl⟩))
      go_ret
      exact ⟨rfl, HB2.out⟩
    | false =>
      rw [hq] at HG
      have hsm := xsm_great T 0 hq
      have hfw := xfw_great T 0 hq
      have hdp := great_deep T 0 hq
      have HC := Lib.hid (fun wx (hb : Below w.heap.size w wx) => C.chk S L ao len cap t T wx h100 hcap (hold18 H hb) Hc (HX.next hb) HT hsm hfw (by omega) (hV.held hb))
      have HR := Lib.hid (fun wx (hb : Below w.heap.size w wx) => rcheck_any S L ao len cap (by omega) t T wx (hold18 H hb) (HX.next hb) hsm)
      unfold RCheckTo at HR
      generalize checkE L len t T = E at HC HR
      clear H HX HT hV hl hq hsm hfw hdp Hc
      go_enter Tryz.func3, Tryz.ntmps3
      go_upto_region 3 with (first
        | (go_at_call 8; refine (HG.out _ (by exact HB0.out)).mono ?_; rintro e w1 ⟨rfl, hb⟩; have HQ := Lib.hid (rowKeep hb HQ.out); have HB0 := Lib.hid (bth HB0.out hb); clear hb)
        | (go_at_call 7; refine (HGL.out _ (by exact HB0.out)).mono ?_; rintro e w1 ⟨rfl, rfl⟩))
      rename World => W0
      refine wp_region_ext (by kernel_rfl) 13 (fun v => ((.slice ao len cap : Value) :: (.int .i64 t : Value) :: (.agg #[.int .i64 T.op, .int .i64 T.rel, .slice T.aa T.an T.ac, .slice T.ka T.kn T.kc] : Value) :: (undef : Value) :: (undef : Value) :: (.pointer (some ⟨w.heap.size, 0, none⟩) : Value) :: (v 12 : Value) :: (.slice ao len cap : Value) :: (.bool false : Value) :: (.bool false : Value) :: (.agg #[.int .i64 T.op, .int .i64 T.rel, .slice T.aa T.an T.ac, .slice T.ka T.kn T.kc] : Value) :: (.bool false : Value) :: (.bool false : Value) :: (undef : Value) :: (v 0 : Value) :: (v 1 : Value) :: (v 2 : Value) :: (v 3 : Value) :: (v 4 : Value) :: (v 5 : Value) :: (v 6 : Value) :: (v 7 : Value) :: (v 8 : Value) :: (v 9 : Value) :: (v 10 : Value) :: (v 11 : Value) :: []).toArray) (fun k => if k = 12 then .bool false else undef) (fun _ => none) (fun j => [.slice ao len cap, .int .i64 t, .agg #[.int .i64 T.op, .int .i64 T.rel, .slice T.aa T.an T.ac, .slice T.ka T.kn T.kc], .int .i64 E, .slice ao len cap, .int .i64 t, .agg #[.int .i64 T.op, .int .i64 T.rel, .slice T.aa T.an T.ac, .slice T.ka T.kn T.kc], .int .i64 E, .bool true, .bool true, .bool true, .bool true, .bool true].getD j undef) (fun w' => Below W0.heap.size W0 w')
        (Nat.le_of_ble_eq_true (by kernel_rfl)) (by kernel_rfl) (fun _ _ h hb => bth h hb) (Below.refl _ _) (fun j hj v w1 hBx hsz hd => ?_) (fun v w1 hv hdist hBx hb => ?_)
      · have b1 := rowKeep hBx HQ.out
        obtain ⟨y0, y1, y2, y3⟩ := bx4 b1
        clear b1
        have hBw := bth HB0.out hBx
        have hjN : j = 0 ∨ j = 1 ∨ j = 2 ∨ j = 3 ∨ j = 4 ∨ j = 5 ∨ j = 6 ∨ j = 7 ∨ j = 8 ∨ j = 9 ∨ j = 10 ∨ j = 11 ∨ j = 12 := by omega
        rcases hjN with rfl | rfl | rfl | rfl | rfl | rfl | rfl | rfl | rfl | rfl | rfl | rfl | rfl
        · skip
          refine wpOp_step (o := _) rfl (fun K' hK => ?_)
          go_simp
          exact hK _ _ ⟨.slice ao len cap, rfl, Below.refl _ _, (fun _ => rfl), fun o h => by cases h⟩
        · skip
          refine wpOp_step (o := _) rfl (fun K' hK => ?_)
          go_simp
          exact hK _ _ ⟨.int .i64 t, rfl, Below.refl _ _, (fun _ => rfl), fun o h => by cases h⟩
        · skip
          refine wpOp_step (o := _) rfl (fun K' hK => ?_)
          go_simp
          exact hK _ _ ⟨.agg #[.int .i64 T.op, .int .i64 T.rel, .slice T.aa T.an T.ac, .slice T.ka T.kn T.kc], rfl, Below.refl _ _, (fun _ => rfl), fun o h => by cases h⟩
        · have e0 : v 0 = .slice ao len cap := hd 0 (List.contains_iff_mem.1 (by kernel_rfl)); have e1 : v 1 = .int .i64 t := hd 1 (List.contains_iff_mem.1 (by kernel_rfl)); have e2 : v 2 = .agg #[.int .i64 T.op, .int .i64 T.rel, .slice T.aa T.an T.ac, .slice T.ka T.kn T.kc] := hd 2 (List.contains_iff_mem.1 (by kernel_rfl))
          refine wpOp_step (o := _) rfl (fun K' hK => ?_)
          go_simp
          refine (HC.out w1 hBw).mono ?_
          rintro e w3 ⟨rfl, hb3⟩
          exact hK _ _ ⟨.int .i64 E, fr_eq18 (by simp [upd, e0, e1, e2]), hb3, fun _ => rfl, fun o h => by cases h⟩
        · skip
          refine wpOp_step (o := _) rfl (fun K' hK => ?_)
          go_simp
          exact hK _ _ ⟨.slice ao len cap, rfl, Below.refl _ _, (fun _ => rfl), fun o h => by cases h⟩
        · skip
          refine wpOp_step (o := _) rfl (fun K' hK => ?_)
          go_simp
          exact hK _ _ ⟨.int .i64 t, rfl, Below.refl _ _, (fun _ => rfl), fun o h => by cases h⟩
        · skip
          refine wpOp_step (o := _) rfl (fun K' hK => ?_)
          go_simp
          exact hK _ _ ⟨.agg #[.int .i64 T.op, .int .i64 T.rel, .slice T.aa T.an T.ac, .slice T.ka T.kn T.kc], rfl, Below.refl _ _, (fun _ => rfl), fun o h => by cases h⟩
        · have e4 : v 4 = .slice ao len cap := hd 4 (List.contains_iff_mem.1 (by kernel_rfl)); have e5 : v 5 = .int .i64 t := hd 5 (List.contains_iff_mem.1 (by kernel_rfl)); have e6 : v 6 = .agg #[.int .i64 T.op, .int .i64 T.rel, .slice T.aa T.an T.ac, .slice T.ka T.kn T.kc] := hd 6 (List.contains_iff_mem.1 (by kernel_rfl))
          refine wpOp_step (o := _) rfl (fun K' hK => ?_)
          go_simp
          refine (HR.out w1 hBw).mono ?_
          rintro e w3 ⟨rfl, hb3⟩
          exact hK _ _ ⟨.int .i64 E, fr_eq18 (by simp [upd, e4, e5, e6]), hb3, fun _ => rfl, fun o h => by cases h⟩
        · have e3 : v 3 = .int .i64 E := hd 3 (List.contains_iff_mem.1 (by kernel_rfl)); have e7 : v 7 = .int .i64 E := hd 7 (List.contains_iff_mem.1 (by kernel_rfl))
          refine wpOp_step (o := _) rfl (fun K' hK => ?_)
          go_simp
          exact hK _ _ ⟨.bool true, fr_eq18 (by simp [upd, e3, e7]), Below.refl _ _, (fun _ => rfl), fun o h => by cases h⟩
        · have e8 : v 8 = .bool true := hd 8 (List.contains_iff_mem.1 (by kernel_rfl))
          refine wpOp_step (o := _) rfl (fun K' hK => ?_)
          go_simp
          exact hK _ _ ⟨.bool true, fr_eq18 (by simp [upd, e8]), Below.refl _ _, (fun _ => rfl), fun o h => by cases h⟩
        · have e9 : v 9 = .bool true := hd 9 (List.contains_iff_mem.1 (by kernel_rfl))
          refine wpOp_step (o := _) rfl (fun K' hK => ?_)
          go_simp
          refine (HAW.out w1 hBw).mono ?_
          rintro e w3 ⟨rfl, hb3⟩
          exact hK _ _ ⟨.bool true, fr_eq18 (by simp [upd, e9]), hb3, fun _ => rfl, fun o h => by cases h⟩
        · have e9 : v 9 = .bool true := hd 9 (List.contains_iff_mem.1 (by kernel_rfl)); have e10 : v 10 = .bool true := hd 10 (List.contains_iff_mem.1 (by kernel_rfl))
          refine wpOp_step (o := _) rfl (fun K' hK => ?_)
          go_simp
          exact hK _ _ ⟨.bool true, fr_eq18 (by simp [upd, e9, e10]), Below.refl _ _, (fun _ => rfl), fun o h => by cases h⟩
        · have e11 : v 11 = .bool true := hd 11 (List.contains_iff_mem.1 (by kernel_rfl))
          refine wpOp_step (o := _) rfl (fun K' hK => ?_)
          go_simp
          exact hK _ _ ⟨.bool true, fr_eq18 (by simp [upd, e11]), Below.refl _ _, (fun _ => rfl), fun o h => by cases h⟩
      · have HB4 := Lib.hid (bth HB0.out hb)
        have e0 : v 0 = .slice ao len cap := hv 0 (by decide)
        have e1 : v 1 = .int .i64 t := hv 1 (by decide)
        have e2 : v 2 = .agg #[.int .i64 T.op, .int .i64 T.rel, .slice T.aa T.an T.ac, .slice T.ka T.kn T.kc] := hv 2 (by decide)
        have e3 : v 3 = .int .i64 E := hv 3 (by decide)
        have e4 : v 4 = .slice ao len cap := hv 4 (by decide)
        have e5 : v 5 = .int .i64 t := hv 5 (by decide)
        have e6 : v 6 = .agg #[.int .i64 T.op, .int .i64 T.rel, .slice T.aa T.an T.ac, .slice T.ka T.kn T.kc] := hv 6 (by decide)
        have e7 : v 7 = .int .i64 E := hv 7 (by decide)
        have e8 : v 8 = .bool true := hv 8 (by decide)
        have e9 : v 9 = .bool true := hv 9 (by decide)
        have e10 : v 10 = .bool true := hv 10 (by decide)
        have e11 : v 11 = .bool true := hv 11 (by decide)
        have e12 : v 12 = .bool true := hv 12 (by decide)
        clear hv hdist hBx hb
        refine wpAny_of_held (S := fun _ => True) _ _ _ _ ?_
        simp only [e0, e1, e2, e3, e4, e5, e6, e7, e8, e9, e10, e11, e12]
        clear e0 e1 e2 e3 e4 e5 e6 e7 e8 e9 e10 e11 e12
        refine wpAnyH_done (by kernel_rfl) ?_ _
        go_wp2_with fail
        go_ret
        exact ⟨rfl, HB4.out⟩
end Go.Proofs.YtcojomkpogikiaaGreatDoor
