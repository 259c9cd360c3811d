/- Chapter 18's law CheckAround: what is bound is as small as its parameters; what is laid around it. -/
import Derived.Test.YtcojomkpogikiaaGreatDoorA45
namespace Go.Proofs.YtcojomkpogikiaaGreatDoor
open Go.RowKit
set_option linter.unusedVariables false
set_option linter.unusedSimpArgs false
theorem bx5 {w : World} {b : Nat} {t : TypeId} {c0 c1 c2 c3 c4 : Value} (h : w.heap[b]? = some (.cells #[c0, c1, c2, c3, c4] t (0, 0))) : w.cell? ⟨b, 0, none⟩ = some c0 ∧ w.cell? ⟨b, 1, none⟩ = some c1 ∧ w.cell? ⟨b, 2, none⟩ = some c2 ∧ w.cell? ⟨b, 3, none⟩ = some c3 := ⟨cell_at h rfl, cell_at h rfl, cell_at h rfl, cell_at h rfl⟩
theorem bindT_few (P : Nat → List UInt8) (n : Nat) : ∀ T : XT, XFw T → XFw (bindT P n T) := by
  refine XT.ind fun T ih h => ?_
  obtain ⟨_, _, h3, h4, h5, h6⟩ := bindT_parts P n T
  obtain ⟨k1, k2, k3⟩ := (xfw_iff T).1 h
  exact (xfw_iff _).2 ⟨by omega, by omega, fun i hi => by rw [h6 i (by omega)]; exact ih i (by omega) (k3 i (by omega))⟩
theorem ex4 {w : World} {b : Nat} {ty : TypeId} {c0 c1 c2 c3 : Value} (h : w.heap[b]? = some (.cells #[c0, c1, c2, c3] ty (0, 0))) : w.cell? ⟨b, 0, none⟩ = some c0 ∧ w.cell? ⟨b, 1, none⟩ = some c1 ∧ w.cell? ⟨b, 2, none⟩ = some c2 ∧ w.cell? ⟨b, 3, none⟩ = some c3 := ⟨cell_at h rfl, cell_at h rfl, cell_at h rfl, cell_at h rfl⟩
/-- a tree that fits as e says, of which nothing is too large -/
structure AroT (L : Nat → Pa.TypeV) (len : Nat) (t : Int) (e : Int) (W : World) (X : XT) (d : Nat) : Prop where
  tx : XTx X
  sm : XSm X
  fw : XFw X
  dp : deepX X ≤ d
  lies : XAt W (fun _ => True) X
  te : treeE L len t X = e
theorem AroT.held {L : Nat → Pa.TypeV} {len : Nat} {t e : Int} {W W' : World} {X : XT} {d : Nat} (h : AroT L len t e W X d) (hb : Below W.heap.size W W') : AroT L len t e W' X d := ⟨h.tx, h.sm, h.fw, h.dp, h.lies.next hb, h.te⟩
theorem AroT.less {L : Nat → Pa.TypeV} {len : Nat} {t e : Int} {W : World} {X : XT} {d d' : Nat} (h : AroT L len t e W X d) (hd : d ≤ d') : AroT L len t e W X d' := ⟨h.tx, h.sm, h.fw, Nat.le_trans h.dp hd, h.lies, h.te⟩
abbrev upX (op : Int) (b m : Nat) (f : Nat → XT) : XT := .node op 0 none 0 0 (fun _ => oZ) (some ⟨b, 0, none⟩) m m f
theorem AroT.up {L : Nat → Pa.TypeV} {len : Nat} {t e : Int} {W : World} {d op : Nat} {b m : Nat} {f : Nat → XT} {cur : Array Value} {ty : TypeId} (hop : (op : Int) = 4 ∧ m = 1 ∨ ((op : Int) = 5 ∨ (op : Int) = 6) ∧ 2 ≤ m) (hm : m ≤ 3) (hk : ∀ i, i < m → AroT L len t e W (f i) d) (hc : W.heap[b]? = some (.cells cur ty (0, 0))) (hr : ∀ i, i < m → ∀ r u, (xtC (f i))[r]? = some u → cur[i * 4 + r]? = some u) : AroT L len t e W (upX op b m f) (d + 1) := by
  refine ⟨(xtx_iff _).2 ⟨fun i hi => absurd hi (Nat.not_lt_zero i), fun i hi => (hk i hi).tx⟩, (xsm_iff _).2 ⟨fun i hi => absurd hi (Nat.not_lt_zero i), fun i hi => (hk i hi).sm⟩, (xfw_iff _).2 ⟨Nat.zero_le _, by show m ≤ 1000; omega, fun i hi => (hk i hi).fw⟩, ?_, (xat_iff _).2 ⟨⟨Nat.zero_le _, by show m ≤ _; omega⟩, fun i hi => absurd hi (Nat.not_lt_zero i), fun i hi => ⟨⟨b, 0, rfl, trivial, lt_of_block hc, fun r u hu => ?_⟩, (hk i hi).lies⟩⟩, tree_kids rfl hop (fun i hi => (hk i hi).te)⟩
  · show 1 + maxTo (fun i => deepX (f i)) m ≤ d + 1
    have := maxTo_le (f := fun i => deepX (f i)) (m := d) m (fun i hi => (hk i hi).dp)
    omega
  · rw [Nat.zero_add]
    exact cell_at hc (hr i hi r u hu)
theorem xtC_get4 (T : XT) {r : Nat} {u : Value} (h : (xtC T)[r]? = some u) : (r = 0 ∧ u = .int .i64 T.op) ∨ (r = 1 ∧ u = .int .i64 T.rel) ∨ (r = 2 ∧ u = .slice T.aa T.an T.ac) ∨ (r = 3 ∧ u = .slice T.ka T.kn T.kc) := by
  have hr : r < 4 := (List.getElem?_eq_some_iff.1 h).1
  have hq : r = 0 ∨ r = 1 ∨ r = 2 ∨ r = 3 := by omega
  rcases hq with rfl | rfl | rfl | rfl
  · injection h with h; exact .inl ⟨rfl, h.symm⟩
  · injection h with h; exact .inr (.inl ⟨rfl, h.symm⟩)
  · injection h with h; exact .inr (.inr (.inl ⟨rfl, h.symm⟩))
  · injection h with h; exact .inr (.inr (.inr ⟨rfl, h.symm⟩))
set_option maxRecDepth 100000 in
set_option maxHeartbeats 8000000 in
theorem around18 (C : CheckC) (B : BindC) (S : Nat → Prop) (L : Nat → Pa.TypeV) (ao : Option Addr) (len cap : Nat) (t : Int) (P : Nat → List UInt8) (pa : Option Addr) (pn pc : Nat) (T : XT) (w : World) (hlen : len ≤ 140737488351232) (hcap : len ≤ cap) (H : ∀ i, i < len → Pa.TypeAt w ao i (L i)) (Hc : ∀ i, i < len → (L i).ilen ≤ (L i).icap) (hpl : pn ≤ 140737488351232) (hpc : pn ≤ pc) (HP : PsR w pa pn P) (HX : XAt w S T) (HT : XTx T) (hV : LibAt w) :
    Calls Tryz.prog 6 #[.slice ao len cap, .int .i64 t, .agg #[.int .i64 T.op, .int .i64 T.rel, .slice T.aa T.an T.ac, .slice T.ka T.kn T.kc, .slice pa pn pc]] w fun e w' => e = .returned (.bool true) ∧ Below w.heap.size w w' := by
  have HGL := Lib.hid (fun wx (hb : Below w.heap.size w wx) => Pa.great_any ao len cap L hlen wx (hold18 H hb))
  have HG := Lib.hid (fun wx (hb : Below w.heap.size w wx) => great_any S T 0 wx (HX.next hb) HT (by omega))
  have HAW := Lib.hid (fun wx (hb : Below w.heap.size w wx) => awake18 C wx (hV.held hb))
  have HB0 := Lib.hid ((Below.refl w.heap.size w).alloc (Nat.le_refl _) (.cells #[.int .i64 T.op, .int .i64 T.rel, .slice T.aa T.an T.ac, .slice T.ka T.kn T.kc, .slice pa pn pc] 47))
  have HQ := Lib.hid (alloc_at w (.cells #[.int .i64 T.op, .int .i64 T.rel, .slice T.aa T.an T.ac, .slice T.ka T.kn T.kc, .slice pa pn pc] 47))
  have HPR := Lib.hid (fun wx (hb : Below w.heap.size w wx) => HP.next hb)
  unfold RGreatTo at HG
  rw [show ((0 : Nat) : Int) = 0 from rfl] at HG
  have HCC := Lib.hid (fun (hg : greatX T 0 = false) (h1 : pn ≤ 100) (h2 : ∀ i, i < pn → (P i).length ≤ 3000) wx (hb : Below w.heap.size w wx) => B.bnd S P pa pn pc T wx h1 hpc h2 ((HP.next hb).small h2) (HX.next hb) HT (xsm_great T 0 hg) (xfw_great T 0 hg) (by have := great_deep T 0 hg; omega) (hV.held hb))
  have HCK := Lib.hid (fun (h100 : len ≤ 100) (S : Nat → Prop) (T : XT) wx (hb : Below w.heap.size w wx) hx h1 h2 hf h3 => C.chk S L ao len cap t T wx h100 hcap (hold18 H hb) Hc hx h1 h2 hf h3 (hV.held hb))
  have HPT := Lib.hid (fun wx (hb : Below w.heap.size w wx) => par_any S T wx (HX.next hb))
  have HXT := Lib.hid (fun wx (hb : Below w.heap.size w wx) => HX.next hb)
  have HSMT := Lib.hid (fun (hg : greatX T 0 = false) => (show (XTx (bindT P pn T) ∧ XSm (bindT P pn T) ∧ deepX (bindT P pn T) = deepX T) ∧ XFw (bindT P pn T) from ⟨bindT_small P pn T HT (xsm_great T 0 hg), bindT_few P pn T (xfw_great T 0 hg)⟩))
  have HBP := Lib.hid (bind_par P pn T)
  have HPB := Lib.hid (par_bind P pn T)
  generalize bindT P pn T = X at HCC HSMT HBP HPB
  generalize bindE P pn T = E at HCC HPB
  clear HP HX HT hV H Hc
  cases hl : Pa.greatB L len with
  | true =>
    rw [hl] at HGL
    clear hl HG HCC HCK HPT HXT HSMT HBP HPB HPR
    go_enter Tryz.func6, Tryz.ntmps6
    go_wp2_with (first
      | (go_at_call 9; refine (HAW.out _ (by exact HB0.out)).mono ?_; rintro e w2 ⟨rfl, hb⟩; have HB2 := Lib.hid (bth HB0.out hb); clear hb)
      | (go_at_call 7; refine (HGL.out _ (by exact HB0.out)).mono ?_; rintro e w1 ⟨rfl, rfl⟩))
    go_ret
    exact ⟨rfl, HB2.out⟩
  | false =>
    rw [hl] at HGL
    have h100 := Pa.great_lt hl
    clear hl
    go_enter Tryz.func6, Tryz.ntmps6
    go_upto_region 1 with (fail)
    generalize w.alloc (.cells #[.int .i64 T.op, .int .i64 T.rel, .slice T.aa T.an T.ac, .slice T.ka T.kn T.kc, .slice pa pn pc] 47) = W0 at *
    obtain ⟨y0, y1, y2, y3⟩ := bx5 HQ.out
    cases hg : greatX T 0 with
    | true =>
      rw [hg] at HG
      clear hg HCC HCK HPT HXT HSMT HBP HPB HPR
      go_wp2_with (first
        | (go_at_call 9; refine (HAW.out _ (by exact HB1.out)).mono ?_; rintro e w2 ⟨rfl, hb⟩; have HB2 := Lib.hid (bth HB1.out hb); clear hb)
        | (go_at_call 8; refine (HG.out _ (by exact HB0.out)).mono ?_; rintro e w1 ⟨rfl, hb⟩; have HB1 := Lib.hid (bth HB0.out hb); clear hb)
        | (go_at_call 7; refine (HGL.out _ (by exact HB0.out)).mono ?_; rintro e w1 ⟨rfl, rfl⟩))
      go_ret
      exact ⟨rfl, HB2.out⟩
    | false =>
      rw [hg] at HG
      by_cases h20 : 20 < pn
      · have h20i : (20 : Int) < (pn : Int) := by omega
        clear hg HCC HCK HPT HXT HSMT HBP HPB HPR
        go_wp2_with (first
          | (go_at_call 9; refine (HAW.out _ (by exact HB1.out)).mono ?_; rintro e w2 ⟨rfl, hb⟩; have HB2 := Lib.hid (bth HB1.out hb); clear hb)
          | (go_at_call 8; refine (HG.out _ (by exact HB0.out)).mono ?_; rintro e w1 ⟨rfl, hb⟩; have HB1 := Lib.hid (bth HB0.out hb); have hq1 := rowKeep hb HQ.out; have z4 := cell_at (j := 4) hq1 rfl; clear hb hq1)
          | (go_at_call 7; refine (HGL.out _ (by exact HB0.out)).mono ?_; rintro e w1 ⟨rfl, rfl⟩))
        go_ret
        exact ⟨rfl, HB2.out⟩
      · have h20i : ¬ (20 : Int) < (pn : Int) := by omega
        have HC := Lib.hid (HCC.out hg (by omega))
        have HK := Lib.hid (HCK.out h100)
        have HSM := Lib.hid (HSMT.out hg)
        have hdp := great_deep T 0 hg
        clear hg HCC HCK HSMT
        go_upto_region 3 with (first
          | (go_at_call 8; refine (HG.out _ (by exact HB0.out)).mono ?_; rintro e w1 ⟨rfl, hb⟩; have HB1 := Lib.hid (bth HB0.out hb); have HQ1 := Lib.hid (rowKeep hb HQ.out); have z4 := cell_at (j := 4) HQ1.out rfl; clear hb)
          | (go_at_call 7; refine (HGL.out _ (by exact HB0.out)).mono ?_; rintro e w1 ⟨rfl, rfl⟩))
        clear z4 y0 y1 y2 y3
        go_wp2_with (fail)
        go_loopw [7] (fun i wr => ∃ j : Nat, j ≤ pn ∧ i = .int .i64 j ∧ Hid (∀ k, k < j → (P k).length ≤ 300) ∧ Hid (wr.heap[w.heap.size]? = some (.cells #[.int .i64 T.op, .int .i64 T.rel, .slice T.aa T.an T.ac, .slice T.ka T.kn T.kc, .slice pa pn pc] 47)) ∧ Hid (Below w.heap.size w wr)) (fun i _ => pn - (intOf i).toNat)
        case atStart => exact ⟨0, Nat.zero_le _, rfl, Lib.hid (fun k hk => absurd hk (Nat.not_lt_zero k)), HQ1, HB1⟩
        case round =>
          clear HQ HB0 HQ1 HB1
          obtain ⟨j, hj, rfl, HM, HQ, HB0⟩ := hrel
          have z4 : wr.cell? ⟨w.heap.size, 4, none⟩ = some (.slice pa pn pc) := cell_at HQ.out rfl
          by_cases hlt : j < pn
          · have hji : (j : Int) < (pn : Int) := by omega
            obtain ⟨hpl2, b, off, rfl, hc⟩ := HPR.out wr HB0.out j hlt
            obtain ⟨s, hs⟩ : ∃ s, bs (P j) = s := ⟨_, rfl⟩
            have hsz : s.size = (P j).length := by rw [← hs]; exact bs_size _
            rw [hs] at hc
            have HSZ := Lib.hid hsz
            rw [← hsz] at hpl2
            clear hs hsz
            by_cases h3 : 300 < s.size
            · have h3i : (300 : Int) < (s.size : Int) := by omega
              clear HC HK HPT HXT HSM HBP HPB HPR
              go_wp2_with (first
                | (go_at_call 9; refine (HAW.out _ (by exact HB0.out)).mono ?_; rintro e w2 ⟨rfl, hb⟩; have HB2 := Lib.hid (bth HB0.out hb); clear hb))
              go_ret
              exact ⟨rfl, HB2.out⟩
            · have h3i : ¬ (300 : Int) < (s.size : Int) := by omega
              have HM2 := Lib.hid (show ∀ k, k < j + 1 → (P k).length ≤ 300 from fun k hk => by
                rcases Nat.lt_succ_iff_lt_or_eq.1 hk with h | rfl
                · exact HM.out k h
                · rw [← HSZ.out]; omega)
              go_wp2_with (fail)
              all_goals
                go_roundw
                case rel => exact ⟨j + 1, by omega, by go_num, HM2, HQ, HB0⟩
                case measure => simp [intOf]; omega
          · obtain rfl : j = pn := by omega
            have hji : ¬ (j : Int) < (j : Int) := by omega
            have HC := Lib.hid (HC.out (fun i hi => by have := HM.out i hi; omega))
            unfold CBTo at HC
            obtain ⟨y0, y1, y2, y3⟩ := bx5 HQ.out
            go_upto_region 9 with (first
              | (go_at_call 12; refine (HC.out _ (by exact HB0.out)).mono ?_; rintro e w2 ⟨U, rfl, k1, k2, hxu, hb⟩; have hal := (Below.refl w2.heap.size w2).alloc (Nat.le_refl _) (.cells #[.int .i64 U.op, .int .i64 U.rel, .slice U.aa U.an U.ac, .slice U.ka U.kn U.kc] 26); have hb3 := bth hb hal; have HB3 := Lib.hid (bth HB0.out hb3); have HXU := Lib.hid (hxu.next hal); have HQ2 := Lib.hid (rowKeep hb3 HQ.out); have HQ3 := Lib.hid (alloc_at w2 (.cells #[.int .i64 U.op, .int .i64 U.rel, .slice U.aa U.an U.ac, .slice U.ka U.kn U.kc] 26)); have HSU := Lib.hid (show (E = 0 → SameX U X) ∧ (E ≠ 0 → U = .nil) from ⟨k1, k2⟩); have hq3 := hb.size; clear hb hb3 hal k1 k2 hxu))
            clear y0 y1 y2 y3 z4 HC
            have HUX := Lib.hid (show XTx U ∧ XSm U ∧ XFw U ∧ deepX U ≤ 90 from by
              by_cases he : E = 0
              · have h := HSU.out.1 he
                exact ⟨xtx_same _ _ h HSM.out.1.1, xsm_same _ _ h HSM.out.1.2.1, xfw_same _ _ h HSM.out.2, by rw [deep_same _ _ h, HSM.out.1.2.2]; omega⟩
              · rw [HSU.out.2 he]; exact ⟨trivial, trivial, trivial, by decide⟩)
            have hlt2 := lt_of_block HQ3.out
            generalize w2.alloc (.cells #[.int .i64 U.op, .int .i64 U.rel, .slice U.aa U.an U.ac, .slice U.ka U.kn U.kc] 26) = W3 at *
            obtain ⟨u0, u1, u2, u3⟩ := bx4 HQ3.out
            obtain ⟨y0, y1, y2, y3⟩ := bx5 HQ2.out
            have HPU := Lib.hid (fun wx (hb : Below W3.heap.size W3 wx) => par_any _ U wx (HXU.out.next hb))
            have HPV := Lib.hid (fun wx (hb : Below W3.heap.size W3 wx) => HPT.out wx (bth HB3.out hb))
            unfold RParTo at HPU HPV
            have HKU := Lib.hid (fun wx (hb : Below W3.heap.size W3 wx) => HK.out _ U wx (bth HB3.out hb) (HXU.out.next hb) HUX.out.1 HUX.out.2.1 HUX.out.2.2.1 (by have := HUX.out.2.2.2; omega))
            have HR3 := Lib.hid (Below.refl W3.heap.size W3)
            clear HPT HB0 HQ
            obtain ⟨F, hF⟩ : ∃ F, checkE L len t U = F := ⟨_, rfl⟩
            rw [hF] at HKU
            have HF := Lib.hid hF
            clear hF
            by_cases hE : E = 0
            · have hpU : parX U = false := by rw [par_same _ _ (HSU.out.1 hE)]; exact HBP.out
              rw [hpU] at HPU
              cases hp : parX T with
              | false =>
                rw [hp] at HPV
                have HST := Lib.hid (fun wx (hb : Below W3.heap.size W3 wx) => sameX_any _ _ U T wx (HXU.out.next hb) (HXT.out wx (bth HB3.out hb)) (sameX_trans _ _ _ (HSU.out.1 hE) (HPB.out hp).2))
                unfold RSameTo at HST
                clear hp hpU
                subst hE
                go_upto_region 11 with (first
                  | (have hgd := HRb.out; go_at_call 14; with_reducible refine (HST.out _ (by exact HRb.out)).mono ?_; rintro e wc ⟨rfl, hb⟩; clear hgd; have HRc := Lib.hid (bth HRb.out hb); have q8 := rowKeep hb HQb3.out; have q5 := rowKeep hb HQb2.out; have u0 := cell_at (j := 0) q8 rfl; have u1 := cell_at (j := 1) q8 rfl; have u2 := cell_at (j := 2) q8 rfl; have u3 := cell_at (j := 3) q8 rfl; have y0 := cell_at (j := 0) q5 rfl; have y1 := cell_at (j := 1) q5 rfl; have y2 := cell_at (j := 2) q5 rfl; have y3 := cell_at (j := 3) q5 rfl; have HQc3 := Lib.hid q8; have HQc2 := Lib.hid q5; clear q8 q5; clear hb)
                  | (have hgd := HRa.out; go_at_call 17; with_reducible refine (HPV.out _ (by exact HRa.out)).mono ?_; rintro e wb ⟨rfl, hb⟩; clear hgd; have HRb := Lib.hid (bth HRa.out hb); have q8 := rowKeep hb HQa3.out; have q5 := rowKeep hb HQa2.out; have u0 := cell_at (j := 0) q8 rfl; have u1 := cell_at (j := 1) q8 rfl; have u2 := cell_at (j := 2) q8 rfl; have u3 := cell_at (j := 3) q8 rfl; have y0 := cell_at (j := 0) q5 rfl; have y1 := cell_at (j := 1) q5 rfl; have y2 := cell_at (j := 2) q5 rfl; have y3 := cell_at (j := 3) q5 rfl; have HQb3 := Lib.hid q8; have HQb2 := Lib.hid q5; clear q8 q5; clear hb)
                  | (go_at_call 17; with_reducible refine (HPU.out _ (by exact HR3.out)).mono ?_; rintro e wa ⟨rfl, hb⟩; have HRa := Lib.hid (bth HR3.out hb); have q8 := rowKeep hb HQ3.out; have q5 := rowKeep hb HQ2.out; have u0 := cell_at (j := 0) q8 rfl; have u1 := cell_at (j := 1) q8 rfl; have u2 := cell_at (j := 2) q8 rfl; have u3 := cell_at (j := 3) q8 rfl; have y0 := cell_at (j := 0) q5 rfl; have y1 := cell_at (j := 1) q5 rfl; have y2 := cell_at (j := 2) q5 rfl; have y3 := cell_at (j := 3) q5 rfl; have HQa3 := Lib.hid q8; have HQa2 := Lib.hid q5; clear q8 q5; clear hb))
                go_upto_region 12 with (first
                  | (have hgd := HRc.out; go_at_call 10; with_reducible refine (HKU.out _ (by exact HRc.out)).mono ?_; rintro e wd ⟨rfl, hb⟩; clear hgd; have HRd := Lib.hid (bth HRc.out hb); have HQd3 := Lib.hid (rowKeep hb HQc3.out); clear hb))
                clear u0 u1 u2 u3 y0 y1 y2 y3
                have hlt4 := lt_of_block HQd3.out
                have u0 := cell_at (j := 0) HQd3.out rfl
                have u1 := cell_at (j := 1) HQd3.out rfl
                have u2 := cell_at (j := 2) HQd3.out rfl
                have u3 := cell_at (j := 3) HQd3.out rfl
                go_upto_region 13 with (fail)
                clear u0 u1 u2 u3
                have HR_wd := Lib.hid HRd.out
                have HU_wd := Lib.hid HQd3.out
                have b1 := alloc_at wd (.cells #[.int .i64 U.op, .int .i64 U.rel, .slice U.aa U.an U.ac, .slice U.ka U.kn U.kc] 26)
                have b2 := alloc_at (wd.alloc (.cells #[.int .i64 U.op, .int .i64 U.rel, .slice U.aa U.an U.ac, .slice U.ka U.kn U.kc] 26)) (.cells #[.int .i64 4, .int .i64 0, .slice none 0 0, .slice (some ⟨wd.heap.size, 0, none⟩) 1 1] 26)
                rw [World.size_alloc] at b2
                have b3 := alloc_old (o := .cells #[.int .i64 4, .int .i64 0, .slice none 0 0, .slice (some ⟨wd.heap.size, 0, none⟩) 1 1] 26) b1
                have hbn : Below wd.heap.size wd ((wd.alloc (.cells #[.int .i64 U.op, .int .i64 U.rel, .slice U.aa U.an U.ac, .slice U.ka U.kn U.kc] 26)).alloc (.cells #[.int .i64 4, .int .i64 0, .slice none 0 0, .slice (some ⟨wd.heap.size, 0, none⟩) 1 1] 26)) := ((Below.refl _ _).alloc (Nat.le_refl _) _).alloc (by simp) _
                generalize ((wd.alloc (.cells #[.int .i64 U.op, .int .i64 U.rel, .slice U.aa U.an U.ac, .slice U.ka U.kn U.kc] 26)).alloc (.cells #[.int .i64 4, .int .i64 0, .slice none 0 0, .slice (some ⟨wd.heap.size, 0, none⟩) 1 1] 26)) = W5 at *
                have HB_W5 := Lib.hid hbn
                have HR_W5 := Lib.hid (bth HR_wd.out hbn)
                have HU_W5 := Lib.hid (rowKeep hbn HU_wd.out)
                have HN_W5 := Lib.hid b2
                have HSN_W5 := Lib.hid b3
                clear b1 b2 b3 hbn
                obtain ⟨u0, u1, u2, u3⟩ := ex4 HU_W5.out
                obtain ⟨n0, n1, n2, n3⟩ := ex4 HN_W5.out
                have hltu := lt_of_block HU_W5.out
                have hltn := lt_of_block HN_W5.out
                go_upto_region 14 with (fail)
                clear u0 u1 u2 u3 n0 n1 n2 n3 hltu hltn
                have b1 := alloc_at W5 (.cells #[.int .i64 U.op, .int .i64 U.rel, .slice U.aa U.an U.ac, .slice U.ka U.kn U.kc, .int .i64 4, .int .i64 0, .slice none 0 0, .slice (some ⟨wd.heap.size, 0, none⟩) 1 1] 26)
                have b2 := alloc_at (W5.alloc (.cells #[.int .i64 U.op, .int .i64 U.rel, .slice U.aa U.an U.ac, .slice U.ka U.kn U.kc, .int .i64 4, .int .i64 0, .slice none 0 0, .slice (some ⟨wd.heap.size, 0, none⟩) 1 1] 26)) (.cells #[.int .i64 5, .int .i64 0, .slice none 0 0, .slice (some ⟨W5.heap.size, 0, none⟩) 2 2] 26)
                rw [World.size_alloc] at b2
                have b3 := alloc_old (o := .cells #[.int .i64 5, .int .i64 0, .slice none 0 0, .slice (some ⟨W5.heap.size, 0, none⟩) 2 2] 26) b1
                have hbn : Below W5.heap.size W5 ((W5.alloc (.cells #[.int .i64 U.op, .int .i64 U.rel, .slice U.aa U.an U.ac, .slice U.ka U.kn U.kc, .int .i64 4, .int .i64 0, .slice none 0 0, .slice (some ⟨wd.heap.size, 0, none⟩) 1 1] 26)).alloc (.cells #[.int .i64 5, .int .i64 0, .slice none 0 0, .slice (some ⟨W5.heap.size, 0, none⟩) 2 2] 26)) := ((Below.refl _ _).alloc (Nat.le_refl _) _).alloc (by simp) _
                generalize ((W5.alloc (.cells #[.int .i64 U.op, .int .i64 U.rel, .slice U.aa U.an U.ac, .slice U.ka U.kn U.kc, .int .i64 4, .int .i64 0, .slice none 0 0, .slice (some ⟨wd.heap.size, 0, none⟩) 1 1] 26)).alloc (.cells #[.int .i64 5, .int .i64 0, .slice none 0 0, .slice (some ⟨W5.heap.size, 0, none⟩) 2 2] 26)) = W6 at *
                have HB_W6 := Lib.hid hbn
                have HR_W6 := Lib.hid (bth HR_W5.out hbn)
                have HU_W6 := Lib.hid (rowKeep hbn HU_W5.out)
                have HN_W6 := Lib.hid (rowKeep hbn HN_W5.out)
                have HSN_W6 := Lib.hid (rowKeep hbn HSN_W5.out)
                have HA_W6 := Lib.hid b2
                have HSA_W6 := Lib.hid b3
                clear b1 b2 b3 hbn
                obtain ⟨u0, u1, u2, u3⟩ := ex4 HU_W6.out
                obtain ⟨a0, a1, a2, a3⟩ := ex4 HA_W6.out
                have hltu := lt_of_block HU_W6.out
                have hlta := lt_of_block HA_W6.out
                go_upto_region 15 with (fail)
                clear u0 u1 u2 u3 a0 a1 a2 a3 hltu hlta
                have b1 := alloc_at W6 (.cells #[.int .i64 U.op, .int .i64 U.rel, .slice U.aa U.an U.ac, .slice U.ka U.kn U.kc, .int .i64 U.op, .int .i64 U.rel, .slice U.aa U.an U.ac, .slice U.ka U.kn U.kc, .int .i64 5, .int .i64 0, .slice none 0 0, .slice (some ⟨W5.heap.size, 0, none⟩) 2 2] 26)
                have b2 := alloc_at (W6.alloc (.cells #[.int .i64 U.op, .int .i64 U.rel, .slice U.aa U.an U.ac, .slice U.ka U.kn U.kc, .int .i64 U.op, .int .i64 U.rel, .slice U.aa U.an U.ac, .slice U.ka U.kn U.kc, .int .i64 5, .int .i64 0, .slice none 0 0, .slice (some ⟨W5.heap.size, 0, none⟩) 2 2] 26)) (.cells #[.int .i64 6, .int .i64 0, .slice none 0 0, .slice (some ⟨W6.heap.size, 0, none⟩) 3 3] 26)
                rw [World.size_alloc] at b2
                have b3 := alloc_old (o := .cells #[.int .i64 6, .int .i64 0, .slice none 0 0, .slice (some ⟨W6.heap.size, 0, none⟩) 3 3] 26) b1
                have hbn : Below W6.heap.size W6 ((W6.alloc (.cells #[.int .i64 U.op, .int .i64 U.rel, .slice U.aa U.an U.ac, .slice U.ka U.kn U.kc, .int .i64 U.op, .int .i64 U.rel, .slice U.aa U.an U.ac, .slice U.ka U.kn U.kc, .int .i64 5, .int .i64 0, .slice none 0 0, .slice (some ⟨W5.heap.size, 0, none⟩) 2 2] 26)).alloc (.cells #[.int .i64 6, .int .i64 0, .slice none 0 0, .slice (some ⟨W6.heap.size, 0, none⟩) 3 3] 26)) := ((Below.refl _ _).alloc (Nat.le_refl _) _).alloc (by simp) _
                generalize ((W6.alloc (.cells #[.int .i64 U.op, .int .i64 U.rel, .slice U.aa U.an U.ac, .slice U.ka U.kn U.kc, .int .i64 U.op, .int .i64 U.rel, .slice U.aa U.an U.ac, .slice U.ka U.kn U.kc, .int .i64 5, .int .i64 0, .slice none 0 0, .slice (some ⟨W5.heap.size, 0, none⟩) 2 2] 26)).alloc (.cells #[.int .i64 6, .int .i64 0, .slice none 0 0, .slice (some ⟨W6.heap.size, 0, none⟩) 3 3] 26)) = W7 at *
                have HB_W7 := Lib.hid hbn
                have HR_W7 := Lib.hid (bth HR_W6.out hbn)
                have HU_W7 := Lib.hid (rowKeep hbn HU_W6.out)
                have HN_W7 := Lib.hid (rowKeep hbn HN_W6.out)
                have HSN_W7 := Lib.hid (rowKeep hbn HSN_W6.out)
                have HA_W7 := Lib.hid (rowKeep hbn HA_W6.out)
                have HSA_W7 := Lib.hid (rowKeep hbn HSA_W6.out)
                have HO_W7 := Lib.hid b2
                have HSO_W7 := Lib.hid b3
                clear b1 b2 b3 hbn
                have hbw := bth HB_W5.out (bth HB_W6.out HB_W7.out)
                have TU : AroT L len t (treeE L len t U) W7 U 90 := ⟨HUX.out.1, HUX.out.2.1, HUX.out.2.2.1, HUX.out.2.2.2, ((HXU.out.next HRd.out).sub (fun _ _ _ => trivial)).next hbw, rfl⟩
                have TN : AroT L len t (treeE L len t U) W7 (upX ((4 : Nat) : Int) wd.heap.size 1 (fun _ => U)) 91 := AroT.up (.inl ⟨rfl, rfl⟩) (by omega) (fun _ _ => TU) HSN_W7.out (fun i hi r u hu => by
                  obtain rfl : i = 0 := by omega
                  rcases xtC_get4 U hu with ⟨rfl, rfl⟩ | ⟨rfl, rfl⟩ | ⟨rfl, rfl⟩ | ⟨rfl, rfl⟩ <;> rfl)
                have TA : AroT L len t (treeE L len t U) W7 (upX ((5 : Nat) : Int) W5.heap.size 2 (fun i => if i = 0 then U else upX ((4 : Nat) : Int) wd.heap.size 1 (fun _ => U))) 92 := AroT.up (.inr ⟨.inl rfl, by omega⟩) (by omega) (fun i _ => by
                  by_cases e : i = 0
                  · rw [if_pos e]; exact TU.less (by omega)
                  · rw [if_neg e]; exact TN) HSA_W7.out (fun i hi r u hu => by
                  have hi2 : i = 0 ∨ i = 1 := by omega
                  rcases hi2 with rfl | rfl
                  · rw [if_pos rfl] at hu
                    rcases xtC_get4 U hu with ⟨rfl, rfl⟩ | ⟨rfl, rfl⟩ | ⟨rfl, rfl⟩ | ⟨rfl, rfl⟩ <;> rfl
                  · rw [if_neg (by decide)] at hu
                    rcases xtC_get4 _ hu with ⟨rfl, rfl⟩ | ⟨rfl, rfl⟩ | ⟨rfl, rfl⟩ | ⟨rfl, rfl⟩ <;> rfl)
                have TO : AroT L len t (treeE L len t U) W7 (upX ((6 : Nat) : Int) W6.heap.size 3 (fun i => if i < 2 then U else upX ((5 : Nat) : Int) W5.heap.size 2 (fun i => if i = 0 then U else upX ((4 : Nat) : Int) wd.heap.size 1 (fun _ => U)))) 93 := AroT.up (.inr ⟨.inr rfl, by omega⟩) (by omega) (fun i _ => by
                  by_cases e : i < 2
                  · rw [if_pos e]; exact TU.less (by omega)
                  · rw [if_neg e]; exact TA) HSO_W7.out (fun i hi r u hu => by
                  have hi2 : i = 0 ∨ i = 1 ∨ i = 2 := by omega
                  rcases hi2 with rfl | rfl | rfl
                  · rw [if_pos (by decide)] at hu
                    rcases xtC_get4 U hu with ⟨rfl, rfl⟩ | ⟨rfl, rfl⟩ | ⟨rfl, rfl⟩ | ⟨rfl, rfl⟩ <;> rfl
                  · rw [if_pos (by decide)] at hu
                    rcases xtC_get4 U hu with ⟨rfl, rfl⟩ | ⟨rfl, rfl⟩ | ⟨rfl, rfl⟩ | ⟨rfl, rfl⟩ <;> rfl
                  · rw [if_neg (by decide)] at hu
                    rcases xtC_get4 _ hu with ⟨rfl, rfl⟩ | ⟨rfl, rfl⟩ | ⟨rfl, rfl⟩ | ⟨rfl, rfl⟩ <;> rfl)
                have HW7 := Lib.hid (bth HB3.out HR_W7.out)
                have HCN := Lib.hid (fun wx (hb : Below W7.heap.size W7 wx) => (show Calls Tryz.prog 10 #[.slice ao len cap, .int .i64 t, .agg #[.int .i64 4, .int .i64 0, .slice none 0 0, .slice (some ⟨wd.heap.size, 0, none⟩) 1 1]] wx fun e w' => e = .returned (.int .i64 F) ∧ Below wx.heap.size wx w' from by
                  have h := HK.out _ _ wx (bth HW7.out hb) (TN.held hb).lies TN.tx TN.sm TN.fw (by have := TN.dp; omega)
                  rw [check_tree TN.te, HF.out] at h
                  exact h))
                have HCA := Lib.hid (fun wx (hb : Below W7.heap.size W7 wx) => (show Calls Tryz.prog 10 #[.slice ao len cap, .int .i64 t, .agg #[.int .i64 5, .int .i64 0, .slice none 0 0, .slice (some ⟨W5.heap.size, 0, none⟩) 2 2]] wx fun e w' => e = .returned (.int .i64 F) ∧ Below wx.heap.size wx w' from by
                  have h := HK.out _ _ wx (bth HW7.out hb) (TA.held hb).lies TA.tx TA.sm TA.fw (by have := TA.dp; omega)
                  rw [check_tree TA.te, HF.out] at h
                  exact h))
                have HCO := Lib.hid (fun wx (hb : Below W7.heap.size W7 wx) => (show Calls Tryz.prog 10 #[.slice ao len cap, .int .i64 t, .agg #[.int .i64 6, .int .i64 0, .slice none 0 0, .slice (some ⟨W6.heap.size, 0, none⟩) 3 3]] wx fun e w' => e = .returned (.int .i64 F) ∧ Below wx.heap.size wx w' from by
                  have h := HK.out _ _ wx (bth HW7.out hb) (TO.held hb).lies TO.tx TO.sm TO.fw (by have := TO.dp; omega)
                  rw [check_tree TO.te, HF.out] at h
                  exact h))
                have hff : (F == F) = true := beq_self_eq_true F
                have HR7 := Lib.hid (Below.refl W7.heap.size W7)
                clear TU TN TA TO hbw HK HKU HPU HPV HXU HXT HUX HF HSM HBP
                obtain ⟨n0, n1, n2, n3⟩ := ex4 HN_W7.out
                obtain ⟨a0, a1, a2, a3⟩ := ex4 HA_W7.out
                obtain ⟨o0, o1, o2, o3⟩ := ex4 HO_W7.out
                go_wp2_with (first
                  | (have hgd := HRo.out; go_at_call 9; with_reducible refine (HAW.out _ (bth HW7.out HRo.out)).mono ?_; rintro e wz ⟨rfl, hb⟩; clear hgd; have HRz := Lib.hid (bth (bth HW7.out HRo.out) hb); clear hb)
                  | (have hgd := HRy.out; go_at_call 10; with_reducible refine (HCO.out _ (by exact HRy.out)).mono ?_; rintro e wo ⟨rfl, hb⟩; clear hgd; have HRo := Lib.hid (bth HRy.out hb); clear hb)
                  | (have hgd := HRx.out; go_at_call 10; with_reducible refine (HCA.out _ (by exact HRx.out)).mono ?_; rintro e wy ⟨rfl, hb⟩; clear hgd; have HRy := Lib.hid (bth HRx.out hb); clear o0 o1 o2 o3; obtain ⟨o0, o1, o2, o3⟩ := ex4 (rowKeep HRy.out HO_W7.out); clear hb)
                  | (go_at_call 10; with_reducible refine (HCN.out _ (by exact HR7.out)).mono ?_; rintro e wx ⟨rfl, hb⟩; have HRx := Lib.hid hb; clear a0 a1 a2 a3 o0 o1 o2 o3; obtain ⟨a0, a1, a2, a3⟩ := ex4 (rowKeep HRx.out HA_W7.out); obtain ⟨o0, o1, o2, o3⟩ := ex4 (rowKeep HRx.out HO_W7.out); clear hb))
                go_ret
                exact ⟨rfl, HRz.out⟩
              | true =>
                rw [hp] at HPV
                clear hp hpU
                subst hE
                go_upto_region 11 with (first
                  | (have hgd := HRa.out; go_at_call 17; with_reducible refine (HPV.out _ (by exact HRa.out)).mono ?_; rintro e wb ⟨rfl, hb⟩; clear hgd; have HRb := Lib.hid (bth HRa.out hb); have q8 := rowKeep hb HQa3.out; have q5 := rowKeep hb HQa2.out; have u0 := cell_at (j := 0) q8 rfl; have u1 := cell_at (j := 1) q8 rfl; have u2 := cell_at (j := 2) q8 rfl; have u3 := cell_at (j := 3) q8 rfl; have y0 := cell_at (j := 0) q5 rfl; have y1 := cell_at (j := 1) q5 rfl; have y2 := cell_at (j := 2) q5 rfl; have y3 := cell_at (j := 3) q5 rfl; have HQb3 := Lib.hid q8; have HQb2 := Lib.hid q5; clear q8 q5; clear hb)
                  | (go_at_call 17; with_reducible refine (HPU.out _ (by exact HR3.out)).mono ?_; rintro e wa ⟨rfl, hb⟩; have HRa := Lib.hid (bth HR3.out hb); have q8 := rowKeep hb HQ3.out; have q5 := rowKeep hb HQ2.out; have u0 := cell_at (j := 0) q8 rfl; have u1 := cell_at (j := 1) q8 rfl; have u2 := cell_at (j := 2) q8 rfl; have u3 := cell_at (j := 3) q8 rfl; have y0 := cell_at (j := 0) q5 rfl; have y1 := cell_at (j := 1) q5 rfl; have y2 := cell_at (j := 2) q5 rfl; have y3 := cell_at (j := 3) q5 rfl; have HQa3 := Lib.hid q8; have HQa2 := Lib.hid q5; clear q8 q5; clear hb))
                go_upto_region 12 with (first
                  | (have hgd := HRb.out; go_at_call 10; with_reducible refine (HKU.out _ (by exact HRb.out)).mono ?_; rintro e wd ⟨rfl, hb⟩; clear hgd; have HRd := Lib.hid (bth HRb.out hb); have HQd3 := Lib.hid (rowKeep hb HQb3.out); clear hb))
                clear u0 u1 u2 u3 y0 y1 y2 y3
                have hlt4 := lt_of_block HQd3.out
                have u0 := cell_at (j := 0) HQd3.out rfl
                have u1 := cell_at (j := 1) HQd3.out rfl
                have u2 := cell_at (j := 2) HQd3.out rfl
                have u3 := cell_at (j := 3) HQd3.out rfl
                go_upto_region 13 with (fail)
                clear u0 u1 u2 u3
                have HR_wd := Lib.hid HRd.out
                have HU_wd := Lib.hid HQd3.out
                have b1 := alloc_at wd (.cells #[.int .i64 U.op, .int .i64 U.rel, .slice U.aa U.an U.ac, .slice U.ka U.kn U.kc] 26)
                have b2 := alloc_at (wd.alloc (.cells #[.int .i64 U.op, .int .i64 U.rel, .slice U.aa U.an U.ac, .slice U.ka U.kn U.kc] 26)) (.cells #[.int .i64 4, .int .i64 0, .slice none 0 0, .slice (some ⟨wd.heap.size, 0, none⟩) 1 1] 26)
                rw [World.size_alloc] at b2
                have b3 := alloc_old (o := .cells #[.int .i64 4, .int .i64 0, .slice none 0 0, .slice (some ⟨wd.heap.size, 0, none⟩) 1 1] 26) b1
                have hbn : Below wd.heap.size wd ((wd.alloc (.cells #[.int .i64 U.op, .int .i64 U.rel, .slice U.aa U.an U.ac, .slice U.ka U.kn U.kc] 26)).alloc (.cells #[.int .i64 4, .int .i64 0, .slice none 0 0, .slice (some ⟨wd.heap.size, 0, none⟩) 1 1] 26)) := ((Below.refl _ _).alloc (Nat.le_refl _) _).alloc (by simp) _
                generalize ((wd.alloc (.cells #[.int .i64 U.op, .int .i64 U.rel, .slice U.aa U.an U.ac, .slice U.ka U.kn U.kc] 26)).alloc (.cells #[.int .i64 4, .int .i64 0, .slice none 0 0, .slice (some ⟨wd.heap.size, 0, none⟩) 1 1] 26)) = W5 at *
                have HB_W5 := Lib.hid hbn
                have HR_W5 := Lib.hid (bth HR_wd.out hbn)
                have HU_W5 := Lib.hid (rowKeep hbn HU_wd.out)
                have HN_W5 := Lib.hid b2
                have HSN_W5 := Lib.hid b3
                clear b1 b2 b3 hbn
                obtain ⟨u0, u1, u2, u3⟩ := ex4 HU_W5.out
                obtain ⟨n0, n1, n2, n3⟩ := ex4 HN_W5.out
                have hltu := lt_of_block HU_W5.out
                have hltn := lt_of_block HN_W5.out
                go_upto_region 14 with (fail)
                clear u0 u1 u2 u3 n0 n1 n2 n3 hltu hltn
                have b1 := alloc_at W5 (.cells #[.int .i64 U.op, .int .i64 U.rel, .slice U.aa U.an U.ac, .slice U.ka U.kn U.kc, .int .i64 4, .int .i64 0, .slice none 0 0, .slice (some ⟨wd.heap.size, 0, none⟩) 1 1] 26)
                have b2 := alloc_at (W5.alloc (.cells #[.int .i64 U.op, .int .i64 U.rel, .slice U.aa U.an U.ac, .slice U.ka U.kn U.kc, .int .i64 4, .int .i64 0, .slice none 0 0, .slice (some ⟨wd.heap.size, 0, none⟩) 1 1] 26)) (.cells #[.int .i64 5, .int .i64 0, .slice none 0 0, .slice (some ⟨W5.heap.size, 0, none⟩) 2 2] 26)
                rw [World.size_alloc] at b2
                have b3 := alloc_old (o := .cells #[.int .i64 5, .int .i64 0, .slice none 0 0, .slice (some ⟨W5.heap.size, 0, none⟩) 2 2] 26) b1
                have hbn : Below W5.heap.size W5 ((W5.alloc (.cells #[.int .i64 U.op, .int .i64 U.rel, .slice U.aa U.an U.ac, .slice U.ka U.kn U.kc, .int .i64 4, .int .i64 0, .slice none 0 0, .slice (some ⟨wd.heap.size, 0, none⟩) 1 1] 26)).alloc (.cells #[.int .i64 5, .int .i64 0, .slice none 0 0, .slice (some ⟨W5.heap.size, 0, none⟩) 2 2] 26)) := ((Below.refl _ _).alloc (Nat.le_refl _) _).alloc (by simp) _
                generalize ((W5.alloc (.cells #[.int .i64 U.op, .int .i64 U.rel, .slice U.aa U.an U.ac, .slice U.ka U.kn U.kc, .int .i64 4, .int .i64 0, .slice none 0 0, .slice (some ⟨wd.heap.size, 0, none⟩) 1 1] 26)).alloc (.cells #[.int .i64 5, .int .i64 0, .slice none 0 0, .slice (some ⟨W5.heap.size, 0, none⟩) 2 2] 26)) = W6 at *
                have HB_W6 := Lib.hid hbn
                have HR_W6 := Lib.hid (bth HR_W5.out hbn)
                have HU_W6 := Lib.hid (rowKeep hbn HU_W5.out)
                have HN_W6 := Lib.hid (rowKeep hbn HN_W5.out)
                have HSN_W6 := Lib.hid (rowKeep hbn HSN_W5.out)
                have HA_W6 := Lib.hid b2
                have HSA_W6 := Lib.hid b3
                clear b1 b2 b3 hbn
                obtain ⟨u0, u1, u2, u3⟩ := ex4 HU_W6.out
                obtain ⟨a0, a1, a2, a3⟩ := ex4 HA_W6.out
                have hltu := lt_of_block HU_W6.out
                have hlta := lt_of_block HA_W6.out
                go_upto_region 15 with (fail)
                clear u0 u1 u2 u3 a0 a1 a2 a3 hltu hlta
                have b1 := alloc_at W6 (.cells #[.int .i64 U.op, .int .i64 U.rel, .slice U.aa U.an U.ac, .slice U.ka U.kn U.kc, .int .i64 U.op, .int .i64 U.rel, .slice U.aa U.an U.ac, .slice U.ka U.kn U.kc, .int .i64 5, .int .i64 0, .slice none 0 0, .slice (some ⟨W5.heap.size, 0, none⟩) 2 2] 26)
                have b2 := alloc_at (W6.alloc (.cells #[.int .i64 U.op, .int .i64 U.rel, .slice U.aa U.an U.ac, .slice U.ka U.kn U.kc, .int .i64 U.op, .int .i64 U.rel, .slice U.aa U.an U.ac, .slice U.ka U.kn U.kc, .int .i64 5, .int .i64 0, .slice none 0 0, .slice (some ⟨W5.heap.size, 0, none⟩) 2 2] 26)) (.cells #[.int .i64 6, .int .i64 0, .slice none 0 0, .slice (some ⟨W6.heap.size, 0, none⟩) 3 3] 26)
                rw [World.size_alloc] at b2
                have b3 := alloc_old (o := .cells #[.int .i64 6, .int .i64 0, .slice none 0 0, .slice (some ⟨W6.heap.size, 0, none⟩) 3 3] 26) b1
                have hbn : Below W6.heap.size W6 ((W6.alloc (.cells #[.int .i64 U.op, .int .i64 U.rel, .slice U.aa U.an U.ac, .slice U.ka U.kn U.kc, .int .i64 U.op, .int .i64 U.rel, .slice U.aa U.an U.ac, .slice U.ka U.kn U.kc, .int .i64 5, .int .i64 0, .slice none 0 0, .slice (some ⟨W5.heap.size, 0, none⟩) 2 2] 26)).alloc (.cells #[.int .i64 6, .int .i64 0, .slice none 0 0, .slice (some ⟨W6.heap.size, 0, none⟩) 3 3] 26)) := ((Below.refl _ _).alloc (Nat.le_refl _) _).alloc (by simp) _
                generalize ((W6.alloc (.cells #[.int .i64 U.op, .int .i64 U.rel, .slice U.aa U.an U.ac, .slice U.ka U.kn U.kc, .int .i64 U.op, .int .i64 U.rel, .slice U.aa U.an U.ac, .slice U.ka U.kn U.kc, .int .i64 5, .int .i64 0, .slice none 0 0, .slice (some ⟨W5.heap.size, 0, none⟩) 2 2] 26)).alloc (.cells #[.int .i64 6, .int .i64 0, .slice none 0 0, .slice (some ⟨W6.heap.size, 0, none⟩) 3 3] 26)) = W7 at *
                have HB_W7 := Lib.hid hbn
                have HR_W7 := Lib.hid (bth HR_W6.out hbn)
                have HU_W7 := Lib.hid (rowKeep hbn HU_W6.out)
                have HN_W7 := Lib.hid (rowKeep hbn HN_W6.out)
                have HSN_W7 := Lib.hid (rowKeep hbn HSN_W6.out)
                have HA_W7 := Lib.hid (rowKeep hbn HA_W6.out)
                have HSA_W7 := Lib.hid (rowKeep hbn HSA_W6.out)
                have HO_W7 := Lib.hid b2
                have HSO_W7 := Lib.hid b3
                clear b1 b2 b3 hbn
                have hbw := bth HB_W5.out (bth HB_W6.out HB_W7.out)
                have TU : AroT L len t (treeE L len t U) W7 U 90 := ⟨HUX.out.1, HUX.out.2.1, HUX.out.2.2.1, HUX.out.2.2.2, ((HXU.out.next HRd.out).sub (fun _ _ _ => trivial)).next hbw, rfl⟩
                have TN : AroT L len t (treeE L len t U) W7 (upX ((4 : Nat) : Int) wd.heap.size 1 (fun _ => U)) 91 := AroT.up (.inl ⟨rfl, rfl⟩) (by omega) (fun _ _ => TU) HSN_W7.out (fun i hi r u hu => by
                  obtain rfl : i = 0 := by omega
                  rcases xtC_get4 U hu with ⟨rfl, rfl⟩ | ⟨rfl, rfl⟩ | ⟨rfl, rfl⟩ | ⟨rfl, rfl⟩ <;> rfl)
                have TA : AroT L len t (treeE L len t U) W7 (upX ((5 : Nat) : Int) W5.heap.size 2 (fun i => if i = 0 then U else upX ((4 : Nat) : Int) wd.heap.size 1 (fun _ => U))) 92 := AroT.up (.inr ⟨.inl rfl, by omega⟩) (by omega) (fun i _ => by
                  by_cases e : i = 0
                  · rw [if_pos e]; exact TU.less (by omega)
                  · rw [if_neg e]; exact TN) HSA_W7.out (fun i hi r u hu => by
                  have hi2 : i = 0 ∨ i = 1 := by omega
                  rcases hi2 with rfl | rfl
                  · rw [if_pos rfl] at hu
                    rcases xtC_get4 U hu with ⟨rfl, rfl⟩ | ⟨rfl, rfl⟩ | ⟨rfl, rfl⟩ | ⟨rfl, rfl⟩ <;> rfl
                  · rw [if_neg (by decide)] at hu
                    rcases xtC_get4 _ hu with ⟨rfl, rfl⟩ | ⟨rfl, rfl⟩ | ⟨rfl, rfl⟩ | ⟨rfl, rfl⟩ <;> rfl)
                have TO : AroT L len t (treeE L len t U) W7 (upX ((6 : Nat) : Int) W6.heap.size 3 (fun i => if i < 2 then U else upX ((5 : Nat) : Int) W5.heap.size 2 (fun i => if i = 0 then U else upX ((4 : Nat) : Int) wd.heap.size 1 (fun _ => U)))) 93 := AroT.up (.inr ⟨.inr rfl, by omega⟩) (by omega) (fun i _ => by
                  by_cases e : i < 2
                  · rw [if_pos e]; exact TU.less (by omega)
                  · rw [if_neg e]; exact TA) HSO_W7.out (fun i hi r u hu => by
                  have hi2 : i = 0 ∨ i = 1 ∨ i = 2 := by omega
                  rcases hi2 with rfl | rfl | rfl
                  · rw [if_pos (by decide)] at hu
                    rcases xtC_get4 U hu with ⟨rfl, rfl⟩ | ⟨rfl, rfl⟩ | ⟨rfl, rfl⟩ | ⟨rfl, rfl⟩ <;> rfl
                  · rw [if_pos (by decide)] at hu
                    rcases xtC_get4 U hu with ⟨rfl, rfl⟩ | ⟨rfl, rfl⟩ | ⟨rfl, rfl⟩ | ⟨rfl, rfl⟩ <;> rfl
                  · rw [if_neg (by decide)] at hu
                    rcases xtC_get4 _ hu with ⟨rfl, rfl⟩ | ⟨rfl, rfl⟩ | ⟨rfl, rfl⟩ | ⟨rfl, rfl⟩ <;> rfl)
                have HW7 := Lib.hid (bth HB3.out HR_W7.out)
                have HCN := Lib.hid (fun wx (hb : Below W7.heap.size W7 wx) => (show Calls Tryz.prog 10 #[.slice ao len cap, .int .i64 t, .agg #[.int .i64 4, .int .i64 0, .slice none 0 0, .slice (some ⟨wd.heap.size, 0, none⟩) 1 1]] wx fun e w' => e = .returned (.int .i64 F) ∧ Below wx.heap.size wx w' from by
                  have h := HK.out _ _ wx (bth HW7.out hb) (TN.held hb).lies TN.tx TN.sm TN.fw (by have := TN.dp; omega)
                  rw [check_tree TN.te, HF.out] at h
                  exact h))
                have HCA := Lib.hid (fun wx (hb : Below W7.heap.size W7 wx) => (show Calls Tryz.prog 10 #[.slice ao len cap, .int .i64 t, .agg #[.int .i64 5, .int .i64 0, .slice none 0 0, .slice (some ⟨W5.heap.size, 0, none⟩) 2 2]] wx fun e w' => e = .returned (.int .i64 F) ∧ Below wx.heap.size wx w' from by
                  have h := HK.out _ _ wx (bth HW7.out hb) (TA.held hb).lies TA.tx TA.sm TA.fw (by have := TA.dp; omega)
                  rw [check_tree TA.te, HF.out] at h
                  exact h))
                have HCO := Lib.hid (fun wx (hb : Below W7.heap.size W7 wx) => (show Calls Tryz.prog 10 #[.slice ao len cap, .int .i64 t, .agg #[.int .i64 6, .int .i64 0, .slice none 0 0, .slice (some ⟨W6.heap.size, 0, none⟩) 3 3]] wx fun e w' => e = .returned (.int .i64 F) ∧ Below wx.heap.size wx w' from by
                  have h := HK.out _ _ wx (bth HW7.out hb) (TO.held hb).lies TO.tx TO.sm TO.fw (by have := TO.dp; omega)
                  rw [check_tree TO.te, HF.out] at h
                  exact h))
                have hff : (F == F) = true := beq_self_eq_true F
                have HR7 := Lib.hid (Below.refl W7.heap.size W7)
                clear TU TN TA TO hbw HK HKU HPU HPV HXU HXT HUX HF HSM HBP
                obtain ⟨n0, n1, n2, n3⟩ := ex4 HN_W7.out
                obtain ⟨a0, a1, a2, a3⟩ := ex4 HA_W7.out
                obtain ⟨o0, o1, o2, o3⟩ := ex4 HO_W7.out
                go_wp2_with (first
                  | (have hgd := HRo.out; go_at_call 9; with_reducible refine (HAW.out _ (bth HW7.out HRo.out)).mono ?_; rintro e wz ⟨rfl, hb⟩; clear hgd; have HRz := Lib.hid (bth (bth HW7.out HRo.out) hb); clear hb)
                  | (have hgd := HRy.out; go_at_call 10; with_reducible refine (HCO.out _ (by exact HRy.out)).mono ?_; rintro e wo ⟨rfl, hb⟩; clear hgd; have HRo := Lib.hid (bth HRy.out hb); clear hb)
                  | (have hgd := HRx.out; go_at_call 10; with_reducible refine (HCA.out _ (by exact HRx.out)).mono ?_; rintro e wy ⟨rfl, hb⟩; clear hgd; have HRy := Lib.hid (bth HRx.out hb); clear o0 o1 o2 o3; obtain ⟨o0, o1, o2, o3⟩ := ex4 (rowKeep HRy.out HO_W7.out); clear hb)
                  | (go_at_call 10; with_reducible refine (HCN.out _ (by exact HR7.out)).mono ?_; rintro e wx ⟨rfl, hb⟩; have HRx := Lib.hid hb; clear a0 a1 a2 a3 o0 o1 o2 o3; obtain ⟨a0, a1, a2, a3⟩ := ex4 (rowKeep HRx.out HA_W7.out); obtain ⟨o0, o1, o2, o3⟩ := ex4 (rowKeep HRx.out HO_W7.out); clear hb))
                go_ret
                exact ⟨rfl, HRz.out⟩
            · have hp : parX T = true := by
                cases hp : parX T with
                | true => rfl
                | false => exact absurd (HPB.out hp).1 hE
              rw [hp] at HPV
              have hE0 : (E == 0) = false := by rw [beq_eq_false_iff_ne]; exact hE
              have hE1 : (E != 0) = true := by rw [bne_iff_ne]; exact hE
              have HSN := Lib.hid (fun wx (hb : Below W3.heap.size W3 wx) => (show Calls Tryz.prog 14 #[.agg #[.int .i64 U.op, .int .i64 U.rel, .slice U.aa U.an U.ac, .slice U.ka U.kn U.kc], .agg #[.int .i64 0, .int .i64 0, .slice none 0 0, .slice none 0 0]] wx fun e w' => e = .returned (.bool true) ∧ Below wx.heap.size wx w' from (show RSameTo U .nil wx from sameX_any _ (fun _ => True) U .nil wx (HXU.out.next hb) trivial (by rw [HSU.out.2 hE]; exact sameX_refl _))))
              clear hp
              go_upto_region 11 with (first
                | (have hgd := HRb.out; go_at_call 14; with_reducible refine (HSN.out _ (by exact HRb.out)).mono ?_; rintro e wc ⟨rfl, hb⟩; clear hgd; have HRc := Lib.hid (bth HRb.out hb); have q8 := rowKeep hb HQb3.out; have q5 := rowKeep hb HQb2.out; have u0 := cell_at (j := 0) q8 rfl; have u1 := cell_at (j := 1) q8 rfl; have u2 := cell_at (j := 2) q8 rfl; have u3 := cell_at (j := 3) q8 rfl; have y0 := cell_at (j := 0) q5 rfl; have y1 := cell_at (j := 1) q5 rfl; have y2 := cell_at (j := 2) q5 rfl; have y3 := cell_at (j := 3) q5 rfl; have HQc3 := Lib.hid q8; have HQc2 := Lib.hid q5; clear q8 q5; clear hb)
                | (have hgd := HR3.out; go_at_call 17; with_reducible refine (HPV.out _ (by exact HR3.out)).mono ?_; rintro e wb ⟨rfl, hb⟩; clear hgd; have HRb := Lib.hid (bth HR3.out hb); have q8 := rowKeep hb HQ3.out; have q5 := rowKeep hb HQ2.out; have u0 := cell_at (j := 0) q8 rfl; have u1 := cell_at (j := 1) q8 rfl; have u2 := cell_at (j := 2) q8 rfl; have u3 := cell_at (j := 3) q8 rfl; have y0 := cell_at (j := 0) q5 rfl; have y1 := cell_at (j := 1) q5 rfl; have y2 := cell_at (j := 2) q5 rfl; have y3 := cell_at (j := 3) q5 rfl; have HQb3 := Lib.hid q8; have HQb2 := Lib.hid q5; clear q8 q5; clear hb))
              go_upto_region 12 with (first
                | (have hgd := HRc.out; go_at_call 10; with_reducible refine (HKU.out _ (by exact HRc.out)).mono ?_; rintro e wd ⟨rfl, hb⟩; clear hgd; have HRd := Lib.hid (bth HRc.out hb); have HQd3 := Lib.hid (rowKeep hb HQc3.out); clear hb))
              clear u0 u1 u2 u3 y0 y1 y2 y3
              have hlt4 := lt_of_block HQd3.out
              have u0 := cell_at (j := 0) HQd3.out rfl
              have u1 := cell_at (j := 1) HQd3.out rfl
              have u2 := cell_at (j := 2) HQd3.out rfl
              have u3 := cell_at (j := 3) HQd3.out rfl
              go_upto_region 13 with (fail)
              clear u0 u1 u2 u3
              have HR_wd := Lib.hid HRd.out
              have HU_wd := Lib.hid HQd3.out
              have b1 := alloc_at wd (.cells #[.int .i64 U.op, .int .i64 U.rel, .slice U.aa U.an U.ac, .slice U.ka U.kn U.kc] 26)
              have b2 := alloc_at (wd.alloc (.cells #[.int .i64 U.op, .int .i64 U.rel, .slice U.aa U.an U.ac, .slice U.ka U.kn U.kc] 26)) (.cells #[.int .i64 4, .int .i64 0, .slice none 0 0, .slice (some ⟨wd.heap.size, 0, none⟩) 1 1] 26)
              rw [World.size_alloc] at b2
              have b3 := alloc_old (o := .cells #[.int .i64 4, .int .i64 0, .slice none 0 0, .slice (some ⟨wd.heap.size, 0, none⟩) 1 1] 26) b1
              have hbn : Below wd.heap.size wd ((wd.alloc (.cells #[.int .i64 U.op, .int .i64 U.rel, .slice U.aa U.an U.ac, .slice U.ka U.kn U.kc] 26)).alloc (.cells #[.int .i64 4, .int .i64 0, .slice none 0 0, .slice (some ⟨wd.heap.size, 0, none⟩) 1 1] 26)) := ((Below.refl _ _).alloc (Nat.le_refl _) _).alloc (by simp) _
              generalize ((wd.alloc (.cells #[.int .i64 U.op, .int .i64 U.rel, .slice U.aa U.an U.ac, .slice U.ka U.kn U.kc] 26)).alloc (.cells #[.int .i64 4, .int .i64 0, .slice none 0 0, .slice (some ⟨wd.heap.size, 0, none⟩) 1 1] 26)) = W5 at *
              have HB_W5 := Lib.hid hbn
              have HR_W5 := Lib.hid (bth HR_wd.out hbn)
              have HU_W5 := Lib.hid (rowKeep hbn HU_wd.out)
              have HN_W5 := Lib.hid b2
              have HSN_W5 := Lib.hid b3
              clear b1 b2 b3 hbn
              obtain ⟨u0, u1, u2, u3⟩ := ex4 HU_W5.out
              obtain ⟨n0, n1, n2, n3⟩ := ex4 HN_W5.out
              have hltu := lt_of_block HU_W5.out
              have hltn := lt_of_block HN_W5.out
              go_upto_region 14 with (fail)
              clear u0 u1 u2 u3 n0 n1 n2 n3 hltu hltn
              have b1 := alloc_at W5 (.cells #[.int .i64 U.op, .int .i64 U.rel, .slice U.aa U.an U.ac, .slice U.ka U.kn U.kc, .int .i64 4, .int .i64 0, .slice none 0 0, .slice (some ⟨wd.heap.size, 0, none⟩) 1 1] 26)
              have b2 := alloc_at (W5.alloc (.cells #[.int .i64 U.op, .int .i64 U.rel, .slice U.aa U.an U.ac, .slice U.ka U.kn U.kc, .int .i64 4, .int .i64 0, .slice none 0 0, .slice (some ⟨wd.heap.size, 0, none⟩) 1 1] 26)) (.cells #[.int .i64 5, .int .i64 0, .slice none 0 0, .slice (some ⟨W5.heap.size, 0, none⟩) 2 2] 26)
              rw [World.size_alloc] at b2
              have b3 := alloc_old (o := .cells #[.int .i64 5, .int .i64 0, .slice none 0 0, .slice (some ⟨W5.heap.size, 0, none⟩) 2 2] 26) b1
              have hbn : Below W5.heap.size W5 ((W5.alloc (.cells #[.int .i64 U.op, .int .i64 U.rel, .slice U.aa U.an U.ac, .slice U.ka U.kn U.kc, .int .i64 4, .int .i64 0, .slice none 0 0, .slice (some ⟨wd.heap.size, 0, none⟩) 1 1] 26)).alloc (.cells #[.int .i64 5, .int .i64 0, .slice none 0 0, .slice (some ⟨W5.heap.size, 0, none⟩) 2 2] 26)) := ((Below.refl _ _).alloc (Nat.le_refl _) _).alloc (by simp) _
              generalize ((W5.alloc (.cells #[.int .i64 U.op, .int .i64 U.rel, .slice U.aa U.an U.ac, .slice U.ka U.kn U.kc, .int .i64 4, .int .i64 0, .slice none 0 0, .slice (some ⟨wd.heap.size, 0, none⟩) 1 1] 26)).alloc (.cells #[.int .i64 5, .int .i64 0, .slice none 0 0, .slice (some ⟨W5.heap.size, 0, none⟩) 2 2] 26)) = W6 at *
              have HB_W6 := Lib.hid hbn
              have HR_W6 := Lib.hid (bth HR_W5.out hbn)
              have HU_W6 := Lib.hid (rowKeep hbn HU_W5.out)
              have HN_W6 := Lib.hid (rowKeep hbn HN_W5.out)
              have HSN_W6 := Lib.hid (rowKeep hbn HSN_W5.out)
              have HA_W6 := Lib.hid b2
              have HSA_W6 := Lib.hid b3
              clear b1 b2 b3 hbn
              obtain ⟨u0, u1, u2, u3⟩ := ex4 HU_W6.out
              obtain ⟨a0, a1, a2, a3⟩ := ex4 HA_W6.out
              have hltu := lt_of_block HU_W6.out
              have hlta := lt_of_block HA_W6.out
              go_upto_region 15 with (fail)
              clear u0 u1 u2 u3 a0 a1 a2 a3 hltu hlta
              have b1 := alloc_at W6 (.cells #[.int .i64 U.op, .int .i64 U.rel, .slice U.aa U.an U.ac, .slice U.ka U.kn U.kc, .int .i64 U.op, .int .i64 U.rel, .slice U.aa U.an U.ac, .slice U.ka U.kn U.kc, .int .i64 5, .int .i64 0, .slice none 0 0, .slice (some ⟨W5.heap.size, 0, none⟩) 2 2] 26)
              have b2 := alloc_at (W6.alloc (.cells #[.int .i64 U.op, .int .i64 U.rel, .slice U.aa U.an U.ac, .slice U.ka U.kn U.kc, .int .i64 U.op, .int .i64 U.rel, .slice U.aa U.an U.ac, .slice U.ka U.kn U.kc, .int .i64 5, .int .i64 0, .slice none 0 0, .slice (some ⟨W5.heap.size, 0, none⟩) 2 2] 26)) (.cells #[.int .i64 6, .int .i64 0, .slice none 0 0, .slice (some ⟨W6.heap.size, 0, none⟩) 3 3] 26)
              rw [World.size_alloc] at b2
              have b3 := alloc_old (o := .cells #[.int .i64 6, .int .i64 0, .slice none 0 0, .slice (some ⟨W6.heap.size, 0, none⟩) 3 3] 26) b1
              have hbn : Below W6.heap.size W6 ((W6.alloc (.cells #[.int .i64 U.op, .int .i64 U.rel, .slice U.aa U.an U.ac, .slice U.ka U.kn U.kc, .int .i64 U.op, .int .i64 U.rel, .slice U.aa U.an U.ac, .slice U.ka U.kn U.kc, .int .i64 5, .int .i64 0, .slice none 0 0, .slice (some ⟨W5.heap.size, 0, none⟩) 2 2] 26)).alloc (.cells #[.int .i64 6, .int .i64 0, .slice none 0 0, .slice (some ⟨W6.heap.size, 0, none⟩) 3 3] 26)) := ((Below.refl _ _).alloc (Nat.le_refl _) _).alloc (by simp) _
              generalize ((W6.alloc (.cells #[.int .i64 U.op, .int .i64 U.rel, .slice U.aa U.an U.ac, .slice U.ka U.kn U.kc, .int .i64 U.op, .int .i64 U.rel, .slice U.aa U.an U.ac, .slice U.ka U.kn U.kc, .int .i64 5, .int .i64 0, .slice none 0 0, .slice (some ⟨W5.heap.size, 0, none⟩) 2 2] 26)).alloc (.cells #[.int .i64 6, .int .i64 0, .slice none 0 0, .slice (some ⟨W6.heap.size, 0, none⟩) 3 3] 26)) = W7 at *
              have HB_W7 := Lib.hid hbn
              have HR_W7 := Lib.hid (bth HR_W6.out hbn)
              have HU_W7 := Lib.hid (rowKeep hbn HU_W6.out)
              have HN_W7 := Lib.hid (rowKeep hbn HN_W6.out)
              have HSN_W7 := Lib.hid (rowKeep hbn HSN_W6.out)
              have HA_W7 := Lib.hid (rowKeep hbn HA_W6.out)
              have HSA_W7 := Lib.hid (rowKeep hbn HSA_W6.out)
              have HO_W7 := Lib.hid b2
              have HSO_W7 := Lib.hid b3
              clear b1 b2 b3 hbn
              have hbw := bth HB_W5.out (bth HB_W6.out HB_W7.out)
              have TU : AroT L len t (treeE L len t U) W7 U 90 := ⟨HUX.out.1, HUX.out.2.1, HUX.out.2.2.1, HUX.out.2.2.2, ((HXU.out.next HRd.out).sub (fun _ _ _ => trivial)).next hbw, rfl⟩
              have TN : AroT L len t (treeE L len t U) W7 (upX ((4 : Nat) : Int) wd.heap.size 1 (fun _ => U)) 91 := AroT.up (.inl ⟨rfl, rfl⟩) (by omega) (fun _ _ => TU) HSN_W7.out (fun i hi r u hu => by
                obtain rfl : i = 0 := by omega
                rcases xtC_get4 U hu with ⟨rfl, rfl⟩ | ⟨rfl, rfl⟩ | ⟨rfl, rfl⟩ | ⟨rfl, rfl⟩ <;> rfl)
              have TA : AroT L len t (treeE L len t U) W7 (upX ((5 : Nat) : Int) W5.heap.size 2 (fun i => if i = 0 then U else upX ((4 : Nat) : Int) wd.heap.size 1 (fun _ => U))) 92 := AroT.up (.inr ⟨.inl rfl, by omega⟩) (by omega) (fun i _ => by
                by_cases e : i = 0
                · rw [if_pos e]; exact TU.less (by omega)
                · rw [if_neg e]; exact TN) HSA_W7.out (fun i hi r u hu => by
                have hi2 : i = 0 ∨ i = 1 := by omega
                rcases hi2 with rfl | rfl
                · rw [if_pos rfl] at hu
                  rcases xtC_get4 U hu with ⟨rfl, rfl⟩ | ⟨rfl, rfl⟩ | ⟨rfl, rfl⟩ | ⟨rfl, rfl⟩ <;> rfl
                · rw [if_neg (by decide)] at hu
                  rcases xtC_get4 _ hu with ⟨rfl, rfl⟩ | ⟨rfl, rfl⟩ | ⟨rfl, rfl⟩ | ⟨rfl, rfl⟩ <;> rfl)
              have TO : AroT L len t (treeE L len t U) W7 (upX ((6 : Nat) : Int) W6.heap.size 3 (fun i => if i < 2 then U else upX ((5 : Nat) : Int) W5.heap.size 2 (fun i => if i = 0 then U else upX ((4 : Nat) : Int) wd.heap.size 1 (fun _ => U)))) 93 := AroT.up (.inr ⟨.inr rfl, by omega⟩) (by omega) (fun i _ => by
                by_cases e : i < 2
                · rw [if_pos e]; exact TU.less (by omega)
                · rw [if_neg e]; exact TA) HSO_W7.out (fun i hi r u hu => by
                have hi2 : i = 0 ∨ i = 1 ∨ i = 2 := by omega
                rcases hi2 with rfl | rfl | rfl
                · rw [if_pos (by decide)] at hu
                  rcases xtC_get4 U hu with ⟨rfl, rfl⟩ | ⟨rfl, rfl⟩ | ⟨rfl, rfl⟩ | ⟨rfl, rfl⟩ <;> rfl
                · rw [if_pos (by decide)] at hu
                  rcases xtC_get4 U hu with ⟨rfl, rfl⟩ | ⟨rfl, rfl⟩ | ⟨rfl, rfl⟩ | ⟨rfl, rfl⟩ <;> rfl
                · rw [if_neg (by decide)] at hu
                  rcases xtC_get4 _ hu with ⟨rfl, rfl⟩ | ⟨rfl, rfl⟩ | ⟨rfl, rfl⟩ | ⟨rfl, rfl⟩ <;> rfl)
              have HW7 := Lib.hid (bth HB3.out HR_W7.out)
              have HCN := Lib.hid (fun wx (hb : Below W7.heap.size W7 wx) => (show Calls Tryz.prog 10 #[.slice ao len cap, .int .i64 t, .agg #[.int .i64 4, .int .i64 0, .slice none 0 0, .slice (some ⟨wd.heap.size, 0, none⟩) 1 1]] wx fun e w' => e = .returned (.int .i64 F) ∧ Below wx.heap.size wx w' from by
                have h := HK.out _ _ wx (bth HW7.out hb) (TN.held hb).lies TN.tx TN.sm TN.fw (by have := TN.dp; omega)
                rw [check_tree TN.te, HF.out] at h
                exact h))
              have HCA := Lib.hid (fun wx (hb : Below W7.heap.size W7 wx) => (show Calls Tryz.prog 10 #[.slice ao len cap, .int .i64 t, .agg #[.int .i64 5, .int .i64 0, .slice none 0 0, .slice (some ⟨W5.heap.size, 0, none⟩) 2 2]] wx fun e w' => e = .returned (.int .i64 F) ∧ Below wx.heap.size wx w' from by
                have h := HK.out _ _ wx (bth HW7.out hb) (TA.held hb).lies TA.tx TA.sm TA.fw (by have := TA.dp; omega)
                rw [check_tree TA.te, HF.out] at h
                exact h))
              have HCO := Lib.hid (fun wx (hb : Below W7.heap.size W7 wx) => (show Calls Tryz.prog 10 #[.slice ao len cap, .int .i64 t, .agg #[.int .i64 6, .int .i64 0, .slice none 0 0, .slice (some ⟨W6.heap.size, 0, none⟩) 3 3]] wx fun e w' => e = .returned (.int .i64 F) ∧ Below wx.heap.size wx w' from by
                have h := HK.out _ _ wx (bth HW7.out hb) (TO.held hb).lies TO.tx TO.sm TO.fw (by have := TO.dp; omega)
                rw [check_tree TO.te, HF.out] at h
                exact h))
              have hff : (F == F) = true := beq_self_eq_true F
              have HR7 := Lib.hid (Below.refl W7.heap.size W7)
              clear TU TN TA TO hbw HK HKU HPU HPV HXU HXT HUX HF HSM HBP
              obtain ⟨n0, n1, n2, n3⟩ := ex4 HN_W7.out
              obtain ⟨a0, a1, a2, a3⟩ := ex4 HA_W7.out
              obtain ⟨o0, o1, o2, o3⟩ := ex4 HO_W7.out
              go_wp2_with (first
                | (have hgd := HRo.out; go_at_call 9; with_reducible refine (HAW.out _ (bth HW7.out HRo.out)).mono ?_; rintro e wz ⟨rfl, hb⟩; clear hgd; have HRz := Lib.hid (bth (bth HW7.out HRo.out) hb); clear hb)
                | (have hgd := HRy.out; go_at_call 10; with_reducible refine (HCO.out _ (by exact HRy.out)).mono ?_; rintro e wo ⟨rfl, hb⟩; clear hgd; have HRo := Lib.hid (bth HRy.out hb); clear hb)
                | (have hgd := HRx.out; go_at_call 10; with_reducible refine (HCA.out _ (by exact HRx.out)).mono ?_; rintro e wy ⟨rfl, hb⟩; clear hgd; have HRy := Lib.hid (bth HRx.out hb); clear o0 o1 o2 o3; obtain ⟨o0, o1, o2, o3⟩ := ex4 (rowKeep HRy.out HO_W7.out); clear hb)
                | (go_at_call 10; with_reducible refine (HCN.out _ (by exact HR7.out)).mono ?_; rintro e wx ⟨rfl, hb⟩; have HRx := Lib.hid hb; clear a0 a1 a2 a3 o0 o1 o2 o3; obtain ⟨a0, a1, a2, a3⟩ := ex4 (rowKeep HRx.out HA_W7.out); obtain ⟨o0, o1, o2, o3⟩ := ex4 (rowKeep HRx.out HO_W7.out); clear hb))
              go_ret
              exact ⟨rfl, HRz.out⟩
end Go.Proofs.YtcojomkpogikiaaGreatDoor
