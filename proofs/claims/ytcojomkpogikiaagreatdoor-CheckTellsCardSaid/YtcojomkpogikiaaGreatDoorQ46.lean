/- Chapter 18's laws, walked over what the code's three functions answer (CheckC): what they are to answer, and the chapter's example. -/
import Derived.Test.YtcojomkpogikiaaGreatDoorQ30
import Derived.Test.YtcojomkpogikiaaGreatDoorQ31
import Derived.Test.YtcojomkpogikiaaGreatDoorQ38
import Derived.Test.YtcojomkpogikiaaGreatDoorQ45
namespace Go.Proofs.YtcojomkpogikiaaGreatDoor
open Go.RowKit
set_option linter.unusedVariables false
set_option linter.unusedSimpArgs false
/-- what the code's functions answer -/
structure CheckC : Prop where
  chk : ∀ (S : Nat → Prop) (L : Nat → Pa.TypeV) (ao : Option Addr) (len cap : Nat) (t : Int) (T : XT) (w : World), len ≤ 100 → len ≤ cap → (∀ i, i < len → Pa.TypeAt w ao i (L i)) → (∀ i, i < len → (L i).ilen ≤ (L i).icap) → XAt w S T → XTx T → XSm T → XFw T → deepX T ≤ 100 → LibAt w →
    Calls Tryz.prog 10 #[.slice ao len cap, .int .i64 t, .agg #[.int .i64 T.op, .int .i64 T.rel, .slice T.aa T.an T.ac, .slice T.ka T.kn T.kc]] w fun e w' => e = .returned (.int .i64 (checkE L len t T)) ∧ Below w.heap.size w w'
  dat : ∀ (L : Nat → Pa.TypeV) (ao : Option Addr) (len cap : Nat) (t : Int) (a b : Opd) (w : World), len ≤ 100 → len ≤ cap → (∀ i, i < len → Pa.TypeAt w ao i (L i)) → (∀ i, i < len → (L i).ilen ≤ (L i).icap) → a.text.size ≤ 1000 → b.text.size ≤ 1000 → OpX a → OpX b → LibAt w →
    Calls Tryz.prog 15 #[.slice ao len cap, .int .i64 t, .agg #[.int .i64 a.kind, .string a.text, .bool a.neg, .int .u64 a.num], .agg #[.int .i64 b.kind, .string b.text, .bool b.neg, .int .u64 b.num]] w fun e w' => e = .returned (Pa.datV (datE L len t a b)) ∧ Below w.heap.size w w'
/-- trees that are the same fit the same -/
theorem arg_same {L : Nat → Pa.TypeV} {len : Nat} {t : Int} {f g : Nat → Opd} {n : Nat} (h : ∀ i, i < n → f i = g i) : argE L len t f n = argE L len t g n := Pa.firstE_congr (fun i hi => by rw [h i hi])
theorem own_same {L : Nat → Pa.TypeV} {len : Nat} {t : Int} {T U : XT} (h1 : T.op = U.op) (h2 : T.rel = U.rel) (h3 : T.an = U.an) (h4 : ∀ i, i < T.an → T.arg i = U.arg i) (h5 : T.kn = U.kn) : ownE L len t T = ownE L len t U := by
  unfold ownE
  rw [arg_same h4, ← h1, ← h2, ← h3, ← h5]
  by_cases hb : badF T.op T.rel T.an T.kn = true
  · rw [if_pos hb, if_pos hb]
  · rw [if_neg hb, if_neg hb]
    have hg : goE L len t T.op T.rel T.arg = goE L len t T.op T.rel U.arg := by
      unfold goE
      by_cases o1 : T.op = 1
      · rw [if_pos o1, if_pos o1]
        have : T.an = 2 := by unfold badF at hb; rw [if_pos o1] at hb; simp at hb; omega
        rw [h4 0 (by omega), h4 1 (by omega)]
      · rw [if_neg o1, if_neg o1]
        by_cases o2 : T.op = 2
        · rw [if_pos o2, if_pos o2]
          have : T.an = 3 := by unfold badF at hb; rw [if_neg o1, if_pos o2] at hb; simp at hb; omega
          rw [h4 0 (by omega), h4 1 (by omega), h4 2 (by omega)]
        · rw [if_neg o2, if_neg o2]
          by_cases o3 : T.op = 3
          · rw [if_pos o3, if_pos o3]
            have : T.an = 2 := by unfold badF at hb; rw [if_neg o1, if_neg o2, if_pos o3] at hb; simp at hb; omega
            rw [h4 0 (by omega), h4 1 (by omega)]
          · rw [if_neg o3, if_neg o3]
    rw [hg]
theorem tree_same (L : Nat → Pa.TypeV) (len : Nat) (t : Int) : ∀ T U : XT, SameX T U → treeE L len t T = treeE L len t U := by
  refine XT.ind fun T ih U h => ?_
  obtain ⟨h1, h2, h3, h4, h5, h6⟩ := (sameX_iff T U).1 h
  rw [treeE_eq, treeE_eq, own_same h1 h2 h3 h4 h5, ← h5, Pa.firstE_congr (fun i hi => ih i hi _ (h6 i hi))]
theorem check_same (L : Nat → Pa.TypeV) (len : Nat) (t : Int) (T U : XT) (h : SameX T U) : checkE L len t T = checkE L len t U := by
  unfold checkE
  rw [tree_same L len t T U h]
def exCC : Nat → Pa.ItemV := fun i => if i = 0 then ⟨⟨#[97]⟩, 0, 0, false, false⟩ else ⟨⟨#[115]⟩, 0, 1, false, false⟩
def exC (g : Nat) : Nat → Pa.TypeV := fun i => if i = 0 then Pa.noneT 2 0 0 else if i = 1 then Pa.noneT 10 3 0 else ⟨13, ⟨#[80]⟩, 0, 0, 0, some ⟨g, 0, none⟩, 2, 2, exCC⟩
def exCI : Obj := .cells #[.string ⟨#[97]⟩, .int .u64 0, .int .i64 0, .bool false, .bool false, .string ⟨#[115]⟩, .int .u64 0, .int .i64 1, .bool false, .bool false] 55
def exCT (g : Nat) : Obj := .cells #[.int .i64 2, .string ⟨#[]⟩, .int .i64 0, .int .i64 0, .int .i64 0, .slice none 0 0, .int .i64 10, .string ⟨#[]⟩, .int .i64 3, .int .i64 0, .int .i64 0, .slice none 0 0, .int .i64 13, .string ⟨#[80]⟩, .int .i64 0, .int .i64 0, .int .i64 0, .slice (some ⟨g, 0, none⟩) 2 2] 52
theorem exC_at (w : World) : ∀ i, i < 3 → Pa.TypeAt ((w.alloc exCI).alloc (exCT w.heap.size)) (some ⟨w.heap.size + 1, 0, none⟩) i (exC w.heap.size i) := by
  intro i hi
  have hq := alloc_at (w.alloc exCI) (exCT w.heap.size)
  rw [show (w.alloc exCI).heap.size = w.heap.size + 1 by simp] at hq
  have hb : ((w.alloc exCI).alloc (exCT w.heap.size)).heap[w.heap.size]? = some exCI := rowKeep ((Below.refl _ _).alloc (Nat.le_refl _) _) (alloc_at w exCI)
  have h3 : i = 0 ∨ i = 1 ∨ i = 2 := by omega
  rcases h3 with rfl | rfl | rfl
  · exact ⟨_, 0, rfl, cell_at hq rfl, cell_at hq rfl, cell_at hq rfl, cell_at hq rfl, cell_at hq rfl, cell_at hq rfl, (show Pa.TypeWf (Pa.noneT 2 0 0) from by unfold Pa.TypeWf; decide), ⟨(show (0 : Nat) ≤ 3518437208780 from by decide), fun j hj => absurd hj (Nat.not_lt_zero j)⟩⟩
  · exact ⟨_, 0, rfl, cell_at hq rfl, cell_at hq rfl, cell_at hq rfl, cell_at hq rfl, cell_at hq rfl, cell_at hq rfl, (show Pa.TypeWf (Pa.noneT 10 3 0) from by unfold Pa.TypeWf; decide), ⟨(show (0 : Nat) ≤ 3518437208780 from by decide), fun j hj => absurd hj (Nat.not_lt_zero j)⟩⟩
  · refine ⟨_, 0, rfl, cell_at hq rfl, cell_at hq rfl, cell_at hq rfl, cell_at hq rfl, cell_at hq rfl, cell_at hq rfl, (show Pa.TypeWf ⟨13, ⟨#[80]⟩, 0, 0, 0, some ⟨w.heap.size, 0, none⟩, 2, 2, exCC⟩ from by unfold Pa.TypeWf; dsimp only; decide), ?_⟩
    refine ⟨by show 2 ≤ _; decide, fun j hj => ?_⟩
    have hj2 : j = 0 ∨ j = 1 := by have : j < 2 := hj; omega
    rcases hj2 with rfl | rfl
    · exact ⟨_, 0, rfl, cell_at hb rfl, cell_at hb rfl, cell_at hb rfl, cell_at hb rfl, cell_at hb rfl, (show Pa.ItemWf ⟨⟨#[97]⟩, 0, 0, false, false⟩ from by unfold Pa.ItemWf; decide)⟩
    · exact ⟨_, 0, rfl, cell_at hb rfl, cell_at hb rfl, cell_at hb rfl, cell_at hb rfl, cell_at hb rfl, (show Pa.ItemWf ⟨⟨#[115]⟩, 0, 1, false, false⟩ from by unfold Pa.ItemWf; decide)⟩
def exS1 : List UInt8 := [97, 32, 61, 32, 39, 120, 39]
def exS2 : List UInt8 := [115, 32, 76, 73, 75, 69, 32, 39, 120, 39]
def exT1 : XT := mkX 1 1 [⟨1, bs [97], false, 0⟩, ⟨3, bs [120], false, 0⟩] []
def exT2 : XT := mkX 3 0 [⟨1, bs [115], false, 0⟩, ⟨3, bs [120], false, 0⟩] []
theorem ex_parse1 : parseA exS1 = .good exT1 := by kernel_rfl
theorem ex_parse2 : parseA exS2 = .good exT2 := by kernel_rfl
theorem exC_check1 (g : Nat) : checkE (exC g) 3 2 exT1 = 8 := by kernel_rfl
theorem exC_check2 (g : Nat) : checkE (exC g) 3 2 exT2 = 0 := by kernel_rfl
theorem xtx_same : ∀ T U : XT, SameX T U → XTx U → XTx T := by
  refine XT.ind fun T ih U h hu => ?_
  obtain ⟨h1, h2, h3, h4, h5, h6⟩ := (sameX_iff T U).1 h
  obtain ⟨k1, k2⟩ := (xtx_iff U).1 hu
  exact (xtx_iff T).2 ⟨fun i hi => by rw [h4 i hi]; exact k1 i (by omega), fun i hi => ih i hi _ (h6 i hi) (k2 i (by omega))⟩
theorem xsm_same : ∀ T U : XT, SameX T U → XSm U → XSm T := by
  refine XT.ind fun T ih U h hu => ?_
  obtain ⟨h1, h2, h3, h4, h5, h6⟩ := (sameX_iff T U).1 h
  obtain ⟨k1, k2⟩ := (xsm_iff U).1 hu
  exact (xsm_iff T).2 ⟨fun i hi => by rw [h4 i hi]; exact k1 i (by omega), fun i hi => ih i hi _ (h6 i hi) (k2 i (by omega))⟩
theorem maxTo_congr18 {f g : Nat → Nat} : ∀ n, (∀ i, i < n → f i = g i) → maxTo f n = maxTo g n
  | 0, _ => rfl
  | n + 1, h => by rw [maxTo, maxTo, maxTo_congr18 n (fun i hi => h i (by omega)), h n (by omega)]
theorem deep_same : ∀ T U : XT, SameX T U → deepX T = deepX U := by
  refine XT.ind fun T ih U h => ?_
  obtain ⟨h1, h2, h3, h4, h5, h6⟩ := (sameX_iff T U).1 h
  rw [deepX_eq, deepX_eq, ← h5, maxTo_congr18 T.kn (fun i hi => ih i hi _ (h6 i hi))]
theorem ex_tx (op : Int) (o u : Opd) (ho : OpX o) (hu : OpX u) : XTx (mkX op (if op = 1 then 1 else 0) [o, u] []) := by
  refine (xtx_iff _).2 ⟨fun i hi => ?_, fun i hi => absurd hi (Nat.not_lt_zero i)⟩
  have h2 : i = 0 ∨ i = 1 := by have : i < 2 := hi; omega
  rcases h2 with rfl | rfl
  · exact ho
  · exact hu
theorem ex_sm (op rel : Int) (o u : Opd) (ho : o.text.size ≤ 1000000) (hu : u.text.size ≤ 1000000) : XSm (mkX op rel [o, u] []) := by
  refine (xsm_iff _).2 ⟨fun i hi => ?_, fun i hi => absurd hi (Nat.not_lt_zero i)⟩
  have h2 : i = 0 ∨ i = 1 := by have : i < 2 := hi; omega
  rcases h2 with rfl | rfl
  · exact ho
  · exact hu
theorem ex_op (k : Int) (l : List UInt8) (h : l.length ≤ 100) : OpX ⟨k, bs l, false, 0⟩ := ⟨by show (bs l).size ≤ _; rw [bs_size]; omega, Int.le_refl _, by show (0 : Int) < 18446744073709551616; decide⟩
theorem ex1_facts (T : XT) (h : SameX T exT1) : XTx T ∧ XSm T ∧ deepX T ≤ 100 :=
  ⟨xtx_same T _ h (ex_tx 1 _ _ (ex_op 1 [97] (by decide)) (ex_op 3 [120] (by decide))), xsm_same T _ h (ex_sm 1 1 _ _ (by decide) (by decide)), by rw [deep_same T _ h]; decide⟩
theorem ex2_facts (T : XT) (h : SameX T exT2) : XTx T ∧ XSm T ∧ deepX T ≤ 100 :=
  ⟨xtx_same T _ h (ex_tx 3 _ _ (ex_op 1 [115] (by decide)) (ex_op 3 [120] (by decide))), xsm_same T _ h (ex_sm 3 0 _ _ (by decide) (by decide)), by rw [deep_same T _ h]; decide⟩
theorem ex1_few (T : XT) (h : SameX T exT1) : XFw T := xfw_same T _ h ((xfw_iff _).2 ⟨by decide, by decide, fun i hi => absurd hi (Nat.not_lt_zero i)⟩)
theorem ex2_few (T : XT) (h : SameX T exT2) : XFw T := xfw_same T _ h ((xfw_iff _).2 ⟨by decide, by decide, fun i hi => absurd hi (Nat.not_lt_zero i)⟩)
theorem exC_cap (g : Nat) : ∀ i, i < 3 → (exC g i).ilen ≤ (exC g i).icap := by
  intro i hi
  have h3 : i = 0 ∨ i = 1 ∨ i = 2 := by omega
  rcases h3 with rfl | rfl | rfl <;> exact Nat.le_refl _
set_option maxRecDepth 100000 in
set_option maxHeartbeats 4000000 in
theorem awake18 (C : CheckC) (w : World) (hV : LibAt w) : Calls Tryz.prog 9 #[] w fun e w' => e = .returned (.bool true) ∧ Below w.heap.size w w' := by
  have HB0 := Lib.hid (((Below.refl w.heap.size w).alloc (Nat.le_refl _) exCI).alloc (by simp) (exCT w.heap.size))
  have HP1 := Lib.hid (fun wx (h : LibAt wx) => (show Calls Tryz.prog 19 #[.string ⟨#[97, 32, 61, 32, 39, 120, 39]⟩] wx (ParseTo wx (.good exT1)) from by have := parse_any exS1 (by decide) wx h; rw [ex_parse1] at this; exact this))
  have HP2 := Lib.hid (fun wx (h : LibAt wx) => (show Calls Tryz.prog 19 #[.string ⟨#[115, 32, 76, 73, 75, 69, 32, 39, 120, 39]⟩] wx (ParseTo wx (.good exT2)) from by have := parse_any exS2 (by decide) wx h; rw [ex_parse2] at this; exact this))
  have HC1 := Lib.hid (fun (T : XT) (h : SameX T exT1) (S : Nat → Prop) wx (hb : Below ((w.alloc exCI).alloc (exCT w.heap.size)).heap.size ((w.alloc exCI).alloc (exCT w.heap.size)) wx) (hx : XAt wx S T) (hv : LibAt wx) => by
    have := C.chk S (exC w.heap.size) (some ⟨w.heap.size + 1, 0, none⟩) 3 3 2 T wx (by decide) (Nat.le_refl _) (hold18 (exC_at w) hb) (exC_cap _) hx (ex1_facts T h).1 (ex1_facts T h).2.1 (ex1_few T h) (ex1_facts T h).2.2 hv
    rw [check_same _ _ _ T _ h, exC_check1] at this
    exact this)
  have HC2 := Lib.hid (fun (T : XT) (h : SameX T exT2) (S : Nat → Prop) wx (hb : Below ((w.alloc exCI).alloc (exCT w.heap.size)).heap.size ((w.alloc exCI).alloc (exCT w.heap.size)) wx) (hx : XAt wx S T) (hv : LibAt wx) => by
    have := C.chk S (exC w.heap.size) (some ⟨w.heap.size + 1, 0, none⟩) 3 3 2 T wx (by decide) (Nat.le_refl _) (hold18 (exC_at w) hb) (exC_cap _) hx (ex2_facts T h).1 (ex2_facts T h).2.1 (ex2_few T h) (ex2_facts T h).2.2 hv
    rw [check_same _ _ _ T _ h, exC_check2] at this
    exact this)
  have HV := Lib.hid hV
  unfold exCI exCT at HB0 HC1 HC2
  obtain ⟨W0, hW0⟩ : ∃ W0, ((w.alloc (.cells #[.string ⟨#[97]⟩, .int .u64 0, .int .i64 0, .bool false, .bool false, .string ⟨#[115]⟩, .int .u64 0, .int .i64 1, .bool false, .bool false] 55)).alloc (.cells #[.int .i64 2, .string ⟨#[]⟩, .int .i64 0, .int .i64 0, .int .i64 0, .slice none 0 0, .int .i64 10, .string ⟨#[]⟩, .int .i64 3, .int .i64 0, .int .i64 0, .slice none 0 0, .int .i64 13, .string ⟨#[80]⟩, .int .i64 0, .int .i64 0, .int .i64 0, .slice (some ⟨w.heap.size, 0, none⟩) 2 2] 52)) = W0 := ⟨_, rfl⟩
  rw [hW0] at HB0 HC1 HC2
  clear hV
  go_enter Tryz.func9, Tryz.ntmps9
  go_upto_region 2 with (fail)
  clear hW0
  go_upto_region 3 with (go_at_call 19; refine (HP1.out _ (by exact HV.out.held HB0.out)).mono ?_; rintro e w1 h1; obtain ⟨hb, T, rfl, hs, hx⟩ := h1; have HB1 := Lib.hid hb; have HS1 := Lib.hid hs; have HX1 := Lib.hid hx; clear hb hs hx)
  have HQ1 := Lib.hid (rowKeep ((Below.refl (w1.alloc (.cells #[.int .i64 T.op, .int .i64 T.rel, .slice T.aa T.an T.ac, .slice T.ka T.kn T.kc] 26)).heap.size _).alloc (Nat.le_refl _) (.cells #[.int .i64 0, .int .i64 0] 57)) (alloc_at w1 (.cells #[.int .i64 T.op, .int .i64 T.rel, .slice T.aa T.an T.ac, .slice T.ka T.kn T.kc] 26)))
  have hB2 : Below w1.heap.size w1 ((w1.alloc (.cells #[.int .i64 T.op, .int .i64 T.rel, .slice T.aa T.an T.ac, .slice T.ka T.kn T.kc] 26)).alloc (.cells #[.int .i64 0, .int .i64 0] 57)) := ((Below.refl _ _).alloc (Nat.le_refl _) _).alloc (by simp) _
  have HB2 := Lib.hid hB2
  have HXT := Lib.hid (HX1.out.next hB2)
  generalize (w1.alloc (.cells #[.int .i64 T.op, .int .i64 T.rel, .slice T.aa T.an T.ac, .slice T.ka T.kn T.kc] 26)).alloc (.cells #[.int .i64 0, .int .i64 0] 57) = W2 at *
  have HW2 := Lib.hid (HB1.out.trans (HB2.out.mono HB1.out.size))
  have HV2 := Lib.hid (HV.out.held (HB0.out.trans (HW2.out.mono HB0.out.size)))
  clear hB2 HX1
  go_upto_region 4 with (go_at_call 19; refine (HP2.out _ (by exact HV2.out)).mono ?_; rintro e w3 h3; obtain ⟨hb, U, rfl, hs, hx⟩ := h3; have HB3 := Lib.hid hb; have HS3 := Lib.hid hs; have HX3 := Lib.hid hx; clear hb hs hx)
  have HQ3 := Lib.hid (rowKeep ((Below.refl (w3.alloc (.cells #[.int .i64 U.op, .int .i64 U.rel, .slice U.aa U.an U.ac, .slice U.ka U.kn U.kc] 26)).heap.size _).alloc (Nat.le_refl _) (.cells #[.int .i64 0, .int .i64 0] 57)) (alloc_at w3 (.cells #[.int .i64 U.op, .int .i64 U.rel, .slice U.aa U.an U.ac, .slice U.ka U.kn U.kc] 26)))
  have hB4 : Below w3.heap.size w3 ((w3.alloc (.cells #[.int .i64 U.op, .int .i64 U.rel, .slice U.aa U.an U.ac, .slice U.ka U.kn U.kc] 26)).alloc (.cells #[.int .i64 0, .int .i64 0] 57)) := ((Below.refl _ _).alloc (Nat.le_refl _) _).alloc (by simp) _
  have HB4 := Lib.hid hB4
  have HXU := Lib.hid (HX3.out.next hB4)
  generalize (w3.alloc (.cells #[.int .i64 U.op, .int .i64 U.rel, .slice U.aa U.an U.ac, .slice U.ka U.kn U.kc] 26)).alloc (.cells #[.int .i64 0, .int .i64 0] 57) = W4 at *
  have HW4 := Lib.hid (HB3.out.trans (HB4.out.mono HB3.out.size))
  have HA4 := Lib.hid (HW2.out.trans (HW4.out.mono HW2.out.size))
  have HV4 := Lib.hid (HV.out.held (HB0.out.trans (HA4.out.mono HB0.out.size)))
  have hq1 := rowKeep HW4.out HQ1.out
  obtain ⟨c0, c1, c2, c3⟩ := bx4 hq1
  have HXT4 := Lib.hid (HXT.out.next HW4.out)
  clear hB4 HX3 hq1
  go_wp2_with (first
    | (go_at_call 10; (with_reducible refine (HC2.out U HS3.out _ _ (by exact HA5.out) (by exact HXU5.out) (by exact HV5.out)).mono ?_); rintro e w6 ⟨rfl, hb⟩; have HB6 := Lib.hid hb; clear hb)
    | (go_at_call 10; (with_reducible refine (HC1.out T HS1.out _ _ (by exact HA4.out) (by exact HXT4.out) (by exact HV4.out)).mono ?_); rintro e w5 ⟨rfl, hb⟩; have HA5 := Lib.hid (HA4.out.trans (hb.mono HA4.out.size)); have HXU5 := Lib.hid (HXU.out.next hb); have HV5 := Lib.hid (HV4.out.held hb); have hq3 := rowKeep hb HQ3.out; have d0 := cell_at (j := 0) hq3 rfl; have d1 := cell_at (j := 1) hq3 rfl; have d2 := cell_at (j := 2) hq3 rfl; have d3 := cell_at (j := 3) hq3 rfl; have HB5 := Lib.hid hb; clear hb hq3))
  go_ret
  have HZ := HA5.out.trans (HB6.out.mono HA5.out.size)
  exact ⟨rfl, HB0.out.trans (HZ.mono HB0.out.size)⟩
end Go.Proofs.YtcojomkpogikiaaGreatDoor
/- The code of chapter 18: Check. -/
namespace Go.Proofs.YtcojomkpogikiaaGreatDoor
open Go Go.RowKit Go.Shelf
set_option linter.unusedVariables false
set_option linter.unusedSimpArgs false
attribute [local go_sem] Oper.semAt_some
theorem fault_neq18 (a b c d : Int) (w : World) : (binOp .neq 57 (.agg #[.int .i64 a, .int .i64 b]) (.agg #[.int .i64 c, .int .i64 d])).run Tryz.prog w = .ok (.bool (!((a == c) && (b == d)))) w := by
  have hu := Tryz.underlying57
  have hi := Tryz.underlying3
  have he := Tryz.underlying30
  have p0 := fun a c w => run_equalIn_int (P := Tryz.prog) w 9998 3 .i64 .i64 a c hi
  have p1 := fun a c w => run_equalIn_int (P := Tryz.prog) w 9998 30 .i64 .i64 a c he
  rw [run_neq_struct, run_equalIn_agg _ 9999 _ _ _ (by kernel_rfl) (by kernel_rfl)]
  simp only [Program.fieldsOf, hu]
  simp [Op.eqFields, go_sem, p0, p1]
  by_cases h1 : a = c <;> by_cases h2 : b = d <;> simp [h1, h2]
theorem fat_zero {one : Nat → Int} {len : Nat} (h : Pa.fErr one len = 0) : Pa.fAt one len = 0 := by
  have h32 : ¬ 32 < len := fun hl => by unfold Pa.fErr at h; rw [if_pos hl] at h; cases h
  unfold Pa.fErr at h
  rw [if_neg h32] at h
  have h2 := Pa.fault_none (one := one) (len := len) (by omega) (fun i hi => by rw [bne_eq_false_iff_eq]; exact firstE_all18 h i hi)
  unfold Pa.faultV at h2
  injection h2 with h2
  injection h2 with h2
  injection h2 with h3 h4
  injection h4 with h4 h5
  injection h4
theorem xat_nodes {w : World} {S : Nat → Prop} {T : XT} (p : Addr) (h : XAt w S T) : ∀ y, y ∈ nodesX p T → XAt w S y.2 := nodes_all (Q := XAt w S) (fun T h i hi => (((xat_iff T).1 h).2.2 i hi).2) T p h
theorem xsm_nodes {T : XT} (p : Addr) (h : XSm T) : ∀ y, y ∈ nodesX p T → XSm y.2 := nodes_all (Q := XSm) (fun T h i hi => ((xsm_iff T).1 h).2 i hi) T p h
theorem xfw_nodes {T : XT} (p : Addr) (h : XFw T) : ∀ y, y ∈ nodesX p T → XFw y.2 := nodes_all (Q := XFw) (fun T h i hi => ((xfw_iff T).1 h).2.2 i hi) T p h
theorem chk_end {V : World} {n0 D : Nat} {R : Int} {tmps : Array Value} {Q : Ending → World → Prop} (h4 : tmps.getD 6 undef = .pointer (some ⟨n0 + 1, 0, none⟩)) (hdk : V.heap[D]? = some (.deferred (some []))) (hr : V.heap[n0 + 1]? = some (.cells #[.int .i64 R] 30))
    (hQ : Q (.returned (.int .i64 R)) (V.putObj D (.deferred none))) : LeavesInM Fence.wide 3 Tryz.prog Tryz.f10 tmps Q [{ target := .collected D, args := #[] }] .returning V := by
  refine leavesM_mark (D := D) hdk ⟨.int .i64 R, ?_, hQ⟩
  have c1 := putD_cell hdk (cell_at (j := 0) hr rfl)
  rw [Array.getD_eq_getD_getElem?] at h4
  simp [results, Tryz.results10, asAddr, go_sem, h4, c1]
theorem chk_end0 {V : World} {n0 : Nat} {R : Int} {tmps : Array Value} {Q : Ending → World → Prop} (h4 : tmps.getD 6 undef = .pointer (some ⟨n0 + 1, 0, none⟩)) (hr : V.heap[n0 + 1]? = some (.cells #[.int .i64 R] 30))
    (hQ : Q (.returned (.int .i64 R)) V) : LeavesInM Fence.wide 3 Tryz.prog Tryz.f10 tmps Q [] .returning V := by
  refine leavesM_nil (v := .int .i64 R) ?_ hQ
  have c1 := cell_at (j := 0) hr rfl
  rw [Array.getD_eq_getD_getElem?] at h4
  simp [results, Tryz.results10, asAddr, go_sem, h4, c1]
/-- the boxes: x's, the result's, the scope's -/
structure CkSt (w : World) (T : XT) (ao : Option Addr) (len cap : Nat) (t : Int) (g : Nat) (W : World) : Prop where
  bx : W.heap[w.heap.size]? = some (.cells #[.int .i64 T.op, .int .i64 T.rel, .slice T.aa T.an T.ac, .slice T.ka T.kn T.kc] 26)
  rs : W.heap[w.heap.size + 1]? = some (.cells #[.int .i64 0] 30)
  sc : W.heap[g]? = some (.cells #[.slice ao len cap, .int .i64 t] 62)
  bel : Below w.heap.size w W
theorem CkSt.stays {w : World} {T : XT} {ao : Option Addr} {len cap : Nat} {t : Int} {g : Nat} {W W' : World} {B : Nat} (h : CkSt w T ao len cap t g W) (hst : Stays B W W') (hB : w.heap.size ≤ B) : CkSt w T ao len cap t g W' :=
  ⟨hst.same _ _ h.bx (.inl rfl), hst.same _ _ h.rs (.inl rfl), hst.same _ _ h.sc (.inl rfl), hst.below h.bel (Nat.le_refl _) hB⟩
theorem CkSt.next {w : World} {T : XT} {ao : Option Addr} {len cap : Nat} {t : Int} {g : Nat} {W W' : World} (h : CkSt w T ao len cap t g W) (hb : Below W.heap.size W W') : CkSt w T ao len cap t g W' :=
  ⟨rowKeep hb h.bx, rowKeep hb h.rs, rowKeep hb h.sc, h.bel.trans (hb.mono h.bel.size)⟩
set_option maxRecDepth 100000 in
set_option maxHeartbeats 8000000 in
theorem check18_any (S0 : Nat → Prop) (L : Nat → Pa.TypeV) (ao : Option Addr) (len cap : Nat) (t : Int) (T : XT) (w : World) (hlen : len ≤ 1000000) (hcap : len ≤ cap) (H : ∀ i, i < len → Pa.TypeAt w ao i (L i)) (HX : XAt w S0 T) (HSM : XSm T) (HFW : XFw T) :
    Calls Tryz.prog 10 #[.slice ao len cap, .int .i64 t, .agg #[.int .i64 T.op, .int .i64 T.rel, .slice T.aa T.an T.ac, .slice T.ka T.kn T.kc]] w fun e w' => e = .returned (.int .i64 (checkE L len t T)) ∧ Below w.heap.size w w' := by
  obtain ⟨R, hR⟩ : ∃ R, checkE L len t T = R := ⟨_, rfl⟩
  rw [hR]
  have HCK := Lib.hid (fun wx (hx : Below w.heap.size w wx) => Pa.check6_any ao len cap L hlen hcap wx (hold18 H hx))
  rw [Pa.fault_same] at HCK
  have hfz := fat_zero (one := Pa.oneR L len) (len := len)
  obtain ⟨E, hE⟩ : ∃ E, Pa.fErr (Pa.oneR L len) len = E := ⟨_, rfl⟩
  obtain ⟨A, hA⟩ : ∃ A, Pa.fAt (Pa.oneR L len) len = A := ⟨_, rfl⟩
  have hfv : Pa.faultV (Pa.oneR L len) len = .agg #[.int .i64 E, .int .i64 A] := by unfold Pa.faultV; rw [hE, hA]
  rw [hfv] at HCK
  rw [hE, hA] at hfz
  have hr : R = if E ≠ 0 ∨ t < 0 ∨ (len : Int) ≤ t then 8 else treeE L len t T := by rw [← hR]; unfold checkE; rw [hE]
  have hfq := fun wx => fault_neq18 E A 0 0 wx
  have h1 := alloc_at w (.cells #[.int .i64 T.op, .int .i64 T.rel, .slice T.aa T.an T.ac, .slice T.ka T.kn T.kc] 26)
  have h2 := alloc_at (w.alloc (.cells #[.int .i64 T.op, .int .i64 T.rel, .slice T.aa T.an T.ac, .slice T.ka T.kn T.kc] 26)) (.cells #[.int .i64 0] 30)
  rw [World.size_alloc] at h2
  have HB0 := Lib.hid (show ((w.alloc (.cells #[.int .i64 T.op, .int .i64 T.rel, .slice T.aa T.an T.ac, .slice T.ka T.kn T.kc] 26)).alloc (.cells #[.int .i64 0] 30)).heap[w.heap.size]? = some (.cells #[.int .i64 T.op, .int .i64 T.rel, .slice T.aa T.an T.ac, .slice T.ka T.kn T.kc] 26) ∧ ((w.alloc (.cells #[.int .i64 T.op, .int .i64 T.rel, .slice T.aa T.an T.ac, .slice T.ka T.kn T.kc] 26)).alloc (.cells #[.int .i64 0] 30)).heap[w.heap.size + 1]? = some (.cells #[.int .i64 0] 30) ∧ Below w.heap.size w ((w.alloc (.cells #[.int .i64 T.op, .int .i64 T.rel, .slice T.aa T.an T.ac, .slice T.ka T.kn T.kc] 26)).alloc (.cells #[.int .i64 0] 30)) from ⟨alloc_old h1, h2, ((Below.refl _ _).alloc (Nat.le_refl _) _).alloc (by simp) _⟩)
  have HEX := Lib.hid (fun p wx => expr_any p wx)
  clear h1 h2 hR hE hA hfv
  refine calls_of_marks Tryz.func10 rfl ?_
  simp only [Tryz.ntmps10, List.size_toArray, List.length_cons, List.length_nil, Nat.reduceAdd, Nat.reduceSub, Array.replicate_succ, Array.replicate_zero, List.push_toArray, List.append_toArray, List.nil_append, List.cons_append]
  go_upto_region 1 with (fail)
  generalize (w.alloc (.cells #[.int .i64 T.op, .int .i64 T.rel, .slice T.aa T.an T.ac, .slice T.ka T.kn T.kc] 26)).alloc (.cells #[.int .i64 0] 30) = W1 at *
  have r0 := cell_at (j := 0) HB0.out.2.1 rfl
  have fr := free_at (j := 0) HB0.out.2.1
  by_cases ht0 : t < 0
  · rw [if_pos (.inr (.inl ht0))] at hr
    subst hr
    clear HCK hfz hfq
    go_wp2_with (fail)
    exact chk_end0 (n0 := w.heap.size) rfl (set_at (j := 0) HB0.out.2.1) ⟨rfl, HB0.out.2.2.setCell (p := ⟨w.heap.size + 1, 0, none⟩) (by simp) _⟩
  by_cases ht1 : (len : Int) ≤ t
  · rw [if_pos (.inr (.inr ht1))] at hr
    subst hr
    clear HCK hfz hfq
    go_wp2_with (fail)
    exact chk_end0 (n0 := w.heap.size) rfl (set_at (j := 0) HB0.out.2.1) ⟨rfl, HB0.out.2.2.setCell (p := ⟨w.heap.size + 1, 0, none⟩) (by simp) _⟩
  by_cases hE0 : E = 0
  · subst hE0
    have hA0 := hfz rfl
    subst hA0
    have hr2 : R = treeE L len t T := by rw [hr, if_neg (by omega)]
    clear hr hfz
    simp only [beq_self_eq_true, Bool.and_self, Bool.not_true] at hfq
    go_wp2_with (first
      | (go_at_call 20; refine (HCK.out _ (by exact HB0.out.2.2)).mono ?_; rintro e w1 ⟨rfl, hb⟩; have HB1 := Lib.hid hb; clear hb)
      | (go_at_call 21; refine (HEX.out _ _).mono ?_; rintro e w3 ⟨rfl, rfl⟩))
    have hb1 : Below w.heap.size w w1 := HB0.out.2.2.trans (HB1.out.mono HB0.out.2.2.size)
    have hz1 : w.heap.size + 2 ≤ w1.heap.size := by have := lt_of_block HB0.out.2.1; have := HB1.out.size; omega
    have q1 := alloc_at w1 (.cells #[.slice ao len cap, .int .i64 t] 62)
    have q2 := alloc_at (w1.alloc (.cells #[.slice ao len cap, .int .i64 t] 62)) (.cells #[.pointer (some ⟨w.heap.size, 0, none⟩)] 66)
    rw [World.size_alloc] at q2
    have hb2 : Below w1.heap.size w1 ((w1.alloc (.cells #[.slice ao len cap, .int .i64 t] 62)).alloc (.cells #[.pointer (some ⟨w.heap.size, 0, none⟩)] 66)) := ((Below.refl _ _).alloc (Nat.le_refl _) _).alloc (by simp) _
    have hz2 : ((w1.alloc (.cells #[.slice ao len cap, .int .i64 t] 62)).alloc (.cells #[.pointer (some ⟨w.heap.size, 0, none⟩)] 66)).heap.size = w1.heap.size + 2 := by simp
    have hst : CkSt w T ao len cap t w1.heap.size ((w1.alloc (.cells #[.slice ao len cap, .int .i64 t] 62)).alloc (.cells #[.pointer (some ⟨w.heap.size, 0, none⟩)] 66)) :=
      ⟨rowKeep hb2 (rowKeep HB1.out HB0.out.1), rowKeep hb2 (rowKeep HB1.out HB0.out.2.1), alloc_old q1, hb1.trans (hb2.mono hb1.size)⟩
    obtain ⟨W0, hW0⟩ : ∃ W0, ((w1.alloc (.cells #[.slice ao len cap, .int .i64 t] 62)).alloc (.cells #[.pointer (some ⟨w.heap.size, 0, none⟩)] 66)) = W0 := ⟨_, rfl⟩
    rw [hW0] at q2 hz2 hst ⊢
    clear hW0 hb2 q1
    have hxw : XAt W0 (fun b => b < w.heap.size) T := XAt.next (HX.sub (fun b _ hl => hl)) hst.bel
    have hnode : NodeC W0 (fun k => W0.heap.size ≤ k) ⟨w.heap.size, 0, none⟩ T :=
      ⟨⟨w.heap.size, 0, rfl, by omega, by omega, fun r u hu => by
        rw [Nat.zero_add]
        exact cell_at hst.bx (by simpa using hu)⟩, ((xat_iff T).1 HX).1⟩
    have hkat : KAt W0 (fun k => W0.heap.size ≤ k) ⟨w.heap.size, 0, none⟩ T := KAt.of_xat T _ hxw hnode (fun y _ _ b off _ hb h => by omega)
    have hcb : W0.cell? ⟨w1.heap.size + 1, 0, none⟩ = some (.pointer (some ⟨w.heap.size, 0, none⟩)) := cell_at q2 rfl
    have hroot : ((⟨w.heap.size, 0, none⟩ : Addr), T) ∈ nodesX ⟨w.heap.size, 0, none⟩ T := by rw [nodesX_eq]; exact List.mem_cons_self ..
    have HNA := Lib.hid (fun y (hy : y ∈ nodesX ⟨w.heap.size, 0, none⟩ T) wx (hx : Below w.heap.size w wx) (b off : Nat) (hb : b < wx.heap.size) (hl : LiesAt wx b off (xtC y.2)) =>
      (show OwnTo L ao len cap t y.2 b off wx from own_any S0 L ao len cap hlen hcap t y.2 b off wx hb hl ((xat_iff y.2).1 (xat_nodes _ HX y hy)).1 ((xfw_iff y.2).1 (xfw_nodes _ HFW y hy)).1
        (fun i hi => (((xat_iff y.2).1 (xat_nodes _ HX y hy)).2.1 i hi).next hx) (fun i hi => ((xsm_iff y.2).1 (xsm_nodes _ HSM y hy)).1 i hi) (hold18 H hx)))
    have hfirst := nodes_tree L len t T ⟨w.heap.size, 0, none⟩
    obtain ⟨M, hM⟩ : ∃ M, nodesX ⟨w.heap.size, 0, none⟩ T = M := ⟨_, rfl⟩
    have hseq := expr_stops (fun k => W0.heap.size ≤ k) ⟨w.heap.size, 0, none⟩ T (w1.heap.size + 1) W0 hkat hcb
    have HKN := Lib.hid (KAt.node T _ hkat)
    rw [hM] at hseq HKN HNA hfirst hroot
    rw [← hr2] at hfirst
    clear hM hkat hcb hnode hxw HCK HEX HB0 HB1 q2 HX HSM HFW H hr2 hfq r0 fr
    refine wp_range (gf := 39) (w0 := W0) rfl (enters_of Tryz.func39 (by kernel_rfl) rfl) hseq
      (fun h k => onlyK_t h k) (onlyK_b (fun k hk => hk)) (Below.refl _ _) (fun _ => rfl)
      (fun pre W => (∀ y, y ∈ pre.map (nodeOf M (⟨w.heap.size, 0, none⟩, T)) → ownE L len t y.2 = 0) ∧ CkSt w T ao len cap t w1.heap.size W ∧ W0.heap.size ≤ W.heap.size ∧ Only (fun k => W0.heap.size ≤ k) W0 W)
      (fun pre W => ∃ (pre0 : List (Addr × XT)) (x : Addr × XT), pre = pre0 ++ [x] ∧ (∀ y, y ∈ pre0.map (nodeOf M (⟨w.heap.size, 0, none⟩, T)) → ownE L len t y.2 = 0) ∧ ownE L len t (nodeOf M (⟨w.heap.size, 0, none⟩, T) x).2 ≠ 0 ∧ W.heap[w.heap.size + 1]? = some (.cells #[.int .i64 (ownE L len t (nodeOf M (⟨w.heap.size, 0, none⟩, T) x).2)] 30) ∧ Below w.heap.size w W)
      (fun pre X Y ⟨h1, h2, h3, h4⟩ hst => ⟨h1, h2.stays hst (by omega), Nat.le_trans h3 hst.size, (hst.below (n := W0.heap.size) (w := W0) (Only.below h4 (fun k hk => hk) (Nat.le_refl _)) (Nat.le_refl _) (Nat.le_refl _)) |> Only.of_below⟩)
      (fun pre X Y ⟨p0, x, e, h1, h2, h3, h4⟩ hst => ⟨p0, x, e, h1, h2, hst.same _ _ h3 (.inl rfl), hst.below h4 (Nat.le_refl _) (by omega)⟩)
      ⟨(fun y hy => absurd hy (by simp)), hst, Nat.le_refl _, Only.refl _ _⟩ ?round ?done ?stop
    case round =>
      rintro l x W K ⟨pre, -⟩ hK
      gi_wp2
      refine hK _ _ (KeepsFrom.refl _ _) (Only.refl _ _) (Stays.refl _ _) ?_
      rintro l2 pre2 W2 hst2 ⟨hz, HC, hs2, ho2⟩ hl2
      have hy := nodeOf_in hroot x
      obtain ⟨y, hyx⟩ : ∃ y, nodeOf M (⟨w.heap.size, 0, none⟩, T) x = y := ⟨_, rfl⟩
      rw [hyx] at hy ⊢
      obtain ⟨⟨b, off, hb0, _, hb1', hl1⟩, _⟩ := (HKN.out y hy).only ho2
      rw [hb0]
      have HOW := Lib.hid (HNA.out y hy W2 HC.bel b off hb1' hl1)
      unfold OwnTo at HOW
      obtain ⟨E, hE⟩ : ∃ E, ownE L len t y.2 = E := ⟨_, rfl⟩
      rw [hE] at HOW
      have s0 := cell_at (j := 0) HC.sc rfl
      have s1 := cell_at (j := 1) HC.sc rfl
      have HEE := Lib.hid hE
      have HYX := Lib.hid hyx
      have HZ := Lib.hid hz
      have HCC := Lib.hid HC
      have HO2 := Lib.hid ho2
      have HS2 := Lib.hid hs2
      clear hE hyx hz HC ho2 hb1' hl1 hst2 hs2 hseq hst
      by_cases hE0 : E = 0
      · subst hE0
        have k9 : ((0 : Int) != 0) = false := rfl
        gi_wp2_with (refine ⟨trivial, ?_⟩; gi_at_call 22; refine (inRnd HOW.out).mono ?_; rintro e w4 ⟨rfl, hb4⟩)
        refine ⟨KeepsFrom.of_below hb4, Only.of_below hb4, ?_, HCC.out.next hb4, Nat.le_trans HS2.out hb4.size, onlyK_t HO2.out (Only.of_below hb4)⟩
        intro z hz
        rw [List.map_append, List.mem_append] at hz
        rcases hz with hz | hz
        · exact HZ.out z hz
        · simp only [List.map_cons, List.map_nil, List.mem_singleton] at hz
          rw [hz, HYX.out, HEE.out]
      · have k9 : (E != 0) = true := by simpa using hE0
        gi_wp2_with (refine ⟨trivial, ?_⟩; gi_at_call 22; refine (inRnd HOW.out).mono ?_; rintro e w4 ⟨rfl, hb4⟩; have HR4 := Lib.hid (rowKeep hb4 HCC.out.rs); have r0 := cell_at (j := 0) HR4.out rfl; have fr := free_at (j := 0) HR4.out)
        refine ⟨(KeepsFrom.of_below hb4).trans ((KeepsOthers.setCell _ _ _).from _), rfl, pre2, x, rfl, HZ.out, ?_, ?_, ?_⟩
        · rw [HYX.out, HEE.out]; exact hE0
        · rw [HYX.out, HEE.out]
          exact set_at (j := 0) (u := .int .i64 E) HR4.out
        · exact (HCC.out.bel.trans (hb4.mono HCC.out.bel.size)).setCell (p := ⟨w.heap.size + 1, 0, none⟩) (by simp) _
    case done =>
      rintro D xs W hD rfl ⟨hz, HC, _, _⟩ hdk
      rw [nodeOf_map _ (fun x hx => hx)] at hz
      have hR0 : R = 0 := by
        rw [← hfirst]
        refine firstL_none _ (fun e he => ?_)
        obtain ⟨y, hy, rfl⟩ := List.mem_map.1 he
        exact hz y hy
      subst hR0
      have r0 := cell_at (j := 0) HC.rs rfl
      have fr := free_at (j := 0) HC.rs
      clear hfirst hz HNA HKN hseq
      go_wp2
      exact chk_end (n0 := w.heap.size) (D := D) rfl (setC_def hdk (by omega)) (set_at (j := 0) HC.rs) ⟨rfl, putD_below (setC_def hdk (by omega)) (HC.bel.setCell (p := ⟨w.heap.size + 1, 0, none⟩) (by simp) _) (by omega)⟩
    case stop =>
      rintro D pre W hD ⟨r, hpr⟩ ⟨pre0, x, hp0, hz, hE, hrs, hbel⟩ hdk
      subst hp0
      have hxM : x ∈ M := by rw [hpr]; simp
      have h0M : ∀ z, z ∈ pre0 → z ∈ M := fun z hz => by rw [hpr]; simp [hz]
      rw [nodeOf_eq hxM] at hE hrs
      rw [nodeOf_map _ h0M] at hz
      have hRE : R = ownE L len t x.2 := by
        rw [← hfirst, hpr]
        have e : (pre0 ++ [x] ++ r).map (fun x => ownE L len t x.2) = pre0.map (fun x => ownE L len t x.2) ++ ownE L len t x.2 :: r.map (fun x => ownE L len t x.2) := by simp
        rw [e]
        refine firstL_at (fun e he => ?_) hE
        obtain ⟨y, hy, rfl⟩ := List.mem_map.1 he
        exact hz y hy
      subst hRE
      exact chk_end (n0 := w.heap.size) (D := D) rfl hdk hrs ⟨rfl, putD_below hdk hbel (by omega)⟩
  · rw [if_pos (.inl hE0)] at hr
    subst hr
    have hq : (!((E == 0) && (A == 0))) = true := by
      have : (E == 0) = false := by rw [beq_eq_false_iff_ne]; exact hE0
      rw [this]; rfl
    rw [hq] at hfq
    clear hfz hE0
    go_wp2_with (first
      | (go_at_call 20; refine (HCK.out _ (by exact HB0.out.2.2)).mono ?_; rintro e w1 ⟨rfl, hb⟩; have HR1 := Lib.hid (rowKeep hb HB0.out.2.1); have r0 := cell_at (j := 0) HR1.out rfl; have fr := free_at (j := 0) HR1.out; have HB1 := Lib.hid (HB0.out.2.2.trans (hb.mono HB0.out.2.2.size)); clear hb))
    exact chk_end0 (n0 := w.heap.size) rfl (set_at (j := 0) HR1.out) ⟨rfl, HB1.out.setCell (p := ⟨w.heap.size + 1, 0, none⟩) (by simp) _⟩
/-- what is wanted of the code's Check and Datum -/
theorem checkC : CheckC := ⟨fun S L ao len cap t T w hl hc H _ HX _ HSM HFW _ _ => check18_any S L ao len cap t T w (by omega) hc H HX HSM HFW,
  fun L ao len cap t a b w hl hc H _ ha hb _ _ _ => cdatum_any L ao len cap (by omega) hc t a b (by omega) (by omega) w H⟩
end Go.Proofs.YtcojomkpogikiaaGreatDoor
/- Chapter 18's laws CheckTells and CheckData, walked over what the code's functions answer. -/
namespace Go.Proofs.YtcojomkpogikiaaGreatDoor
open Go.RowKit
set_option linter.unusedVariables false
set_option linter.unusedSimpArgs false
theorem fr_eq18 {a b : List Value} (h : a = b) : (⟨a.toArray, []⟩ : Act) = ⟨b.toArray, []⟩ := by rw [h]
end Go.Proofs.YtcojomkpogikiaaGreatDoor
