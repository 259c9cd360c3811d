/- Chapter 18's laws, walked over what the code's three functions answer (CheckC): what they are to answer, and the chapter's example. -/
import Derived.Test.YtcojomkpogikiaaGreatDoorA30
import Derived.Test.YtcojomkpogikiaaGreatDoorA31
import Derived.Test.YtcojomkpogikiaaGreatDoorA37
import Derived.Test.YtcojomkpogikiaaGreatDoorA50
namespace Go.Proofs.YtcojomkpogikiaaGreatDoor
open Go.RowKit
set_option linter.unusedVariables false
set_option linter.unusedSimpArgs false
/-- what the code's functions answer -/
structure CheckC : Prop where
  chk : ∀ (S : Nat → Prop) (L : Nat → Pa.TypeV) (ao : Option Addr) (len cap : Nat) (t : Int) (T : XT) (w : World), len ≤ 100 → len ≤ cap → (∀ i, i < len → Pa.TypeAt w ao i (L i)) → (∀ i, i < len → (L i).ilen ≤ (L i).icap) → XAt w S T → XTx T → XSm T → XFw T → deepX T ≤ 100 → LibAt w →
    Calls Tryz.prog 10 #[.slice ao len cap, .int .i64 t, .agg #[.int .i64 T.op, .int .i64 T.rel, .slice T.aa T.an T.ac, .slice T.ka T.kn T.kc]] w fun e w' => e = .returned (.int .i64 (checkE L len t T)) ∧ Below w.heap.size w w'
  dat : ∀ (L : Nat → Pa.TypeV) (ao : Option Addr) (len cap : Nat) (t : Int) (a b : Opd) (w : World), len ≤ 100 → len ≤ cap → (∀ i, i < len → Pa.TypeAt w ao i (L i)) → (∀ i, i < len → (L i).ilen ≤ (L i).icap) → a.text.size ≤ 1000 → b.text.size ≤ 1000 → OpX a → OpX b → LibAt w →
    Calls Tryz.prog 15 #[.slice ao len cap, .int .i64 t, .agg #[.int .i64 a.kind, .string a.text, .bool a.neg, .int .u64 a.num], .agg #[.int .i64 b.kind, .string b.text, .bool b.neg, .int .u64 b.num]] w fun e w' => e = .returned (Pa.datV (datE L len t a b)) ∧ Below w.heap.size w w'
/-- trees that are the same fit the same -/
theorem arg_same {L : Nat → Pa.TypeV} {len : Nat} {t : Int} {f g : Nat → Opd} {n : Nat} (h : ∀ i, i < n → f i = g i) : argE L len t f n = argE L len t g n := Pa.firstE_congr (fun i hi => by rw [h i hi])
theorem own_same {L : Nat → Pa.TypeV} {len : Nat} {t : Int} {T U : XT} (h1 : T.op = U.op) (h2 : T.rel = U.rel) (h3 : T.an = U.an) (h4 : ∀ i, i < T.an → T.arg i = U.arg i) (h5 : T.kn = U.kn) : ownE L len t T = ownE L len t U := by
  unfold ownE
  rw [arg_same h4, ← h1, ← h2, ← h3, ← h5]
  by_cases hb : badF T.op T.rel T.an T.kn = true
  · rw [if_pos hb, if_pos hb]
  · rw [if_neg hb, if_neg hb]
    have hg : goE L len t T.op T.rel T.arg = goE L len t T.op T.rel U.arg := by
      unfold goE
      by_cases o1 : T.op = 1
      · rw [if_pos o1, if_pos o1]
        have : T.an = 2 := by unfold badF at hb; rw [if_pos o1] at hb; simp at hb; omega
        rw [h4 0 (by omega), h4 1 (by omega)]
      · rw [if_neg o1, if_neg o1]
        by_cases o2 : T.op = 2
        · rw [if_pos o2, if_pos o2]
          have : T.an = 3 := by unfold badF at hb; rw [if_neg o1, if_pos o2] at hb; simp at hb; omega
          rw [h4 0 (by omega), h4 1 (by omega), h4 2 (by omega)]
        · rw [if_neg o2, if_neg o2]
          by_cases o3 : T.op = 3
          · rw [if_pos o3, if_pos o3]
            have : T.an = 2 := by unfold badF at hb; rw [if_neg o1, if_neg o2, if_pos o3] at hb; simp at hb; omega
            rw [h4 0 (by omega), h4 1 (by omega)]
          · rw [if_neg o3, if_neg o3]
    rw [hg]
theorem tree_same (L : Nat → Pa.TypeV) (len : Nat) (t : Int) : ∀ T U : XT, SameX T U → treeE L len t T = treeE L len t U := by
  refine XT.ind fun T ih U h => ?_
  obtain ⟨h1, h2, h3, h4, h5, h6⟩ := (sameX_iff T U).1 h
  rw [treeE_eq, treeE_eq, own_same h1 h2 h3 h4 h5, ← h5, Pa.firstE_congr (fun i hi => ih i hi _ (h6 i hi))]
theorem check_same (L : Nat → Pa.TypeV) (len : Nat) (t : Int) (T U : XT) (h : SameX T U) : checkE L len t T = checkE L len t U := by
  unfold checkE
  rw [tree_same L len t T U h]
def exCC : Nat → Pa.ItemV := fun i => if i = 0 then ⟨⟨#[97]⟩, 0, 0, false, false⟩ else ⟨⟨#[115]⟩, 0, 1, false, false⟩
def exC (g : Nat) : Nat → Pa.TypeV := fun i => if i = 0 then Pa.noneT 2 0 0 else if i = 1 then Pa.noneT 10 3 0 else ⟨13, ⟨#[80]⟩, 0, 0, 0, some ⟨g, 0, none⟩, 2, 2, exCC⟩
def exCI : Obj := .cells #[.string ⟨#[97]⟩, .int .u64 0, .int .i64 0, .bool false, .bool false, .string ⟨#[115]⟩, .int .u64 0, .int .i64 1, .bool false, .bool false] 55
def exCT (g : Nat) : Obj := .cells #[.int .i64 2, .string ⟨#[]⟩, .int .i64 0, .int .i64 0, .int .i64 0, .slice none 0 0, .int .i64 10, .string ⟨#[]⟩, .int .i64 3, .int .i64 0, .int .i64 0, .slice none 0 0, .int .i64 13, .string ⟨#[80]⟩, .int .i64 0, .int .i64 0, .int .i64 0, .slice (some ⟨g, 0, none⟩) 2 2] 52
theorem exC_at (w : World) : ∀ i, i < 3 → Pa.TypeAt ((w.alloc exCI).alloc (exCT w.heap.size)) (some ⟨w.heap.size + 1, 0, none⟩) i (exC w.heap.size i) := by
  intro i hi
  have hq := alloc_at (w.alloc exCI) (exCT w.heap.size)
  rw [show (w.alloc exCI).heap.size = w.heap.size + 1 by simp] at hq
  have hb : ((w.alloc exCI).alloc (exCT w.heap.size)).heap[w.heap.size]? = some exCI := rowKeep ((Below.refl _ _).alloc (Nat.le_refl _) _) (alloc_at w exCI)
  have h3 : i = 0 ∨ i = 1 ∨ i = 2 := by omega
  rcases h3 with rfl | rfl | rfl
  · exact ⟨_, 0, rfl, cell_at hq rfl, cell_at hq rfl, cell_at hq rfl, cell_at hq rfl, cell_at hq rfl, cell_at hq rfl, (show Pa.TypeWf (Pa.noneT 2 0 0) from by unfold Pa.TypeWf; decide), ⟨(show (0 : Nat) ≤ 3518437208780 from by decide), fun j hj => absurd hj (Nat.not_lt_zero j)⟩⟩
  · exact ⟨_, 0, rfl, cell_at hq rfl, cell_at hq rfl, cell_at hq rfl, cell_at hq rfl, cell_at hq rfl, cell_at hq rfl, (show Pa.TypeWf (Pa.noneT 10 3 0) from by unfold Pa.TypeWf; decide), ⟨(show (0 : Nat) ≤ 3518437208780 from by decide), fun j hj => absurd hj (Nat.not_lt_zero j)⟩⟩
  · refine ⟨_, 0, rfl, cell_at hq rfl, cell_at hq rfl, cell_at hq rfl, cell_at hq rfl, cell_at hq rfl, cell_at hq rfl, (show Pa.TypeWf ⟨13, ⟨#[80]⟩, 0, 0, 0, some ⟨w.heap.size, 0, none⟩, 2, 2, exCC⟩ from by unfold Pa.TypeWf; dsimp only; decide), ?_⟩
    refine ⟨by show 2 ≤ _; decide, fun j hj => ?_⟩
    have hj2 : j = 0 ∨ j = 1 := by have : j < 2 := hj; omega
    rcases hj2 with rfl | rfl
    · exact ⟨_, 0, rfl, cell_at hb rfl, cell_at hb rfl, cell_at hb rfl, cell_at hb rfl, cell_at hb rfl, (show Pa.ItemWf ⟨⟨#[97]⟩, 0, 0, false, false⟩ from by unfold Pa.ItemWf; decide)⟩
    · exact ⟨_, 0, rfl, cell_at hb rfl, cell_at hb rfl, cell_at hb rfl, cell_at hb rfl, cell_at hb rfl, (show Pa.ItemWf ⟨⟨#[115]⟩, 0, 1, false, false⟩ from by unfold Pa.ItemWf; decide)⟩
def exS1 : List UInt8 := [97, 32, 61, 32, 39, 120, 39]
def exS2 : List UInt8 := [115, 32, 76, 73, 75, 69, 32, 39, 120, 39]
def exT1 : XT := mkX 1 1 [⟨1, bs [97], false, 0⟩, ⟨3, bs [120], false, 0⟩] []
def exT2 : XT := mkX 3 0 [⟨1, bs [115], false, 0⟩, ⟨3, bs [120], false, 0⟩] []
theorem ex_parse1 : parseA exS1 = .good exT1 := by kernel_rfl
theorem ex_parse2 : parseA exS2 = .good exT2 := by kernel_rfl
theorem exC_check1 (g : Nat) : checkE (exC g) 3 2 exT1 = 8 := by kernel_rfl
theorem exC_check2 (g : Nat) : checkE (exC g) 3 2 exT2 = 0 := by kernel_rfl
theorem xtx_same : ∀ T U : XT, SameX T U → XTx U → XTx T := by
  refine XT.ind fun T ih U h hu => ?_
  obtain ⟨h1, h2, h3, h4, h5, h6⟩ := (sameX_iff T U).1 h
  obtain ⟨k1, k2⟩ := (xtx_iff U).1 hu
  exact (xtx_iff T).2 ⟨fun i hi => by rw [h4 i hi]; exact k1 i (by omega), fun i hi => ih i hi _ (h6 i hi) (k2 i (by omega))⟩
theorem xsm_same : ∀ T U : XT, SameX T U → XSm U → XSm T := by
  refine XT.ind fun T ih U h hu => ?_
  obtain ⟨h1, h2, h3, h4, h5, h6⟩ := (sameX_iff T U).1 h
  obtain ⟨k1, k2⟩ := (xsm_iff U).1 hu
  exact (xsm_iff T).2 ⟨fun i hi => by rw [h4 i hi]; exact k1 i (by omega), fun i hi => ih i hi _ (h6 i hi) (k2 i (by omega))⟩
theorem maxTo_congr18 {f g : Nat → Nat} : ∀ n, (∀ i, i < n → f i = g i) → maxTo f n = maxTo g n
  | 0, _ => rfl
  | n + 1, h => by rw [maxTo, maxTo, maxTo_congr18 n (fun i hi => h i (by omega)), h n (by omega)]
theorem deep_same : ∀ T U : XT, SameX T U → deepX T = deepX U := by
  refine XT.ind fun T ih U h => ?_
  obtain ⟨h1, h2, h3, h4, h5, h6⟩ := (sameX_iff T U).1 h
  rw [deepX_eq, deepX_eq, ← h5, maxTo_congr18 T.kn (fun i hi => ih i hi _ (h6 i hi))]
theorem ex_tx (op : Int) (o u : Opd) (ho : OpX o) (hu : OpX u) : XTx (mkX op (if op = 1 then 1 else 0) [o, u] []) := by
  refine (xtx_iff _).2 ⟨fun i hi => ?_, fun i hi => absurd hi (Nat.not_lt_zero i)⟩
  have h2 : i = 0 ∨ i = 1 := by have : i < 2 := hi; omega
  rcases h2 with rfl | rfl
  · exact ho
  · exact hu
theorem ex_sm (op rel : Int) (o u : Opd) (ho : o.text.size ≤ 1000000) (hu : u.text.size ≤ 1000000) : XSm (mkX op rel [o, u] []) := by
  refine (xsm_iff _).2 ⟨fun i hi => ?_, fun i hi => absurd hi (Nat.not_lt_zero i)⟩
  have h2 : i = 0 ∨ i = 1 := by have : i < 2 := hi; omega
  rcases h2 with rfl | rfl
  · exact ho
  · exact hu
theorem ex_op (k : Int) (l : List UInt8) (h : l.length ≤ 100) : OpX ⟨k, bs l, false, 0⟩ := ⟨by show (bs l).size ≤ _; rw [bs_size]; omega, Int.le_refl _, by show (0 : Int) < 18446744073709551616; decide⟩
theorem ex1_facts (T : XT) (h : SameX T exT1) : XTx T ∧ XSm T ∧ deepX T ≤ 100 :=
  ⟨xtx_same T _ h (ex_tx 1 _ _ (ex_op 1 [97] (by decide)) (ex_op 3 [120] (by decide))), xsm_same T _ h (ex_sm 1 1 _ _ (by decide) (by decide)), by rw [deep_same T _ h]; decide⟩
theorem ex2_facts (T : XT) (h : SameX T exT2) : XTx T ∧ XSm T ∧ deepX T ≤ 100 :=
  ⟨xtx_same T _ h (ex_tx 3 _ _ (ex_op 1 [115] (by decide)) (ex_op 3 [120] (by decide))), xsm_same T _ h (ex_sm 3 0 _ _ (by decide) (by decide)), by rw [deep_same T _ h]; decide⟩
theorem ex1_few (T : XT) (h : SameX T exT1) : XFw T := xfw_same T _ h ((xfw_iff _).2 ⟨by decide, by decide, fun i hi => absurd hi (Nat.not_lt_zero i)⟩)
theorem ex2_few (T : XT) (h : SameX T exT2) : XFw T := xfw_same T _ h ((xfw_iff _).2 ⟨by decide, by decide, fun i hi => absurd hi (Nat.not_lt_zero i)⟩)
theorem exC_cap (g : Nat) : ∀ i, i < 3 → (exC g i).ilen ≤ (exC g i).icap := by
  intro i hi
  have h3 : i = 0 ∨ i = 1 ∨ i = 2 := by omega
  rcases h3 with rfl | rfl | rfl <;> exact Nat.le_refl _
set_option maxRecDepth 100000 in
set_option maxHeartbeats 4000000 in
theorem awake18 (C : CheckC) (w : World) (hV : LibAt w) : Calls Tryz.prog 9 #[] w fun e w' => e = .returned (.bool true) ∧ Below w.heap.size w w' := by
  have HB0 := Lib.hid (((Below.refl w.heap.size w).alloc (Nat.le_refl _) exCI).alloc (by simp) (exCT w.heap.size))
  have HP1 := Lib.hid (fun wx (h : LibAt wx) => (show Calls Tryz.prog 19 #[.string ⟨#[97, 32, 61, 32, 39, 120, 39]⟩] wx (ParseTo wx (.good exT1)) from by have := parse_any exS1 (by decide) wx h; rw [ex_parse1] at this; exact this))
  have HP2 := Lib.hid (fun wx (h : LibAt wx) => (show Calls Tryz.prog 19 #[.string ⟨#[115, 32, 76, 73, 75, 69, 32, 39, 120, 39]⟩] wx (ParseTo wx (.good exT2)) from by have := parse_any exS2 (by decide) wx h; rw [ex_parse2] at this; exact this))
  have HC1 := Lib.hid (fun (T : XT) (h : SameX T exT1) (S : Nat → Prop) wx (hb : Below ((w.alloc exCI).alloc (exCT w.heap.size)).heap.size ((w.alloc exCI).alloc (exCT w.heap.size)) wx) (hx : XAt wx S T) (hv : LibAt wx) => by
    have := C.chk S (exC w.heap.size) (some ⟨w.heap.size + 1, 0, none⟩) 3 3 2 T wx (by decide) (Nat.le_refl _) (hold18 (exC_at w) hb) (exC_cap _) hx (ex1_facts T h).1 (ex1_facts T h).2.1 (ex1_few T h) (ex1_facts T h).2.2 hv
    rw [check_same _ _ _ T _ h, exC_check1] at this
    exact this)
  have HC2 := Lib.hid (fun (T : XT) (h : SameX T exT2) (S : Nat → Prop) wx (hb : Below ((w.alloc exCI).alloc (exCT w.heap.size)).heap.size ((w.alloc exCI).alloc (exCT w.heap.size)) wx) (hx : XAt wx S T) (hv : LibAt wx) => by
    have := C.chk S (exC w.heap.size) (some ⟨w.heap.size + 1, 0, none⟩) 3 3 2 T wx (by decide) (Nat.le_refl _) (hold18 (exC_at w) hb) (exC_cap _) hx (ex2_facts T h).1 (ex2_facts T h).2.1 (ex2_few T h) (ex2_facts T h).2.2 hv
    rw [check_same _ _ _ T _ h, exC_check2] at this
    exact this)
  have HV := Lib.hid hV
  unfold exCI exCT at HB0 HC1 HC2
  obtain ⟨W0, hW0⟩ : ∃ W0, ((w.alloc (.cells #[.string ⟨#[97]⟩, .int .u64 0, .int .i64 0, .bool false, .bool false, .string ⟨#[115]⟩, .int .u64 0, .int .i64 1, .bool false, .bool false] 55)).alloc (.cells #[.int .i64 2, .string ⟨#[]⟩, .int .i64 0, .int .i64 0, .int .i64 0, .slice none 0 0, .int .i64 10, .string ⟨#[]⟩, .int .i64 3, .int .i64 0, .int .i64 0, .slice none 0 0, .int .i64 13, .string ⟨#[80]⟩, .int .i64 0, .int .i64 0, .int .i64 0, .slice (some ⟨w.heap.size, 0, none⟩) 2 2] 52)) = W0 := ⟨_, rfl⟩
  rw [hW0] at HB0 HC1 HC2
  clear hV
  go_enter Tryz.func9, Tryz.ntmps9
  go_upto_region 2 with (fail)
  clear hW0
  go_upto_region 3 with (go_at_call 19; refine (HP1.out _ (by exact HV.out.held HB0.out)).mono ?_; rintro e w1 h1; obtain ⟨hb, T, rfl, hs, hx⟩ := h1; have HB1 := Lib.hid hb; have HS1 := Lib.hid hs; have HX1 := Lib.hid hx; clear hb hs hx)
  have HQ1 := Lib.hid (rowKeep ((Below.refl (w1.alloc (.cells #[.int .i64 T.op, .int .i64 T.rel, .slice T.aa T.an T.ac, .slice T.ka T.kn T.kc] 26)).heap.size _).alloc (Nat.le_refl _) (.cells #[.int .i64 0, .int .i64 0] 57)) (alloc_at w1 (.cells #[.int .i64 T.op, .int .i64 T.rel, .slice T.aa T.an T.ac, .slice T.ka T.kn T.kc] 26)))
  have hB2 : Below w1.heap.size w1 ((w1.alloc (.cells #[.int .i64 T.op, .int .i64 T.rel, .slice T.aa T.an T.ac, .slice T.ka T.kn T.kc] 26)).alloc (.cells #[.int .i64 0, .int .i64 0] 57)) := ((Below.refl _ _).alloc (Nat.le_refl _) _).alloc (by simp) _
  have HB2 := Lib.hid hB2
  have HXT := Lib.hid (HX1.out.next hB2)
  generalize (w1.alloc (.cells #[.int .i64 T.op, .int .i64 T.rel, .slice T.aa T.an T.ac, .slice T.ka T.kn T.kc] 26)).alloc (.cells #[.int .i64 0, .int .i64 0] 57) = W2 at *
  have HW2 := Lib.hid (HB1.out.trans (HB2.out.mono HB1.out.size))
  have HV2 := Lib.hid (HV.out.held (HB0.out.trans (HW2.out.mono HB0.out.size)))
  clear hB2 HX1
  go_upto_region 4 with (go_at_call 19; refine (HP2.out _ (by exact HV2.out)).mono ?_; rintro e w3 h3; obtain ⟨hb, U, rfl, hs, hx⟩ := h3; have HB3 := Lib.hid hb; have HS3 := Lib.hid hs; have HX3 := Lib.hid hx; clear hb hs hx)
  have HQ3 := Lib.hid (rowKeep ((Below.refl (w3.alloc (.cells #[.int .i64 U.op, .int .i64 U.rel, .slice U.aa U.an U.ac, .slice U.ka U.kn U.kc] 26)).heap.size _).alloc (Nat.le_refl _) (.cells #[.int .i64 0, .int .i64 0] 57)) (alloc_at w3 (.cells #[.int .i64 U.op, .int .i64 U.rel, .slice U.aa U.an U.ac, .slice U.ka U.kn U.kc] 26)))
  have hB4 : Below w3.heap.size w3 ((w3.alloc (.cells #[.int .i64 U.op, .int .i64 U.rel, .slice U.aa U.an U.ac, .slice U.ka U.kn U.kc] 26)).alloc (.cells #[.int .i64 0, .int .i64 0] 57)) := ((Below.refl _ _).alloc (Nat.le_refl _) _).alloc (by simp) _
  have HB4 := Lib.hid hB4
  have HXU := Lib.hid (HX3.out.next hB4)
  generalize (w3.alloc (.cells #[.int .i64 U.op, .int .i64 U.rel, .slice U.aa U.an U.ac, .slice U.ka U.kn U.kc] 26)).alloc (.cells #[.int .i64 0, .int .i64 0] 57) = W4 at *
  have HW4 := Lib.hid (HB3.out.trans (HB4.out.mono HB3.out.size))
  have HA4 := Lib.hid (HW2.out.trans (HW4.out.mono HW2.out.size))
  have HV4 := Lib.hid (HV.out.held (HB0.out.trans (HA4.out.mono HB0.out.size)))
  have hq1 := rowKeep HW4.out HQ1.out
  obtain ⟨c0, c1, c2, c3⟩ := bx4 hq1
  have HXT4 := Lib.hid (HXT.out.next HW4.out)
  clear hB4 HX3 hq1
  go_wp2_with (first
    | (go_at_call 10; (with_reducible refine (HC2.out U HS3.out _ _ (by exact HA5.out) (by exact HXU5.out) (by exact HV5.out)).mono ?_); rintro e w6 ⟨rfl, hb⟩; have HB6 := Lib.hid hb; clear hb)
    | (go_at_call 10; (with_reducible refine (HC1.out T HS1.out _ _ (by exact HA4.out) (by exact HXT4.out) (by exact HV4.out)).mono ?_); rintro e w5 ⟨rfl, hb⟩; have HA5 := Lib.hid (HA4.out.trans (hb.mono HA4.out.size)); have HXU5 := Lib.hid (HXU.out.next hb); have HV5 := Lib.hid (HV4.out.held hb); have hq3 := rowKeep hb HQ3.out; have d0 := cell_at (j := 0) hq3 rfl; have d1 := cell_at (j := 1) hq3 rfl; have d2 := cell_at (j := 2) hq3 rfl; have d3 := cell_at (j := 3) hq3 rfl; have HB5 := Lib.hid hb; clear hb hq3))
  go_ret
  have HZ := HA5.out.trans (HB6.out.mono HA5.out.size)
  exact ⟨rfl, HB0.out.trans (HZ.mono HB0.out.size)⟩
end Go.Proofs.YtcojomkpogikiaaGreatDoor
/- The code of chapter 18: Check. -/
namespace Go.Proofs.YtcojomkpogikiaaGreatDoor
open Go Go.RowKit Go.Shelf
set_option linter.unusedVariables false
set_option linter.unusedSimpArgs false
attribute [local go_sem] Oper.semAt_some
theorem fault_neq18 (a b c d : Int) (w : World) : (binOp .neq 57 (.agg #[.int .i64 a, .int .i64 b]) (.agg #[.int .i64 c, .int .i64 d])).run Tryz.prog w = .ok (.bool (!((a == c) && (b == d)))) w := by
  have hu := Tryz.underlying57
  have hi := Tryz.underlying3
  have he := Tryz.underlying30
  have p0 := fun a c w => run_equalIn_int (P := Tryz.prog) w 9998 3 .i64 .i64 a c hi
  have p1 := fun a c w => run_equalIn_int (P := Tryz.prog) w 9998 30 .i64 .i64 a c he
  rw [run_neq_struct, run_equalIn_agg _ 9999 _ _ _ (by kernel_rfl) (by kernel_rfl)]
  simp only [Program.fieldsOf, hu]
  simp [Op.eqFields, go_sem, p0, p1]
  by_cases h1 : a = c <;> by_cases h2 : b = d <;> simp [h1, h2]
theorem fat_zero {one : Nat → Int} {len : Nat} (h : Pa.fErr one len = 0) : Pa.fAt one len = 0 := by
  have h32 : ¬ 32 < len := fun hl => by unfold Pa.fErr at h; rw [if_pos hl] at h; cases h
  unfold Pa.fErr at h
  rw [if_neg h32] at h
  have h2 := Pa.fault_none (one := one) (len := len) (by omega) (fun i hi => by rw [bne_eq_false_iff_eq]; exact firstE_all18 h i hi)
  unfold Pa.faultV at h2
  injection h2 with h2
  injection h2 with h2
  injection h2 with h3 h4
  injection h4 with h4 h5
  injection h4
theorem xat_nodes {w : World} {S : Nat → Prop} {T : XT} (p : Addr) (h : XAt w S T) : ∀ y, y ∈ nodesX p T → XAt w S y.2 := nodes_all (Q := XAt w S) (fun T h i hi => (((xat_iff T).1 h).2.2 i hi).2) T p h
theorem xsm_nodes {T : XT} (p : Addr) (h : XSm T) : ∀ y, y ∈ nodesX p T → XSm y.2 := nodes_all (Q := XSm) (fun T h i hi => ((xsm_iff T).1 h).2 i hi) T p h
theorem xfw_nodes {T : XT} (p : Addr) (h : XFw T) : ∀ y, y ∈ nodesX p T → XFw y.2 := nodes_all (Q := XFw) (fun T h i hi => ((xfw_iff T).1 h).2.2 i hi) T p h
theorem chk_end {V : World} {n0 D : Nat} {R : Int} {tmps : Array Value} {Q : Ending → World → Prop} (h4 : tmps.getD 6 undef = .pointer (some ⟨n0 + 1, 0, none⟩)) (hdk : V.heap[D]? = some (.deferred (some []))) (hr : V.heap[n0 + 1]? = some (.cells #[.int .i64 R] 30))
    (hQ : Q (.returned (.int .i64 R)) (V.putObj D (.deferred none))) : LeavesInM Fence.wide 3 Tryz.prog Tryz.f10 tmps Q [{ target := .collected D, args := #[] }] .returning V := by
  refine leavesM_mark (D := D) hdk ⟨.int .i64 R, ?_, hQ⟩
  have c1 := putD_cell hdk (cell_at (j := 0) hr rfl)
  rw [Array.getD_eq_getD_getElem?] at h4
  simp [results, Tryz.results10, asAddr, go_sem, h4, c1]
theorem chk_end0 {V : World} {n0 : Nat} {R : Int} {tmps : Array Value} {Q : Ending → World → Prop} (h4 : tmps.getD 6 undef = .pointer (some ⟨n0 + 1, 0, none⟩)) (hr : V.heap[n0 + 1]? = some (.cells #[.int .i64 R] 30))
    (hQ : Q (.returned (.int .i64 R)) V) : LeavesInM Fence.wide 3 Tryz.prog Tryz.f10 tmps Q [] .returning V := by
  refine leavesM_nil (v := .int .i64 R) ?_ hQ
  have c1 := cell_at (j := 0) hr rfl
  rw [Array.getD_eq_getD_getElem?] at h4
  simp [results, Tryz.results10, asAddr, go_sem, h4, c1]
/-- the boxes: x's, the result's, the scope's -/
structure CkSt (w : World) (T : XT) (ao : Option Addr) (len cap : Nat) (t : Int) (g : Nat) (W : World) : Prop where
  bx : W.heap[w.heap.size]? = some (.cells #[.int .i64 T.op, .int .i64 T.rel, .slice T.aa T.an T.ac, .slice T.ka T.kn T.kc] 26)
  rs : W.heap[w.heap.size + 1]? = some (.cells #[.int .i64 0] 30)
  sc : W.heap[g]? = some (.cells #[.slice ao len cap, .int .i64 t] 62)
  bel : Below w.heap.size w W
theorem CkSt.stays {w : World} {T : XT} {ao : Option Addr} {len cap : Nat} {t : Int} {g : Nat} {W W' : World} {B : Nat} (h : CkSt w T ao len cap t g W) (hst : Stays B W W') (hB : w.heap.size ≤ B) : CkSt w T ao len cap t g W' :=
  ⟨hst.same _ _ h.bx (.inl rfl), hst.same _ _ h.rs (.inl rfl), hst.same _ _ h.sc (.inl rfl), hst.below h.bel (Nat.le_refl _) hB⟩
theorem CkSt.next {w : World} {T : XT} {ao : Option Addr} {len cap : Nat} {t : Int} {g : Nat} {W W' : World} (h : CkSt w T ao len cap t g W) (hb : Below W.heap.size W W') : CkSt w T ao len cap t g W' :=
  ⟨rowKeep hb h.bx, rowKeep hb h.rs, rowKeep hb h.sc, h.bel.trans (hb.mono h.bel.size)⟩
set_option maxRecDepth 100000 in
set_option maxHeartbeats 8000000 in
theorem check18_any (S0 : Nat → Prop) (L : Nat → Pa.TypeV) (ao : Option Addr) (len cap : Nat) (t : Int) (T : XT) (w : World) (hlen : len ≤ 1000000) (hcap : len ≤ cap) (H : ∀ i, i < len → Pa.TypeAt w ao i (L i)) (HX : XAt w S0 T) (HSM : XSm T) (HFW : XFw T) :
    Calls Tryz.prog 10 #[.slice ao len cap, .int .i64 t, .agg #[.int .i64 T.op, .int .i64 T.rel, .slice T.aa T.an T.ac, .slice T.ka T.kn T.kc]] w fun e w' => e = .returned (.int .i64 (checkE L len t T)) ∧ Below w.heap.size w w' := by
  obtain ⟨R, hR⟩ : ∃ R, checkE L len t T = R := ⟨_, rfl⟩
  rw [hR]
  have HCK := Lib.hid (fun wx (hx : Below w.heap.size w wx) => Pa.check6_any ao len cap L hlen hcap wx (hold18 H hx))
  rw [Pa.fault_same] at HCK
  have hfz := fat_zero (one := Pa.oneR L len) (len := len)
  obtain ⟨E, hE⟩ : ∃ E, Pa.fErr (Pa.oneR L len) len = E := ⟨_, rfl⟩
  obtain ⟨A, hA⟩ : ∃ A, Pa.fAt (Pa.oneR L len) len = A := ⟨_, rfl⟩
  have hfv : Pa.faultV (Pa.oneR L len) len = .agg #[.int .i64 E, .int .i64 A] := by unfold Pa.faultV; rw [hE, hA]
  rw [hfv] at HCK
  rw [hE, hA] at hfz
  have hr : R = if E ≠ 0 ∨ t < 0 ∨ (len : Int) ≤ t then 8 else treeE L len t T := by rw [← hR]; unfold checkE; rw [hE]
  have hfq := fun wx => fault_neq18 E A 0 0 wx
  have h1 := alloc_at w (.cells #[.int .i64 T.op, .int .i64 T.rel, .slice T.aa T.an T.ac, .slice T.ka T.kn T.kc] 26)
  have h2 := alloc_at (w.alloc (.cells #[.int .i64 T.op, .int .i64 T.rel, .slice T.aa T.an T.ac, .slice T.ka T.kn T.kc] 26)) (.cells #[.int .i64 0] 30)
  rw [World.size_alloc] at h2
  have HB0 := Lib.hid (show ((w.alloc (.cells #[.int .i64 T.op, .int .i64 T.rel, .slice T.aa T.an T.ac, .slice T.ka T.kn T.kc] 26)).alloc (.cells #[.int .i64 0] 30)).heap[w.heap.size]? = some (.cells #[.int .i64 T.op, .int .i64 T.rel, .slice T.aa T.an T.ac, .slice T.ka T.kn T.kc] 26) ∧ ((w.alloc (.cells #[.int .i64 T.op, .int .i64 T.rel, .slice T.aa T.an T.ac, .slice T.ka T.kn T.kc] 26)).alloc (.cells #[.int .i64 0] 30)).heap[w.heap.size + 1]? = some (.cells #[.int .i64 0] 30) ∧ Below w.heap.size w ((w.alloc (.cells #[.int .i64 T.op, .int .i64 T.rel, .slice T.aa T.an T.ac, .slice T.ka T.kn T.kc] 26)).alloc (.cells #[.int .i64 0] 30)) from ⟨alloc_old h1, h2, ((Below.refl _ _).alloc (Nat.le_refl _) _).alloc (by simp) _⟩)
  have HEX := Lib.hid (fun p wx => expr_any p wx)
  clear h1 h2 hR hE hA hfv
  refine calls_of_marks Tryz.func10 rfl ?_
  simp only [Tryz.ntmps10, List.size_toArray, List.length_cons, List.length_nil, Nat.reduceAdd, Nat.reduceSub, Array.replicate_succ, Array.replicate_zero, List.push_toArray, List.append_toArray, List.nil_append, List.cons_append]
  go_upto_region 1 with (fail)
  generalize (w.alloc (.cells #[.int .i64 T.op, .int .i64 T.rel, .slice T.aa T.an T.ac, .slice T.ka T.kn T.kc] 26)).alloc (.cells #[.int .i64 0] 30) = W1 at *
  have r0 := cell_at (j := 0) HB0.out.2.1 rfl
  have fr := free_at (j := 0) HB0.out.2.1
  by_cases ht0 : t < 0
  · rw [if_pos (.inr (.inl ht0))] at hr
    subst hr
    clear HCK hfz hfq
    go_wp2_with (fail)
    exact chk_end0 (n0 := w.heap.size) rfl (set_at (j := 0) HB0.out.2.1) ⟨rfl, HB0.out.2.2.setCell (p := ⟨w.heap.size + 1, 0, none⟩) (by simp) _⟩
  by_cases ht1 : (len : Int) ≤ t
  · rw [if_pos (.inr (.inr ht1))] at hr
    subst hr
    clear HCK hfz hfq
    go_wp2_with (fail)
    exact chk_end0 (n0 := w.heap.size) rfl (set_at (j := 0) HB0.out.2.1) ⟨rfl, HB0.out.2.2.setCell (p := ⟨w.heap.size + 1, 0, none⟩) (by simp) _⟩
  by_cases hE0 : E = 0
  · subst hE0
    have hA0 := hfz rfl
    subst hA0
    have hr2 : R = treeE L len t T := by rw [hr, if_neg (by omega)]
    clear hr hfz
    simp only [beq_self_eq_true, Bool.and_self, Bool.not_true] at hfq
    go_wp2_with (first
      | (go_at_call 20; refine (HCK.out _ (by exact HB0.out.2.2)).mono ?_; rintro e w1 ⟨rfl, hb⟩; have HB1 := Lib.hid hb; clear hb)
      | (go_at_call 21; refine (HEX.out _ _).mono ?_; rintro e w3 ⟨rfl, rfl⟩))
    have hb1 : Below w.heap.size w w1 := HB0.out.2.2.trans (HB1.out.mono HB0.out.2.2.size)
    have hz1 : w.heap.size + 2 ≤ w1.heap.size := by have := lt_of_block HB0.out.2.1; have := HB1.out.size; omega
    have q1 := alloc_at w1 (.cells #[.slice ao len cap, .int .i64 t] 62)
    have q2 := alloc_at (w1.alloc (.cells #[.slice ao len cap, .int .i64 t] 62)) (.cells #[.pointer (some ⟨w.heap.size, 0, none⟩)] 66)
    rw [World.size_alloc] at q2
    have hb2 : Below w1.heap.size w1 ((w1.alloc (.cells #[.slice ao len cap, .int .i64 t] 62)).alloc (.cells #[.pointer (some ⟨w.heap.size, 0, none⟩)] 66)) := ((Below.refl _ _).alloc (Nat.le_refl _) _).alloc (by simp) _
    have hz2 : ((w1.alloc (.cells #[.slice ao len cap, .int .i64 t] 62)).alloc (.cells #[.pointer (some ⟨w.heap.size, 0, none⟩)] 66)).heap.size = w1.heap.size + 2 := by simp
    have hst : CkSt w T ao len cap t w1.heap.size ((w1.alloc (.cells #[.slice ao len cap, .int .i64 t] 62)).alloc (.cells #[.pointer (some ⟨w.heap.size, 0, none⟩)] 66)) :=
      ⟨rowKeep hb2 (rowKeep HB1.out HB0.out.1), rowKeep hb2 (rowKeep HB1.out HB0.out.2.1), alloc_old q1, hb1.trans (hb2.mono hb1.size)⟩
    obtain ⟨W0, hW0⟩ : ∃ W0, ((w1.alloc (.cells #[.slice ao len cap, .int .i64 t] 62)).alloc (.cells #[.pointer (some ⟨w.heap.size, 0, none⟩)] 66)) = W0 := ⟨_, rfl⟩
    rw [hW0] at q2 hz2 hst ⊢
    clear hW0 hb2 q1
    have hxw : XAt W0 (fun b => b < w.heap.size) T := XAt.next (HX.sub (fun b _ hl => hl)) hst.bel
    have hnode : NodeC W0 (fun k => W0.heap.size ≤ k) ⟨w.heap.size, 0, none⟩ T :=
      ⟨⟨w.heap.size, 0, rfl, by omega, by omega, fun r u hu => by
        rw [Nat.zero_add]
        exact cell_at hst.bx (by simpa using hu)⟩, ((xat_iff T).1 HX).1⟩
    have hkat : KAt W0 (fun k => W0.heap.size ≤ k) ⟨w.heap.size, 0, none⟩ T := KAt.of_xat T _ hxw hnode (fun y _ _ b off _ hb h => by omega)
    have hcb : W0.cell? ⟨w1.heap.size + 1, 0, none⟩ = some (.pointer (some ⟨w.heap.size, 0, none⟩)) := cell_at q2 rfl
    have hroot : ((⟨w.heap.size, 0, none⟩ : Addr), T) ∈ nodesX ⟨w.heap.size, 0, none⟩ T := by rw [nodesX_eq]; exact List.mem_cons_self ..
    have HNA := Lib.hid (fun y (hy : y ∈ nodesX ⟨w.heap.size, 0, none⟩ T) wx (hx : Below w.heap.size w wx) (b off : Nat) (hb : b < wx.heap.size) (hl : LiesAt wx b off (xtC y.2)) =>
      (show OwnTo L ao len cap t y.2 b off wx from own_any S0 L ao len cap hlen hcap t y.2 b off wx hb hl ((xat_iff y.2).1 (xat_nodes _ HX y hy)).1 ((xfw_iff y.2).1 (xfw_nodes _ HFW y hy)).1
        (fun i hi => (((xat_iff y.2).1 (xat_nodes _ HX y hy)).2.1 i hi).next hx) (fun i hi => ((xsm_iff y.2).1 (xsm_nodes _ HSM y hy)).1 i hi) (hold18 H hx)))
    have hfirst := nodes_tree L len t T ⟨w.heap.size, 0, none⟩
    obtain ⟨M, hM⟩ : ∃ M, nodesX ⟨w.heap.size, 0, none⟩ T = M := ⟨_, rfl⟩
    have hseq := expr_stops (fun k => W0.heap.size ≤ k) ⟨w.heap.size, 0, none⟩ T (w1.heap.size + 1) W0 hkat hcb
    have HKN := Lib.hid (KAt.node T _ hkat)
    rw [hM] at hseq HKN HNA hfirst hroot
    rw [← hr2] at hfirst
    clear hM hkat hcb hnode hxw HCK HEX HB0 HB1 q2 HX HSM HFW H hr2 hfq r0 fr
    refine wp_range (gf := 39) (w0 := W0) rfl (enters_of Tryz.func39 (by kernel_rfl) rfl) hseq
      (fun h k => onlyK_t h k) (onlyK_b (fun k hk => hk)) (Below.refl _ _) (fun _ => rfl)
      (fun pre W => (∀ y, y ∈ pre.map (nodeOf M (⟨w.heap.size, 0, none⟩, T)) → ownE L len t y.2 = 0) ∧ CkSt w T ao len cap t w1.heap.size W ∧ W0.heap.size ≤ W.heap.size ∧ Only (fun k => W0.heap.size ≤ k) W0 W)
      (fun pre W => ∃ (pre0 : List (Addr × XT)) (x : Addr × XT), pre = pre0 ++ [x] ∧ (∀ y, y ∈ pre0.map (nodeOf M (⟨w.heap.size, 0, none⟩, T)) → ownE L len t y.2 = 0) ∧ ownE L len t (nodeOf M (⟨w.heap.size, 0, none⟩, T) x).2 ≠ 0 ∧ W.heap[w.heap.size + 1]? = some (.cells #[.int .i64 (ownE L len t (nodeOf M (⟨w.heap.size, 0, none⟩, T) x).2)] 30) ∧ Below w.heap.size w W)
      (fun pre X Y ⟨h1, h2, h3, h4⟩ hst => ⟨h1, h2.stays hst (by omega), Nat.le_trans h3 hst.size, (hst.below (n := W0.heap.size) (w := W0) (Only.below h4 (fun k hk => hk) (Nat.le_refl _)) (Nat.le_refl _) (Nat.le_refl _)) |> Only.of_below⟩)
      (fun pre X Y ⟨p0, x, e, h1, h2, h3, h4⟩ hst => ⟨p0, x, e, h1, h2, hst.same _ _ h3 (.inl rfl), hst.below h4 (Nat.le_refl _) (by omega)⟩)
      ⟨(fun y hy => absurd hy (by simp)), hst, Nat.le_refl _, Only.refl _ _⟩ ?round ?done ?stop
    case round =>
      rintro l x W K ⟨pre, -⟩ hK
      gi_wp2
      refine hK _ _ (KeepsFrom.refl _ _) (Only.refl _ _) (Stays.refl _ _) ?_
      rintro l2 pre2 W2 hst2 ⟨hz, HC, hs2, ho2⟩ hl2
      have hy := nodeOf_in hroot x
      obtain ⟨y, hyx⟩ : ∃ y, nodeOf M (⟨w.heap.size, 0, none⟩, T) x = y := ⟨_, rfl⟩
      rw [hyx] at hy ⊢
      obtain ⟨⟨b, off, hb0, _, hb1', hl1⟩, _⟩ := (HKN.out y hy).only ho2
      rw [hb0]
      have HOW := Lib.hid (HNA.out y hy W2 HC.bel b off hb1' hl1)
      unfold OwnTo at HOW
      obtain ⟨E, hE⟩ : ∃ E, ownE L len t y.2 = E := ⟨_, rfl⟩
      rw [hE] at HOW
      have s0 := cell_at (j := 0) HC.sc rfl
      have s1 := cell_at (j := 1) HC.sc rfl
      have HEE := Lib.hid hE
      have HYX := Lib.hid hyx
      have HZ := Lib.hid hz
      have HCC := Lib.hid HC
      have HO2 := Lib.hid ho2
      have HS2 := Lib.hid hs2
      clear hE hyx hz HC ho2 hb1' hl1 hst2 hs2 hseq hst
      by_cases hE0 : E = 0
      · subst hE0
        have k9 : ((0 : Int) != 0) = false := rfl
        gi_wp2_with (refine ⟨trivial, ?_⟩; gi_at_call 22; refine (inRnd HOW.out).mono ?_; rintro e w4 ⟨rfl, hb4⟩)
        refine ⟨KeepsFrom.of_below hb4, Only.of_below hb4, ?_, HCC.out.next hb4, Nat.le_trans HS2.out hb4.size, onlyK_t HO2.out (Only.of_below hb4)⟩
        intro z hz
        rw [List.map_append, List.mem_append] at hz
        rcases hz with hz | hz
        · exact HZ.out z hz
        · simp only [List.map_cons, List.map_nil, List.mem_singleton] at hz
          rw [hz, HYX.out, HEE.out]
      · have k9 : (E != 0) = true := by simpa using hE0
        gi_wp2_with (refine ⟨trivial, ?_⟩; gi_at_call 22; refine (inRnd HOW.out).mono ?_; rintro e w4 ⟨rfl, hb4⟩; have HR4 := Lib.hid (rowKeep hb4 HCC.out.rs); have r0 := cell_at (j := 0) HR4.out rfl; have fr := free_at (j := 0) HR4.out)
        refine ⟨(KeepsFrom.of_below hb4).trans ((KeepsOthers.setCell _ _ _).from _), rfl, pre2, x, rfl, HZ.out, ?_, ?_, ?_⟩
        · rw [HYX.out, HEE.out]; exact hE0
        · rw [HYX.out, HEE.out]
          exact set_at (j := 0) (u := .int .i64 E) HR4.out
        · exact (HCC.out.bel.trans (hb4.mono HCC.out.bel.size)).setCell (p := ⟨w.heap.size + 1, 0, none⟩) (by simp) _
    case done =>
      rintro D xs W hD rfl ⟨hz, HC, _, _⟩ hdk
      rw [nodeOf_map _ (fun x hx => hx)] at hz
      have hR0 : R = 0 := by
        rw [← hfirst]
        refine firstL_none _ (fun e he => ?_)
        obtain ⟨y, hy, rfl⟩ := List.mem_map.1 he
        exact hz y hy
      subst hR0
      have r0 := cell_at (j := 0) HC.rs rfl
      have fr := free_at (j := 0) HC.rs
      clear hfirst hz HNA HKN hseq
      go_wp2
      exact chk_end (n0 := w.heap.size) (D := D) rfl (setC_def hdk (by omega)) (set_at (j := 0) HC.rs) ⟨rfl, putD_below (setC_def hdk (by omega)) (HC.bel.setCell (p := ⟨w.heap.size + 1, 0, none⟩) (by simp) _) (by omega)⟩
    case stop =>
      rintro D pre W hD ⟨r, hpr⟩ ⟨pre0, x, hp0, hz, hE, hrs, hbel⟩ hdk
      subst hp0
      have hxM : x ∈ M := by rw [hpr]; simp
      have h0M : ∀ z, z ∈ pre0 → z ∈ M := fun z hz => by rw [hpr]; simp [hz]
      rw [nodeOf_eq hxM] at hE hrs
      rw [nodeOf_map _ h0M] at hz
      have hRE : R = ownE L len t x.2 := by
        rw [← hfirst, hpr]
        have e : (pre0 ++ [x] ++ r).map (fun x => ownE L len t x.2) = pre0.map (fun x => ownE L len t x.2) ++ ownE L len t x.2 :: r.map (fun x => ownE L len t x.2) := by simp
        rw [e]
        refine firstL_at (fun e he => ?_) hE
        obtain ⟨y, hy, rfl⟩ := List.mem_map.1 he
        exact hz y hy
      subst hRE
      exact chk_end (n0 := w.heap.size) (D := D) rfl hdk hrs ⟨rfl, putD_below hdk hbel (by omega)⟩
  · rw [if_pos (.inl hE0)] at hr
    subst hr
    have hq : (!((E == 0) && (A == 0))) = true := by
      have : (E == 0) = false := by rw [beq_eq_false_iff_ne]; exact hE0
      rw [this]; rfl
    rw [hq] at hfq
    clear hfz hE0
    go_wp2_with (first
      | (go_at_call 20; refine (HCK.out _ (by exact HB0.out.2.2)).mono ?_; rintro e w1 ⟨rfl, hb⟩; have HR1 := Lib.hid (rowKeep hb HB0.out.2.1); have r0 := cell_at (j := 0) HR1.out rfl; have fr := free_at (j := 0) HR1.out; have HB1 := Lib.hid (HB0.out.2.2.trans (hb.mono HB0.out.2.2.size)); clear hb))
    exact chk_end0 (n0 := w.heap.size) rfl (set_at (j := 0) HR1.out) ⟨rfl, HB1.out.setCell (p := ⟨w.heap.size + 1, 0, none⟩) (by simp) _⟩
/-- what is wanted of the code's Check and Datum -/
theorem checkC : CheckC := ⟨fun S L ao len cap t T w hl hc H _ HX _ HSM HFW _ _ => check18_any S L ao len cap t T w (by omega) hc H HX HSM HFW,
  fun L ao len cap t a b w hl hc H _ ha hb _ _ _ => cdatum_any L ao len cap (by omega) hc t a b (by omega) (by omega) w H⟩
end Go.Proofs.YtcojomkpogikiaaGreatDoor
/- Chapter 18: the tree that Bind makes, in plain Lean; what lies in memory while it is made. -/
namespace Go.Proofs.YtcojomkpogikiaaGreatDoor
open Go.RowKit
set_option linter.unusedVariables false
/-- an operand, bound: the error, and what stands in its place -/
def bindO (P : Nat → List UInt8) (n : Nat) (o : Opd) : Int × Opd :=
  if o.kind = 5 then (if (n : Int) ≤ o.num then (18, oZ) else if litB (litA (P o.num.toNat)) then (0, litO (litA (P o.num.toNat))) else (1, oZ)) else (0, o)
def bArgE (P : Nat → List UInt8) (n : Nat) (T : XT) : Int := Pa.firstE (fun i => (bindO P n (T.arg i)).1) T.an
/-- the first error -/
def bindE (P : Nat → List UInt8) (n : Nat) : XT → Int
  | .nil => 0
  | .node o r a an c g b m d f => if bArgE P n (.node o r a an c g b m d f) ≠ 0 then bArgE P n (.node o r a an c g b m d f) else Pa.firstE (fun i => bindE P n (f i)) m
theorem bindE_eq (P : Nat → List UInt8) (n : Nat) (T : XT) : bindE P n T = if bArgE P n T ≠ 0 then bArgE P n T else Pa.firstE (fun i => bindE P n (T.kid i)) T.kn := by
  cases T with
  | nil => rfl
  | node => rfl
/-- the tree, bound -/
def bindT (P : Nat → List UInt8) (n : Nat) : XT → XT
  | .nil => .nil
  | .node o r a an c g b m d f => .node o r none an 0 (fun i => (bindO P n (g i)).2) none m 0 (fun i => bindT P n (f i))
theorem bindT_parts (P : Nat → List UInt8) (n : Nat) (T : XT) : (bindT P n T).op = T.op ∧ (bindT P n T).rel = T.rel ∧ (bindT P n T).an = T.an ∧ (∀ i, i < T.an → (bindT P n T).arg i = (bindO P n (T.arg i)).2) ∧ (bindT P n T).kn = T.kn ∧ ∀ i, i < T.kn → (bindT P n T).kid i = bindT P n (T.kid i) := by
  cases T with
  | nil => exact ⟨rfl, rfl, rfl, fun i hi => absurd hi (Nat.not_lt_zero i), rfl, fun i hi => absurd hi (Nat.not_lt_zero i)⟩
  | node => exact ⟨rfl, rfl, rfl, fun _ _ => rfl, rfl, fun _ _ => rfl⟩
end Go.Proofs.YtcojomkpogikiaaGreatDoor
/- Chapter 18: the tree that Bind makes, where it lies. -/
namespace Go.Proofs.YtcojomkpogikiaaGreatDoor
open Go.RowKit
set_option linter.unusedVariables false
theorem nodes_bind (P : Nat → List UInt8) (n : Nat) (T : XT) (p : Addr) : firstL ((nodesX p T).map (fun x => bArgE P n x.2)) = bindE P n T := nodes_first _ _ (bindE_eq P n) T p
/-- the tree, bound, where it lies -/
def bndX (P : Nat → List UInt8) (n : Nat) : XT → XT
  | .nil => .nil
  | .node o r a an c g b m d f => .node o r a an c (fun i => (bindO P n (g i)).2) b m d (fun i => bndX P n (f i))
theorem bndX_parts (P : Nat → List UInt8) (n : Nat) (T : XT) : (bndX P n T).op = T.op ∧ (bndX P n T).rel = T.rel ∧ (bndX P n T).aa = T.aa ∧ (bndX P n T).an = T.an ∧ (bndX P n T).ac = T.ac ∧ (∀ i, i < T.an → (bndX P n T).arg i = (bindO P n (T.arg i)).2) ∧ (bndX P n T).ka = T.ka ∧ (bndX P n T).kn = T.kn ∧ (bndX P n T).kc = T.kc ∧ ∀ i, i < T.kn → (bndX P n T).kid i = bndX P n (T.kid i) := by
  cases T with
  | nil => exact ⟨rfl, rfl, rfl, rfl, rfl, fun i hi => absurd hi (Nat.not_lt_zero i), rfl, rfl, rfl, fun i hi => absurd hi (Nat.not_lt_zero i)⟩
  | node => exact ⟨rfl, rfl, rfl, rfl, rfl, fun _ _ => rfl, rfl, rfl, rfl, fun _ _ => rfl⟩
theorem bndX_cells (P : Nat → List UInt8) (n : Nat) (T : XT) : xtC (bndX P n T) = xtC T := by
  obtain ⟨h1, h2, h3, h4, h5, _, h7, h8, h9, _⟩ := bndX_parts P n T
  unfold xtC
  rw [h1, h2, h3, h4, h5, h7, h8, h9]
theorem bndX_same (P : Nat → List UInt8) (n : Nat) : ∀ T U : XT, SameX U T → SameX (bndX P n U) (bindT P n T) := by
  refine XT.ind fun T ih U h => ?_
  obtain ⟨h1, h2, h3, h4, h5, h6⟩ := (sameX_iff U T).1 h
  obtain ⟨a1, a2, _, a4, _, a6, _, a8, _, a10⟩ := bndX_parts P n U
  obtain ⟨b1, b2, b3, b4, b5, b6⟩ := bindT_parts P n T
  refine (sameX_iff _ _).2 ⟨by rw [a1, b1, h1], by rw [a2, b2, h2], by rw [a4, b3, h3], fun i hi => ?_, by rw [a8, b5, h5], fun i hi => ?_⟩
  · rw [a4] at hi
    rw [a6 i hi, b4 i (by omega), h4 i hi]
  · rw [a8] at hi
    rw [a10 i hi, b6 i (by omega)]
    exact ih i (by omega) _ (h6 i hi)
theorem bndX_at {W : World} {S : Nat → Prop} (P : Nat → List UInt8) (n : Nat) : ∀ (T : XT) (p : Addr), (∀ y, y ∈ nodesX p T → XWf y.2 ∧ (∀ i, i < y.2.an → CellsAt W S y.2.aa i (opdC (bindO P n (y.2.arg i)).2)) ∧ ∀ i, i < y.2.kn → CellsAt W S y.2.ka i (xtC (y.2.kid i))) → XAt W S (bndX P n T) := by
  refine XT.ind fun T ih p h => ?_
  have hself : (p, T) ∈ nodesX p T := by rw [nodesX_eq]; exact List.mem_cons_self ..
  obtain ⟨h0, h1, h2⟩ := h _ hself
  obtain ⟨a1, a2, a3, a4, _, a6, a7, a8, _, a10⟩ := bndX_parts P n T
  refine (xat_iff _).2 ⟨?_, fun i hi => ?_, fun i hi => ?_⟩
  · unfold XWf at *
    rw [a4, a8]; exact h0
  · rw [a4] at hi
    rw [a3, a6 i hi]
    exact h1 i hi
  · rw [a8] at hi
    rw [a7, a10 i hi, bndX_cells]
    exact ⟨h2 i hi, ih i hi (kidP T.ka i) (fun y hy => h y (by rw [nodesX_eq]; exact List.mem_cons_of_mem _ (List.mem_flatMap.2 ⟨i, List.mem_range.2 hi, hy⟩)))⟩
end Go.Proofs.YtcojomkpogikiaaGreatDoor
/- The reference of chapter 18: Bind. -/
namespace Go.Proofs.YtcojomkpogikiaaGreatDoor
open Go.RowKit
set_option linter.unusedVariables false
set_option linter.unusedSimpArgs false
/-- the parameters, where they lie -/
def PsAt (w : World) (pa : Option Addr) (pn : Nat) (P : Nat → List UInt8) : Prop := ∀ i, i < pn → (P i).length ≤ 1000000 ∧ ∃ b off, pa = some ⟨b, off, none⟩ ∧ w.cell? ⟨b, off + i, none⟩ = some (.string (bs (P i)))
theorem PsAt.next {w wx : World} {pa : Option Addr} {pn : Nat} {P : Nat → List UInt8} (h : PsAt w pa pn P) (hb : Below w.heap.size w wx) : PsAt wx pa pn P := fun i hi => by
  obtain ⟨hl, b, off, e, hc⟩ := h i hi
  exact ⟨hl, b, off, e, (hb.cell (World.block_lt_of_cell? w _ hc)).trans hc⟩
end Go.Proofs.YtcojomkpogikiaaGreatDoor
/- The code of chapter 18: what stands in the place of an operand. -/
namespace Go.Proofs.YtcojomkpogikiaaGreatDoor
open Go.RowKit
set_option linter.unusedVariables false
set_option linter.unusedSimpArgs false
def CBoTo (P : Nat → List UInt8) (o : Opd) (pa : Option Addr) (pn pc : Nat) (w : World) : Prop :=
  Calls Tryz.prog 27 #[.agg #[.int .i64 o.kind, .string o.text, .bool o.neg, .int .u64 o.num], .slice pa pn pc] w fun e w' => e = .returned (.tuple #[.agg #[.int .i64 (bindO P pn o).2.kind, .string (bindO P pn o).2.text, .bool (bindO P pn o).2.neg, .int .u64 (bindO P pn o).2.num], .int .i64 (bindO P pn o).1]) ∧ Below w.heap.size w w'
theorem endBo {V : World} {act : Act} {Q : Ending → World → Prop} {q k n : Int} {x : ByteArray} {g : Bool} (hd : act.defers = []) (rb : Nat) (h2 : act.tmps.getD 4 undef = .pointer (some ⟨rb, 0, none⟩)) (h3 : act.tmps.getD 5 undef = .int .i64 q) (hr : V.heap[rb]? = some (.cells #[.int .i64 k, .string x, .bool g, .int .u64 n] 40))
    (hQ : Q (.returned (.tuple #[.agg #[.int .i64 k, .string x, .bool g, .int .u64 n], .int .i64 q])) V) : bodyPost Tryz.prog Tryz.f27 Q Exit.ret act V := by
  refine bodyPost_ret (v := .tuple #[.agg #[.int .i64 k, .string x, .bool g, .int .u64 n], .int .i64 q]) ?_ hd hQ
  have hl2 := run_loadVar_row (P := Tryz.prog) V rb 40 40 #[.int .i64 k, .string x, .bool g, .int .u64 n] _ _ hr Tryz.underlying40 rfl (by kernel_rfl)
  rw [Array.getD_eq_getD_getElem?] at h2 h3
  simp [results, Tryz.results27, h2, h3, asAddr, hl2]
/-- the operand's box, and the result's -/
structure BoSt (w : World) (k : Int) (x : ByteArray) (g : Bool) (n : Int) (W : World) : Prop where
  op : W.heap[w.heap.size]? = some (.cells #[.int .i64 k, .string x, .bool g, .int .u64 n] 40)
  rs : W.heap[w.heap.size + 1]? = some (.cells #[.int .i64 0, .string ⟨#[]⟩, .bool false, .int .u64 0] 40)
  bel : Below w.heap.size w W
theorem BoSt.start (w : World) (k : Int) (x : ByteArray) (g : Bool) (n : Int) : BoSt w k x g n ((w.alloc (.cells #[.int .i64 k, .string x, .bool g, .int .u64 n] 40)).alloc (.cells #[.int .i64 0, .string ⟨#[]⟩, .bool false, .int .u64 0] 40)) := by
  have h1 := alloc_at w (.cells #[.int .i64 k, .string x, .bool g, .int .u64 n] 40)
  have h2 := alloc_at (w.alloc (.cells #[.int .i64 k, .string x, .bool g, .int .u64 n] 40)) (.cells #[.int .i64 0, .string ⟨#[]⟩, .bool false, .int .u64 0] 40)
  rw [World.size_alloc] at h2
  exact ⟨alloc_old h1, h2, ((Below.refl _ _).alloc (Nat.le_refl _) _).alloc (by simp) _⟩
theorem BoSt.next {w : World} {k : Int} {x : ByteArray} {g : Bool} {n : Int} {W W' : World} (h : BoSt w k x g n W) (hb : Below W.heap.size W W') : BoSt w k x g n W' :=
  ⟨rowKeep hb h.op, rowKeep hb h.rs, h.bel.trans (hb.mono h.bel.size)⟩
theorem BoSt.put {w : World} {k : Int} {x : ByteArray} {g : Bool} {n : Int} {W : World} (h : BoSt w k x g n W) (k' : Int) (x' : ByteArray) (g' : Bool) (n' : Int) : BoSt w k' x' g' n' ((((W.setCell ⟨w.heap.size, 0, none⟩ (.int .i64 k')).setCell ⟨w.heap.size, 1, none⟩ (.string x')).setCell ⟨w.heap.size, 2, none⟩ (.bool g')).setCell ⟨w.heap.size, 3, none⟩ (.int .u64 n')) := by
  show BoSt w k' x' g' n' (put4c W w.heap.size 0 (.int .i64 k') (.string x') (.bool g') (.int .u64 n'))
  have ho := put4c_only W w.heap.size 0 (.int .i64 k') (.string x') (.bool g') (.int .u64 n')
  exact ⟨set_at (set_at (set_at (set_at h.op))), ho.same h.rs (by omega), h.bel.trans (ho.below (fun k hk => by omega) h.bel.size)⟩
set_option maxRecDepth 100000 in
set_option maxHeartbeats 8000000 in
theorem bound_any (P : Nat → List UInt8) (o : Opd) (ho : OpX o) (pa : Option Addr) (pn pc : Nat) (hpn : pn ≤ 1000000) (w : World) (HP : PsAt w pa pn P) (hV : LibAt w) : CBoTo P o pa pn pc w := by
  unfold CBoTo
  obtain ⟨q, r, hb⟩ : ∃ q r, bindO P pn o = (q, r) := ⟨_, _, rfl⟩
  rw [hb]
  unfold bindO at hb
  have HV := Lib.hid (fun wx (h : Below w.heap.size w wx) => hV.held h)
  have hox := ho
  obtain ⟨k, x, g, n⟩ := o
  have HB0 := Lib.hid (BoSt.start w k x g n)
  simp only at hb ⊢
  by_cases h5 : k = 5
  · subst h5
    rw [if_pos rfl] at hb
    obtain ⟨m, rfl⟩ : ∃ m : Nat, n = (m : Nat) := ⟨n.toNat, by have := hox.2.1; simp only at this; omega⟩
    have hcv : IntKind.u64.wrap (pn : Int) = (pn : Int) := by rw [IntKind.wrap_u64]; omega
    by_cases hm : pn ≤ m
    · have hmi : (pn : Int) ≤ (m : Int) := by omega
      rw [if_pos hmi] at hb
      injection hb with hb1 hb2
      subst hb1 hb2
      clear HP hV ho hox
      go_enter Tryz.func27, Tryz.ntmps27
      go_upto_region 1 with (fail)
      generalize (w.alloc (.cells #[.int .i64 5, .string x, .bool g, .int .u64 (m : Nat)] 40)).alloc (.cells #[.int .i64 0, .string ⟨#[]⟩, .bool false, .int .u64 0] 40) = W0 at *
      obtain ⟨o0, o1, o2, o3⟩ := opd_box HB0.out.op
      go_wp2_with (first
        | (refine wpList_store_rowTo rfl 40 _ _ rfl rfl (w.heap.size + 1) #[.int .i64 0, .string ⟨#[]⟩, .bool false, .int .u64 0] rfl rfl _ _ HB0.out.rs (by kernel_rfl) (by kernel_rfl) (by kernel_rfl) ?_))
      exact endBo rfl (w.heap.size + 1) rfl rfl (setRow_heap _ _ _ _ _ _ HB0.out.rs) ⟨rfl, below_setRow HB0.out.bel (by omega) _⟩
    · have hmi : ¬ (pn : Int) ≤ (m : Int) := by omega
      have hmj : (m : Int) < (pn : Int) := by omega
      rw [if_neg hmi, Int.toNat_natCast] at hb
      obtain ⟨hl, pb, poff, rfl, hc⟩ := HP m (by omega)
      have HC := Lib.hid (fun wx (h : Below w.heap.size w wx) => Pa.keep6 h hc)
      have HL := Lib.hid (fun wx (h : Below w.heap.size w wx) => clit_any (P m) (by omega) wx (hV.held h))
      unfold CLitTo at HL
      obtain ⟨A, hA⟩ : ∃ A, litA (P m) = A := ⟨_, rfl⟩
      rw [hA] at hb HL
      obtain ⟨⟨lk, lx, lg, ln⟩, hlo⟩ : ∃ l, litO A = l := ⟨_, rfl⟩
      obtain ⟨b, hlb⟩ : ∃ b, litB A = b := ⟨_, rfl⟩
      rw [hlo, hlb] at hb HL
      clear HP hV ho hox hA hlo hlb hl hc hm
      cases b with
      | true =>
        rw [if_pos rfl] at hb
        injection hb with hb1 hb2
        subst hb1 hb2
        try simp only
        go_enter Tryz.func27, Tryz.ntmps27
        go_upto_region 1 with (fail)
        generalize (w.alloc (.cells #[.int .i64 5, .string x, .bool g, .int .u64 (m : Nat)] 40)).alloc (.cells #[.int .i64 0, .string ⟨#[]⟩, .bool false, .int .u64 0] 40) = W0 at *
        obtain ⟨o0, o1, o2, o3⟩ := opd_box HB0.out.op
        have hpc := HC.out W0 HB0.out.bel
        go_upto_region 6 with (first
          | (go_at_call 50; refine (HL.out _ (by exact HB0.out.bel)).mono ?_; rintro e w1 ⟨rfl, hb⟩; have HB1 := Lib.hid (HB0.out.next hb); obtain ⟨p0, p1, p2, p3⟩ := opd_box HB1.out.op; have f0 := free_at (j := 0) HB1.out.op; have f1 := free_at (j := 1) HB1.out.op; have f2 := free_at (j := 2) HB1.out.op; have f3 := free_at (j := 3) HB1.out.op; clear hb))
        have HB2 := Lib.hid (HB1.out.put lk lx lg ln)
        clear p0 p1 p2 p3 f0 f1 f2 f3 o0 o1 o2 o3
        generalize ((((w1.setCell ⟨w.heap.size, 0, none⟩ (.int .i64 lk)).setCell ⟨w.heap.size, 1, none⟩ (.string lx)).setCell ⟨w.heap.size, 2, none⟩ (.bool lg)).setCell ⟨w.heap.size, 3, none⟩ (.int .u64 ln)) = W2 at *
        obtain ⟨p0, p1, p2, p3⟩ := opd_box HB2.out.op
        go_wp2_with (first
          | (refine wpList_store_rowTo rfl 40 _ _ rfl rfl (w.heap.size + 1) #[.int .i64 lk, .string lx, .bool lg, .int .u64 ln] rfl rfl _ _ HB2.out.rs (by kernel_rfl) (by kernel_rfl) (by kernel_rfl) ?_))
        exact endBo rfl (w.heap.size + 1) rfl rfl (setRow_heap _ _ _ _ _ _ HB2.out.rs) ⟨rfl, below_setRow HB2.out.bel (by omega) _⟩
      | false =>
        rw [if_neg (by decide)] at hb
        injection hb with hb1 hb2
        subst hb1 hb2
        try simp only
        go_enter Tryz.func27, Tryz.ntmps27
        go_upto_region 1 with (fail)
        generalize (w.alloc (.cells #[.int .i64 5, .string x, .bool g, .int .u64 (m : Nat)] 40)).alloc (.cells #[.int .i64 0, .string ⟨#[]⟩, .bool false, .int .u64 0] 40) = W0 at *
        obtain ⟨o0, o1, o2, o3⟩ := opd_box HB0.out.op
        have hpc := HC.out W0 HB0.out.bel
        go_upto_region 6 with (first
          | (go_at_call 50; refine (HL.out _ (by exact HB0.out.bel)).mono ?_; rintro e w1 ⟨rfl, hb⟩; have HB1 := Lib.hid (HB0.out.next hb); obtain ⟨p0, p1, p2, p3⟩ := opd_box HB1.out.op; have f0 := free_at (j := 0) HB1.out.op; have f1 := free_at (j := 1) HB1.out.op; have f2 := free_at (j := 2) HB1.out.op; have f3 := free_at (j := 3) HB1.out.op; clear hb))
        have HB2 := Lib.hid (HB1.out.put lk lx lg ln)
        clear p0 p1 p2 p3 f0 f1 f2 f3 o0 o1 o2 o3
        generalize ((((w1.setCell ⟨w.heap.size, 0, none⟩ (.int .i64 lk)).setCell ⟨w.heap.size, 1, none⟩ (.string lx)).setCell ⟨w.heap.size, 2, none⟩ (.bool lg)).setCell ⟨w.heap.size, 3, none⟩ (.int .u64 ln)) = W2 at *
        go_wp2_with (first
          | (refine wpList_store_rowTo rfl 40 _ _ rfl rfl (w.heap.size + 1) #[.int .i64 0, .string ⟨#[]⟩, .bool false, .int .u64 0] rfl rfl _ _ HB2.out.rs (by kernel_rfl) (by kernel_rfl) (by kernel_rfl) ?_))
        exact endBo rfl (w.heap.size + 1) rfl rfl (setRow_heap _ _ _ _ _ _ HB2.out.rs) ⟨rfl, below_setRow HB2.out.bel (by omega) _⟩
  · rw [if_neg h5] at hb
    injection hb with hb1 hb2
    subst hb1 hb2
    have k5 : (k != 5) = true := by rw [bne_iff_ne]; exact h5
    try simp only
    clear HP hV ho hox h5
    go_enter Tryz.func27, Tryz.ntmps27
    go_upto_region 1 with (fail)
    generalize (w.alloc (.cells #[.int .i64 k, .string x, .bool g, .int .u64 n] 40)).alloc (.cells #[.int .i64 0, .string ⟨#[]⟩, .bool false, .int .u64 0] 40) = W0 at *
    obtain ⟨o0, o1, o2, o3⟩ := opd_box HB0.out.op
    go_wp2_with (first
      | (refine wpList_store_rowTo rfl 40 _ _ rfl rfl (w.heap.size + 1) #[.int .i64 k, .string x, .bool g, .int .u64 n] rfl rfl _ _ HB0.out.rs (by kernel_rfl) (by kernel_rfl) (by kernel_rfl) ?_))
    exact endBo rfl (w.heap.size + 1) rfl rfl (setRow_heap _ _ _ _ _ _ HB0.out.rs) ⟨rfl, below_setRow HB0.out.bel (by omega) _⟩
end Go.Proofs.YtcojomkpogikiaaGreatDoor
/- Chapter 18's laws CheckTells and CheckData, walked over what the code's functions answer. -/
namespace Go.Proofs.YtcojomkpogikiaaGreatDoor
open Go.RowKit
set_option linter.unusedVariables false
set_option linter.unusedSimpArgs false
def sumF18 (f : Nat → Int) : Nat → Int | 0 => 0 | n + 1 => sumF18 f n + f n
theorem sumF_le18 {F : Nat → Int} : ∀ n, (∀ i, i < n → 1 ≤ F i) → (n : Int) ≤ sumF18 F n
  | 0, _ => by show ((0 : Nat) : Int) ≤ 0; omega
  | n + 1, h => by
    have := sumF_le18 n (fun i hi => h i (by omega))
    have := h n (by omega)
    show ((n + 1 : Nat) : Int) ≤ sumF18 F n + F n
    omega
theorem minK_sum18 {a : Int} {F : Nat → Int} (h0 : 0 ≤ a) (h1 : a ≤ 100000) : ∀ n, (∀ i, i < n → 1 ≤ F i ∧ F i ≤ 3101) → minK a F n = min (a + sumF18 F n) 100000
  | 0, _ => by show a = min (a + 0) 100000; omega
  | n + 1, h => by
    have h2 := minK_sum18 h0 h1 n (fun i hi => h i (by omega))
    have h3 := sumF_le18 n (fun i hi => (h i (by omega)).1)
    have h4 := h n (by omega)
    show min (wrap64 (minK a F n + F n)) 100000 = min (a + (sumF18 F n + F n)) 100000
    rw [h2, IntWalk.wrap64_in _ (by omega)]
    omega
theorem sumW_sum18 {a : Int} {F : Nat → Int} (h0 : 0 ≤ a) (h1 : a ≤ 1000) : ∀ n, n ≤ 100 → (∀ i, i < n → 1 ≤ F i ∧ F i ≤ 3101) → sumW a F n = a + sumF18 F n ∧ sumF18 F n ≤ 3101 * n
  | 0, _, _ => by constructor; · show a = a + 0; omega
                  · show (0 : Int) ≤ _; omega
  | n + 1, hn, h => by
    obtain ⟨h2, h5⟩ := sumW_sum18 h0 h1 n (by omega) (fun i hi => h i (by omega))
    have h3 := sumF_le18 n (fun i hi => (h i (by omega)).1)
    have h4 := h n (by omega)
    constructor
    · show wrap64 (sumW a F n + F n) = a + (sumF18 F n + F n)
      rw [h2, IntWalk.wrap64_in _ (by omega)]; omega
    · show sumF18 F n + F n ≤ _; omega
theorem minA_ge18 {f : Nat → Nat} : ∀ n, minA f n < 100000 → ∀ i, i < n → f i ≤ minA f n
  | 0, _, i, hi => absurd hi (Nat.not_lt_zero i)
  | n + 1, h, i, hi => by
    have hd : minA f (n + 1) = min (minA f n + f n) 100000 := rfl
    rcases Nat.lt_succ_iff_lt_or_eq.1 hi with h1 | rfl
    · have := minA_ge18 (f := f) n (by omega) i h1
      omega
    · omega
theorem great_size18 : ∀ (T : XT) (d : Nat), greatX T d = false → (1 ≤ sizeX T ∧ sizeX T ≤ 3101) ∧ (∀ i, i < T.an → (T.arg i).text.size ≤ 3000) ∧ T.kn ≤ 100 ∧ (∀ i, i < T.kn → greatX (T.kid i) (d + 1) = false) ∧ sizeX T = 1 + (T.an : Int) + sumF18 (fun i => sizeX (T.kid i)) T.kn := by
  refine XT.ind fun T ih d h => ?_
  rw [greatX_eq] at h
  simp only [Bool.or_eq_false_iff, decide_eq_false_iff_not, Nat.not_lt] at h
  obtain ⟨⟨⟨⟨h1, h2⟩, h3⟩, h4⟩, h5⟩ := h
  have hk : ∀ i, i < T.kn → 1 ≤ sizeX (T.kid i) ∧ sizeX (T.kid i) ≤ 3101 := fun i hi => (ih i hi (d + 1) (anyTo_false h4 i hi)).1
  have hml := minA_le (fun i => (T.arg i).text.size) T.an
  rw [minK_sum18 (by omega) (by omega) T.kn hk] at h5
  have hs := sumF_le18 (F := fun i => sizeX (T.kid i)) T.kn (fun i hi => (hk i hi).1)
  have hw := (sumW_sum18 (a := 1 + (T.an : Int)) (F := fun i => sizeX (T.kid i)) (by omega) (by omega) T.kn h2 hk).1
  rw [sizeX_eq, hw]
  refine ⟨by omega, fun i hi => ?_, h2, fun i hi => anyTo_false h4 i hi, rfl⟩
  have := minA_ge18 (f := fun i => (T.arg i).text.size) T.an (by omega) i hi
  have h6 : (T.arg i).text.size ≤ minA (fun i => (T.arg i).text.size) T.an := this
  omega
theorem xfw_great : ∀ (T : XT) (d : Nat), greatX T d = false → XFw T := by
  refine XT.ind fun T ih d h => ?_
  rw [greatX_eq] at h
  simp only [Bool.or_eq_false_iff, decide_eq_false_iff_not, Nat.not_lt] at h
  obtain ⟨⟨⟨⟨_, h2⟩, h3⟩, h4⟩, _⟩ := h
  refine (xfw_iff T).2 ⟨by omega, by omega, fun i hi => ih i hi (d + 1) ?_⟩
  cases hq : greatX (T.kid i) (d + 1) with
  | false => rfl
  | true => rw [(anyTo_iff T.kn).2 ⟨i, hi, hq⟩] at h4; cases h4
theorem xsm_great : ∀ (T : XT) (d : Nat), greatX T d = false → XSm T := by
  refine XT.ind fun T ih d h => ?_
  obtain ⟨_, h2, _, h4, _⟩ := great_size18 T d h
  exact (xsm_iff T).2 ⟨fun i hi => Nat.le_trans (h2 i hi) (by decide), fun i hi => ih i hi _ (h4 i hi)⟩
end Go.Proofs.YtcojomkpogikiaaGreatDoor
/- Chapter 18's law CheckBinds, walked over what the code's functions answer. -/
namespace Go.Proofs.YtcojomkpogikiaaGreatDoor
open Go.RowKit
set_option linter.unusedVariables false
set_option linter.unusedSimpArgs false
/-- what the code's Bind answers -/
def CBTo (E : Int) (X T : XT) (pa : Option Addr) (pn pc : Nat) (w : World) : Prop :=
  Calls Tryz.prog 12 #[.agg #[.int .i64 T.op, .int .i64 T.rel, .slice T.aa T.an T.ac, .slice T.ka T.kn T.kc], .slice pa pn pc] w fun e w' => ∃ U : XT, e = .returned (.tuple #[.agg #[.int .i64 U.op, .int .i64 U.rel, .slice U.aa U.an U.ac, .slice U.ka U.kn U.kc], .int .i64 E]) ∧ (E = 0 → SameX U X) ∧ (E ≠ 0 → U = .nil) ∧ XAt w' (fun b => w.heap.size ≤ b) U ∧ Below w.heap.size w w'
structure BindC : Prop where
  bnd : ∀ (S : Nat → Prop) (P : Nat → List UInt8) (pa : Option Addr) (pn pc : Nat) (T : XT) (w : World), pn ≤ 100 → pn ≤ pc → (∀ i, i < pn → (P i).length ≤ 3000) → PsAt w pa pn P → XAt w S T → XTx T → XSm T → XFw T → deepX T ≤ 100 → LibAt w → CBTo (bindE P pn T) (bindT P pn T) T pa pn pc w
/-- the parameters as the call lays them -/
def PsR (w : World) (pa : Option Addr) (pn : Nat) (P : Nat → List UInt8) : Prop := ∀ i, i < pn → (P i).length ≤ 140737488351232 ∧ ∃ b off, pa = some ⟨b, off, none⟩ ∧ w.cell? ⟨b, off + i, none⟩ = some (.string (bs (P i)))
theorem PsR.next {w wx : World} {pa : Option Addr} {pn : Nat} {P : Nat → List UInt8} (h : PsR w pa pn P) (hb : Below w.heap.size w wx) : PsR wx pa pn P := fun i hi => by
  obtain ⟨hl, b, off, e, hc⟩ := h i hi
  exact ⟨hl, b, off, e, (hb.cell (World.block_lt_of_cell? w _ hc)).trans hc⟩
theorem PsR.small {w : World} {pa : Option Addr} {pn : Nat} {P : Nat → List UInt8} (h : PsR w pa pn P) (hs : ∀ i, i < pn → (P i).length ≤ 3000) : PsAt w pa pn P := fun i hi => ⟨by have := hs i hi; omega, (h i hi).2⟩
end Go.Proofs.YtcojomkpogikiaaGreatDoor
/- Chapter 18's law CheckAround: which tree has a parameter; what is laid around a tree fits as it does. -/
namespace Go.Proofs.YtcojomkpogikiaaGreatDoor
open Go.RowKit
set_option linter.unusedVariables false
set_option linter.unusedSimpArgs false
/-- has a tree a parameter? -/
def parX : XT → Bool
  | .nil => false
  | .node _ _ _ n _ g _ m _ f => anyTo (fun i => decide ((g i).kind = 5)) n || anyTo (fun i => parX (f i)) m
theorem parX_eq (T : XT) : parX T = (anyTo (fun i => decide ((T.arg i).kind = 5)) T.an || anyTo (fun i => parX (T.kid i)) T.kn) := by
  cases T <;> rfl
theorem parX_no (T : XT) : parX T = false ↔ (∀ i, i < T.an → (T.arg i).kind ≠ 5) ∧ ∀ i, i < T.kn → parX (T.kid i) = false := by
  rw [parX_eq, Bool.or_eq_false_iff]
  constructor
  · rintro ⟨h1, h2⟩
    exact ⟨fun i hi => of_decide_eq_false (anyTo_false h1 i hi), fun i hi => anyTo_false h2 i hi⟩
  · rintro ⟨h1, h2⟩
    exact ⟨anyTo_none (fun i hi => decide_eq_false (h1 i hi)), anyTo_none (fun i hi => h2 i hi)⟩
theorem par_arg {T : XT} {j : Nat} (hj : j < T.an) (h : (T.arg j).kind = 5) : parX T = true := by
  rw [parX_eq, (anyTo_iff T.an).2 ⟨j, hj, decide_eq_true h⟩]; rfl
theorem par_kid {T : XT} {j : Nat} (hj : j < T.kn) (h : parX (T.kid j) = true) : parX T = true := by
  rw [parX_eq, (anyTo_iff T.kn).2 ⟨j, hj, h⟩, Bool.or_true]
theorem par_same : ∀ T U : XT, SameX T U → parX T = parX U := by
  refine XT.ind fun T ih U h => ?_
  obtain ⟨_, _, h3, h4, h5, h6⟩ := (sameX_iff T U).1 h
  cases hq : parX T with
  | false =>
    obtain ⟨p1, p2⟩ := (parX_no T).1 hq
    exact ((parX_no U).2 ⟨fun i hi => by rw [← h4 i (by omega)]; exact p1 i (by omega), fun i hi => by rw [← ih i (by omega) _ (h6 i (by omega))]; exact p2 i (by omega)⟩).symm
  | true =>
    cases hu : parX U with
    | true => rfl
    | false =>
      obtain ⟨p1, p2⟩ := (parX_no U).1 hu
      have := (parX_no T).2 ⟨fun i hi => by rw [h4 i hi]; exact p1 i (by omega), fun i hi => by rw [ih i hi _ (h6 i hi)]; exact p2 i (by omega)⟩
      rw [hq] at this; cases this
theorem litT_kind (L : List Tk) (o : Opd) (h : litT L = some o) : o.kind ≠ 5 := by
  unfold litT at h
  split at h
  · split at h
    · cases h; exact (by decide : (3 : Int) ≠ 5)
    · split at h
      · cases h; exact (by decide : (2 : Int) ≠ 5)
      · split at h
        · cases h; exact (by decide : (4 : Int) ≠ 5)
        · split at h
          · cases h; exact (by decide : (4 : Int) ≠ 5)
          · cases h
  · split at h
    · cases h; exact (by decide : (2 : Int) ≠ 5)
    · cases h
  · cases h
theorem litO_kind (s : List UInt8) : (litO (litA s)).kind ≠ 5 := by
  cases h : litA s with
  | none => exact (by decide : (0 : Int) ≠ 5)
  | some o =>
    show o.kind ≠ 5
    unfold litA at h
    split at h
    · cases h
    · exact litT_kind _ o h
theorem bindO_kind (P : Nat → List UInt8) (n : Nat) (o : Opd) : (bindO P n o).2.kind ≠ 5 := by
  unfold bindO
  by_cases h : o.kind = 5
  · rw [if_pos h]
    by_cases h1 : (n : Int) ≤ o.num
    · rw [if_pos h1]; exact (by decide : (0 : Int) ≠ 5)
    · rw [if_neg h1]
      split
      · exact litO_kind _
      · exact (by decide : (0 : Int) ≠ 5)
  · rw [if_neg h]; exact h
/-- what is bound has no parameter -/
theorem bind_par (P : Nat → List UInt8) (n : Nat) : ∀ T : XT, parX (bindT P n T) = false := by
  refine XT.ind fun T ih => ?_
  obtain ⟨_, _, h3, h4, h5, h6⟩ := bindT_parts P n T
  exact (parX_no _).2 ⟨fun i hi => by rw [h4 i (by omega)]; exact bindO_kind P n _, fun i hi => by rw [h6 i (by omega)]; exact ih i (by omega)⟩
theorem bindO_no {P : Nat → List UInt8} {n : Nat} {o : Opd} (h : o.kind ≠ 5) : bindO P n o = (0, o) := by unfold bindO; rw [if_neg h]
/-- what has no parameter stays -/
theorem par_bind (P : Nat → List UInt8) (n : Nat) : ∀ T : XT, parX T = false → bindE P n T = 0 ∧ SameX (bindT P n T) T := by
  refine XT.ind fun T ih h => ?_
  obtain ⟨p1, p2⟩ := (parX_no T).1 h
  obtain ⟨h1, h2, h3, h4, h5, h6⟩ := bindT_parts P n T
  have ha : bArgE P n T = 0 := Pa.firstE_none (fun i hi => by rw [bne_eq_false_iff_eq, bindO_no (p1 i hi)])
  refine ⟨?_, (sameX_iff _ _).2 ⟨h1, h2, h3, fun i hi => ?_, h5, fun i hi => ?_⟩⟩
  · rw [bindE_eq, ha, if_neg (fun h => h rfl)]
    exact Pa.firstE_none (fun i hi => by rw [bne_eq_false_iff_eq]; exact (ih i hi (p2 i hi)).1)
  · rw [h4 i (by omega), bindO_no (p1 i (by omega))]
  · rw [h6 i (by omega)]; exact (ih i (by omega) (p2 i (by omega))).2
/-- a tree with no operand, of two or more parts that fit alike, or of one -/
theorem tree_kids {L : Nat → Pa.TypeV} {len : Nat} {t : Int} {T : XT} {e : Int} (ha : T.an = 0) (ho : T.op = 4 ∧ T.kn = 1 ∨ (T.op = 5 ∨ T.op = 6) ∧ 2 ≤ T.kn) (hk : ∀ i, i < T.kn → treeE L len t (T.kid i) = e) : treeE L len t T = e := by
  have hown : ownE L len t T = 0 := by
    unfold ownE
    have h0 : argE L len t T.arg T.an = 0 := by rw [ha]; exact Pa.firstE_zero _
    have hb : badF T.op T.rel T.an T.kn = false := by
      unfold badF
      rcases ho with ⟨h1, h2⟩ | ⟨h1 | h1, h2⟩
      · rw [h1, ha, h2]; rfl
      · rw [h1, ha]; simp [h2]
      · rw [h1, ha]; simp [h2]
    have hg : goE L len t T.op T.rel T.arg = 0 := by
      unfold goE
      rw [if_neg (by omega), if_neg (by omega), if_neg (by omega)]
    rw [h0, if_neg (fun h => h rfl), hb, hg]
    rfl
  rw [treeE_eq, hown, if_neg (fun h => h rfl)]
  have hpos : 0 < T.kn := by omega
  by_cases he : e = 0
  · rw [he]; exact Pa.firstE_none (fun i hi => by rw [bne_eq_false_iff_eq, hk i hi, he])
  · rw [Pa.firstE_at (e := fun i => treeE L len t (T.kid i)) (fun i hi => absurd hi (Nat.not_lt_zero _)) hpos (by rw [bne_iff_ne, hk 0 hpos]; exact he)]
    exact hk 0 hpos
theorem check_tree {L : Nat → Pa.TypeV} {len : Nat} {t : Int} {T U : XT} (h : treeE L len t T = treeE L len t U) : checkE L len t T = checkE L len t U := by
  unfold checkE; rw [h]
def RParTo (T : XT) (w : World) : Prop := Calls Tryz.prog 17 #[.agg #[.int .i64 T.op, .int .i64 T.rel, .slice T.aa T.an T.ac, .slice T.ka T.kn T.kc]] w fun e w' => e = .returned (.bool (parX T)) ∧ Below w.heap.size w w'
set_option maxRecDepth 100000 in
set_option maxHeartbeats 8000000 in
theorem par_any (S : Nat → Prop) : ∀ (T : XT) (w : World), XAt w S T → RParTo T w := by
  refine XT.ind fun T ih w H => ?_
  have hlen := xt_kn H
  have hlan := xt_an H
  have HI := Lib.hid (fun i (hi : i < T.kn) wx (hb : Below w.heap.size w wx) => ih i hi wx (kid_at H hb hi).2)
  have HC := Lib.hid (fun i (hi : i < T.kn) wx (hb : Below w.heap.size w wx) => (kid_at H hb hi).1)
  have HAC := Lib.hid (fun i (hi : i < T.an) wx (hb : Below w.heap.size w wx) => (((xat_iff T).1 H).2.1 i hi).next hb)
  have HYA := Lib.hid (fun j (hj : j < T.an) h => par_arg hj h)
  have HYK := Lib.hid (fun j (hj : j < T.kn) h => par_kid hj h)
  have HN := Lib.hid (fun h => (parX_no T).2 h)
  clear ih H
  unfold RParTo
  go_enter Tryz.func17, Tryz.ntmps17
  go_wp2
  go_loopw [3] (fun i wr => ∃ j : Nat, j ≤ T.an ∧ i = .int .i64 j ∧ Hid (∀ k, k < j → (T.arg k).kind ≠ 5) ∧ Hid (wr.heap[w.heap.size]? = some (.cells #[.int .i64 T.op, .int .i64 T.rel, .slice T.aa T.an T.ac, .slice T.ka T.kn T.kc] 26)) ∧ Hid (Below w.heap.size w wr)) (fun i _ => T.an - (intOf i).toNat)
  case atStart => exact ⟨0, Nat.zero_le _, rfl, Lib.hid (fun k hk => absurd hk (Nat.not_lt_zero k)), Lib.hid (alloc_at w _), Lib.hid ((Below.refl _ _).alloc (Nat.le_refl _) _)⟩
  case round =>
    obtain ⟨j, hj, rfl, HZ, HQ, HBr⟩ := hrel
    by_cases hlt : j < T.an
    · obtain ⟨b, off, hia, _, hbl, hla⟩ := HAC.out j hlt wr HBr.out
      have d2 : wr.cell? ⟨w.heap.size, 2, none⟩ = some (.slice (some ⟨b, off, none⟩) T.an T.ac) := by rw [← hia]; exact cell_at HQ.out rfl
      have c0 : wr.cell? ⟨b, off + j * 4, none⟩ = some (.int .i64 (T.arg j).kind) := hla 0 _ rfl
      have HY := Lib.hid (HYA.out j hlt)
      obtain ⟨q, hq⟩ : ∃ q, (T.arg j).kind = q := ⟨_, rfl⟩
      rw [hq] at c0
      have HKQ := Lib.hid hq
      clear hq hla hia
      by_cases h5 : q = 5
      · subst h5
        go_wp2
        go_ret
        exact ⟨ret_bo (HY.out HKQ.out).symm, HBr.out⟩
      · have h5b : (q == 5) = false := by rw [beq_eq_false_iff_ne]; exact h5
        have HZ2 := Lib.hid (show ∀ k, k < j + 1 → (T.arg k).kind ≠ 5 from fun k hk => by
          rcases Nat.lt_succ_iff_lt_or_eq.1 hk with h | rfl
          · exact HZ.out k h
          · rw [HKQ.out]; exact h5)
        clear h5
        go_wp2
        all_goals
          go_roundw
          case rel => exact ⟨j + 1, by omega, by go_num, HZ2, HQ, HBr⟩
          case measure => simp [intOf]; omega
    · obtain rfl : j = T.an := by omega
      have d2 : wr.cell? ⟨w.heap.size, 2, none⟩ = some (.slice T.aa T.an T.ac) := cell_at HQ.out rfl
      have HZA := Lib.hid HZ.out
      go_wp2
      go_loopw [4] (fun i wr => ∃ j : Nat, j ≤ T.kn ∧ i = .int .i64 j ∧ Hid (∀ k, k < j → parX (T.kid k) = false) ∧ Hid (wr.heap[w.heap.size]? = some (.cells #[.int .i64 T.op, .int .i64 T.rel, .slice T.aa T.an T.ac, .slice T.ka T.kn T.kc] 26)) ∧ Hid (Below w.heap.size w wr)) (fun i _ => T.kn - (intOf i).toNat)
      case atStart => exact ⟨0, Nat.zero_le _, rfl, Lib.hid (fun k hk => absurd hk (Nat.not_lt_zero k)), HQ, HBr⟩
      case round =>
        obtain ⟨j, hj, rfl, HZ, HQ, HBr⟩ := hrel
        by_cases hlt : j < T.kn
        · obtain ⟨b, off, hia, _, hbl, hla⟩ := HC.out j hlt wr HBr.out
          have d3 : wr.cell? ⟨w.heap.size, 3, none⟩ = some (.slice (some ⟨b, off, none⟩) T.kn T.kc) := by rw [← hia]; exact cell_at HQ.out rfl
          have c0 : wr.cell? ⟨b, off + j * 4, none⟩ = some (.int .i64 (T.kid j).op) := hla 0 _ rfl
          have c1 : wr.cell? ⟨b, off + j * 4 + 1, none⟩ = some (.int .i64 (T.kid j).rel) := hla 1 _ rfl
          have c2 : wr.cell? ⟨b, off + j * 4 + 2, none⟩ = some (.slice (T.kid j).aa (T.kid j).an (T.kid j).ac) := hla 2 _ rfl
          have c3 : wr.cell? ⟨b, off + j * 4 + 3, none⟩ = some (.slice (T.kid j).ka (T.kid j).kn (T.kid j).kc) := hla 3 _ rfl
          have HP := Lib.hid (HI.out j hlt)
          unfold RParTo at HP
          clear hla hia
          cases hg : parX (T.kid j) with
          | true =>
            rw [hg] at HP
            have HYY := Lib.hid (HYK.out j hlt hg)
            clear hg
            go_wp2_with (go_at_call 17; refine (HP.out _ HBr.out).mono ?_; rintro e w2 ⟨rfl, hb2⟩; have HB2 := Lib.hid (bth HBr.out hb2); clear hb2)
            go_ret
            exact ⟨ret_bo HYY.out.symm, HB2.out⟩
          | false =>
            rw [hg] at HP
            have HZ2 := Lib.hid (show ∀ k, k < j + 1 → parX (T.kid k) = false from fun k hk => by
              rcases Nat.lt_succ_iff_lt_or_eq.1 hk with h | rfl
              · exact HZ.out k h
              · exact hg)
            clear hg
            go_wp2_with (go_at_call 17; refine (HP.out _ HBr.out).mono ?_; rintro e w2 ⟨rfl, hb2⟩; have HB2 := Lib.hid (bth HBr.out hb2); have HQ2 := Lib.hid (rowKeep hb2 HQ.out); clear hb2)
            all_goals
              go_roundw
              case rel => exact ⟨j + 1, by omega, by go_num, HZ2, HQ2, HB2⟩
              case measure => simp [intOf]; omega
        · obtain rfl : j = T.kn := by omega
          have d3 : wr.cell? ⟨w.heap.size, 3, none⟩ = some (.slice T.ka T.kn T.kc) := cell_at HQ.out rfl
          go_wp2
          go_ret
          exact ⟨ret_bo (HN.out ⟨HZA.out, HZ.out⟩).symm, HBr.out⟩
end Go.Proofs.YtcojomkpogikiaaGreatDoor
/- Chapter 18's law CheckAround: what is bound is as small as its parameters; what is laid around it. -/
namespace Go.Proofs.YtcojomkpogikiaaGreatDoor
open Go.RowKit
set_option linter.unusedVariables false
set_option linter.unusedSimpArgs false
/-- a token's size -/
def TkS (x : Tk) : Prop := x.t.length ≤ 256 ∧ (x.k = 2 → x.n < 18446744073709551616)
theorem fst_num18 {l : List UInt8} {k n len : Nat} {t : List UInt8} (h : fstG l = .tok k t n len) (hk : k = 2) : n < 18446744073709551616 := by
  subst hk
  unfold fstG at h
  split at h
  · cases h
  · split at h
    · unfold rdNum at h
      split at h
      · cases h
      · split at h
        · rename_i h2
          cases h
          exact h2
        · cases h
    · split at h
      · unfold rdText at h
        repeat' (split at h)
        all_goals cases h
      · split at h
        · unfold rdPar at h
          repeat' (split at h)
          all_goals cases h
        · split at h <;> cases h
theorem TA_small18 : ∀ (f : Nat) (l : List UInt8) (a : Nat) (out r : List Tk), l.length ≤ 256 → (∀ x, x ∈ out → TkS x) → TA f l a out = .good r → ∀ x, x ∈ r → TkS x
  | 0, l, a, out, r, hl, ho, h => by cases h
  | f + 1, [], a, out, r, hl, ho, h => by
    cases h
    intro x hx
    rcases List.mem_append.1 hx with hx | hx
    · exact ho x hx
    · rw [List.mem_singleton.1 hx]; exact ⟨Nat.zero_le _, fun h => by cases h⟩
  | f + 1, c :: s, a, out, r, hl, ho, h => by
    rw [TA_step] at h
    split at h
    · exact TA_small18 f s (a + 1) out r (by simp at hl; omega) ho h
    · have hb := fst_bounds (c :: s) (by simp)
      cases hg : fstG (c :: s) with
      | err e b => rw [hg] at h; cases h
      | tok k t n len =>
        rw [hg] at h hb
        have hb : 1 ≤ len ∧ len ≤ (c :: s).length ∧ 1 ≤ k ∧ k ≤ 5 ∧ t.length ≤ len := hb
        have h : (if out.length = 64 then Ans.bad 3 a else TA f ((c :: s).drop len) (a + len) (out ++ [⟨k, t, n, a⟩])) = .good r := h
        split at h
        · cases h
        · refine TA_small18 f _ _ _ r (by rw [List.length_drop]; omega) ?_ h
          intro x hx
          rcases List.mem_append.1 hx with hx | hx
          · exact ho x hx
          · rw [List.mem_singleton.1 hx]
            exact ⟨by show t.length ≤ 256; omega, fun hk => fst_num18 hg hk⟩
theorem tokA_small18 {s : List UInt8} {r : List Tk} (h : tokA s = .good r) : ∀ x, x ∈ r → TkS x := by
  unfold tokA at h
  split at h
  · cases h
  · exact TA_small18 _ s 0 [] r (by omega) (fun x hx => by cases hx) h
theorem litT_small {L : List Tk} (hL : ∀ x, x ∈ L → TkS x) {o : Opd} (h : litT L = some o) : o.text.size ≤ 256 ∧ 0 ≤ o.num ∧ o.num < 18446744073709551616 := by
  unfold litT at h
  split at h
  · rename_i t u
    have ht := hL t (by simp)
    split at h
    · cases h; exact ⟨by show (bs t.t).size ≤ 256; rw [bs_size]; exact ht.1, by show (0 : Int) ≤ 0; omega, by show (0 : Int) < _; omega⟩
    · split at h
      · rename_i h2
        have := ht.2 h2
        cases h; exact ⟨by show (0 : Nat) ≤ 256; omega, by show (0 : Int) ≤ (t.n : Int); omega, by show (t.n : Int) < _; omega⟩
      · split at h
        · cases h; exact ⟨by show (0 : Nat) ≤ 256; omega, by show (0 : Int) ≤ 1; omega, by show (1 : Int) < _; omega⟩
        · split at h
          · cases h; exact ⟨by show (0 : Nat) ≤ 256; omega, by show (0 : Int) ≤ 0; omega, by show (0 : Int) < _; omega⟩
          · cases h
  · rename_i s t u
    have ht := hL t (by simp)
    split at h
    · rename_i h2
      have := ht.2 h2.2.2
      cases h; exact ⟨by show (0 : Nat) ≤ 256; omega, by show (0 : Int) ≤ (t.n : Int); omega, by show (t.n : Int) < _; omega⟩
    · cases h
  · cases h
theorem litO_small (s : List UInt8) : (litO (litA s)).text.size ≤ 256 ∧ 0 ≤ (litO (litA s)).num ∧ (litO (litA s)).num < 18446744073709551616 := by
  have hz : oZ.text.size ≤ 256 ∧ 0 ≤ oZ.num ∧ oZ.num < 18446744073709551616 := ⟨by decide, by decide, by decide⟩
  cases h : litA s with
  | none => exact hz
  | some o =>
    show o.text.size ≤ 256 ∧ 0 ≤ o.num ∧ o.num < 18446744073709551616
    unfold litA at h
    split at h
    · cases h
    · rename_i L hL
      exact litT_small (tokA_small18 hL) h
theorem bindO_small (P : Nat → List UInt8) (n : Nat) (o : Opd) (ho : OpX o) (hs : o.text.size ≤ 1000000) : OpX (bindO P n o).2 ∧ (bindO P n o).2.text.size ≤ 1000000 := by
  have hz : OpX oZ ∧ oZ.text.size ≤ 1000000 := ⟨⟨by decide, by decide, by decide⟩, by decide⟩
  unfold bindO
  by_cases h : o.kind = 5
  · rw [if_pos h]
    by_cases h1 : (n : Int) ≤ o.num
    · rw [if_pos h1]; exact hz
    · rw [if_neg h1]
      split
      · have h2 := litO_small (P o.num.toNat)
        exact ⟨⟨Nat.le_trans h2.1 (by decide), h2.2⟩, Nat.le_trans h2.1 (by decide)⟩
      · exact hz
  · rw [if_neg h]; exact ⟨ho, hs⟩
theorem bindT_small (P : Nat → List UInt8) (n : Nat) : ∀ T : XT, XTx T → XSm T → XTx (bindT P n T) ∧ XSm (bindT P n T) ∧ deepX (bindT P n T) = deepX T := by
  refine XT.ind fun T ih hx hs => ?_
  obtain ⟨_, _, h3, h4, h5, h6⟩ := bindT_parts P n T
  have x := (xtx_iff T).1 hx
  have s := (xsm_iff T).1 hs
  have ho := fun i (hi : i < T.an) => bindO_small P n (T.arg i) (x.1 i hi) (s.1 i hi)
  have hk := fun i (hi : i < T.kn) => ih i hi (x.2 i hi) (s.2 i hi)
  refine ⟨(xtx_iff _).2 ⟨fun i hi => ?_, fun i hi => ?_⟩, (xsm_iff _).2 ⟨fun i hi => ?_, fun i hi => ?_⟩, ?_⟩
  · rw [h4 i (by omega)]; exact (ho i (by omega)).1
  · rw [h6 i (by omega)]; exact (hk i (by omega)).1
  · rw [h4 i (by omega)]; exact (ho i (by omega)).2
  · rw [h6 i (by omega)]; exact (hk i (by omega)).2.1
  · cases T with
    | nil => rfl
    | node o r a an c g b m d f =>
      show 1 + maxTo (fun i => deepX (bindT P n (f i))) m = 1 + maxTo (fun i => deepX (f i)) m
      have : ∀ k, k ≤ m → maxTo (fun i => deepX (bindT P n (f i))) k = maxTo (fun i => deepX (f i)) k := by
        intro k
        induction k with
        | zero => intro _; rfl
        | succ k ihk =>
          intro hkm
          have hkk : deepX (bindT P n (f k)) = deepX (f k) := (hk k hkm).2.2
          rw [max_succ, max_succ, ihk (by omega), hkk]
      rw [this m (Nat.le_refl _)]
end Go.Proofs.YtcojomkpogikiaaGreatDoor
