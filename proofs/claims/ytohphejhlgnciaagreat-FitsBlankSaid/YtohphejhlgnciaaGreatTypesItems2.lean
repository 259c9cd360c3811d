/- Contracts of package types: the checks of an item. -/
import Derived.Test.YtohphejhlgnciaaGreatTypesName
namespace Go.Proofs.YtohphejhlgnciaaGreat
open Go.RowKit
set_option linter.unusedVariables false
def isTagB (L : Nat → TypeV) (len : Nat) (T : TypeV) (n : Int) : Bool := if kindL L len T.tag = 9 then okZ (valueL L len T.tag n) else mayK (kindL L len T.tag) n
def ckValue (L : Nat → TypeV) (len at' : Nat) (T : TypeV) (i : Nat) : Int := if mayK 9 (T.items i).num = false then 7 else if posZ (valueL L len (at' : Nat) (T.items i).num) < i then 6 else 0
def ckField (L : Nat → TypeV) (len : Nat) (T : TypeV) (i : Nat) : Int := if (T.items i).key && !numK (kindL L len (T.items i).type) && kindL L len (T.items i).type != 10 then 17 else 0
def ckBranch (L : Nat → TypeV) (len at' : Nat) (T : TypeV) (i : Nat) : Int :=
  if (T.items i).rest then (if i + 1 < T.ilen then 14 else 0) else if isTagB L len T (T.items i).num = false then 7 else if posZ (branchL L len (at' : Nat) (T.items i).num) < i then 6 else 0
def ckItem (L : Nat → TypeV) (len at' : Nat) (T : TypeV) (i : Nat) : Int :=
  if nameS (T.items i).name = false then 5 else if posZ (itemL L len (at' : Nat) (T.items i).name) < i then 6 else if T.kind = 9 then ckValue L len at' T i else if T.kind = 13 then ckField L len T i else ckBranch L len at' T i
set_option maxHeartbeats 1000000 in
theorem isTag_any (T : TypeV) (n : Int) (ao : Option Addr) (len cap at' : Nat) (L : Nat → TypeV) (hlen : len ≤ 1000000) (hn : (Lit.int .u64 n).wf = true) (w : World) (H : ∀ i, i < len → TypeAt w ao i (L i)) :
    Calls Tryz.prog 118 #[subV T ao len cap at', .int .u64 n] w fun e w' => e = .returned (.bool (isTagB L len T n)) ∧ Below w.heap.size w w' := by
  have hst := BoxS.start T ao len cap at' w
  unfold subO at hst
  have HS := Lib.hid hst
  clear hst
  have hk := fun wx (hb : Below w.heap.size w wx) => kindOf_any ao len cap L (by omega) T.tag wx (hold H hb)
  have hv := fun wx (hb : Below w.heap.size w wx) => value6_any ao len cap L T.tag n (by omega) wx (hold H hb)
  have hm := fun wx => may_any (kindL L len T.tag) n hn wx
  have hE : isTagB L len T n = if kindL L len T.tag = 9 then okZ (valueL L len T.tag n) else mayK (kindL L len T.tag) n := rfl
  obtain ⟨kd, hkd⟩ : ∃ kd, kindL L len T.tag = kd := ⟨_, rfl⟩
  unfold foundV at hv
  obtain ⟨z, hz⟩ : ∃ z, valueL L len T.tag n = z := ⟨_, rfl⟩
  rw [hkd] at hk hm hE
  rw [hz] at hv hE
  have HK := Lib.hid hk
  have HV := Lib.hid hv
  have HM := Lib.hid hm
  clear hk hv hm hkd hz H
  unfold subV
  by_cases h9 : kd = 9
  · rw [if_pos h9] at hE
    have HE := Lib.hid hE
    have k9 : (kd == 9) = true := by simpa using h9
    clear hE h9
    go_enter Tryz.func118, Tryz.ntmps118
    go_wp2_with (first
      | (go_at_call 72; refine (HK.out _ HS.out.2).mono ?_; rintro e w' ⟨rfl, rfl⟩)
      | (go_at_call 48; refine (HV.out _ HS.out.2).mono ?_; rintro e w2 ⟨rfl, hb2⟩; have HB2 := Lib.hid (HS.out.2.trans (hb2.mono (by simp))); clear hb2))
    go_ret
    exact ⟨ret_b (by rw [HE.out]), HB2.out⟩
  · rw [if_neg h9] at hE
    have HE := Lib.hid hE
    have k9 : (kd == 9) = false := by simpa using h9
    clear hE h9
    go_enter Tryz.func118, Tryz.ntmps118
    go_wp2_with (first
      | (go_at_call 72; refine (HK.out _ HS.out.2).mono ?_; rintro e w' ⟨rfl, rfl⟩)
      | (go_at_call 47; refine (HM.out _).mono ?_; rintro e w2 ⟨rfl, hb2⟩; have HB2 := Lib.hid (HS.out.2.trans (hb2.mono (by simp))); clear hb2))
    go_ret
    exact ⟨ret_b (by rw [HE.out]), HB2.out⟩
set_option maxHeartbeats 1000000 in
theorem checkValue_any (T : TypeV) (i : Nat) (ao : Option Addr) (len cap at' : Nat) (L : Nat → TypeV) (hlen : len ≤ 1000000) (hi : i < T.ilen) (w : World) (HT : ItemsAt w T) (H : ∀ i, i < len → TypeAt w ao i (L i)) :
    Calls Tryz.prog 110 #[subV T ao len cap at', .int .i64 i] w fun e w' => e = .returned (.int .i64 (ckValue L len at' T i)) ∧ Below w.heap.size w w' := by
  obtain ⟨hil, hit⟩ := HT
  obtain ⟨b, off, hia, x0, x1, x2, x3, x4, wi⟩ := hit i hi
  have hbl : b < w.heap.size := World.block_lt_of_cell? w _ x0
  have hne : ¬ b = w.heap.size := by omega
  clear hit
  have hst := BoxS.start T ao len cap at' w
  unfold subO at hst
  rw [hia] at hst
  have HS := Lib.hid hst
  have hv := fun wx (hb : Below w.heap.size w wx) => value6_any ao len cap L (at' : Nat) (T.items i).num (by omega) wx (hold H hb)
  unfold foundV at hv
  have hm := fun wx => may_any 9 (T.items i).num wi.1 wx
  have hE : ckValue L len at' T i = if mayK 9 (T.items i).num = false then 7 else if posZ (valueL L len (at' : Nat) (T.items i).num) < i then 6 else 0 := rfl
  obtain ⟨z, hz⟩ : ∃ z, valueL L len (at' : Nat) (T.items i).num = z := ⟨_, rfl⟩
  rw [hz] at hv hE
  obtain ⟨y, hy⟩ : ∃ y, posZ z = y := ⟨_, rfl⟩
  rw [hy] at hv hE
  obtain ⟨q, hq⟩ : ∃ q, mayK 9 (T.items i).num = q := ⟨_, rfl⟩
  rw [hq] at hm hE
  have HV := Lib.hid hv
  have HM := Lib.hid hm
  have HE := Lib.hid hE
  unfold subV
  rw [hia]
  clear hst hv hm hz hy hq hE H hia
  cases q with
  | false =>
    go_enter Tryz.func110, Tryz.ntmps110
    go_wp2_with (go_at_call 47; refine (HM.out _).mono ?_; rintro e w2 ⟨rfl, hb2⟩; have HB2 := Lib.hid (HS.out.keep hb2); clear hb2)
    go_ret
    exact ⟨ret_i (by rw [HE.out]; rfl), HB2.out.2⟩
  | true =>
    by_cases hlt : y < i
    all_goals
      go_enter Tryz.func110, Tryz.ntmps110
      go_wp2_with (first
        | (go_at_call 47; refine (HM.out _).mono ?_; rintro e w2 ⟨rfl, hb2⟩; have HB2 := Lib.hid (HS.out.keep hb2); obtain ⟨c0, c1, c2, c3, c4, c5, c6, c7⟩ := HB2.out.cells; clear hb2)
        | (go_at_call 48; refine (HV.out _ HB2.out.2).mono ?_; rintro e w3 ⟨rfl, hb3⟩; have HB3 := Lib.hid (HB2.out.2.trans (hb3.mono HB2.out.2.size)); clear hb3))
      go_ret
      exact ⟨ret_i (by rw [HE.out]; simp [hlt]), HB3.out⟩
set_option maxHeartbeats 1000000 in
theorem checkField_any (T : TypeV) (i : Nat) (ao : Option Addr) (len cap at' : Nat) (L : Nat → TypeV) (hlen : len ≤ 1000000) (hi : i < T.ilen) (w : World) (HT : ItemsAt w T) (H : ∀ i, i < len → TypeAt w ao i (L i)) :
    Calls Tryz.prog 111 #[subV T ao len cap at', .int .i64 i] w fun e w' => e = .returned (.int .i64 (ckField L len T i)) ∧ Below w.heap.size w w' := by
  obtain ⟨hil, hit⟩ := HT
  obtain ⟨b, off, hia, x0, x1, x2, x3, x4, wi⟩ := hit i hi
  have hbl : b < w.heap.size := World.block_lt_of_cell? w _ x0
  have hne : ¬ b = w.heap.size := by omega
  clear hit
  have hk := fun wx (hb : Below w.heap.size w wx) => kindOf_any ao len cap L (by omega) (T.items i).type wx (hold H hb)
  have hE : ckField L len T i = if (T.items i).key && !numK (kindL L len (T.items i).type) && kindL L len (T.items i).type != 10 then 17 else 0 := rfl
  obtain ⟨kd, hkd⟩ : ∃ kd, kindL L len (T.items i).type = kd := ⟨_, rfl⟩
  rw [hkd] at hk hE
  obtain ⟨b1, h1⟩ : ∃ b, (T.items i).key = b := ⟨_, rfl⟩
  obtain ⟨b2, h2⟩ : ∃ b, numK kd = b := ⟨_, rfl⟩
  obtain ⟨b3, h3⟩ : ∃ b, (kd != 10) = b := ⟨_, rfl⟩
  rw [h1, h2, h3] at hE
  rw [h1] at x3
  have HK := Lib.hid hk
  have HE := Lib.hid hE
  unfold subV
  rw [hia]
  clear hk hkd hE H hia h1
  go_enter Tryz.func111, Tryz.ntmps111
  go_wp2_with (first
    | (go_at_call 72; refine (HK.out _ (((Below.refl _ _).alloc (Nat.le_refl _) _).alloc (by simp) _)).mono ?_; rintro e w' ⟨rfl, rfl⟩)
    | (go_at_call 41; refine (number_same _ _).mono ?_; rintro e w' ⟨rfl, rfl⟩))
  all_goals
    go_ret
    exact ⟨ret_i (by rw [HE.out]; simp_all), (((Below.refl _ _).alloc (Nat.le_refl _) _).alloc (by simp) _)⟩
end Go.Proofs.YtohphejhlgnciaaGreat
namespace Go.Proofs.YtohphejhlgnciaaGreat
open Go.RowKit
set_option linter.unusedVariables false
/-- a subject's box and an item's -/
def BoxSI (g h : Nat) (T : TypeV) (x : ItemV) (ao : Option Addr) (len cap at' : Nat) (w0 w : World) : Prop := w.heap[h]? = some (itmO x) ∧ BoxS g T ao len cap at' w0 w
theorem BoxSI.keep {g h : Nat} {T : TypeV} {x : ItemV} {ao : Option Addr} {len cap at' : Nat} {w0 w w1 : World} (hi : BoxSI g h T x ao len cap at' w0 w) (hb : Below w.heap.size w w1) : BoxSI g h T x ao len cap at' w0 w1 := ⟨(hb.block h (lt_of_block hi.1)).trans hi.1, hi.2.keep hb⟩
theorem BoxSI.cells {g h : Nat} {T : TypeV} {x : ItemV} {ao : Option Addr} {len cap at' : Nat} {w0 w : World} (hi : BoxSI g h T x ao len cap at' w0 w) : w.cell? ⟨h, 0, none⟩ = some (.string x.name) ∧ w.cell? ⟨h, 1, none⟩ = some (.int .u64 x.num) ∧ w.cell? ⟨h, 2, none⟩ = some (.int .i64 x.type) ∧ w.cell? ⟨h, 3, none⟩ = some (.bool x.key) ∧ w.cell? ⟨h, 4, none⟩ = some (.bool x.rest) :=
  ⟨cell_at hi.1 rfl, cell_at hi.1 rfl, cell_at hi.1 rfl, cell_at hi.1 rfl, cell_at hi.1 rfl⟩
theorem BoxSI.start (T : TypeV) (x : ItemV) (ao : Option Addr) (len cap at' : Nat) (w : World) : BoxSI w.heap.size (w.heap.size + 1) T x ao len cap at' w ((w.alloc (subO T ao len cap at')).alloc (itmO x)) := by
  refine ⟨?_, (BoxS.start T ao len cap at' w).keep ((Below.refl _ _).alloc (Nat.le_refl _) _)⟩
  have hq := alloc_at (w.alloc (subO T ao len cap at')) (itmO x)
  rw [show (w.alloc (subO T ao len cap at')).heap.size = w.heap.size + 1 by simp] at hq
  exact hq
set_option maxHeartbeats 2000000 in
theorem checkBranch_any (T : TypeV) (i : Nat) (ao : Option Addr) (len cap at' : Nat) (L : Nat → TypeV) (hlen : len ≤ 1000000) (hi : i < T.ilen) (w : World) (HT : ItemsAt w T) (H : ∀ i, i < len → TypeAt w ao i (L i)) :
    Calls Tryz.prog 112 #[subV T ao len cap at', .int .i64 i] w fun e w' => e = .returned (.int .i64 (ckBranch L len at' T i)) ∧ Below w.heap.size w w' := by
  obtain ⟨hil, hit⟩ := HT
  obtain ⟨b, off, hia, x0, x1, x2, x3, x4, wi⟩ := hit i hi
  have hbl : b < w.heap.size := World.block_lt_of_cell? w _ x0
  have hne : ¬ b = w.heap.size := by omega
  clear hit
  have hst := BoxSI.start T (T.items i) ao len cap at' w
  unfold subO itmO at hst
  rw [hia] at hst
  have HS := Lib.hid hst
  have hv := fun wx (hb : Below w.heap.size w wx) => branch6_any ao len cap L (at' : Nat) (T.items i).num (by omega) wx (hold H hb)
  unfold foundV at hv
  have ht := fun wx (hb : Below w.heap.size w wx) => isTag_any T (T.items i).num ao len cap at' L hlen wi.1 wx (hold H hb)
  unfold subV at ht
  rw [hia] at ht
  have hE : ckBranch L len at' T i = if (T.items i).rest then (if i + 1 < T.ilen then 14 else 0) else if isTagB L len T (T.items i).num = false then 7 else if posZ (branchL L len (at' : Nat) (T.items i).num) < i then 6 else 0 := rfl
  obtain ⟨z, hz⟩ : ∃ z, branchL L len (at' : Nat) (T.items i).num = z := ⟨_, rfl⟩
  rw [hz] at hv hE
  obtain ⟨y, hy⟩ : ∃ y, posZ z = y := ⟨_, rfl⟩
  rw [hy] at hv hE
  obtain ⟨q, hq⟩ : ∃ q, isTagB L len T (T.items i).num = q := ⟨_, rfl⟩
  rw [hq] at ht hE
  have HV := Lib.hid hv
  have HM := Lib.hid ht
  have HE := Lib.hid hE
  unfold subV
  rw [hia]
  have HIA := Lib.hid hia
  clear hst hv ht hz hy hq hE H hia
  go_enter Tryz.func112, Tryz.ntmps112
  go_upto_region 2 with (fail)
  clear x0 x1 x2 x3 x4 hne hbl
  generalize ((w.alloc (.cells #[.int .i64 T.kind, .string T.name, .int .i64 T.bound, .int .i64 T.of, .int .i64 T.tag, .slice (some ⟨b, off, none⟩) T.ilen T.icap, .slice ao len cap, .int .i64 at'] 69)).alloc (.cells #[.string (T.items i).name, .int .u64 (T.items i).num, .int .i64 (T.items i).type, .bool (T.items i).key, .bool (T.items i).rest] 42)) = W0 at *
  obtain ⟨x0, x1, x2, x3, x4⟩ := HS.out.cells
  obtain ⟨c0, c1, c2, c3, c4, c5, c6, c7⟩ := HS.out.2.cells
  rw [HIA.out] at c5
  cases hrest : (T.items i).rest with
  | true =>
    rw [hrest] at x4
    by_cases hlast : i + 1 < T.ilen
    · have HF := Lib.hid (show ckBranch L len at' T i = 14 by rw [HE.out, hrest, if_pos rfl, if_pos hlast])
      have hl2 : decide ((i : Int) < (T.ilen : Int) - 1) = true := by simp; omega
      go_wp2
      go_ret
      exact ⟨ret_i (by rw [HF.out]), HS.out.2.2⟩
    · have HF := Lib.hid (show ckBranch L len at' T i = 0 by rw [HE.out, hrest, if_pos rfl, if_neg hlast])
      have hl2 : decide ((i : Int) < (T.ilen : Int) - 1) = false := by simp; omega
      go_wp2
      go_ret
      exact ⟨ret_i (by rw [HF.out]), HS.out.2.2⟩
  | false =>
    rw [hrest] at x4
    cases q with
    | false =>
      have HF := Lib.hid (show ckBranch L len at' T i = 7 by rw [HE.out, hrest]; rfl)
      go_wp2_with (go_at_call 118; refine (HM.out _ HS.out.2.2).mono ?_; rintro e w2 ⟨rfl, hb2⟩; have HB2 := Lib.hid (HS.out.keep hb2); clear hb2)
      go_ret
      exact ⟨ret_i (by rw [HF.out]), HB2.out.2.2⟩
    | true =>
      by_cases hlt : y < i
      all_goals
        have HF := Lib.hid (show ckBranch L len at' T i = if y < i then 6 else 0 by rw [HE.out, hrest]; rfl)
        go_wp2_with (first
          | (go_at_call 118; refine (HM.out _ HS.out.2.2).mono ?_; rintro e w2 ⟨rfl, hb2⟩; have HB2 := Lib.hid (HS.out.keep hb2); obtain ⟨y0, y1, y2, y3, y4⟩ := HB2.out.cells; obtain ⟨d0, d1, d2, d3, d4, d5, d6, d7⟩ := HB2.out.2.cells; clear hb2)
          | (go_at_call 70; refine (HV.out _ HB2.out.2.2).mono ?_; rintro e w3 ⟨rfl, hb3⟩; have HB3 := Lib.hid (HB2.out.2.2.trans (hb3.mono HB2.out.2.2.size)); clear hb3))
        go_ret
        exact ⟨ret_i (by rw [HF.out]; simp [hlt]), HB3.out⟩
set_option maxHeartbeats 2000000 in
theorem checkItem_any (T : TypeV) (i : Nat) (ao : Option Addr) (len cap at' : Nat) (L : Nat → TypeV) (hlen : len ≤ 1000000) (hi : i < T.ilen) (w : World) (HT : ItemsAt w T) (H : ∀ i, i < len → TypeAt w ao i (L i)) :
    Calls Tryz.prog 90 #[subV T ao len cap at', .int .i64 i] w fun e w' => e = .returned (.int .i64 (ckItem L len at' T i)) ∧ Below w.heap.size w w' := by
  have HV1 := Lib.hid (fun wx (hb : Below w.heap.size w wx) => checkValue_any T i ao len cap at' L hlen hi wx (HT.held hb) (hold H hb))
  have HV2 := Lib.hid (fun wx (hb : Below w.heap.size w wx) => checkField_any T i ao len cap at' L hlen hi wx (HT.held hb) (hold H hb))
  have HV3 := Lib.hid (fun wx (hb : Below w.heap.size w wx) => checkBranch_any T i ao len cap at' L hlen hi wx (HT.held hb) (hold H hb))
  obtain ⟨hil, hit⟩ := HT
  obtain ⟨b, off, hia, x0, x1, x2, x3, x4, wi⟩ := hit i hi
  have hbl : b < w.heap.size := World.block_lt_of_cell? w _ x0
  have hne : ¬ b = w.heap.size := by omega
  clear hit
  have hst := BoxSI.start T (T.items i) ao len cap at' w
  unfold subO itmO at hst
  rw [hia] at hst
  have HS := Lib.hid hst
  have hv := fun wx (hb : Below w.heap.size w wx) => item6_any ao len cap L (at' : Nat) (T.items i).name (by omega) wx (hold H hb)
  unfold foundV at hv
  have hE : ckItem L len at' T i = if nameS (T.items i).name = false then 5 else if posZ (itemL L len (at' : Nat) (T.items i).name) < i then 6 else if T.kind = 9 then ckValue L len at' T i else if T.kind = 13 then ckField L len T i else ckBranch L len at' T i := rfl
  obtain ⟨z, hz⟩ : ∃ z, itemL L len (at' : Nat) (T.items i).name = z := ⟨_, rfl⟩
  rw [hz] at hv hE
  obtain ⟨y, hy⟩ : ∃ y, posZ z = y := ⟨_, rfl⟩
  rw [hy] at hv hE
  have hnm := fun w => name_any (T.items i).name (Nat.le_trans wi.2.2 (by decide)) w
  obtain ⟨q, hq⟩ : ∃ q, nameS (T.items i).name = q := ⟨_, rfl⟩
  rw [hq] at hnm hE
  have HV := Lib.hid hv
  have HM := Lib.hid hnm
  have HE := Lib.hid hE
  have hv1 := HV1.out
  have hv2 := HV2.out
  have hv3 := HV3.out
  obtain ⟨e1, he1⟩ : ∃ e, ckValue L len at' T i = e := ⟨_, rfl⟩
  obtain ⟨e2, he2⟩ : ∃ e, ckField L len T i = e := ⟨_, rfl⟩
  obtain ⟨e3, he3⟩ : ∃ e, ckBranch L len at' T i = e := ⟨_, rfl⟩
  rw [he1] at hv1 hE
  rw [he2] at hv2 hE
  rw [he3] at hv3 hE
  unfold subV at hv1 hv2 hv3 ⊢
  rw [hia] at hv1 hv2 hv3
  rw [hia]
  have HW1 := Lib.hid hv1
  have HW2 := Lib.hid hv2
  have HW3 := Lib.hid hv3
  have HE := Lib.hid hE
  have HIA := Lib.hid hia
  clear hst hv hz hy hq hE H hia hnm hv1 hv2 hv3 HV1 HV2 HV3 he1 he2 he3
  go_enter Tryz.func90, Tryz.ntmps90
  go_upto_region 2 with (fail)
  clear x0 x1 x2 x3 x4 hne hbl
  generalize ((w.alloc (.cells #[.int .i64 T.kind, .string T.name, .int .i64 T.bound, .int .i64 T.of, .int .i64 T.tag, .slice (some ⟨b, off, none⟩) T.ilen T.icap, .slice ao len cap, .int .i64 at'] 69)).alloc (.cells #[.string (T.items i).name, .int .u64 (T.items i).num, .int .i64 (T.items i).type, .bool (T.items i).key, .bool (T.items i).rest] 42)) = W0 at *
  obtain ⟨x0, x1, x2, x3, x4⟩ := HS.out.cells
  cases q with
  | false =>
    go_wp2_with (go_at_call 87; refine (HM.out _).mono ?_; rintro e w2 ⟨rfl, hb2⟩; have HB2 := Lib.hid (HS.out.keep hb2); clear hb2)
    go_ret
    exact ⟨ret_i (by rw [HE.out]; rfl), HB2.out.2.2⟩
  | true =>
    by_cases hlt : y < i
    · go_wp2_with (first
        | (go_at_call 87; refine (HM.out _).mono ?_; rintro e w2 ⟨rfl, hb2⟩; have HB2 := Lib.hid (HS.out.keep hb2); obtain ⟨y0, y1, y2, y3, y4⟩ := HB2.out.cells; obtain ⟨d0, d1, d2, d3, d4, d5, d6, d7⟩ := HB2.out.2.cells; clear hb2)
        | (go_at_call 109; refine (HV.out _ HB2.out.2.2).mono ?_; rintro e w3 ⟨rfl, hb3⟩; have HB3 := Lib.hid (HB2.out.keep hb3); clear hb3))
      go_ret
      exact ⟨ret_i (by rw [HE.out]; simp [hlt]), HB3.out.2.2⟩
    · have HF := Lib.hid (show ckItem L len at' T i = if T.kind = 9 then e1 else if T.kind = 13 then e2 else e3 by rw [HE.out, if_neg (by simp), if_neg hlt])
      have hc : T.kind = 9 ∨ T.kind = 13 ∨ (T.kind ≠ 9 ∧ T.kind ≠ 13) := by omega
      rcases hc with h | h | ⟨h, h'⟩
      · have HG := Lib.hid (show ckItem L len at' T i = e1 by rw [HF.out]; rw [if_pos h])
        have k9 : (T.kind == 9) = true := by simpa using h
        clear h
        go_wp2_with (first
          | (go_at_call 87; refine (HM.out _).mono ?_; rintro e w2 ⟨rfl, hb2⟩; have HB2 := Lib.hid (HS.out.keep hb2); obtain ⟨y0, y1, y2, y3, y4⟩ := HB2.out.cells; obtain ⟨d0, d1, d2, d3, d4, d5, d6, d7⟩ := HB2.out.2.cells; clear hb2)
          | (go_at_call 109; refine (HV.out _ HB2.out.2.2).mono ?_; rintro e w3 ⟨rfl, hb3⟩; have HB3 := Lib.hid (HB2.out.keep hb3); obtain ⟨f0, f1, f2, f3, f4, f5, f6, f7⟩ := HB3.out.2.cells; rw [HIA.out] at f5; clear hb3)
          | (go_at_call 110; refine (HW1.out _ HB3.out.2.2).mono ?_; rintro e w4 ⟨rfl, hb4⟩; have HB4 := Lib.hid (HB3.out.keep hb4); clear hb4))
        go_ret
        exact ⟨ret_i (by rw [HG.out]), HB4.out.2.2⟩
      · have HG := Lib.hid (show ckItem L len at' T i = e2 by rw [HF.out]; rw [if_neg (by omega), if_pos h])
        have k9 : (T.kind == 9) = false := by simp; omega
        have k13 : (T.kind == 13) = true := by simpa using h
        clear h
        go_wp2_with (first
          | (go_at_call 87; refine (HM.out _).mono ?_; rintro e w2 ⟨rfl, hb2⟩; have HB2 := Lib.hid (HS.out.keep hb2); obtain ⟨y0, y1, y2, y3, y4⟩ := HB2.out.cells; obtain ⟨d0, d1, d2, d3, d4, d5, d6, d7⟩ := HB2.out.2.cells; clear hb2)
          | (go_at_call 109; refine (HV.out _ HB2.out.2.2).mono ?_; rintro e w3 ⟨rfl, hb3⟩; have HB3 := Lib.hid (HB2.out.keep hb3); obtain ⟨f0, f1, f2, f3, f4, f5, f6, f7⟩ := HB3.out.2.cells; rw [HIA.out] at f5; clear hb3)
          | (go_at_call 111; refine (HW2.out _ HB3.out.2.2).mono ?_; rintro e w4 ⟨rfl, hb4⟩; have HB4 := Lib.hid (HB3.out.keep hb4); clear hb4))
        go_ret
        exact ⟨ret_i (by rw [HG.out]), HB4.out.2.2⟩
      · have HG := Lib.hid (show ckItem L len at' T i = e3 by rw [HF.out]; rw [if_neg h, if_neg h'])
        have k9 : (T.kind == 9) = false := by simpa using h
        have k13 : (T.kind == 13) = false := by simpa using h'
        clear h h'
        go_wp2_with (first
          | (go_at_call 87; refine (HM.out _).mono ?_; rintro e w2 ⟨rfl, hb2⟩; have HB2 := Lib.hid (HS.out.keep hb2); obtain ⟨y0, y1, y2, y3, y4⟩ := HB2.out.cells; obtain ⟨d0, d1, d2, d3, d4, d5, d6, d7⟩ := HB2.out.2.cells; clear hb2)
          | (go_at_call 109; refine (HV.out _ HB2.out.2.2).mono ?_; rintro e w3 ⟨rfl, hb3⟩; have HB3 := Lib.hid (HB2.out.keep hb3); obtain ⟨f0, f1, f2, f3, f4, f5, f6, f7⟩ := HB3.out.2.cells; rw [HIA.out] at f5; clear hb3)
          | (go_at_call 112; refine (HW3.out _ HB3.out.2.2).mono ?_; rintro e w4 ⟨rfl, hb4⟩; have HB4 := Lib.hid (HB3.out.keep hb4); clear hb4))
        go_ret
        exact ⟨ret_i (by rw [HG.out]), HB4.out.2.2⟩
/-- the first that is not zero -/
def firstE (e : Nat → Int) (n : Nat) : Int := if firstN (fun j => e j != 0) n < n then e (firstN (fun j => e j != 0) n) else 0
theorem firstE_at {e : Nat → Int} {n k : Nat} (h : ∀ i, i < k → (e i != 0) = false) (hk : k < n) (hp : (e k != 0) = true) : firstE e n = e k := by
  unfold firstE; rw [first_at h hk hp, if_pos hk]
theorem firstE_none {e : Nat → Int} {n : Nat} (h : ∀ i, i < n → (e i != 0) = false) : firstE e n = 0 := by
  unfold firstE; rw [first_none h, if_neg (Nat.lt_irrefl _)]
def ckItems (L : Nat → TypeV) (len at' : Nat) (T : TypeV) : Int := firstE (ckItem L len at' T) T.ilen
set_option maxHeartbeats 2000000 in
theorem checkItems_any (T : TypeV) (ao : Option Addr) (len cap at' : Nat) (L : Nat → TypeV) (hlen : len ≤ 1000000) (w : World) (HT : ItemsAt w T) (H : ∀ i, i < len → TypeAt w ao i (L i)) :
    Calls Tryz.prog 67 #[subV T ao len cap at'] w fun e w' => e = .returned (.int .i64 (ckItems L len at' T)) ∧ Below w.heap.size w w' := by
  have hil := HT.1
  have HC := Lib.hid (fun i (hi : i < T.ilen) wx (hb : Below w.heap.size w wx) => checkItem_any T i ao len cap at' L hlen hi wx (HT.held hb) (hold H hb))
  have hst := BoxS.start T ao len cap at' w
  unfold subO at hst
  have HS := Lib.hid hst
  have HE := Lib.hid (show ckItems L len at' T = firstE (ckItem L len at' T) T.ilen from rfl)
  clear hst HT H
  unfold subV
  go_enter Tryz.func67, Tryz.ntmps67
  go_wp2
  go_loopw [9] (fun i wr => ∃ j : Nat, j ≤ T.ilen ∧ i = .int .i64 j ∧ Hid (∀ m, m < j → (ckItem L len at' T m != 0) = false) ∧ Hid (BoxS w.heap.size T ao len cap at' w wr)) (fun i _ => T.ilen - (intOf i).toNat)
  case atStart => exact ⟨0, Nat.zero_le _, rfl, Lib.hid (fun m hm => absurd hm (Nat.not_lt_zero _)), HS⟩
  case round =>
    obtain ⟨j, hj, rfl, HF, HB⟩ := hrel
    by_cases hlt : j < T.ilen
    · obtain ⟨c0, c1, c2, c3, c4, c5, c6, c7⟩ := HB.out.cells
      have hcall := HC.out j hlt wr HB.out.2
      unfold subV at hcall
      obtain ⟨q, hq⟩ : ∃ q, ckItem L len at' T j = q := ⟨_, rfl⟩
      rw [hq] at hcall
      have HD := Lib.hid hcall
      clear hcall
      cases hz : (q != 0) with
      | true =>
        have HT := Lib.hid (firstE_at (e := ckItem L len at' T) HF.out hlt (by rw [hq]; exact hz))
        have HQ := Lib.hid hq
        clear hq
        go_wp2_with (go_at_call 90; refine (HD.out).mono ?_; rintro e w2 ⟨rfl, hb2⟩; have HB2 := Lib.hid (HB.out.keep hb2); clear hb2)
        go_ret
        exact ⟨ret_i (by rw [HE.out, HT.out, HQ.out]), HB2.out.2⟩
      | false =>
        have HF2 := Lib.hid (none_next (p := fun m => ckItem L len at' T m != 0) HF.out (by rw [hq]; exact hz))
        clear hq
        go_wp2_with (go_at_call 90; refine (HD.out).mono ?_; rintro e w2 ⟨rfl, hb2⟩; have HB2 := Lib.hid (HB.out.keep hb2); clear hb2)
        go_roundw
        case rel => exact ⟨j + 1, by omega, by go_num, HF2, HB2⟩
        case measure => simp [intOf]; omega
    · obtain rfl : j = T.ilen := by omega
      have HT := Lib.hid (firstE_none (e := ckItem L len at' T) HF.out)
      go_wp2
      go_ret
      exact ⟨ret_i (by rw [HE.out, HT.out]), HB.out.2⟩
end Go.Proofs.YtohphejhlgnciaaGreat
