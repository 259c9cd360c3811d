/- Contract of chapter 6's reference: number. -/
import Derived.Test.YtohphejhlgnciaaGreatTypesMore
import Derived.Test.YtohphejhlgnciaaGreatPrimRef
namespace Go.Proofs.YtohphejhlgnciaaGreat
open Go.RowKit
set_option linter.unusedVariables false
def numberB (L : Nat → TypeV) (T : TypeV) (n : Int) : Bool := if T.kind = 9 then mayK 9 n else if (L T.tag.toNat).kind = 9 then decide (0 ≤ valueZ (L T.tag.toNat) n) else mayK (L T.tag.toNat).kind n
set_option maxHeartbeats 1000000 in
theorem refNum_any (ao : Option Addr) (len cap : Nat) (L : Nat → TypeV) (T : TypeV) (n : Int) (hlen : len ≤ 140737488351232) (hn : (Lit.int .u64 n).wf = true) (htag : T.kind = 9 ∨ (0 ≤ T.tag ∧ T.tag < len)) (w : World) (H : ∀ i, i < len → TypeAt w ao i (L i)) :
    Calls Tryz.prog 77 #[.slice ao len cap, typV T, .int .u64 n] w fun e w' => e = .returned (.bool (numberB L T n)) ∧ Below w.heap.size w w' := by
  have HH := Lib.hid H
  unfold typV
  by_cases h9 : T.kind = 9
  · have k9 : (T.kind == 9) = true := by simpa using h9
    have e0 : numberB L T n = mayK 9 n := by unfold numberB; rw [if_pos h9]
    rw [e0]
    have HM := Lib.hid (fun w => refKMay_any 9 n hn w)
    clear h9 htag H
    go_enter Tryz.func77, Tryz.ntmps77
    go_wp2_with (go_at_call 57; refine (HM.out _).mono ?_; rintro e w1 ⟨rfl, m, rfl⟩)
    go_ret
    exact ⟨rfl, drewN_below ((Below.refl _ _).alloc (Nat.le_refl _) _) m⟩
  · have k9 : (T.kind == 9) = false := by simpa using h9
    obtain ⟨h0, h1⟩ := htag.resolve_left h9
    obtain ⟨k, hk⟩ := Int.eq_ofNat_of_zero_le h0
    have hkl : k < len := by omega
    have htn : T.tag.toNat = k := by omega
    obtain ⟨b, off, rfl, c0, c1, c2, c3, c4, c5, wf, hi⟩ := HH.out k hkl
    have hblt : b < w.heap.size := World.block_lt_of_cell? w _ c0
    have hne : ¬ b = w.heap.size := by omega
    have hc := fun (o : Obj) => keep6 (w := w) (w1 := w.alloc o) ((Below.refl _ _).alloc (Nat.le_refl _) _) c0
    by_cases hk9 : (L k).kind = 9
    · have k9' : ((L k).kind == 9) = true := by simpa using hk9
      have e0 : numberB L T n = decide (0 ≤ valueZ (L k) n) := by unfold numberB; rw [if_neg h9, htn, if_pos hk9]
      rw [e0]
      have hv := fun wx (hb : Below w.heap.size w wx) => refValue_any (some ⟨b, off, none⟩) len cap L (k : Nat) n hlen wx (fun i hi => (H i hi).held hb)
      have e1 : valueL L len (k : Nat) n = valueZ (L k) n := by unfold valueL; rw [inL_yes hkl]; rfl
      rw [e1] at hv
      have HV := Lib.hid hv
      clear hv e0 e1 h9 hk9 htag H htn h0 h1
      go_enter Tryz.func77, Tryz.ntmps77
      go_wp2_with (go_at_call 56; refine (HV.out _ ((Below.refl _ _).alloc (Nat.le_refl _) _)).mono ?_; rintro e w1 ⟨rfl, rfl⟩)
      go_ret
      exact ⟨ret_b rfl, (Below.refl _ _).alloc (Nat.le_refl _) _⟩
    · have k9' : ((L k).kind == 9) = false := by simpa using hk9
      have e0 : numberB L T n = mayK (L k).kind n := by unfold numberB; rw [if_neg h9, htn, if_neg hk9]
      rw [e0]
      have HM := Lib.hid (fun w => refKMay_any (L k).kind n hn w)
      clear e0 h9 hk9 htag H htn h0 h1
      go_enter Tryz.func77, Tryz.ntmps77
      go_wp2_with (go_at_call 57; refine (HM.out _).mono ?_; rintro e w1 ⟨rfl, m, rfl⟩)
      go_ret
      exact ⟨rfl, drewN_below ((Below.refl _ _).alloc (Nat.le_refl _) _) m⟩
end Go.Proofs.YtohphejhlgnciaaGreat
namespace Go.Proofs.YtohphejhlgnciaaGreat
open Go.RowKit
set_option linter.unusedVariables false
def itmO (x : ItemV) : Obj := .cells #[.string x.name, .int .u64 x.num, .int .i64 x.type, .bool x.key, .bool x.rest] 42
/-- an item's own box, beside its type's -/
def ItB (g h : Nat) (T : TypeV) (x : ItemV) (w0 w : World) : Prop := w.heap[h]? = some (itmO x) ∧ BoxT g T w0 w
theorem ItB.keep {g h : Nat} {T : TypeV} {x : ItemV} {w0 w w1 : World} (hi : ItB g h T x w0 w) (hb : Below w.heap.size w w1) : ItB g h T x w0 w1 := ⟨(hb.block h (lt_of_block hi.1)).trans hi.1, hi.2.keep hb⟩
theorem ItB.drewN {g h : Nat} {T : TypeV} {x : ItemV} {w0 w : World} (hi : ItB g h T x w0 w) (m : Nat) : ItB g h T x w0 (w.drewN m) := hi.keep (drewN_below (Below.refl _ _) m)
theorem ItB.cells {g h : Nat} {T : TypeV} {x : ItemV} {w0 w : World} (hi : ItB g h T x w0 w) : w.cell? ⟨h, 0, none⟩ = some (.string x.name) ∧ w.cell? ⟨h, 1, none⟩ = some (.int .u64 x.num) ∧ w.cell? ⟨h, 2, none⟩ = some (.int .i64 x.type) ∧ w.cell? ⟨h, 3, none⟩ = some (.bool x.key) ∧ w.cell? ⟨h, 4, none⟩ = some (.bool x.rest) :=
  ⟨cell_at hi.1 rfl, cell_at hi.1 rfl, cell_at hi.1 rfl, cell_at hi.1 rfl, cell_at hi.1 rfl⟩
def nameEq (T : TypeV) (x : ItemV) (k : Nat) : Bool := (T.items k).name.toList == x.name.toList
def numEq (T : TypeV) (x : ItemV) (k : Nat) : Bool := (T.items k).num == x.num
def hasB (p : Nat → Bool) (n : Nat) : Bool := decide (firstN p n < n)
theorem hasB_next (p : Nat → Bool) (k : Nat) : hasB p (k + 1) = (hasB p k || p k) := by
  obtain ⟨h1, h2, h3⟩ := firstN_is p k
  unfold hasB
  by_cases c : firstN p k < k
  · rw [first_at h2 (by omega : firstN p k < k + 1) (h3 c), decide_eq_true c, decide_eq_true (by omega)]; rfl
  · have hn : ∀ i, i < k → p i = false := fun i hi => h2 i (by omega)
    rw [decide_eq_false c]
    cases hp : p k with
    | true => rw [first_at hn (Nat.lt_succ_self k) hp]; simp
    | false => rw [first_none (none_next hn hp)]; simp
theorem hasB_zero (p : Nat → Bool) : hasB p 0 = false := by unfold hasB; simp
theorem hasB_none {p : Nat → Bool} {n : Nat} (h : ∀ i, i < n → p i = false) : hasB p n = false := by unfold hasB; rw [first_none h]; simp
theorem hasB_some {p : Nat → Bool} {n k : Nat} (hk : k < n) (hp : p k = true) : hasB p n = true := by
  cases h : hasB p n with
  | true => rfl
  | false =>
    unfold hasB at h
    have h1 := firstN_is p n
    have h2 : ¬ firstN p n < n := by simpa using h
    rw [h1.2.1 k (by omega)] at hp; cases hp
def itemE (L : Nat → TypeV) (T : TypeV) (i : Nat) : Int :=
  if nameS (T.items i).name = false then 5 else if hasB (nameEq T (T.items i)) i then 6
  else if T.kind = 13 then (if (T.items i).key && !numK (L (T.items i).type.toNat).kind && (L (T.items i).type.toNat).kind != 10 then 17 else 0)
  else if (T.items i).rest then (if i + 1 < T.ilen then 14 else 0)
  else if numberB L T (T.items i).num = false then 7 else if hasB (numEq T (T.items i)) i then 6 else 0
set_option maxRecDepth 100000 in
set_option maxHeartbeats 4000000 in
theorem refItemE_any (ao : Option Addr) (len cap : Nat) (L : Nat → TypeV) (T : TypeV) (i : Nat) (hlen : len ≤ 140737488351232) (hi : i < T.ilen)
    (htag : T.kind = 13 ∨ T.kind = 9 ∨ (0 ≤ T.tag ∧ T.tag < len)) (hty : T.kind = 13 → 0 ≤ (T.items i).type ∧ (T.items i).type < len) (w : World) (HT : ItemsAt w T) (H : ∀ i, i < len → TypeAt w ao i (L i)) :
    Calls Tryz.prog 54 #[.slice ao len cap, typV T, .int .i64 i] w fun e w' => e = .returned (.int .i64 (itemE L T i)) ∧ Below w.heap.size w w' := by
  obtain ⟨hil, hit⟩ := HT
  obtain ⟨b, off, hia, x0, x1, x2, x3, x4, wi⟩ := hit i hi
  have hbl : b < w.heap.size := World.block_lt_of_cell? w _ x0
  have hne : ¬ b = w.heap.size := by omega
  have HI := Lib.hid hit
  have HH := Lib.hid H
  clear hit H
  obtain ⟨E, hE⟩ : ∃ E, itemE L T i = E := ⟨_, rfl⟩
  rw [hE]
  have HE := Lib.hid hE
  clear hE
  unfold typV
  rw [hia]
  go_enter Tryz.func54, Tryz.ntmps54
  go_upto_region 2 with (fail)
  have hb0 : typO T = (.cells #[.int .i64 T.kind, .string T.name, .int .i64 T.bound, .int .i64 T.of, .int .i64 T.tag, .slice (some ⟨b, off, none⟩) T.ilen T.icap] 40) := by unfold typO; rw [hia]
  have HB : ItB w.heap.size (w.heap.size + 1) T (T.items i) w ((w.alloc (.cells #[.int .i64 T.kind, .string T.name, .int .i64 T.bound, .int .i64 T.of, .int .i64 T.tag, .slice (some ⟨b, off, none⟩) T.ilen T.icap] 40)).alloc (.cells #[.string (T.items i).name, .int .u64 (T.items i).num, .int .i64 (T.items i).type, .bool (T.items i).key, .bool (T.items i).rest] 42)) :=
    ⟨by (have hq := alloc_at (w.alloc (.cells #[.int .i64 T.kind, .string T.name, .int .i64 T.bound, .int .i64 T.of, .int .i64 T.tag, .slice (some ⟨b, off, none⟩) T.ilen T.icap] 40)) (.cells #[.string (T.items i).name, .int .u64 (T.items i).num, .int .i64 (T.items i).type, .bool (T.items i).key, .bool (T.items i).rest] 42); rw [show (w.alloc (.cells #[.int .i64 T.kind, .string T.name, .int .i64 T.bound, .int .i64 T.of, .int .i64 T.tag, .slice (some ⟨b, off, none⟩) T.ilen T.icap] 40)).heap.size = w.heap.size + 1 by simp] at hq; exact hq), by rw [hb0]; exact alloc_old (alloc_at w _), ((Below.refl _ _).alloc (Nat.le_refl _) _).alloc (by simp) _⟩
  have HB := Lib.hid HB
  have HIA := Lib.hid hia
  clear hb0 hia x0 x1 x2 x3 x4 hbl hne
  generalize ((w.alloc (.cells #[.int .i64 T.kind, .string T.name, .int .i64 T.bound, .int .i64 T.of, .int .i64 T.tag, .slice (some ⟨b, off, none⟩) T.ilen T.icap] 40)).alloc (.cells #[.string (T.items i).name, .int .u64 (T.items i).num, .int .i64 (T.items i).type, .bool (T.items i).key, .bool (T.items i).rest] 42)) = wb at *
  have HEQ := Lib.hid (show itemE L T i = if nameS (T.items i).name = false then 5 else if hasB (nameEq T (T.items i)) i then 6
    else if T.kind = 13 then (if (T.items i).key && !numK (L (T.items i).type.toNat).kind && (L (T.items i).type.toNat).kind != 10 then 17 else 0)
    else if (T.items i).rest then (if i + 1 < T.ilen then 14 else 0)
    else if numberB L T (T.items i).num = false then 7 else if hasB (numEq T (T.items i)) i then 6 else 0 from rfl)
  obtain ⟨x, hx⟩ : ∃ x, T.items i = x := ⟨_, rfl⟩
  rw [hx] at HB wi hty HEQ
  have HX := Lib.hid hx
  clear hx
  generalize w.heap.size + 1 = h at *
  have HG := Lib.hid (rfl : w.heap.size = w.heap.size)
  obtain ⟨c0, c1, c2, c3, c4⟩ := HB.out.cells
  obtain ⟨d0, d1, d2, d3, d4, d5⟩ := HB.out.2.cells
  have hgw : w.heap.size ≤ wb.heap.size := HB.out.2.2.size
  cases hn : nameS x.name with
  | false =>
    have hEv : E = 5 := by rw [← HE.out, HEQ.out, hn]; simp
    subst hEv
    go_wp2_with (go_at_call 51; refine (refName_any _ (Nat.le_trans wi.2.2 (by decide)) _).mono ?_; rintro e w1 ⟨rfl, hb1⟩)
    go_ret
    exact ⟨rfl, (HB.out.keep hb1).2.2⟩
  | true =>
    go_upto_region 4 with (go_at_call 51; refine (refName_any _ (Nat.le_trans wi.2.2 (by decide)) _).mono ?_; rintro e w2 ⟨rfl, hb1⟩; have HB2 := Lib.hid (HB.out.keep hb1); clear hb1)
    clear c0 c1 c2 c3 c4 d0 d1 d2 d3 d4 d5
    go_wp2
    go_loopw [8, 9] (fun q i' wr => ∃ (k : Nat), k ≤ i ∧ i' = .int .i64 k ∧ q = .bool (hasB (numEq T x) k) ∧ Hid (∀ m, m < k → nameEq T x m = false) ∧ Hid (ItB w.heap.size h T x w wr)) (fun _ i' _ => i - (intOf i').toNat)
    case atStart => exact ⟨0, Nat.zero_le _, rfl, by rw [hasB_zero], Lib.hid (fun m hm => absurd hm (Nat.not_lt_zero _)), HB2⟩
    case round =>
      obtain ⟨k, hk, rfl, rfl, HN, HBr⟩ := hrel
      obtain ⟨c0, c1, c2, c3, c4⟩ := HBr.out.cells
      obtain ⟨d0, d1, d2, d3, d4, d5⟩ := HBr.out.2.cells
      by_cases hlt : k < i
      · have hiat := (HI.out k (by omega)).held (w1 := wr) HBr.out.2.2
        obtain ⟨b', off', hia2, y0, y1, y2, y3, y4, wy⟩ := hiat
        rw [HIA.out] at hia2 d5
        cases hia2
        have hkl : (k : Int) < (T.ilen : Int) := by omega
        have hnx := hasB_next (numEq T x) k
        cases hq : ((T.items k).name.toList == x.name.toList) with
        | true =>
          have HS := Lib.hid (hasB_some (p := nameEq T x) hlt hq)
          clear hnx
          go_upto_region 8 with (fail)
          go_wp2_with fail
          go_big_quiet (fail)
          have hEv : E = 6 := by rw [← HE.out, HEQ.out, hn, HS.out]; simp
          subst hEv
          go_wp2
          go_ret
          exact ⟨rfl, (HBr.out.drewN _).2.2⟩
        | false =>
          have HN2 := Lib.hid (none_next HN.out hq)
          go_upto_region 8 with (fail)
          go_wp2_with fail
          go_big_quiet (fail)
          go_upto_region 10 with (fail)
          obtain ⟨nb, hnb⟩ : ∃ b, ((T.items k).num == x.num) = b := ⟨_, rfl⟩
          have hnx2 : hasB (numEq T x) (k + 1) = (hasB (numEq T x) k || nb) := by rw [hnx, ← hnb]; rfl
          clear hnx
          cases hbb : hasB (numEq T x) k with
          | true =>
            rw [hbb] at hnx2
            have HX2 := Lib.hid hnx2
            clear hnx2
            go_wp2_with fail
            go_big_quiet (fail)
            go_wp2
            go_roundw
            case rel => exact ⟨k + 1, by omega, by go_num, by rw [HX2.out]; rfl, HN2, Lib.hid (HBr.out.drewN _)⟩
            case measure => simp [intOf]; omega
          | false =>
            rw [hbb] at hnx2
            have HX2 := Lib.hid hnx2
            clear hnx2
            go_wp2_with fail
            go_big_quiet (fail)
            go_wp2
            go_roundw
            case rel => exact ⟨k + 1, by omega, by go_num, by rw [HX2.out]; simp, HN2, Lib.hid (HBr.out.drewN _)⟩
            case measure => simp [intOf]; omega
      · obtain rfl : k = i := by omega
        have hNN := hasB_none (p := nameEq T x) HN.out
        have hEq := HE.out.symm.trans HEQ.out
        rw [hn, hNN] at hEq
        simp only [Bool.true_eq_false, Bool.false_eq_true, if_false] at hEq
        cases hk13 : (T.kind == 13) with
        | true =>
          have e13 : T.kind = 13 := by simpa using hk13
          obtain ⟨t0, t1⟩ := hty e13
          obtain ⟨y, hy⟩ := Int.eq_ofNat_of_zero_le t0
          have hyl : y < len := by omega
          rw [if_pos e13, show x.type.toNat = y by omega] at hEq
          obtain ⟨b2, off2, hao, z0, _⟩ := (HH.out y hyl).held (w1 := wr) HBr.out.2.2
          rw [hy] at c2
          subst hao
          have HEv := Lib.hid hEq
          clear hEq e13 t0 t1 hy htag hty
          obtain ⟨kd, hkd⟩ : ∃ kd, (L y).kind = kd := ⟨_, rfl⟩
          rw [hkd] at z0 HEv
          obtain ⟨b10, h10⟩ : ∃ b, (kd != 10) = b := ⟨_, rfl⟩
          obtain ⟨bk, hbk⟩ : ∃ b, x.key = b := ⟨_, rfl⟩
          have HF := Lib.hid (HEv.out.trans (by rw [h10, hbk] : _ = if bk && !numK kd && b10 then (17 : Int) else 0))
          clear hkd
          go_wp2_with (go_at_call 53; refine (refNumber_any _ _).mono ?_; rintro e w2 ⟨rfl, rfl⟩)
          all_goals
            go_ret
            exact ⟨ret_i (by rw [HF.out]; simp_all), HBr.out.2.2⟩
        | false =>
          have e13 : ¬ T.kind = 13 := by simpa using hk13
          rw [if_neg e13] at hEq
          cases hrest : x.rest with
          | true =>
            rw [hrest] at c4 hEq
            rw [if_pos rfl] at hEq
            have HEv := Lib.hid hEq
            clear hEq
            by_cases hlast : k + 1 < T.ilen
            · have hl2 : decide ((k : Int) < (T.ilen : Int) - 1) = true := by simp; omega
              go_wp2
              go_ret
              exact ⟨ret_i (by rw [HEv.out, if_pos hlast]), HBr.out.2.2⟩
            · have hl2 : decide ((k : Int) < (T.ilen : Int) - 1) = false := by simp; omega
              go_wp2
              go_ret
              exact ⟨ret_i (by rw [HEv.out, if_neg hlast]), HBr.out.2.2⟩
          | false =>
            rw [hrest] at c4 hEq
            simp only [Bool.false_eq_true, if_false] at hEq
            have HEv := Lib.hid hEq
            have HNU := Lib.hid (refNum_any ao len cap L T x.num hlen wi.1 (htag.resolve_left e13) wr (fun i hi => (HH.out i hi).held HBr.out.2.2))
            clear hEq
            obtain ⟨bn, hbn⟩ : ∃ b, numberB L T x.num = b := ⟨_, rfl⟩
            have hq := HNU.out
            unfold typV at hq
            rw [hbn] at hq
            have HNV := Lib.hid hq
            rw [hbn] at HEv
            clear hq hbn
            cases bn with
            | false =>
              have HEw := Lib.hid (HEv.out.trans (if_pos rfl))
              go_wp2_with (go_at_call 77; refine (HNV.out).mono ?_; rintro e w2 ⟨rfl, hb2⟩)
              go_ret
              exact ⟨ret_i HEw.out.symm, (HBr.out.keep hb2).2.2⟩
            | true =>
              have HEw := Lib.hid (HEv.out.trans (if_neg (by decide)))
              cases hbs : hasB (numEq T x) k with
              | true =>
                have HEx := Lib.hid (HEw.out.trans (by rw [hbs]; rfl : _ = (6 : Int)))
                go_wp2_with (go_at_call 77; refine (HNV.out).mono ?_; rintro e w2 ⟨rfl, hb2⟩)
                go_ret
                exact ⟨ret_i HEx.out.symm, (HBr.out.keep hb2).2.2⟩
              | false =>
                have HEx := Lib.hid (HEw.out.trans (by rw [hbs]; rfl : _ = (0 : Int)))
                go_wp2_with (go_at_call 77; refine (HNV.out).mono ?_; rintro e w2 ⟨rfl, hb2⟩)
                go_ret
                exact ⟨ret_i HEx.out.symm, (HBr.out.keep hb2).2.2⟩
end Go.Proofs.YtohphejhlgnciaaGreat
