/- Contract of the reference of chapter 7: End. -/
import Derived.Test.YtblnhoagdnnjdaaGreatBoundsRefOne
namespace Go.Proofs.YtblnhoagdnnjdaaGreat
open Go.RowKit
set_option linter.unusedVariables false
theorem infoRow : (Tryz.prog.info? 43).map (fun i => (i.zero, i.size, i.bytes)) = some (some (.slice none 0 0), 1, 24) := by kernel_rfl
/-- bytes by a place's rest -/
def byB (E : Nat → Nat → Nat) (p r : Nat) : Nat := E p r - r
/-- in the midst of End: the bytes of the first n types are there, in blocks below B -/
def DSt (B : Nat) (w0 : World) (E : Nat → Nat → Nat) (n : Nat) (v : Value) (w : World) : Prop :=
  ∃ us : List Value, w.ownsRow w0.heap.size 43 1 v n us ∧ Below w0.heap.size w0 w ∧ (∀ k, v.ownBlock = some k → k < B) ∧
    ∀ p, p < n → ∃ g, us[p]? = some (Value.slice (some ⟨g, 0, none⟩) 8 8) ∧ g < B ∧ (∀ k, v.ownBlock = some k → k ≠ g) ∧ w.heap[g]? = some (.cells (eCells (byB E) p 8) 3 (0, 0))
theorem DSt.keep {B : Nat} {w0 : World} {E : Nat → Nat → Nat} {n : Nat} {v : Value} {w w1 : World} (h : DSt B w0 E n v w) (hb : Below w.heap.size w w1) : DSt B w0 E n v w1 := by
  obtain ⟨us, h1, h2, h3, h4⟩ := h
  refine ⟨us, row_keep h1 hb, h2.trans (hb.mono h2.size), h3, fun p hp => ?_⟩
  obtain ⟨g, e1, e0, e2, e3⟩ := h4 p hp
  exact ⟨g, e1, e0, e2, (hb.block g (lt_of_block e3)).trans e3⟩
theorem DSt.below {B : Nat} {w0 : World} {E : Nat → Nat → Nat} {n : Nat} {v : Value} {w : World} (h : DSt B w0 E n v w) : Below w0.heap.size w0 w := by
  obtain ⟨us, h1, h2, h3, h4⟩ := h; exact h2
theorem DSt.set {w0 : World} {E : Nat → Nat → Nat} {n be j : Nat} {u v : Value} {w : World} (h : DSt be w0 E n v w) (hs : w0.heap.size ≤ be) : DSt be w0 E n v (w.setCell ⟨be, j, none⟩ u) := by
  obtain ⟨us, h1, h2, h3, h4⟩ := h
  refine ⟨us, ((Only.refl (fun k => k = be) w).setCell (.inl rfl) u).row h1 (fun k hk => Nat.ne_of_lt (h3 k hk)), h2.setCell hs u, h3, fun p hp => ?_⟩
  obtain ⟨g, e1, e0, e2, e3⟩ := h4 p hp
  exact ⟨g, e1, e0, e2, (set_other (Nat.ne_of_lt e0)).trans e3⟩
theorem DSt.done {B : Nat} {w0 : World} {E : Nat → Nat → Nat} {n : Nat} {v : Value} {w : World} (h : DSt B w0 E n v w) (hE : ∀ p, p < n → ∀ r, r < 8 → E p r - r ≤ 1000000000000) : DoneAt E n v w := by
  obtain ⟨us, h1, h2, h3, h4⟩ := h
  obtain ⟨a, cap, rfl, hg⟩ := row_form h1
  refine ⟨a, cap, rfl, fun p hp => ?_⟩
  obtain ⟨g', rfl⟩ := hg (by omega)
  obtain ⟨g, e1, e0, e2, e3⟩ := h4 p hp
  refine ⟨g', _, rfl, ?_, g, 8, rfl, fun r hr => ⟨?_, hE p hp r hr⟩⟩
  · rw [h1.cellAt p (by omega)]; exact e1
  · have := cell_at (j := r) e3 (eCells_get (K := byB E) (i := p) (k := 8) hr)
    rw [this]; unfold eC; rw [if_pos hr]; rfl
theorem DSt.next {w0 : World} {E : Nat → Nat → Nat} {n be : Nat} {us : List Value} {v v2 : Value} {w w2 : World} {o : Obj} (h1 : w.ownsRow w0.heap.size 43 1 v n us) (h2 : Below w0.heap.size w0 w) (h3 : ∀ k, v.ownBlock = some k → k < be)
    (h4 : ∀ p, p < n → ∃ g, us[p]? = some (Value.slice (some ⟨g, 0, none⟩) 8 8) ∧ g < be ∧ (∀ k, v.ownBlock = some k → k ≠ g) ∧ w.heap[g]? = some (.cells (eCells (byB E) p 8) 3 (0, 0)))
    (hbe : w.heap[be]? = some (.cells (eCells (byB E) n 8) 3 (0, 0))) (hown : w2.ownsRow w0.heap.size 43 1 v2 (n + 1) (us ++ [Value.slice (some ⟨be, 0, none⟩) 8 8])) (hg : (w.alloc o).grownBy w2 v.ownBlock)
    (hf : ∀ k, v2.ownBlock = some k → v.ownBlock = some k ∨ (w.alloc o).heap.size ≤ k) : DSt w2.heap.size w0 E (n + 1) v2 w2 := by
  have hlu : us.length = n := by have := h1.1; simpa using this
  have hbl := lt_of_block hbe
  have hsz : (w.alloc o).heap.size = w.heap.size + 1 := by simp
  refine ⟨_, hown, (h2.alloc h2.size o).grown hg (by have := h2.size; simp; omega) (fun k hk => (h1.lt k hk).1), fun k hk => (hown.lt k hk).2, fun p hp => ?_⟩
  by_cases c : p = n
  · subst c
    have hw2 : w2.heap[be]? = some (.cells (eCells (byB E) p 8) 3 (0, 0)) := (hg.block be (by omega) (fun e => by have := h3 be e.symm; omega)).trans (alloc_old hbe)
    refine ⟨be, by rw [List.getElem?_append_right (by omega), hlu]; simp, lt_of_block hw2, fun k hk => ?_, hw2⟩
    rcases hf k hk with h | h
    · exact Nat.ne_of_lt (h3 k h)
    · omega
  · obtain ⟨g, e1, e0, e2, e3⟩ := h4 p (by omega)
    have hgl := lt_of_block e3
    have hw2 : w2.heap[g]? = some (.cells (eCells (byB E) p 8) 3 (0, 0)) := (hg.block g (by omega) (fun e => e2 g e.symm rfl)).trans (alloc_old e3)
    refine ⟨g, by rw [List.getElem?_append_left (by omega)]; exact e1, lt_of_block hw2, fun k hk => ?_, hw2⟩
    rcases hf k hk with h | h
    · exact e2 k h
    · omega
theorem end_byte {L : Nat → TypeV} {len : Nat} {most : Bool} (hok : ∀ i, i < len → OkT L i) {p : Nat} (hp : p < len) (r : Nat) : endE L (openT L len) most p r - r ≤ 1000000000000 := by
  have := end_le (op := openT L len) (most := most) hok hp r
  omega
theorem made_block {w : World} {base g : Nat} {xs : List Value} (h : w.ownsRow base 3 1 (.slice (some ⟨g, 0, none⟩) 8 8) 8 xs) : w.heap[g]? = some (.cells xs.toArray 3 (0, 0)) := by
  rcases h.2 with ⟨h1, _⟩ | ⟨g', cap, cur, e, _, hg, _, _, hcs, ht⟩
  · cases h1
  · injection e with e1 e2 e3
    injection e1 with e1
    injection e1 with e1
    subst e1 e3
    have hc : cur.toList = xs := by rw [← ht, List.take_of_length_le (by simp [hcs])]
    rw [hg, ← hc]
set_option maxRecDepth 20000 in
set_option maxHeartbeats 2000000 in
theorem refEnd_pos (ao : Option Addr) (len cap : Nat) (L : Nat → TypeV) (k A : Nat) (most : Bool) (hlen : len ≤ 1000000) (hk : k < len) (hv : fErr (oneR L len) len = 0) (hA : A ≤ 512) (w : World) (H : ∀ i, i < len → TypeAt w ao i (L i)) :
    Calls Tryz.prog 9 #[.slice ao len cap, .int .i64 (k : Nat), .int .i64 (A : Nat), .bool most] w fun e w' => e = .returned (.int .i64 (min (endE L (openT L len) most k A) 513 : Nat)) ∧ Below w.heap.size w w' := by
  have hok := ok_all hv
  obtain ⟨i0, hi, hz0, hz1, hz2⟩ := info_parts infoRow
  obtain ⟨i1, hi1, hy0, hy1, hy2⟩ := info_parts infoInt
  have hc1 := refCheck_any ao len cap L hlen w H
  unfold faultV at hc1
  rw [hv] at hc1
  obtain ⟨F, hF⟩ : ∃ F, fAt (oneR L len) len = F := ⟨_, rfl⟩
  rw [hF] at hc1
  have hfe := fault_err
  have HC1 := Lib.hid hc1
  have HH := Lib.hid H
  have HOK := Lib.hid hok
  have HBY := Lib.hid (fun p (hp : p < len) r => end_byte (most := most) hok hp r)
  have HGD := Lib.hid (fun p (hp : p < len) => end_good (op := openT L len) (most := most) hok hp)
  have HS0 := Lib.hid (show ∀ wx, Below w.heap.size w wx → DSt wx.heap.size w (endE L (openT L len) most) 0 (.slice none 0 0) wx from fun wx hb => ⟨[], World.ownsRow_nil _ _ _ _, hb, fun k hk => by simp [Value.ownBlock] at hk, fun p hp => by omega⟩)
  have hlk1 : decide (len ≤ k) = false := by simp; omega
  have hlk2 : decide ((len : Int) ≤ (k : Int)) = false := by simp; omega
  clear hc1 H hok hv hF
  go_enter Tryz.func9, Tryz.ntmps9
  go_wp2_with (go_at_call 6; refine HC1.out.mono ?_; rintro e w1 ⟨rfl, hb1⟩; have HB1 := Lib.hid hb1; clear hb1)
  go_loopw [9, 10] (fun v i wr => ∃ n : Nat, n ≤ k + 1 ∧ i = .int .i64 n ∧ Hid (DSt wr.heap.size w (endE L (openT L len) most) n v wr)) (fun _ i _ => k + 1 - (intOf i).toNat)
  case atStart => exact ⟨0, Nat.zero_le _, rfl, Lib.hid (HS0.out _ HB1.out)⟩
  case round =>
    obtain ⟨n, hn, rfl, HD⟩ := hrel
    by_cases hlt : n ≤ k
    · have hd1 : decide ((n : Int) ≤ (k : Int)) = true := by simp; omega
      have hd2 : decide (n ≤ k) = true := by simp; omega
      have hnl : n < len := by omega
      have hszw := HD.out.below.size
      obtain ⟨wo, hwo⟩ : ∃ wo : World, wo = wr := ⟨_, rfl⟩
      subst hwo
      have hsz0 : w.heap.size ≤ wo.heap.size := hszw
      go_upto_region 12 with (refine wpList_make_full _ rfl (.const (.int .i64 8)) (.const (.int .i64 8)) 43 rfl wo.heap.size 3 i1 (.int .i64 0) 1 Tryz.underlying43 hi1 hy0 hy1 .i64 .i64 8 8 8 rfl rfl rfl rfl (by rw [hy2]; omega) (by unfold maxLen; omega) (Nat.le_refl _) ?_)
      intro wm hown hgm
      have hmade : wm.heap[wo.heap.size]? = some (.cells (eCells (byB (endE L (openT L len) most)) n 0) 3 (0, 0)) := by
        have e : (madeCells #[Value.int .i64 0] 8).toList = List.replicate 8 (.int .i64 0) := toList_madeCells_one _ _
        rw [e] at hown
        rw [made_block hown, eCells_zero]; rfl
      have HE := Lib.hid hmade
      have HQ := Lib.hid (HD.out.keep ((Below.refl wo.heap.size wo).grown hgm (Nat.le_refl _) (fun k hk => by cases hk)))
      clear hown hgm hmade HD
      go_upto_region 13 with (fail)
      clear hszw
      go_loopw [12] (fun kk wi => ∃ j : Nat, j ≤ 8 ∧ kk = .int .i64 j ∧ Hid (DSt wo.heap.size w (endE L (openT L len) most) n u9 wi) ∧ Hid (wi.heap[wo.heap.size]? = some (.cells (eCells (byB (endE L (openT L len) most)) n j) 3 (0, 0)))) (fun kk _ => 8 - (intOf kk).toNat)
      case atStart => exact ⟨0, by omega, rfl, HQ, HE⟩
      case round =>
        obtain ⟨j, hj, rfl, HQ2, HE2⟩ := hrel
        by_cases hlt8 : j < 8
        · have ho := one7_any ao len cap L most n j u9 hlen hnl HOK.out (by omega) _ (hold HH.out HQ2.out.below) (HQ2.out.done (fun p hp r _ => HBY.out p (by omega) r))
          have hby : endE L (openT L len) most n j - j = byB (endE L (openT L len) most) n j := rfl
          rw [hby] at ho
          have HO := Lib.hid ho
          clear ho hby
          go_wp2_with (go_at_call 16; refine HO.out.mono ?_; rintro e w2 ⟨rfl, hb2⟩; have HQ3 := Lib.hid (HQ2.out.keep hb2); have hE3 := (hb2.block wo.heap.size (lt_of_block HE2.out)).trans HE2.out; have cc := cell_at hE3 (eCells_get hlt8); have ff := free_at (j := j) hE3; have HE3 := Lib.hid hE3; clear hE3 hb2)
          go_roundw
          case rel => exact ⟨j + 1, by omega, by go_num, Lib.hid (HQ3.out.set hsz0), Lib.hid (by rw [← eCells_set hlt8]; exact set_at HE3.out)⟩
          case measure => simp [intOf]; omega
        · obtain rfl : j = 8 := by omega
          obtain ⟨us, g1, g2, g3, g4⟩ := HQ2.out
          have hsw := g2.size
          have G1 := Lib.hid g1
          have G2 := Lib.hid g2
          have G3 := Lib.hid g3
          have G4 := Lib.hid g4
          clear g1 g2 g3 g4
          obtain ⟨wq, hwq⟩ : ∃ wq : World, wq = wr := ⟨_, rfl⟩
          subst hwq
          go_wp2_with (at_builtin; refine wpList_append_at rfl (.tmp 51) (.tmp 53) 42 rfl w.heap.size 43 i0 (.slice none 0 0) 1 24 Tryz.underlying42 hi hz0 hz1 hz2 rfl (by decide) _ _ _ rfl (G1.out.alloc _) ⟨_, 0, none⟩ 1 1 [.slice (some ⟨wo.heap.size, 0, none⟩) 8 8] rfl rfl (fun j u hj => by match j, hj with | 0, hj => (simp at hj; subst hj; simp [Addr.add])) (fun u hu => by (simp at hu; subst hu; rfl)) (by unfold maxLen; omega) (by omega) (by simp; omega) ?_; intro v2 w3 hown2 hg2 hf2; have HN := Lib.hid (DSt.next G1.out G2.out G3.out G4.out HE2.out hown2 hg2 hf2.out); clear hown2 hg2 hf2)
          go_wp2
          go_roundw
          case rel => exact ⟨n + 1, by omega, by go_num, HN⟩
          case measure => simp [intOf]; omega
    · obtain rfl : n = k + 1 := by omega
      have hd1 : decide (((k : Int) + 1) ≤ (k : Int)) = false := by simp; omega
      have hd1' : decide ((((k + 1 : Nat)) : Int) ≤ (k : Int)) = false := by simp; omega
      have hd2 : decide (k + 1 ≤ k) = false := by simp
      have hgd := HGD.out k hk
      obtain ⟨gd, dcap, u, rfl, cu, hu⟩ := done_in (HD.out.done (fun p hp r _ => HBY.out p (by omega) r)) (show k < k + 1 by omega)
      obtain ⟨g2, cap2, rfl, hc⟩ := hu
      have hr8 : A % 8 < 8 := Nat.mod_lt _ (by decide)
      obtain ⟨c, hdl⟩ := hc (A % 8) hr8
      have hN := good_add hgd A
      have hi8 : ((A : Int) % 8) = ((A % 8 : Nat) : Int) := by omega
      obtain ⟨r, hr⟩ : ∃ r, A % 8 = r := ⟨_, rfl⟩
      rw [hr] at c hdl hN hi8 hr8
      obtain ⟨d, hdd⟩ : ∃ d, endE L (openT L len) most k r - r = d := ⟨_, rfl⟩
      rw [hdd] at c hdl hN
      have HN := Lib.hid hN
      have HBB := Lib.hid HD.out.below
      clear hN hgd hc hr hdd HD
      by_cases hbig : 512 < A + d
      · have hb1 : decide (512 < (A : Int) + (d : Int)) = true := by simp; omega
        go_wp2
        go_ret
        exact ⟨ret_i (by rw [HN.out]; omega), HBB.out⟩
      · have hb1 : decide (512 < (A : Int) + (d : Int)) = false := by simp; omega
        go_wp2
        go_ret
        exact ⟨ret_i (by rw [HN.out]; omega), HBB.out⟩
set_option maxRecDepth 20000 in
set_option maxHeartbeats 2000000 in
theorem refEnd_neg (ao : Option Addr) (len cap : Nat) (L : Nat → TypeV) (k : Nat) (at' : Int) (most : Bool) (hlen : len ≤ 1000000) (hk : k < len) (hv : fErr (oneR L len) len = 0) (hneg : at' < 0) (w : World) (H : ∀ i, i < len → TypeAt w ao i (L i)) :
    Calls Tryz.prog 9 #[.slice ao len cap, .int .i64 (k : Nat), .int .i64 at', .bool most] w fun e w' => e = .returned (.int .i64 (min (endE L (openT L len) most k 0) 513 : Nat)) ∧ Below w.heap.size w w' := by
  have hok := ok_all hv
  obtain ⟨i0, hi, hz0, hz1, hz2⟩ := info_parts infoRow
  obtain ⟨i1, hi1, hy0, hy1, hy2⟩ := info_parts infoInt
  have hc1 := refCheck_any ao len cap L hlen w H
  unfold faultV at hc1
  rw [hv] at hc1
  obtain ⟨F, hF⟩ : ∃ F, fAt (oneR L len) len = F := ⟨_, rfl⟩
  rw [hF] at hc1
  have hfe := fault_err
  have HC1 := Lib.hid hc1
  have HH := Lib.hid H
  have HOK := Lib.hid hok
  have HBY := Lib.hid (fun p (hp : p < len) r => end_byte (most := most) hok hp r)
  have HGD := Lib.hid (fun p (hp : p < len) => end_good (op := openT L len) (most := most) hok hp)
  have HS0 := Lib.hid (show ∀ wx, Below w.heap.size w wx → DSt wx.heap.size w (endE L (openT L len) most) 0 (.slice none 0 0) wx from fun wx hb => ⟨[], World.ownsRow_nil _ _ _ _, hb, fun k hk => by simp [Value.ownBlock] at hk, fun p hp => by omega⟩)
  have hlk1 : decide (len ≤ k) = false := by simp; omega
  have hlk2 : decide ((len : Int) ≤ (k : Int)) = false := by simp; omega
  clear hc1 H hok hv hF
  go_enter Tryz.func9, Tryz.ntmps9
  go_wp2_with (go_at_call 6; refine HC1.out.mono ?_; rintro e w1 ⟨rfl, hb1⟩; have HB1 := Lib.hid hb1; clear hb1)
  go_loopw [9, 10] (fun v i wr => ∃ n : Nat, n ≤ k + 1 ∧ i = .int .i64 n ∧ Hid (DSt wr.heap.size w (endE L (openT L len) most) n v wr)) (fun _ i _ => k + 1 - (intOf i).toNat)
  case atStart => exact ⟨0, Nat.zero_le _, rfl, Lib.hid (HS0.out _ HB1.out)⟩
  case round =>
    obtain ⟨n, hn, rfl, HD⟩ := hrel
    by_cases hlt : n ≤ k
    · have hd1 : decide ((n : Int) ≤ (k : Int)) = true := by simp; omega
      have hd2 : decide (n ≤ k) = true := by simp; omega
      have hnl : n < len := by omega
      have hszw := HD.out.below.size
      obtain ⟨wo, hwo⟩ : ∃ wo : World, wo = wr := ⟨_, rfl⟩
      subst hwo
      have hsz0 : w.heap.size ≤ wo.heap.size := hszw
      go_upto_region 12 with (refine wpList_make_full _ rfl (.const (.int .i64 8)) (.const (.int .i64 8)) 43 rfl wo.heap.size 3 i1 (.int .i64 0) 1 Tryz.underlying43 hi1 hy0 hy1 .i64 .i64 8 8 8 rfl rfl rfl rfl (by rw [hy2]; omega) (by unfold maxLen; omega) (Nat.le_refl _) ?_)
      intro wm hown hgm
      have hmade : wm.heap[wo.heap.size]? = some (.cells (eCells (byB (endE L (openT L len) most)) n 0) 3 (0, 0)) := by
        have e : (madeCells #[Value.int .i64 0] 8).toList = List.replicate 8 (.int .i64 0) := toList_madeCells_one _ _
        rw [e] at hown
        rw [made_block hown, eCells_zero]; rfl
      have HE := Lib.hid hmade
      have HQ := Lib.hid (HD.out.keep ((Below.refl wo.heap.size wo).grown hgm (Nat.le_refl _) (fun k hk => by cases hk)))
      clear hown hgm hmade HD
      go_upto_region 13 with (fail)
      clear hszw
      go_loopw [12] (fun kk wi => ∃ j : Nat, j ≤ 8 ∧ kk = .int .i64 j ∧ Hid (DSt wo.heap.size w (endE L (openT L len) most) n u9 wi) ∧ Hid (wi.heap[wo.heap.size]? = some (.cells (eCells (byB (endE L (openT L len) most)) n j) 3 (0, 0)))) (fun kk _ => 8 - (intOf kk).toNat)
      case atStart => exact ⟨0, by omega, rfl, HQ, HE⟩
      case round =>
        obtain ⟨j, hj, rfl, HQ2, HE2⟩ := hrel
        by_cases hlt8 : j < 8
        · have ho := one7_any ao len cap L most n j u9 hlen hnl HOK.out (by omega) _ (hold HH.out HQ2.out.below) (HQ2.out.done (fun p hp r _ => HBY.out p (by omega) r))
          have hby : endE L (openT L len) most n j - j = byB (endE L (openT L len) most) n j := rfl
          rw [hby] at ho
          have HO := Lib.hid ho
          clear ho hby
          go_wp2_with (go_at_call 16; refine HO.out.mono ?_; rintro e w2 ⟨rfl, hb2⟩; have HQ3 := Lib.hid (HQ2.out.keep hb2); have hE3 := (hb2.block wo.heap.size (lt_of_block HE2.out)).trans HE2.out; have cc := cell_at hE3 (eCells_get hlt8); have ff := free_at (j := j) hE3; have HE3 := Lib.hid hE3; clear hE3 hb2)
          go_roundw
          case rel => exact ⟨j + 1, by omega, by go_num, Lib.hid (HQ3.out.set hsz0), Lib.hid (by rw [← eCells_set hlt8]; exact set_at HE3.out)⟩
          case measure => simp [intOf]; omega
        · obtain rfl : j = 8 := by omega
          obtain ⟨us, g1, g2, g3, g4⟩ := HQ2.out
          have hsw := g2.size
          have G1 := Lib.hid g1
          have G2 := Lib.hid g2
          have G3 := Lib.hid g3
          have G4 := Lib.hid g4
          clear g1 g2 g3 g4
          obtain ⟨wq, hwq⟩ : ∃ wq : World, wq = wr := ⟨_, rfl⟩
          subst hwq
          go_wp2_with (at_builtin; refine wpList_append_at rfl (.tmp 51) (.tmp 53) 42 rfl w.heap.size 43 i0 (.slice none 0 0) 1 24 Tryz.underlying42 hi hz0 hz1 hz2 rfl (by decide) _ _ _ rfl (G1.out.alloc _) ⟨_, 0, none⟩ 1 1 [.slice (some ⟨wo.heap.size, 0, none⟩) 8 8] rfl rfl (fun j u hj => by match j, hj with | 0, hj => (simp at hj; subst hj; simp [Addr.add])) (fun u hu => by (simp at hu; subst hu; rfl)) (by unfold maxLen; omega) (by omega) (by simp; omega) ?_; intro v2 w3 hown2 hg2 hf2; have HN := Lib.hid (DSt.next G1.out G2.out G3.out G4.out HE2.out hown2 hg2 hf2.out); clear hown2 hg2 hf2)
          go_wp2
          go_roundw
          case rel => exact ⟨n + 1, by omega, by go_num, HN⟩
          case measure => simp [intOf]; omega
    · obtain rfl : n = k + 1 := by omega
      have hd1 : decide (((k : Int) + 1) ≤ (k : Int)) = false := by simp; omega
      have hd1' : decide ((((k + 1 : Nat)) : Int) ≤ (k : Int)) = false := by simp; omega
      have hd2 : decide (k + 1 ≤ k) = false := by simp
      have hgd := HGD.out k hk
      obtain ⟨gd, dcap, u, rfl, cu, hu⟩ := done_in (HD.out.done (fun p hp r _ => HBY.out p (by omega) r)) (show k < k + 1 by omega)
      obtain ⟨g2, cap2, rfl, hc⟩ := hu
      obtain ⟨c, hdl⟩ := hc 0 (by decide)
      obtain ⟨d, hdd⟩ : ∃ d, endE L (openT L len) most k 0 = d := ⟨_, rfl⟩
      rw [Nat.sub_zero, hdd] at c hdl
      have HN := Lib.hid hdd
      have HBB := Lib.hid HD.out.below
      clear hgd hc hdd HD
      by_cases hbig : 512 < d
      · have hb1 : decide (512 < (d : Int)) = true := by simp; omega
        go_wp2
        go_ret
        exact ⟨ret_i (by rw [HN.out]; omega), HBB.out⟩
      · have hb1 : decide (512 < (d : Int)) = false := by simp; omega
        go_wp2
        go_ret
        exact ⟨ret_i (by rw [HN.out]; omega), HBB.out⟩
set_option maxRecDepth 20000 in
theorem refEnd_any (ao : Option Addr) (len cap : Nat) (L : Nat → TypeV) (t at' : Int) (most : Bool) (hlen : len ≤ 1000000) (w : World) (H : ∀ i, i < len → TypeAt w ao i (L i)) :
    Calls Tryz.prog 9 #[.slice ao len cap, .int .i64 t, .int .i64 at', .bool most] w fun e w' => e = .returned (.int .i64 (boundA L (openT L len) len t at' most)) ∧ Below w.heap.size w w' := by
  cases hT : hasT L len t with
  | true =>
    obtain ⟨k, rfl, hk, hv⟩ := hasT_in hT
    have hok := ok_all hv
    have e : boundA L (openT L len) len (k : Nat) at' most = (min (endE L (openT L len) most k (placeN at')) 513 : Nat) := by unfold boundA; rw [hT]; rfl
    rw [e]
    by_cases h0 : at' < 0
    · have hp : placeN at' = 0 := by unfold placeN; omega
      rw [hp]
      exact refEnd_neg ao len cap L k at' most hlen hk hv h0 w H
    · by_cases h5 : 512 < at'
      · have hp : placeN at' = 513 := by unfold placeN; omega
        have hg := (end_good (op := openT L len) (most := most) hok hk).inc 513
        have e2 : min (endE L (openT L len) most k (placeN at')) 513 = 513 := by rw [hp]; omega
        rw [e2]
        have hc1 := refCheck_any ao len cap L hlen w H
        unfold faultV at hc1
        rw [hv] at hc1
        obtain ⟨F, hF⟩ : ∃ F, fAt (oneR L len) len = F := ⟨_, rfl⟩
        rw [hF] at hc1
        have hfe := fault_err
        have HC1 := Lib.hid hc1
        clear hc1 hF H hok hg e e2 hp hT hv
        go_enter Tryz.func9, Tryz.ntmps9
        go_wp2_with (go_at_call 6; refine HC1.out.mono ?_; rintro e w1 ⟨rfl, hb1⟩; have HB1 := Lib.hid hb1; clear hb1)
        go_ret
        exact ⟨rfl, HB1.out⟩
      · obtain ⟨A, rfl⟩ := Int.eq_ofNat_of_zero_le (show 0 ≤ at' by omega)
        have hp : placeN (A : Nat) = A := by unfold placeN; omega
        rw [hp]
        exact refEnd_pos ao len cap L k A most hlen hk hv (by omega) w H
  | false =>
    have e : boundA L (openT L len) len t at' most = -1 := by unfold boundA; rw [hT]; rfl
    rw [e]
    have hc1 := refCheck_any ao len cap L hlen w H
    unfold faultV at hc1
    obtain ⟨F, hF⟩ : ∃ F, fAt (oneR L len) len = F := ⟨_, rfl⟩
    obtain ⟨E, hE⟩ : ∃ E, fErr (oneR L len) len = E := ⟨_, rfl⟩
    rw [hF, hE] at hc1
    have hfe := fault_err
    have HC1 := Lib.hid hc1
    have hcase : E ≠ 0 ∨ t < 0 ∨ (len : Int) ≤ t := by
      apply Classical.byContradiction
      intro hno
      have h1 : E = 0 := by apply Classical.byContradiction; intro h; exact hno (.inl h)
      obtain ⟨k, rfl⟩ := Int.eq_ofNat_of_zero_le (show 0 ≤ t by omega)
      rw [hasT_yes (by omega) (by rw [hE]; exact h1)] at hT; cases hT
    clear hc1 hF hE H e hT
    by_cases h1 : E = 0
    · subst h1
      by_cases h2 : t < 0
      · clear hcase
        go_enter Tryz.func9, Tryz.ntmps9
        go_wp2_with (go_at_call 6; refine HC1.out.mono ?_; rintro e w1 ⟨rfl, hb1⟩; have HB1 := Lib.hid hb1; clear hb1)
        go_ret
        exact ⟨rfl, HB1.out⟩
      · have h3 : (len : Int) ≤ t := by omega
        clear hcase
        go_enter Tryz.func9, Tryz.ntmps9
        go_wp2_with (go_at_call 6; refine HC1.out.mono ?_; rintro e w1 ⟨rfl, hb1⟩; have HB1 := Lib.hid hb1; clear hb1)
        go_ret
        exact ⟨rfl, HB1.out⟩
    · have hne : (E != 0) = true := by simpa using h1
      clear hcase h1
      go_enter Tryz.func9, Tryz.ntmps9
      go_wp2_with (go_at_call 6; refine HC1.out.mono ?_; rintro e w1 ⟨rfl, hb1⟩; have HB1 := Lib.hid hb1; clear hb1)
      go_ret
      exact ⟨rfl, HB1.out⟩
end Go.Proofs.YtblnhoagdnnjdaaGreat
