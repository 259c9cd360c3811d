/- The code of chapter 18: a tree that shares no memory. -/
import Derived.Laws.Cover3
import Derived.RegionTactic
import Derived.Test.YtcojomkpogikiaaGreatDoorA45
namespace Go.Proofs.YtcojomkpogikiaaGreatDoor
open Go Go.RowKit Go.Shelf
set_option linter.unusedVariables false
set_option linter.unusedSimpArgs false
attribute [local go_sem] Oper.semAt_some
theorem infoOpd18 : (Tryz.prog.info? 40).map (fun i => (i.zero, i.size, i.bytes)) = some (some (.agg #[.int .i64 0, .string ⟨#[]⟩, .bool false, .int .u64 0]), 4, 40) := by kernel_rfl
theorem infoExp18 : (Tryz.prog.info? 26).map (fun i => (i.zero, i.size, i.bytes)) = some (some (.agg #[.int .i64 0, .int .i64 0, .slice none 0 0, .slice none 0 0]), 4, 64) := by kernel_rfl
theorem eql_nilO (a : Option Addr) (l c : Nat) (w : World) : (binOp .eql 23 (.slice a l c) (.slice none 0 0)).run Tryz.prog w = .ok (.bool a.isNone) w := by
  simp only [binOp]
  simp [run_equal_slice_nil w _ _ a l c Tryz.underlying23]
theorem eql_nilE (a : Option Addr) (l c : Nat) (w : World) : (binOp .eql 24 (.slice a l c) (.slice none 0 0)).run Tryz.prog w = .ok (.bool a.isNone) w := by
  simp only [binOp]
  simp [run_equal_slice_nil w _ _ a l c Tryz.underlying24]
theorem flat_len4 (f : Nat → List Value) (hf : ∀ i, (f i).length = 4) : ∀ n, ((List.range n).flatMap f).length = n * 4
  | 0 => rfl
  | n + 1 => by rw [flat_succ, List.length_append, flat_len4 f hf n, hf]; omega
theorem flat_four (f : Nat → List Value) (hf : ∀ i, (f i).length = 4) : ∀ n i r, i < n → r < 4 → ((List.range n).flatMap f)[i * 4 + r]? = (f i)[r]?
  | n + 1, i, r, hi, hr => by
    rw [flat_succ]
    rcases Nat.lt_succ_iff_lt_or_eq.1 hi with h | rfl
    · rw [List.getElem?_append_left (by rw [flat_len4 f hf]; omega)]; exact flat_four f hf n i r h hr
    · rw [List.getElem?_append_right (by rw [flat_len4 f hf]; omega), flat_len4 f hf, show i * 4 + r - i * 4 = r by omega]
theorem rowC_of_own {w : World} {base n cap g : Nat} {t : TypeId} {f : Nat → List Value} (hf : ∀ i, (f i).length = 4) (h : w.ownsRow base t 4 (.slice (some ⟨g, 0, none⟩) n cap) n ((List.range n).flatMap f)) : RowC w g t f n ∧ base ≤ g := by
  rcases h.2 with ⟨hv, _⟩ | ⟨g', cap', cur, hv, hb, hg, h1, h2, h3, h4⟩
  · cases hv
  · cases hv
    refine ⟨⟨cur, hg, fun i hi r u hu => ?_⟩, hb⟩
    have hr : r < 4 := by
      have := (List.getElem?_eq_some_iff.1 hu).1
      rwa [hf] at this
    rw [← flat_four f hf n i r hi hr, ← h4, List.getElem?_take, if_pos (by omega)] at hu
    simpa using hu
theorem ownC_form {w : World} {base n : Nat} {t : TypeId} {f : Nat → List Value} (hf : ∀ i, (f i).length = 4) {v : Value} (h : w.ownsRow base t 4 v n ((List.range n).flatMap f)) : ∃ ao cap, v = .slice ao n cap ∧ (0 < n → ∃ g, ao = some ⟨g, 0, none⟩ ∧ base ≤ g ∧ RowC w g t f n) := by
  rcases h.2 with ⟨hv, h0⟩ | ⟨g, cap, cur, hv, hrest⟩
  · exact ⟨none, 0, by rw [hv, h0], fun h => by omega⟩
  · subst hv
    have := rowC_of_own hf h
    exact ⟨_, cap, rfl, fun _ => ⟨g, rfl, this.2, this.1⟩⟩
theorem flat_cells {w : World} {S : Nat → Prop} {a : Addr} {n : Nat} {f : Nat → List Value} (hf : ∀ i, (f i).length = 4) (H : ∀ i, i < n → CellsAt w S (some a) i (f i)) : ∀ j u, ((List.range n).flatMap f)[j]? = some u → w.cell? (a.add j) = some u := by
  intro j u hj
  have hl : j < n * 4 := by
    have := (List.getElem?_eq_some_iff.1 hj).1
    rwa [flat_len4 f hf] at this
  have hi : j / 4 < n := by omega
  obtain ⟨b, off, e, _, _, hl2⟩ := H (j / 4) hi
  obtain rfl := Option.some.inj e
  have hr : j % 4 < 4 := Nat.mod_lt _ (by decide)
  have hg := flat_four f hf n (j / 4) (j % 4) hi hr
  rw [show j / 4 * 4 + j % 4 = j by omega, hj] at hg
  have h2 := hl2 (j % 4) u hg.symm
  rw [add_plain]
  have e2 : off + j / 4 * 4 + j % 4 = off + j := by omega
  rw [e2] at h2
  exact h2
theorem flat_one (f : Nat → List Value) (hf : ∀ i, ∀ u ∈ f i, u.oneCell' = true) (n : Nat) : ∀ u ∈ (List.range n).flatMap f, u.oneCell' = true := by
  intro u hu
  obtain ⟨i, _, h⟩ := List.mem_flatMap.1 hu
  exact hf i u h
theorem opdC_one (o : Opd) : ∀ u ∈ opdC o, u.oneCell' = true := by
  intro u hu
  simp only [opdC, List.mem_cons, List.not_mem_nil, or_false] at hu
  rcases hu with rfl | rfl | rfl | rfl <;> rfl
theorem xtC_one (T : XT) : ∀ u ∈ xtC T, u.oneCell' = true := by
  intro u hu
  simp only [xtC, List.mem_cons, List.not_mem_nil, or_false] at hu
  rcases hu with rfl | rfl | rfl | rfl <;> rfl
set_option maxHeartbeats 2000000 in
theorem cloneO_any (S : Nat → Prop) (aa : Option Addr) (n cc : Nat) (f : Nat → List Value) (hf : ∀ i, (f i).length = 4) (h1 : ∀ i, ∀ u ∈ f i, u.oneCell' = true) (hn : n ≤ 1000) (w : World) (H : ∀ i, i < n → CellsAt w S aa i (f i)) :
    Calls Tryz.prog 46 #[.slice aa n cc] w fun e w' => ∃ ao cap, e = .returned (.slice ao n cap) ∧ (0 < n → ∃ g, ao = some ⟨g, 0, none⟩ ∧ w.heap.size ≤ g ∧ RowC w' g 40 f n) ∧ Below w.heap.size w w' := by
  obtain ⟨i0, hi, hz0, hz1, hz2⟩ := info_parts infoOpd18
  have hnil := eql_nilO
  cases aa with
  | none =>
    have h0 : n = 0 := by
      rcases Nat.eq_zero_or_pos n with h | h
      · exact h
      · obtain ⟨b, off, e, _⟩ := H 0 h
        cases e
    subst h0
    clear H
    go_enter Tryz.func46, Tryz.ntmps46
    go_wp2
    go_ret
    exact ⟨_, _, rfl, fun h => absurd h (Nat.lt_irrefl 0), Below.refl _ _⟩
  | some a =>
    have HN := Lib.hid (flat_cells hf (fun i hi => (H i hi).next ((Below.refl w.heap.size w).alloc (Nat.le_refl _) (.cells #[] 40))))
    have HO := Lib.hid (show (w.alloc (.cells #[] 40)).ownsRow w.heap.size 40 4 (.slice (some ⟨w.heap.size, 0, none⟩) 0 0) 0 [] from ⟨rfl, .inr ⟨w.heap.size, 0, #[], rfl, Nat.le_refl _, alloc_at w _, Nat.le_refl _, Nat.zero_le _, rfl, rfl⟩⟩)
    have HB := Lib.hid ((Below.refl w.heap.size w).alloc (Nat.le_refl _) (.cells #[] 40))
    have hfl := flat_len4 f hf n
    have hfo := flat_one f h1 n
    have HF := Lib.hid hf
    obtain ⟨xs, hxs⟩ : ∃ xs, (List.range n).flatMap f = xs := ⟨_, rfl⟩
    have HXS := Lib.hid hxs
    rw [hxs] at hfl hfo HN
    have HL := Lib.hid hfl
    have HO1 := Lib.hid hfo
    clear H hxs hfl hfo hf h1
    go_enter Tryz.func46, Tryz.ntmps46
    go_wp2_with (at_builtin; refine wpList_append_at rfl (.tmp 5) (.tmp 6) 23 rfl w.heap.size 40 i0 (.agg #[.int .i64 0, .string ⟨#[]⟩, .bool false, .int .u64 0]) 4 40 Tryz.underlying23 hi hz0 hz1 hz2 rfl (by decide) _ 0 [] rfl HO.out a n cc xs rfl HL.out HN.out HO1.out (by unfold maxLen; omega) (by omega) (by simp) ?_; intro v2 w2 hown2 hg2 hf2; rw [Nat.zero_add, List.nil_append, ← HXS.out] at hown2; obtain ⟨ao2, cap2, rfl, hrow⟩ := ownC_form HF.out hown2; have HR := Lib.hid hrow; have HB2 := Lib.hid (HB.out.grown hg2 (by simp) (fun k hk => by cases hk; exact Nat.le_refl _)); clear hown2 hg2 hf2 hrow)
    go_ret
    exact ⟨_, _, rfl, HR.out, HB2.out⟩
set_option maxHeartbeats 2000000 in
theorem cloneE_any (S : Nat → Prop) (aa : Option Addr) (n cc : Nat) (f : Nat → List Value) (hf : ∀ i, (f i).length = 4) (h1 : ∀ i, ∀ u ∈ f i, u.oneCell' = true) (hn : n ≤ 1000) (w : World) (H : ∀ i, i < n → CellsAt w S aa i (f i)) :
    Calls Tryz.prog 48 #[.slice aa n cc] w fun e w' => ∃ ao cap, e = .returned (.slice ao n cap) ∧ (0 < n → ∃ g, ao = some ⟨g, 0, none⟩ ∧ w.heap.size ≤ g ∧ RowC w' g 26 f n) ∧ Below w.heap.size w w' := by
  obtain ⟨i0, hi, hz0, hz1, hz2⟩ := info_parts infoExp18
  have hnil := eql_nilE
  cases aa with
  | none =>
    have h0 : n = 0 := by
      rcases Nat.eq_zero_or_pos n with h | h
      · exact h
      · obtain ⟨b, off, e, _⟩ := H 0 h
        cases e
    subst h0
    clear H
    go_enter Tryz.func48, Tryz.ntmps48
    go_wp2
    go_ret
    exact ⟨_, _, rfl, fun h => absurd h (Nat.lt_irrefl 0), Below.refl _ _⟩
  | some a =>
    have HN := Lib.hid (flat_cells hf (fun i hi => (H i hi).next ((Below.refl w.heap.size w).alloc (Nat.le_refl _) (.cells #[] 26))))
    have HO := Lib.hid (show (w.alloc (.cells #[] 26)).ownsRow w.heap.size 26 4 (.slice (some ⟨w.heap.size, 0, none⟩) 0 0) 0 [] from ⟨rfl, .inr ⟨w.heap.size, 0, #[], rfl, Nat.le_refl _, alloc_at w _, Nat.le_refl _, Nat.zero_le _, rfl, rfl⟩⟩)
    have HB := Lib.hid ((Below.refl w.heap.size w).alloc (Nat.le_refl _) (.cells #[] 26))
    have hfl := flat_len4 f hf n
    have hfo := flat_one f h1 n
    have HF := Lib.hid hf
    obtain ⟨xs, hxs⟩ : ∃ xs, (List.range n).flatMap f = xs := ⟨_, rfl⟩
    have HXS := Lib.hid hxs
    rw [hxs] at hfl hfo HN
    have HL := Lib.hid hfl
    have HO1 := Lib.hid hfo
    clear H hxs hfl hfo hf h1
    go_enter Tryz.func48, Tryz.ntmps48
    go_wp2_with (at_builtin; refine wpList_append_at rfl (.tmp 5) (.tmp 6) 24 rfl w.heap.size 26 i0 (.agg #[.int .i64 0, .int .i64 0, .slice none 0 0, .slice none 0 0]) 4 64 Tryz.underlying24 hi hz0 hz1 hz2 rfl (by decide) _ 0 [] rfl HO.out a n cc xs rfl HL.out HN.out HO1.out (by unfold maxLen; omega) (by omega) (by simp) ?_; intro v2 w2 hown2 hg2 hf2; rw [Nat.zero_add, List.nil_append, ← HXS.out] at hown2; obtain ⟨ao2, cap2, rfl, hrow⟩ := ownC_form HF.out hown2; have HR := Lib.hid hrow; have HB2 := Lib.hid (HB.out.grown hg2 (by simp) (fun k hk => by cases hk; exact Nat.le_refl _)); clear hown2 hg2 hf2 hrow)
    go_ret
    exact ⟨_, _, rfl, HR.out, HB2.out⟩
theorem set_id18 {w : World} {b i : Nat} {cs : Array Value} {t : TypeId} {fr : Nat × Nat} {v : Value} (h : w.heap[b]? = some (.cells cs t fr)) (hv : cs[i]? = some v) : w.setCell ⟨b, i, none⟩ v = w := by
  obtain ⟨hp, tp, dr, os, out⟩ := w
  unfold World.setCell
  congr 1
  refine Array.ext_getElem? fun k => ?_
  rw [Array.getElem?_modify]
  split
  · rename_i e
    subst e
    have h' : hp[b]? = some (.cells cs t fr) := h
    rw [h']
    simp only [Option.map_some, Option.isSome_none, Bool.false_eq_true, if_false]
    congr 2
    refine Array.ext_getElem? fun m => ?_
    rw [Array.getElem?_setIfInBounds]
    split
    · rename_i e
      subst e
      split
      · exact hv.symm
      · rename_i hl
        rw [Array.getElem?_eq_none (by omega)] at hv
        cases hv
    · rfl
  · rfl
def CCpTo (T : XT) (w : World) : Prop := Calls Tryz.prog 25 #[.agg #[.int .i64 T.op, .int .i64 T.rel, .slice T.aa T.an T.ac, .slice T.ka T.kn T.kc]] w fun e w' => ∃ U : XT, e = .returned (.agg #[.int .i64 U.op, .int .i64 U.rel, .slice U.aa U.an U.ac, .slice U.ka U.kn U.kc]) ∧ SameX U T ∧ FrX w' U w.heap.size w'.heap.size ∧ Below w.heap.size w w'
/-- the boxes of x and of the result -/
structure CcSt (w : World) (T : XT) (a k : Value) (W : World) : Prop where
  bx : W.heap[w.heap.size]? = some (.cells #[.int .i64 T.op, .int .i64 T.rel, a, k] 26)
  rs : W.heap[w.heap.size + 1]? = some (.cells #[.int .i64 0, .int .i64 0, .slice none 0 0, .slice none 0 0] 26)
  bel : Below w.heap.size w W
  sz : w.heap.size + 2 ≤ W.heap.size
theorem CcSt.start (w : World) (T : XT) : CcSt w T (.slice T.aa T.an T.ac) (.slice T.ka T.kn T.kc) ((w.alloc (.cells #[.int .i64 T.op, .int .i64 T.rel, .slice T.aa T.an T.ac, .slice T.ka T.kn T.kc] 26)).alloc (.cells #[.int .i64 0, .int .i64 0, .slice none 0 0, .slice none 0 0] 26)) := by
  have h1 := alloc_at w (.cells #[.int .i64 T.op, .int .i64 T.rel, .slice T.aa T.an T.ac, .slice T.ka T.kn T.kc] 26)
  have h2 := alloc_at (w.alloc (.cells #[.int .i64 T.op, .int .i64 T.rel, .slice T.aa T.an T.ac, .slice T.ka T.kn T.kc] 26)) (.cells #[.int .i64 0, .int .i64 0, .slice none 0 0, .slice none 0 0] 26)
  rw [World.size_alloc] at h2
  exact ⟨alloc_old h1, h2, ((Below.refl _ _).alloc (Nat.le_refl _) _).alloc (by simp) _, by simp⟩
theorem CcSt.next {w : World} {T : XT} {a k : Value} {W W' : World} (h : CcSt w T a k W) (hb : Below W.heap.size W W') : CcSt w T a k W' :=
  ⟨rowKeep hb h.bx, rowKeep hb h.rs, h.bel.trans (hb.mono h.bel.size), Nat.le_trans h.sz hb.size⟩
theorem CcSt.args {w : World} {T : XT} {a k : Value} {W : World} (h : CcSt w T a k W) (a' : Value) : CcSt w T a' k (W.setCell ⟨w.heap.size, 2, none⟩ a') :=
  ⟨set_at h.bx, (set_other (by simp)).trans h.rs, h.bel.setCell (p := ⟨w.heap.size, 2, none⟩) (Nat.le_refl _) _, by simpa using h.sz⟩
theorem CcSt.kids {w : World} {T : XT} {a k : Value} {W : World} (h : CcSt w T a k W) (k' : Value) : CcSt w T a k' (W.setCell ⟨w.heap.size, 3, none⟩ k') :=
  ⟨set_at h.bx, (set_other (by simp)).trans h.rs, h.bel.setCell (p := ⟨w.heap.size, 3, none⟩) (Nat.le_refl _) _, by simpa using h.sz⟩
theorem expr_box {w : World} {g : Nat} {a b c d : Value} (h : w.heap[g]? = some (.cells #[a, b, c, d] 26)) : w.cell? ⟨g, 0, none⟩ = some a ∧ w.cell? ⟨g, 1, none⟩ = some b ∧ w.cell? ⟨g, 2, none⟩ = some c ∧ w.cell? ⟨g, 3, none⟩ = some d := ⟨cell_at h rfl, cell_at h rfl, cell_at h rfl, cell_at h rfl⟩
theorem FrX.weaken {w : World} {T : XT} {lo hi lo' hi' : Nat} (h : FrX w T lo hi) (h1 : lo' ≤ lo) (h2 : hi ≤ hi') : FrX w T lo' hi' := by
  obtain ⟨h0, c, d, q, a1, a2, a3, a4, a5, a6, a7, a8⟩ := (frx_iff T).1 h
  refine (frx_iff T).2 ⟨h0, c, d, q, by omega, a2, a3, by omega, a5, fun hn => ?_, a7, a8⟩
  obtain ⟨k, e, k1, k2, k3⟩ := a6 hn
  exact ⟨k, e, by omega, k2, k3⟩
/-- the copies so far -/
structure CkL (w : World) (T : XT) (ao : Option Addr) (cap : Nat) (ko : Option Addr) (kcap c d D j : Nat) (K : Nat → XT) (W : World) : Prop where
  st : CcSt w T (.slice ao T.an cap) (.slice ko T.kn kcap) W
  df : W.heap[D]? = some (.deferred (some []))
  args : 0 < T.an → ∃ g, ao = some ⟨g, 0, none⟩ ∧ w.heap.size ≤ g ∧ g < c ∧ RowC W g 40 (fun i => opdC (T.arg i)) T.an
  row : 0 < T.kn → ∃ h, ko = some ⟨h, 0, none⟩ ∧ c ≤ h ∧ h < d ∧ RowC W h 26 (fun i => if i < j then xtC (K i) else xtC (T.kid i)) T.kn
  le : w.heap.size + 2 ≤ c ∧ c ≤ d
  kids : ∃ q : Nat → Nat, d ≤ q 0 ∧ q j ≤ W.heap.size ∧ (∀ i, i < j → q i ≤ q (i + 1)) ∧ ∀ i, i < j → FrX W (K i) (q i) (q (i + 1)) ∧ SameX (K i) (T.kid i)
theorem CkL.step {w : World} {T : XT} {ao : Option Addr} {cap : Nat} {ko : Option Addr} {kcap c d D j h : Nat} {K : Nat → XT} {W w3 : World} (H : CkL w T ao cap ko kcap c d D j K W) (hj : j < T.kn) (hk : ko = some ⟨h, 0, none⟩) (hb : Below W.heap.size W w3) {U : XT} {lo : Nat} (hlo : W.heap.size ≤ lo) (hU : FrX w3 U lo w3.heap.size) (hs : SameX U (T.kid j)) :
    CkL w T ao cap ko kcap c d D (j + 1) (fun i => if i = j then U else K i) (put4c w3 h (j * 4) (.int .i64 U.op) (.int .i64 U.rel) (.slice U.aa U.an U.ac) (.slice U.ka U.kn U.kc)) := by
  have ho := put4c_only w3 h (j * 4) (.int .i64 U.op) (.int .i64 U.rel) (.slice U.aa U.an U.ac) (.slice U.ka U.kn U.kc)
  obtain ⟨h', e, h1, h2, hr⟩ := H.row (by omega)
  rw [hk] at e
  obtain rfl : h = h' := by injection e with e; injection e
  obtain ⟨le1, le2⟩ := H.le
  have hsz : (put4c w3 h (j * 4) (.int .i64 U.op) (.int .i64 U.rel) (.slice U.aa U.an U.ac) (.slice U.ka U.kn U.kc)).heap.size = w3.heap.size := by simp [put4c]
  have hst := H.st.next hb
  have hhl := hr.lt
  have hb3 := hb.size
  refine ⟨⟨ho.same hst.bx (by omega), ho.same hst.rs (by omega), hst.bel.trans (ho.below (fun k hk => by omega) hst.bel.size), by rw [hsz]; exact hst.sz⟩, ?_, fun hn => ?_, fun hn => ⟨h, hk, h1, h2, ?_⟩, ⟨le1, le2⟩, ?_⟩
  · have h3 := (hb.block D (Array.getElem?_eq_some_iff.1 H.df).1).trans H.df
    refine ho.same h3 (fun e => ?_)
    obtain ⟨cur, hc, _⟩ := hr
    have hdf := H.df
    rw [e, hc] at hdf
    cases hdf
  · obtain ⟨g, e, g1, g2, gr⟩ := H.args hn
    exact ⟨g, e, g1, g2, gr.held ((ho.block g (by omega) (by omega)).trans (hb.block g (by omega)))⟩
  · have hr3 := hr.held (hb.block h (by omega))
    have hp := hr3.put (fun i => by by_cases e : i < j <;> simp [e]) hj (.int .i64 U.op) (.int .i64 U.rel) (.slice U.aa U.an U.ac) (.slice U.ka U.kn U.kc)
    refine hp.congr (fun i hi => ?_)
    by_cases e : i = j
    · rw [if_pos (by omega), if_pos e, if_pos e]
    · rw [if_neg e, if_neg e]
      by_cases e2 : i < j
      · rw [if_pos (by omega), if_pos e2]
      · rw [if_neg (by omega), if_neg e2]
  · obtain ⟨q, q0, qj, qm, qf⟩ := H.kids
    refine ⟨fun i => if i ≤ j then q i else w3.heap.size, by simp only; rw [if_pos (Nat.zero_le _)]; exact q0, by simp only; rw [if_neg (by omega), hsz]; exact Nat.le_refl _, fun i hi => ?_, fun i hi => ?_⟩
    · simp only
      rw [if_pos (show i ≤ j by omega)]
      by_cases e : i + 1 ≤ j
      · rw [if_pos e]; exact qm i (by omega)
      · rw [if_neg e]
        obtain rfl : i = j := by omega
        omega
    · have hqd : d ≤ q i := Nat.le_trans q0 (q_mono qm i (by omega) 0 (Nat.zero_le _))
      simp only
      rw [if_pos (show i ≤ j by omega)]
      by_cases e : i = j
      · subst e
        rw [if_pos rfl, if_neg (show ¬ i + 1 ≤ i by omega)]
        exact ⟨FrX.held _ _ _ (hU.weaken (Nat.le_trans qj hlo) (Nat.le_refl _)) (fun b b1 b2 => ho.block b b2 (by omega)), hs⟩
      · rw [if_pos (show i + 1 ≤ j by omega), if_neg e]
        obtain ⟨f1, f2⟩ := qf i (by omega)
        have hqs : q (i + 1) ≤ W.heap.size := Nat.le_trans (q_mono qm j (Nat.le_refl _) (i + 1) (by omega)) qj
        exact ⟨FrX.held _ _ _ f1 (fun b b1 b2 => (ho.block b (by omega) (by omega)).trans (hb.block b (by omega))), f2⟩
theorem CkL.done {w : World} {T : XT} {ao : Option Addr} {cap : Nat} {ko : Option Addr} {kcap c d D : Nat} {K : Nat → XT} {W V : World} (H : CkL w T ao cap ko kcap c d D T.kn K W) (hwf : XWf T) (hDd : D < d) (hcD : c ≤ D) (hV : V.heap.size = W.heap.size) (hb : ∀ b, b ≠ w.heap.size + 1 → b ≠ D → V.heap[b]? = W.heap[b]?) :
    FrX V (.node T.op T.rel ao T.an cap T.arg ko T.kn kcap K) w.heap.size V.heap.size := by
  obtain ⟨q, q0, qj, qm, qf⟩ := H.kids
  obtain ⟨le1, le2⟩ := H.le
  refine (frx_iff _).2 ⟨hwf, c, d, q, by omega, le2, q0, by show q T.kn ≤ _; omega, qm, fun hn => ?_, fun hn => ?_, fun i hi => ?_⟩
  · obtain ⟨g, e, g1, g2, gr⟩ := H.args hn
    refine ⟨g, e, g1, g2, gr.held (hb g ?_ (by omega))⟩
    rintro rfl
    obtain ⟨cur, hc, _⟩ := gr
    have h2 := H.st.rs
    rw [hc] at h2
    injection h2 with h2
    injection h2 with h3 h4
    cases h4
  · obtain ⟨h, e, h1, h2, hr⟩ := H.row hn
    refine ⟨h, e, h1, h2, (hr.held (hb h (by omega) ?_)).congr (fun i hi => by rw [if_pos hi]; rfl)⟩
    rintro rfl
    obtain ⟨cur, hc, _⟩ := hr
    have h3 := H.df
    rw [hc] at h3
    cases h3
  · have hi : i < T.kn := hi
    have hqd : d ≤ q i := Nat.le_trans q0 (q_mono qm i (by omega) 0 (Nat.zero_le _))
    exact FrX.held _ _ _ (qf i hi).1 (fun b b1 b2 => hb b (by omega) (by omega))
theorem fr_eqC {a b : List Value} {ds : List Deferred} (h : a = b) : (⟨a.toArray, ds⟩ : Act) = ⟨b.toArray, ds⟩ := by rw [h]
/-- what is known of the region's values: the fifth is the copy -/
def CcOk (lo : Nat) (T : XT) (c : Nat → Value) (k : Nat) (x : Value) (w : World) : Prop :=
  if k = 4 then ∃ U : XT, x = .agg #[.int .i64 U.op, .int .i64 U.rel, .slice U.aa U.an U.ac, .slice U.ka U.kn U.kc] ∧ SameX U T ∧ FrX w U lo w.heap.size else x = c k
theorem CcOk.four {lo : Nat} {T : XT} {c : Nat → Value} {x : Value} {w : World} (h : ∃ U : XT, x = .agg #[.int .i64 U.op, .int .i64 U.rel, .slice U.aa U.an U.ac, .slice U.ka U.kn U.kc] ∧ SameX U T ∧ FrX w U lo w.heap.size) : CcOk lo T c 4 x w := by
  unfold CcOk; rw [if_pos rfl]; exact h
theorem CcOk.keep {lo k : Nat} {T : XT} {c : Nat → Value} {x : Value} {w w' : World} (h : CcOk lo T c k x w) (hk : k ≠ 4) : CcOk lo T c k x w' := by
  unfold CcOk at *; rw [if_neg hk] at *; exact h
set_option maxRecDepth 100000 in
set_option maxHeartbeats 8000000 in
theorem copied_step (S : Nat → Prop) (T : XT) (ih : ∀ i, i < T.kn → ∀ w, XAt w S (T.kid i) → XSm (T.kid i) → XFw (T.kid i) → CCpTo (T.kid i) w) (w : World) (HX : XAt w S T) (HSM : XSm T) (HFW : XFw T) : CCpTo T w := by
  have hmix : Tryz.prog.follows .mixedOrders = true := by kernel_rfl
  obtain ⟨hwf, hxa, hxk⟩ := (xat_iff T).1 HX
  obtain ⟨hsa, hsk⟩ := (xsm_iff T).1 HSM
  obtain ⟨han, hkn, hfk⟩ := (xfw_iff T).1 HFW
  have HCO := Lib.hid (fun wx (hx : Below w.heap.size w wx) => cloneO_any S T.aa T.an T.ac (fun i => opdC (T.arg i)) (fun _ => rfl) (fun i => opdC_one _) han wx (fun i hi => (hxa i hi).next hx))
  have HCE := Lib.hid (fun wx (hx : Below w.heap.size w wx) => cloneE_any S T.ka T.kn T.kc (fun i => xtC (T.kid i)) (fun _ => rfl) (fun i => xtC_one _) hkn wx (fun i hi => (hxk i hi).1.next hx))
  have HIH := Lib.hid (fun i (hi : i < T.kn) wx (hx : Below w.heap.size w wx) => ih i hi wx ((hxk i hi).2.next hx) (hsk i hi) (hfk i hi))
  have HST := Lib.hid (fun i (hi : i < T.an) wx => clone_any (T.arg i).text (hsa i hi) wx)
  have HOP := Lib.hid (fun p wx => opds_any p wx)
  have HS0 := Lib.hid (CcSt.start w T)
  have HWF := Lib.hid hwf
  clear ih HX HSM HFW hxa hxk hsa hsk hfk hwf
  unfold CCpTo
  refine calls_of_marks Tryz.func25 rfl ?_
  simp only [Tryz.ntmps25, List.size_toArray, List.length_cons, List.length_nil, Nat.reduceAdd, Nat.reduceSub, Array.replicate_succ, Array.replicate_zero, List.push_toArray, List.append_toArray, List.nil_append, List.cons_append]
  go_upto_region 1 with (fail)
  generalize (w.alloc (.cells #[.int .i64 T.op, .int .i64 T.rel, .slice T.aa T.an T.ac, .slice T.ka T.kn T.kc] 26)).alloc (.cells #[.int .i64 0, .int .i64 0, .slice none 0 0, .slice none 0 0] 26) = W1 at *
  obtain ⟨x0, x1, x2, x3⟩ := expr_box HS0.out.bx
  go_upto_region 2 with (go_at_call 46; refine (HCO.out _ HS0.out.bel).mono ?_; rintro e w1 ⟨ao, cap, rfl, hrow, hb1⟩; have HS1 := Lib.hid (HS0.out.next hb1); clear x0 x1 x2 x3; obtain ⟨x0, x1, x2, x3⟩ := expr_box HS1.out.bx; have f2 := free_at (j := 2) HS1.out.bx)
  have hz1 := hb1.size
  have hs0 := HS0.out.sz
  have HS2 := Lib.hid (HS1.out.args (.slice ao T.an cap))
  have hrow2 : 0 < T.an → ∃ g, ao = some ⟨g, 0, none⟩ ∧ w.heap.size + 2 ≤ g ∧ RowC (w1.setCell ⟨w.heap.size, 2, none⟩ (.slice ao T.an cap)) g 40 (fun i => opdC (T.arg i)) T.an := fun h0 => by
    obtain ⟨g, e, hg, hr⟩ := hrow h0
    exact ⟨g, e, by omega, hr.held (set_other (by simp; omega))⟩
  have HRW := Lib.hid hrow2
  clear hrow hrow2 hb1 x0 x1 x2 x3 f2 hz1 HS1 HS0 HCO
  generalize w1.setCell ⟨w.heap.size, 2, none⟩ (.slice ao T.an cap) = W2 at *
  go_wp2_with (go_at_call 26; refine (HOP.out _ _).mono ?_; rintro e w3 ⟨rfl, rfl⟩)
  have hz2 := HS2.out.sz
  have q2 := alloc_at W2 (.cells #[.pointer (some ⟨w.heap.size, 0, none⟩)] 66)
  have hbw : Below W2.heap.size W2 (W2.alloc (.cells #[.pointer (some ⟨w.heap.size, 0, none⟩)] 66)) := (Below.refl _ _).alloc (Nat.le_refl _) _
  have hzw : (W2.alloc (.cells #[.pointer (some ⟨w.heap.size, 0, none⟩)] 66)).heap.size = W2.heap.size + 1 := by simp
  generalize (W2.alloc (.cells #[.pointer (some ⟨w.heap.size, 0, none⟩)] 66)) = W0 at *
  have HS3 := Lib.hid (HS2.out.next hbw)
  have HR3 := Lib.hid (show 0 < T.an → ∃ g, ao = some ⟨g, 0, none⟩ ∧ w.heap.size + 2 ≤ g ∧ g < W2.heap.size ∧ RowC W0 g 40 (fun i => opdC (T.arg i)) T.an from fun h0 => by
    obtain ⟨g, e, hg, hr⟩ := HRW.out h0
    exact ⟨g, e, hg, hr.lt, hr.held (hbw.block g hr.lt)⟩)
  have hnode : NodeC W0 (fun k => W0.heap.size ≤ k) ⟨w.heap.size, 0, none⟩ (.node T.op T.rel ao T.an cap T.arg T.ka T.kn T.kc T.kid) :=
    ⟨⟨w.heap.size, 0, rfl, by omega, by omega, fun r u hu => by
      rw [Nat.zero_add]
      exact cell_at HS3.out.bx (by simpa [xtC, XT.op, XT.rel, XT.aa, XT.an, XT.ac, XT.ka, XT.kn, XT.kc] using hu)⟩, HWF.out⟩
  have hcb : W0.cell? ⟨W2.heap.size, 0, none⟩ = some (.pointer (some ⟨w.heap.size, 0, none⟩)) := cell_at q2 rfl
  have hseq : SeqStopsK Fence.wide 2 Tryz.prog 49 #[.pointer (some ⟨W2.heap.size, 0, none⟩)] (fun i : Nat => #[.pointer (some (kidP ao (opIx T.an i)))]) (Only (fun k => W0.heap.size ≤ k)) (fun xs => xs = List.range T.an) (fun pre => ∃ k, k < T.an ∧ pre = List.range (k + 1)) T.an W0 := opds_stops (fun k => W0.heap.size ≤ k) ⟨w.heap.size, 0, none⟩ (.node T.op T.rel ao T.an cap T.arg T.ka T.kn T.kc T.kid) W2.heap.size W0 hnode (fun h0 => by obtain ⟨g, e, _⟩ := HR3.out h0; exact ⟨g, 0, e⟩) (by omega) hcb
  clear hnode hcb q2 HRW HOP HS2
  refine wp_range (gf := 49) (w0 := W0) rfl (enters_of Tryz.func49 (by kernel_rfl) rfl) hseq
    (fun h k => onlyK_t h k) (onlyK_b (fun k hk => hk)) (Below.refl _ _) (fun _ => rfl)
    (fun pre W => Only (fun k => W0.heap.size ≤ k) W0 W) (fun pre W => False)
    (fun pre X Y h3 hst => (hst.below (n := W0.heap.size) (w := W0) (Only.below h3 (fun k hk => hk) (Nat.le_refl _)) (Nat.le_refl _) (Nat.le_refl _)) |> Only.of_below)
    (fun pre X Y h hst => h) (Only.refl _ _) ?round ?done ?stop
  case round =>
    rintro l x W K ⟨pre, -⟩ hK
    gi_wp2
    refine hK _ _ (KeepsFrom.refl _ _) (Only.refl _ _) (Stays.refl _ _) ?_
    rintro l2 pre2 W3 hst2 ho2 hl2
    have hn0 : 0 < T.an := by omega
    have hi := opIx_lt hn0 x
    obtain ⟨i, hix⟩ : ∃ i, opIx T.an x = i := ⟨_, rfl⟩
    rw [hix] at hi ⊢
    obtain ⟨g, rfl, hg, hgl, hr⟩ := HR3.out hn0
    rw [kidP_at rfl, Nat.zero_add]
    have hr3 := hr.held (ho2.block g (by omega) (by omega))
    have HR4 := Lib.hid hr3
    have y1 : W3.cell? ⟨g, i * 4 + 1, none⟩ = some (.string (T.arg i).text) := hr3.cell hi rfl
    have HO := Lib.hid ho2
    clear hix hr hr3 ho2 hst2 hl2 hseq
    gi_wp2_with (refine ⟨trivial, ?_⟩; gi_at_call 47; refine (inRnd (HST.out i hi _)).mono ?_; rintro e w5 ⟨rfl, hb5⟩; have HR5 := Lib.hid (HR4.out.held (hb5.block g HR4.out.lt)); have y2 : w5.cell? ⟨g, i * 4 + 1, none⟩ = some (.string (T.arg i).text) := HR5.out.cell hi rfl; have f2 := HR5.out.free (i * 4 + 1))
    have hid : w5.setCell ⟨g, i * 4 + 1, none⟩ (.string (T.arg i).text) = w5 := by
      obtain ⟨cur, hc, hcc⟩ := HR5.out
      exact set_id18 hc (hcc i hi 1 _ rfl)
    rw [hid]
    exact ⟨KeepsFrom.of_below hb5, Only.of_below hb5, onlyK_t HO.out (Only.of_below hb5)⟩
  case stop =>
    rintro D pre W hD _ h _
    exact h.elim
  case done =>
    rintro D xs W hD _ ho hdk
    have hbW : Below W0.heap.size W0 W := ho.below (fun k hk => hk) (Nat.le_refl _)
    have hzW := hbW.size
    have HS4 := Lib.hid (HS3.out.next hbW)
    have HR4 := Lib.hid (show 0 < T.an → ∃ g, ao = some ⟨g, 0, none⟩ ∧ w.heap.size + 2 ≤ g ∧ g < W2.heap.size ∧ RowC W g 40 (fun i => opdC (T.arg i)) T.an from fun h0 => by
      obtain ⟨g, e, hg, hl, hr⟩ := HR3.out h0
      exact ⟨g, e, hg, hl, hr.held (hbW.block g hr.lt)⟩)
    obtain ⟨x0, x1, x2, x3⟩ := expr_box HS4.out.bx
    have HDK := Lib.hid hdk
    clear ho hseq HS3 HR3
    go_wp2_with (go_at_call 48; refine (HCE.out _ HS4.out.bel).mono ?_; rintro e w5 ⟨ko, kcap, rfl, hrow5, hb5⟩; have HS5 := Lib.hid (HS4.out.next hb5); clear x0 x1 x2 x3; obtain ⟨x0, x1, x2, x3⟩ := expr_box HS5.out.bx; have f3 := free_at (j := 3) HS5.out.bx)
    have HL0 := Lib.hid (show CkL w T ao cap ko kcap W2.heap.size w5.heap.size D 0 (fun _ => .nil) (w5.setCell ⟨w.heap.size, 3, none⟩ (.slice ko T.kn kcap)) from by
      have hz5 := hb5.size
      have ho5 : Only (fun k => k = w.heap.size) w5 (w5.setCell ⟨w.heap.size, 3, none⟩ (.slice ko T.kn kcap)) := Only.setCell (S := fun k => k = w.heap.size) (Only.refl _ w5) (.inl rfl) _
      refine ⟨HS5.out.kids _, ?_, fun h0 => ?_, fun h0 => ?_, ⟨hz2, by omega⟩, fun _ => w5.heap.size, Nat.le_refl _, by simp, fun i hi => absurd hi (Nat.not_lt_zero i), fun i hi => absurd hi (Nat.not_lt_zero i)⟩
      · have h3 := (hb5.block D (Array.getElem?_eq_some_iff.1 HDK.out).1).trans HDK.out
        exact ho5.same h3 (by omega)
      · obtain ⟨g, e, hg, hl, hr⟩ := HR4.out h0
        exact ⟨g, e, by omega, hl, hr.held ((ho5.block g (by have := hr.lt; omega) (by omega)).trans (hb5.block g hr.lt))⟩
      · obtain ⟨g, e, hg, hr⟩ := hrow5 h0
        exact ⟨g, e, by omega, hr.lt, (hr.held (ho5.block g hr.lt (by omega))).congr (fun i _ => by rw [if_neg (Nat.not_lt_zero i)])⟩)
    have hz5 := hb5.size
    have hDd : D < w5.heap.size := by have := (Array.getElem?_eq_some_iff.1 HDK.out).1; omega
    clear hrow5 hb5 x0 x1 x2 x3 f3 HS5 HCE HR4 HS4 HDK
    obtain ⟨d, hd⟩ : ∃ d, w5.heap.size = d := ⟨_, rfl⟩
    rw [hd] at HL0 hz5 hDd
    generalize w5.setCell ⟨w.heap.size, 3, none⟩ (.slice ko T.kn kcap) = W6 at *
    clear hd
    go_loopw [27] (fun i wr => ∃ j : Nat, j ≤ T.kn ∧ i = .int .i64 j ∧ ∃ K : Nat → XT, Hid (CkL w T ao cap ko kcap W2.heap.size d D j K wr)) (fun i _ => T.kn - (intOf i).toNat)
    case atStart => exact ⟨0, Nat.zero_le _, rfl, _, HL0⟩
    case round =>
      clear HL0
      obtain ⟨j, hj, rfl, K, HC⟩ := hrel
      by_cases hlt : j < T.kn
      · obtain ⟨h, rfl, hh1, hh2, hrow⟩ := HC.out.row (by omega)
        have e0 : (if j < j then xtC (K j) else xtC (T.kid j)) = xtC (T.kid j) := if_neg (Nat.lt_irrefl j)
        have c0 : wr.cell? ⟨h, j * 4, none⟩ = some (.int .i64 (T.kid j).op) := hrow.cell (r := 0) hlt (by rw [e0]; rfl)
        have c1 : wr.cell? ⟨h, j * 4 + 1, none⟩ = some (.int .i64 (T.kid j).rel) := hrow.cell (r := 1) hlt (by rw [e0]; rfl)
        have c2 : wr.cell? ⟨h, j * 4 + 2, none⟩ = some (.slice (T.kid j).aa (T.kid j).an (T.kid j).ac) := hrow.cell (r := 2) hlt (by rw [e0]; rfl)
        have c3 : wr.cell? ⟨h, j * 4 + 3, none⟩ = some (.slice (T.kid j).ka (T.kid j).kn (T.kid j).kc) := hrow.cell (r := 3) hlt (by rw [e0]; rfl)
        have hji : (j : Int) < (T.kn : Int) := by omega
        have hrl := hrow.lt
        clear hrow e0
        go_upto_region 9 with (fail)
        have hbr := HC.out.st.bel.size
        obtain ⟨bm, hbm⟩ : ∃ bm, wr.heap.size = bm := ⟨_, rfl⟩
        have hqm := alloc_at wr (.cells #[.int .i64 (T.kid j).op, .int .i64 (T.kid j).rel, .slice (T.kid j).aa (T.kid j).an (T.kid j).ac, .slice (T.kid j).ka (T.kid j).kn (T.kid j).kc] 26)
        have hb0 : Below wr.heap.size wr (wr.alloc (.cells #[.int .i64 (T.kid j).op, .int .i64 (T.kid j).rel, .slice (T.kid j).aa (T.kid j).an (T.kid j).ac, .slice (T.kid j).ka (T.kid j).kn (T.kid j).kc] 26)) := (Below.refl _ _).alloc (Nat.le_refl _) _
        have HB0 := Lib.hid hb0
        have HBX := Lib.hid (rowKeep hb0 HC.out.st.bx)
        have HBW := Lib.hid (HC.out.st.bel.trans (hb0.mono hbr))
        have hzb : (wr.alloc (.cells #[.int .i64 (T.kid j).op, .int .i64 (T.kid j).rel, .slice (T.kid j).aa (T.kid j).an (T.kid j).ac, .slice (T.kid j).ka (T.kid j).kn (T.kid j).kc] 26)).heap.size = wr.heap.size + 1 := by simp
        rw [hbm] at hqm hrl hzb hbr
        have HQM := Lib.hid hqm
        have HBM := Lib.hid hbm
        rw [hbm]
        clear hqm hb0 c0 c1 c2 c3 hbm
        generalize (wr.alloc (.cells #[.int .i64 (T.kid j).op, .int .i64 (T.kid j).rel, .slice (T.kid j).aa (T.kid j).an (T.kid j).ac, .slice (T.kid j).ka (T.kid j).kn (T.kid j).kc] 26)) = wb at *
        refine wp_region_preD hmix [{ target := .collected D, args := #[] }] 6 100 (fun v => ((.agg #[.int .i64 T.op, .int .i64 T.rel, .slice T.aa T.an T.ac, .slice T.ka T.kn T.kc] : Value) :: (.pointer (some ⟨w.heap.size, 0, none⟩) : Value) :: (.pointer (some ⟨w.heap.size + 1, 0, none⟩) : Value) :: (undef : Value) :: (.int .i64 (j : Nat) : Value) :: (.pointer (some ⟨bm, 0, none⟩) : Value) :: (.pointer (some ⟨w.heap.size, 2, none⟩) : Value) :: (.slice T.aa T.an T.ac : Value) :: (.slice ao T.an cap : Value) :: (.pointer (some ⟨w.heap.size, 2, none⟩) : Value) :: (.func (.func 49) #[] #[.pointer (some ⟨W2.heap.size, 0, none⟩)] : Value) :: (undef : Value) :: (undef : Value) :: (undef : Value) :: (undef : Value) :: (undef : Value) :: (undef : Value) :: (undef : Value) :: (undef : Value) :: (undef : Value) :: (.pointer (some ⟨w.heap.size, 3, none⟩) : Value) :: (.slice T.ka T.kn T.kc : Value) :: (.slice (some ⟨h, 0, none⟩) T.kn kcap : Value) :: (.pointer (some ⟨w.heap.size, 3, none⟩) : Value) :: (.pointer (some ⟨w.heap.size, 3, none⟩) : Value) :: (.slice (some ⟨h, 0, none⟩) T.kn kcap : Value) :: (.int .i64 (T.kn : Nat) : Value) :: (.int .i64 (j : Nat) : Value) :: (.bool true : Value) :: (.int .i64 (j : Nat) : Value) :: (.pointer (some ⟨h, j * 4, none⟩) : Value) :: (.agg #[.int .i64 (T.kid j).op, .int .i64 (T.kid j).rel, .slice (T.kid j).aa (T.kid j).an (T.kid j).ac, .slice (T.kid j).ka (T.kid j).kn (T.kid j).kc] : Value) :: v 0 :: v 1 :: v 2 :: v 3 :: v 4 :: v 5 :: (u38 : Value) :: (undef : Value) :: []).toArray) (fun j => [u32, u33, u34, u35, u36, u37].getD j undef) (CcOk wb.heap.size (T.kid j) (fun k => ([.pointer (some ⟨w.heap.size, 3, none⟩), .slice (some ⟨h, 0, none⟩) T.kn kcap, .int .i64 (j : Nat), .agg #[.int .i64 (T.kid j).op, .int .i64 (T.kid j).rel, .slice (T.kid j).aa (T.kid j).an (T.kid j).ac, .slice (T.kid j).ka (T.kid j).kn (T.kid j).kc], undef, .pointer (some ⟨h, j * 4, none⟩)] : List Value).getD k undef)) (fun w' => Below wb.heap.size wb w') (fun _ => True) (Nat.le_of_ble_eq_true (by kernel_rfl)) (by kernel_rfl) (Below.refl _ _).drew trivial (fun i hi v w1 hBx hPx hd => ?_) (fun v w1 hv hBx => ?_)
        · have y3 := cell_at (j := 3) (rowKeep hBx HBX.out) rfl
          have z0 := cell_at (j := 0) (rowKeep hBx HQM.out) rfl
          have z1 := cell_at (j := 1) (rowKeep hBx HQM.out) rfl
          have z2 := cell_at (j := 2) (rowKeep hBx HQM.out) rfl
          have z3 := cell_at (j := 3) (rowKeep hBx HQM.out) rfl
          have hi6 : i = 0 ∨ i = 1 ∨ i = 2 ∨ i = 3 ∨ i = 4 ∨ i = 5 := by omega
          rcases hi6 with rfl | rfl | rfl | rfl | rfl | rfl
          · refine wpOp_step (o := _) rfl (fun K' hK => ?_)
            go_simp
            exact hK _ _ ⟨.pointer (some ⟨w.heap.size, 3, none⟩), rfl, rfl, hBx, fun _ h => h, fun k y _ h => h⟩
          · have e0 : v 0 = .pointer (some ⟨w.heap.size, 3, none⟩) := hd 0 (List.contains_iff_mem.1 (by kernel_rfl))
            refine wpOp_step (o := _) rfl (fun K' hK => ?_)
            go_simp
            exact hK _ _ ⟨.slice (some ⟨h, 0, none⟩) T.kn kcap, fr_eqC (by simp [upd, e0]), rfl, hBx, fun _ h => h, fun k y _ h => h⟩
          · refine wpOp_step (o := _) rfl (fun K' hK => ?_)
            go_simp
            exact hK _ _ ⟨.int .i64 (j : Nat), rfl, rfl, hBx, fun _ h => h, fun k y _ h => h⟩
          · refine wpOp_step (o := _) rfl (fun K' hK => ?_)
            go_simp
            exact hK _ _ ⟨.agg #[.int .i64 (T.kid j).op, .int .i64 (T.kid j).rel, .slice (T.kid j).aa (T.kid j).an (T.kid j).ac, .slice (T.kid j).ka (T.kid j).kn (T.kid j).kc], rfl, rfl, hBx, fun _ h => h, fun k y _ h => h⟩
          · have e3 : v 3 = .agg #[.int .i64 (T.kid j).op, .int .i64 (T.kid j).rel, .slice (T.kid j).aa (T.kid j).an (T.kid j).ac, .slice (T.kid j).ka (T.kid j).kn (T.kid j).kc] := hd 3 (List.contains_iff_mem.1 (by kernel_rfl))
            refine wpOp_step (o := _) rfl (fun K' hK => ?_)
            go_simp
            have hsz := hBx.size
            refine (HIH.out j hlt w1 (HBW.out.trans (hBx.mono (by omega)))).mono ?_
            rintro e w3 ⟨U, rfl, hs, hf, hb3⟩
            exact hK _ _ ⟨_, fr_eqC (by simp [upd, e3]), CcOk.four ⟨U, rfl, hs, hf.weaken hsz (Nat.le_refl _)⟩, hBx.trans (hb3.mono hsz), fun _ h => h, fun k y hk h => h.keep hk⟩
          · have e1 : v 1 = .slice (some ⟨h, 0, none⟩) T.kn kcap := hd 1 (List.contains_iff_mem.1 (by kernel_rfl))
            have e2 : v 2 = .int .i64 (j : Nat) := hd 2 (List.contains_iff_mem.1 (by kernel_rfl))
            refine wpOp_step (o := _) rfl (fun K' hK => ?_)
            go_simp
            exact hK _ _ ⟨.pointer (some ⟨h, j * 4, none⟩), fr_eqC (by simp [upd, e1, e2]), rfl, hBx, fun _ h => h, fun k y _ h => h⟩
        · have e0 : v 0 = .pointer (some ⟨w.heap.size, 3, none⟩) := hv 0 (by decide)
          have e1 : v 1 = .slice (some ⟨h, 0, none⟩) T.kn kcap := hv 1 (by decide)
          have e2 : v 2 = .int .i64 (j : Nat) := hv 2 (by decide)
          have e3 : v 3 = .agg #[.int .i64 (T.kid j).op, .int .i64 (T.kid j).rel, .slice (T.kid j).aa (T.kid j).an (T.kid j).ac, .slice (T.kid j).ka (T.kid j).kn (T.kid j).kc] := hv 3 (by decide)
          have e5 : v 5 = .pointer (some ⟨h, j * 4, none⟩) := hv 5 (by decide)
          obtain ⟨U, e4, hs, hvU⟩ : ∃ U : XT, v 4 = .agg #[.int .i64 U.op, .int .i64 U.rel, .slice U.aa U.an U.ac, .slice U.ka U.kn U.kc] ∧ SameX U (T.kid j) ∧ FrX w1 U wb.heap.size w1.heap.size := hv 4 (by decide)
          have hrw : Below wr.heap.size wr w1 := HB0.out.trans (hBx.mono (by have := HBM.out; omega))
          have HNX := Lib.hid (HC.out.step hlt rfl hrw (lo := wb.heap.size) (by have := HBM.out; omega) hvU hs)
          obtain ⟨h2, eh, _, _, hrow2⟩ := HC.out.row (by omega)
          obtain rfl : h = h2 := by injection eh with eh; injection eh
          have hrow3 := hrow2.held (hrw.block h (by have := HBM.out; omega))
          have f0 : w1.frozen? ⟨h, j * 4, none⟩ = false := hrow3.free _
          have f1 : w1.frozen? ⟨h, j * 4 + 1, none⟩ = false := hrow3.free _
          have f2 : w1.frozen? ⟨h, j * 4 + 2, none⟩ = false := hrow3.free _
          have f3 : w1.frozen? ⟨h, j * 4 + 3, none⟩ = false := hrow3.free _
          have ee : (if j < j then xtC (K j) else xtC (T.kid j)) = xtC (T.kid j) := if_neg (Nat.lt_irrefl j)
          have s0 : w1.cell? ⟨h, j * 4, none⟩ = some (.int .i64 (T.kid j).op) := hrow3.cell (r := 0) hlt (by rw [ee]; rfl)
          have s1 : w1.cell? ⟨h, j * 4 + 1, none⟩ = some (.int .i64 (T.kid j).rel) := hrow3.cell (r := 1) hlt (by rw [ee]; rfl)
          have s2 : w1.cell? ⟨h, j * 4 + 2, none⟩ = some (.slice (T.kid j).aa (T.kid j).an (T.kid j).ac) := hrow3.cell (r := 2) hlt (by rw [ee]; rfl)
          have s3 : w1.cell? ⟨h, j * 4 + 3, none⟩ = some (.slice (T.kid j).ka (T.kid j).kn (T.kid j).kc) := hrow3.cell (r := 3) hlt (by rw [ee]; rfl)
          clear hv hrow2 hrow3 hBx hs hvU hrw eh ee
          refine wpAny_of_held (S := fun _ => True) _ _ _ _ ?_
          simp only [e0, e1, e2, e3, e4, e5]
          clear e0 e1 e2 e3 e4 e5
          refine wpAnyH_ready (fuel := 0) (rs := [6]) (by kernel_rfl) (by simp) ?_
          refine AllReadyH.cons (o := _) rfl (fun K hK => ?_) AllReadyH.nil
          go_simp
          refine hK.out _ _ trivial (fun _ => ?_)
          clear hK
          refine wpAnyH_done (by kernel_rfl) ?_ _
          go_wp2
          go_roundw
          case rel => exact ⟨j + 1, by omega, by go_num, _, HNX⟩
          case measure => simp [intOf]; omega
      · obtain rfl : j = T.kn := by omega
        have hji : ¬ (T.kn : Int) < (T.kn : Int) := by omega
        obtain ⟨x0, x1, x2, x3⟩ := expr_box HC.out.st.bx
        go_wp2_with (first | (refine wpList_store_rowTo rfl 26 _ _ rfl rfl (w.heap.size + 1) #[.int .i64 T.op, .int .i64 T.rel, .slice ao T.an cap, .slice ko T.kn kcap] rfl rfl _ _ HC.out.st.rs (by kernel_rfl) (by kernel_rfl) (by kernel_rfl) ?_))
        have hdk := HC.out.df
        have hst := HC.out.st
        have hrs := setRow_heap _ _ _ #[.int .i64 T.op, .int .i64 T.rel, .slice ao T.an cap, .slice ko T.kn kcap] _ _ hst.rs
        have hdk2 : (wr.setRow (w.heap.size + 1) #[.int .i64 T.op, .int .i64 T.rel, .slice ao T.an cap, .slice ko T.kn kcap]).heap[D]? = some (.deferred (some [])) :=
          (setRow_other _ _ _ _ (by omega)).trans hdk
        have hbl : Below w.heap.size w (wr.setRow (w.heap.size + 1) #[.int .i64 T.op, .int .i64 T.rel, .slice ao T.an cap, .slice ko T.kn kcap]) := below_setRow hst.bel (by omega) _
        refine leavesM_mark (D := D) hdk2 ⟨.agg #[.int .i64 T.op, .int .i64 T.rel, .slice ao T.an cap, .slice ko T.kn kcap], ?_, .node T.op T.rel ao T.an cap T.arg ko T.kn kcap K, rfl, ?_, ?_, putD_below hdk2 hbl (by omega)⟩
        · have hl2 := run_loadVar_row (P := Tryz.prog) _ (w.heap.size + 1) 26 26 #[.int .i64 T.op, .int .i64 T.rel, .slice ao T.an cap, .slice ko T.kn kcap] _ _ (putD_heap hdk2 hrs) Tryz.underlying26 rfl (by kernel_rfl)
          simp [results, Tryz.results25, asAddr, hl2]
        · obtain ⟨q, _, _, _, hq⟩ := HC.out.kids
          exact (sameX_iff _ T).2 ⟨rfl, rfl, rfl, fun _ _ => rfl, rfl, fun i hi => (hq i hi).2⟩
        · refine HC.out.done HWF.out hDd (by omega) ?_ (fun b h1 h2 => ?_)
          · simp [World.setRow]
          · exact (World.putObj_heap_other h2).trans (setRow_other _ _ _ _ h1)
theorem copied_any (S : Nat → Prop) : ∀ (T : XT) (w : World), XAt w S T → XSm T → XFw T → CCpTo T w := by
  refine XT.ind fun T ih w h1 h2 h3 => ?_
  exact copied_step S T (fun i hi w a b c => ih i hi w a b c) w h1 h2 h3
end Go.Proofs.YtcojomkpogikiaaGreatDoor
