/- Contract of slices.Clone at values. -/
import Derived.Test.YtcpjbimojliogaaGreatDoorValTop
import Derived.Deep.AppendLies
import Derived.Laws.OwnMore
import Derived.Laws.Cover3
import Derived.Test.YtcpjbimojliogaaGreatDoorRegionDeep
import Derived.Deep.RegionHeld3
import Derived.Deep.WholeRow
import Derived.Great.BuildSlice
import Derived.Laws.CopyOwn
import Derived.RegionTactic
namespace Go.Proofs.YtcpjbimojliogaaGreatDoor
open Go.RowKit
set_option linter.unusedVariables false
theorem infoValue : (Tryz.prog.info? 38).map (fun i => (i.zero, i.size, i.bytes)) = some (some (.agg #[.int .i64 0, .int .u64 0, .string ⟨#[]⟩, .slice none 0 0]), 4, 56) := by kernel_rfl
abbrev vcells (T : VT) : List Value := [.int .i64 T.kind, .int .u64 T.num, .string T.text, .slice T.ia T.len T.cap]
def rowL (K : Nat → VT) : Nat → List Value | 0 => [] | n + 1 => rowL K n ++ vcells (K n)
theorem rowL_len (K : Nat → VT) : ∀ n, (rowL K n).length = n * 4
  | 0 => rfl
  | n + 1 => by rw [rowL, List.length_append, rowL_len K n]; simp; omega
theorem rowL_get (K : Nat → VT) : ∀ n i r, i < n → r < 4 → (rowL K n)[i * 4 + r]? = (vcells (K i))[r]?
  | n + 1, i, r, hi, hr => by
    rw [rowL]
    rcases Nat.lt_succ_iff_lt_or_eq.1 hi with h | rfl
    · rw [List.getElem?_append_left (by rw [rowL_len]; omega)]; exact rowL_get K n i r h hr
    · rw [List.getElem?_append_right (by rw [rowL_len]; omega), rowL_len, show i * 4 + r - i * 4 = r by omega]
theorem rowL_one (K : Nat → VT) : ∀ n, ∀ u ∈ rowL K n, u.oneCell' = true
  | 0, u, h => by simp [rowL] at h
  | n + 1, u, h => by
    rw [rowL, List.mem_append] at h
    rcases h with h | h
    · exact rowL_one K n u h
    · simp only [vcells, List.mem_cons, List.not_mem_nil, or_false] at h
      rcases h with rfl | rfl | rfl | rfl <;> rfl
/-- a row of values -/
def RowAt (w : World) (g : Nat) (K : Nat → VT) (n : Nat) : Prop :=
  ∃ cur, w.heap[g]? = some (.cells cur 38 (0, 0)) ∧ ∀ i, i < n → cur[i * 4]? = some (.int .i64 (K i).kind) ∧ cur[i * 4 + 1]? = some (.int .u64 (K i).num) ∧ cur[i * 4 + 2]? = some (.string (K i).text) ∧ cur[i * 4 + 3]? = some (.slice (K i).ia (K i).len (K i).cap)
theorem row_of_own {w : World} {base n cap g : Nat} {K : Nat → VT} (h : w.ownsRow base 38 4 (.slice (some ⟨g, 0, none⟩) n cap) n (rowL K n)) : RowAt w g K n ∧ base ≤ g := by
  rcases h.2 with ⟨hv, _⟩ | ⟨g', cap', cur, hv, hb, hg, h1, h2, h3, h4⟩
  · cases hv
  · cases hv
    refine ⟨⟨cur, hg, fun i hi => ?_⟩, hb⟩
    have hget : ∀ r, r < 4 → cur[i * 4 + r]? = (vcells (K i))[r]? := fun r hr => by
      rw [← rowL_get K n i r hi hr, ← h4, List.getElem?_take, if_pos (by omega)]
      simp
    exact ⟨hget 0 (by omega), hget 1 (by omega), hget 2 (by omega), hget 3 (by omega)⟩
theorem eql_nil (a : Option Addr) (l c : Nat) (w : World) : (binOp .eql 36 (.slice a l c) (.slice none 0 0)).run Tryz.prog w = .ok (.bool a.isNone) w := by
  simp only [binOp]
  simp [run_equal_slice_nil w _ _ a l c Tryz.underlying36]
theorem news_of {w : World} {S : Nat → Prop} {T : VT} (H : ValAt w S T) {a : Addr} (hia : T.ia = some a) : ∀ j u, (rowL T.kid T.len)[j]? = some u → w.cell? (a.add j) = some u := by
  intro j u hj
  have hl : j < T.len * 4 := by
    have := (List.getElem?_eq_some_iff.1 hj).1
    rwa [rowL_len] at this
  have hi : j / 4 < T.len := by omega
  obtain ⟨⟨b, off, e, _, _, c0, c1, c2, c3⟩, _⟩ := ((valAt_iff T).1 H).2 (j / 4) hi
  rw [hia] at e
  obtain rfl := Option.some.inj e
  have hr : j % 4 < 4 := Nat.mod_lt _ (by decide)
  have hg := rowL_get T.kid T.len (j / 4) (j % 4) hi hr
  rw [show j / 4 * 4 + j % 4 = j by omega, hj] at hg
  rw [add_plain]
  have hj4 : j = j / 4 * 4 + j % 4 := by omega
  have hq : j % 4 = 0 ∨ j % 4 = 1 ∨ j % 4 = 2 ∨ j % 4 = 3 := by omega
  rcases hq with h | h | h | h <;> rw [h] at hg <;> simp [vcells] at hg <;> subst hg
  · rw [show off + j = off + j / 4 * 4 by omega]; exact c0
  · rw [show off + j = off + j / 4 * 4 + 1 by omega]; exact c1
  · rw [show off + j = off + j / 4 * 4 + 2 by omega]; exact c2
  · rw [show off + j = off + j / 4 * 4 + 3 by omega]; exact c3
theorem own_form {w : World} {base n : Nat} {K : Nat → VT} {v : Value} (h : w.ownsRow base 38 4 v n (rowL K n)) : ∃ ao cap, v = .slice ao n cap ∧ (0 < n → ∃ g, ao = some ⟨g, 0, none⟩ ∧ base ≤ g ∧ RowAt w g K n) := by
  rcases h.2 with ⟨hv, h0⟩ | ⟨g, cap, cur, hv, hrest⟩
  · exact ⟨none, 0, by rw [hv, h0], fun h => by omega⟩
  · subst hv
    have := row_of_own h
    exact ⟨_, cap, rfl, fun _ => ⟨g, rfl, this.2, this.1⟩⟩
set_option maxHeartbeats 2000000 in
theorem clone8_any (S : Nat → Prop) (T : VT) (w : World) (H : ValAt w S T) :
    Calls Tryz.prog 61 #[.slice T.ia T.len T.cap] w fun e w' => ∃ ao cap, e = .returned (.slice ao T.len cap) ∧ (0 < T.len → ∃ g, ao = some ⟨g, 0, none⟩ ∧ w.heap.size ≤ g ∧ RowAt w' g T.kid T.len) ∧ Below w.heap.size w w' := by
  obtain ⟨i0, hi, hz0, hz1, hz2⟩ := info_parts infoValue
  have hnil := eql_nil
  have hlen := val_len H
  have hk := ((valAt_iff T).1 H).2
  cases hia : T.ia with
  | none =>
    have h0 : T.len = 0 := by
      rcases Nat.eq_zero_or_pos T.len with h | h
      · exact h
      · obtain ⟨⟨b, off, e, _⟩, _⟩ := hk 0 h
        rw [hia] at e; cases e
    rw [h0]
    clear hk H hia h0
    go_enter Tryz.func61, Tryz.ntmps61
    go_wp2
    go_ret
    exact ⟨_, _, rfl, fun h => absurd h (Nat.lt_irrefl 0), Below.refl _ _⟩
  | some a =>
    have HN := Lib.hid (news_of (H.next ((Below.refl w.heap.size w).alloc (Nat.le_refl _) (.cells #[] 38))) hia)
    have HO := Lib.hid (show (w.alloc (.cells #[] 38)).ownsRow w.heap.size 38 4 (.slice (some ⟨w.heap.size, 0, none⟩) 0 0) 0 [] from ⟨rfl, .inr ⟨w.heap.size, 0, #[], rfl, Nat.le_refl _, alloc_at w _, Nat.le_refl _, Nat.zero_le _, rfl, rfl⟩⟩)
    have HB := Lib.hid ((Below.refl w.heap.size w).alloc (Nat.le_refl _) (.cells #[] 38))
    clear hk H hia
    go_enter Tryz.func61, Tryz.ntmps61
    go_wp2_with (at_builtin; refine wpList_append_at rfl (.tmp 5) (.tmp 6) 36 rfl w.heap.size 38 i0 (.agg #[.int .i64 0, .int .u64 0, .string ⟨#[]⟩, .slice none 0 0]) 4 56 Tryz.underlying36 hi hz0 hz1 hz2 rfl (by decide) _ 0 [] rfl HO.out a T.len T.cap (rowL T.kid T.len) rfl (rowL_len _ _) HN.out (rowL_one _ _) (by unfold maxLen; omega) (by omega) (by simp) ?_; intro v2 w2 hown2 hg2 hf2; rw [Nat.zero_add, List.nil_append] at hown2; obtain ⟨ao2, cap2, rfl, hrow⟩ := own_form hown2; have HR := Lib.hid hrow; have HB2 := Lib.hid (HB.out.grown hg2 (by simp) (fun k hk => by cases hk; exact Nat.le_refl _)); clear hown2 hg2 hf2 hrow)
    go_ret
    exact ⟨_, _, rfl, HR.out, HB2.out⟩
end Go.Proofs.YtcpjbimojliogaaGreatDoor
namespace Go.Proofs.YtcpjbimojliogaaGreatDoor
open Go.RowKit
set_option linter.unusedVariables false
def boxO (T : VT) (ao : Option Addr) (cap : Nat) : Obj := .cells #[.int .i64 T.kind, .int .u64 T.num, .string T.text, .slice ao T.len cap] 38
def zeroO : Obj := .cells #[.int .i64 0, .int .u64 0, .string ⟨#[]⟩, .slice none 0 0] 38
/-- the copies so far, behind them the Items -/
def mixK (K : Nat → VT) (T : VT) (j : Nat) : Nat → VT := fun i => if i < j then K i else T.kid i
structure CpSt (T : VT) (N : Nat) (ao : Option Addr) (cap j : Nat) (K : Nat → VT) (w0 w : World) : Prop where
  box : w.heap[N]? = some (boxO T ao cap)
  res : w.heap[N + 1]? = some zeroO
  below : Below N w0 w
  row : 0 < T.len → ∃ g, ao = some ⟨g, 0, none⟩ ∧ N + 2 ≤ g ∧ RowAt w g (mixK K T j) T.len ∧ ∀ i, i < j → sameT (T.kid i) (K i) = true ∧ ValAt w (fun b => g < b) (K i)
theorem RowAt.next {w w' : World} {g n : Nat} {K : Nat → VT} (h : RowAt w g K n) (hb : Below w.heap.size w w') : RowAt w' g K n := by
  obtain ⟨cur, h1, h2⟩ := h
  exact ⟨cur, box_keep h1 hb, h2⟩
theorem RowAt.lt {w : World} {g n : Nat} {K : Nat → VT} (h : RowAt w g K n) : g < w.heap.size := by
  obtain ⟨cur, h1, h2⟩ := h
  exact lt_of_block h1
theorem RowAt.cells {w : World} {g n : Nat} {K : Nat → VT} (h : RowAt w g K n) {i : Nat} (hi : i < n) : w.cell? ⟨g, i * 4, none⟩ = some (.int .i64 (K i).kind) ∧ w.cell? ⟨g, i * 4 + 1, none⟩ = some (.int .u64 (K i).num) ∧ w.cell? ⟨g, i * 4 + 2, none⟩ = some (.string (K i).text) ∧ w.cell? ⟨g, i * 4 + 3, none⟩ = some (.slice (K i).ia (K i).len (K i).cap) ∧ ∀ r, w.frozen? ⟨g, i * 4 + r, none⟩ = false := by
  obtain ⟨cur, h1, h2⟩ := h
  obtain ⟨a, b, c, d⟩ := h2 i hi
  exact ⟨cell_at h1 a, cell_at h1 b, cell_at h1 c, cell_at h1 d, fun r => free_at h1⟩
/-- a value into its place -/
abbrev putV (w : World) (g o : Nat) (U : VT) : World := (((w.setCell ⟨g, o, none⟩ (.int .i64 U.kind)).setCell ⟨g, o + 1, none⟩ (.int .u64 U.num)).setCell ⟨g, o + 2, none⟩ (.string U.text)).setCell ⟨g, o + 3, none⟩ (.slice U.ia U.len U.cap)
theorem RowAt.put {w : World} {g n j : Nat} {K : Nat → VT} {U : VT} (h : RowAt w g K n) (hj : j < n) : RowAt (putV w g (j * 4) U) g (fun i => if i = j then U else K i) n := by
  obtain ⟨cur, h1, h2⟩ := h
  obtain ⟨s0, s1, s2, s3⟩ := h2 j hj
  have l3 := (Array.getElem?_eq_some_iff.1 s3).1
  have a1 := set_at (j := j * 4) (u := .int .i64 U.kind) h1
  have a2 := set_at (j := j * 4 + 1) (u := .int .u64 U.num) a1
  have a3 := set_at (j := j * 4 + 2) (u := .string U.text) a2
  have a4 := set_at (j := j * 4 + 3) (u := .slice U.ia U.len U.cap) a3
  refine ⟨_, a4, fun i hi => ?_⟩
  obtain ⟨t0, t1, t2, t3⟩ := h2 i hi
  by_cases e : i = j
  · subst e
    simp only [if_true]
    refine ⟨?_, ?_, ?_, ?_⟩ <;> simp [Array.getElem?_setIfInBounds] <;> omega
  · simp only [if_neg e]
    refine ⟨?_, ?_, ?_, ?_⟩
    · rw [← t0]; simp only [Array.getElem?_setIfInBounds, Array.size_setIfInBounds]; rw [if_neg (by omega), if_neg (by omega), if_neg (by omega), if_neg (by omega)]
    · rw [← t1]; simp only [Array.getElem?_setIfInBounds, Array.size_setIfInBounds]; rw [if_neg (by omega), if_neg (by omega), if_neg (by omega), if_neg (by omega)]
    · rw [← t2]; simp only [Array.getElem?_setIfInBounds, Array.size_setIfInBounds]; rw [if_neg (by omega), if_neg (by omega), if_neg (by omega), if_neg (by omega)]
    · rw [← t3]; simp only [Array.getElem?_setIfInBounds, Array.size_setIfInBounds]; rw [if_neg (by omega), if_neg (by omega), if_neg (by omega), if_neg (by omega)]
theorem put_other {w : World} {g o b : Nat} {U : VT} (h : b ≠ g) : (putV w g o U).heap[b]? = w.heap[b]? := (set_other h).trans ((set_other h).trans ((set_other h).trans (set_other h)))
theorem put_size (w : World) (g o : Nat) (U : VT) : (putV w g o U).heap.size = w.heap.size := by simp
theorem put_below {w0 w : World} {N g o : Nat} {U : VT} (h : Below N w0 w) (hg : N ≤ g) : Below N w0 (putV w g o U) := (((h.setCell (p := ⟨g, o, none⟩) hg _).setCell (p := ⟨g, o + 1, none⟩) hg _).setCell (p := ⟨g, o + 2, none⟩) hg _).setCell (p := ⟨g, o + 3, none⟩) hg _
theorem ValAt.put {w : World} {g o : Nat} {U K : VT} (h : ValAt w (fun b => g < b) K) : ValAt (putV w g o U) (fun b => g < b) K :=
  ValAt.held_of (fun _ s => s) (by rw [put_size]; exact Nat.le_refl _) (fun b hs _ => put_other (by omega)) K h
theorem CpSt.step {T : VT} {N g cap j : Nat} {K : Nat → VT} {U : VT} {w0 wr w1 : World} (h : CpSt T N (some ⟨g, 0, none⟩) cap j K w0 wr) (hj : j < T.len) (hb : Below wr.heap.size wr w1) (hN : N ≤ w0.heap.size) (hs : sameT (T.kid j) U = true) (hv : ValAt w1 (fun b => g < b) U) :
    CpSt T N (some ⟨g, 0, none⟩) cap (j + 1) (fun i => if i = j then U else K i) w0 (putV w1 g (j * 4) U) := by
  obtain ⟨g', e, hg, hrow, hk⟩ := h.row (by omega)
  cases e
  have hlb := lt_of_block h.box
  have hlr := lt_of_block h.res
  refine ⟨(put_other (by omega)).trans (box_keep h.box hb), (put_other (by omega)).trans (box_keep h.res hb), put_below (h.below.trans (hb.mono (by omega))) (by omega), fun _ => ⟨g, rfl, hg, ?_, fun i hi => ?_⟩⟩
  · have h2 := (hrow.next hb).put (U := U) hj
    obtain ⟨cur, q1, q2⟩ := h2
    refine ⟨cur, q1, fun i hi => ?_⟩
    have e : mixK (fun i => if i = j then U else K i) T (j + 1) i = (fun i => if i = j then U else mixK K T j i) i := by
      unfold mixK
      by_cases e : i = j
      · subst e; simp
      · simp only [if_neg e]
        by_cases c : i < j
        · rw [if_pos (by omega), if_pos c]
        · rw [if_neg (by omega), if_neg c]
    rw [e]; exact q2 i hi
  · by_cases e : i = j
    · subst e
      simp only [if_true]
      exact ⟨hs, hv.put⟩
    · simp only [if_neg e]
      have := hk i (by omega)
      exact ⟨this.1, (this.2.next hb).put⟩
theorem CpSt.done {T : VT} {N cap : Nat} {ao : Option Addr} {K : Nat → VT} {w0 w : World} (h : CpSt T N ao cap T.len K w0 w) (hw : ValWf T) : sameT T (.node T.kind T.num T.text ao T.len cap K) = true ∧ ValAt w (fun b => N + 2 ≤ b) (.node T.kind T.num T.text ao T.len cap K) := by
  rcases Nat.eq_zero_or_pos T.len with h0 | h0
  · exact ⟨sameT_iff.2 ⟨rfl, rfl, rfl, rfl, fun i hi => by omega⟩, (valAt_iff _).2 ⟨hw, fun i hi => absurd (show i < T.len from hi) (by omega)⟩⟩
  · obtain ⟨g, rfl, hg, hrow, hk⟩ := h.row h0
    refine ⟨sameT_iff.2 ⟨rfl, rfl, rfl, rfl, fun i hi => (hk i hi).1⟩, (valAt_iff _).2 ⟨hw, fun i hi => ?_⟩⟩
    have hi' : i < T.len := hi
    obtain ⟨c0, c1, c2, c3, _⟩ := hrow.cells hi'
    have e : mixK K T T.len i = K i := by unfold mixK; rw [if_pos hi']
    rw [e] at c0 c1 c2 c3
    exact ⟨⟨g, 0, rfl, by omega, hrow.lt, by rw [Nat.zero_add]; exact c0, by rw [Nat.zero_add]; exact c1, by rw [Nat.zero_add]; exact c2, by rw [Nat.zero_add]; exact c3⟩, (hk i hi').2.sub (fun b hb => by omega)⟩
end Go.Proofs.YtcpjbimojliogaaGreatDoor
namespace Go.Proofs.YtcpjbimojliogaaGreatDoor
open Go.RowKit
set_option linter.unusedVariables false
theorem cp_start (T : VT) (w w1 : World) (ao : Option Addr) (cap : Nat) (hb : Below (w.heap.size + 2) ((w.alloc (valO T)).alloc zeroO) w1) (hrow : 0 < T.len → ∃ g, ao = some ⟨g, 0, none⟩ ∧ w.heap.size + 2 ≤ g ∧ RowAt w1 g T.kid T.len) :
    CpSt T w.heap.size ao cap 0 T.kid w (w1.setCell ⟨w.heap.size, 3, none⟩ (.slice ao T.len cap)) := by
  have q1 : ((w.alloc (valO T)).alloc zeroO).heap[w.heap.size]? = some (valO T) := alloc_old (alloc_at w _)
  have q2 : ((w.alloc (valO T)).alloc zeroO).heap[w.heap.size + 1]? = some zeroO := by have := alloc_at (w.alloc (valO T)) zeroO; simpa using this
  have b1 : w1.heap[w.heap.size]? = some (valO T) := (hb.block _ (by omega)).trans q1
  have b2 : w1.heap[w.heap.size + 1]? = some zeroO := (hb.block _ (by omega)).trans q2
  have s1 := set_at (j := 3) (u := .slice ao T.len cap) b1
  refine ⟨by simpa [boxO] using s1, (set_other (by simp)).trans b2, ?_, fun h0 => ?_⟩
  · have h1 : Below w.heap.size w w1 := (((Below.refl w.heap.size w).alloc (Nat.le_refl _) (valO T)).alloc (by simp) zeroO).trans (hb.mono (by omega))
    exact h1.setCell (p := ⟨w.heap.size, 3, none⟩) (Nat.le_refl _) _
  · obtain ⟨g, e, hg, cur, h1, h2⟩ := hrow h0
    refine ⟨g, e, hg, ⟨cur, (set_other (by simp; omega)).trans h1, fun i hi => ?_⟩, fun i hi => absurd hi (Nat.not_lt_zero i)⟩
    have e : mixK T.kid T 0 i = T.kid i := by unfold mixK; rw [if_neg (by omega)]
    rw [e]; exact h2 i hi
/-- what is known of the region's values: the fifth is the copy -/
def COk (N g len cap j : Nat) (kid : VT) (k : Nat) (x : Value) (w : World) : Prop :=
  if k = 4 then ∃ U : VT, x = .agg #[.int .i64 U.kind, .int .u64 U.num, .string U.text, .slice U.ia U.len U.cap] ∧ sameT kid U = true ∧ ValAt w (fun b => g < b) U
  else x = [.pointer (some ⟨N, 3, none⟩), .slice (some ⟨g, 0, none⟩) len cap, .int .i64 (j : Nat), .agg #[.int .i64 kid.kind, .int .u64 kid.num, .string kid.text, .slice kid.ia kid.len kid.cap], undef, .pointer (some ⟨g, j * 4, none⟩)].getD k undef
theorem COk.four {N g len cap j : Nat} {kid : VT} {x : Value} {w : World} (h : ∃ U : VT, x = .agg #[.int .i64 U.kind, .int .u64 U.num, .string U.text, .slice U.ia U.len U.cap] ∧ sameT kid U = true ∧ ValAt w (fun b => g < b) U) : COk N g len cap j kid 4 x w := by
  unfold COk; rw [if_pos rfl]; exact h
theorem COk.keep {N g len cap j k : Nat} {kid : VT} {x : Value} {w w' : World} (h : COk N g len cap j kid k x w) (hk : k ≠ 4) : COk N g len cap j kid k x w' := by
  unfold COk at *; rw [if_neg hk] at *; exact h
theorem fr_eq8 {a b : List Value} (h : a = b) : (⟨a.toArray, []⟩ : Act) = ⟨b.toArray, []⟩ := by rw [h]
end Go.Proofs.YtcpjbimojliogaaGreatDoor
namespace Go.Proofs.YtcpjbimojliogaaGreatDoor
open Go.RowKit
set_option linter.unusedVariables false
def stepT (U : VT) (z : Int) : Option VT := if 0 ≤ z ∧ z < U.len then some (U.kid z.toNat) else none
/-- behind k steps -/
def walkT (T : VT) (L : Nat → Int) : Nat → Option VT
  | 0 => some T
  | k + 1 => (walkT T L k).bind fun U => stepT U (L k)
theorem walk_none {T : VT} {L : Nat → Int} {k : Nat} (h : walkT T L k = none) : ∀ n, k ≤ n → walkT T L n = none
  | 0, hk => by obtain rfl : k = 0 := by omega
                exact h
  | n + 1, hk => by
    rcases Nat.eq_or_lt_of_le hk with rfl | hk
    · exact h
    · rw [walkT, walk_none h n (by omega)]; rfl
/-- integers in a row -/
def IntsAt (w : World) (ao : Option Addr) (n : Nat) (L : Nat → Int) : Prop := ∀ i, i < n → ∃ b off, ao = some ⟨b, off, none⟩ ∧ w.cell? ⟨b, off + i, none⟩ = some (.int .i64 (L i))
theorem IntsAt.next {w w' : World} {ao : Option Addr} {n : Nat} {L : Nat → Int} (h : IntsAt w ao n L) (hb : Below w.heap.size w w') : IntsAt w' ao n L := fun i hi => by
  obtain ⟨b, off, e, c⟩ := h i hi
  exact ⟨b, off, e, keep hb c⟩
def AtTo (T : VT) (L : Nat → Int) (n N : Nat) (w : World) (e : Ending) (w' : World) : Prop :=
  ∃ (U : VT) (b : Bool), e = .returned (.tuple #[.agg #[.int .i64 U.kind, .int .u64 U.num, .string U.text, .slice U.ia U.len U.cap], .bool b]) ∧ ((∃ V, walkT T L n = some V ∧ b = true ∧ sameT V U = true) ∨ (walkT T L n = none ∧ b = false ∧ U = .nil)) ∧ ValAt w' (fun c => N ≤ c) U ∧ Below N w w'
end Go.Proofs.YtcpjbimojliogaaGreatDoor
