/- Contract of slices.Clone at values. -/
import Derived.Test.YtpclpghmahlieaaDoorValTop
import Derived.Deep.AppendLies
import Derived.Laws.OwnMore
import Derived.Laws.Cover3
namespace Go.Proofs.YtpclpghmahlieaaDoor
open Go.RowKit
set_option linter.unusedVariables false
theorem infoValue : (Tryd.prog.info? 25).map (fun i => (i.zero, i.size, i.bytes)) = some (some (.agg #[.int .i64 0, .int .u64 0, .string ⟨#[]⟩, .slice none 0 0]), 4, 56) := by kernel_rfl
abbrev vcells (T : VT) : List Value := [.int .i64 T.kind, .int .u64 T.num, .string T.text, .slice T.ia T.len T.cap]
def rowL (K : Nat → VT) : Nat → List Value | 0 => [] | n + 1 => rowL K n ++ vcells (K n)
theorem rowL_len (K : Nat → VT) : ∀ n, (rowL K n).length = n * 4
  | 0 => rfl
  | n + 1 => by rw [rowL, List.length_append, rowL_len K n]; simp; omega
theorem rowL_get (K : Nat → VT) : ∀ n i r, i < n → r < 4 → (rowL K n)[i * 4 + r]? = (vcells (K i))[r]?
  | n + 1, i, r, hi, hr => by
    rw [rowL]
    rcases Nat.lt_succ_iff_lt_or_eq.1 hi with h | rfl
    · rw [List.getElem?_append_left (by rw [rowL_len]; omega)]; exact rowL_get K n i r h hr
    · rw [List.getElem?_append_right (by rw [rowL_len]; omega), rowL_len, show i * 4 + r - i * 4 = r by omega]
theorem rowL_one (K : Nat → VT) : ∀ n, ∀ u ∈ rowL K n, u.oneCell' = true
  | 0, u, h => by simp [rowL] at h
  | n + 1, u, h => by
    rw [rowL, List.mem_append] at h
    rcases h with h | h
    · exact rowL_one K n u h
    · simp only [vcells, List.mem_cons, List.not_mem_nil, or_false] at h
      rcases h with rfl | rfl | rfl | rfl <;> rfl
/-- a row of values -/
def RowAt (w : World) (g : Nat) (K : Nat → VT) (n : Nat) : Prop :=
  ∃ cur, w.heap[g]? = some (.cells cur 25 (0, 0)) ∧ ∀ i, i < n → cur[i * 4]? = some (.int .i64 (K i).kind) ∧ cur[i * 4 + 1]? = some (.int .u64 (K i).num) ∧ cur[i * 4 + 2]? = some (.string (K i).text) ∧ cur[i * 4 + 3]? = some (.slice (K i).ia (K i).len (K i).cap)
theorem row_of_own {w : World} {base n cap g : Nat} {K : Nat → VT} (h : w.ownsRow base 25 4 (.slice (some ⟨g, 0, none⟩) n cap) n (rowL K n)) : RowAt w g K n ∧ base ≤ g := by
  rcases h.2 with ⟨hv, _⟩ | ⟨g', cap', cur, hv, hb, hg, h1, h2, h3, h4⟩
  · cases hv
  · cases hv
    refine ⟨⟨cur, hg, fun i hi => ?_⟩, hb⟩
    have hget : ∀ r, r < 4 → cur[i * 4 + r]? = (vcells (K i))[r]? := fun r hr => by
      rw [← rowL_get K n i r hi hr, ← h4, List.getElem?_take, if_pos (by omega)]
      simp
    exact ⟨hget 0 (by omega), hget 1 (by omega), hget 2 (by omega), hget 3 (by omega)⟩
theorem eql_nil (a : Option Addr) (l c : Nat) (w : World) : (binOp .eql 23 (.slice a l c) (.slice none 0 0)).run Tryd.prog w = .ok (.bool a.isNone) w := by
  simp only [binOp]
  simp [run_equal_slice_nil w _ _ a l c Tryd.underlying23]
theorem news_of {w : World} {S : Nat → Prop} {T : VT} (H : ValAt w S T) {a : Addr} (hia : T.ia = some a) : ∀ j u, (rowL T.kid T.len)[j]? = some u → w.cell? (a.add j) = some u := by
  intro j u hj
  have hl : j < T.len * 4 := by
    have := (List.getElem?_eq_some_iff.1 hj).1
    rwa [rowL_len] at this
  have hi : j / 4 < T.len := by omega
  obtain ⟨⟨b, off, e, _, _, c0, c1, c2, c3⟩, _⟩ := ((valAt_iff T).1 H).2 (j / 4) hi
  rw [hia] at e
  obtain rfl := Option.some.inj e
  have hr : j % 4 < 4 := Nat.mod_lt _ (by decide)
  have hg := rowL_get T.kid T.len (j / 4) (j % 4) hi hr
  rw [show j / 4 * 4 + j % 4 = j by omega, hj] at hg
  rw [add_plain]
  have hj4 : j = j / 4 * 4 + j % 4 := by omega
  have hq : j % 4 = 0 ∨ j % 4 = 1 ∨ j % 4 = 2 ∨ j % 4 = 3 := by omega
  rcases hq with h | h | h | h <;> rw [h] at hg <;> simp [vcells] at hg <;> subst hg
  · rw [show off + j = off + j / 4 * 4 by omega]; exact c0
  · rw [show off + j = off + j / 4 * 4 + 1 by omega]; exact c1
  · rw [show off + j = off + j / 4 * 4 + 2 by omega]; exact c2
  · rw [show off + j = off + j / 4 * 4 + 3 by omega]; exact c3
theorem own_form {w : World} {base n : Nat} {K : Nat → VT} {v : Value} (h : w.ownsRow base 25 4 v n (rowL K n)) : ∃ ao cap, v = .slice ao n cap ∧ (0 < n → ∃ g, ao = some ⟨g, 0, none⟩ ∧ base ≤ g ∧ RowAt w g K n) := by
  rcases h.2 with ⟨hv, h0⟩ | ⟨g, cap, cur, hv, hrest⟩
  · exact ⟨none, 0, by rw [hv, h0], fun h => by omega⟩
  · subst hv
    have := row_of_own h
    exact ⟨_, cap, rfl, fun _ => ⟨g, rfl, this.2, this.1⟩⟩
set_option maxHeartbeats 2000000 in
theorem clone_any (S : Nat → Prop) (T : VT) (w : World) (H : ValAt w S T) :
    Calls Tryd.prog 26 #[.slice T.ia T.len T.cap] w fun e w' => ∃ ao cap, e = .returned (.slice ao T.len cap) ∧ (0 < T.len → ∃ g, ao = some ⟨g, 0, none⟩ ∧ w.heap.size ≤ g ∧ RowAt w' g T.kid T.len) ∧ Below w.heap.size w w' := by
  obtain ⟨i0, hi, hz0, hz1, hz2⟩ := info_parts infoValue
  have hnil := eql_nil
  have hlen := val_len H
  have hk := ((valAt_iff T).1 H).2
  cases hia : T.ia with
  | none =>
    have h0 : T.len = 0 := by
      rcases Nat.eq_zero_or_pos T.len with h | h
      · exact h
      · obtain ⟨⟨b, off, e, _⟩, _⟩ := hk 0 h
        rw [hia] at e; cases e
    rw [h0]
    clear hk H hia h0
    go_enter Tryd.func26, Tryd.ntmps26
    go_wp2
    go_ret
    exact ⟨_, _, rfl, fun h => absurd h (Nat.lt_irrefl 0), Below.refl _ _⟩
  | some a =>
    have HN := Lib.hid (news_of (H.next ((Below.refl w.heap.size w).alloc (Nat.le_refl _) (.cells #[] 25))) hia)
    have HO := Lib.hid (show (w.alloc (.cells #[] 25)).ownsRow w.heap.size 25 4 (.slice (some ⟨w.heap.size, 0, none⟩) 0 0) 0 [] from ⟨rfl, .inr ⟨w.heap.size, 0, #[], rfl, Nat.le_refl _, alloc_at w _, Nat.le_refl _, Nat.zero_le _, rfl, rfl⟩⟩)
    have HB := Lib.hid ((Below.refl w.heap.size w).alloc (Nat.le_refl _) (.cells #[] 25))
    clear hk H hia
    go_enter Tryd.func26, Tryd.ntmps26
    go_wp2_with (at_builtin; refine wpList_append_at rfl (.tmp 5) (.tmp 6) 23 rfl w.heap.size 25 i0 (.agg #[.int .i64 0, .int .u64 0, .string ⟨#[]⟩, .slice none 0 0]) 4 56 Tryd.underlying23 hi hz0 hz1 hz2 rfl (by decide) _ 0 [] rfl HO.out a T.len T.cap (rowL T.kid T.len) rfl (rowL_len _ _) HN.out (rowL_one _ _) (by unfold maxLen; omega) (by omega) (by simp) ?_; intro v2 w2 hown2 hg2 hf2; rw [Nat.zero_add, List.nil_append] at hown2; obtain ⟨ao2, cap2, rfl, hrow⟩ := own_form hown2; have HR := Lib.hid hrow; have HB2 := Lib.hid (HB.out.grown hg2 (by simp) (fun k hk => by cases hk; exact Nat.le_refl _)); clear hown2 hg2 hf2 hrow)
    go_ret
    exact ⟨_, _, rfl, HR.out, HB2.out⟩
end Go.Proofs.YtpclpghmahlieaaDoor
