/- A value with another number of Items; append, and what stands besides; chapter 9's FitsParts wants them. -/
import Derived.Test.YtmnemddagcfjgaaGreatDoorFitsAwake
import Derived.Test.YtmnemddagcfjgaaGreatDoorValCSame
import Derived.Test.YtmnemddagcfjgaaGreatDoorRegionDeep
import Derived.Deep.AppendLies
import Derived.RegionTactic
namespace Go.Proofs.YtmnemddagcfjgaaGreatDoor
open Go.ChangeShapes Go.WideShapes Go.ChangeAt Go.RowKit
set_option linter.unusedVariables false
section
variable {H : Type} {enc : TypeId × Value → H} {w : World}
theorem val_cap {T : VT} (h : Rdg enc Tryz.prog w 28 (Value.agg #[.int .i64 T.kind, .int .u64 T.num, .string T.text, .slice T.ia T.len T.cap]).cells.toList) : T.len ≤ T.cap := by
  have hf := rdg_field Tryz.underlying28 h 3 26 3 1 rfl (by kernel_rfl)
  simp [Value.cells] at hf
  rcases rdg_slice 4 Tryz.underlying26 (by kernel_rfl) hf with e | ⟨a, len, cap, e, hl, _⟩
  · simp at e; omega
  · simp at e; omega
end
/-- a value of a TArray or a TStruct with another number of Items -/
theorem none9_any (ao : Option Addr) (len cap : Nat) (L : Nat → TypeV) (hlen : len ≤ 1000000) (hcap : len ≤ cap) (k : Nat) (hk : k < len) (hok : fErr (oneR L len) len = 0) (T : VT) (hkd : T.kind = (L k).kind) (hf : formT T = true) (h12 : (L k).kind = 12 ∨ (L k).kind = 13) (a : Option Addr) (n c : Nat) (hn : n ≤ 2513169434843)
    (hne : ((L k).kind = 12 → (n : Int) ≠ (L k).bound) ∧ ((L k).kind = 13 → n ≠ (L k).ilen)) (w : World) (H : ∀ i, i < len → TypeAt w ao i (L i)) :
    Calls Tryz.prog 16 #[.slice ao len cap, .int .i64 k, .agg #[.int .i64 T.kind, .int .u64 T.num, .string T.text, .slice a n c]] w fun e w' => e = .returned (.int .i64 18) ∧ Below w.heap.size w w' := by
  obtain ⟨U, hU⟩ : ∃ U, VT.node T.kind T.num T.text a n c (fun _ => .nil) = U := ⟨_, rfl⟩
  have u0 : U.kind = T.kind := by subst hU; rfl
  have u1 : U.num = T.num := by subst hU; rfl
  have u2 : U.text = T.text := by subst hU; rfl
  have u3 : U.ia = a := by subst hU; rfl
  have u4 : U.len = n := by subst hU; rfl
  have u5 : U.cap = c := by subst hU; rfl
  have hfu : formT U = true := by
    unfold formT at hf ⊢
    rw [u0, u1, u2, u4]
    have hnum : numK T.kind = false := by unfold numK; simp; omega
    have h10 : (T.kind == 10) = false := by simp; omega
    rw [hnum, h10] at hf ⊢
    simp at hf ⊢
    exact hf
  rw [← u1, ← u2, ← u3, ← u5]
  rw [← u4] at hn hne ⊢
  rw [← u0] at hkd ⊢
  clear u0 u1 u2 u3 u4 u5 hU hf
  have HH := Lib.hid (fun wx (hb : Below w.heap.size w wx) => has9_any ao len cap L k hlen hcap wx (hold H hb))
  rw [hasT_yes hk hok] at HH
  have HB := Lib.hid ((Below.refl w.heap.size w).alloc (Nat.le_refl _) (.cells #[.int .i64 U.kind, .int .u64 U.num, .string U.text, .slice U.ia U.len U.cap] 28))
  have HQ := Lib.hid (alloc_at w (.cells #[.int .i64 U.kind, .int .u64 U.num, .string U.text, .slice U.ia U.len U.cap] 28))
  have HC := Lib.hid (show ∀ wx, Below w.heap.size w wx → Calls Tryz.prog 35 #[.slice ao len cap, .int .i64 k, .agg #[.int .i64 U.kind, .int .u64 U.num, .string U.text, .slice U.ia U.len U.cap]] wx fun e w' => e = .returned (.int .i64 18) ∧ Below wx.heap.size wx w' from fun wx hb => by
    have hX := hold H hb k hk
    obtain ⟨_, _, _, _, _, _, _, _, _, _, hiX⟩ := hold H hb k hk
    rcases h12 with h12 | h13
    · refine chk_array ao len cap k U (L k) hlen hk hn wx hX hkd hfu h12 hiX.1 _ (fun g1 g2 wy hy q1 q2 => ?_)
      have := all9_any (L k).bound U.ia U.len U.cap hn 98 #[.pointer (some ⟨g1, 0, none⟩), .pointer (some ⟨g2, 0, none⟩)] 0 wy (fun h => absurd h (hne.1 h12))
      rwa [if_pos (hne.1 h12)] at this
    · refine chk_struct ao len cap k U (L k) hlen hk hn wx hX hkd hfu h13 hiX.1 _ (fun g1 g2 wy hy q1 q2 => ?_)
      have hne' : (U.len : Int) ≠ ((L k).ilen : Nat) := by have := hne.2 h13; omega
      have := all9_any ((L k).ilen : Nat) U.ia U.len U.cap hn 99 #[.pointer (some ⟨g1, 0, none⟩), .pointer (some ⟨g2, 0, none⟩)] 0 wy (fun h => absurd h hne')
      rwa [if_pos hne'] at this)
  clear H hkd hfu hne h12 hok
  go_enter Tryz.func16, Tryz.ntmps16
  go_wp2_with (first
    | (go_at_call 34; refine (HH.out _ HB.out).mono ?_; rintro e w1 ⟨rfl, hb1⟩; have HB1 := Lib.hid (below_step8' HB.out hb1); have HQ1 := Lib.hid (box_keep HQ.out hb1); have d0 : w1.cell? ⟨w.heap.size, 0, none⟩ = some (.int .i64 U.kind) := cell_at HQ1.out rfl; have d1 : w1.cell? ⟨w.heap.size, 1, none⟩ = some (.int .u64 U.num) := cell_at HQ1.out rfl; have d2 : w1.cell? ⟨w.heap.size, 2, none⟩ = some (.string U.text) := cell_at HQ1.out rfl; have d3 : w1.cell? ⟨w.heap.size, 3, none⟩ = some (.slice U.ia U.len U.cap) := cell_at HQ1.out rfl; clear hb1)
    | (go_at_call 35; refine (HC.out _ HB1.out).mono ?_; rintro e w2 ⟨rfl, hb2⟩; have HB2 := Lib.hid (below_step8' HB1.out hb2); clear hb2))
  go_ret
  exact ⟨rfl, HB2.out⟩
/-- append of a slice: besides, the row that was there stands -/
theorem append_keep {P : Program} (w : World) (base : Nat) (t ty e : TypeId) (i : TypeInfo) (z : Value) (size bytes : Nat) (ht : P.underlying t = some (.slice e)) (hi : P.info? e = some i) (hz : i.zero = some z)
    (hsize : i.size = size) (hby : i.bytes = bytes) (hzs : z.cells.size = size) (hsz : 0 < size)
    (v : Value) (n : Nat) (xs : List Value) (hown : w.ownsRow base e size v n xs)
    (a : Addr) (m c : Nat) (news : List Value) (hl : news.length = m * size) (hnews : ∀ j u, news[j]? = some u → w.cell? (a.add j) = some u) (h1 : ∀ u ∈ news, u.oneCell' = true)
    (h63 : n + m ≤ maxLen) (hbytes : (n + m) * bytes ≤ 140737488355328) (hbase : base ≤ w.heap.size) :
    ∃ v' w', (Builtin.append_ #[t, t] ty #[v, .slice (some a) m c]).run P w = .ok v' w' ∧ w'.ownsRow base e size v' (n + m) (xs ++ news) ∧ w'.ownsRow base e size v n xs ∧ Below base w w' := by
  obtain ⟨v', w', hr, h2, h3, h4⟩ := run_append_own_at (P := P) w base t ty e i z size bytes ht hi hz hsize hby hzs hsz v n xs hown a m c news hl hnews h1 h63 hbytes hbase
  refine ⟨v', w', hr, h2, ?_, (Below.refl base w).grown h3 hbase (fun k hk => (hown.lt k hk).1)⟩
  rcases hown.2 with ⟨rfl, rfl⟩ | ⟨g, cap, cur, rfl, hbg, hg, hnc, hcm, hcs, htake⟩
  · exact ⟨hown.1, .inl ⟨rfl, rfl⟩⟩
  · subst hsize
    by_cases hroom : n + m ≤ cap
    · have hfit : n * i.size + news.length ≤ cur.size := by rw [hl, hcs, ← Nat.add_mul]; exact Nat.mul_le_mul_right _ hroom
      have hr' := run_append_room (P := P) w t ty e i ht hi g n cap cur hg a m c news hl hnews h1 hroom hfit
      rw [hr] at hr'
      injection hr' with e1 e2
      subst e1
      rcases h2.2 with ⟨he, _⟩ | ⟨g', cap', cur', he, hbg', hg', hnc', hcm', hcs', htake'⟩
      · cases he
      · cases he
        refine ⟨hown.1, .inr ⟨g, cap, cur', rfl, hbg, hg', hnc, hcm, hcs', ?_⟩⟩
        have e3 := congrArg (List.take (n * i.size)) htake'
        rw [List.take_take, List.take_append_of_le_length (by rw [hown.1]; exact Nat.le_refl _), List.take_of_length_le (l := xs) (by rw [hown.1]; exact Nat.le_refl _)] at e3
        rwa [Nat.min_eq_left (Nat.mul_le_mul_right _ (Nat.le_add_right _ _))] at e3
    · subst hby
      have holds : ∀ j u, xs[j]? = some u → w.cell? ((⟨g, 0, none⟩ : Addr).add j) = some u := hown.cells (g := g) rfl
      have hr' := run_append_grow (P := P) w t ty e i z ht hi hz ⟨g, 0, none⟩ n cap xs hown.1 holds a m c news hl hnews (by omega) (by simp only [maxLen] at h63; omega) (growslice_fits (by omega) hbytes)
      rw [hr] at hr'
      injection hr' with e1 e2
      subst e2
      refine ⟨hown.1, .inr ⟨g, cap, cur, rfl, hbg, ?_, hnc, hcm, hcs, htake⟩⟩
      have hgl := (Array.getElem?_eq_some_iff.1 hg).1
      rw [← hg]
      simp [World.alloc, Array.getElem?_push, Nat.ne_of_lt hgl]
      rfl
/-- append onto an empty row without room: a new block, and nothing else -/
theorem run_append_fresh {P : Program} (w : World) (t ty e : TypeId) (i : TypeInfo) (z : Value) (size bytes : Nat) (ht : P.underlying t = some (.slice e)) (hi : P.info? e = some i) (hz : i.zero = some z)
    (hsize : i.size = size) (hby : i.bytes = bytes) (hzs : z.cells.size = size) (hsz : 0 < size) (g : Nat) (hg : w.heap[g]? = some (.cells #[] e (0, 0)))
    (a : Addr) (m c : Nat) (news : List Value) (hl : news.length = m * size) (hnews : ∀ j u, news[j]? = some u → w.cell? (a.add j) = some u) (h1 : ∀ u ∈ news, u.oneCell' = true)
    (hm : 0 < m) (h63 : m ≤ maxLen) (hbytes : m * bytes ≤ 140737488355328) :
    ∃ cap w', (Builtin.append_ #[t, t] ty #[.slice (some ⟨g, 0, none⟩) 0 0, .slice (some a) m c]).run P w = .ok (.slice (some ⟨w.heap.size, 0, none⟩) m cap) w' ∧
      (∀ base, base ≤ w.heap.size → w'.ownsRow base e size (.slice (some ⟨w.heap.size, 0, none⟩) m cap) m news) ∧ Below w.heap.size w w' := by
  have hgl := lt_of_block hg
  have hown : w.ownsRow g e size (.slice (some ⟨g, 0, none⟩) 0 0) 0 [] := ⟨by simp, .inr ⟨g, 0, #[], rfl, Nat.le_refl _, hg, Nat.le_refl _, Nat.zero_le _, by simp, by simp⟩⟩
  obtain ⟨v', w', hr, h2, h3, h4⟩ := run_append_own_at (P := P) w g t ty e i z size bytes ht hi hz hsize hby hzs hsz _ 0 [] hown a m c news hl hnews h1 (by omega) (by rw [Nat.zero_add]; exact hbytes) (by omega)
  subst hsize
  subst hby
  have hr' := run_append_grow (P := P) w t ty e i z ht hi hz ⟨g, 0, none⟩ 0 0 [] (by simp) (by simp) a m c news hl hnews (by omega) (by simp only [maxLen] at h63; omega) (growslice_fits (by omega) (by rw [Nat.zero_add]; exact hbytes))
  rw [hr] at hr'
  injection hr' with e1 e2
  rw [Nat.zero_add] at e1 h2
  rw [List.nil_append] at h2
  subst e1
  refine ⟨_, w', hr, fun base hb => ?_, ?_⟩
  · refine ⟨h2.1, ?_⟩
    rcases h2.2 with ⟨he, _⟩ | ⟨g', cap', cur', he, hbg', rest⟩
    · cases he
    · cases he
      exact .inr ⟨w.heap.size, _, cur', rfl, hb, rest⟩
  · subst e2
    exact ((Below.refl w.heap.size w).drew).alloc (by simp) _
theorem step_append_fresh {P : Program} (w : World) {ops : Array Oper} {o : Oper} {a : Act} {K : Act → World → Prop} {Q : Exit → Act → World → Prop} {E : Prop} (hgd : o.guard = none) (s x : Operand) (t : TypeId)
    (ho : o.op = .call { callee := .builtin .append, args := #[s, x], argTypes := #[t, t] })
    (e : TypeId) (i : TypeInfo) (z : Value) (size bytes : Nat) (ht : P.underlying t = some (.slice e)) (hi : P.info? e = some i) (hz : i.zero = some z)
    (hsize : i.size = size) (hby : i.bytes = bytes) (hzs : z.cells.size = size) (hsz : 0 < size) (g : Nat) (hs : a.eval s = .slice (some ⟨g, 0, none⟩) 0 0) (hg : w.heap[g]? = some (.cells #[] e (0, 0)))
    (ad : Addr) (m c : Nat) (news : List Value) (hx : a.eval x = .slice (some ad) m c) (hl : news.length = m * size) (hnews : ∀ j u, news[j]? = some u → w.cell? (ad.add j) = some u) (h1 : ∀ u ∈ news, u.oneCell' = true)
    (hm : 0 < m) (h63 : m ≤ maxLen) (hbytes : m * bytes ≤ 140737488355328)
    (h : ∀ cap w', (∀ base, base ≤ w.heap.size → w'.ownsRow base e size (.slice (some ⟨w.heap.size, 0, none⟩) m cap) m news) → Below w.heap.size w w' → K (a.put o.dst (.slice (some ⟨w.heap.size, 0, none⟩) m cap)) w') :
    if Region.wanted o (yielded ops a.tmps) = true then Oper.wp P o a w K Q else E := by
  obtain ⟨cap, w', hr, h2, h3⟩ := run_append_fresh (P := P) w t o.type e i z size bytes ht hi hz hsize hby hzs hsz g hg ad m c news hl hnews h1 hm h63 hbytes
  rw [if_pos (by unfold Region.wanted; rw [hgd])]
  unfold Oper.wp execOp
  simp only [ho, resolve, invoke, builtin, Sem.run_bind, Sem.run_pure, Result.andThen_ok, List.map_toArray, List.map_cons, List.map_nil, hs, hx, hr]
  exact h cap w' h2 h3
def vcells9 (T : VT) : List Value := [.int .i64 T.kind, .int .u64 T.num, .string T.text, .slice T.ia T.len T.cap]
def rowL9 (K : Nat → VT) : Nat → List Value | 0 => [] | n + 1 => rowL9 K n ++ vcells9 (K n)
theorem rowL9_len (K : Nat → VT) : ∀ n, (rowL9 K n).length = n * 4
  | 0 => rfl
  | n + 1 => by rw [rowL9, List.length_append, rowL9_len K n]; simp [vcells9]; omega
theorem rowL9_get (K : Nat → VT) : ∀ n i r, i < n → r < 4 → (rowL9 K n)[i * 4 + r]? = (vcells9 (K i))[r]?
  | n + 1, i, r, hi, hr => by
    rw [rowL9]
    rcases Nat.lt_succ_iff_lt_or_eq.1 hi with h | rfl
    · rw [List.getElem?_append_left (by rw [rowL9_len]; omega)]; exact rowL9_get K n i r h hr
    · rw [List.getElem?_append_right (by rw [rowL9_len]; omega), rowL9_len, show i * 4 + r - i * 4 = r by omega]
theorem rowL9_one (K : Nat → VT) : ∀ n, ∀ u ∈ rowL9 K n, u.oneCell' = true
  | 0, u, h => by simp [rowL9] at h
  | n + 1, u, h => by
    rw [rowL9, List.mem_append] at h
    rcases h with h | h
    · exact rowL9_one K n u h
    · simp only [vcells9, List.mem_cons, List.not_mem_nil, or_false] at h
      rcases h with rfl | rfl | rfl | rfl <;> rfl
theorem news9_of {w : World} {S : Nat → Prop} {T : VT} (H : ValAt w S T) {a : Addr} (hia : T.ia = some a) : ∀ j u, (rowL9 T.kid T.len)[j]? = some u → w.cell? (a.add j) = some u := by
  intro j u hj
  have hl : j < T.len * 4 := by
    have := (List.getElem?_eq_some_iff.1 hj).1
    rwa [rowL9_len] at this
  have hi : j / 4 < T.len := by omega
  obtain ⟨⟨b, off, e, _, _, c0, c1, c2, c3⟩, _⟩ := ((valAt_iff T).1 H).2 (j / 4) hi
  rw [hia] at e
  obtain rfl := Option.some.inj e
  have hr : j % 4 < 4 := Nat.mod_lt _ (by decide)
  have hg := rowL9_get T.kid T.len (j / 4) (j % 4) hi hr
  rw [show j / 4 * 4 + j % 4 = j by omega, hj] at hg
  rw [add_plain]
  have hq : j % 4 = 0 ∨ j % 4 = 1 ∨ j % 4 = 2 ∨ j % 4 = 3 := by omega
  rcases hq with h | h | h | h <;> rw [h] at hg <;> simp [vcells9] at hg <;> subst hg
  · rw [show off + j = off + j / 4 * 4 by omega]; exact c0
  · rw [show off + j = off + j / 4 * 4 + 1 by omega]; exact c1
  · rw [show off + j = off + j / 4 * 4 + 2 by omega]; exact c2
  · rw [show off + j = off + j / 4 * 4 + 3 by omega]; exact c3
/-- what the operations of the second append have made, each as it comes up -/
def Ok17 (ws n : Nat) (xs four : List Value) (c : Nat → Value) (j : Nat) (y : Value) (w : World) : Prop :=
  match j with
  | 0 => ∃ g, y = .slice (some ⟨g, 0, none⟩) 0 0 ∧ w.heap[g]? = some (.cells #[] 28 (0, 0)) ∧ ws ≤ g
  | 3 => ∃ g cap, y = .slice (some ⟨g, 0, none⟩) n cap ∧ w.ownsRow ws 28 4 y n xs
  | 8 => ∃ g, y = .slice (some ⟨g, 0, none⟩) 1 1 ∧ w.heap[g]? = some (.cells four.toArray 28 (0, 0)) ∧ ws ≤ g
  | j => y = c j
theorem Ok17.keep {ws n : Nat} {xs four : List Value} {c : Nat → Value} {j : Nat} {y : Value} {w w1 : World} (h : Ok17 ws n xs four c j y w) (hb : Below w.heap.size w w1) : Ok17 ws n xs four c j y w1 := by
  unfold Ok17 at *
  split at h
  · obtain ⟨g, h1, h2, h3⟩ := h; exact ⟨g, h1, box_keep h2 hb, h3⟩
  · obtain ⟨g, cap, h1, h2⟩ := h; exact ⟨g, cap, h1, row_keep h2 hb⟩
  · obtain ⟨g, h1, h2, h3⟩ := h; exact ⟨g, h1, box_keep h2 hb, h3⟩
  · exact h
theorem fr_eq9 {a b : List Value} (h : a = b) : (⟨a.toArray, []⟩ : Act) = ⟨b.toArray, []⟩ := by rw [h]
theorem infoValue9 : (Tryz.prog.info? 28).map (fun i => (i.zero, i.size, i.bytes)) = some (some (.agg #[.int .i64 0, .int .u64 0, .string ⟨#[]⟩, .slice none 0 0]), 4, 56) := by kernel_rfl
end Go.Proofs.YtmnemddagcfjgaaGreatDoor
