/- What package key's Groups holds in memory while it runs: the groups so far, and the map. -/
import Derived.Test.YtinmdkhafamibaaKeyGrp
import Derived.Test.YtinmdkhafamibaaRegionDeep
import Derived.Maps.OwnSet
import Derived.Maps.Views
import Derived.Deep.AppendLies
import Derived.RegionTactic
namespace Go.Proofs.Ytinmdkhafamibaa
open Go.RowKit Go.Maps
set_option linter.unusedVariables false
/-- how an element of the map reads: the place of a group -/
def atE (v : Value) : Option (DataW Unit × List MemPlace) := match v with
  | .agg a => match a.toList with
    | [.int .i64 q] => some (.agg [.lit (.int .i64 q)], [])
    | _ => none
  | _ => none
theorem atE_mk (q : Int) : atE (.agg #[.int .i64 q]) = some (.agg [.lit (.int .i64 q)], []) := rfl
theorem atE_inv {v : Value} {q : Int} {ps : List MemPlace} (h : atE v = some (.agg [.lit (.int .i64 q)], ps)) : v = .agg #[.int .i64 q] := by
  unfold atE at h
  split at h
  · rename_i a
    split at h
    · rename_i x hx
      simp only [Option.some.injEq, Prod.mk.injEq, DataW.agg.injEq, List.cons.injEq, DataW.lit.injEq, Lit.int.injEq, and_true, true_and] at h
      obtain ⟨rfl, _⟩ := h
      congr 1
      exact Array.toList_inj.1 hx
    · cases h
  · cases h
theorem zeroGrp (w : World) : (zeroValue 56).run Try.prog w = .ok (.agg #[.int .i64 0]) w := by kernel_rfl
/-- what the map says: the place of each of the first keys F -/
structure MapSays (K : Nat → List UInt8) (F : List Nat) (D : DataW Unit) : Prop where
  has : ∀ x : List UInt8, x.length = 17 → Maps.has D (kl x) = F.any fun f => K f == x
  get : ∀ (q f : Nat), F[q]? = some f → ∀ z, D.atKey (kl (K f)) z = .agg [.lit (.int .i64 (q : Nat))]
  is : Maps.IsMap D
theorem MapSays.nil (K : Nat → List UInt8) : MapSays K [] (.map []) := ⟨fun x _ => rfl, fun q f h => (by cases h), ⟨[], rfl⟩⟩
set_option maxRecDepth 100000 in
theorem keyLit {x : List UInt8} (h : x.length = 17) : WideAt.IsKeyLit (kl x) := keyedK.key (keyOf_kl h)
set_option maxRecDepth 100000 in
theorem MapSays.put {K : Nat → List UInt8} {F : List Nat} {D : DataW Unit} {n : Nat} (h : MapSays K F D) (hK : (K n).length = 17) (hF : ∀ f ∈ F, (K f).length = 17) (hn : ∀ f ∈ F, K f ≠ K n) :
    MapSays K (F ++ [n]) (D.put (kl (K n)) (.agg [.lit (.int .i64 (F.length : Nat))])) := by
  refine ⟨fun x hx => ?_, fun q f hq z => ?_, h.is.put _ _⟩
  · by_cases c : x = K n
    · subst c
      rw [Maps.has_put_same h.is (keyLit hK), List.any_append]
      simp
    · rw [Maps.has_put_other (fun e => c (kl_inj hx hK e)), h.has x hx, List.any_append]
      have : (K n == x) = false := by simpa using fun e => c e.symm
      simp [this]
  · by_cases c : q < F.length
    · rw [List.getElem?_append_left c] at hq
      have hm : f ∈ F := List.mem_of_getElem? hq
      rw [Maps.atKey_put_other (fun e => hn f hm (kl_inj (hF f hm) hK e))]
      exact h.get q f hq z
    · rw [List.getElem?_append_right (by omega)] at hq
      have hq0 : q - F.length = 0 := by
        cases hx : q - F.length with
        | zero => rfl
        | succ m => rw [hx] at hq; cases hq
      rw [hq0] at hq
      simp at hq
      subst hq
      rw [Maps.atKey_put_same h.is (keyLit hK)]
      rw [show q = F.length by omega]
/-- the groups so far -/
def GS (K : Nat → List UInt8) (F : List Nat) (n : Nat) (w0 : World) (v : Value) (w : World) : Prop :=
  (∃ us : List Value, w.ownsRow w0.heap.size 27 1 v F.length us ∧ (∀ (p f : Nat), F[p]? = some f → ∃ u : Value, us[p]? = some u ∧ w.ownsRow w0.heap.size 3 1 u (memK K n f).length (ivs (memK K n f))) ∧
    (∀ (p q : Nat) (u u' : Value), p ≠ q → us[p]? = some u → us[q]? = some u' → u.ownBlock = none ∨ u.ownBlock ≠ u'.ownBlock)) ∧ Below w0.heap.size w0 w
def GM (K : Nat → List UInt8) (F : List Nat) (m : Nat) (w0 w : World) : Prop := ∃ D : DataW Unit, w.ownsMap Try.prog 31 atE w0.heap.size m D ∧ MapSays K F D
theorem map_keep {w w' : World} {b n : Nat} {D : DataW Unit} (h : w.ownsMap Try.prog 31 atE b n D) (hb : w'.heap[b]? = w.heap[b]?) : w'.ownsMap Try.prog 31 atE b n D := by
  obtain ⟨es, clock, h1, rest⟩ := h
  exact ⟨es, clock, hb.trans h1, rest⟩
theorem GM.keep {K : Nat → List UInt8} {F : List Nat} {m : Nat} {w0 w w' : World} (h : GM K F m w0 w) (hb : Below w.heap.size w w') : GM K F m w0 w' := by
  obtain ⟨D, h1, h2⟩ := h
  exact ⟨D, map_keep h1 (hb.block _ h1.lt), h2⟩
theorem GS.keep {K : Nat → List UInt8} {F : List Nat} {n : Nat} {w0 w w' : World} {v : Value} (h : GS K F n w0 v w) (hb : Below w.heap.size w w') : GS K F n w0 v w' := by
  obtain ⟨⟨us, hr, hi, ha⟩, hw⟩ := h
  refine ⟨⟨us, row_keep hr hb, fun p f hp => ?_, ha⟩, hw.trans (hb.mono hw.size)⟩
  obtain ⟨u, h1, h2⟩ := hi p f hp
  exact ⟨u, h1, row_keep h2 hb⟩
theorem GS.nil (K : Nat → List UInt8) (n : Nat) (w0 w : World) (hb : Below w0.heap.size w0 w) : GS K [] n w0 (.slice none 0 0) w :=
  ⟨⟨[], World.ownsRow_nil _ _ _ _, fun p f h => by (cases h), fun p q u u' _ h => by (cases h)⟩, hb⟩
/-- a group is told by its first key, whatever number of keys was looked at, if none of the others is of it -/
theorem GS.grps {K : Nat → List UInt8} {n : Nat} {w0 w : World} {v : Value} (h : GS K (fstK K n) n w0 v w) : GrpsAt w v (grpK K n) := by
  obtain ⟨⟨us, hr, hi, ha⟩, hw⟩ := h
  refine GRow.at (B := w0.heap.size) ⟨us, by rw [grpK, List.length_map]; exact hr, fun j l hj => ?_⟩
  rw [grpK, List.getElem?_map] at hj
  obtain ⟨f, hf, rfl⟩ := Option.map_eq_some_iff.1 hj
  exact hi j f hf
/-- a value into a row of the call's own -/
theorem store_row {w : World} {base g n cap : Nat} {e : TypeId} {xs : List Value} (h : w.ownsRow base e 1 (.slice (some ⟨g, 0, none⟩) n cap) n xs) (j : Nat) (x : Value) : (w.setCell ⟨g, j, none⟩ x).ownsRow base e 1 (.slice (some ⟨g, 0, none⟩) n cap) n (xs.set j x) := by
  obtain ⟨h1, h2⟩ := h
  refine ⟨by simpa using h1, ?_⟩
  rcases h2 with ⟨hv, _⟩ | ⟨g', cap', cur, hv, hb, hg, hnc, hcm, hcs, htk⟩
  · simp at hv
  · simp at hv
    obtain ⟨rfl, rfl⟩ := hv
    refine .inr ⟨g, cap, _, rfl, hb, set_at hg, hnc, hcm, by simpa using hcs, ?_⟩
    rw [Array.toList_setIfInBounds, List.take_set, htk]
theorem set_row {w : World} {base n : Nat} {e : TypeId} {v x : Value} {xs : List Value} {p : Addr} (h : w.ownsRow base e 1 v n xs) (hne : ∀ g, v.ownBlock = some g → g ≠ p.block) : (w.setCell p x).ownsRow base e 1 v n xs :=
  (Only.setCell (S := fun k => k = p.block) (Only.refl _ w) (.inl rfl) x).row h (fun k hk e => hne k hk e)
set_option maxHeartbeats 1000000 in
theorem GS.put {K : Nat → List UInt8} {F : List Nat} {n q f g cap : Nat} {w0 w1 w2 : World} {v u u' : Value} {us : List Value} (hv : v = .slice (some ⟨g, 0, none⟩) F.length cap)
    (hrow : w1.ownsRow w0.heap.size 27 1 v F.length us) (hin : ∀ (p f : Nat), F[p]? = some f → ∃ u : Value, us[p]? = some u ∧ w1.ownsRow w0.heap.size 3 1 u (memK K n f).length (ivs (memK K n f)))
    (hap : ∀ (p q : Nat) (u u' : Value), p ≠ q → us[p]? = some u → us[q]? = some u' → u.ownBlock = none ∨ u.ownBlock ≠ u'.ownBlock) (hb : Below w0.heap.size w0 w1)
    (hF : F[q]? = some f) (hu : us[q]? = some u) (hK : (K n == K f) = true) (hO : ∀ p f', p ≠ q → F[p]? = some f' → (K n == K f') = false)
    (hon : Only (fun k => u.ownBlock = some k) w1 w2) (hu' : w2.ownsRow w0.heap.size 3 1 u' ((memK K n f).length + 1) (ivs (memK K n f) ++ [.int .i64 (n : Nat)])) (hnew : ∀ k, u'.ownBlock = some k → u.ownBlock = some k ∨ w1.heap.size ≤ k) :
    GS K F (n + 1) w0 v (w2.setCell ⟨g, q, none⟩ u') := by
  subst hv
  obtain ⟨u1, hu1, hru⟩ := hin q f hF
  obtain rfl : u1 = u := by rw [hu] at hu1; exact (Option.some.inj hu1).symm
  have hlow : ∀ k, u1.ownBlock = some k → w0.heap.size ≤ k := fun k hk => (hru.lt k hk).1
  have hrow2 := hon.row hrow (fun k hk e => by
    rcases rows_apart hrow hru (by decide) with h | h
    · rw [h] at hk; cases hk
    · exact h (hk.trans e.symm))
  have hg : w0.heap.size ≤ g := (hrow.lt g rfl).1
  refine ⟨⟨us.set q u', store_row hrow2 q u', fun p f' hp => ?_, ?_⟩, ?_⟩
  · by_cases c : p = q
    · subst c
      rw [hF] at hp
      obtain rfl := Option.some.inj hp
      have hlt : p < us.length := by
        have := List.getElem?_eq_some_iff.1 hu
        exact this.1
      refine ⟨u', by simp [hlt], ?_⟩
      rw [memK_succ, hK, if_pos rfl, List.length_append, ← ivs_snoc]
      refine set_row hu' (fun k hk => ?_)
      rcases rows_apart hu' hrow2 (by decide) with h | h
      · rw [h] at hk; cases hk
      · rintro rfl; exact h (hk.trans rfl)
    · obtain ⟨x, h1, h2⟩ := hin p f' hp
      refine ⟨x, by rw [List.getElem?_set_ne (Ne.symm c)]; exact h1, ?_⟩
      rw [memK_succ, hO p f' c hp, if_neg (by decide), List.append_nil]
      have h3 := hon.row h2 (fun k hk e => by
        rcases hap p q x u1 c h1 hu with h | h
        · rw [h] at hk; cases hk
        · exact h (hk.trans e.symm))
      refine set_row h3 (fun k hk => ?_)
      rcases rows_apart h3 hrow2 (by decide) with h | h
      · rw [h] at hk; cases hk
      · rintro rfl; exact h (hk.trans rfl)
  · intro p p' x x' hne hx hx'
    have hlt : q < us.length := (List.getElem?_eq_some_iff.1 hu).1
    have key : ∀ (r : Nat) (y : Value), r ≠ q → us[r]? = some y → (y.ownBlock = none ∨ y.ownBlock ≠ u'.ownBlock) ∧ (u'.ownBlock = none ∨ u'.ownBlock ≠ y.ownBlock) := by
      intro r y hr hy
      have h1 : ∀ k, y.ownBlock = some k → u'.ownBlock = some k → False := by
        intro k hk hk'
        obtain ⟨fr, hfr⟩ : ∃ fr, F[r]? = some fr := by
          have hl : us.length = F.length := by have := hrow.1; simpa using this
          have := (List.getElem?_eq_some_iff.1 hy).1
          exact ⟨_, List.getElem?_eq_getElem (by omega)⟩
        obtain ⟨y2, hy2, hry⟩ := hin r fr hfr
        obtain rfl : y2 = y := by rw [hy] at hy2; exact (Option.some.inj hy2).symm
        rcases hnew k hk' with h | h
        · rcases hap r q y2 u1 hr hy hu with h5 | h5
          · rw [h5] at hk; cases hk
          · exact h5 (hk.trans h.symm)
        · have := (hry.lt k hk).2; omega
      constructor
      · cases hk : y.ownBlock with
        | none => exact .inl rfl
        | some k => exact .inr (fun e => h1 k hk e.symm)
      · cases hk : u'.ownBlock with
        | none => exact .inl rfl
        | some k => exact .inr (fun e => h1 k e.symm hk)
    by_cases c : p = q
    · subst c
      rw [List.getElem?_set_self hlt] at hx
      obtain rfl := Option.some.inj hx
      rw [List.getElem?_set_ne hne] at hx'
      exact (key p' x' (Ne.symm hne) hx').2
    · rw [List.getElem?_set_ne (Ne.symm c)] at hx
      by_cases c' : p' = q
      · subst c'
        rw [List.getElem?_set_self hlt] at hx'
        obtain rfl := Option.some.inj hx'
        exact (key p x c hx).1
      · rw [List.getElem?_set_ne (Ne.symm c')] at hx'
        exact hap p p' x x' hne hx hx'
  · exact (Only.below_step hb hon hlow (Nat.le_refl _)).setCell hg _
theorem fst_lt {K : Nat → List UInt8} {n f : Nat} (h : f ∈ fstK K n) : f < n := List.mem_range.1 (List.mem_filter.1 h).1
theorem fst_of {K : Nat → List UInt8} {n : Nat} : ∀ k, k < n → ∃ f, f ∈ fstK K n ∧ K f = K k := by
  intro k
  induction k using Nat.strongRecOn with
  | _ k ih =>
    intro hk
    cases hq : newK K k with
    | true => exact ⟨k, List.mem_filter.2 ⟨List.mem_range.2 hk, hq⟩, rfl⟩
    | false =>
      unfold newK at hq
      have h1 : ((List.range k).any fun j => K j == K k) = true := by simpa using hq
      obtain ⟨j, hj, he⟩ := List.any_eq_true.1 h1
      have hj' := List.mem_range.1 hj
      obtain ⟨f, hf, hff⟩ := ih j hj' (by omega)
      exact ⟨f, hf, hff.trans (by simpa using he)⟩
theorem fst_any (K : Nat → List UInt8) (n : Nat) : ((fstK K n).any fun f => K f == K n) = !newK K n := by
  rw [Bool.eq_iff_iff, List.any_eq_true]
  unfold newK
  rw [Bool.not_not, List.any_eq_true]
  constructor
  · rintro ⟨f, hf, he⟩
    exact ⟨f, List.mem_range.2 (fst_lt hf), he⟩
  · rintro ⟨k, hk, he⟩
    obtain ⟨f, hf, hff⟩ := fst_of k (List.mem_range.1 hk)
    exact ⟨f, hf, by rw [hff]; exact he⟩
theorem fst_old {K : Nat → List UInt8} {n : Nat} (h : newK K n = false) : ∃ q f : Nat, (fstK K n)[q]? = some f ∧ K f = K n := by
  have h1 := fst_any K n
  rw [h] at h1
  obtain ⟨f, hf, he⟩ := List.any_eq_true.1 h1
  obtain ⟨q, hq, hqf⟩ := List.getElem_of_mem hf
  exact ⟨q, f, by rw [List.getElem?_eq_getElem hq, hqf], by simpa using he⟩
theorem fst_new {K : Nat → List UInt8} {n : Nat} (h : newK K n = true) : ∀ f ∈ fstK K n, K f ≠ K n := fun f hf => by
  have := newK_any K n h f (fst_lt hf)
  simpa using this
theorem fst_apart {K : Nat → List UInt8} {n p q f f' : Nat} (hp : (fstK K n)[p]? = some f) (hq : (fstK K n)[q]? = some f') (hne : p ≠ q) : K f ≠ K f' := by
  have hs : (fstK K n).Pairwise (· < ·) := List.Pairwise.filter _ List.pairwise_lt_range
  have hw : ∀ {p q f f' : Nat}, (fstK K n)[p]? = some f → (fstK K n)[q]? = some f' → p < q → K f ≠ K f' := by
    intro p q f f' hp hq hlt
    obtain ⟨h1, rfl⟩ := List.getElem?_eq_some_iff.1 hp
    obtain ⟨h2, rfl⟩ := List.getElem?_eq_some_iff.1 hq
    have h3 := List.pairwise_iff_getElem.1 hs p q h1 h2 hlt
    have h4 : newK K ((fstK K n)[q]) = true := (List.mem_filter.1 (List.getElem_mem h2)).2
    have h5 := newK_any K _ h4 _ h3
    simpa using h5
  rcases Nat.lt_or_gt_of_ne hne with h | h
  · exact hw hp hq h
  · exact fun e => hw hq hp h e.symm
theorem memK_new {K : Nat → List UInt8} {n : Nat} (h : newK K n = true) : memK K n n = [] := by
  unfold memK
  rw [List.filter_eq_nil_iff]
  intro k hk
  rw [newK_any K n h k (List.mem_range.1 hk)]
  decide
theorem GS.add {K : Nat → List UInt8} {F : List Nat} {n : Nat} {w0 w1 w2 : World} {v v2 : Value} {us : List Value} (hrow : w1.ownsRow w0.heap.size 27 1 v F.length us) (hin : ∀ (p f : Nat), F[p]? = some f → ∃ u : Value, us[p]? = some u ∧ w1.ownsRow w0.heap.size 3 1 u (memK K n f).length (ivs (memK K n f)))
    (hap : ∀ (p q : Nat) (u u' : Value), p ≠ q → us[p]? = some u → us[q]? = some u' → u.ownBlock = none ∨ u.ownBlock ≠ u'.ownBlock) (hb : Below w0.heap.size w0 w1) (hm : memK K n n = [])
    (h' : w2.ownsRow w0.heap.size 27 1 v2 (F.length + 1) (us ++ [.slice none 0 0])) (hg : w1.grownBy w2 v.ownBlock) : GS K (F ++ [n]) n w0 v2 w2 := by
  have hus : us.length = F.length := by have := hrow.1; simpa using this
  have hlast : ∀ (p : Nat) (x : Value), (us ++ [Value.slice none 0 0])[p]? = some x → us[p]? = some x ∨ x.ownBlock = none := by
    intro p x hx
    by_cases c : p < us.length
    · rw [List.getElem?_append_left c] at hx; exact .inl hx
    · rw [List.getElem?_append_right (by omega)] at hx
      cases hq : p - us.length with
      | zero => rw [hq] at hx; simp at hx; subst hx; exact .inr rfl
      | succ m => rw [hq] at hx; cases hx
  refine ⟨⟨us ++ [.slice none 0 0], by rw [List.length_append]; exact h', fun p f hp => ?_, fun p q x x' hne hx hx' => ?_⟩, ?_⟩
  · by_cases c : p < F.length
    · rw [List.getElem?_append_left c] at hp
      obtain ⟨u1, h1, h2⟩ := hin p f hp
      exact ⟨u1, by rw [List.getElem?_append_left (by omega)]; exact h1, h2.kept hg (rows_apart h2 hrow (by decide))⟩
    · rw [List.getElem?_append_right (by omega)] at hp
      have hp0 : p - F.length = 0 := by
        cases hx : p - F.length with
        | zero => rfl
        | succ m => rw [hx] at hp; cases hp
      rw [hp0] at hp
      simp at hp
      subst hp
      refine ⟨.slice none 0 0, by rw [List.getElem?_append_right (by omega), hus, hp0]; rfl, ?_⟩
      rw [hm]
      exact World.ownsRow_nil _ _ _ _
  · rcases hlast p x hx with h1 | h1
    · rcases hlast q x' hx' with h2 | h2
      · exact hap p q x x' hne h1 h2
      · cases hk : x.ownBlock with
        | none => exact .inl rfl
        | some k => exact .inr (by rw [h2]; simp)
    · exact .inl h1
  · exact hb.grown hg hb.size (fun k hk => (hrow.lt k hk).1)
theorem wpList_lookup_grp {w : World} {ops : Array Oper} {rest : List Oper} {o : Oper} {a : Act} {Q : Exit → Act → World → Prop} (hg : o.guard = none) (m x : Operand) (hop : o.op = Op.lookup 54 m x true) (b n : Nat) (D : DataW Unit)
    (hm : a.eval m = .map (some b)) (hown : w.ownsMap Try.prog 31 atE b n D) (key : Value) (kx : Lit) (hx : a.eval x = key) (hkey : keyOf Try.prog 31 key = some kx) (q : Int) (ok : Bool) (hq : D.atKey kx (.agg [.lit (.int .i64 0)]) = .agg [.lit (.int .i64 q)]) (hok : Maps.has D kx = ok)
    (hK : wpList Try.prog ops Q rest (a.put o.dst (.tuple #[.agg #[.int .i64 q], .bool ok])) w) : wpList Try.prog ops Q (o :: rest) a w :=
  wpList_lookup_own_ok w hg m x _ hop 31 56 keyedK Try.underlying54 atE (zeroGrp _) (.agg [.lit (.int .i64 0)]) [] (atE_mk 0) b n D hm hown key kx hx hkey (fun v ps hv => by
    rw [hq] at hv
    obtain rfl := atE_inv hv
    rw [hok]
    exact hK)
theorem GM.more {K : Nat → List UInt8} {F : List Nat} {m : Nat} {w0 w : World} (h : GM K F m w0 w) : GM K F (m + 1) w0 w := by
  obtain ⟨D, h1, h2⟩ := h
  exact ⟨D, h1.mono (Nat.le_succ _), h2⟩
theorem row_block {w : World} {B n : Nat} {e : TypeId} {v : Value} {xs : List Value} {g : Nat} (h : w.ownsRow B e 1 v n xs) (hg : v.ownBlock = some g) : ∃ c fz, w.heap[g]? = some (.cells c e fz) := by
  rcases h.2 with ⟨rfl, _⟩ | ⟨g', cap, cur, rfl, _, hgg, _⟩
  · cases hg
  · have : g' = g := by simpa [Value.ownBlock] using hg
    subst this
    exact ⟨_, _, hgg⟩
/-- the map stands while a group grows -/
theorem GM.put {K : Nat → List UInt8} {F : List Nat} {m g q B C n k : Nat} {w0 w1 w2 : World} {u v x : Value} {xs ys : List Value} {e f : TypeId} (h : GM K F m w0 w1) (hru : w1.ownsRow B e 1 u n xs) (hrv : w1.ownsRow C f 1 v k ys) (hv : v.ownBlock = some g) (hon : Only (fun k => u.ownBlock = some k) w1 w2) : GM K F m w0 (w2.setCell ⟨g, q, none⟩ x) := by
  obtain ⟨D, h1, h2⟩ := h
  obtain ⟨es, clock, hb, _⟩ := h1
  have n1 : ¬ u.ownBlock = some w0.heap.size := fun e => by
    obtain ⟨c, fz, h5⟩ := row_block hru e
    rw [hb] at h5; cases h5
  have n2 : w0.heap.size ≠ g := fun e => by
    obtain ⟨c, fz, h5⟩ := row_block hrv hv
    rw [← e, hb] at h5; cases h5
  refine ⟨D, map_keep (w := w1) ⟨es, clock, hb, ‹_›⟩ ?_, h2⟩
  exact (set_other n2).trans (hon.block _ (lt_of_block hb) n1)
/-- the groups stand while the map grows -/
theorem GS.mapped {K : Nat → List UInt8} {F : List Nat} {n b k : Nat} {w0 w w' : World} {v : Value} {D : DataW Unit} (h : GS K F n w0 v w) (hm : w.ownsMap Try.prog 31 atE b k D) (hg : w.grownBy w' (some b)) (hb : w0.heap.size ≤ b) : GS K F n w0 v w' := by
  obtain ⟨⟨us, hr, hi, ha⟩, hw⟩ := h
  obtain ⟨es, clock, hbm, _⟩ := hm
  have hne : ∀ {e : TypeId} {u : Value} {m : Nat} {xs : List Value}, w.ownsRow w0.heap.size e 1 u m xs → u.ownBlock = none ∨ u.ownBlock ≠ some b := fun {e u m xs} hu => by
    cases hk : u.ownBlock with
    | none => exact .inl rfl
    | some k =>
      refine .inr fun e2 => ?_
      obtain ⟨c, fz, h5⟩ := row_block hu (hk.trans e2)
      rw [hbm] at h5; cases h5
  refine ⟨⟨us, hr.kept hg (hne hr), fun p f hp => ?_, ha⟩, hw.grown hg hw.size (fun k hk => by cases hk; exact hb)⟩
  obtain ⟨u, h1, h2⟩ := hi p f hp
  exact ⟨u, h1, h2.kept hg (hne h2)⟩
/-- the map stands while the row of groups grows -/
theorem GM.grown {K : Nat → List UInt8} {F : List Nat} {m B n : Nat} {w0 w w' : World} {v : Value} {e : TypeId} {xs : List Value} (h : GM K F m w0 w) (hr : w.ownsRow B e 1 v n xs) (hg : w.grownBy w' v.ownBlock) : GM K F m w0 w' := by
  obtain ⟨D, h1, h2⟩ := h
  have hlt := h1.lt
  have h1' := h1
  obtain ⟨es, clock, hb, _⟩ := h1'
  refine ⟨D, map_keep h1 (hg.block _ hlt (fun e2 => ?_)), h2⟩
  obtain ⟨c, fz, h5⟩ := row_block hr e2.symm
  rw [hb] at h5; cases h5
/-- a box of another type stands while a row grows -/
theorem box_grown {w w' : World} {B n c : Nat} {v : Value} {e t : TypeId} {xs : List Value} {cs : Array Value} (h : w.heap[c]? = some (.cells cs t (0, 0))) (hr : w.ownsRow B e 1 v n xs) (hg : w.grownBy w' v.ownBlock) (hne : t ≠ e) : w'.heap[c]? = some (.cells cs t (0, 0)) := by
  refine (hg.block c (lt_of_block h) (fun e2 => ?_)).trans h
  rcases hr.2 with ⟨rfl, _⟩ | ⟨g', cap, cur, rfl, _, hgg, _⟩
  · cases e2
  · have : c = g' := by simpa [Value.ownBlock] using e2
    subst this
    rw [h] at hgg
    injection hgg with h3
    injection h3 with _ h4
    exact hne h4
/-- what the region that lengthens a group has at hand -/
def OkG (u : Value) (B n : Nat) (l : List Nat) (ws : Nat) (c : Nat → Value) (j : Nat) (y : Value) (w : World) : Prop :=
  if j = 9 then ∃ p, y = .slice (some ⟨p, 0, none⟩) 1 1 ∧ w.heap[p]? = some (.cells #[.int .i64 (n : Nat)] 3 (0, 0)) ∧ ws ≤ p
  else if j = 10 then w.ownsRow B 3 1 y (l.length + 1) (ivs l ++ [.int .i64 (n : Nat)]) ∧ ∃ g cap, y = .slice (some ⟨g, 0, none⟩) (l.length + 1) cap ∧ (u.ownBlock = some g ∨ ws ≤ g)
  else y = c j
theorem OkG.alloc {u : Value} {B n : Nat} {l : List Nat} {ws : Nat} {c : Nat → Value} {j : Nat} {y : Value} {w : World} (h : OkG u B n l ws c j y w) (o : Obj) : OkG u B n l ws c j y (w.alloc o) := by
  unfold OkG at *
  split
  · rename_i e; rw [if_pos e] at h; obtain ⟨p, h1, h2, h3⟩ := h; exact ⟨p, h1, alloc_old h2, h3⟩
  · rename_i e
    rw [if_neg e] at h
    split
    · rename_i e2; rw [if_pos e2] at h; exact ⟨h.1.alloc _, h.2⟩
    · rename_i e2; rw [if_neg e2] at h; exact h
theorem OkG.grow {u : Value} {B n : Nat} {l : List Nat} {ws : Nat} {c : Nat → Value} {j : Nat} {y : Value} {w w' : World} (h : OkG u B n l ws c j y w) (hj : j ≠ 10) (hg : w.grownBy w' u.ownBlock) (hu : ∀ g, u.ownBlock = some g → g < ws) : OkG u B n l ws c j y w' := by
  unfold OkG at *
  split
  · rename_i e; rw [if_pos e] at h; obtain ⟨p, h1, h2, h3⟩ := h
    exact ⟨p, h1, (hg.block p (lt_of_block h2) (fun e2 => by have := hu p e2.symm; omega)).trans h2, h3⟩
  · rename_i e
    rw [if_neg e] at h
    rw [if_neg hj] at h
    exact h
theorem row_free {w : World} {B g n m cap : Nat} {e : TypeId} {xs : List Value} (h : w.ownsRow B e 1 (.slice (some ⟨g, 0, none⟩) m cap) n xs) (j : Nat) : w.frozen? ⟨g, j, none⟩ = false := by
  rcases h.2 with ⟨hv, _⟩ | ⟨g', cap', cur, hv, _, hg, _⟩
  · simp at hv
  · simp at hv
    obtain ⟨rfl, _⟩ := hv
    exact free_at hg
theorem fr_eqG {a b : List Value} (h : a = b) : (⟨a.toArray, []⟩ : Act) = ⟨b.toArray, []⟩ := by rw [h]
end Go.Proofs.Ytinmdkhafamibaa
