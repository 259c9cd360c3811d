/- A region that draws its order of evaluation, within a round: by the law of regions outside of one. General: no dump is imported. -/
import Derived.OrdersIn
import Derived.RangeFuncCalls
import Derived.Test.YtcojomkpogikiaaGreatDoorA11
import Derived.Test.YtcojomkpogikiaaGreatDoorA20
namespace Go.Proofs.YtcojomkpogikiaaGreatDoor
open Go Go.RowKit
set_option linter.unusedVariables false
section
variable {P : Program} {ops : Array Oper} {Q : Exit → Act → World → Prop}
theorem wpAny_pre {w : World} (ds : List Deferred) (N m : Nat) (frame : (Nat → Value) → Array Value) (v0 : Nat → Value) (Ok : Nat → Value → World → Prop) (B Pre : World → Prop)
    (hN : N ≤ ops.size) (hpre : preB ops N = true) (hB0 : B w.drew) (hP0 : Pre w.drew)
    (hop : ∀ j, j < N → ∀ (v : Nat → Value) (w1 : World), B w1 → (j = m → Pre w1) → (∀ k, k ∈ depsOf ops j → Ok k (v k) w1) →
      wpOp P ops Q j (fun a' w' => ∃ x, a' = ⟨frame (upd v j x), ds⟩ ∧ Ok j x w' ∧ B w' ∧ (j ≠ m → Pre w1 → Pre w') ∧ ∀ k y, k ≠ j → Ok k y w1 → Ok k y w') ⟨frame v, ds⟩ w1)
    (hend : ∀ v w', (∀ j, j < N → Ok j (v j) w') → B w' → wpAny P .any ops Q (ops.size - N) (listN N ops.size) ⟨frame v, ds⟩ w') :
    wpAny P .any ops Q ops.size (Array.replicate ops.size false) ⟨frame v0, ds⟩ w.drew := by
  have hpre2 : ∀ j, j < ops.size → if j < N then ∀ k ∈ depsOf ops j, k < j else (∃ m, m ∈ depsOf ops j ∧ N ≤ m) ∨ ∀ k, k < N → k ∈ more ops N (more ops N (more ops N (more ops N (depsOf ops j)))) := by
    intro j hj
    have h := List.all_eq_true.1 hpre j (List.mem_range.2 hj)
    split
    · rename_i hc
      rw [if_pos hc] at h
      intro k hk
      simpa using List.all_eq_true.1 h k hk
    · rename_i hc
      rw [if_neg hc, Bool.or_eq_true] at h
      rcases h with h | h
      · obtain ⟨m, hm, hmN⟩ := List.any_eq_true.1 h
        exact .inl ⟨m, hm, by simpa using hmN⟩
      · exact .inr fun k hk => by simpa using List.all_eq_true.1 h k (List.mem_range.2 hk)
  have hdeps : ∀ {j : Nat} {o : Oper} {l : Array Bool}, ops[j]? = some o → (∀ e ∈ o.after, Region.binds .any e = true → l.getD e.on false = true) → ∀ k ∈ depsOf ops j, l.getD k false = true := by
    intro j o l ho h k hk
    unfold depsOf at hk
    rw [ho] at hk
    simp only [Option.map_some, Option.getD_some, List.mem_map, List.mem_filter] at hk
    obtain ⟨e, ⟨he, hb⟩, rfl⟩ := hk
    exact h e (Array.mem_toList_iff.1 he) hb
  have hconv : ∀ {j : Nat} {l : Array Bool}, j < ops.size → (∀ k ∈ depsOf ops j, l.getD k false = true) → ∃ o, ops[j]? = some o ∧ ∀ e ∈ o.after, Region.binds .any e = true → l.getD e.on false = true := by
    intro j l hj h
    refine ⟨ops[j], Array.getElem?_eq_getElem hj, fun e he hb => h _ ?_⟩
    unfold depsOf
    rw [Array.getElem?_eq_getElem hj]
    simp only [Option.map_some, Option.getD_some, List.mem_map, List.mem_filter]
    exact ⟨e, ⟨Array.mem_toList_iff.2 he, hb⟩, rfl⟩
  have hdt : ∀ {l : Array Bool} {j : Nat}, l.size = ops.size → j < ops.size → (l.getD j true = l.getD j false) := by
    intro l j hl hj
    have : j < l.size := by omega
    simp [Array.getD, this]
  refine wpAny_inv
    (I := fun l a w' => l.size = ops.size ∧ (∀ j, j < N → l.getD j false = true → ∀ k ∈ depsOf ops j, l.getD k false = true) ∧ (∀ j, N ≤ j → j < ops.size → l.getD j false = false) ∧ ∃ v, a = ⟨frame v, ds⟩ ∧ (∀ j, j < N → l.getD j false = true → Ok j (v j) w') ∧
      B w' ∧ (l.getD m false = false → Pre w'))
    (D := fun l => ∀ j, j < N → l.getD j false = true) ?_ ?_ ops.size _ _ _ ?_ ?_
  · rintro l a w1 ⟨hl, hcl, hlo, v, rfl, hv, hb1, hP1⟩ hD
    constructor
    · -- the least that has not come up
      have hex : ∃ j, j < N ∧ l.getD j false = false := by
        apply Classical.byContradiction
        intro hno
        refine hD fun j hj => ?_
        cases hc : l.getD j false with
        | true => rfl
        | false => exact absurd ⟨j, hj, hc⟩ hno
      have hleast : ∀ n, (∃ j, j < n ∧ j < N ∧ l.getD j false = false) → ∃ j, j < N ∧ l.getD j false = false ∧ ∀ k, k < j → l.getD k false = true := by
        intro n
        induction n with
        | zero => rintro ⟨j, h, _⟩; omega
        | succ n ih =>
          rintro ⟨j, h, hjN, hj⟩
          by_cases c : ∃ k, k < n ∧ k < N ∧ l.getD k false = false
          · exact ih c
          · refine ⟨j, hjN, hj, fun k hk => ?_⟩
            cases hc : l.getD k false with
            | true => rfl
            | false => exact absurd ⟨k, by omega, by omega, hc⟩ c
      obtain ⟨j, hjN, hj⟩ := hex
      obtain ⟨j, hjN, hj, hall⟩ := hleast (j + 1) ⟨j, by omega, hjN, hj⟩
      have hjs : j < ops.size := by omega
      refine ⟨j, mem_ready.2 ⟨by rw [hdt hl hjs]; exact hj, hconv hjs fun k hk => ?_⟩⟩
      have h2 := hpre2 j hjs
      rw [if_pos hjN] at h2
      exact hall k (h2 k hk)
    · intro i hi
      obtain ⟨hun, o, ho, haft⟩ := mem_ready.1 hi
      have his : i < ops.size := (Array.getElem?_eq_some_iff.1 ho).1
      have hdp := hdeps ho haft
      have h2 := hpre2 i his
      have hun2 : l.getD i false = false := by rw [← hdt hl his]; exact hun
      by_cases hiN : i < N
      · rw [if_pos hiN] at h2
        refine wpOp_mono ?_ (hop i hiN v w1 hb1 (fun e => hP1 (by rw [← e]; exact hun2)) (fun k hk => hv k (by have := h2 k hk; omega) (hdp k hk)))
        rintro a' w' ⟨x, rfl, hx, hb2, hp2, hkeep⟩
        have hsame : ∀ j, j ≠ i → (l.setIfInBounds i true).getD j false = l.getD j false := fun j hj => by
          simp [Array.getD_eq_getD_getElem?, Ne.symm hj]
        have hself : (l.setIfInBounds i true).getD i false = true := by
          have : i < l.size := by omega
          simp [Array.getD, this]
        have hmono : ∀ k, l.getD k false = true → (l.setIfInBounds i true).getD k false = true := fun k hk => by
          by_cases e : k = i
          · subst e; exact hself
          · rw [hsame k e]; exact hk
        have hcl2 : ∀ j, j < N → (l.setIfInBounds i true).getD j false = true → ∀ k ∈ depsOf ops j, (l.setIfInBounds i true).getD k false = true := fun j hj hlj k hk => by
          by_cases e : j = i
          · subst e; exact hmono k (hdp k hk)
          · rw [hsame j e] at hlj; exact hmono k (hcl j hj hlj k hk)
        refine ⟨by simp [hl], hcl2, fun j hj hjs => by rw [hsame j (by omega)]; exact hlo j hj hjs, upd v i x, rfl, ?_, hb2, ?_⟩
        · intro j hj hlj
          by_cases e : j = i
          · subst e
            show Ok j (if j = j then x else v j) w'
            rw [if_pos rfl]
            exact hx
          · rw [hsame j e] at hlj
            show Ok j (if j = i then x else v j) w'
            rw [if_neg e]
            exact hkeep j _ e (hv j hj hlj)
        · intro hmf
          by_cases e : m = i
          · subst e
            rw [hself] at hmf; cases hmf
          · rw [hsame m e] at hmf
            exact hp2 (Ne.symm e) (hP1 hmf)
      · exfalso
        rw [if_neg hiN] at h2
        rcases h2 with ⟨k, hk, hkN⟩ | hall
        · have h3 := hdp k hk
          have hks : k < ops.size := by
            by_cases c : k < l.size
            · omega
            · simp [Array.getD, c] at h3
          rw [hlo k hkN hks] at h3; cases h3
        · refine hD fun k hk => ?_
          have h4 := fun c h => more_in (ops := ops) (N := N) (c := c) (L := fun k => l.getD k false = true) h (fun j hj hlj k hk => hcl j hj hlj k hk)
          exact h4 _ (h4 _ (h4 _ (h4 _ hdp))) k (hall k hk)
  · rintro l a w' ⟨hl, hcl, hlo, v, rfl, hv, hb1, _⟩ hD
    have e : l = listN N ops.size := listN_of hl hN hD hlo
    subst e
    rw [restN_listN]
    exact hend v w' (fun j hj => hv j hj (hD j hj)) hb1
  · unfold restN restL; simp
  · refine ⟨by simp, fun j hj hlj => ?_, fun j hj hjs => by simp [Array.getD, hjs], v0, rfl, fun j hj hlj => ?_, hB0, fun _ => hP0⟩
    · exfalso
      by_cases c : j < ops.size <;> simp [Array.getD, c] at hlj
    · exfalso
      by_cases c : j < ops.size <;> simp [Array.getD, c] at hlj
/-- what an operation does outside of a round it does within -/
theorem wp_lift {o : Oper} {a : Act} {w : World} {K : Act → World → Prop} {l n : Nat} (hd : ∀ c, o.op ≠ .defer c) (h : o.wp P a w K Q) : o.wpIn (Fence.wide.inRound l) n P a w K Q := by
  unfold Oper.wp at h
  unfold Oper.wpIn
  refine ⟨fun _ _ => trivial, ?_⟩
  rw [Oper.semAt_plain _ _ _ hd]
  generalize (execOp a.eval o).run P w = r at *
  cases r with
  | ok x w' =>
    cases x <;> simp only [Oper.upon, Oper.uponIn] at h ⊢
    case value => exact h
    case skip => exact h
    case defer => exact h
    case enter => exact ⟨fun h => (by cases h), CallsIn.inRound l (callsIn_wide.2 h)⟩
    case row =>
      refine ⟨fun h => (by cases h), fun c cs _ => ?_⟩
      obtain ⟨v, w'', r, s⟩ := h c cs
      exact ⟨v, w'', r, stepsIn_wide.2 s⟩
  | halt x w' => cases x <;> simp only [Oper.upon, Oper.uponIn] at h ⊢ <;> exact h
theorem wpOp_lift {i : Nat} {a : Act} {w : World} {K K' : Act → World → Prop} {l n : Nat} (hd : ∀ o, ops[i]? = some o → ∀ c, o.op ≠ .defer c) (hQ : ¬ LetsOut Q) (hK : ∀ a w, K a w → K' a w) (h : wpOp P ops Q i K a w) : wpOpIn (Fence.wide.inRound l) n P ops Q i K' a w := by
  unfold wpOp at h
  unfold wpOpIn
  cases ho : ops[i]? with
  | none => rw [ho] at h; exact hK _ _ h
  | some o =>
    rw [ho] at h
    simp only at h ⊢
    by_cases hw : Region.wanted o (yielded ops a.tmps) = true
    · rw [if_pos hw] at h ⊢
      rcases h with h | ⟨_, h⟩
      · exact Oper.wpIn_mono hK (wp_lift (hd o ho) h)
      · exact absurd h hQ
    · rw [if_neg hw] at h ⊢
      exact ⟨fun _ _ => trivial, hK _ _ h⟩
theorem wpAny_lift {md : Region.Mode} {l n : Nat} (hd : ∀ (i : Nat) (o : Oper), ops[i]? = some o → ∀ c, o.op ≠ .defer c) (hQ : ¬ LetsOut Q) : ∀ (fuel : Nat) (ls : Array Bool) (a : Act) (w : World), wpAny P md ops Q fuel ls a w → wpAnyIn (Fence.wide.inRound l) n P md ops Q fuel ls a w
  | 0, _, _, _, h => h
  | fuel + 1, ls, a, w, h => ⟨h.1, fun i hi => wpOp_lift (hd i) hQ (wpAny_lift hd hQ fuel _) (h.2 i hi)⟩
/-- no operation defers -/
def noDefer (ops : Array Oper) : Bool := ops.toList.all fun o => match o.op with | .defer _ => false | _ => true
theorem noDefer_spec (h : noDefer ops = true) : ∀ (i : Nat) (o : Oper), ops[i]? = some o → ∀ c, o.op ≠ .defer c := by
  intro i o ho c e
  have h1 := List.all_eq_true.1 h o (Array.mem_toList_iff.2 (Array.mem_of_getElem? ho))
  rw [e] at h1
  cases h1
/-- a region that draws, in a function that has gone through a range over a function: its activation bears a mark -/
theorem wp_region_preD {id : Nat} {w : World} (hm : P.follows .mixedOrders = true) (ds : List Deferred) (N m : Nat) (frame : (Nat → Value) → Array Value) (v0 : Nat → Value) (Ok : Nat → Value → World → Prop) (B Pre : World → Prop)
    (hN : N ≤ ops.size) (hpre : preB ops N = true) (hB0 : B w.drew) (hP0 : Pre w.drew)
    (hop : ∀ j, j < N → ∀ (v : Nat → Value) (w1 : World), B w1 → (j = m → Pre w1) → (∀ k, k ∈ depsOf ops j → Ok k (v k) w1) →
      wpOp P ops Q j (fun a' w' => ∃ x, a' = ⟨frame (upd v j x), ds⟩ ∧ Ok j x w' ∧ B w' ∧ (j ≠ m → Pre w1 → Pre w') ∧ ∀ k y, k ≠ j → Ok k y w1 → Ok k y w') ⟨frame v, ds⟩ w1)
    (hend : ∀ v w', (∀ j, j < N → Ok j (v j) w') → B w' → wpAny P .any ops Q (ops.size - N) (listN N ops.size) ⟨frame v, ds⟩ w') :
    (Code.region id ops true).wp P Q ⟨frame v0, ds⟩ w :=
  wp_region_any hm (wpAny_pre ds N m frame v0 Ok B Pre hN hpre hB0 hP0 hop hend)
theorem wpIn_region_pre {l n id : Nat} {w : World} (hm : P.follows .mixedOrders = true) (hd : noDefer ops = true) (hQ : ¬ LetsOut Q) (N m : Nat) (frame : (Nat → Value) → Array Value) (v0 : Nat → Value) (Ok : Nat → Value → World → Prop) (B Pre : World → Prop)
    (hN : N ≤ ops.size) (hpre : preB ops N = true) (hB0 : B w.drew) (hP0 : Pre w.drew)
    (hop : ∀ j, j < N → ∀ (v : Nat → Value) (w1 : World), B w1 → (j = m → Pre w1) → (∀ k, k ∈ depsOf ops j → Ok k (v k) w1) →
      wpOp P ops Q j (fun a' w' => ∃ x, a' = ⟨frame (upd v j x), []⟩ ∧ Ok j x w' ∧ B w' ∧ (j ≠ m → Pre w1 → Pre w') ∧ ∀ k y, k ≠ j → Ok k y w1 → Ok k y w') ⟨frame v, []⟩ w1)
    (hend : ∀ v w', (∀ j, j < N → Ok j (v j) w') → B w' → wpAny P .any ops Q (ops.size - N) (listN N ops.size) ⟨frame v, []⟩ w') :
    (Code.region id ops true).wpIn (Fence.wide.inRound l) n P Q ⟨frame v0, []⟩ w :=
  wpIn_region_any hm (wpAny_lift (noDefer_spec hd) hQ _ _ _ _ (wpAny_pre [] N m frame v0 Ok B Pre hN hpre hB0 hP0 hop hend))
/-- each waits for earlier ones alone -/
def allB (ops : Array Oper) : Bool := (List.range ops.size).all fun j => (depsOf ops j).all fun k => decide (k < j)
def updB (dn : Nat → Bool) (j : Nat) : Nat → Bool := fun k => if k = j then true else dn k
theorem wpAny_all {w : World} (frame : (Nat → Value) → Array Value) (v0 : Nat → Value) (Inv : (Nat → Bool) → (Nat → Value) → World → Prop)
    (hpre : allB ops = true) (h0 : Inv (fun _ => false) v0 w.drew)
    (hop : ∀ j, j < ops.size → ∀ (dn : Nat → Bool) (v : Nat → Value) (w1 : World), Inv dn v w1 → dn j = false → (∀ k, k < ops.size → dn k = true → ∀ i ∈ depsOf ops k, dn i = true) → (∀ k ∈ depsOf ops j, dn k = true) →
      wpOp P ops Q j (fun a' w' => ∃ x, a' = ⟨frame (upd v j x), []⟩ ∧ Inv (updB dn j) (upd v j x) w') ⟨frame v, []⟩ w1)
    (hend : ∀ dn v w', (∀ j, j < ops.size → dn j = true) → Inv dn v w' → wpAny P .any ops Q 0 (listN ops.size ops.size) ⟨frame v, []⟩ w') :
    wpAny P .any ops Q ops.size (Array.replicate ops.size false) ⟨frame v0, []⟩ w.drew := by
  have hpre2 : ∀ j, j < ops.size → ∀ k ∈ depsOf ops j, k < j := by
    intro j hj k hk
    have h := List.all_eq_true.1 hpre j (List.mem_range.2 hj)
    simpa using List.all_eq_true.1 h k hk
  have hdeps : ∀ {j : Nat} {o : Oper} {l : Array Bool}, ops[j]? = some o → (∀ e ∈ o.after, Region.binds .any e = true → l.getD e.on false = true) → ∀ k ∈ depsOf ops j, l.getD k false = true := by
    intro j o l ho h k hk
    unfold depsOf at hk
    rw [ho] at hk
    simp only [Option.map_some, Option.getD_some, List.mem_map, List.mem_filter] at hk
    obtain ⟨e, ⟨he, hb⟩, rfl⟩ := hk
    exact h e (Array.mem_toList_iff.1 he) hb
  have hconv : ∀ {j : Nat} {l : Array Bool}, j < ops.size → (∀ k ∈ depsOf ops j, l.getD k false = true) → ∃ o, ops[j]? = some o ∧ ∀ e ∈ o.after, Region.binds .any e = true → l.getD e.on false = true := by
    intro j l hj h
    refine ⟨ops[j], Array.getElem?_eq_getElem hj, fun e he hb => h _ ?_⟩
    unfold depsOf
    rw [Array.getElem?_eq_getElem hj]
    simp only [Option.map_some, Option.getD_some, List.mem_map, List.mem_filter]
    exact ⟨e, ⟨Array.mem_toList_iff.2 he, hb⟩, rfl⟩
  have hdt : ∀ {l : Array Bool} {j : Nat}, l.size = ops.size → j < ops.size → (l.getD j true = l.getD j false) := by
    intro l j hl hj
    have : j < l.size := by omega
    simp [Array.getD, this]
  refine wpAny_inv
    (I := fun l a w' => l.size = ops.size ∧ (∀ j, j < ops.size → l.getD j false = true → ∀ k ∈ depsOf ops j, l.getD k false = true) ∧ ∃ v, a = ⟨frame v, []⟩ ∧ Inv (fun k => l.getD k false) v w')
    (D := fun l => ∀ j, j < ops.size → l.getD j false = true) ?_ ?_ ops.size _ _ _ ?_ ?_
  · rintro l a w1 ⟨hl, hcl, v, rfl, hI⟩ hD
    constructor
    · have hex : ∃ j, j < ops.size ∧ l.getD j false = false := by
        apply Classical.byContradiction
        intro hno
        refine hD fun j hj => ?_
        cases hc : l.getD j false with
        | true => rfl
        | false => exact absurd ⟨j, hj, hc⟩ hno
      have hleast : ∀ n, (∃ j, j < n ∧ j < ops.size ∧ l.getD j false = false) → ∃ j, j < ops.size ∧ l.getD j false = false ∧ ∀ k, k < j → l.getD k false = true := by
        intro n
        induction n with
        | zero => rintro ⟨j, h, _⟩; omega
        | succ n ih =>
          rintro ⟨j, h, hjN, hj⟩
          by_cases c : ∃ k, k < n ∧ k < ops.size ∧ l.getD k false = false
          · exact ih c
          · refine ⟨j, hjN, hj, fun k hk => ?_⟩
            cases hc : l.getD k false with
            | true => rfl
            | false => exact absurd ⟨k, by omega, by omega, hc⟩ c
      obtain ⟨j, hjN, hj⟩ := hex
      obtain ⟨j, hjs, hj, hall⟩ := hleast (j + 1) ⟨j, by omega, hjN, hj⟩
      exact ⟨j, mem_ready.2 ⟨by rw [hdt hl hjs]; exact hj, hconv hjs fun k hk => hall k (hpre2 j hjs k hk)⟩⟩
    · intro i hi
      obtain ⟨hun, o, ho, haft⟩ := mem_ready.1 hi
      have his : i < ops.size := (Array.getElem?_eq_some_iff.1 ho).1
      have hdp := hdeps ho haft
      have hun2 : l.getD i false = false := by rw [← hdt hl his]; exact hun
      refine wpOp_mono ?_ (hop i his _ v w1 hI hun2 hcl hdp)
      rintro a' w' ⟨x, rfl, hx⟩
      have hsame : ∀ j, j ≠ i → (l.setIfInBounds i true).getD j false = l.getD j false := fun j hj => by
        simp [Array.getD_eq_getD_getElem?, Ne.symm hj]
      have hself : (l.setIfInBounds i true).getD i false = true := by
        have : i < l.size := by omega
        simp [Array.getD, this]
      have hmono : ∀ k, l.getD k false = true → (l.setIfInBounds i true).getD k false = true := fun k hk => by
        by_cases e : k = i
        · subst e; exact hself
        · rw [hsame k e]; exact hk
      refine ⟨by simp [hl], fun j hj hlj k hk => ?_, upd v i x, rfl, ?_⟩
      · by_cases e : j = i
        · subst e; exact hmono k (hdp k hk)
        · rw [hsame j e] at hlj; exact hmono k (hcl j hj hlj k hk)
      · have e : updB (fun k => l.getD k false) i = fun k => (l.setIfInBounds i true).getD k false := by
          funext k
          unfold updB
          by_cases e : k = i
          · subst e; rw [if_pos rfl, hself]
          · rw [if_neg e, hsame k e]
        rw [← e]
        exact hx
  · rintro l a w' ⟨hl, hcl, v, rfl, hI⟩ hD
    have e : l = listN ops.size ops.size := listN_of hl (Nat.le_refl _) hD (fun j h1 h2 => by omega)
    subst e
    rw [restN_listN, Nat.sub_self]
    exact hend _ v w' hD hI
  · unfold restN restL; simp
  · refine ⟨by simp, fun j hj hlj => ?_, v0, rfl, ?_⟩
    · exfalso
      by_cases c : j < ops.size <;> simp [Array.getD, c] at hlj
    · have e : (fun k => (Array.replicate ops.size false).getD k false) = fun _ => false := by
        funext k
        by_cases c : k < ops.size <;> simp [Array.getD, c]
      rw [e]
      exact h0
theorem wpIn_region_inv {l n id : Nat} {w : World} (hm : P.follows .mixedOrders = true) (hd : noDefer ops = true) (hQ : ¬ LetsOut Q) (frame : (Nat → Value) → Array Value) (v0 : Nat → Value) (Inv : (Nat → Bool) → (Nat → Value) → World → Prop)
    (hpre : allB ops = true) (hrd : Region.ready .any ops (listN ops.size ops.size) = []) (h0 : Inv (fun _ => false) v0 w.drew)
    (hop : ∀ j, j < ops.size → ∀ (dn : Nat → Bool) (v : Nat → Value) (w1 : World), Inv dn v w1 → dn j = false → (∀ k, k < ops.size → dn k = true → ∀ i ∈ depsOf ops k, dn i = true) → (∀ k ∈ depsOf ops j, dn k = true) →
      wpOp P ops Q j (fun a' w' => ∃ x, a' = ⟨frame (upd v j x), []⟩ ∧ Inv (updB dn j) (upd v j x) w') ⟨frame v, []⟩ w1)
    (hend : ∀ v w', Inv (fun _ => true) v w' → Q .normal ⟨frame v, []⟩ w') (hInv : ∀ dn v w', (∀ j, j < ops.size → dn j = true) → Inv dn v w' → Inv (fun _ => true) v w') :
    (Code.region id ops true).wpIn (Fence.wide.inRound l) n P Q ⟨frame v0, []⟩ w :=
  wpIn_region_any hm (wpAny_lift (noDefer_spec hd) hQ _ _ _ _ (wpAny_all frame v0 Inv hpre h0 hop (fun dn v w' h1 h2 => ⟨hrd, hend v w' (hInv dn v w' h1 h2)⟩)))
/-- a region of eleven operations: a call, whose answer is laid in a box: operation 8 makes the box, operation 9 fills it -/
structure RcInv (W : World) (c : Nat → Value) (t : TypeId) (zs ns : Array Value) (dn : Nat → Bool) (v : Nat → Value) (w : World) : Prop where
  below : Below W.heap.size W w
  told : ∀ j, j < 11 → dn j = true → j ≠ 8 → j ≠ 9 → v j = c j
  box : dn 8 = true → ∃ p, v 8 = .pointer (some ⟨p, 0, none⟩) ∧ W.heap.size ≤ p ∧ w.heap[p]? = some (.cells (if dn 9 = true then ns else zs) t (0, 0))
variable {W : World} {c : Nat → Value} {t : TypeId} {zs ns : Array Value} {dn : Nat → Bool} {v : Nat → Value} {w w' : World}
theorem RcInv.start (hb : Below W.heap.size W w) : RcInv W c t zs ns (fun _ => false) v w := ⟨hb, (fun _ _ h => (by cases h)), (fun h => (by cases h))⟩
theorem RcInv.step (h : RcInv W c t zs ns dn v w) {j : Nat} (h8 : j ≠ 8) (h9 : j ≠ 9) {x : Value} (hx : x = c j) (hb : Below w.heap.size w w') : RcInv W c t zs ns (updB dn j) (upd v j x) w' := by
  refine ⟨h.below.trans (hb.mono h.below.size), fun k kl hk k8 k9 => ?_, fun hk => ?_⟩
  · unfold upd
    by_cases e : k = j
    · rw [if_pos e, hx, e]
    · rw [if_neg e]
      refine h.told k kl ?_ k8 k9
      unfold updB at hk
      rwa [if_neg e] at hk
  · unfold updB at hk
    rw [if_neg (Ne.symm h8)] at hk
    obtain ⟨p, e, hp, hc⟩ := h.box hk
    refine ⟨p, ?_, hp, ?_⟩
    · unfold upd; rw [if_neg (Ne.symm h8)]; exact e
    · unfold updB
      rw [if_neg (Ne.symm h9)]
      exact (hb.block p (blk_lt hc)).trans hc
theorem RcInv.make (h : RcInv W c t zs ns dn v w) (h9 : dn 9 = false) : RcInv W c t zs ns (updB dn 8) (upd v 8 (.pointer (some ⟨w.heap.size, 0, none⟩))) (w.alloc (.cells zs t)) := by
  refine ⟨h.below.alloc h.below.size _, fun k kl hk k8 k9 => ?_, fun _ => ⟨w.heap.size, rfl, h.below.size, ?_⟩⟩
  · unfold upd; rw [if_neg k8]
    refine h.told k kl ?_ k8 k9
    unfold updB at hk
    rwa [if_neg k8] at hk
  · have e : updB dn 8 9 = false := by unfold updB; rw [if_neg (by decide)]; exact h9
    rw [e, if_neg (by decide)]
    exact World.alloc_heap_new w _
theorem RcInv.fill (h : RcInv W c t zs ns dn v w) {p : Nat} {x : Value} (h8 : v 8 = .pointer (some ⟨p, 0, none⟩)) (hp : W.heap.size ≤ p) (hc : w'.heap[p]? = some (.cells ns t (0, 0))) (hb : Below W.heap.size W w') : RcInv W c t zs ns (updB dn 9) (upd v 9 x) w' := by
  refine ⟨hb, fun k kl hk k8 k9 => ?_, fun _ => ⟨p, ?_, hp, ?_⟩⟩
  · unfold upd; rw [if_neg k9]
    refine h.told k kl ?_ k8 k9
    unfold updB at hk
    rwa [if_neg k9] at hk
  · unfold upd; rw [if_neg (by decide)]; exact h8
  · have e : updB dn 9 9 = true := by unfold updB; rw [if_pos rfl]
    rw [e, if_pos rfl]; exact hc
theorem RcInv.all (h : RcInv W c t zs ns dn v w) {n : Nat} (hn : 11 ≤ n) (ha : ∀ j, j < n → dn j = true) : RcInv W c t zs ns (fun _ => true) v w := by
  refine ⟨h.below, fun k kl _ k8 k9 => h.told k kl (ha k (by omega)) k8 k9, fun _ => ?_⟩
  obtain ⟨p, e, hp, hc⟩ := h.box (ha 8 (by omega))
  rw [if_pos (ha 9 (by omega))] at hc
  exact ⟨p, e, hp, by rw [if_pos rfl]; exact hc⟩
/-- a region of nine operations: l = append(l, x): operation 6 lays x, operation 7 appends -/
def ApOk (t : TypeId) (size base n : Nat) (xs ns : List Value) (ws : Nat) (vb : Option Nat) (c : Nat → Value) (j : Nat) (x : Value) (w : World) : Prop :=
  if j = 6 then ∃ p, x = .slice (some ⟨p, 0, none⟩) 1 1 ∧ w.heap[p]? = some (.cells ns.toArray t (0, 0)) ∧ ws ≤ p
  else if j = 7 then ∃ g cap, x = .slice (some ⟨g, 0, none⟩) (n + 1) cap ∧ w.ownsRow base t size x (n + 1) (xs ++ ns) ∧ (vb = some g ∨ ws ≤ g)
  else x = c j
section
variable {t : TypeId} {size base n : Nat} {xs ns : List Value} {ws : Nat} {vb : Option Nat} {c : Nat → Value} {j : Nat} {x : Value} {w w' : World}
theorem ApOk.six (h : ∃ p, x = .slice (some ⟨p, 0, none⟩) 1 1 ∧ w.heap[p]? = some (.cells ns.toArray t (0, 0)) ∧ ws ≤ p) : ApOk t size base n xs ns ws vb c 6 x w := by
  unfold ApOk; rw [if_pos rfl]; exact h
theorem ApOk.seven (h : ∃ g cap, x = .slice (some ⟨g, 0, none⟩) (n + 1) cap ∧ w.ownsRow base t size x (n + 1) (xs ++ ns) ∧ (vb = some g ∨ ws ≤ g)) : ApOk t size base n xs ns ws vb c 7 x w := by
  unfold ApOk; rw [if_neg (by decide), if_pos rfl]; exact h
theorem ApOk.alloc (h : ApOk t size base n xs ns ws vb c j x w) (o : Obj) : ApOk t size base n xs ns ws vb c j x (w.alloc o) := by
  unfold ApOk at *
  split
  · rename_i e; rw [if_pos e] at h
    obtain ⟨p, h1, h2, h3⟩ := h
    exact ⟨p, h1, (Below.heap_alloc w o p (blk_lt h2)).trans h2, h3⟩
  · rename_i e; rw [if_neg e] at h
    split
    · rename_i e; rw [if_pos e] at h
      obtain ⟨g, cap, h1, h2, h3⟩ := h
      exact ⟨g, cap, h1, h2.alloc o, h3⟩
    · rename_i e; rw [if_neg e] at h; exact h
theorem ApOk.grow (h : ApOk t size base n xs ns ws vb c j x w) (hj : j ≠ 7) (hg : w.grownBy w' vb) (hv : ∀ k, vb = some k → k < ws) : ApOk t size base n xs ns ws vb c j x w' := by
  unfold ApOk at *
  by_cases e : j = 6
  · rw [if_pos e] at h ⊢
    obtain ⟨p, h1, h2, h3⟩ := h
    exact ⟨p, h1, (hg.block p (blk_lt h2) (fun e => by have := hv p e.symm; omega)).trans h2, h3⟩
  · rw [if_neg e, if_neg hj] at h ⊢
    exact h
end
theorem only_cell {S : Nat → Prop} {X Y : World} {a : Addr} {v : Value} (h : Only S X Y) (hc : X.cell? a = some v) (hs : ¬ S a.block) : Y.cell? a = some v :=
  (World.cell?_of_block (h.block a.block (World.block_lt_of_cell? X _ hc) hs)).trans hc
theorem keeps_only {B : Nat} {S : Nat → Prop} {X Y : World} (h : Only S X Y) (hS : ∀ k o, S k → X.heap[k]? = some o → o.isCells = true) : KeepsFrom B X Y :=
  ⟨h.size, fun k o _ hk ho => h.same hk (fun s => by rw [hS k o s hk] at ho; cases ho)⟩
theorem row_cells {X : World} {base n : Nat} {e : TypeId} {size : Nat} {v : Value} {xs : List Value} (h : X.ownsRow base e size v n xs) : ∀ k o, v.ownBlock = some k → X.heap[k]? = some o → o.isCells = true := by
  intro k o hk ho
  rcases h.2 with ⟨rfl, _⟩ | ⟨g, cap, cur, rfl, _, hg, _⟩
  · cases hk
  · cases hk
    rw [hg] at ho
    cases ho
    rfl
end
end Go.Proofs.YtcojomkpogikiaaGreatDoor
