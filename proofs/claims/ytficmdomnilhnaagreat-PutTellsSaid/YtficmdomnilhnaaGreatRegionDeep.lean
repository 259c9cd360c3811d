/- wp_region_pre for longer chains of operations that wait for one another (nine steps). General: no dump is imported. -/
import Derived.Test.YtficmdomnilhnaaGreatRegionPre
namespace Go.Proofs.YtficmdomnilhnaaGreat
open Go Go.RowKit
set_option linter.unusedVariables false
section
variable {P : Program} {ops : Array Oper} {Q : Exit → Act → World → Prop}
/-- the first N wait for earlier ones alone, all others for all of them (at some hand) or for one of these others -/
def preD (ops : Array Oper) (N : Nat) : Bool := (List.range ops.size).all fun j => if j < N then (depsOf ops j).all fun k => decide (k < j) else ((depsOf ops j).any fun k => decide (N ≤ k)) || (List.range N).all fun k => (more ops N (more ops N (more ops N (more ops N (more ops N (more ops N (more ops N (more ops N (more ops N (depsOf ops j)))))))))).contains k
theorem wp_region_deep {id : Nat} {w : World} (hm : P.follows .mixedOrders = true) (N m : Nat) (frame : (Nat → Value) → Array Value) (v0 : Nat → Value) (Ok : Nat → Value → World → Prop) (B Pre : World → Prop)
    (hN : N ≤ ops.size) (hpre : preD ops N = true) (hB0 : B w.drew) (hP0 : Pre w.drew)
    (hop : ∀ j, j < N → ∀ (v : Nat → Value) (w1 : World), B w1 → (j = m → Pre w1) → (∀ k, k ∈ depsOf ops j → Ok k (v k) w1) →
      wpOp P ops Q j (fun a' w' => ∃ x, a' = ⟨frame (upd v j x), []⟩ ∧ Ok j x w' ∧ B w' ∧ (j ≠ m → Pre w1 → Pre w') ∧ ∀ k y, k ≠ j → Ok k y w1 → Ok k y w') ⟨frame v, []⟩ w1)
    (hend : ∀ v w', (∀ j, j < N → Ok j (v j) w') → B w' → wpAny P .any ops Q (ops.size - N) (listN N ops.size) ⟨frame v, []⟩ w') :
    (Code.region id ops true).wp P Q ⟨frame v0, []⟩ w := by
  refine wp_region_any hm ?_
  have hpre2 : ∀ j, j < ops.size → if j < N then ∀ k ∈ depsOf ops j, k < j else (∃ m, m ∈ depsOf ops j ∧ N ≤ m) ∨ ∀ k, k < N → k ∈ more ops N (more ops N (more ops N (more ops N (more ops N (more ops N (more ops N (more ops N (more ops N (depsOf ops j))))))))) := by
    intro j hj
    have h := List.all_eq_true.1 hpre j (List.mem_range.2 hj)
    split
    · rename_i hc
      rw [if_pos hc] at h
      intro k hk
      simpa using List.all_eq_true.1 h k hk
    · rename_i hc
      rw [if_neg hc, Bool.or_eq_true] at h
      rcases h with h | h
      · obtain ⟨m, hm, hmN⟩ := List.any_eq_true.1 h
        exact .inl ⟨m, hm, by simpa using hmN⟩
      · exact .inr fun k hk => by simpa using List.all_eq_true.1 h k (List.mem_range.2 hk)
  have hdeps : ∀ {j : Nat} {o : Oper} {l : Array Bool}, ops[j]? = some o → (∀ e ∈ o.after, Region.binds .any e = true → l.getD e.on false = true) → ∀ k ∈ depsOf ops j, l.getD k false = true := by
    intro j o l ho h k hk
    unfold depsOf at hk
    rw [ho] at hk
    simp only [Option.map_some, Option.getD_some, List.mem_map, List.mem_filter] at hk
    obtain ⟨e, ⟨he, hb⟩, rfl⟩ := hk
    exact h e (Array.mem_toList_iff.1 he) hb
  have hconv : ∀ {j : Nat} {l : Array Bool}, j < ops.size → (∀ k ∈ depsOf ops j, l.getD k false = true) → ∃ o, ops[j]? = some o ∧ ∀ e ∈ o.after, Region.binds .any e = true → l.getD e.on false = true := by
    intro j l hj h
    refine ⟨ops[j], Array.getElem?_eq_getElem hj, fun e he hb => h _ ?_⟩
    unfold depsOf
    rw [Array.getElem?_eq_getElem hj]
    simp only [Option.map_some, Option.getD_some, List.mem_map, List.mem_filter]
    exact ⟨e, ⟨Array.mem_toList_iff.2 he, hb⟩, rfl⟩
  have hdt : ∀ {l : Array Bool} {j : Nat}, l.size = ops.size → j < ops.size → (l.getD j true = l.getD j false) := by
    intro l j hl hj
    have : j < l.size := by omega
    simp [Array.getD, this]
  refine wpAny_inv
    (I := fun l a w' => l.size = ops.size ∧ (∀ j, j < N → l.getD j false = true → ∀ k ∈ depsOf ops j, l.getD k false = true) ∧ (∀ j, N ≤ j → j < ops.size → l.getD j false = false) ∧ ∃ v, a = ⟨frame v, []⟩ ∧ (∀ j, j < N → l.getD j false = true → Ok j (v j) w') ∧
      B w' ∧ (l.getD m false = false → Pre w'))
    (D := fun l => ∀ j, j < N → l.getD j false = true) ?_ ?_ ops.size _ _ _ ?_ ?_
  · rintro l a w1 ⟨hl, hcl, hlo, v, rfl, hv, hb1, hP1⟩ hD
    constructor
    · -- the least that has not come up
      have hex : ∃ j, j < N ∧ l.getD j false = false := by
        apply Classical.byContradiction
        intro hno
        refine hD fun j hj => ?_
        cases hc : l.getD j false with
        | true => rfl
        | false => exact absurd ⟨j, hj, hc⟩ hno
      have hleast : ∀ n, (∃ j, j < n ∧ j < N ∧ l.getD j false = false) → ∃ j, j < N ∧ l.getD j false = false ∧ ∀ k, k < j → l.getD k false = true := by
        intro n
        induction n with
        | zero => rintro ⟨j, h, _⟩; omega
        | succ n ih =>
          rintro ⟨j, h, hjN, hj⟩
          by_cases c : ∃ k, k < n ∧ k < N ∧ l.getD k false = false
          · exact ih c
          · refine ⟨j, hjN, hj, fun k hk => ?_⟩
            cases hc : l.getD k false with
            | true => rfl
            | false => exact absurd ⟨k, by omega, by omega, hc⟩ c
      obtain ⟨j, hjN, hj⟩ := hex
      obtain ⟨j, hjN, hj, hall⟩ := hleast (j + 1) ⟨j, by omega, hjN, hj⟩
      have hjs : j < ops.size := by omega
      refine ⟨j, mem_ready.2 ⟨by rw [hdt hl hjs]; exact hj, hconv hjs fun k hk => ?_⟩⟩
      have h2 := hpre2 j hjs
      rw [if_pos hjN] at h2
      exact hall k (h2 k hk)
    · intro i hi
      obtain ⟨hun, o, ho, haft⟩ := mem_ready.1 hi
      have his : i < ops.size := (Array.getElem?_eq_some_iff.1 ho).1
      have hdp := hdeps ho haft
      have h2 := hpre2 i his
      have hun2 : l.getD i false = false := by rw [← hdt hl his]; exact hun
      by_cases hiN : i < N
      · rw [if_pos hiN] at h2
        refine wpOp_mono ?_ (hop i hiN v w1 hb1 (fun e => hP1 (by rw [← e]; exact hun2)) (fun k hk => hv k (by have := h2 k hk; omega) (hdp k hk)))
        rintro a' w' ⟨x, rfl, hx, hb2, hp2, hkeep⟩
        have hsame : ∀ j, j ≠ i → (l.setIfInBounds i true).getD j false = l.getD j false := fun j hj => by
          simp [Array.getD_eq_getD_getElem?, Ne.symm hj]
        have hself : (l.setIfInBounds i true).getD i false = true := by
          have : i < l.size := by omega
          simp [Array.getD, this]
        have hmono : ∀ k, l.getD k false = true → (l.setIfInBounds i true).getD k false = true := fun k hk => by
          by_cases e : k = i
          · subst e; exact hself
          · rw [hsame k e]; exact hk
        have hcl2 : ∀ j, j < N → (l.setIfInBounds i true).getD j false = true → ∀ k ∈ depsOf ops j, (l.setIfInBounds i true).getD k false = true := fun j hj hlj k hk => by
          by_cases e : j = i
          · subst e; exact hmono k (hdp k hk)
          · rw [hsame j e] at hlj; exact hmono k (hcl j hj hlj k hk)
        refine ⟨by simp [hl], hcl2, fun j hj hjs => by rw [hsame j (by omega)]; exact hlo j hj hjs, upd v i x, rfl, ?_, hb2, ?_⟩
        · intro j hj hlj
          by_cases e : j = i
          · subst e
            show Ok j (if j = j then x else v j) w'
            rw [if_pos rfl]
            exact hx
          · rw [hsame j e] at hlj
            show Ok j (if j = i then x else v j) w'
            rw [if_neg e]
            exact hkeep j _ e (hv j hj hlj)
        · intro hmf
          by_cases e : m = i
          · subst e
            rw [hself] at hmf; cases hmf
          · rw [hsame m e] at hmf
            exact hp2 (Ne.symm e) (hP1 hmf)
      · exfalso
        rw [if_neg hiN] at h2
        rcases h2 with ⟨k, hk, hkN⟩ | hall
        · have h3 := hdp k hk
          have hks : k < ops.size := by
            by_cases c : k < l.size
            · omega
            · simp [Array.getD, c] at h3
          rw [hlo k hkN hks] at h3; cases h3
        · refine hD fun k hk => ?_
          have h4 := fun c h => more_in (ops := ops) (N := N) (c := c) (L := fun k => l.getD k false = true) h (fun j hj hlj k hk => hcl j hj hlj k hk)
          exact (h4 _ (h4 _ (h4 _ (h4 _ (h4 _ (h4 _ (h4 _ (h4 _ (h4 _ hdp))))))))) k (hall k hk)
  · rintro l a w' ⟨hl, hcl, hlo, v, rfl, hv, hb1, _⟩ hD
    have e : l = listN N ops.size := listN_of hl hN hD hlo
    subst e
    rw [restN_listN]
    exact hend v w' (fun j hj => hv j hj (hD j hj)) hb1
  · unfold restN restL; simp
  · refine ⟨by simp, fun j hj hlj => ?_, fun j hj hjs => by simp [Array.getD, hjs], v0, rfl, fun j hj hlj => ?_, hB0, fun _ => hP0⟩
    · exfalso
      by_cases c : j < ops.size <;> simp [Array.getD, c] at hlj
    · exfalso
      by_cases c : j < ops.size <;> simp [Array.getD, c] at hlj
end
end Go.Proofs.YtficmdomnilhnaaGreat
