/- The same tokens with other ones behind them are parsed as the same; in plain Lean. No run of the program. -/
import Derived.Test.YtbejpgoedenpmaaGreatDoorExprMath
namespace Go.Proofs.YtbejpgoedenpmaaGreatDoor
open Go
set_option linter.unusedVariables false
def kt (x : Tk) : Nat × List UInt8 × Nat := (x.k, x.t, x.n)
/-- what ends a part: a closing bracket, the end -/
def Stops (t : Tk) : Prop := (t.k = 6 ∧ t.t = []) ∨ (t.k = 5 ∧ t.t = [41])
def Cl.used : Cl → Prop
  | .kd n => n ≠ 5 ∧ n ≠ 6
  | .sg s => s ≠ [41]
  | _ => True
theorem stop_test {c : Cl} {t : Tk} (hs : Stops t) (hc : c.used) : c.test t = false := by
  rcases hs with ⟨h1, h2⟩ | ⟨h1, h2⟩
  · cases c with
    | kd n => show (t.k == n) = false; rw [h1]; simp; exact fun e => hc.2 e.symm
    | wd s => show (t.k == 1 && t.t == s) = false; rw [h1]; rfl
    | sg s => show (t.k == 5 && t.t == s) = false; rw [h1]; rfl
    | nm => show (t.k == 1 && _) = false; rw [h1]; rfl
    | rl => show (!(relT t == 0)) = false; unfold relT; rw [h1]; rfl
  · cases c with
    | kd n => show (t.k == n) = false; rw [h1]; simp; exact fun e => hc.1 e.symm
    | wd s => show (t.k == 1 && t.t == s) = false; rw [h1]; rfl
    | sg s => show (t.k == 5 && t.t == s) = false; rw [h1, h2]; simp; exact fun e => hc e.symm
    | nm => show (t.k == 1 && _) = false; rw [h1]; rfl
    | rl => show (!(relT t == 0)) = false; unfold relT; rw [h1, h2]; rfl
theorem kt_eq {t u : Tk} (h : kt t = kt u) : t.k = u.k ∧ t.t = u.t ∧ t.n = u.n := by
  unfold kt at h
  injection h with h1 h2
  injection h2 with h2 h3
  exact ⟨h1, h2, h3⟩
theorem test_eq {c : Cl} {t u : Tk} (h : kt t = kt u) : c.test t = c.test u := by
  obtain ⟨h1, h2, _⟩ := kt_eq h
  cases c with
  | kd n => show (t.k == n) = (u.k == n); rw [h1]
  | wd s => show (t.k == 1 && t.t == s) = (u.k == 1 && u.t == s); rw [h1, h2]
  | sg s => show (t.k == 5 && t.t == s) = (u.k == 5 && u.t == s); rw [h1, h2]
  | nm => show (t.k == 1 && !wordsL.contains t.t) = (u.k == 1 && !wordsL.contains u.t); rw [h1, h2]
  | rl => show (!(relT t == 0)) = (!(relT u == 0)); unfold relT; rw [h1, h2]
/-- the same tokens, up to those behind them -/
inductive Sm (G : Tk → Prop) (R R' : List Tk) : List Tk → List Tk → Prop
  | base : Sm G R R' R R'
  | cons {t t' : Tk} {A A' : List Tk} (h : kt t = kt t') (hg : G t) (hs : Sm G R R' A A') : Sm G R R' (t :: A) (t' :: A')
section
variable {G : Tk → Prop} {R R' : List Tk}
theorem Sm.len {A A' : List Tk} (h : Sm G R R' A A') : R.length ≤ A.length ∧ R'.length ≤ A'.length := by
  induction h with
  | base => exact ⟨Nat.le_refl _, Nat.le_refl _⟩
  | cons _ _ _ ih => exact ⟨Nat.le_succ_of_le ih.1, Nat.le_succ_of_le ih.2⟩
theorem Sm.same {A A' : List Tk} (h : Sm G R R' A A') (hl : A.length ≤ R.length) : A = R ∧ A' = R' := by
  cases h with
  | base => exact ⟨rfl, rfl⟩
  | cons _ _ hs => have := hs.len.1; simp at hl; omega
variable (hR : Stops (hd R)) (hR' : Stops (hd R'))
include hR hR' in
theorem Sm.test {A A' : List Tk} (h : Sm G R R' A A') {c : Cl} (hc : c.used) : c.test (hd A) = c.test (hd A') := by
  cases h with
  | base => rw [stop_test hR hc, stop_test hR' hc]
  | cons hk _ _ => exact test_eq hk
include hR in
theorem Sm.tail {A A' : List Tk} (h : Sm G R R' A A') {c : Cl} (hc : c.used) (ht : c.test (hd A) = true) : kt (hd A) = kt (hd A') ∧ Sm G R R' A.tail A'.tail := by
  cases h with
  | base => rw [stop_test hR hc] at ht; cases ht
  | cons hk _ hs => exact ⟨hk, hs⟩
def Sh (G : Tk → Prop) (R R' : List Tk) {α : Type} (r r' : PR α) : Prop := ∀ x B, r = .ok x B → ∃ B', r' = .ok x B' ∧ Sm G R R' B B'
theorem Sh.err {α : Type} {e : Nat} {l : List Tk} {r' : PR α} : Sh G R R' (.err e l : PR α) r' := fun x B h => by cases h
theorem Sh.ok {α : Type} {x : α} {B B' : List Tk} (h : Sm G R R' B B') : Sh G R R' (.ok x B) (.ok x B') := fun y C h2 => by
  injection h2 with h3 h4
  subst h3; subst h4
  exact ⟨B', rfl, h⟩
include hR hR' in
theorem eat_sm : ∀ (cs : List Cl), (∀ c ∈ cs, c.used) → ∀ (A A' : List Tk) (s : List UInt8), Sm G R R' A A' → Sh G R R' (eat cs A s) (eat cs A' s)
  | [], _, A, A', s, h => Sh.ok h
  | c :: r, hc, A, A', s, h => by
    have ht := h.test hR hR' (hc c (by simp))
    unfold eat
    by_cases h1 : c.test (hd A) = true
    · rw [if_pos h1, if_pos (ht ▸ h1)]
      obtain ⟨hk, hs⟩ := h.tail hR (hc c (by simp)) h1
      rw [(kt_eq hk).2.1]
      exact eat_sm r (fun d hd => hc d (by simp [hd])) _ _ _ hs
    · rw [if_neg h1]; exact Sh.err
include hR hR' in
theorem step_sm (item : List Cl) (hc : ∀ c ∈ item, c.used) {A A' : List Tk} (s : List UInt8) (h : Sm G R R' A A') : Sh G R R' (stepP item A s) (stepP item A' s) := by
  unfold stepP
  rw [h.test hR hR' (c := cOpen) (by simp [cOpen, Cl.used])]
  split
  · exact eat_sm hR hR' itemC (by intro c hc; simp [itemC] at hc; rcases hc with rfl | rfl | rfl <;> simp [Cl.used]) A A' s h
  · exact eat_sm hR hR' item hc A A' s h
theorem dotUsed : ∀ c ∈ [cDot, Cl.nm], c.used := by intro c hc; simp [cDot] at hc; rcases hc with rfl | rfl <;> simp [Cl.used]
include hR hR' in
theorem pathL_sm : ∀ (f : Nat) (A A' : List Tk) (s : List UInt8), Sm G R R' A A' → Sh G R R' (pathL f A s) (pathL f A' s)
  | 0, A, A', s, h => Sh.err
  | f + 1, A, A', s, h => by
    have h1 := h.test hR hR' (c := cDot) (by simp [cDot, Cl.used])
    have h2 := h.test hR hR' (c := cOpen) (by simp [cOpen, Cl.used])
    by_cases ht : (cDot.test (hd A) || cOpen.test (hd A)) = true
    · rw [pathL, pathL, if_pos ht, if_pos (by rw [← h1, ← h2]; exact ht)]
      have hst := step_sm hR hR' [cDot, .nm] dotUsed s h
      cases hx : stepP [cDot, .nm] A s with
      | err e l => exact Sh.err
      | ok s' l =>
        obtain ⟨B', hb, hs⟩ := hst _ _ hx
        rw [hb]
        exact pathL_sm f l B' s' hs
    · rw [pathL, pathL, if_neg ht, if_neg (by rw [← h1, ← h2]; exact ht)]
      exact Sh.ok h
include hR hR' in
theorem pathP_sm {A A' : List Tk} (h : Sm G R R' A A') : Sh G R R' (pathP A) (pathP A') := by
  have hst := step_sm hR hR' [.nm] (by intro c hc; simp at hc; rw [hc]; trivial) [] h
  unfold pathP pathS
  cases hx : stepP [.nm] A [] with
  | err e l => exact Sh.err
  | ok s l =>
    obtain ⟨B', hb, hs⟩ := hst _ _ hx
    rw [hb]
    have h2 := pathL_sm hR hR' 100 l B' s hs
    show Sh G R R' (pathO (pathL 100 l s)) (pathO (pathL 100 B' s))
    cases hy : pathL 100 l s with
    | err e l => exact Sh.err
    | ok s2 l2 =>
      obtain ⟨B2, hb2, hs2⟩ := h2 _ _ hy
      rw [hb2]
      exact Sh.ok hs2
include hR in
theorem one_sm {A A' : List Tk} (h : Sm G R R' A A') {c : Cl} (hc : c.used) (ht : c.test (hd A) = true) {x x' : Opd} (hx : kt (hd A) = kt (hd A') → x = x') : Sh G R R' (.ok x A.tail) (.ok x' A'.tail) := by
  obtain ⟨hk, hs⟩ := h.tail hR hc ht
  rw [hx hk]; exact Sh.ok hs
include hR hR' in
theorem numP_sm (neg : Bool) {A A' : List Tk} (h : Sm G R R' A A') : Sh G R R' (numP neg A) (numP neg A') := by
  have h1 := h.test hR hR' (c := .kd 2) (by simp [Cl.used])
  unfold numP
  by_cases ht : (Cl.kd 2).test (hd A) = true
  · rw [if_pos ht, if_pos (h1 ▸ ht)]
    exact one_sm hR h (by simp [Cl.used]) ht (fun hk => by rw [(kt_eq hk).2.2])
  · rw [if_neg ht]; exact Sh.err
include hR hR' in
theorem numberP_sm {A A' : List Tk} (h : Sm G R R' A A') : Sh G R R' (numberP A) (numberP A') := by
  have h1 := h.test hR hR' (c := cMinus) (by simp [cMinus, Cl.used])
  unfold numberP
  by_cases ht : cMinus.test (hd A) = true
  · rw [if_pos ht, if_pos (h1 ▸ ht)]
    exact numP_sm hR hR' true (h.tail hR (by simp [cMinus, Cl.used]) ht).2
  · rw [if_neg ht, if_neg (by rw [← h1]; exact ht)]; exact numP_sm hR hR' false h
include hR hR' in
theorem operandP_sm {A A' : List Tk} (h : Sm G R R' A A') : Sh G R R' (operandP A) (operandP A') := by
  have h3 := h.test hR hR' (c := .kd 3) (by simp [Cl.used])
  have h4 := h.test hR hR' (c := .kd 4) (by simp [Cl.used])
  have h5 := h.test hR hR' (c := .wd kTRUE) trivial
  have h6 := h.test hR hR' (c := .wd kFALSE) trivial
  have h7 := h.test hR hR' (c := cMinus) (by simp [cMinus, Cl.used])
  have h8 := h.test hR hR' (c := .kd 2) (by simp [Cl.used])
  unfold operandP
  rw [← h3, ← h4, ← h5, ← h6, ← h7, ← h8]
  split
  · rename_i ht; exact one_sm hR h (by simp [Cl.used]) ht (fun hk => by rw [(kt_eq hk).2.1])
  split
  · rename_i ht; exact one_sm hR h (by simp [Cl.used]) ht (fun hk => by rw [(kt_eq hk).2.2])
  split
  · rename_i ht; exact one_sm hR h (c := .wd kTRUE) trivial ht (fun _ => rfl)
  split
  · rename_i ht; exact one_sm hR h (c := .wd kFALSE) trivial ht (fun _ => rfl)
  split
  · exact numberP_sm hR hR' h
  · exact pathP_sm hR hR' h
include hR hR' in
theorem furP_sm : ∀ (cs : List Cl), (∀ c ∈ cs, c.used) → ∀ (A A' : List Tk) (a : List Opd), Sm G R R' A A' → Sh G R R' (furP cs A a) (furP cs A' a)
  | [], _, A, A', a, h => Sh.ok h
  | c :: r, hc, A, A', a, h => by
    have ht := h.test hR hR' (hc c (by simp))
    unfold furP
    by_cases h1 : c.test (hd A) = true
    · rw [if_pos h1, if_pos (ht ▸ h1)]
      obtain ⟨hk, hs⟩ := h.tail hR (hc c (by simp)) h1
      have h2 := operandP_sm hR hR' hs
      cases hx : operandP A.tail with
      | err e l => exact Sh.err
      | ok o l =>
        obtain ⟨B', hb, hs2⟩ := h2 _ _ hx
        rw [hb]
        exact furP_sm r (fun d hd => hc d (by simp [hd])) l B' (a ++ [o]) hs2
    · rw [if_neg h1]; exact Sh.err
include hR hR' in
theorem furX_sm (op rel : Int) (cs : List Cl) (hc : ∀ c ∈ cs, c.used) {A A' : List Tk} (a : List Opd) (h : Sm G R R' A A') : Sh G R R' (furX op rel cs A a) (furX op rel cs A' a) := by
  have h2 := furP_sm hR hR' cs hc A A' a h
  unfold furX
  cases hx : furP cs A a with
  | err e l => exact Sh.err
  | ok b l =>
    obtain ⟨B', hb, hs⟩ := h2 _ _ hx
    rw [hb]; exact Sh.ok hs
theorem Sh.neg {r r' : PR XT} (h : Sh G R R' r r') : Sh G R R' (negR r) (negR r') := by
  cases hx : r with
  | err e l => exact Sh.err
  | ok x l =>
    obtain ⟨B', hb, hs⟩ := h _ _ hx
    rw [hb]; exact Sh.ok hs
theorem betwUsed : ∀ c ∈ betw, c.used := by intro c hc; simp [betw] at hc; rcases hc with rfl | rfl <;> trivial
include hR hR' in
theorem testP_sm {A A' : List Tk} (h : Sm G R R' A A') : Sh G R R' (testP A) (testP A') := by
  have h0 := operandP_sm hR hR' h
  unfold testP
  cases hx : operandP A with
  | err e l => exact Sh.err
  | ok o l =>
    obtain ⟨B', hb, hs⟩ := h0 _ _ hx
    rw [hb]
    show Sh G R R' (testO o l) (testO o B')
    have h1 := hs.test hR hR' (c := .wd kNOT) trivial
    have h2 := hs.test hR hR' (c := .wd kBETWEEN) trivial
    have h3 := hs.test hR hR' (c := .wd kLIKE) trivial
    have h4 := hs.test hR hR' (c := .rl) trivial
    unfold testO
    rw [← h1, ← h2, ← h3]
    split
    · rename_i ht; exact (furX_sm hR hR' 2 0 betw betwUsed [o] (hs.tail hR (c := .wd kNOT) trivial ht).2).neg
    split
    · exact furX_sm hR hR' 2 0 betw betwUsed [o] hs
    split
    · exact furX_sm hR hR' 3 0 _ (by intro c hc; simp at hc; rw [hc]; trivial) [o] hs
    · by_cases ht : Cl.rl.test (hd l) = true
      · obtain ⟨hk, _⟩ := hs.tail hR (c := .rl) trivial ht
        have hr : relT (hd l) = relT (hd B') := by unfold relT; rw [(kt_eq hk).1, (kt_eq hk).2.1]
        rw [hr]
        exact furX_sm hR hR' 1 _ _ (by intro c hc; simp at hc; rw [hc]; trivial) [o] hs
      · intro x B hxx
        unfold furX furP at hxx
        rw [if_neg ht] at hxx
        cases hxx
/-- .. or it stands too deep -/
def Sd (G : Tk → Prop) (R R' : List Tk) (D : Prop) {α : Type} (r r' : PR α) : Prop := ∀ x B, r = .ok x B → R.length ≤ B.length → (∃ B', r' = .ok x B' ∧ Sm G R R' B B') ∨ (D ∧ ∃ l, r' = .err 9 l)
theorem Sh.sd {D : Prop} {α : Type} {r r' : PR α} (h : Sh G R R' r r') : Sd G R R' D r r' := fun x B hx _ => .inl (h x B hx)
def ShP (G : Tk → Prop) (R R' : List Tk) (D : Prop) (P P' : List Tk → PR XT) : Prop := ∀ A A', Vd A → A.length ≤ 99 → Sm G R R' A A' → Sd G R R' D (P A) (P' A')
include hR hR' in
theorem serL_sm {D : Prop} {P P' : List Tk → PR XT} (hP : ShP G R R' D P P') (hl : ∀ l, Vd l → l.length ≤ 99 → Less l (P l)) (w : List UInt8) : ∀ (f : Nat) (A A' : List Tk) (a : List XT), A.length < f → Vd A → A.length ≤ 99 → Sm G R R' A A' → Sd G R R' D (serL P w f A a) (serL P' w f A' a)
  | 0, A, A', a, hf, _, _, h => by omega
  | f + 1, A, A', a, hf, hv, h99, h => by
    intro x B hx hB
    rw [serL] at hx ⊢
    have h1 := hP A A' hv h99 h
    have hless := hl A hv h99
    cases hr : P A with
    | err e l => rw [hr] at hx; cases hx
    | ok y l =>
      rw [hr] at hx hless
      have hx : (if (Cl.wd w).test (hd l) then serL P w f l.tail (a ++ [y]) else .ok (a ++ [y]) l) = PR.ok x B := hx
      have hlB : R.length ≤ l.length := by
        by_cases ht : (Cl.wd w).test (hd l) = true
        · rw [if_pos ht] at hx
          obtain ⟨hv2, hl2⟩ := hless.1.tail (c := .wd w) trivial ht
          have h3 := serL_less w 99 hl f l.tail (a ++ [y]) hv2 (by have := hless.2; omega) (by have := hless.2; omega)
          rw [hx] at h3
          have := h3.2; omega
        · rw [if_neg ht] at hx
          injection hx with _ e; rw [e]; exact hB
      rcases h1 y l hr hlB with ⟨l', hr', hs⟩ | ⟨hD, l', hr'⟩
      · rw [hr']
        show (∃ B', (if (Cl.wd w).test (hd l') then serL P' w f l'.tail (a ++ [y]) else .ok (a ++ [y]) l') = .ok x B' ∧ _) ∨ (D ∧ ∃ l2, (if (Cl.wd w).test (hd l') then serL P' w f l'.tail (a ++ [y]) else .ok (a ++ [y]) l') = .err 9 l2)
        rw [← hs.test hR hR' (c := .wd w) trivial]
        by_cases ht : (Cl.wd w).test (hd l) = true
        · rw [if_pos ht] at hx ⊢
          obtain ⟨hv2, hl2⟩ := hless.1.tail (c := .wd w) trivial ht
          exact serL_sm hP hl w f l.tail l'.tail (a ++ [y]) (by have := hless.2; omega) hv2 (by have := hless.2; omega) (hs.tail hR (c := .wd w) trivial ht).2 x B hx hB
        · rw [if_neg ht] at hx ⊢
          injection hx with e1 e2
          subst e1; subst e2
          exact .inl ⟨l', rfl, hs⟩
      · rw [hr']; exact .inr ⟨hD, l', rfl⟩
include hR hR' in
theorem serP_sm {D : Prop} {P P' : List Tk → PR XT} (hP : ShP G R R' D P P') (hl : ∀ l, Vd l → l.length ≤ 99 → Less l (P l)) (op : Int) (w : List UInt8) : ShP G R R' D (serP op w P) (serP op w P') := by
  intro A A' hv h99 h x B hx hB
  have h1 := serL_sm hR hR' hP hl w 100 A A' [] (by omega) hv h99 h
  unfold serP at hx ⊢
  cases hr : serL P w 100 A [] with
  | err e l => rw [hr] at hx; cases hx
  | ok xs l =>
    rw [hr] at hx
    injection hx with e1 e2
    subst e2
    rcases h1 xs l hr hB with ⟨B', hb, hs⟩ | ⟨hD, l', hb⟩
    · rw [hb]; exact .inl ⟨B', by show PR.ok (serX op xs) B' = _; rw [e1], hs⟩
    · rw [hb]; exact .inr ⟨hD, l', rfl⟩
include hR hR' in
theorem notP_sm : ∀ (k k' : Nat), ShP G R R' (k' < k) (notP k) (notP k')
  | 0, k' => by
    intro A A' hv h99 h x B hx hB
    have h1 := h.test hR hR' (c := .wd kNOT) trivial
    have h2 := h.test hR hR' (c := cPar) (by simp [cPar, Cl.used])
    by_cases ht : ((Cl.wd kNOT).test (hd A) || cPar.test (hd A)) = true
    · unfold notP at hx; rw [if_pos ht] at hx; cases hx
    · have ht2 := ht
      simp only [Bool.or_eq_true, not_or, Bool.not_eq_true] at ht2
      have e1 : notP 0 A = testP A := by unfold notP; rw [if_neg ht]
      have e2 : notP k' A' = testP A' := by
        cases k' with
        | zero => unfold notP; rw [if_neg (by rw [← h1, ← h2]; exact ht)]
        | succ k => unfold notP; rw [if_neg (by rw [← h1, ht2.1]; decide), if_neg (by rw [← h2, ht2.2]; decide)]
      rw [e1] at hx
      rw [e2]
      exact (testP_sm hR hR' h).sd x B hx hB
  | k + 1, k' => by
    intro A A' hv h99 h x B hx hB
    have h1 := h.test hR hR' (c := .wd kNOT) trivial
    have h2 := h.test hR hR' (c := cPar) (by simp [cPar, Cl.used])
    by_cases ht : ((Cl.wd kNOT).test (hd A) || cPar.test (hd A)) = true
    · cases k' with
      | zero =>
        refine .inr ⟨Nat.succ_pos k, A', ?_⟩
        unfold notP; rw [if_pos (by rw [← h1, ← h2]; exact ht)]
      | succ k' =>
        by_cases hn : (Cl.wd kNOT).test (hd A) = true
        · obtain ⟨hv2, hl2⟩ := hv.tail (c := .wd kNOT) trivial hn
          obtain ⟨_, hs⟩ := h.tail hR (c := .wd kNOT) trivial hn
          rw [notP, if_pos hn] at hx
          rw [notP, if_pos (h1 ▸ hn)]
          cases hr : notP k A.tail with
          | err e l => rw [hr] at hx; cases hx
          | ok y l =>
            rw [hr] at hx
            injection hx with e1 e2
            subst e2
            rcases notP_sm k k' A.tail A'.tail hv2 (by omega) hs y l hr hB with ⟨B', hb, hs2⟩ | ⟨hD, l', hb⟩
            · rw [hb]; exact .inl ⟨B', by show PR.ok (mkX 4 0 [] [y]) B' = _; rw [e1], hs2⟩
            · rw [hb]; exact .inr ⟨Nat.succ_lt_succ hD, l', rfl⟩
        · have hp : cPar.test (hd A) = true := by
            rw [Bool.or_eq_true] at ht; exact ht.resolve_left hn
          obtain ⟨hv2, hl2⟩ := hv.tail (c := cPar) trivial hp
          obtain ⟨_, hs⟩ := h.tail hR (c := cPar) (by simp [cPar, Cl.used]) hp
          rw [notP, if_neg hn, if_pos hp] at hx
          rw [notP, if_neg (by rw [← h1]; exact hn), if_pos (h2 ▸ hp)]
          have hO := serP_sm hR hR' (serP_sm hR hR' (notP_sm k k') (notP_less k) 5 kAND) (andP_less k) 6 kOR A.tail A'.tail hv2 (by omega) hs
          cases hr : serP 6 kOR (serP 5 kAND (notP k)) A.tail with
          | err e l => rw [hr] at hx; cases hx
          | ok y l =>
            rw [hr] at hx
            have hx : (if cEnd.test (hd l) = true then PR.ok y l.tail else .err 11 l) = .ok x B := hx
            by_cases he : cEnd.test (hd l) = true
            · rw [if_pos he] at hx
              injection hx with e1 e2
              subst e1
              have hlen : R.length < l.length := by
                have h3 : l ≠ [] := by
                  intro e; subst e; revert he; decide
                have h4 : l.tail.length + 1 = l.length := by
                  cases l with
                  | nil => exact absurd rfl h3
                  | cons a b => rfl
                rw [e2] at h4; omega
              rcases hO y l hr (by omega) with ⟨l', hb, hs2⟩ | ⟨hD, l', hb⟩
              · cases hs2 with
                | base => omega
                | @cons t t' C C' hk hg hs3 =>
                  rw [hb]
                  refine .inl ⟨C', ?_, ?_⟩
                  · show (if cEnd.test (hd (t' :: C')) = true then PR.ok y C' else _) = _
                    rw [if_pos (by show cEnd.test t' = true; rw [← test_eq hk]; exact he)]
                  · rw [← e2]; exact hs3
              · rw [hb]; exact .inr ⟨Nat.succ_lt_succ hD, l', rfl⟩
            · rw [if_neg he] at hx; cases hx
    · have ht2 := ht
      simp only [Bool.or_eq_true, not_or, Bool.not_eq_true] at ht2
      have e1 : notP (k + 1) A = testP A := by unfold notP; rw [if_neg (by rw [ht2.1]; decide), if_neg (by rw [ht2.2]; decide)]
      have e2 : notP k' A' = testP A' := by
        cases k' with
        | zero => unfold notP; rw [if_neg (by rw [← h1, ← h2]; exact ht)]
        | succ k => unfold notP; rw [if_neg (by rw [← h1, ht2.1]; decide), if_neg (by rw [← h2, ht2.2]; decide)]
      rw [e1] at hx
      rw [e2]
      exact (testP_sm hR hR' h).sd x B hx hB
include hR hR' in
theorem orP_sm (k k' : Nat) : ShP G R R' (k' < k) (orP k) (orP k') := serP_sm hR hR' (serP_sm hR hR' (notP_sm hR hR' k k') (notP_less k) 5 kAND) (andP_less k) 6 kOR
end
end Go.Proofs.YtbejpgoedenpmaaGreatDoor
