/- Chapter 16 in plain Lean: paths and operands, their tokens, and what the parser makes of these. No run of the program. -/
import Derived.Test.YtjgdkiikkgdbaaaGreatDoorQ27
import Derived.Test.YtjgdkiikkgdbaaaGreatDoorQ39
namespace Go.Proofs.YtjgdkiikkgdbaaaGreatDoor
open Go
set_option linter.unusedVariables false
/-- the steps of a path (b: the first of them), and their tokens -/
inductive PathR : Bool → List UInt8 → List (Nat × List UInt8 × Nat) → Prop
  | nil : PathR false [] []
  | ix {b : Bool} {d r : List UInt8} {T : List (Nat × List UInt8 × Nat)} (hd : d ≠ []) (hg : ∀ x ∈ d, dig x = true) (hr : rdNum d = .tok 2 d (nval d) d.length) (h : PathR false r T) : PathR b (91 :: (d ++ 93 :: r)) ((5, [91], 0) :: (2, d, nval d) :: (5, [93], 0) :: T)
  | nm {c : UInt8} {q r : List UInt8} {T : List (Nat × List UInt8 × Nat)} (hc : isL c.toNat = true) (hq : ∀ x ∈ q, alu x = true) (hk : wordsL.contains (c :: q) = false) (h : PathR false r T) : PathR true (c :: (q ++ r)) ((1, c :: q, 0) :: T)
  | dn {c : UInt8} {q r : List UInt8} {T : List (Nat × List UInt8 × Nat)} (hc : isL c.toNat = true) (hq : ∀ x ∈ q, alu x = true) (hk : wordsL.contains (c :: q) = false) (h : PathR false r T) : PathR false (46 :: c :: (q ++ r)) ((5, [46], 0) :: (1, c :: q, 0) :: T)
theorem path_stop {r v : List UInt8} {T : List (Nat × List UInt8 × Nat)} (h : PathR false r T) (hv : StopB alu v) : StopB alu (r ++ v) := by
  cases h with
  | nil => exact hv
  | ix => exact .inr ⟨91, _, rfl, by decide⟩
  | dn => exact .inr ⟨46, _, rfl, by decide⟩
theorem blk_L {c : UInt8} (h : isL c.toNat = true) : blk c = false := by
  unfold isL at h
  unfold blk
  simp at h ⊢
  omega
theorem Tks.sg {c : UInt8} {v : List UInt8} {U : List (Nat × List UInt8 × Nat)} (hc : Sg1 c) (h : Tks v U) : Tks (c :: v) ((5, [c], 0) :: U) :=
  .tok (blk_sg1 hc) (sh_sg1 c v hc) h
theorem Tks.wd {c : UInt8} {q v : List UInt8} {U : List (Nat × List UInt8 × Nat)} (hc : isL c.toNat = true) (hq : ∀ x ∈ q, alu x = true) (hv : StopB alu v) (h : Tks v U) : Tks (c :: (q ++ v)) ((1, c :: q, 0) :: U) :=
  .tok (blk_L hc) (sh_word c q v hc hq hv) (by rw [List.drop_succ_cons, List.drop_left]; exact h)
theorem Tks.nu {d v : List UInt8} {n : Nat} {U : List (Nat × List UInt8 × Nat)} (hd : d ≠ []) (hg : ∀ x ∈ d, dig x = true) (hr : rdNum d = .tok 2 d n d.length) (hv : StopB dig v) (h : Tks v U) : Tks (d ++ v) ((2, d, n) :: U) := by
  cases d with
  | nil => exact absurd rfl hd
  | cons c q =>
    refine .tok (blk_D (hg c (by simp))) ((sh_num c q v hg hv).trans hr) ?_
    show Tks ((c :: (q ++ v)).drop (c :: q).length) U
    rw [List.length_cons, List.drop_succ_cons, List.drop_left]; exact h
theorem path_tks {b : Bool} {r : List UInt8} {T : List (Nat × List UInt8 × Nat)} (h : PathR b r T) : ∀ (v : List UInt8) (U : List (Nat × List UInt8 × Nat)), StopB alu v → Tks v U → Tks (r ++ v) (T ++ U) := by
  induction h with
  | nil => intro v U _ h; exact h
  | @ix b d r T hd hg hr h ih =>
    intro v U hv hU
    have e : (91 :: (d ++ 93 :: r)) ++ v = 91 :: (d ++ (93 :: (r ++ v))) := by simp
    rw [e]
    exact Tks.sg (by simp [Sg1]) (Tks.nu hd hg hr (.inr ⟨93, _, rfl, by decide⟩) (Tks.sg (by simp [Sg1]) (ih v U hv hU)))
  | @nm c q r T hc hq hk h ih =>
    intro v U hv hU
    have e : (c :: (q ++ r)) ++ v = c :: (q ++ (r ++ v)) := by simp
    rw [e]
    exact Tks.wd hc hq (path_stop h hv) (ih v U hv hU)
  | @dn c q r T hc hq hk h ih =>
    intro v U hv hU
    have e : (46 :: c :: (q ++ r)) ++ v = 46 :: (c :: (q ++ (r ++ v))) := by simp
    rw [e]
    exact Tks.sg (by simp [Sg1]) (Tks.wd hc hq (path_stop h hv) (ih v U hv hU))
/-- a list of tokens that begins with the tokens of a kind and a text -/
theorem map_cons_inv {A : List Tk} {x : Nat × List UInt8 × Nat} {T : List (Nat × List UInt8 × Nat)} (h : A.map kt = x :: T) : ∃ (t : Tk) (A' : List Tk), A = t :: A' ∧ t.k = x.1 ∧ t.t = x.2.1 ∧ t.n = x.2.2 ∧ A'.map kt = T := by
  cases A with
  | nil => cases h
  | cons t A' =>
    injection h with h1 h2
    exact ⟨t, A', rfl, by rw [← h1]; rfl, by rw [← h1]; rfl, by rw [← h1]; rfl, h2⟩
theorem map_nil_inv {A : List Tk} (h : A.map kt = []) : A = [] := by cases A with
  | nil => rfl
  | cons t A' => cases h
theorem test_sg (s : List UInt8) (t : Tk) (h1 : t.k = 5) (h2 : t.t = s) : (Cl.sg s).test t = true := by show (t.k == 5 && t.t == s) = true; rw [h1, h2]; simp
theorem test_wd (s : List UInt8) (t : Tk) (h1 : t.k = 1) (h2 : t.t = s) : (Cl.wd s).test t = true := by show (t.k == 1 && t.t == s) = true; rw [h1, h2]; simp
theorem test_nsg (s : List UInt8) (t : Tk) (h1 : t.k ≠ 5 ∨ t.t ≠ s) : (Cl.sg s).test t = false := by
  show (t.k == 5 && t.t == s) = false
  rcases h1 with h | h
  · rw [show (t.k == 5) = false from beq_eq_false_iff_ne.2 h]; rfl
  · rw [show (t.t == s) = false from beq_eq_false_iff_ne.2 h]; simp
theorem test_nwd (s : List UInt8) (t : Tk) (h1 : t.k ≠ 1 ∨ t.t ≠ s) : (Cl.wd s).test t = false := by
  show (t.k == 1 && t.t == s) = false
  rcases h1 with h | h
  · rw [show (t.k == 1) = false from beq_eq_false_iff_ne.2 h]; rfl
  · rw [show (t.t == s) = false from beq_eq_false_iff_ne.2 h]; simp
theorem item_run (item : List Cl) (t1 t2 t3 : Tk) (X : List Tk) (S : List UInt8) (h1 : t1.k = 5 ∧ t1.t = [91]) (h2 : t2.k = 2) (h3 : t3.k = 5 ∧ t3.t = [93]) : stepP item (t1 :: t2 :: t3 :: X) S = .ok (S ++ (91 :: (t2.t ++ [93]))) X := by
  rw [step_item item (t1 :: t2 :: t3 :: X) S (test_sg [91] t1 h1.1 h1.2)]
  show (if (Cl.kd 2).test t2 then _ else _) = _
  rw [if_pos (by show (t2.k == 2) = true; rw [h2]; rfl)]
  show (if cShut.test t3 then _ else _) = _
  rw [if_pos (show cShut.test t3 = true from test_sg [93] t3 h3.1 h3.2)]
  rfl
theorem path_run {b : Bool} {r : List UInt8} {T : List (Nat × List UInt8 × Nat)} (h : PathR b r T) : b = false → ∀ (f : Nat) (A R : List Tk) (S : List UInt8), A.map kt = T → A.length < f → cDot.test (hd R) = false → cOpen.test (hd R) = false → pathL f (A ++ R) S = .ok (S ++ r) R := by
  induction h with
  | nil =>
    intro _ f A R S hA hf h1 h2
    rw [map_nil_inv hA]
    obtain ⟨g, rfl⟩ : ∃ g, f = g + 1 := ⟨f - 1, by omega⟩
    rw [List.nil_append, pathL_end g R S h1 h2, List.append_nil]
  | @ix b d r T hd hg hr h ih =>
    intro _ f A R S hA hf h1 h2
    obtain ⟨t1, A1, rfl, k1, x1, _, hA1⟩ := map_cons_inv hA
    obtain ⟨t2, A2, rfl, k2, x2, _, hA2⟩ := map_cons_inv hA1
    obtain ⟨t3, A3, rfl, k3, x3, _, hA3⟩ := map_cons_inv hA2
    obtain ⟨g, rfl⟩ : ∃ g, f = g + 1 := ⟨f - 1, by omega⟩
    rw [pathL_cont g _ S (by rw [show cOpen.test (Go.Proofs.YtjgdkiikkgdbaaaGreatDoor.hd (t1 :: t2 :: t3 :: A3 ++ R)) = true from test_sg [91] _ k1 x1, Bool.or_true])]
    show contR g (stepP [cDot, .nm] (t1 :: t2 :: t3 :: (A3 ++ R)) S) = _
    rw [item_run _ t1 t2 t3 _ S ⟨k1, x1⟩ k2 ⟨k3, x3⟩]
    show pathL g (A3 ++ R) _ = _
    rw [ih rfl g A3 R _ hA3 (by simp at hf; omega) h1 h2, x2]
    simp
  | nm => intro hb; cases hb
  | @dn c q r T hc hq hk h ih =>
    intro _ f A R S hA hf h1 h2
    obtain ⟨t1, A1, rfl, k1, x1, _, hA1⟩ := map_cons_inv hA
    obtain ⟨t2, A2, rfl, k2, x2, _, hA2⟩ := map_cons_inv hA1
    obtain ⟨g, rfl⟩ : ∃ g, f = g + 1 := ⟨f - 1, by omega⟩
    have hdt : cDot.test t1 = true := test_sg [46] _ k1 x1
    rw [pathL_cont g _ S (by rw [show cDot.test (Go.Proofs.YtjgdkiikkgdbaaaGreatDoor.hd (t1 :: t2 :: A2 ++ R)) = true from hdt, Bool.true_or])]
    show contR g (stepP [cDot, .nm] (t1 :: t2 :: (A2 ++ R)) S) = _
    rw [step_dot (t1 :: t2 :: (A2 ++ R)) S hdt (dot_open hdt)]
    show contR g (if Cl.nm.test t2 then _ else _) = _
    rw [if_pos (by show (t2.k == 1 && !wordsL.contains t2.t) = true; rw [k2, x2, hk]; rfl)]
    show pathL g (A2 ++ R) (S ++ [46] ++ t2.t) = _
    rw [ih rfl g A2 R _ hA2 (by simp at hf; omega) h1 h2, x2]
    simp
theorem path_all {r : List UInt8} {T : List (Nat × List UInt8 × Nat)} (h : PathR true r T) (A R : List Tk) (hA : A.map kt = T) (hl : A.length ≤ 99) (h1 : cDot.test (hd R) = false) (h2 : cOpen.test (hd R) = false) : pathS (A ++ R) = .ok r R := by
  rw [pathS_cont]
  cases h with
  | @ix _ d r T hd hg hr h =>
    obtain ⟨t1, A1, rfl, k1, x1, _, hA1⟩ := map_cons_inv hA
    obtain ⟨t2, A2, rfl, k2, x2, _, hA2⟩ := map_cons_inv hA1
    obtain ⟨t3, A3, rfl, k3, x3, _, hA3⟩ := map_cons_inv hA2
    show contR 100 (stepP [.nm] (t1 :: t2 :: t3 :: (A3 ++ R)) []) = _
    rw [item_run _ t1 t2 t3 _ [] ⟨k1, x1⟩ k2 ⟨k3, x3⟩]
    show pathL 100 (A3 ++ R) _ = _
    rw [path_run h rfl 100 A3 R _ hA3 (by simp at hl; omega) h1 h2, x2]
    simp
  | @nm c q r T hc hq hk h =>
    obtain ⟨t2, A2, rfl, k2, x2, _, hA2⟩ := map_cons_inv hA
    have k2' : t2.k = 1 := k2
    have ho : cOpen.test t2 = false := test_nsg [91] t2 (.inl (by omega))
    show contR 100 (stepP [.nm] (t2 :: (A2 ++ R)) []) = _
    rw [step_name (t2 :: (A2 ++ R)) [] ho]
    show contR 100 (if Cl.nm.test t2 then _ else _) = _
    rw [if_pos (by show (t2.k == 1 && !wordsL.contains t2.t) = true; rw [k2, x2, hk]; rfl)]
    show pathL 100 (A2 ++ R) ([] ++ t2.t) = _
    rw [path_run h rfl 100 A2 R _ hA2 (by simp at hl; omega) h1 h2, x2]
    simp
/-- an operand, its text, its tokens -/
inductive OpR : Opd → List UInt8 → List (Nat × List UInt8 × Nat) → Prop
  | path {s : List UInt8} {T : List (Nat × List UInt8 × Nat)} (h : PathR true s T) : OpR ⟨1, bs s, false, 0⟩ s T
  | num {n : Nat} (h : n < 18446744073709551616) : OpR ⟨2, ⟨#[]⟩, false, (n : Nat)⟩ (Lib.decDigits n) [(2, Lib.decDigits n, n)]
  | neg {n : Nat} (h : n < 18446744073709551616) : OpR ⟨2, ⟨#[]⟩, true, (n : Nat)⟩ (45 :: Lib.decDigits n) [(5, [45], 0), (2, Lib.decDigits n, n)]
  | text {t : List UInt8} (h : ∀ x ∈ t, badB x = false) : OpR ⟨3, bs t, false, 0⟩ (quoteL t) [(3, t, 0)]
  | tru : OpR ⟨4, ⟨#[]⟩, false, 1⟩ kTRUE [(1, kTRUE, 0)]
  | fls : OpR ⟨4, ⟨#[]⟩, false, 0⟩ kFALSE [(1, kFALSE, 0)]
  | par {d : Nat} (h : d < 10) : OpR ⟨5, ⟨#[]⟩, false, (d : Nat)⟩ (37 :: Lib.decDigits d) [(4, 37 :: Lib.decDigits d, d)]
/-- what may stand behind a printed piece: nothing, a blank, or a closing bracket -/
def StopA (v : List UInt8) : Prop := v = [] ∨ ∃ d r, v = d :: r ∧ (d = 32 ∨ d = 41)
theorem StopA.of {v : List UInt8} (h : StopA v) (p : UInt8 → Bool) (h1 : p 32 = false) (h2 : p 41 = false) : StopB p v := by
  rcases h with rfl | ⟨d, r, rfl, rfl | rfl⟩
  · exact .inl rfl
  · exact .inr ⟨32, r, rfl, h1⟩
  · exact .inr ⟨41, r, rfl, h2⟩
theorem sh_dec_ne (n : Nat) : Lib.decDigits n ≠ [] := by
  obtain ⟨c, q, h, _⟩ := dec_head n n (Nat.le_refl _)
  rw [h]; simp
theorem opd_tks {o : Opd} {s : List UInt8} {T : List (Nat × List UInt8 × Nat)} (h : OpR o s T) (v : List UInt8) (U : List (Nat × List UInt8 × Nat)) (hv : StopA v) (hU : Tks v U) : Tks (s ++ v) (T ++ U) := by
  cases h with
  | path h => exact path_tks h v U (hv.of alu (by decide) (by decide)) hU
  | @num n h => exact Tks.nu (sh_dec_ne n) (dec_dig n n (Nat.le_refl _)) (rd_dec n h) (hv.of dig (by decide) (by decide)) hU
  | @neg n h => exact Tks.sg (by simp [Sg1]) (Tks.nu (sh_dec_ne n) (dec_dig n n (Nat.le_refl _)) (rd_dec n h) (hv.of dig (by decide) (by decide)) hU)
  | @text t h =>
    have hq := sh_quote t v h (hv.of _ (by decide) (by decide))
    have e : quoteL t ++ v = 39 :: (dbl t ++ 39 :: v) := by unfold quoteL; simp
    rw [e] at hq ⊢
    refine .tok (by decide) hq ?_
    rw [List.drop_succ_cons, show dbl t ++ 39 :: v = (dbl t ++ [39]) ++ v by simp]
    have hl : (dbl t ++ [39]).length = (dbl t).length + 1 := by simp
    rw [← hl, List.drop_left]; exact hU
  | tru => exact Tks.wd (c := 84) (q := [82, 85, 69]) (by decide) (by decide) (hv.of alu (by decide) (by decide)) hU
  | fls => exact Tks.wd (c := 70) (q := [65, 76, 83, 69]) (by decide) (by decide) (hv.of alu (by decide) (by decide)) hU
  | @par d h =>
    rw [Lib.decDigits_one h]
    exact .tok (by decide) (sh_par d v h) hU
/-- what may stand behind an operand's tokens -/
def FolN (R : List Tk) : Prop := cDot.test (hd R) = false ∧ cOpen.test (hd R) = false
theorem opd_run {o : Opd} {s : List UInt8} {T : List (Nat × List UInt8 × Nat)} (h : OpR o s T) (A R : List Tk) (hA : A.map kt = T) (hl : A.length ≤ 99) (hR : FolN R) : operandP (A ++ R) = .ok o R := by
  cases h with
  | @path s T h =>
    have hp := path_all h A R hA hl hR.1 hR.2
    have hm : operandP (A ++ R) = pathP (A ++ R) := by
      cases h with
      | ix =>
        obtain ⟨t1, A1, rfl, k1, x1, _, hA1⟩ := map_cons_inv hA
        have k1 : t1.k = 5 := k1
        have x1 : t1.t = [91] := x1
        exact opd_path (l := t1 :: A1 ++ R) (test_nsg [45] t1 (.inr (by rw [x1]; decide))) (by show t1.k ≠ 2; omega) (by show t1.k ≠ 3; omega) (by show t1.k ≠ 4; omega) (test_nwd _ t1 (.inl (by omega))) (test_nwd _ t1 (.inl (by omega)))
      | @nm c q r T hc hq hk h =>
        obtain ⟨t1, A1, rfl, k1, x1, _, hA1⟩ := map_cons_inv hA
        have k1 : t1.k = 1 := k1
        have x1 : t1.t = c :: q := x1
        have hw : ∀ s ∈ wordsL, t1.t ≠ s := fun s hs e => by
          rw [← x1, e, List.contains_iff_mem.2 hs] at hk; cases hk
        exact opd_path (l := t1 :: A1 ++ R) (test_nsg [45] t1 (.inl (by omega))) (by show t1.k ≠ 2; omega) (by show t1.k ≠ 3; omega) (by show t1.k ≠ 4; omega) (test_nwd _ t1 (.inr (hw _ (by simp [wordsL, kTRUE])))) (test_nwd _ t1 (.inr (hw _ (by simp [wordsL, kFALSE]))))
    rw [hm]
    unfold pathP
    rw [hp]
    rfl
  | @num n h =>
    obtain ⟨t1, A1, rfl, k1, x1, n1, hA1⟩ := map_cons_inv hA
    rw [map_nil_inv hA1]
    have n1 : t1.n = n := n1
    have := opd_num (l := [t1] ++ R) k1
    rw [this]
    show PR.ok (⟨2, ⟨#[]⟩, false, ((t1.n : Nat) : Int)⟩ : Opd) R = _
    rw [n1]
  | @neg n h =>
    obtain ⟨t1, A1, rfl, k1, x1, _, hA1⟩ := map_cons_inv hA
    obtain ⟨t2, A2, rfl, k2, x2, n2, hA2⟩ := map_cons_inv hA1
    rw [map_nil_inv hA2]
    have n2 : t2.n = n := n2
    rw [opd_minus (l := [t1, t2] ++ R) (test_sg [45] t1 k1 x1)]
    show numP true (t2 :: R) = _
    unfold numP
    rw [if_pos (by show (t2.k == 2) = true; rw [k2]; rfl)]
    show PR.ok (⟨2, ⟨#[]⟩, true, ((t2.n : Nat) : Int)⟩ : Opd) R = _
    rw [n2]
  | @text t h =>
    obtain ⟨t1, A1, rfl, k1, x1, n1, hA1⟩ := map_cons_inv hA
    rw [map_nil_inv hA1]
    have x1 : t1.t = t := x1
    rw [opd_text (l := [t1] ++ R) k1]
    show PR.ok (⟨3, ⟨t1.t.toArray⟩, false, 0⟩ : Opd) R = _
    rw [x1]; rfl
  | tru =>
    obtain ⟨t1, A1, rfl, k1, x1, n1, hA1⟩ := map_cons_inv hA
    rw [map_nil_inv hA1, opd_true (l := [t1] ++ R) (test_wd kTRUE t1 k1 x1)]; rfl
  | fls =>
    obtain ⟨t1, A1, rfl, k1, x1, n1, hA1⟩ := map_cons_inv hA
    have x1 : t1.t = kFALSE := x1
    rw [map_nil_inv hA1, opd_false (l := [t1] ++ R) (test_nwd kTRUE t1 (.inr (by rw [x1]; decide))) (test_wd kFALSE t1 k1 x1)]; rfl
  | @par d h =>
    obtain ⟨t1, A1, rfl, k1, x1, n1, hA1⟩ := map_cons_inv hA
    rw [map_nil_inv hA1]
    have n1 : t1.n = d := n1
    rw [opd_par (l := [t1] ++ R) k1]
    show PR.ok (⟨5, ⟨#[]⟩, false, ((t1.n : Nat) : Int)⟩ : Opd) R = _
    rw [n1]
end Go.Proofs.YtjgdkiikkgdbaaaGreatDoor
