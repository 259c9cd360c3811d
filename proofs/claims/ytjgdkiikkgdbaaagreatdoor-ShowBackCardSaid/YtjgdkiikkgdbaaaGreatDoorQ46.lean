/- Chapter 16 in plain Lean: what is printed is parsed as it was, or stands too deep. No run of the program. -/
import Derived.Test.YtjgdkiikkgdbaaaGreatDoorQ42
namespace Go.Proofs.YtjgdkiikkgdbaaaGreatDoor
open Go
set_option linter.unusedVariables false
def FolA (R : List Tk) : Prop := FolN R ∧ (Cl.wd kAND).test (hd R) = false
def FolO (R : List Tk) : Prop := FolA R ∧ (Cl.wd kOR).test (hd R) = false
/-- a parser reads a tree off its tokens where it does not stand too deep -/
def GoodP (P : List Tk → PR XT) (K : List KT) (Fol : List Tk → Prop) (c : Prop) (T : XT) : Prop := ∀ (A R : List Tk), A.map kt = K → (A ++ R).length ≤ 99 → Fol R → (c → ∃ x, P (A ++ R) = .ok x R ∧ SameX x T) ∧ (¬ c → ∃ l, P (A ++ R) = .err 9 l)
theorem serL_one {P : List Tk → PR XT} {w : List UInt8} {f : Nat} {l R : List Tk} {a : List XT} {x : XT} (h : P l = .ok x R) (ht : (Cl.wd w).test (hd R) = false) : serL P w (f + 1) l a = .ok (a ++ [x]) R := by
  rw [serL, h]
  show (if (Cl.wd w).test (hd R) = true then _ else _) = _
  rw [if_neg (by rw [ht]; decide)]
theorem serL_err {P : List Tk → PR XT} {w : List UInt8} {f : Nat} {l R : List Tk} {a : List XT} {e : Nat} (h : P l = .err e R) : serL P w (f + 1) l a = .err e R := by
  rw [serL, h]
theorem serL_more {P : List Tk → PR XT} {w : List UInt8} {f : Nat} {l R : List Tk} {a : List XT} {x : XT} (h : P l = .ok x R) (ht : (Cl.wd w).test (hd R) = true) : serL P w (f + 1) l a = serL P w f R.tail (a ++ [x]) := by
  rw [serL, h]
  show (if (Cl.wd w).test (hd R) = true then _ else _) = _
  rw [if_pos ht]
/-- what stands alone between words -/
theorem GoodP.single {P : List Tk → PR XT} {K : List KT} {F F' : List Tk → Prop} {c : Prop} {T : XT} (op : Int) (w : List UInt8) (h : GoodP P K F c T) (hF : ∀ R, F' R → F R ∧ (Cl.wd w).test (hd R) = false) : GoodP (serP op w P) K F' c T := by
  intro A R hA hl hR
  obtain ⟨h1, h2⟩ := h A R hA hl (hF R hR).1
  refine ⟨fun hc => ?_, fun hc => ?_⟩
  · obtain ⟨x, hx, hs⟩ := h1 hc
    refine ⟨x, ?_, hs⟩
    unfold serP
    rw [serL_one hx (hF R hR).2]
    rfl
  · obtain ⟨l, hx⟩ := h2 hc
    refine ⟨l, ?_⟩
    unfold serP
    rw [serL_err hx]
    rfl
/-- several, with a word between -/
theorem ser_many {P : List Tk → PR XT} {w : List UInt8} {F F' : List Tk → Prop} (hF : ∀ R, F' R → F R ∧ (Cl.wd w).test (hd R) = false) (hw : ∀ R, (Cl.wd w).test (hd R) = true → F R) (X : Nat → XT) (K : Nat → List KT) (C : Nat → Prop) : ∀ (l : List Nat), l ≠ [] → (∀ i ∈ l, GoodP P (K i) F (C i) (X i)) → ∀ (f : Nat) (A R : List Tk) (a : List XT), l.length ≤ f → A.map kt = joinK w (l.map K) → (A ++ R).length ≤ 99 → F' R →
    ((∀ i ∈ l, C i) → ∃ xs, serL P w f (A ++ R) a = .ok (a ++ xs) R ∧ xs.length = l.length ∧ ∀ i, i < l.length → SameX (xs.getD i .nil) (X (l.getD i 0))) ∧ ((¬ ∀ i ∈ l, C i) → ∃ m, serL P w f (A ++ R) a = .err 9 m)
  | [], h, _ => absurd rfl h
  | [i], _, hP => by
    intro f A R a hf hA hl hR
    obtain ⟨g, rfl⟩ : ∃ g, f = g + 1 := ⟨f - 1, by simp at hf; omega⟩
    obtain ⟨h1, h2⟩ := hP i (by simp) A R hA hl (hF R hR).1
    refine ⟨fun hc => ?_, fun hc => ?_⟩
    · obtain ⟨x, hx, hs⟩ := h1 (hc i (by simp))
      refine ⟨[x], serL_one hx (hF R hR).2, rfl, fun j hj => ?_⟩
      obtain rfl : j = 0 := by simp at hj; exact hj
      exact hs
    · obtain ⟨m, hx⟩ := h2 (fun hci => hc (fun j hj => by simp at hj; subst hj; exact hci))
      exact ⟨m, serL_err hx⟩
  | i :: j :: r, _, hP => by
    intro f A R a hf hA hl hR
    obtain ⟨g, rfl⟩ : ∃ g, f = g + 1 := ⟨f - 1, by simp at hf; omega⟩
    obtain ⟨B, D, rfl, hB, hD⟩ := map_app_inv (show A.map kt = K i ++ (1, w, 0) :: joinK w ((j :: r).map K) from hA)
    obtain ⟨t, E, rfl, k1, k2, _, hE⟩ := map_cons_inv hD
    have ht : (Cl.wd w).test t = true := test_wd w t k1 k2
    have e : (B ++ t :: E) ++ R = B ++ (t :: (E ++ R)) := by simp
    rw [e] at hl ⊢
    obtain ⟨h1, h2⟩ := hP i (by simp) B (t :: (E ++ R)) hB hl (hw _ ht)
    by_cases hci : C i
    · obtain ⟨x, hx, hs⟩ := h1 hci
      have hm := serL_more (w := w) (f := g) (a := a) hx ht
      rw [hm]
      have ih := ser_many hF hw X K C (j :: r) (by simp) (fun q hq => hP q (by simp [hq])) g E R (a ++ [x]) (by simp at hf ⊢; omega) hE (by simp at hl ⊢; omega) hR
      refine ⟨fun hc => ?_, fun hc => ?_⟩
      · obtain ⟨xs, h3, h4, h5⟩ := ih.1 (fun q hq => hc q (by simp [hq]))
        refine ⟨x :: xs, by show serL P w g (E ++ R) (a ++ [x]) = _; rw [h3]; simp, by simp [h4], fun q hq => ?_⟩
        cases q with
        | zero => exact hs
        | succ q => exact h5 q (by simp at hq ⊢; omega)
      · exact ih.2 (fun hall => hc (fun q hq => by
          rcases List.mem_cons.1 hq with rfl | hq
          · exact hci
          · exact hall q hq))
    · obtain ⟨m, hx⟩ := h2 hci
      exact ⟨fun hc => absurd (hc i (by simp)) hci, fun _ => ⟨m, serL_err hx⟩⟩
theorem folN_sg (t : Tk) (R : List Tk) (h : t.k = 1 ∨ t.k = 5 ∧ t.t = [41]) : FolN (t :: R) := by
  rcases h with h | ⟨h, h2⟩
  · exact ⟨test_nsg _ t (.inl (by omega)), test_nsg _ t (.inl (by omega))⟩
  · exact ⟨test_nsg _ t (.inr (by rw [h2]; decide)), test_nsg _ t (.inr (by rw [h2]; decide))⟩
theorem folO_par (t : Tk) (R : List Tk) (h : t.k = 5 ∧ t.t = [41]) : FolO (t :: R) :=
  ⟨⟨folN_sg t R (.inr h), test_nwd _ t (.inl (by omega))⟩, test_nwd _ t (.inl (by omega))⟩
/-- brackets -/
theorem GoodP.par {K : List KT} {d : Nat} {T : XT} (h : ∀ k, GoodP (orP k) K FolO (d ≤ k) T) (k : Nat) : GoodP (notP k) ((5, [40], 0) :: (K ++ [(5, [41], 0)])) FolN (d + 1 ≤ k) T := by
  intro A R hA hl hR
  obtain ⟨t, E, rfl, k1, k2, _, hE⟩ := map_cons_inv hA
  obtain ⟨B, D, rfl, hB, hD⟩ := map_app_inv hE
  obtain ⟨u, G, rfl, u1, u2, _, hG⟩ := map_cons_inv hD
  rw [map_nil_inv hG] at hl ⊢
  have hn : (Cl.wd kNOT).test t = false := test_nwd _ t (.inl (by rw [k1]; decide))
  have hp : cPar.test t = true := test_sg [40] t k1 k2
  have e : (t :: (B ++ [u])) ++ R = t :: (B ++ (u :: R)) := by simp
  rw [e] at hl ⊢
  cases k with
  | zero =>
    refine ⟨fun hc => absurd hc (by omega), fun _ => ⟨_, notP_deep (t :: (B ++ (u :: R))) (by show ((Cl.wd kNOT).test t || cPar.test t) = true; rw [hp, Bool.or_true])⟩⟩
  | succ k =>
    rw [notP_par k (t :: (B ++ (u :: R))) hn hp]
    obtain ⟨h1, h2⟩ := h k B (u :: R) hB (by simp at hl ⊢; omega) (folO_par u R ⟨u1, u2⟩)
    refine ⟨fun hc => ?_, fun hc => ?_⟩
    · obtain ⟨x, hx, hs⟩ := h1 (by omega)
      refine ⟨x, ?_, hs⟩
      show closeR (orP k (B ++ (u :: R))) = _
      rw [hx]
      show (if cEnd.test u then PR.ok x R else .err 11 _) = _
      rw [if_pos (show cEnd.test u = true from test_sg [41] u u1 u2)]
    · obtain ⟨l, hx⟩ := h2 (by omega)
      refine ⟨l, ?_⟩
      show closeR (orP k (B ++ (u :: R))) = _
      rw [hx]
      rfl
/-- a NOT -/
theorem GoodP.neg {K : List KT} {d : Nat} {T : XT} (h : ∀ k, GoodP (notP k) K FolN (d ≤ k) T) (k : Nat) {U : XT} (hU : ∀ x, SameX x T → SameX (mkX 4 0 [] [x]) U) : GoodP (notP k) ((1, kNOT, 0) :: K) FolN (1 + d ≤ k) U := by
  intro A R hA hl hR
  obtain ⟨t, E, rfl, k1, k2, _, hE⟩ := map_cons_inv hA
  have hn : (Cl.wd kNOT).test t = true := test_wd _ t k1 k2
  have e : (t :: E) ++ R = t :: (E ++ R) := rfl
  rw [e] at hl ⊢
  cases k with
  | zero => exact ⟨fun hc => absurd hc (by omega), fun _ => ⟨_, notP_deep (t :: (E ++ R)) (by show ((Cl.wd kNOT).test t || cPar.test t) = true; rw [hn]; rfl)⟩⟩
  | succ k =>
    rw [notP_not k (t :: (E ++ R)) hn]
    obtain ⟨h1, h2⟩ := h k E R hE (by simp at hl ⊢; omega) hR
    refine ⟨fun hc => ?_, fun hc => ?_⟩
    · obtain ⟨x, hx, hs⟩ := h1 (by omega)
      refine ⟨_, ?_, hU x hs⟩
      show negR (notP k (E ++ R)) = _
      rw [hx]; rfl
    · obtain ⟨l, hx⟩ := h2 (by omega)
      refine ⟨l, ?_⟩
      show negR (notP k (E ++ R)) = _
      rw [hx]; rfl
theorem opd_head {o : Opd} {s : List UInt8} {T : List KT} (h : OpR o s T) (A R : List Tk) (hA : A.map kt = T) : (Cl.wd kNOT).test (hd (A ++ R)) = false ∧ cPar.test (hd (A ++ R)) = false := by
  have key : ∀ (t : Tk) (A1 : List Tk), A = t :: A1 → (t.k ≠ 1 ∨ t.t ≠ kNOT) → (t.k ≠ 5 ∨ t.t ≠ [40]) → (Cl.wd kNOT).test (hd (A ++ R)) = false ∧ cPar.test (hd (A ++ R)) = false := by
    intro t A1 e h1 h2
    subst e
    exact ⟨test_nwd _ t h1, test_nsg _ t h2⟩
  cases h with
  | path h =>
    cases h with
    | ix =>
      obtain ⟨t, A1, e, k1, x1, _, _⟩ := map_cons_inv hA
      have k1 : t.k = 5 := k1
      have x1 : t.t = [91] := x1
      exact key t A1 e (.inl (by omega)) (.inr (by rw [x1]; decide))
    | @nm c q r T hc hq hk h =>
      obtain ⟨t, A1, e, k1, x1, _, _⟩ := map_cons_inv hA
      have k1 : t.k = 1 := k1
      have x1 : t.t = c :: q := x1
      exact key t A1 e (.inr (fun e2 => by rw [← x1, e2] at hk; exact absurd hk (by decide))) (.inl (by omega))
  | num h =>
    obtain ⟨t, A1, e, k1, x1, _, _⟩ := map_cons_inv hA
    have k1 : t.k = 2 := k1
    exact key t A1 e (.inl (by omega)) (.inl (by omega))
  | neg h =>
    obtain ⟨t, A1, e, k1, x1, _, _⟩ := map_cons_inv hA
    have k1 : t.k = 5 := k1
    have x1 : t.t = [45] := x1
    exact key t A1 e (.inl (by omega)) (.inr (by rw [x1]; decide))
  | text h =>
    obtain ⟨t, A1, e, k1, x1, _, _⟩ := map_cons_inv hA
    have k1 : t.k = 3 := k1
    exact key t A1 e (.inl (by omega)) (.inl (by omega))
  | tru =>
    obtain ⟨t, A1, e, k1, x1, _, _⟩ := map_cons_inv hA
    have k1 : t.k = 1 := k1
    have x1 : t.t = kTRUE := x1
    exact key t A1 e (.inr (by rw [x1]; decide)) (.inl (by omega))
  | fls =>
    obtain ⟨t, A1, e, k1, x1, _, _⟩ := map_cons_inv hA
    have k1 : t.k = 1 := k1
    have x1 : t.t = kFALSE := x1
    exact key t A1 e (.inr (by rw [x1]; decide)) (.inl (by omega))
  | par h =>
    obtain ⟨t, A1, e, k1, x1, _, _⟩ := map_cons_inv hA
    have k1 : t.k = 4 := k1
    exact key t A1 e (.inl (by omega)) (.inl (by omega))
theorem rel_fol (t : Tk) (R : List Tk) (r : Nat) (h1 : 1 ≤ r) (h6 : r ≤ 6) (k1 : t.k = 5) (k2 : t.t = relL r) : FolN (t :: R) := by
  have h : relL r ≠ [46] ∧ relL r ≠ [91] := by
    rcases (show r = 1 ∨ r = 2 ∨ r = 3 ∨ r = 4 ∨ r = 5 ∨ r = 6 by omega) with rfl | rfl | rfl | rfl | rfl | rfl <;> decide
  exact ⟨test_nsg _ t (.inr (by rw [k2]; exact h.1)), test_nsg _ t (.inr (by rw [k2]; exact h.2))⟩
/-- the tests -/
theorem good_rel (o0 o1 : Opd) (h0 : MayO o0) (h1 : MayO o1) (r : Nat) (r1 : 1 ≤ r) (r6 : r ≤ 6) (k : Nat) : GoodP (notP k) (opTk o0 ++ (5, relL r, 0) :: opTk o1) FolN (0 ≤ k) (mkX 1 (r : Nat) [o0, o1] []) := by
  intro A R hA hl hR
  refine ⟨fun _ => ?_, fun hc => absurd (Nat.zero_le k) hc⟩
  obtain ⟨B, D, rfl, hB, hD⟩ := map_app_inv hA
  obtain ⟨t, E, rfl, k1, k2, _, hE⟩ := map_cons_inv hD
  have e : (B ++ t :: E) ++ R = B ++ (t :: (E ++ R)) := by simp
  rw [e] at hl ⊢
  have hh := opd_head h0.ok B (t :: (E ++ R)) hB
  refine ⟨_, ?_, sameX_refl _⟩
  have hll : (B ++ t :: (E ++ R)).length = B.length + 1 + (E.length + R.length) := by simp; omega
  rw [notP_test k _ hh.1 hh.2, testP_ok (opd_run h0.ok B (t :: (E ++ R)) hB (by omega) (rel_fol t _ r r1 r6 k1 k2))]
  have k1 : t.k = 5 := k1
  have hrt := relT_of t r r1 (by omega) (test_sg (relL r) t k1 k2)
  have hrl : Cl.rl.test t = true := by show (!(relT t == 0)) = true; rw [hrt]; simp; omega
  unfold testO
  rw [if_neg (by rw [show (Cl.wd kNOT).test (hd (t :: (E ++ R))) = false from test_nwd _ t (.inl (by omega))]; decide), if_neg (by rw [show (Cl.wd kBETWEEN).test (hd (t :: (E ++ R))) = false from test_nwd _ t (.inl (by omega))]; decide), if_neg (by rw [show (Cl.wd kLIKE).test (hd (t :: (E ++ R))) = false from test_nwd _ t (.inl (by omega))]; decide)]
  rw [furX_one _ _ _ (t :: (E ++ R)) _ hrl]
  show (match operandP (E ++ R) with | .err e l' => PR.err e l' | .ok o2 l' => .ok (mkX 1 (relT t : Nat) [o0, o2] []) l') = _
  rw [opd_run h1.ok E R hE (by omega) hR, hrt]
theorem good_like (o0 o1 : Opd) (h0 : MayO o0) (h1 : MayO o1) (k : Nat) : GoodP (notP k) (opTk o0 ++ (1, kLIKE, 0) :: opTk o1) FolN (0 ≤ k) (mkX 3 0 [o0, o1] []) := by
  intro A R hA hl hR
  refine ⟨fun _ => ?_, fun hc => absurd (Nat.zero_le k) hc⟩
  obtain ⟨B, D, rfl, hB, hD⟩ := map_app_inv hA
  obtain ⟨t, E, rfl, k1, k2, _, hE⟩ := map_cons_inv hD
  have e : (B ++ t :: E) ++ R = B ++ (t :: (E ++ R)) := by simp
  rw [e] at hl ⊢
  have hh := opd_head h0.ok B (t :: (E ++ R)) hB
  refine ⟨_, ?_, sameX_refl _⟩
  have hll : (B ++ t :: (E ++ R)).length = B.length + 1 + (E.length + R.length) := by simp; omega
  rw [notP_test k _ hh.1 hh.2, testP_ok (opd_run h0.ok B (t :: (E ++ R)) hB (by omega) (folN_sg t _ (.inl k1)))]
  have k2 : t.t = kLIKE := k2
  have hlk : (Cl.wd kLIKE).test t = true := test_wd _ t k1 k2
  unfold testO
  rw [if_neg (by rw [show (Cl.wd kNOT).test (hd (t :: (E ++ R))) = false from test_nwd _ t (.inr (by rw [k2]; decide))]; decide), if_neg (by rw [show (Cl.wd kBETWEEN).test (hd (t :: (E ++ R))) = false from test_nwd _ t (.inr (by rw [k2]; decide))]; decide), if_pos (show (Cl.wd kLIKE).test (hd (t :: (E ++ R))) = true from hlk)]
  rw [furX_one _ _ _ (t :: (E ++ R)) _ hlk]
  show (match operandP (E ++ R) with | .err e l' => PR.err e l' | .ok o2 l' => .ok (mkX 3 0 [o0, o2] []) l') = _
  rw [opd_run h1.ok E R hE (by omega) hR]
theorem good_btw (o0 o1 o2 : Opd) (h0 : MayO o0) (h1 : MayO o1) (h2 : MayO o2) (k : Nat) : GoodP (notP k) (opTk o0 ++ (1, kBETWEEN, 0) :: (opTk o1 ++ (1, kAND, 0) :: opTk o2)) FolN (0 ≤ k) (mkX 2 0 [o0, o1, o2] []) := by
  intro A R hA hl hR
  refine ⟨fun _ => ?_, fun hc => absurd (Nat.zero_le k) hc⟩
  obtain ⟨B, D, rfl, hB, hD⟩ := map_app_inv hA
  obtain ⟨t, E, rfl, k1, k2, _, hE⟩ := map_cons_inv hD
  obtain ⟨F, G, rfl, hF, hG⟩ := map_app_inv hE
  obtain ⟨u, H, rfl, u1, u2, _, hH⟩ := map_cons_inv hG
  have e : (B ++ t :: (F ++ u :: H)) ++ R = B ++ (t :: (F ++ (u :: (H ++ R)))) := by simp
  rw [e] at hl ⊢
  have hh := opd_head h0.ok B (t :: (F ++ (u :: (H ++ R)))) hB
  refine ⟨_, ?_, sameX_refl _⟩
  have hll : (B ++ t :: (F ++ (u :: (H ++ R)))).length = B.length + 1 + (F.length + 1 + (H.length + R.length)) := by simp; omega
  rw [notP_test k _ hh.1 hh.2, testP_ok (opd_run h0.ok B _ hB (by omega) (folN_sg t _ (.inl k1)))]
  have k2 : t.t = kBETWEEN := k2
  have hbt : (Cl.wd kBETWEEN).test t = true := test_wd _ t k1 k2
  have hand : (Cl.wd kAND).test u = true := test_wd _ u u1 u2
  unfold testO
  rw [if_neg (by rw [show (Cl.wd kNOT).test (hd (t :: (F ++ (u :: (H ++ R))))) = false from test_nwd _ t (.inr (by rw [k2]; decide))]; decide), if_pos (show (Cl.wd kBETWEEN).test (hd (t :: (F ++ (u :: (H ++ R))))) = true from hbt)]
  unfold furX betw
  rw [furP, if_pos (show (Cl.wd kBETWEEN).test (hd (t :: (F ++ (u :: (H ++ R))))) = true from hbt)]
  have e1 : operandP (t :: (F ++ (u :: (H ++ R)))).tail = .ok o1 (u :: (H ++ R)) := opd_run h1.ok F (u :: (H ++ R)) hF (by omega) (folN_sg u _ (.inl u1))
  rw [e1]
  show (match furP [.wd kAND] (u :: (H ++ R)) ([o0] ++ [o1]) with | .err e l' => PR.err e l' | .ok b l' => .ok (mkX 2 0 b []) l') = _
  rw [furP, if_pos (show (Cl.wd kAND).test (hd (u :: (H ++ R))) = true from hand)]
  have e2 : operandP (u :: (H ++ R)).tail = .ok o2 R := opd_run h2.ok H R hH (by omega) hR
  rw [e2]
  rfl
theorem same_mk (T : XT) (op rel : Int) (os : List Opd) (h1 : T.op = op) (h2 : T.rel = rel) (h3 : T.an = os.length) (h4 : ∀ i, i < os.length → T.arg i = os.getD i default) (h5 : T.kn = 0) : SameX (mkX op rel os []) T :=
  (sameX_iff _ _).2 ⟨h1.symm, h2.symm, h3.symm, fun i hi => (h4 i hi).symm, h5.symm, fun i hi => absurd hi (Nat.not_lt_zero i)⟩
theorem GoodP.same {P : List Tk → PR XT} {K : List KT} {F : List Tk → Prop} {c : Prop} {T U : XT} (h : GoodP P K F c T) (hs : SameX T U) : GoodP P K F c U := fun A R hA hl hR => by
  obtain ⟨h1, h2⟩ := h A R hA hl hR
  exact ⟨fun hc => by obtain ⟨x, hx, hxs⟩ := h1 hc; exact ⟨x, hx, sameX_trans _ _ _ hxs hs⟩, h2⟩
def Run3 (T : XT) : Prop := (T.op ≠ 5 → T.op ≠ 6 → ∀ k, GoodP (notP k) (toksX T) FolN (nestX T ≤ k) T) ∧ (T.op ≠ 6 → ∀ k, GoodP (serP 5 kAND (notP k)) (toksX T) FolA (nestX T ≤ k) T) ∧ ∀ k, GoodP (orP k) (toksX T) FolO (nestX T ≤ k) T
theorem run3_test {T : XT} (h5 : T.op ≠ 5) (h6 : T.op ≠ 6) (h : ∀ k, GoodP (notP k) (toksX T) FolN (nestX T ≤ k) T) : Run3 T := by
  have hA : ∀ k, GoodP (serP 5 kAND (notP k)) (toksX T) FolA (nestX T ≤ k) T := fun k => GoodP.single 5 kAND (h k) (fun R hR => hR)
  exact ⟨fun _ _ => h, fun _ => hA, fun k => GoodP.single 6 kOR (hA k) (fun R hR => hR)⟩
/-- a kid of a NOT or an AND -/
theorem kid_not {T : XT} (h : Run3 T) (p : Int) (hp : p = 4 ∨ p = 5) (k : Nat) : GoodP (notP k) (kidK p T.op (toksX T)) FolN (kidD p T.op (nestX T) ≤ k) T := by
  unfold kidK kidD
  by_cases hq : paren p T.op = true
  · rw [if_pos hq, if_pos hq]; exact GoodP.par h.2.2 k
  · rw [if_neg hq, if_neg hq]
    have h5 : T.op ≠ 5 := fun e => hq (by unfold paren; rw [e]; rcases hp with rfl | rfl <;> rfl)
    have h6 : T.op ≠ 6 := fun e => hq (by unfold paren; rw [e]; rfl)
    exact h.1 h5 h6 k
/-- a kid of an OR -/
theorem kid_or {T : XT} (h : Run3 T) (k : Nat) : GoodP (serP 5 kAND (notP k)) (kidK 6 T.op (toksX T)) FolA (kidD 6 T.op (nestX T) ≤ k) T := by
  unfold kidK kidD
  by_cases hq : paren 6 T.op = true
  · rw [if_pos hq, if_pos hq]; exact GoodP.single 5 kAND (GoodP.par h.2.2 k) (fun R hR => hR)
  · rw [if_neg hq, if_neg hq]
    have h6 : T.op ≠ 6 := fun e => hq (by unfold paren; rw [e]; rfl)
    exact h.2.1 h6 k
theorem getD_range (n i : Nat) (h : i < n) : (List.range n).getD i 0 = i := by
  rw [List.getD_eq_getElem?_getD, List.getElem?_range h]; rfl
theorem ser_good {P : List Tk → PR XT} {F F' : List Tk → Prop} {op : Int} {w : List UInt8} (hw : w = wdL op) (hF : ∀ R, F' R → F R ∧ (Cl.wd w).test (hd R) = false) (hwd : ∀ R, (Cl.wd w).test (hd R) = true → F R) {T : XT} {k : Nat} (hop : T.op = op) (hrel : T.rel = 0) (han : T.an = 0) (hn : 2 ≤ T.kn)
    (htk : toksX T = joinK w ((List.range T.kn).map fun i => kidK op (T.kid i).op (toksX (T.kid i)))) (hne : nestX T = maxL ((List.range T.kn).map fun i => kidD op (T.kid i).op (nestX (T.kid i))))
    (hk : ∀ i, i < T.kn → GoodP P (kidK op (T.kid i).op (toksX (T.kid i))) F (kidD op (T.kid i).op (nestX (T.kid i)) ≤ k) (T.kid i)) : GoodP (serP op w P) (toksX T) F' (nestX T ≤ k) T := by
  intro A R hA hl hR
  rw [htk] at hA
  have hlen : (List.range T.kn).length = T.kn := List.length_range
  have hkl : T.kn ≤ 100 := by
    have h1 : ∀ l : List (List KT), l.length ≤ (joinK w l).length + 1 := by
      intro l
      induction l with
      | nil => simp
      | cons x r ih =>
        cases r with
        | nil => simp
        | cons y q =>
          show (x :: y :: q).length ≤ (x ++ (1, w, 0) :: joinK w (y :: q)).length + 1
          simp at ih ⊢; omega
    have h2 := h1 ((List.range T.kn).map fun i => kidK op (T.kid i).op (toksX (T.kid i)))
    rw [← hA] at h2
    simp at h2 hl
    omega
  have hm := ser_many hF hwd T.kid (fun i => kidK op (T.kid i).op (toksX (T.kid i))) (fun i => kidD op (T.kid i).op (nestX (T.kid i)) ≤ k) (List.range T.kn) (range_ne hn) (fun i hi => hk i (List.mem_range.1 hi)) 100 A R [] (by rw [hlen]; exact hkl) hA hl hR
  have hiff : nestX T ≤ k ↔ ∀ i ∈ List.range T.kn, kidD op (T.kid i).op (nestX (T.kid i)) ≤ k := by
    rw [hne, maxL_le]
    constructor
    · intro h i hi; exact h _ (List.mem_map.2 ⟨i, hi, rfl⟩)
    · intro h x hx; obtain ⟨i, hi, rfl⟩ := List.mem_map.1 hx; exact h i hi
  refine ⟨fun hc => ?_, fun hc => ?_⟩
  · obtain ⟨xs, h1, h2, h3⟩ := hm.1 (hiff.1 hc)
    rw [hlen] at h2 h3
    refine ⟨mkX op 0 [] xs, ?_, ?_⟩
    · unfold serP
      rw [h1]
      show PR.ok (serX op ([] ++ xs)) R = _
      rw [List.nil_append, serX_more op xs (by omega)]
    · refine (sameX_iff _ _).2 ⟨hop.symm, hrel.symm, han.symm, fun i hi => absurd hi (Nat.not_lt_zero i), h2, fun i hi => ?_⟩
      have hi : i < xs.length := hi
      have h4 := h3 i (by omega)
      rw [getD_range _ _ (by omega)] at h4
      exact h4
  · obtain ⟨m, h1⟩ := hm.2 (fun h => hc (hiff.2 h))
    refine ⟨m, ?_⟩
    unfold serP
    rw [h1]; rfl
theorem show_run : ∀ T : XT, MayX T → Run3 T := by
  refine XT.ind fun T ih h => ?_
  cases T with
  | nil => exact absurd h id
  | node o r a an c g b kn d f =>
    obtain ⟨hf, ho, hk⟩ := h
    rcases hf with ⟨rfl, h1, h6, rfl, rfl⟩ | ⟨rfl, rfl, rfl, rfl⟩ | ⟨rfl, rfl, rfl, rfl⟩ | ⟨rfl, rfl, rfl, rfl⟩ | ⟨h56, rfl, rfl, hn⟩
    · refine run3_test (by show (1 : Int) ≠ 5; decide) (by show (1 : Int) ≠ 6; decide) (fun k => ?_)
      have e2 : toksX (.node 1 r a 2 c g b 0 d f) = opTk (g 0) ++ (5, relL r.toNat, 0) :: opTk (g 1) := by simp [toksX]
      have e3 : nestX (.node 1 r a 2 c g b 0 d f) = 0 := by simp [nestX]
      rw [e2, e3]
      refine (good_rel (g 0) (g 1) (ho 0 (by omega)) (ho 1 (by omega)) r.toNat (by omega) (by omega) k).same (same_mk _ _ _ _ rfl (by show r = ((r.toNat : Nat) : Int); omega) rfl (fun i hi => ?_) rfl)
      rcases (show i = 0 ∨ i = 1 by simp at hi; omega) with rfl | rfl <;> rfl
    · refine run3_test (by show (2 : Int) ≠ 5; decide) (by show (2 : Int) ≠ 6; decide) (fun k => ?_)
      have e2 : toksX (.node 2 0 a 3 c g b 0 d f) = opTk (g 0) ++ (1, kBETWEEN, 0) :: (opTk (g 1) ++ (1, kAND, 0) :: opTk (g 2)) := by simp [toksX]
      have e3 : nestX (.node 2 0 a 3 c g b 0 d f) = 0 := by simp [nestX]
      rw [e2, e3]
      refine (good_btw (g 0) (g 1) (g 2) (ho 0 (by omega)) (ho 1 (by omega)) (ho 2 (by omega)) k).same (same_mk _ _ _ _ rfl rfl rfl (fun i hi => ?_) rfl)
      rcases (show i = 0 ∨ i = 1 ∨ i = 2 by simp at hi; omega) with rfl | rfl | rfl <;> rfl
    · refine run3_test (by show (3 : Int) ≠ 5; decide) (by show (3 : Int) ≠ 6; decide) (fun k => ?_)
      have e2 : toksX (.node 3 0 a 2 c g b 0 d f) = opTk (g 0) ++ (1, kLIKE, 0) :: opTk (g 1) := by simp [toksX]
      have e3 : nestX (.node 3 0 a 2 c g b 0 d f) = 0 := by simp [nestX]
      rw [e2, e3]
      refine (good_like (g 0) (g 1) (ho 0 (by omega)) (ho 1 (by omega)) k).same (same_mk _ _ _ _ rfl rfl rfl (fun i hi => ?_) rfl)
      rcases (show i = 0 ∨ i = 1 by simp at hi; omega) with rfl | rfl <;> rfl
    · refine run3_test (by show (4 : Int) ≠ 5; decide) (by show (4 : Int) ≠ 6; decide) (fun k => ?_)
      have e2 : toksX (.node 4 0 a 0 c g b 1 d f) = (1, kNOT, 0) :: kidK 4 (f 0).op (toksX (f 0)) := by simp [toksX]
      have e3 : nestX (.node 4 0 a 0 c g b 1 d f) = 1 + kidD 4 (f 0).op (nestX (f 0)) := by simp [nestX]
      rw [e2, e3]
      have hK := ih 0 (by show 0 < 1; omega) (hk 0 (by omega))
      refine GoodP.neg (T := f 0) (fun k => kid_not hK 4 (.inl rfl) k) k (fun x hx => ?_)
      refine (sameX_iff _ _).2 ⟨rfl, rfl, rfl, fun i hi => absurd hi (Nat.not_lt_zero i), rfl, fun i hi => ?_⟩
      have hi : i < 1 := hi
      obtain rfl : i = 0 := by omega
      exact hx
    · have hsub : ∀ i, i < kn → Run3 (f i) := fun i hi => ih i hi (hk i hi)
      rcases h56 with rfl | rfl
      · have e2 : toksX (.node 5 0 a 0 c g b kn d f) = joinK kAND ((List.range kn).map fun i => kidK 5 (f i).op (toksX (f i))) := by simp [toksX, wdL]
        have e3 : nestX (.node 5 0 a 0 c g b kn d f) = maxL ((List.range kn).map fun i => kidD 5 (f i).op (nestX (f i))) := by simp [nestX]
        have hA : ∀ k, GoodP (serP 5 kAND (notP k)) (toksX (.node 5 0 a 0 c g b kn d f)) FolA (nestX (.node 5 0 a 0 c g b kn d f) ≤ k) (.node 5 0 a 0 c g b kn d f) := fun k =>
          ser_good (P := notP k) (F := FolN) (op := 5) (w := kAND) rfl (fun R hR => hR) (fun R hR => by
            cases R with
            | nil => exact absurd hR (by decide)
            | cons t R => exact folN_sg t R (.inl (wd_text hR).1)) rfl rfl rfl hn e2 e3 (fun i hi => kid_not (hsub i hi) 5 (.inr rfl) k)
        exact ⟨fun h => absurd rfl h, fun _ => hA, fun k => GoodP.single 6 kOR (hA k) (fun R hR => hR)⟩
      · have e2 : toksX (.node 6 0 a 0 c g b kn d f) = joinK kOR ((List.range kn).map fun i => kidK 6 (f i).op (toksX (f i))) := by simp [toksX, wdL]
        have e3 : nestX (.node 6 0 a 0 c g b kn d f) = maxL ((List.range kn).map fun i => kidD 6 (f i).op (nestX (f i))) := by simp [nestX]
        refine ⟨fun _ h => absurd rfl h, fun h => absurd rfl h, fun k => ?_⟩
        exact ser_good (P := serP 5 kAND (notP k)) (F := FolA) (op := 6) (w := kOR) rfl (fun R hR => hR) (fun R hR => by
            cases R with
            | nil => exact absurd hR (by decide)
            | cons t R => exact ⟨folN_sg t R (.inl (wd_text hR).1), wd_ne hR (by decide)⟩) rfl rfl rfl hn e2 e3 (fun i hi => kid_or (hsub i hi) k)
/-- what Parse makes of a printed tree -/
theorem show_parse (T : XT) (h : MayX T) : (256 < (showX T).length ∨ 64 < (toksX T).length → ∃ b, parseA (showX T) = .bad 3 b) ∧ ((showX T).length ≤ 256 → (toksX T).length ≤ 64 → (nestX T ≤ 8 → ∃ x, parseA (showX T) = .good x ∧ SameX x T) ∧ (8 < nestX T → ∃ b, parseA (showX T) = .bad 9 b)) := by
  have ht := show_tks T h [] [] (.inl rfl) .nil
  rw [List.append_nil, List.append_nil] at ht
  refine ⟨fun hl => ?_, fun h1 h2 => ?_⟩
  · by_cases h256 : 256 < (showX T).length
    · exact ⟨0, by unfold parseA tokA; rw [if_pos h256]⟩
    · obtain ⟨b, hb⟩ := tks_tokA_long ht (by omega) (by omega)
      exact ⟨b, by unfold parseA; rw [hb]⟩
  · obtain ⟨r, hr, hk⟩ := tks_tokA ht h1 h2
    obtain ⟨A, E, rfl, hA, hE⟩ := map_app_inv hk
    obtain ⟨t, G, rfl, k1, k2, _, hG⟩ := map_cons_inv hE
    rw [map_nil_inv hG] at hr hk
    have k1 : t.k = 6 := k1
    have hfol : FolO [t] := ⟨⟨⟨test_nsg _ t (.inl (by omega)), test_nsg _ t (.inl (by omega))⟩, test_nwd _ t (.inl (by omega))⟩, test_nwd _ t (.inl (by omega))⟩
    have hlen : (A ++ [t]).length ≤ 99 := by
      have := congrArg List.length hA
      simp at this ⊢; omega
    obtain ⟨g1, g2⟩ := (show_run T h).2.2 8 A [t] hA hlen hfol
    refine ⟨fun hc => ?_, fun hc => ?_⟩
    · obtain ⟨x, hx, hs⟩ := g1 hc
      refine ⟨x, ?_, hs⟩
      unfold parseA
      rw [hr]
      show parseL (A ++ [t]) = _
      unfold parseL
      rw [hx]
      show (if (Cl.kd 6).test t = true then _ else _) = _
      rw [if_pos (by show (t.k == 6) = true; rw [k1]; rfl)]
    · obtain ⟨l, hx⟩ := g2 (by omega)
      refine ⟨(hd l).a, ?_⟩
      unfold parseA
      rw [hr]
      show parseL (A ++ [t]) = _
      unfold parseL
      rw [hx]
end Go.Proofs.YtjgdkiikkgdbaaaGreatDoor
