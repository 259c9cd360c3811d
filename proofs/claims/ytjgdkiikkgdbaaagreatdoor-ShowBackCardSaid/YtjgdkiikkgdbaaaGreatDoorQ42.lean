/- Chapter 16 in plain Lean: the text of a tree, its tokens, its depth; what the parser makes of these tokens. No run of the program. -/
import Derived.Test.YtjgdkiikkgdbaaaGreatDoorQ16
import Derived.Test.YtjgdkiikkgdbaaaGreatDoorQ28
import Derived.Test.YtjgdkiikkgdbaaaGreatDoorQ40
import Derived.Test.YtjgdkiikkgdbaaaGreatDoorQ41
namespace Go.Proofs.YtjgdkiikkgdbaaaGreatDoor
open Go
set_option linter.unusedVariables false
theorem relS_eq (r : Nat) : relS r = relL r := by
  match r with
  | 0 => rfl
  | 1 => rfl
  | 2 => rfl
  | 3 => rfl
  | 4 => rfl
  | 5 => rfl
  | 6 => rfl
  | n + 7 => rfl
abbrev KT := Nat × List UInt8 × Nat
theorem map_app_inv {A : List Tk} {K L : List KT} (h : A.map kt = K ++ L) : ∃ B C, A = B ++ C ∧ B.map kt = K ∧ C.map kt = L := by
  obtain ⟨B, C, h1, h2, h3⟩ := List.map_eq_append_iff.1 h
  exact ⟨B, C, h1, h2, h3⟩
open Classical in
/-- the tokens of a text -/
noncomputable def tksOf (s : List UInt8) : List KT := if h : ∃ T, Tks s T then Classical.choose h else []
theorem tksOf_eq {s : List UInt8} {T : List KT} (h : Tks s T) : tksOf s = T := by
  unfold tksOf
  have he : ∃ T, Tks s T := ⟨T, h⟩
  rw [dif_pos he]
  exact Tks.det (Classical.choose_spec he) h
noncomputable def opTk (o : Opd) : List KT := tksOf (opTx o)
def MayO (o : Opd) : Prop := ∃ s T, OpR o s T
theorem opR_tx {o : Opd} {s : List UInt8} {T : List KT} (h : OpR o s T) : s = opTx o ∧ T = opTk o := by
  have h1 : s = opTx o := by
    cases h with
    | path h => simp [opTx, bs]
    | num h => simp [opTx]
    | neg h => simp [opTx]
    | text h => simp [opTx, bs]
    | tru => rfl
    | fls => rfl
    | par h => simp [opTx]
  refine ⟨h1, ?_⟩
  have h2 := opd_tks h [] [] (.inl rfl) .nil
  rw [List.append_nil, List.append_nil] at h2
  rw [h1] at h2
  exact (tksOf_eq h2).symm
theorem MayO.ok {o : Opd} (h : MayO o) : OpR o (opTx o) (opTk o) := by
  obtain ⟨s, T, h⟩ := h
  obtain ⟨h1, h2⟩ := opR_tx h
  rw [← h1, ← h2]; exact h
def joinK (w : List UInt8) : List (List KT) → List KT
  | [] => []
  | [x] => x
  | x :: y :: r => x ++ (1, w, 0) :: joinK w (y :: r)
def kidK (p k : Int) (K : List KT) : List KT := if paren p k = true then (5, [40], 0) :: (K ++ [(5, [41], 0)]) else K
def kidD (p k : Int) (d : Nat) : Nat := if paren p k = true then d + 1 else d
def maxL (l : List Nat) : Nat := l.foldr max 0
theorem maxL_le (l : List Nat) (n : Nat) : maxL l ≤ n ↔ ∀ x ∈ l, x ≤ n := by
  induction l with
  | nil => simp [maxL]
  | cons c r ih =>
    have : maxL (c :: r) = max c (maxL r) := rfl
    rw [this, Nat.max_le, ih]; simp
noncomputable def toksX : XT → List KT
  | .nil => []
  | .node o r _ an _ g _ kn _ f =>
    if o = 1 then opTk (g 0) ++ (5, relL r.toNat, 0) :: opTk (g 1)
    else if o = 2 then opTk (g 0) ++ (1, kBETWEEN, 0) :: (opTk (g 1) ++ (1, kAND, 0) :: opTk (g 2))
    else if o = 3 then opTk (g 0) ++ (1, kLIKE, 0) :: opTk (g 1)
    else if o = 4 then (1, kNOT, 0) :: kidK 4 (f 0).op (toksX (f 0))
    else joinK (wdL o) ((List.range kn).map fun i => kidK o (f i).op (toksX (f i)))
/-- how many NOTs and brackets stand around one another -/
def nestX : XT → Nat
  | .nil => 0
  | .node o r _ an _ g _ kn _ f =>
    if o = 4 then 1 + kidD 4 (f 0).op (nestX (f 0))
    else if o = 5 ∨ o = 6 then maxL ((List.range kn).map fun i => kidD o (f i).op (nestX (f i)))
    else 0
/-- the form of a tree, in its own node -/
def FormX (o r : Int) (an kn : Nat) : Prop := o = 1 ∧ 1 ≤ r ∧ r ≤ 6 ∧ an = 2 ∧ kn = 0 ∨ o = 2 ∧ r = 0 ∧ an = 3 ∧ kn = 0 ∨ o = 3 ∧ r = 0 ∧ an = 2 ∧ kn = 0 ∨ o = 4 ∧ r = 0 ∧ an = 0 ∧ kn = 1 ∨ (o = 5 ∨ o = 6) ∧ r = 0 ∧ an = 0 ∧ 2 ≤ kn
def MayX : XT → Prop
  | .nil => False
  | .node o r _ an _ g _ kn _ f => FormX o r an kn ∧ (∀ i, i < an → MayO (g i)) ∧ ∀ i, i < kn → MayX (f i)
theorem Tks.bl {v : List UInt8} {U : List KT} (h : Tks v U) : Tks (32 :: v) U := .blank (by decide) h
theorem stop_bl (v : List UInt8) : StopA (32 :: v) := .inr ⟨32, v, rfl, .inl rfl⟩
theorem stopB_bl (p : UInt8 → Bool) (hp : p 32 = false) (v : List UInt8) : StopB p (32 :: v) := .inr ⟨32, v, rfl, hp⟩
theorem Tks.word (w : List UInt8) (hw : w = kNOT ∨ w = kAND ∨ w = kOR ∨ w = kLIKE ∨ w = kBETWEEN) {v : List UInt8} {U : List KT} (h : Tks v U) : Tks (w ++ 32 :: v) ((1, w, 0) :: U) := by
  have key : ∀ (c : UInt8) (q : List UInt8), isL c.toNat = true → (∀ x ∈ q, alu x = true) → Tks (c :: (q ++ 32 :: v)) ((1, c :: q, 0) :: U) := fun c q hc hq => Tks.wd hc hq (stopB_bl alu (by decide) v) h.bl
  rcases hw with rfl | rfl | rfl | rfl | rfl
  · exact key 78 [79, 84] (by decide) (by decide)
  · exact key 65 [78, 68] (by decide) (by decide)
  · exact key 79 [82] (by decide) (by decide)
  · exact key 76 [73, 75, 69] (by decide) (by decide)
  · exact key 66 [69, 84, 87, 69, 69, 78] (by decide) (by decide)
theorem sh_sign (c : UInt8) (v : List UInt8) (n : Nat) (h1 : isL c.toNat = false) (h2 : dig c = false) (h3 : c ≠ 39) (h4 : c ≠ 37) (h5 : sl (c :: v) = n) (hn : n ≠ 0) : fstG (c :: v) = .tok 5 ((c :: v).take n) 0 n := by
  have hw : wl (c :: v) = 0 := by show (if isL c.toNat then _ else 0) = 0; rw [h1]; rfl
  have hnl : nl (c :: v) = 0 := by show ((c :: v).takeWhile dig).length = 0; rw [List.takeWhile_cons, h2]; rfl
  have ht : tl (c :: v) = 0 := if_neg h3
  have hp : pl (c :: v) = 0 := by
    cases v with
    | nil => rfl
    | cons d r => exact if_neg (fun e => h4 e.1)
  unfold fstG
  rw [hw, hnl, ht, hp, h5, if_neg (by omega), if_neg (by omega), if_neg (by omega), if_neg (by omega), if_pos hn]
theorem Tks.rel (r : Nat) (h1 : 1 ≤ r) (h6 : r ≤ 6) {v : List UInt8} {U : List KT} (h : Tks v U) : Tks (relL r ++ 32 :: v) ((5, relL r, 0) :: U) := by
  rcases (show r = 1 ∨ r = 2 ∨ r = 3 ∨ r = 4 ∨ r = 5 ∨ r = 6 by omega) with rfl | rfl | rfl | rfl | rfl | rfl
  · exact .tok (by decide) (sh_sign 61 (32 :: v) 1 (by decide) (by decide) (by decide) (by decide) (by simp [sl, signs, List.isPrefixOf]) (by decide)) h.bl
  · exact .tok (by decide) (sh_sign 60 (62 :: 32 :: v) 2 (by decide) (by decide) (by decide) (by decide) (by simp [sl, signs, List.isPrefixOf]) (by decide)) h.bl
  · exact .tok (by decide) (sh_sign 60 (32 :: v) 1 (by decide) (by decide) (by decide) (by decide) (by simp [sl, signs, List.isPrefixOf]) (by decide)) h.bl
  · exact .tok (by decide) (sh_sign 60 (61 :: 32 :: v) 2 (by decide) (by decide) (by decide) (by decide) (by simp [sl, signs, List.isPrefixOf]) (by decide)) h.bl
  · exact .tok (by decide) (sh_sign 62 (32 :: v) 1 (by decide) (by decide) (by decide) (by decide) (by simp [sl, signs, List.isPrefixOf]) (by decide)) h.bl
  · exact .tok (by decide) (sh_sign 62 (61 :: 32 :: v) 2 (by decide) (by decide) (by decide) (by decide) (by simp [sl, signs, List.isPrefixOf]) (by decide)) h.bl
/-- a piece and its tokens, whatever may stand behind -/
def PieceT (s : List UInt8) (K : List KT) : Prop := ∀ (v : List UInt8) (U : List KT), StopA v → Tks v U → Tks (s ++ v) (K ++ U)
theorem PieceT.par {s : List UInt8} {K : List KT} (h : PieceT s K) : PieceT (40 :: (s ++ [41])) ((5, [40], 0) :: (K ++ [(5, [41], 0)])) := by
  intro v U hv hU
  have e : (40 :: (s ++ [41])) ++ v = 40 :: (s ++ 41 :: v) := by simp
  have e2 : ((5, [40], 0) :: (K ++ [(5, [41], 0)]) : List KT) ++ U = (5, [40], 0) :: (K ++ (5, [41], 0) :: U) := by simp
  rw [e, e2]
  exact Tks.sg (by simp [Sg1]) (h _ _ (.inr ⟨41, v, rfl, .inr rfl⟩) (Tks.sg (by simp [Sg1]) hU))
theorem PieceT.kid {s : List UInt8} {K : List KT} (h : PieceT s K) (p k : Int) : PieceT (kidS p k s) (kidK p k K) := by
  unfold kidS kidK
  by_cases hp : paren p k = true
  · rw [if_pos hp, if_pos hp]; exact h.par
  · rw [if_neg hp, if_neg hp]; exact h
theorem join_piece (op : Int) : ∀ (l : List Nat) (S : Nat → List UInt8) (K : Nat → List KT), l ≠ [] → (∀ i ∈ l, PieceT (S i) (K i)) → PieceT (joinS (wdL op) (l.map S)) (joinK (wdL op) (l.map K))
  | [], S, K, h, _ => absurd rfl h
  | [i], S, K, _, h => h i (by simp)
  | i :: j :: r, S, K, _, h => by
    intro v U hv hU
    have ih := join_piece op (j :: r) S K (by simp) (fun x hx => h x (by simp [hx])) v U hv hU
    have e : joinS (wdL op) ((i :: j :: r).map S) ++ v = S i ++ 32 :: (wdL op ++ 32 :: (joinS (wdL op) ((j :: r).map S) ++ v)) := by
      show (S i ++ 32 :: (wdL op ++ 32 :: joinS (wdL op) ((j :: r).map S))) ++ v = _
      simp
    have e2 : joinK (wdL op) ((i :: j :: r).map K) ++ U = K i ++ (1, wdL op, 0) :: (joinK (wdL op) ((j :: r).map K) ++ U) := by
      show (K i ++ (1, wdL op, 0) :: joinK (wdL op) ((j :: r).map K)) ++ U = _
      simp
    rw [e, e2]
    refine h i (by simp) _ _ (stop_bl _) (Tks.bl (Tks.word _ ?_ ih))
    unfold wdL
    by_cases h5 : op = 5
    · rw [if_pos h5]; exact .inr (.inl rfl)
    · rw [if_neg h5]; exact .inr (.inr (.inl rfl))
theorem opd_piece {o : Opd} (h : MayO o) : PieceT (opTx o) (opTk o) := fun v U hv hU => opd_tks h.ok v U hv hU
theorem range_ne {n : Nat} (h : 2 ≤ n) : List.range n ≠ [] := by
  intro e
  have := congrArg List.length e
  simp at this
  omega
/-- the tokens of a tree's text -/
theorem show_tks : ∀ T : XT, MayX T → PieceT (showX T) (toksX T) := by
  refine XT.ind fun T ih h => ?_
  cases T with
  | nil => exact absurd h id
  | node o r a an c g b kn d f =>
    obtain ⟨hf, ho, hk⟩ := h
    rcases hf with ⟨rfl, h1, h6, rfl, rfl⟩ | ⟨rfl, rfl, rfl, rfl⟩ | ⟨rfl, rfl, rfl, rfl⟩ | ⟨rfl, rfl, rfl, rfl⟩ | ⟨h56, rfl, rfl, hn⟩
    · intro v U hv hU
      have e : showX (.node 1 r a 2 c g b 0 d f) ++ v = opTx (g 0) ++ 32 :: (relL r.toNat ++ 32 :: (opTx (g 1) ++ v)) := by simp [showX, relS_eq]
      have e2 : toksX (.node 1 r a 2 c g b 0 d f) ++ U = opTk (g 0) ++ (5, relL r.toNat, 0) :: (opTk (g 1) ++ U) := by simp [toksX]
      rw [e, e2]
      exact opd_piece (ho 0 (by omega)) _ _ (stop_bl _) (Tks.bl (Tks.rel r.toNat (by omega) (by omega) (opd_piece (ho 1 (by omega)) v U hv hU)))
    · intro v U hv hU
      have e : showX (.node 2 0 a 3 c g b 0 d f) ++ v = opTx (g 0) ++ 32 :: (kBETWEEN ++ 32 :: (opTx (g 1) ++ 32 :: (kAND ++ 32 :: (opTx (g 2) ++ v)))) := by simp [showX]
      have e2 : toksX (.node 2 0 a 3 c g b 0 d f) ++ U = opTk (g 0) ++ (1, kBETWEEN, 0) :: (opTk (g 1) ++ (1, kAND, 0) :: (opTk (g 2) ++ U)) := by simp [toksX]
      rw [e, e2]
      exact opd_piece (ho 0 (by omega)) _ _ (stop_bl _) (Tks.bl (Tks.word _ (by simp) (opd_piece (ho 1 (by omega)) _ _ (stop_bl _) (Tks.bl (Tks.word _ (by simp) (opd_piece (ho 2 (by omega)) v U hv hU))))))
    · intro v U hv hU
      have e : showX (.node 3 0 a 2 c g b 0 d f) ++ v = opTx (g 0) ++ 32 :: (kLIKE ++ 32 :: (opTx (g 1) ++ v)) := by simp [showX]
      have e2 : toksX (.node 3 0 a 2 c g b 0 d f) ++ U = opTk (g 0) ++ (1, kLIKE, 0) :: (opTk (g 1) ++ U) := by simp [toksX]
      rw [e, e2]
      exact opd_piece (ho 0 (by omega)) _ _ (stop_bl _) (Tks.bl (Tks.word _ (by simp) (opd_piece (ho 1 (by omega)) v U hv hU)))
    · intro v U hv hU
      have e : showX (.node 4 0 a 0 c g b 1 d f) ++ v = kNOT ++ 32 :: (kidS 4 (f 0).op (showX (f 0)) ++ v) := by simp [showX]
      have e2 : toksX (.node 4 0 a 0 c g b 1 d f) ++ U = (1, kNOT, 0) :: (kidK 4 (f 0).op (toksX (f 0)) ++ U) := by simp [toksX]
      rw [e, e2]
      exact Tks.word _ (by simp) ((PieceT.kid (ih 0 (by show 0 < 1; omega) (hk 0 (by omega))) 4 _) v U hv hU)
    · have e : showX (.node o 0 a 0 c g b kn d f) = joinS (wdL o) ((List.range kn).map fun i => kidS o (f i).op (showX (f i))) := by
        rcases h56 with rfl | rfl <;> simp [showX]
      have e2 : toksX (.node o 0 a 0 c g b kn d f) = joinK (wdL o) ((List.range kn).map fun i => kidK o (f i).op (toksX (f i))) := by
        rcases h56 with rfl | rfl <;> simp [toksX]
      rw [e, e2]
      exact join_piece o (List.range kn) _ _ (range_ne hn) (fun i hi => PieceT.kid (ih i (List.mem_range.1 hi) (hk i (List.mem_range.1 hi))) o _)
end Go.Proofs.YtjgdkiikkgdbaaaGreatDoor
