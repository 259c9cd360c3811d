/- Chapter 16 in plain Lean: whether an operand, or a tree, may be told, step by step as the reference asks it. No run of the program. -/
import Derived.Test.YtjgdkiikkgdbaaaGreatDoorQ26
import Derived.Test.YtjgdkiikkgdbaaaGreatDoorQ42
namespace Go.Proofs.YtjgdkiikkgdbaaaGreatDoor
open Go
set_option linter.unusedVariables false
theorem wl_split {m : List UInt8} (h : wl m ≠ 0) : ∃ c q r, m = c :: (q ++ r) ∧ isL c.toNat = true ∧ (∀ x ∈ q, alu x = true) ∧ wl m = q.length + 1 ∧ m.take (wl m) = c :: q ∧ m.drop (wl m) = r := by
  cases m with
  | nil => exact absurd rfl h
  | cons c r =>
    have hw : wl (c :: r) = if isL c.toNat then (r.takeWhile alu).length + 1 else 0 := rfl
    cases hc : isL c.toNat with
    | false => rw [hw, hc] at h; exact absurd rfl h
    | true =>
      rw [hc, if_pos rfl] at hw
      refine ⟨c, r.takeWhile alu, r.drop (r.takeWhile alu).length, by rw [tw_split], hc, tw_alu r, hw, ?_, ?_⟩
      · rw [hw, List.take_succ_cons, sh_take]
      · rw [hw, List.drop_succ_cons]
theorem headD_cons {l : List UInt8} (h : l ≠ []) : ∃ c r, l = c :: r := by
  cases l with
  | nil => exact absurd rfl h
  | cons c r => exact ⟨c, r, rfl⟩
theorem pth_ok : ∀ (f : Nat) (b : Bool) (l : List UInt8), pthB f b l = true → ∃ T, PathR b l T
  | 0, b, l, h => by cases h
  | f + 1, b, l, h => by
    rw [pthB] at h
    by_cases h0 : b = false ∧ l = []
    · obtain ⟨rfl, rfl⟩ := h0
      exact ⟨[], .nil⟩
    · rw [if_neg h0] at h
      by_cases h1 : l ≠ [] ∧ l.headD 0 = 91
      · rw [if_pos h1] at h
        obtain ⟨c, r, rfl⟩ := headD_cons h1.1
        have hc : c = 91 := h1.2
        subst hc
        have h : (if badIx (r.takeWhile dig) = true ∨ (r.drop (r.takeWhile dig).length).headD 0 ≠ 93 then false else pthB f false (r.drop (r.takeWhile dig).length).tail) = true := h
        by_cases h2 : badIx (r.takeWhile dig) = true ∨ (r.drop (r.takeWhile dig).length).headD 0 ≠ 93
        · rw [if_pos h2] at h; cases h
        · rw [if_neg h2] at h
          have hb : badIx (r.takeWhile dig) = false := by
            cases hx : badIx (r.takeWhile dig) with
            | true => exact absurd (.inl hx) h2
            | false => rfl
          have h93 : (r.drop (r.takeWhile dig).length).headD 0 = 93 := by
            by_cases hx : (r.drop (r.takeWhile dig).length).headD 0 = 93
            · exact hx
            · exact absurd (.inr hx) h2
          obtain ⟨hd, hr⟩ := ix_ok (tw_dig r) hb
          have hsp := tw_split dig r
          obtain ⟨T, hT⟩ := pth_ok f false _ h
          cases hv : r.drop (r.takeWhile dig).length with
          | nil => rw [hv] at h93; exact absurd h93 (by decide)
          | cons x v =>
            rw [hv] at h93 hsp hT
            have hx : x = 93 := h93
            subst hx
            have hix := PathR.ix (b := b) hd (tw_dig r) hr (show PathR false v T from hT)
            rw [hsp] at hix
            exact ⟨_, hix⟩
      · rw [if_neg h1] at h
        by_cases hb : b = true
        · subst hb
          rw [if_pos rfl] at h
          by_cases h2 : wl l = 0 ∨ wordsL.contains (l.take (wl l)) = true
          · rw [if_pos h2] at h; cases h
          · rw [if_neg h2] at h
            obtain ⟨c, q, r, hl, hc, hq, _, ht, hd⟩ := wl_split (fun e => h2 (.inl e))
            rw [hd] at h
            obtain ⟨T, hT⟩ := pth_ok f false r h
            rw [ht] at h2
            rw [hl]
            exact ⟨_, .nm hc hq (by simpa using fun e => h2 (.inr e)) hT⟩
        · have hb : b = false := by simpa using hb
          subst hb
          rw [if_neg (by decide)] at h
          by_cases h46 : l.headD 0 ≠ 46
          · rw [if_pos h46] at h; cases h
          · rw [if_neg h46] at h
            have hne : l ≠ [] := fun e => h0 ⟨rfl, e⟩
            obtain ⟨c0, l, rfl⟩ := headD_cons hne
            have h46 : c0 = 46 := by simpa using h46
            subst h46
            have h : (if wl l = 0 ∨ wordsL.contains (l.take (wl l)) = true then false else pthB f false (l.drop (wl l))) = true := h
            by_cases h2 : wl l = 0 ∨ wordsL.contains (l.take (wl l)) = true
            · rw [if_pos h2] at h; cases h
            · rw [if_neg h2] at h
              obtain ⟨c, q, r, hl, hc, hq, _, ht, hd⟩ := wl_split (fun e => h2 (.inl e))
              rw [hd] at h
              obtain ⟨T, hT⟩ := pth_ok f false r h
              rw [ht] at h2
              rw [hl]
              exact ⟨_, .dn hc hq (by simpa using fun e => h2 (.inr e)) hT⟩
theorem ba_list (t : ByteArray) : t = bs t.data.toList := by cases t; simp [bs]
theorem mayOB_ok (o : Opd) (hx : OpX o) (h : mayOB o = true) : MayO o := by
  obtain ⟨k, t, ng, n⟩ := o
  obtain ⟨_, hn0, hn1⟩ := hx
  have hn0 : 0 ≤ n := hn0
  have hn1 : n < 18446744073709551616 := hn1
  unfold mayOB at h
  by_cases hc : (decide (k < 1) || decide (5 < k) || (ng && !(k == 2)) || (!(t.data.toList == []) && !(k == 1) && !(k == 3))) = true
  · rw [if_pos hc] at h; cases h
  · rw [if_neg hc] at h
    simp only [Bool.not_eq_true, Bool.or_eq_false_iff, decide_eq_false_iff_not] at hc
    obtain ⟨⟨⟨h1, h2⟩, h3⟩, h4⟩ := hc
    have hN : n = ((n.toNat : Nat) : Int) := by omega
    have hlt : n.toNat < 18446744073709551616 := by omega
    rcases (show k = 1 ∨ k = 2 ∨ k = 3 ∨ k = 4 ∨ k = 5 by omega) with rfl | rfl | rfl | rfl | rfl
    · have hng : ng = false := by simpa using h3
      subst hng
      have h : (n == 0 && pthA t.data.toList) = true := h
      rw [Bool.and_eq_true] at h
      obtain ⟨h5, h6⟩ := h
      have h5 : n = 0 := by simpa using h5
      subst h5
      obtain ⟨T, hT⟩ := pth_ok _ _ _ h6
      have hp := OpR.path hT
      rw [← ba_list t] at hp
      exact ⟨_, _, hp⟩
    · have ht : t.data.toList = [] := by simpa using h4
      rw [ba_list t, ht, hN]
      cases ng with
      | false => exact ⟨_, _, .num hlt⟩
      | true => exact ⟨_, _, .neg hlt⟩
    · have hng : ng = false := by simpa using h3
      subst hng
      have h : ((t.data.toList.all fun x => !badB x) && n == 0) = true := h
      rw [Bool.and_eq_true] at h
      obtain ⟨h5, h6⟩ := h
      have h6 : n = 0 := by simpa using h6
      subst h6
      have hp := OpR.text (t := t.data.toList) (fun x hx => by have := List.all_eq_true.1 h5 x hx; simpa using this)
      rw [← ba_list t] at hp
      exact ⟨_, _, hp⟩
    · have ht : t.data.toList = [] := by simpa using h4
      have hng : ng = false := by simpa using h3
      subst hng
      rw [ba_list t, ht]
      have h : decide (n < 2) = true := h
      have h : n < 2 := by simpa using h
      rcases (show n = 0 ∨ n = 1 by omega) with rfl | rfl
      · exact ⟨_, _, .fls⟩
      · exact ⟨_, _, .tru⟩
    · have ht : t.data.toList = [] := by simpa using h4
      have hng : ng = false := by simpa using h3
      subst hng
      have h : decide (n < 10) = true := h
      have h : n < 10 := by simpa using h
      rw [ba_list t, ht, hN]
      exact ⟨_, _, .par (by omega)⟩
theorem formB_iff (o r : Int) (an kn : Nat) : formB o r an kn = true ↔ FormX o r an kn := by
  unfold formB FormX
  simp only [Bool.or_eq_true, Bool.and_eq_true, decide_eq_true_eq, beq_iff_eq]
  constructor
  · rintro ((((⟨⟨⟨⟨h1, h2⟩, h3⟩, h4⟩, h5⟩ | ⟨⟨⟨h1, h2⟩, h3⟩, h4⟩) | ⟨⟨⟨h1, h2⟩, h3⟩, h4⟩) | ⟨⟨⟨h1, h2⟩, h3⟩, h4⟩) | ⟨⟨⟨h1, h2⟩, h3⟩, h4⟩)
    · exact .inl ⟨h1, h2, h3, h4, h5⟩
    · exact .inr (.inl ⟨h1, h2, h3, h4⟩)
    · exact .inr (.inr (.inl ⟨h1, h2, h3, h4⟩))
    · exact .inr (.inr (.inr (.inl ⟨h1, h2, h3, h4⟩)))
    · exact .inr (.inr (.inr (.inr ⟨h1, h2, h3, h4⟩)))
  · rintro (⟨h1, h2, h3, h4, h5⟩ | ⟨h1, h2, h3, h4⟩ | ⟨h1, h2, h3, h4⟩ | ⟨h1, h2, h3, h4⟩ | ⟨h1, h2, h3, h4⟩)
    · exact .inl (.inl (.inl (.inl ⟨⟨⟨⟨h1, h2⟩, h3⟩, h4⟩, h5⟩)))
    · exact .inl (.inl (.inl (.inr ⟨⟨⟨h1, h2⟩, h3⟩, h4⟩)))
    · exact .inl (.inl (.inr ⟨⟨⟨h1, h2⟩, h3⟩, h4⟩))
    · exact .inl (.inr ⟨⟨⟨h1, h2⟩, h3⟩, h4⟩)
    · exact .inr ⟨⟨⟨h1, h2⟩, h3⟩, h4⟩
theorem mayB_ok : ∀ T : XT, XTx T → mayB T = true → MayX T := by
  refine XT.ind fun T ih hx h => ?_
  cases T with
  | nil => cases h
  | node o r a an c g b kn d f =>
    have h : (formB o r an kn && ((List.range an).all fun i => mayOB (g i)) && ((List.range kn).all fun i => mayB (f i))) = true := h
    rw [Bool.and_eq_true, Bool.and_eq_true] at h
    obtain ⟨⟨h1, h2⟩, h3⟩ := h
    rw [List.all_eq_true] at h2 h3
    obtain ⟨x1, x2⟩ := hx
    exact ⟨(formB_iff _ _ _ _).1 h1, fun i hi => mayOB_ok _ (x1 i hi) (h2 i (List.mem_range.2 hi)), fun i hi => ih i hi (x2 i hi) (h3 i (List.mem_range.2 hi))⟩
end Go.Proofs.YtjgdkiikkgdbaaaGreatDoor
