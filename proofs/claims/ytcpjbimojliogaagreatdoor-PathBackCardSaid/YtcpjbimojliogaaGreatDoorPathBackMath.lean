/- Text and Find undo one another; what is at a path fits. -/
import Derived.Test.YtcpjbimojliogaaGreatDoorPathAt
import Derived.Test.YtcpjbimojliogaaGreatDoorPathAwake
namespace Go.Proofs.YtcpjbimojliogaaGreatDoor
open Go Go.RowKit
set_option linter.unusedVariables false

/-- a step's text, first or not -/
def encS (L : Nat → TypeV) (f : Bool) (x : Nat × StepV) : List UInt8 :=
  if x.2.elem then [91] ++ Lib.decDigits x.2.n.toNat ++ [93] else (if f then [] else [46]) ++ ((L x.1).items x.2.n.toNat).name.data.toList
def encL (L : Nat → TypeV) : Bool → List (Nat × StepV) → List UInt8
  | _, [] => []
  | f, x :: r => encS L f x ++ encL L false r
/-- a step's piece -/
def pcOf (L : Nat → TypeV) (x : Nat × StepV) : PieceV := if x.2.elem then ⟨true, x.2.n, ⟨#[]⟩⟩ else ⟨false, 0, ((L x.1).items x.2.n.toNat).name⟩
def goodX (L : Nat → TypeV) (x : Nat × StepV) : Prop := if x.2.elem then 0 ≤ x.2.n ∧ x.2.n < 64 else nameS ((L x.1).items x.2.n.toNat).name = true
theorem name_size {s : ByteArray} (h : nameS s = true) : 0 < s.size ∧ leadN s = s.size := by
  rw [name_eq] at h
  simp only [Bool.and_eq_true, decide_eq_true_eq] at h
  exact ⟨h.1.1.1, h.1.2⟩
theorem len_data (b : ByteArray) : b.data.toList.length = b.size := by simp
theorem enc_pos {L : Nat → TypeV} {f : Bool} {x : Nat × StepV} (h : goodX L x) : 0 < (encS L f x).length := by
  unfold goodX at h
  unfold encS
  split
  · simp
  · rename_i he
    rw [if_neg he] at h
    have := (name_size h).1
    rw [List.length_append, len_data]
    omega
def tailOk (l : List UInt8) : Prop := l = [] ∨ ∃ c t, l = c :: t ∧ (c = 46 ∨ c = 91)
theorem enc_tail (L : Nat → TypeV) : ∀ r, tailOk (encL L false r)
  | [] => .inl rfl
  | x :: r => by
    refine .inr ?_
    simp only [encL]
    unfold encS
    split
    · exact ⟨91, _, rfl, .inr rfl⟩
    · exact ⟨46, _, rfl, .inl rfl⟩
theorem char_bs (l : List UInt8) (i : Nat) : charAt (bs l) i = (l.getD i 0).toNat := rfl
theorem lead_name {nm : ByteArray} {r : List UInt8} (h : nameS nm = true) (ht : tailOk r) : leadN (bs (nm.data.toList ++ r)) = nm.size := by
  obtain ⟨h0, h1⟩ := name_size h
  have hg : ∀ j, j < nm.size → badAt (bs (nm.data.toList ++ r)) j = false := fun j hj => by
    have h2 : badAt nm j = false := (firstN_is (badAt nm) nm.size).2.1 j (by have h9 : firstN (badAt nm) nm.size = nm.size := h1; rw [h9]; exact hj)
    unfold badAt at h2 ⊢
    rw [char_bs]
    have : (nm.data.toList ++ r).getD j 0 = nm.data.toList.getD j 0 := by
      rw [List.getD_eq_getElem?_getD, List.getD_eq_getElem?_getD, List.getElem?_append_left (by rw [len_data]; exact hj)]
    rw [this]
    exact h2
  rcases ht with rfl | ⟨c, t, rfl, hc⟩
  · have hsz : (bs (nm.data.toList ++ [])).size = nm.size := by rw [bs_size, List.append_nil, len_data]
    rw [← hsz]
    exact lead_all (fun j hj => hg j (by rw [hsz] at hj; exact hj))
  · refine lead_at hg (by rw [bs_size, List.length_append, len_data]; simp) ?_
    unfold badAt
    rw [char_bs]
    have : (nm.data.toList ++ c :: t).getD nm.size 0 = c := by
      rw [List.getD_eq_getElem?_getD, List.getElem?_append_right (by rw [len_data]; exact Nat.le_refl _), len_data]
      simp
    rw [this]
    have hn : ¬ nm.size = 0 := by omega
    unfold okAt
    rw [if_neg hn]
    rcases hc with rfl | rfl <;> decide
theorem ext_pre (a b : List UInt8) : (bs (a ++ b)).extract 0 a.length = bs a := by
  apply ByteArray.ext
  apply Array.ext'
  rw [ext_list]
  simp [bs]
theorem item_enc {nm d : ByteArray} {r : List UInt8} (h : nameS nm = true) (ht : tailOk r) : itemP (bs (d.data.toList ++ (nm.data.toList ++ r))) d = (⟨false, 0, nm⟩, d.size + nm.size) := by
  have h1 : Lib.hasPrefix (bs (d.data.toList ++ (nm.data.toList ++ r))).data.toList d.data.toList = true := by
    rw [bs_data]
    simp [Lib.hasPrefix]
  have h2 : itemR (bs (d.data.toList ++ (nm.data.toList ++ r))) d = bs (nm.data.toList ++ r) := by
    unfold itemR
    rw [bs_data]
    simp [Lib.trimPrefix, Lib.hasPrefix, bs]
  have h3 := lead_name (r := r) h ht
  obtain ⟨h0, _⟩ := name_size h
  unfold itemP
  rw [h1, h2, h3, decide_eq_true (show nm.size ≠ 0 by omega)]
  have h4 : (bs (nm.data.toList ++ r)).extract 0 nm.size = nm := by
    have := ext_pre nm.data.toList r
    rw [len_data, bs_list] at this
    exact this
  rw [h4]
  rfl
theorem name_char {nm : ByteArray} {r : List UInt8} (h : nameS nm = true) (ht : tailOk r) : charAt (bs (nm.data.toList ++ r)) 0 ≠ 91 := fun h0 => by
  have h1 := lead_bad h0
  rw [lead_name h ht] at h1
  have := (name_size h).1
  omega
theorem lead_enc {L : Nat → TypeV} {f : Bool} {x : Nat × StepV} {r : List UInt8} (h : goodX L x) (ht : tailOk r) : leadP (bs (encS L f x ++ r)) f = (pcOf L x, (encS L f x).length) := by
  unfold goodX at h
  unfold encS pcOf
  split
  · rename_i he
    rw [if_pos he] at h
    obtain ⟨n, hn⟩ := Int.eq_ofNat_of_zero_le h.1
    have hn64 : n < 100 := by omega
    rw [hn, Int.toNat_natCast]
    have hc : charAt (bs (([91] : List UInt8) ++ Lib.decDigits n ++ [93] ++ r)) 0 = 91 := by rw [char_bs]; rfl
    have hp : pS (bs (([91] : List UInt8) ++ Lib.decDigits n ++ [93] ++ r)) n = true := (pS_iff _ _).2 ⟨r, by rw [bs_data]; simp⟩
    have hl : leadP (bs (([91] : List UInt8) ++ Lib.decDigits n ++ [93] ++ r)) f = elemP (bs (([91] : List UInt8) ++ Lib.decDigits n ++ [93] ++ r)) := by unfold leadP; rw [if_pos hc]
    rw [hl]
    obtain ⟨⟨y, m⟩, hy⟩ : ∃ z, elemP (bs (([91] : List UInt8) ++ Lib.decDigits n ++ [93] ++ r)) = z := ⟨_, rfl⟩
    have hk : elemK (bs (([91] : List UInt8) ++ Lib.decDigits n ++ [93] ++ r)) ≤ n := by
      by_cases hlt : n < elemK (bs (([91] : List UInt8) ++ Lib.decDigits n ++ [93] ++ r))
      · have := (firstN_is (pS (bs (([91] : List UInt8) ++ Lib.decDigits n ++ [93] ++ r))) 100).2.1 n hlt
        rw [hp] at this
        cases this
      · omega
    have hm : m ≠ 0 := fun h0 => by
      subst h0
      have := elem_none hc hy
      omega
    obtain ⟨h1, h2, h3⟩ := elem_some hc hy hm
    have hpk : pS (bs (([91] : List UInt8) ++ Lib.decDigits n ++ [93] ++ r)) (elemK (bs (([91] : List UInt8) ++ Lib.decDigits n ++ [93] ++ r))) = true := by
      exact (firstN_is (pS (bs (([91] : List UInt8) ++ Lib.decDigits n ++ [93] ++ r))) 100).2.2 h1
    have hkn := pS_one h1 hn64 hpk hp
    rw [hkn] at h2 h3
    rw [hy, h2, h3, wS_size hn64]
    congr 1
    simp
  · rename_i he
    rw [if_neg he] at h
    obtain ⟨nm, hnm⟩ : ∃ nm, ((L x.1).items x.2.n.toNat).name = nm := ⟨_, rfl⟩
    rw [hnm] at h ⊢
    cases f with
    | true =>
      have hc := name_char (r := r) h ht
      have hi := item_enc (d := ⟨#[]⟩) (r := r) h ht
      simp only [if_true, List.nil_append]
      unfold leadP
      rw [if_neg hc, if_pos rfl]
      have e : bs ((⟨#[]⟩ : ByteArray).data.toList ++ (nm.data.toList ++ r)) = bs (nm.data.toList ++ r) := rfl
      rw [e] at hi
      rw [hi, len_data]
      show (_, (⟨#[]⟩ : ByteArray).size + nm.size) = _
      rw [show (⟨#[]⟩ : ByteArray).size = 0 from rfl, Nat.zero_add]
    | false =>
      have hi := item_enc (d := dotS) (r := r) h ht
      have e : bs (dotS.data.toList ++ (nm.data.toList ++ r)) = bs ((if false = true then [] else [46]) ++ nm.data.toList ++ r) := rfl
      rw [e] at hi
      have hc : charAt (bs ((if false = true then [] else [46]) ++ nm.data.toList ++ r)) 0 ≠ 91 := by rw [char_bs]; show (46 : UInt8).toNat ≠ 91; decide
      unfold leadP
      rw [if_neg hc, if_neg Bool.false_ne_true, hi]
      congr 1
      rw [List.length_append, len_data]
      rfl
theorem ext_end (a b : List UInt8) : (bs (a ++ b)).extract a.length (bs (a ++ b)).size = bs b := by
  apply ByteArray.ext
  apply Array.ext'
  rw [ext_list, bs_size, bs_data, List.take_of_length_le (by simp), List.drop_left]
  rfl
theorem pieces_enc {L : Nat → TypeV} : ∀ (xs : List (Nat × StepV)) (pre : List UInt8), (∀ x ∈ xs, goodX L x) → piecesS (bs (pre ++ encL L (pre.length == 0) xs)) pre.length = xs.map fun x => (pcOf L x, true)
  | [], pre, h => piecesS_end (by rw [bs_size]; simp [encL])
  | x :: r, pre, h => by
    have hx := h x (by simp)
    have hp := enc_pos (f := pre.length == 0) hx
    have hl := lead_enc (f := pre.length == 0) (r := encL L false r) hx (enc_tail L r)
    have e0 : encL L (pre.length == 0) (x :: r) = encS L (pre.length == 0) x ++ encL L false r := rfl
    rw [e0]
    obtain ⟨E, hE⟩ : ∃ E, encS L (pre.length == 0) x = E := ⟨_, rfl⟩
    rw [hE] at hp hl ⊢
    have hlt : pre.length < (bs (pre ++ (E ++ encL L false r))).size := by rw [bs_size]; simp; omega
    rw [piecesS_next hlt (x := pcOf L x) (n := E.length) (by rw [ext_end]; exact hl) (by omega)]
    have ih := pieces_enc r (pre ++ E) (fun y hy => h y (by simp [hy]))
    have hz : ((pre ++ E).length == 0) = false := by
      rw [beq_eq_false_iff_ne, List.length_append]
      omega
    rw [hz, List.append_assoc, List.length_append] at ih
    rw [ih]
    rfl
theorem text_enc {L : Nat → TypeV} : ∀ (xs : List (Nat × StepV)) (l : List UInt8), (∀ x ∈ xs, goodX L x) → textG L xs l = l ++ encL L (l.length == 0) xs
  | [], l, h => by simp [textG, encL]
  | x :: r, l, h => by
    have hx := h x (by simp)
    have e1 : addT L x l = l ++ encS L (l.length == 0) x := by
      unfold addT encS
      split
      · rfl
      · by_cases h0 : 0 < l.length
        · rw [if_pos h0, if_neg (by simp; intro h; rw [h] at h0; simp at h0), List.append_assoc]
        · rw [if_neg h0, if_pos (by simp; simpa using h0)]
          rfl
    simp only [textG, encL]
    rw [text_enc r _ (fun y hy => h y (by simp [hy])), e1]
    have hp := enc_pos (f := l.length == 0) hx
    have hz : ((l ++ encS L (l.length == 0) x).length == 0) = false := by
      rw [beq_eq_false_iff_ne, List.length_append]
      omega
    rw [hz, List.append_assoc]
theorem find_back {L : Nat → TypeV} {len : Nat} (hv : ∀ i, i < len → OkT L i) (hnm : ∀ t, t < len → namedK (L t).kind = true → ∀ j, j < (L t).ilen → nameS ((L t).items j).name = true ∧ itemL L len (t : Nat) ((L t).items j).name = (j : Nat)) :
    ∀ (ps : List StepV) (t u : Nat) (st : List StepV), t < len → endL L t ps = some u → (∀ x ∈ alongL L t ps, goodX L x) ∧ findG L len ((alongL L t ps).map fun x => (pcOf L x, true)) t st = ⟨st ++ ps, u, 0⟩
  | [], t, u, st, ht, h => by
    simp only [endL] at h
    injection h with h
    subst h
    exact ⟨by simp [alongL], by simp [alongL, findG]⟩
  | s :: r, t, u, st, ht, h => by
    have hb : nextB (L t) s = true := by
      simp only [endL] at h
      split at h
      · assumption
      · cases h
    have h2 : endL L (nextN L t s) r = some u := by
      simp only [endL] at h
      rwa [if_pos hb] at h
    have hnp := next_part (s := s) hv ht
    obtain ⟨ih1, ih2⟩ := find_back hv hnm r (nextN L t s) u (st ++ [s]) hnp.2 h2
    have hb2 := hb
    unfold nextB at hb2
    simp only [Bool.and_eq_true, decide_eq_true_eq] at hb2
    obtain ⟨hn0, hb3⟩ := hb2
    obtain ⟨be, sn⟩ := s
    simp only at hn0 hb3
    obtain ⟨j, rfl⟩ := Int.eq_ofNat_of_zero_le hn0
    have key : goodX L (t, ⟨be, (j : Nat)⟩) ∧ pstE L len t (pcOf L (t, ⟨be, (j : Nat)⟩)) = 0 ∧ pstS L len t (pcOf L (t, ⟨be, (j : Nat)⟩)) = ⟨be, (j : Nat)⟩ := by
      cases be with
      | true =>
        simp only [if_true, Bool.and_eq_true, decide_eq_true_eq] at hb3
        have hk := hb3.1
        simp only [elK, Bool.or_eq_true, beq_iff_eq] at hk
        have hbd := (hv t ht).bound (by omega)
        have e1 : pstE L len t (pcOf L (t, ⟨true, (j : Nat)⟩)) = 0 := by
          show (if true = true then (if elK (L t).kind then (if (L t).bound ≤ ((j : Nat) : Int) then 7 else 0) else 4) else _ : Int) = 0
          rw [if_pos rfl, if_pos hb3.1, if_neg (by omega)]
        refine ⟨⟨by show (0 : Int) ≤ ((j : Nat) : Int); omega, by show ((j : Nat) : Int) < 64; omega⟩, e1, ?_⟩
        unfold pstS
        rw [if_pos e1]
        rfl
      | false =>
        simp only [Bool.false_eq_true, if_false, Bool.and_eq_true, decide_eq_true_eq] at hb3
        have hji : j < (L t).ilen := by omega
        have hnk : namedK (L t).kind = true := by
          have := hb3.1
          simp only [itK, Bool.or_eq_true, beq_iff_eq] at this
          simp only [namedK]
          rcases this with h | h <;> simp [h]
        obtain ⟨n1, n2⟩ := hnm t ht hnk j hji
        have e1 : pstE L len t (pcOf L (t, ⟨false, (j : Nat)⟩)) = 0 := by
          show (if false = true then _ else (if itK (L t).kind then (if itemL L len (t : Nat) ((L t).items ((j : Nat) : Int).toNat).name < 0 then 5 else 0) else 4) : Int) = 0
          rw [if_neg Bool.false_ne_true, if_pos hb3.1, Int.toNat_natCast, n2, if_neg (by omega)]
        refine ⟨?_, e1, ?_⟩
        · show nameS ((L t).items ((j : Nat) : Int).toNat).name = true
          rw [Int.toNat_natCast]
          exact n1
        · unfold pstS
          rw [if_pos e1]
          show (⟨false, itemL L len (t : Nat) ((L t).items ((j : Nat) : Int).toNat).name⟩ : StepV) = _
          rw [Int.toNat_natCast, n2]
    refine ⟨?_, ?_⟩
    · intro x hx
      simp only [alongL, List.mem_cons] at hx
      rcases hx with rfl | hx
      · exact key.1
      · exact ih1 x hx
    · simp only [alongL, List.map_cons, findG]
      rw [if_pos key.2.1, key.2.2, ih2, List.append_assoc]
      rfl
/-- Find undoes Text -/
theorem text_back {L : Nat → TypeV} {len : Nat} {t : Int} {ps : List StepV} {tx : List UInt8} {u : Nat} (h : textA L len t ps = some (tx, u)) : findA L len t (bs tx) = ⟨ps, u, 0⟩ := by
  unfold textA at h
  split at h
  · cases h
  · rename_i hne
    cases hE : endA L len t ps with
    | none => rw [hE] at h; cases h
    | some v =>
      rw [hE] at h
      obtain ⟨h1, h2⟩ := Prod.mk.inj (Option.some.inj h)
      subst h2
      have hT : hasT L len t = true := by
        unfold endA at hE
        split at hE
        · assumption
        · cases hE
      obtain ⟨k, rfl, hk, hok⟩ := hasT_in hT
      have hE2 : endL L k ps = some v := by unfold endA at hE; rw [hT] at hE; simpa using hE
      obtain ⟨g1, g2⟩ := find_back (ok_all hok) (names_ok hok) ps k v [] hk hE2
      rw [Int.toNat_natCast] at h1
      rw [text_enc _ _ g1] at h1
      have hpc := pieces_enc (alongL L k ps) [] g1
      simp only [List.nil_append, List.length_nil] at h1 hpc
      have e0 : ((0 : Nat) == 0) = true := rfl
      rw [e0] at h1 hpc
      rw [h1] at hpc
      have hsz : 0 < (bs tx).size := by
        rw [bs_size, ← h1]
        cases ps with
        | nil => exact absurd rfl hne
        | cons s r =>
          simp only [alongL, encL]
          have := enc_pos (f := true) (g1 (k, s) (by simp [alongL]))
          rw [List.length_append]
          omega
      have hF : formS (bs tx) = true := by
        unfold formS
        rw [hpc]
        simp only [Bool.and_eq_true]
        refine ⟨?_, ?_⟩
        · simp
        · have : ((bs tx).size == 0) = false := by rw [beq_eq_false_iff_ne]; omega
          rw [this]
          rfl
      unfold findA
      rw [hT, if_pos rfl, hF, if_pos rfl, hpc, Int.toNat_natCast, g2]
      rfl
theorem fits_same (L : Nat → TypeV) : ∀ (T U : VT) (t : Nat), sameT T U = true → fitsT L T t = fitsT L U t := by
  refine VT.ind fun T ih U t h => ?_
  obtain ⟨h1, h2, h3, h4, h5⟩ := sameT_iff.1 h
  have e : headE L t T = headE L t U := by unfold headE formT; rw [h1, h2, h3, h4]
  rw [fitsT_eq, fitsT_eq, e, ← h2, ← h4, firstE_congr (fun i hi => ih i hi (U.kid i) (partT L t T.num i) (h5 i hi))]
/-- what is at a path fits -/
theorem at_fits {L : Nat → TypeV} {len : Nat} (hv : ∀ i, i < len → OkT L i) : ∀ (ps : List StepV) (t u : Nat) (V U : VT), t < len → endL L t ps = some u → atG L len (alongL L t ps) V = some U → fitsT L V t = 0 → fitsT L U u = 0
  | [], t, u, V, U, ht, he, ha, hf => by
    simp only [endL] at he
    injection he with he
    simp only [alongL, atG] at ha
    injection ha with ha
    subst he ha
    exact hf
  | s :: r, t, u, V, U, ht, he, ha, hf => by
    have hb : nextB (L t) s = true := by
      simp only [endL] at he
      split at he
      · assumption
      · cases he
    have h2 : endL L (nextN L t s) r = some u := by
      simp only [endL] at he
      rwa [if_pos hb] at he
    have hnp := next_part (s := s) hv ht
    have ha2 : (plcO L len t s V).elim none (fun i => atG L len (alongL L (nextN L t s) r) (V.kid i)) = some U := by
      rw [← ha]
      exact (atG_cons L len (t, s) _ V).symm
    cases hp : plcO L len t s V with
    | none => rw [hp] at ha2; cases ha2
    | some i =>
      rw [hp] at ha2
      have hb2 := hb
      unfold nextB at hb2
      simp only [Bool.and_eq_true, decide_eq_true_eq] at hb2
      obtain ⟨hn0, hb3⟩ := hb2
      have hi := plc_lt hp hn0
      obtain ⟨h0, hk⟩ := fits_zero hf
      have hki := hk i hi
      have e : partT L t V.num i = nextN L t s := by
        unfold nextN nextZ
        rw [if_pos hb]
        obtain ⟨be, sn⟩ := s
        simp only at hn0 hb3 hp
        obtain ⟨j, rfl⟩ := Int.eq_ofNat_of_zero_le hn0
        unfold partT
        unfold plcO at hp
        simp only [Int.toNat_natCast] at hp ⊢
        cases be with
        | true =>
          simp only [if_true, Bool.and_eq_true] at hb3 ⊢
          have := hb3.1
          simp only [elK, Bool.or_eq_true, beq_iff_eq] at this
          rw [if_neg (by omega), if_neg (by omega)]
        | false =>
          simp only [Bool.false_eq_true, if_false, Bool.and_eq_true] at hb3 ⊢
          have := hb3.1
          simp only [itK, Bool.or_eq_true, beq_iff_eq] at this
          rcases this with h13 | h14
          · rw [if_neg (by omega)] at hp
            rw [if_pos h13]
            split at hp
            · injection hp with hp
              subst hp
              rfl
            · cases hp
          · rw [if_pos h14] at hp
            rw [if_neg (by omega), if_pos h14]
            split at hp
            · rename_i hc
              injection hp with hp
              subst hp
              have hbr : branchL L len (t : Nat) V.num = branchZ (L t) V.num := by unfold branchL; rw [inL_yes ht, if_pos rfl, Int.toNat_natCast]
              rw [hbr] at hc
              rw [hc.1, Int.toNat_natCast]
              rfl
            · cases hp
      rw [e] at hki
      exact at_fits hv r (nextN L t s) u (V.kid i) U hnp.2 h2 ha2 hki
end Go.Proofs.YtcpjbimojliogaaGreatDoor
