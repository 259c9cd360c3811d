/- A text between brackets, behind NOT, with AND and OR: its tree; in plain Lean. No run of the program. -/
import Derived.Test.YtbejpgoedenpmaaGreatDoorExprTks
namespace Go.Proofs.YtbejpgoedenpmaaGreatDoor
open Go
set_option linter.unusedVariables false
abbrev kOpen : Nat × List UInt8 × Nat := (5, [40], 0)
abbrev kClose : Nat × List UInt8 × Nat := (5, [41], 0)
abbrev kFin : Nat × List UInt8 × Nat := (6, [], 0)
def tokOf (p : Nat × List UInt8 × Nat) : Tk := ⟨p.1, p.2.1, p.2.2, 0⟩
theorem test_of {c : Cl} {t : Tk} {p : Nat × List UInt8 × Nat} (h : kt t = p) : c.test t = c.test (tokOf p) := test_eq (by rw [h]; rfl)
theorem stop_close {t : Tk} (h : kt t = kClose) : Stops t := by obtain ⟨h1, h2, _⟩ := kt_eq (u := tokOf kClose) h; exact .inr ⟨h1, h2⟩
theorem stop_fin {t : Tk} (h : kt t = kFin) : Stops t := by obtain ⟨h1, h2, _⟩ := kt_eq (u := tokOf kFin) h; exact .inl ⟨h1, h2⟩
theorem Sm.of_map {G : Tk → Prop} {R R' : List Tk} : ∀ {A1 A1' : List Tk}, A1.map kt = A1'.map kt → (∀ t ∈ A1, G t) → Sm G R R' (A1 ++ R) (A1' ++ R')
  | [], [], _, _ => .base
  | [], b :: r, h, _ => by cases h
  | a :: r, [], h, _ => by cases h
  | a :: r, b :: r', h, hg => by
    simp only [List.map_cons] at h
    injection h with h1 h2
    exact .cons h1 (hg a (by simp)) (Sm.of_map h2 (fun t ht => hg t (by simp [ht])))
theorem map_cons_of {α β : Type} {f : α → β} {L : List α} {b : β} {r : List β} (h : L.map f = b :: r) : ∃ a A, L = a :: A ∧ f a = b ∧ A.map f = r := by
  cases L with
  | nil => cases h
  | cons a A => simp only [List.map_cons] at h; injection h with h1 h2; exact ⟨a, A, rfl, h1, h2⟩
theorem vd_one {l : List Tk} (hv : Vd l) (h : (Cl.kd 6).test (hd l) = true) : l.length = 1 := by
  cases hv with
  | one _ _ => rfl
  | @cons t l ho hl =>
    have h : (t.k == 6) = true := h
    rw [beq_iff_eq] at h
    have := ho.1
    omega
/-- the tokens of a good text, elsewhere -/
theorem inside {L : List Tk} {x : XT} {l : List Tk} {T : List (Nat × List UInt8 × Nat)} (hv : Vd L) (h99 : L.length ≤ 99) (hor : orP 8 L = .ok x l) (h6 : (Cl.kd 6).test (hd l) = true) (hT : L.map kt = T ++ [kFin])
    (k : Nat) (A1' R' : List Tk) (hA : A1'.map kt = T) (hR' : Stops (hd R')) : orP k (A1' ++ R') = .ok x R' ∨ ∃ l', orP k (A1' ++ R') = .err 9 l' := by
  obtain ⟨A1, A2, rfl, h1, h2⟩ := List.map_eq_append_iff.1 hT
  obtain ⟨E, A3, rfl, hE, hA3⟩ := map_cons_of h2
  obtain rfl : A3 = [] := List.map_eq_nil_iff.1 hA3
  have hR : Stops (hd [E]) := stop_fin hE
  have hl1 := orP_less 8 (A1 ++ [E]) hv h99
  rw [hor] at hl1
  have hlen := vd_one hl1.1 h6
  rcases orP_sm (G := fun _ => True) hR hR' 8 k (A1 ++ [E]) (A1' ++ R') hv h99 (Sm.of_map (h1.trans hA.symm) (fun _ _ => trivial)) x l hor (by simp; omega) with ⟨B', hb, hs⟩ | ⟨_, l', hb⟩
  · obtain ⟨_, rfl⟩ := hs.same (by simp; omega)
    exact .inl hb
  · exact .inr ⟨l', hb⟩
/-- .. between brackets -/
theorem par {L : List Tk} {x : XT} {l : List Tk} {T : List (Nat × List UInt8 × Nat)} (hv : Vd L) (h99 : L.length ≤ 99) (hor : orP 8 L = .ok x l) (h6 : (Cl.kd 6).test (hd l) = true) (hT : L.map kt = T ++ [kFin])
    (k : Nat) (q c : Tk) (A1' R2 : List Tk) (hA : A1'.map kt = T) (hq : kt q = kOpen) (hc : kt c = kClose) : notP (k + 1) (q :: (A1' ++ c :: R2)) = .ok x R2 ∨ ∃ l', notP (k + 1) (q :: (A1' ++ c :: R2)) = .err 9 l' := by
  have e1 : (Cl.wd kNOT).test q = false := test_of hq
  have e2 : cPar.test q = true := test_of hq
  have e3 : cEnd.test c = true := test_of hc
  have hn : notP (k + 1) (q :: (A1' ++ c :: R2)) = closeR (orP k (A1' ++ c :: R2)) := by
    rw [notP, if_neg (by show ¬ (Cl.wd kNOT).test q = true; rw [e1]; decide), if_pos (show cPar.test (hd (q :: (A1' ++ c :: R2))) = true from e2)]; rfl
  rw [hn]
  rcases inside hv h99 hor h6 hT k A1' (c :: R2) hA (stop_close hc) with h | ⟨l', h⟩
  · rw [h]; exact .inl (by show (if cEnd.test c = true then _ else _) = _; rw [if_pos e3]; rfl)
  · rw [h]; exact .inr ⟨l', rfl⟩
theorem ser_err {op : Int} {w : List UInt8} {P : List Tk → PR XT} {l l' : List Tk} {e : Nat} (h : P l = .err e l') : serP op w P l = .err e l' := by
  unfold serP
  rw [show (100 : Nat) = 99 + 1 from rfl, serL, h]; rfl
theorem ser_one {op : Int} {w : List UInt8} {P : List Tk → PR XT} {l R : List Tk} {x : XT} (h : P l = .ok x R) (ht : (Cl.wd w).test (hd R) = false) : serP op w P l = .ok x R := by
  unfold serP
  rw [show (100 : Nat) = 99 + 1 from rfl, serL, h]
  show serO op (if (Cl.wd w).test (hd R) = true then _ else .ok ([] ++ [x]) R) = _
  rw [if_neg (by rw [ht]; decide)]; rfl
theorem ser_two {op : Int} {w : List UInt8} {P : List Tk → PR XT} {l l2 R : List Tk} {a : Tk} {x y : XT} (h : P l = .ok x (a :: l2)) (ht : (Cl.wd w).test a = true) (h2 : P l2 = .ok y R) (ht2 : (Cl.wd w).test (hd R) = false) : serP op w P l = .ok (mkX op 0 [] [x, y]) R := by
  unfold serP
  rw [show (100 : Nat) = 98 + 1 + 1 from rfl, serL, h]
  show serO op (if (Cl.wd w).test a = true then serL P w (98 + 1) l2 ([] ++ [x]) else _) = _
  rw [if_pos ht, serL, h2]
  show serO op (if (Cl.wd w).test (hd R) = true then _ else .ok ([] ++ [x] ++ [y]) R) = _
  rw [if_neg (by rw [ht2]; decide)]; rfl
theorem ser_two_err {op : Int} {w : List UInt8} {P : List Tk → PR XT} {l l2 l' : List Tk} {a : Tk} {x : XT} {e : Nat} (h : P l = .ok x (a :: l2)) (ht : (Cl.wd w).test a = true) (h2 : P l2 = .err e l') : serP op w P l = .err e l' := by
  unfold serP
  rw [show (100 : Nat) = 98 + 1 + 1 from rfl, serL, h]
  show serO op (if (Cl.wd w).test a = true then serL P w (98 + 1) l2 ([] ++ [x]) else _) = _
  rw [if_pos ht, serL, h2]; rfl
theorem parsed_ok {s : List UInt8} {x : XT} (h : parseA s = .good x) : ∃ L T l, tokA s = .good L ∧ Tks s T ∧ L.map kt = T ++ [kFin] ∧ T.length ≤ 64 ∧ Vd L ∧ L.length ≤ 99 ∧ orP 8 L = .ok x l ∧ (Cl.kd 6).test (hd l) = true := by
  unfold parseA at h
  cases hA : tokA s with
  | bad e a => rw [hA] at h; cases h
  | good L =>
    rw [hA] at h
    obtain ⟨T, h1, h2, h3⟩ := tokA_tks hA
    obtain ⟨hv, h65⟩ := tokA_good hA
    have h : parseL L = .good x := h
    unfold parseL at h
    cases ho : orP 8 L with
    | err e l => rw [ho] at h; cases h
    | ok y l =>
      rw [ho] at h
      have h : (if (Cl.kd 6).test (hd l) = true then Tree.good y else .bad 11 (hd l).a) = .good x := h
      by_cases h6 : (Cl.kd 6).test (hd l) = true
      · rw [if_pos h6] at h
        injection h with h
        exact ⟨L, T, l, rfl, h1, h2, h3, hv, by omega, by rw [ho, h], h6⟩
      · rw [if_neg h6] at h; cases h
theorem parseL_ok {L l : List Tk} {x : XT} (h : orP 8 L = .ok x l) (h6 : (Cl.kd 6).test (hd l) = true) : parseL L = .good x := by
  unfold parseL; rw [h]
  show (if (Cl.kd 6).test (hd l) = true then Tree.good x else _) = _
  rw [if_pos h6]
theorem parseL_err {L l : List Tk} {e : Nat} (h : orP 8 L = .err e l) : parseL L = .bad e (hd l).a := by unfold parseL; rw [h]
/-- brackets around a text -/
def brk (s : List UInt8) : List UInt8 := 40 :: (s ++ [41])
theorem f_open (v : List UInt8) : fstG (40 :: v) = .tok 5 [40] 0 1 := by
  have hs : sl (40 :: v) = 1 := by unfold sl; simp [signs, List.isPrefixOf]
  have h1 : wl (40 :: v) = 0 := rfl
  have h2 : nl (40 :: v) = 0 := rfl
  have h3 : tl (40 :: v) = 0 := rfl
  have h4 : pl (40 :: v) = 0 := by cases v <;> rfl
  unfold fstG
  rw [h1, h2, h3, h4, hs]; rfl
theorem f_close (v : List UInt8) : fstG (41 :: v) = .tok 5 [41] 0 1 := by
  have hs : sl (41 :: v) = 1 := by unfold sl; simp [signs, List.isPrefixOf]
  have h1 : wl (41 :: v) = 0 := rfl
  have h2 : nl (41 :: v) = 0 := rfl
  have h3 : tl (41 :: v) = 0 := rfl
  have h4 : pl (41 :: v) = 0 := by cases v <;> rfl
  unfold fstG
  rw [h1, h2, h3, h4, hs]; rfl
theorem f_not (v : List UInt8) : fstG (78 :: 79 :: 84 :: 32 :: v) = .tok 1 kNOT 0 3 := rfl
theorem f_and (v : List UInt8) : fstG (65 :: 78 :: 68 :: 32 :: v) = .tok 1 kAND 0 3 := rfl
theorem f_or (v : List UInt8) : fstG (79 :: 82 :: 32 :: v) = .tok 1 kOR 0 2 := rfl
theorem tks_close {v : List UInt8} {U : List (Nat × List UInt8 × Nat)} (h : Tks v U) : Tks (41 :: v) (kClose :: U) := .tok (by decide) (f_close v) h
theorem tks_open {v : List UInt8} {U : List (Nat × List UInt8 × Nat)} (h : Tks v U) : Tks (40 :: v) (kOpen :: U) := .tok (by decide) (f_open v) h
theorem tks_brk {s : List UInt8} {T : List (Nat × List UInt8 × Nat)} (h : Tks s T) : Tks (brk s) (kOpen :: (T ++ [kClose])) := tks_open (Tks.app (tks_close .nil) h)
theorem brackets {s : List UInt8} {x : XT} (hs : s.length ≤ 120) (h : parseA s = .good x) : parseA (brk s) = .good x ∨ ∃ e a, parseA (brk s) = .bad e a ∧ (e = 9 ∨ e = 3) := by
  obtain ⟨L, T, l, h1, h2, h3, h4, hv, h99, ho, h6⟩ := parsed_ok h
  have hB := tks_brk h2
  have hlen : (brk s).length ≤ 256 := by simp [brk]; omega
  by_cases hT : (kOpen :: (T ++ [kClose])).length ≤ 64
  · obtain ⟨L', h7, h8⟩ := tks_tokA hB hlen hT
    have hP : parseA (brk s) = parseL L' := by unfold parseA; rw [h7]
    rw [hP]
    obtain ⟨q, A, rfl, hq, hA⟩ := map_cons_of (b := kOpen) (r := T ++ [kClose] ++ [kFin]) h8
    obtain ⟨A1, A2, rfl, hA1, hA2⟩ := List.map_eq_append_iff.1 (show A.map kt = T ++ (kClose :: [kFin]) by rw [hA]; simp)
    obtain ⟨c, A3, rfl, hc, hA3⟩ := map_cons_of hA2
    obtain ⟨E, A4, rfl, hE, hA4⟩ := map_cons_of hA3
    obtain rfl : A4 = [] := List.map_eq_nil_iff.1 hA4
    have t1 : (Cl.wd kAND).test E = false := test_of hE
    have t2 : (Cl.wd kOR).test E = false := test_of hE
    have t3 : (Cl.kd 6).test E = true := test_of hE
    rcases par hv h99 ho h6 h3 7 q c A1 [E] hA1 hq hc with hn | ⟨l', hn⟩
    · exact .inl (parseL_ok (ser_one (ser_one hn t1) t2) t3)
    · exact .inr ⟨9, _, parseL_err (ser_err (ser_err hn)), .inl rfl⟩
  · obtain ⟨b, hb⟩ := tks_tokA_long hB hlen (by omega)
    exact .inr ⟨3, b, by unfold parseA; rw [hb], .inr rfl⟩
theorem notBrk {s : List UInt8} {x z : XT} (h : parseA s = .good x) (hz : parseA (78 :: 79 :: 84 :: 32 :: brk s) = .good z) : z = mkX 4 0 [] [x] := by
  obtain ⟨L, T, l, h1, h2, h3, h4, hv, h99, ho, h6⟩ := parsed_ok h
  obtain ⟨L', T', l', k1, k2, k3, k4, kv, k99, ko, k6⟩ := parsed_ok hz
  have hB : Tks (78 :: 79 :: 84 :: 32 :: brk s) ((1, kNOT, 0) :: kOpen :: (T ++ [kClose])) := .tok (by decide) (f_not _) (.blank (by decide) (tks_brk h2))
  obtain rfl := k2.det hB
  obtain ⟨nt, A0, rfl, hnt, hA0⟩ := map_cons_of (b := (1, kNOT, 0)) (r := kOpen :: (T ++ [kClose] ++ [kFin])) k3
  obtain ⟨q, A, rfl, hq, hA⟩ := map_cons_of hA0
  obtain ⟨A1, A2, rfl, hA1, hA2⟩ := List.map_eq_append_iff.1 (show A.map kt = T ++ (kClose :: [kFin]) by rw [hA]; simp)
  obtain ⟨c, A3, rfl, hc, hA3⟩ := map_cons_of hA2
  obtain ⟨E, A4, rfl, hE, hA4⟩ := map_cons_of hA3
  obtain rfl : A4 = [] := List.map_eq_nil_iff.1 hA4
  have t0 : (Cl.wd kNOT).test nt = true := test_of hnt
  have t1 : (Cl.wd kAND).test E = false := test_of hE
  have t2 : (Cl.wd kOR).test E = false := test_of hE
  have hN : notP 8 (nt :: q :: (A1 ++ [c, E])) = negR (notP 7 (q :: (A1 ++ [c, E]))) := by
    rw [show (8 : Nat) = 7 + 1 from rfl, notP, if_pos (show (Cl.wd kNOT).test (hd (nt :: q :: (A1 ++ [c, E]))) = true from t0)]; rfl
  rcases par hv h99 ho h6 h3 6 q c A1 [E] hA1 hq hc with hn | ⟨l2, hn⟩
  · rw [hn] at hN
    have hO : orP 8 (nt :: q :: (A1 ++ [c, E])) = .ok (mkX 4 0 [] [x]) [E] := ser_one (ser_one hN t1) t2
    rw [hO] at ko
    injection ko with ko
    exact ko.symm
  · rw [hn] at hN
    have hO : orP 8 (nt :: q :: (A1 ++ [c, E])) = .err 9 l2 := ser_err (ser_err hN)
    rw [hO] at ko; cases ko
/-- two texts between brackets with a word between: what is ahead of and behind it -/
theorem two_parts {L' : List Tk} {x y : XT} {T U : List (Nat × List UInt8 × Nat)} {s t : List UInt8} {wd : Nat × List UInt8 × Nat} (h : parseA s = .good x) (ht : parseA t = .good y) (hT : Tks s T) (hU : Tks t U) (h8 : L'.map kt = kOpen :: (T ++ kClose :: wd :: kOpen :: (U ++ [kClose])) ++ [kFin]) :
    ∃ (q a : Tk) (B R2 : List Tk) (E : Tk), L' = q :: B ∧ kt a = wd ∧ kt E = kFin ∧ (notP 8 (q :: B) = .ok x (a :: R2) ∨ ∃ l', notP 8 (q :: B) = .err 9 l') ∧ (notP 8 R2 = .ok y [E] ∨ ∃ l', notP 8 R2 = .err 9 l') := by
  obtain ⟨L, T2, l, h1, h2, h3, h4, hv, h99, ho, h6⟩ := parsed_ok h
  obtain ⟨M, U2, m, k1, k2, k3, k4, kv, k99, ko, k6⟩ := parsed_ok ht
  obtain rfl := h2.det hT
  obtain rfl := k2.det hU
  obtain ⟨q, A, rfl, hq, hA⟩ := map_cons_of (b := kOpen) (r := T2 ++ (kClose :: wd :: kOpen :: (U2 ++ [kClose, kFin]))) (by rw [h8]; simp)
  obtain ⟨A1, A2, rfl, hA1, hA2⟩ := List.map_eq_append_iff.1 hA
  obtain ⟨c, A3, rfl, hc, hA3⟩ := map_cons_of hA2
  obtain ⟨a, A4, rfl, ha, hA4⟩ := map_cons_of hA3
  obtain ⟨q2, A5, rfl, hq2, hA5⟩ := map_cons_of hA4
  obtain ⟨B1, B2, rfl, hB1, hB2⟩ := List.map_eq_append_iff.1 (show A5.map kt = U2 ++ (kClose :: [kFin]) from hA5)
  obtain ⟨c2, B3, rfl, hc2, hB3⟩ := map_cons_of hB2
  obtain ⟨E, B4, rfl, hE, hB4⟩ := map_cons_of hB3
  obtain rfl : B4 = [] := List.map_eq_nil_iff.1 hB4
  exact ⟨q, a, _, q2 :: (B1 ++ [c2, E]), E, rfl, ha, hE, par hv h99 ho h6 h3 7 q c A1 _ hA1 hq hc, par kv k99 ko k6 k3 7 q2 c2 B1 [E] hB1 hq2 hc2⟩
theorem andBrk {s t : List UInt8} {x y z : XT} (h : parseA s = .good x) (ht : parseA t = .good y) (hz : parseA (40 :: (s ++ 41 :: (32 :: 65 :: 78 :: 68 :: 32 :: brk t))) = .good z) : z = mkX 5 0 [] [x, y] := by
  obtain ⟨_, T, _, _, hT, _⟩ := parsed_ok h
  obtain ⟨_, U, _, _, hU, _⟩ := parsed_ok ht
  obtain ⟨L', T', l', k1, k2, k3, k4, kv, k99, ko, k6⟩ := parsed_ok hz
  have hB : Tks (40 :: (s ++ 41 :: (32 :: 65 :: 78 :: 68 :: 32 :: brk t))) (kOpen :: (T ++ kClose :: (1, kAND, 0) :: kOpen :: (U ++ [kClose]))) :=
    tks_open (Tks.app (tks_close (.blank (by decide) (.tok (by decide) (f_and _) (.blank (by decide) (tks_brk hU))))) hT)
  obtain rfl := k2.det hB
  obtain ⟨q, a, B, R2, E, rfl, ha, hE, c1, c2⟩ := two_parts h ht hT hU k3
  have t0 : (Cl.wd kAND).test a = true := test_of ha
  have t1 : (Cl.wd kAND).test E = false := test_of hE
  have t2 : (Cl.wd kOR).test E = false := test_of hE
  rcases c1 with c1 | ⟨l2, c1⟩
  · rcases c2 with c2 | ⟨l2, c2⟩
    · have hO : orP 8 (q :: B) = .ok (mkX 5 0 [] [x, y]) [E] := ser_one (ser_two c1 t0 c2 t1) t2
      rw [hO] at ko
      injection ko with ko
      exact ko.symm
    · have hO : orP 8 (q :: B) = .err 9 l2 := ser_err (ser_two_err c1 t0 c2)
      rw [hO] at ko; cases ko
  · have hO : orP 8 (q :: B) = .err 9 l2 := ser_err (ser_err c1)
    rw [hO] at ko; cases ko
theorem orBrk {s t : List UInt8} {x y z : XT} (h : parseA s = .good x) (ht : parseA t = .good y) (hz : parseA (40 :: (s ++ 41 :: (32 :: 79 :: 82 :: 32 :: brk t))) = .good z) : z = mkX 6 0 [] [x, y] := by
  obtain ⟨_, T, _, _, hT, _⟩ := parsed_ok h
  obtain ⟨_, U, _, _, hU, _⟩ := parsed_ok ht
  obtain ⟨L', T', l', k1, k2, k3, k4, kv, k99, ko, k6⟩ := parsed_ok hz
  have hB : Tks (40 :: (s ++ 41 :: (32 :: 79 :: 82 :: 32 :: brk t))) (kOpen :: (T ++ kClose :: (1, kOR, 0) :: kOpen :: (U ++ [kClose]))) :=
    tks_open (Tks.app (tks_close (.blank (by decide) (.tok (by decide) (f_or _) (.blank (by decide) (tks_brk hU))))) hT)
  obtain rfl := k2.det hB
  obtain ⟨q, a, B, R2, E, rfl, ha, hE, c1, c2⟩ := two_parts h ht hT hU k3
  have t0 : (Cl.wd kOR).test a = true := test_of ha
  have t0' : (Cl.wd kAND).test (hd (a :: R2)) = false := test_of ha
  have t1 : (Cl.wd kAND).test E = false := test_of hE
  have t2 : (Cl.wd kOR).test E = false := test_of hE
  rcases c1 with c1 | ⟨l2, c1⟩
  · rcases c2 with c2 | ⟨l2, c2⟩
    · have hO : orP 8 (q :: B) = .ok (mkX 6 0 [] [x, y]) [E] := ser_two (ser_one c1 t0') t0 (ser_one c2 t1) t2
      rw [hO] at ko
      injection ko with ko
      exact ko.symm
    · have hO : orP 8 (q :: B) = .err 9 l2 := ser_two_err (ser_one c1 t0') t0 (ser_err c2)
      rw [hO] at ko; cases ko
  · have hO : orP 8 (q :: B) = .err 9 l2 := ser_err (ser_err c1)
    rw [hO] at ko; cases ko
/-- what is a text between brackets is one by itself, if no bracket closes within it -/
theorem ser_ok {op : Int} {w : List UInt8} {P : List Tk → PR XT} {l R : List Tk} {x : XT} (h : serP op w P l = .ok x R) : ∃ y l', P l = .ok y l' := by
  unfold serP at h
  rw [show (100 : Nat) = 99 + 1 from rfl, serL] at h
  cases hp : P l with
  | err e l' => rw [hp] at h; cases h
  | ok y l' => exact ⟨y, l', rfl⟩
theorem unbrk {s : List UInt8} {y : XT} (hs : s.length ≤ 120) (h : parseA (brk s) = .good y) (hn : 41 ∉ s) : ∃ x, parseA s = .good x := by
  obtain ⟨L', T', l', k1, k2, k3, k4, kv, k99, ko, k6⟩ := parsed_ok h
  -- the tokens
  obtain ⟨W, hW, rfl⟩ : ∃ W, Tks (s ++ [41]) W ∧ T' = kOpen :: W := by
    cases k2 with
    | blank hc _ => exact absurd hc (by decide)
    | tok hc hf hr =>
      rw [f_open] at hf
      injection hf with e1 e2 e3 e4
      subst e1; subst e2; subst e3; subst e4
      exact ⟨_, hr, rfl⟩
  obtain ⟨T, hT, rfl⟩ := Tks.back _ s W (Nat.le_refl _) hW
  obtain ⟨L, h7, h8⟩ := tks_tokA hT (by omega) (by simp at k4; omega)
  obtain ⟨hv, h65⟩ := tokA_good h7
  obtain ⟨q, A, rfl, hq, hA⟩ := map_cons_of (b := kOpen) (r := T ++ [kClose] ++ [kFin]) k3
  obtain ⟨A1, A2, rfl, hA1, hA2⟩ := List.map_eq_append_iff.1 (show A.map kt = T ++ (kClose :: [kFin]) by rw [hA]; simp)
  obtain ⟨c, A3, rfl, hc, hA3⟩ := map_cons_of hA2
  obtain ⟨E', A4, rfl, hE', hA4⟩ := map_cons_of hA3
  obtain rfl : A4 = [] := List.map_eq_nil_iff.1 hA4
  obtain ⟨D1, D2, rfl, hD1, hD2⟩ := List.map_eq_append_iff.1 h8
  obtain ⟨E, D3, rfl, hE, hD3⟩ := map_cons_of hD2
  obtain rfl : D3 = [] := List.map_eq_nil_iff.1 hD3
  -- the parse
  obtain ⟨y1, l1, hp1⟩ := ser_ok ko
  obtain ⟨y2, l2, hp2⟩ := ser_ok hp1
  have e1 : (Cl.wd kNOT).test q = false := test_of hq
  have e2 : cPar.test q = true := test_of hq
  have hno : notP 8 (q :: (A1 ++ [c, E'])) = closeR (orP 7 (A1 ++ [c, E'])) := by
    rw [show (8 : Nat) = 7 + 1 from rfl, notP, if_neg (by show ¬ (Cl.wd kNOT).test q = true; rw [e1]; decide), if_pos (show cPar.test (hd (q :: (A1 ++ [c, E']))) = true from e2)]; rfl
  rw [hno] at hp2
  have kv2 : Vd (A1 ++ [c, E']) := (kv.tail (c := cPar) trivial e2).1
  have kl2 : (A1 ++ [c, E']).length ≤ 99 := by simp at k99 ⊢; omega
  have hl := orP_less 7 (A1 ++ [c, E']) kv2 kl2
  cases hr : orP 7 (A1 ++ [c, E']) with
  | err e l => rw [hr] at hp2; cases hp2
  | ok x l =>
    rw [hr] at hp2 hl
    have hp2 : (if cEnd.test (hd l) = true then PR.ok x l.tail else .err 11 l) = .ok y2 l2 := hp2
    by_cases he : cEnd.test (hd l) = true
    · have hl2 : 2 ≤ l.length := by
        have := (hl.1.tail (c := cEnd) trivial he)
        have := this.1.pos
        omega
      have hG : ∀ t ∈ A1, cEnd.test t = false := by
        intro t ht
        cases hx : cEnd.test t with
        | false => rfl
        | true =>
          exfalso
          have hx : (t.k == 5 && t.t == [41]) = true := hx
          simp at hx
          have hm : kt t ∈ T := by rw [← hA1]; exact List.mem_map_of_mem ht
          refine hn (hT.mem (n := t.n) ?_)
          rw [← hx.1, ← hx.2]; exact hm
      have hRc : Stops (hd [c, E']) := stop_close hc
      have hRE : Stops (hd [E]) := stop_fin hE
      -- where it stops
      rcases orP_sm (G := fun t => cEnd.test t = false) hRc hRc 7 7 (A1 ++ [c, E']) (A1 ++ [c, E']) kv2 kl2 (Sm.of_map rfl hG) x l hr (by simpa using hl2) with ⟨B', hb, hsm⟩ | ⟨hd7, _⟩
      · have hlR : l = [c, E'] := by
          cases hsm with
          | base => rfl
          | @cons t u C C' hk hg hs =>
            have he2 : cEnd.test t = true := he
            rw [he2] at hg; cases hg
        rcases orP_sm (G := fun _ => True) hRc hRE 7 8 (A1 ++ [c, E']) (D1 ++ [E]) kv2 kl2 (Sm.of_map (hA1.trans hD1.symm) (fun _ _ => trivial)) x l hr (by simpa using hl2) with ⟨B2, hb2, hs2⟩ | ⟨hd7, _⟩
        · obtain ⟨_, rfl⟩ := hs2.same (by rw [hlR]; simp)
          refine ⟨x, ?_⟩
          unfold parseA
          rw [h7]
          exact parseL_ok hb2 (test_of (c := .kd 6) hE)
        · omega
      · omega
    · rw [if_neg he] at hp2; cases hp2
end Go.Proofs.YtbejpgoedenpmaaGreatDoor
