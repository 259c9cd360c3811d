/- Chapter 16 in plain Lean: the text of an operand and of a tree, and whether they may be told, step by step as the reference does. No run of the program. -/
import Derived.Test.YtjgdkiikkgdbaaaGreatDoorQ09
namespace Go.Proofs.YtjgdkiikkgdbaaaGreatDoor
open Go
set_option linter.unusedVariables false
def relS : Nat → List UInt8
  | 1 => [61]
  | 2 => [60, 62]
  | 3 => [60]
  | 4 => [60, 61]
  | 5 => [62]
  | 6 => [62, 61]
  | _ => []
/-- an operand's text -/
def opTx (o : Opd) : List UInt8 :=
  if o.kind = 1 then o.text.data.toList
  else if o.kind = 2 then (if o.neg = true then 45 :: Lib.decDigits o.num.toNat else Lib.decDigits o.num.toNat)
  else if o.kind = 3 then quoteL o.text.data.toList
  else if o.kind = 4 then (if o.num = 1 then kTRUE else kFALSE)
  else 37 :: Lib.decDigits o.num.toNat
def paren (p k : Int) : Bool := k == 6 || (k == 5 && !(p == 6))
def wdL (op : Int) : List UInt8 := if op = 5 then kAND else kOR
def joinS (w : List UInt8) : List (List UInt8) → List UInt8
  | [] => []
  | [x] => x
  | x :: y :: r => x ++ 32 :: (w ++ 32 :: joinS w (y :: r))
def kidS (p k : Int) (s : List UInt8) : List UInt8 := if paren p k = true then 40 :: (s ++ [41]) else s
/-- a tree's text -/
def showX : XT → List UInt8
  | .nil => []
  | .node o r _ an _ g _ kn _ f =>
    if o = 1 then opTx (g 0) ++ 32 :: (relS r.toNat ++ 32 :: opTx (g 1))
    else if o = 2 then opTx (g 0) ++ 32 :: (kBETWEEN ++ 32 :: (opTx (g 1) ++ 32 :: (kAND ++ 32 :: opTx (g 2))))
    else if o = 3 then opTx (g 0) ++ 32 :: (kLIKE ++ 32 :: opTx (g 1))
    else if o = 4 then kNOT ++ 32 :: kidS 4 (f 0).op (showX (f 0))
    else joinS (wdL o) ((List.range kn).map fun i => kidS o (f i).op (showX (f i)))
def greatD (d : List UInt8) : Bool := decide (20 < d.length) || (d.length == 20 && !decide (nval d < 18446744073709551616))
def badIx (d : List UInt8) : Bool := d.length == 0 || greatD d || (decide (1 < d.length) && d.headD 0 == 48)
/-- a path, from a place on (b: at its beginning) -/
def pthB : Nat → Bool → List UInt8 → Bool
  | 0, _, _ => false
  | f + 1, b, l =>
    if b = false ∧ l = [] then true
    else if l ≠ [] ∧ l.headD 0 = 91 then
      (if badIx (l.tail.takeWhile dig) = true ∨ (l.tail.drop (l.tail.takeWhile dig).length).headD 0 ≠ 93 then false
      else pthB f false (l.tail.drop (l.tail.takeWhile dig).length).tail)
    else if b = true then
      (if wl l = 0 ∨ wordsL.contains (l.take (wl l)) = true then false else pthB f false (l.drop (wl l)))
    else if l.headD 0 ≠ 46 then false
    else (if wl l.tail = 0 ∨ wordsL.contains (l.tail.take (wl l.tail)) = true then false else pthB f false (l.tail.drop (wl l.tail)))
def pthA (l : List UInt8) : Bool := pthB (l.length + 1) true l
/-- may an operand be told? -/
def mayOB (o : Opd) : Bool :=
  if (decide (o.kind < 1) || decide (5 < o.kind) || (o.neg && !(o.kind == 2)) || (!(o.text.data.toList == []) && !(o.kind == 1) && !(o.kind == 3))) = true then false
  else if o.kind = 1 then o.num == 0 && pthA o.text.data.toList
  else if o.kind = 3 then (o.text.data.toList.all fun x => !badB x) && o.num == 0
  else if o.kind = 4 then decide (o.num < 2)
  else if o.kind = 5 then decide (o.num < 10)
  else true
def formB (o r : Int) (an kn : Nat) : Bool := (o == 1 && decide (1 ≤ r) && decide (r ≤ 6) && an == 2 && kn == 0) || (o == 2 && r == 0 && an == 3 && kn == 0) || (o == 3 && r == 0 && an == 2 && kn == 0) || (o == 4 && r == 0 && an == 0 && kn == 1) || ((o == 5 || o == 6) && r == 0 && an == 0 && decide (2 ≤ kn))
/-- may a tree be told? -/
def mayB : XT → Bool
  | .nil => false
  | .node o r _ an _ g _ kn _ f => formB o r an kn && ((List.range an).all fun i => mayOB (g i)) && ((List.range kn).all fun i => mayB (f i))
theorem tw_dig : ∀ (l : List UInt8), ∀ x ∈ l.takeWhile dig, dig x = true
  | [], x, h => by simp at h
  | c :: r, x, h => by
    rw [List.takeWhile_cons] at h
    cases hc : dig c with
    | false => rw [hc] at h; simp at h
    | true =>
      rw [hc] at h
      rcases List.mem_cons.1 h with rfl | h
      · exact hc
      · exact tw_dig r x h
theorem tw_split (p : UInt8 → Bool) : ∀ l : List UInt8, l.takeWhile p ++ l.drop (l.takeWhile p).length = l
  | [] => rfl
  | c :: r => by
    rw [List.takeWhile_cons]
    cases p c with
    | false => rfl
    | true => show c :: (r.takeWhile p ++ r.drop (r.takeWhile p).length) = _; rw [tw_split p r]
theorem sh_take (p : UInt8 → Bool) (l : List UInt8) : l.take (l.takeWhile p).length = l.takeWhile p := by
  have h := tw_split p l
  generalize l.takeWhile p = q at *
  generalize l.drop q.length = v at *
  rw [← h, List.take_left]
end Go.Proofs.YtjgdkiikkgdbaaaGreatDoor
/- path: an element's way, step by step. -/
namespace Go.Proofs.YtjgdkiikkgdbaaaGreatDoor
open Go.RowKit
set_option linter.unusedVariables false
def leftN (w : World) (bp : Nat) : Nat := match w.cell? ⟨bp, 0, none⟩ with
  | some (.slice _ n _) => n
  | _ => 0
theorem PAt.leftN {w : World} {bp tb : Nat} {l : List Tk} (h : PAt w bp tb l) : leftN w bp = l.length := by
  obtain ⟨_, _, off, cap, hb, _⟩ := h
  unfold Go.Proofs.YtjgdkiikkgdbaaaGreatDoor.leftN
  rw [cell_at (j := 0) hb rfl]; rfl
theorem eat_bound : ∀ (cs : List Cl) (l : List Tk) (s s' : List UInt8) (l' : List Tk), Vd l → (∀ c ∈ cs, c.inner) → eat cs l s = .ok s' l' → s'.length + 256 * l'.length ≤ s.length + 256 * l.length
  | [], l, s, s', l', hv, hin, h => by
    injection h with h1 h2
    rw [h1, h2]; exact Nat.le_refl _
  | c :: r, l, s, s', l', hv, hin, h => by
    unfold eat at h
    by_cases ht : c.test (hd l) = true
    · rw [if_pos ht] at h
      obtain ⟨h1, h2⟩ := hv.tail (hin c (by simp)) ht
      have := eat_bound r l.tail (s ++ (hd l).t) s' l' h1 (fun d hd => hin d (by simp [hd])) h
      have h3 := Short.hd hv.short
      rw [List.length_append] at this
      omega
    · rw [if_neg ht] at h; cases h
def PathAlt (bp tb bt : Nat) (R : PR (List UInt8)) (e : Nat) (wr : World) : Prop :=
  (e ≠ 0 ∧ ∃ m, R = .err e m ∧ PAt wr bp tb m) ∨ (e = 0 ∧ ∃ f m s, pathL f m s = R ∧ m.length < f ∧ Vd m ∧ m.length ≤ 99 ∧ s.length + 256 * m.length ≤ 100000 ∧ PAt wr bp tb m ∧ TxtAt 46 bt bt s wr)
structure PathSt (w : World) (bp tb bt : Nat) (R : PR (List UInt8)) (e : Nat) (wr : World) : Prop where
  only : Only (fun k => k = bp) w wr
  own : wr.heap[w.heap.size]? = some (.cells #[.int .i64 0, .string ⟨#[]⟩, .bool false, .int .u64 0] 34)
  lt : bp < w.heap.size ∧ tb < w.heap.size ∧ bt = w.heap.size + 1
  alt : PathAlt bp tb bt R e wr
theorem path_go {w wx w' : World} {x : Ending} {bp tb bt f : Nat} {m : List Tk} {s : List UInt8} {cs : List Cl} {R : PR (List UInt8)} (ho : Only (fun k => k = bp) w wx) (hz : wx.heap[w.heap.size]? = some (.cells #[.int .i64 0, .string ⟨#[]⟩, .bool false, .int .u64 0] 34)) (lt : bp < w.heap.size ∧ tb < w.heap.size ∧ bt = w.heap.size + 1)
    (hf : m.length < f + 1) (hv : Vd m) (h99 : m.length ≤ 99) (hlen : s.length + 256 * m.length ≤ 100000) (hin : ∀ c ∈ cs, c.inner) (hne : cs ≠ []) (hR : (match stepP cs m s with | .err e l' => PR.err e l' | .ok s' l' => pathL f l' s') = R)
    (h : StepTo wx bp tb bt (stepP cs m s) x w') : ∃ e : Nat, x = .returned (.int .i64 (e : Nat)) ∧ PathSt w bp tb bt R e w' ∧ (e = 0 → leftN w' bp < m.length) := by
  have hl := step_less cs hin hne m s hv
  have hbd : ∀ s' l', stepP cs m s = .ok s' l' → s'.length + 256 * l'.length ≤ s.length + 256 * m.length := by
    intro s' l' h
    unfold stepP at h
    split at h
    · exact eat_bound _ m s s' l' hv itemC_inner h
    · exact eat_bound _ m s s' l' hv hin h
  obtain ⟨h1, h2⟩ := h
  have hO : Only (fun k => k = bp) w w' := ho.trans h1 (fun i hi hk => by have := lt.2.2; omega)
  have hZ : w'.heap[w.heap.size]? = some (.cells #[.int .i64 0, .string ⟨#[]⟩, .bool false, .int .u64 0] 34) := h1.same hz (fun hk => by have := lt.2.2; have := lt.1; omega)
  cases hs : stepP cs m s with
  | err e l' =>
    rw [hs] at h2 hl hR
    exact ⟨e, h2.1, ⟨hO, hZ, lt, .inl ⟨hl.2.2, l', hR.symm, h2.2⟩⟩, fun e0 => absurd e0 hl.2.2⟩
  | ok s' l' =>
    have hb := hbd s' l' hs
    rw [hs] at h2 hl hR
    obtain ⟨hx, hp, ht⟩ := h2
    exact ⟨0, hx, ⟨hO, hZ, lt, .inr ⟨rfl, f, l', s', hR, by have := hl.2; omega, hl.1, by have := hl.2; omega, by omega, hp, ht⟩⟩, fun _ => by rw [hp.leftN]; exact hl.2⟩
theorem row1 (w : World) (o : Value) (ho : o = (.func (.func 149) #[] #[])) : ClRow (w.alloc (.cells #[o] 64)) w.heap.size [.nm] [o] := by
  refine ⟨alloc_at w _, rfl, fun i hi => ?_⟩
  match i, hi with
  | 0, _ => exact ho
theorem row2 {w : World} {v : Value} {c : Cl} (h1 : ClAt w c v) : ClRow (w.alloc (.cells #[v, (.func (.func 149) #[] #[])] 64)) w.heap.size [c, .nm] [v, (.func (.func 149) #[] #[])] := by
  refine ⟨alloc_at w _, rfl, fun i hi => ?_⟩
  match i, hi with
  | 0, _ => exact h1.next ((Below.refl _ _).alloc (Nat.le_refl _) _)
  | 1, _ => exact rfl
theorem PathSt.next {w wr w' : World} {bp tb bt : Nat} (h1 : Only (fun k => k = bp) w wr) (h2 : wr.heap[w.heap.size]? = some (.cells #[.int .i64 0, .string ⟨#[]⟩, .bool false, .int .u64 0] 34)) (hb : Below wr.heap.size wr w') : Only (fun k => k = bp) w w' ∧ w'.heap[w.heap.size]? = some (.cells #[.int .i64 0, .string ⟨#[]⟩, .bool false, .int .u64 0] 34) := ⟨h1.step hb, rowKeep hb h2⟩
theorem endPath {V : World} {act : Act} {Q : Ending → World → Prop} {a0 a1 a2 a3 : Value} {e : Int} (hd : act.defers = []) (rb : Nat) (h2 : act.tmps.getD 2 undef = .pointer (some ⟨rb, 0, none⟩)) (h3 : act.tmps.getD 3 undef = .int .i64 e) (hr : V.heap[rb]? = some (.cells #[a0, a1, a2, a3] 34))
    (hQ : Q (.returned (.tuple #[.agg #[a0, a1, a2, a3], .int .i64 e])) V) : bodyPost Tryz.prog Tryz.f135 Q Exit.ret act V := by
  refine bodyPost_ret (v := .tuple #[.agg #[a0, a1, a2, a3], .int .i64 e]) ?_ hd hQ
  have hl2 := run_loadVar_row (P := Tryz.prog) V rb 34 34 #[a0, a1, a2, a3] _ _ hr Tryz.underlying34 rfl (by kernel_rfl)
  rw [Array.getD_eq_getD_getElem?] at h2 h3
  simp [results, Tryz.results135, asAddr, hl2, h2, h3]
theorem meas_lt {e n : Nat} {w5 wr : World} {bp : Nat} (h : e = 0 → leftN w5 bp < n) (hl : leftN wr bp = n) : (if intOf (.int .i64 (e : Nat)) = 0 then leftN w5 bp + 1 else 0) < (if intOf (.int .i64 0) = 0 then leftN wr bp + 1 else 0) := by
  by_cases h0 : e = 0
  · have := h h0
    subst h0
    show leftN w5 bp + 1 < leftN wr bp + 1
    omega
  · have h1 : ¬ intOf (.int .i64 (e : Nat)) = 0 := by show ¬ ((e : Nat) : Int) = 0; omega
    rw [if_neg h1]
    show 0 < leftN wr bp + 1
    omega
set_option maxRecDepth 100000 in
set_option maxHeartbeats 4000000 in
theorem path_any (bp tb : Nat) (l : List Tk) (w : World) (hp : PAt w bp tb l) (hv : Vd l) (h99 : l.length ≤ 99) :
    Calls Tryz.prog 135 #[.pointer (some ⟨bp, 0, none⟩)] w (OpTo w bp tb (pathP l)) := by
  have hpos := hv.pos
  have hpl := hp.blt
  have htl := hp.lt
  obtain ⟨R, hR⟩ : ∃ R, pathS l = R := ⟨_, rfl⟩
  have hP : pathP l = pathO R := by rw [← hR]; rfl
  rw [hP]
  have HR := Lib.hid hR
  have HBT := Lib.hid (show TxtAt 46 (w.heap.size + 1) (w.heap.size + 1) [] ((w.alloc (.cells #[.int .i64 0, .string ⟨#[]⟩, .bool false, .int .u64 0] 34)).alloc (.cells #[.pointer none, .slice none 0 0] 46)) by
    have := Lib.fresh_isBuilder 46 5 (w.alloc (.cells #[.int .i64 0, .string ⟨#[]⟩, .bool false, .int .u64 0] 34))
    have e : (w.alloc (.cells #[.int .i64 0, .string ⟨#[]⟩, .bool false, .int .u64 0] 34)).heap.size = w.heap.size + 1 := by simp
    rw [e] at this; exact this)
  have hb0 : Below w.heap.size w ((w.alloc (.cells #[.int .i64 0, .string ⟨#[]⟩, .bool false, .int .u64 0] 34)).alloc (.cells #[.pointer none, .slice none 0 0] 46)) := ((Below.refl w.heap.size w).alloc (Nat.le_refl _) _).alloc (by simp) _
  have es : ((w.alloc (.cells #[.int .i64 0, .string ⟨#[]⟩, .bool false, .int .u64 0] 34)).alloc (.cells #[.pointer none, .slice none 0 0] 46)).heap.size = w.heap.size + 1 + 1 := by simp
  have hz0 : ((w.alloc (.cells #[.int .i64 0, .string ⟨#[]⟩, .bool false, .int .u64 0] 34)).alloc (.cells #[.pointer none, .slice none 0 0] 46)).heap[w.heap.size]? = some (.cells #[.int .i64 0, .string ⟨#[]⟩, .bool false, .int .u64 0] 34) := alloc_old (alloc_at w _)
  have HST := Lib.hid (show Calls Tryz.prog 148 #[.pointer (some ⟨bp, 0, none⟩), .pointer (some ⟨w.heap.size + 1, 0, none⟩), .slice (some ⟨w.heap.size + 1 + 1, 0, none⟩) 1 1] (((w.alloc (.cells #[.int .i64 0, .string ⟨#[]⟩, .bool false, .int .u64 0] 34)).alloc (.cells #[.pointer none, .slice none 0 0] 46)).alloc (.cells #[.func (.func 149) #[] #[]] 64)) (fun x w' => ∃ e : Nat, x = .returned (.int .i64 (e : Nat)) ∧ PathSt w bp tb (w.heap.size + 1) R e w') by
    have hb1 : Below ((w.alloc (.cells #[.int .i64 0, .string ⟨#[]⟩, .bool false, .int .u64 0] 34)).alloc (.cells #[.pointer none, .slice none 0 0] 46)).heap.size ((w.alloc (.cells #[.int .i64 0, .string ⟨#[]⟩, .bool false, .int .u64 0] 34)).alloc (.cells #[.pointer none, .slice none 0 0] 46)) (((w.alloc (.cells #[.int .i64 0, .string ⟨#[]⟩, .bool false, .int .u64 0] 34)).alloc (.cells #[.pointer none, .slice none 0 0] 46)).alloc (.cells #[.func (.func 149) #[] #[]] 64)) := (Below.refl _ _).alloc (Nat.le_refl _) _
    have hrow := row1 ((w.alloc (.cells #[.int .i64 0, .string ⟨#[]⟩, .bool false, .int .u64 0] 34)).alloc (.cells #[.pointer none, .slice none 0 0] 46)) (.func (.func 149) #[] #[]) rfl
    rw [es] at hrow
    have hst : StepSt (((w.alloc (.cells #[.int .i64 0, .string ⟨#[]⟩, .bool false, .int .u64 0] 34)).alloc (.cells #[.pointer none, .slice none 0 0] 46)).alloc (.cells #[.func (.func 149) #[] #[]] 64)) bp tb (w.heap.size + 1) (w.heap.size + 1 + 1) [.nm] [.func (.func 149) #[] #[]] l [] (((w.alloc (.cells #[.int .i64 0, .string ⟨#[]⟩, .bool false, .int .u64 0] 34)).alloc (.cells #[.pointer none, .slice none 0 0] 46)).alloc (.cells #[.func (.func 149) #[] #[]] 64)) :=
      ⟨(hp.next hb0).next hb1, HBT.out.next hb1, hrow, Only.refl _ _, by omega, by omega⟩
    have hin : ∀ c ∈ [Cl.nm], c.inner := by intro c hc; simp at hc; rw [hc]; trivial
    refine (step_any [.nm] hin (by simp) [.func (.func 149) #[] #[]] bp tb (w.heap.size + 1) (w.heap.size + 1 + 1) l [] _ hst hv hv.short h99 (by simp; omega)).mono ?_
    intro x w' h
    obtain ⟨e, h1, h2, _⟩ := path_go (f := 100) (R := R) ((Only.of_below (S := fun k => k = bp) hb0).step hb1) (rowKeep hb1 hz0) ⟨hpl, htl, rfl⟩ (by omega) hv h99 (by simp; omega) hin (by simp) (by rw [← hR]; rfl) h
    exact ⟨e, h1, h2⟩)
  clear hz0 es hb0 hP
  go_enter Tryz.func135, Tryz.ntmps135
  go_wp2_with (go_at_call 148; refine (HST.out).mono ?_; rintro e w0 ⟨e0, rfl, hs0⟩; have HS0 := Lib.hid hs0; clear hs0)
  clear hp hv h99 hpos HBT HST HR hR
  go_loopw [5] (fun v wr => ∃ e : Nat, v = .int .i64 (e : Nat) ∧ Hid (PathSt w bp tb (w.heap.size + 1) R e wr)) (fun v wr => if intOf v = 0 then leftN wr bp + 1 else 0)
  case atStart => exact ⟨e0, rfl, HS0⟩
  case round =>
    obtain ⟨e, rfl, HS⟩ := hrel
    have halt := HS.out.alt
    unfold PathAlt at halt
    rcases halt with ⟨hne, m, hRe, hpm⟩ | ⟨rfl, f, m, s, hRe, hmf, hvm, hm99, hlen, hpm, htx⟩
    · have q1 : (((e : Nat) : Int) == 0) = false := beq_eq_false_iff_ne.2 (by omega)
      have q2 : (((e : Nat) : Int) != 0) = true := by simp; omega
      have hzz := HS.out.own
      obtain ⟨r0, f0, r1, f1, r2, f2, r3, f3⟩ := bf4 hzz
      have HPM := Lib.hid hpm
      have HRE := Lib.hid hRe
      clear hRe hpm hzz
      go_wp2
      have hO := only4 (b := w.heap.size) HS.out.only (.inr (Nat.le_refl _)) (.int .i64 0) (.string ⟨#[]⟩) (.bool false) (.int .u64 0)
      refine endPath rfl w.heap.size rfl rfl (put4 HS.out.own _ _ _ _) ?_
      rw [HRE.out]
      exact ⟨hO, rfl, HPM.out.only (K := fun k => k = w.heap.size) (only4 (S := fun k => k = w.heap.size) (Only.refl _ _) (.inl rfl) _ _ _ _) (by omega) (by omega)⟩
    · obtain ⟨g, rfl⟩ : ∃ g, f = g + 1 := ⟨f - 1, by omega⟩
      have hm0 := hvm.pos
      have hln := hpm.leftN
      have HST := Lib.hid (show ((cDot.test (hd m) || cOpen.test (hd m)) = true) → ∀ (wx : World) (gg : Nat) (lb : Array Value), Below wr.heap.size wr wx → ClAt wx cDot (.func (.func gg) #[] lb) → Calls Tryz.prog 148 #[.pointer (some ⟨bp, 0, none⟩), .pointer (some ⟨w.heap.size + 1, 0, none⟩), .slice (some ⟨wx.heap.size, 0, none⟩) 2 2] (wx.alloc (.cells #[.func (.func gg) #[] lb, .func (.func 149) #[] #[]] 64)) (fun x w' => ∃ e : Nat, x = .returned (.int .i64 (e : Nat)) ∧ PathSt w bp tb (w.heap.size + 1) R e w' ∧ (e = 0 → leftN w' bp < m.length)) by
        intro htest wx gg lb hbx hcx
        have hb1 : Below wx.heap.size wx (wx.alloc (.cells #[.func (.func gg) #[] lb, .func (.func 149) #[] #[]] 64)) := (Below.refl _ _).alloc (Nat.le_refl _) _
        have hb2 := bthen hbx hb1
        refine (step_any [cDot, .nm] dotName (by simp) [.func (.func gg) #[] lb, .func (.func 149) #[] #[]] bp tb (w.heap.size + 1) wx.heap.size m s _ ⟨hpm.next hb2, htx.next hb2, row2 hcx, Only.refl _ _, by omega, by omega⟩ hvm hvm.short hm99 hlen).mono ?_
        intro x w' h
        have hn := PathSt.next (tb := tb) (bt := 0) HS.out.only HS.out.own hb2
        exact path_go (f := g) (R := R) hn.1 hn.2 HS.out.lt (by omega) hvm hm99 hlen dotName (by simp) (by rw [← hRe, pathL, if_pos htest]; cases stepP [cDot, .nm] m s <;> rfl) h)
      have HAT1 := Lib.hid (fun (v : Value) wx (hb : Below wr.heap.size wr wx) (hc : ClAt wx cDot v) => at_any bp tb m cDot v wx (hpm.next hb) hc hm0 hm99 (Short.hd hvm.short))
      have HAT2 := Lib.hid (fun (v : Value) wx (hb : Below wr.heap.size wr wx) (hc : ClAt wx cOpen v) => at_any bp tb m cOpen v wx (hpm.next hb) hc hm0 hm99 (Short.hd hvm.short))
      have HSG := Lib.hid (fun wx (hb : Below wr.heap.size wr wx) => Tryz.Builder_String_any (w.heap.size + 1) (w.heap.size + 1) s wx (htx.next hb) (by have := hb.size; have := htx.lt; omega))
      have HEND := Lib.hid (show ∀ wx w5, Below wr.heap.size wr wx → Below (w.heap.size + 1) wx w5 → w5.heap[w.heap.size]? = some (.cells #[.int .i64 0, .string ⟨#[]⟩, .bool false, .int .u64 0] 34) ∧ PAt w5 bp tb m ∧ Only (fun k => k = bp) w w5 from fun wx w5 h1 h2 => by
        have hn := PathSt.next (tb := tb) (bt := 0) HS.out.only HS.out.own h1
        have ho : Only (fun k => w.heap.size + 1 ≤ k) wx w5 := ⟨h2.os, h2.tape, h2.output, h2.size, fun k _ hk => h2.block k (by omega)⟩
        exact ⟨ho.same hn.2 (by omega), (hpm.next h1).only ho (by omega) (by omega), hn.1.trans ho (fun i hi hk => by omega)⟩)
      have HRE := Lib.hid (show ((cDot.test (hd m) || cOpen.test (hd m)) = false) → R = .ok s m from fun h => by rw [← hRe, pathL, h]; rfl)
      clear hRe hvm hm99 hlen hpm htx hmf
      obtain ⟨d, hd1⟩ : ∃ d, cDot.test (hd m) = d := ⟨_, rfl⟩
      obtain ⟨o, ho1⟩ : ∃ o, cOpen.test (hd m) = o := ⟨_, rfl⟩
      rw [hd1] at HAT1 HST HRE
      rw [ho1] at HAT2 HST HRE
      clear hd1 ho1
      cases d with
      | true =>
        have HST := Lib.hid (HST.out rfl)
        go_wp2_with (first
            | (go_at_call 148; refine (HST.out _ _ _ HB1.out HC1.out).mono ?_; rintro e w5 ⟨e5, rfl, hs5, hm5⟩; have HS5 := Lib.hid hs5; have HM5 := Lib.hid hm5; clear hs5 hm5)
            | (go_at_call 28; refine (HAT1.out _ _ HB1.out HC1.out).mono ?_; rintro e w2 ⟨rfl, hb2⟩; have HB2 := Lib.hid (bthen HB1.out hb2); clear hb2)
            | (go_at_call 69; refine (signF_any [46] _ rfl _).mono ?_; rintro e w1 ⟨g1, lb1, rfl, hc1, hb1⟩; have HB1 := Lib.hid (show Below wr.heap.size wr w1 by first | exact bthen HB4.out hb1 | exact bthen HB2.out hb1 | exact hb1); have HC1 := Lib.hid hc1; clear hc1 hb1))
        go_roundw
        case rel => exact ⟨e5, rfl, HS5⟩
        case measure => exact meas_lt HM5.out hln
      | false =>
        cases o with
        | true =>
          have HST := Lib.hid (HST.out rfl)
          go_wp2_with (first
            | (go_at_call 148; refine (HST.out _ _ _ HB1.out HC1.out).mono ?_; rintro e w5 ⟨e5, rfl, hs5, hm5⟩; have HS5 := Lib.hid hs5; have HM5 := Lib.hid hm5; clear hs5 hm5)
            | (go_at_call 28; refine (HAT2.out _ _ HB3.out HC3.out).mono ?_; rintro e w4 ⟨rfl, hb4⟩; have HB4 := Lib.hid (bthen HB3.out hb4); clear hb4)
            | (go_at_call 69; refine (signF_any [91] _ rfl _).mono ?_; rintro e w3 ⟨g3, lb3, rfl, hc3, hb3⟩; have HB3 := Lib.hid (bthen HB2.out hb3); have HC3 := Lib.hid hc3; clear hc3 hb3)
            | (go_at_call 28; refine (HAT1.out _ _ HB1.out HC1.out).mono ?_; rintro e w2 ⟨rfl, hb2⟩; have HB2 := Lib.hid (bthen HB1.out hb2); clear hb2)
            | (go_at_call 69; refine (signF_any [46] _ rfl _).mono ?_; rintro e w1 ⟨g1, lb1, rfl, hc1, hb1⟩; have HB1 := Lib.hid (show Below wr.heap.size wr w1 by first | exact bthen HB4.out hb1 | exact bthen HB2.out hb1 | exact hb1); have HC1 := Lib.hid hc1; clear hc1 hb1))
          go_roundw
          case rel => exact ⟨e5, rfl, HS5⟩
          case measure => exact meas_lt HM5.out hln
        | false =>
          have HRE := Lib.hid (HRE.out rfl)
          go_wp2_with (first
            | (go_at_call 17; refine (HSG.out _ HB4.out).mono ?_; rintro e w5 ⟨rfl, hb5⟩; have HZ5 := Lib.hid (HEND.out _ _ HB4.out hb5); have hzz := HZ5.out.1; obtain ⟨r0, f0, r1, f1, r2, f2, r3, f3⟩ := bf4 hzz; clear hzz; clear hb5)
            | (go_at_call 28; refine (HAT2.out _ _ HB3.out HC3.out).mono ?_; rintro e w4 ⟨rfl, hb4⟩; have HB4 := Lib.hid (bthen HB3.out hb4); clear hb4)
            | (go_at_call 69; refine (signF_any [91] _ rfl _).mono ?_; rintro e w3 ⟨g3, lb3, rfl, hc3, hb3⟩; have HB3 := Lib.hid (bthen HB2.out hb3); have HC3 := Lib.hid hc3; clear hc3 hb3)
            | (go_at_call 28; refine (HAT1.out _ _ HB1.out HC1.out).mono ?_; rintro e w2 ⟨rfl, hb2⟩; have HB2 := Lib.hid (bthen HB1.out hb2); clear hb2)
            | (go_at_call 69; refine (signF_any [46] _ rfl _).mono ?_; rintro e w1 ⟨g1, lb1, rfl, hc1, hb1⟩; have HB1 := Lib.hid (show Below wr.heap.size wr w1 by first | exact bthen HB4.out hb1 | exact bthen HB2.out hb1 | exact hb1); have HC1 := Lib.hid hc1; clear hc1 hb1))
          have hO := only4 (b := w.heap.size) HZ5.out.2.2 (.inr (Nat.le_refl _)) (.int .i64 1) (.string ⟨s.toArray⟩) (.bool false) (.int .u64 0)
          refine endPath rfl w.heap.size rfl rfl (put4 HZ5.out.1 _ _ _ _) ?_
          rw [HRE.out]
          exact ⟨hO, rfl, HZ5.out.2.1.only (K := fun k => k = w.heap.size) (only4 (S := fun k => k = w.heap.size) (Only.refl _ _) (.inl rfl) _ _ _ _) (by omega) (by omega)⟩
end Go.Proofs.YtjgdkiikkgdbaaaGreatDoor
