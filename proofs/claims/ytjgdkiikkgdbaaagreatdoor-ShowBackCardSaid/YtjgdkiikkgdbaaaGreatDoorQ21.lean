/- The printer writes operands, with something between each two of them. -/
import Derived.Test.YtjgdkiikkgdbaaaGreatDoorQ20
namespace Go.Proofs.YtjgdkiikkgdbaaaGreatDoor
open Go.RowKit
set_option linter.unusedVariables false
set_option linter.unusedSimpArgs false
theorem XAt.below {w w' : World} {S : Nat → Prop} {T : XT} {B : Nat} (h : XAt w S T) (hS : ∀ k, S k → k < B) (hb : Below B w w') : XAt w' S T := XAt.held_of (fun _ s _ => s) hb.size (fun k s _ => hb.block k (hS k s)) T h
theorem CellsAt.below {w w' : World} {S : Nat → Prop} {ao : Option Addr} {i : Nat} {cs : List Value} {B : Nat} (h : CellsAt w S ao i cs) (hS : ∀ k, S k → k < B) (hb : Below B w w') : CellsAt w' S ao i cs := h.held (fun _ s _ => s) hb.size (fun k s _ => hb.block k (hS k s))
theorem sum3 (x : List UInt8) : bs [32] ++ bs x ++ bs [32] = bs (32 :: (x ++ [32])) := by rw [bs_append, bs_append]; rfl
set_option maxRecDepth 100000 in
set_option maxHeartbeats 4000000 in
theorem pTest_any (S : Nat → Prop) (aa : Option Addr) (n ac : Nat) (g : Nat → Opd) (o r : Int) (gs : Nat) (m : Nat) (cs : Array Value) (V : Nat → List UInt8) (B b : Nat) (l : List UInt8) (w : World) (h : TxtAt 48 B b l w) (hE : EnvAt B w) (hlen : l.length ≤ 900000000) (hBw : B ≤ w.heap.size)
    (hS : ∀ k, S k → k < B) (hn : n ≤ 100) (hA : ∀ i, i < n → CellsAt w S aa i (opdC (g i))) (hm : ∀ i, i < n → mayOB (g i) = true) (hO : ∀ i, i < n → OpX (g i)) (hs : ∀ i, i < n → (g i).text.size ≤ 3000)
    (hrow : w.heap[gs]? = some (.cells cs 9 (0, 0))) (hgb : gs ≠ b) (hmn : n ≤ m + 1) (hcs : ∀ i, i < m → cs[i]? = some (.string (bs (V i)))) (hV : ∀ i, i < m → (V i).length ≤ 10) (hsep : ∀ i, 0 < i → i < n → sepA o r i = 32 :: (V (i - 1) ++ [32])) :
    Calls Tryz.prog 31 #[.pointer (some ⟨b, 0, none⟩), .slice aa n ac, .slice (some ⟨gs, 0, none⟩) m m] w fun e w' => e = .returned (.tuple #[]) ∧ Cur B b (l ++ argsP o r g n) w w' := by
  have HLen := Lib.hid (fun j (hj : j ≤ n) => argsP_len o r g j (fun i hi => opTx_len (g i) (hO i (by omega)).2 (hs i (by omega))))
  have HAC := Lib.hid (fun i (hi : i < n) wx (hx : Below B w wx) => (hA i hi).below hS hx)
  have HOP := Lib.hid (fun i (hi : i < n) lx wx (hx : TxtAt 48 B b lx wx) (he : Below B w wx) (hl : lx.length ≤ 1000000000) => pOpd_any (g i) (hm i hi) (hO i hi) (Nat.le_trans (hs i hi) (by decide)) B b lx wx hx (hE.next he) hl (Nat.le_trans hBw he.size))
  have HROW := Lib.hid hrow
  have HCS := Lib.hid hcs
  have HVL := Lib.hid hV
  have HSEP := Lib.hid hsep
  have H0 := Lib.hid (Cur.start h hBw)
  have hblt := h.lt
  have hsz := bs_size
  have h32 : (⟨#[32]⟩ : ByteArray) = bs [32] := rfl
  clear h hE hA hm hO hs hrow hcs hV hsep
  go_enter Tryz.func31, Tryz.ntmps31
  go_wp2_with (fail)
  go_loopw [6, 7, 10] (fun _ _ i wr => ∃ (j : Nat), j ≤ n ∧ i = .int .i64 j ∧ Hid (Cur B b (l ++ argsP o r g j) w wr)) (fun _ _ i _ => n - (intOf i).toNat)
  case atStart => exact ⟨0, Nat.zero_le _, rfl, Lib.hid (by show Cur B b (l ++ []) w w; rw [List.append_nil]; exact H0.out)⟩
  case round =>
    obtain ⟨j, hj, rfl, HR⟩ := hrel
    by_cases hlt : j < n
    · obtain ⟨a, off, rfl, _, hbl, hla⟩ := HAC.out j hlt wr HR.out.bel
      have c0 : wr.cell? ⟨a, off + j * 4, none⟩ = some (.int .i64 (g j).kind) := hla 0 _ rfl
      have c1 : wr.cell? ⟨a, off + j * 4 + 1, none⟩ = some (.string (g j).text) := hla 1 _ rfl
      have c2 : wr.cell? ⟨a, off + j * 4 + 2, none⟩ = some (.bool (g j).neg) := hla 2 _ rfl
      have c3 : wr.cell? ⟨a, off + j * 4 + 3, none⟩ = some (.int .u64 (g j).num) := hla 3 _ rfl
      have HN := Lib.hid (HOP.out j hlt)
      unfold POpdTo at HN
      have hl1 := HLen.out j (by omega)
      have hst : argsP o r g (j + 1) = argsP o r g j ++ sepA o r j ++ opTx (g j) := rfl
      have HST := Lib.hid hst
      have hrb : b < wr.heap.size := HR.out.txt.lt
      have HBX := Lib.hid (alloc_at wr (.cells #[.int .i64 (g j).kind, .string (g j).text, .bool (g j).neg, .int .u64 (g j).num] 34))
      have HX := Lib.hid (HR.out.next bel1 (wy := wr.alloc (.cells #[.int .i64 (g j).kind, .string (g j).text, .bool (g j).neg, .int .u64 (g j).num] 34)))
      have HXX := Lib.hid (Cur.start HX.out.txt HX.out.size)
      clear hla hbl hst
      cases j with
      | zero =>
        have e0 : argsP o r g 0 = [] := rfl
        have s0 : sepA o r 0 = [] := by unfold sepA; rw [if_pos rfl]
        simp only [Nat.zero_mul, Nat.add_zero] at c0 c1 c2 c3
        go_wp2_with (go_at_call 22; refine (HN.out _ _ HX.out.txt HX.out.bel (by rw [e0]; simp; omega)).mono ?_; rintro e w2 ⟨rfl, h2⟩; have H2 := Lib.hid h2; clear h2)
        go_roundw
        case rel => exact ⟨1, by omega, by go_num, Lib.hid (by have := HX.out.trans H2.out; rw [HST.out, s0, List.append_nil, ← List.append_assoc]; exact this)⟩
        case measure => simp [intOf]; omega
      | succ k =>
        have hcell : wr.cell? ⟨gs, k, none⟩ = some (.string (bs (V k))) := cell_at (HR.out.box HROW.out hgb (by decide)) (HCS.out k (by omega))
        have hvl := HVL.out k (by omega)
        have hkm : k < m := by omega
        have hwk : IntKind.i64.wrap (k : Int) = (k : Int) := IntWalk.i64_in _ (by omega)
        have hkm2 : (k : Int) < (m : Int) := by omega
        have hse := HSEP.out (k + 1) (by omega) hlt
        rw [show k + 1 - 1 = k from rfl] at hse
        have HSE := Lib.hid hse
        have hglt : gs < wr.heap.size := World.block_lt_of_cell? wr _ hcell
        have hgne : ¬ gs = wr.heap.size := by omega
        generalize hv : V k = v at *
        have HSUM := Lib.hid (sum3 v)
        have q1 : ¬ 9223372036854775807 < 1 + v.length := by omega
        have q2 : ¬ 9223372036854775807 < 1 + v.length + 1 := by omega
        have hwr : IntKind.i64.wrap (((k + 1 : Nat) : Int) - 1) = (k : Int) := by rw [IntWalk.i64_in _ (by omega)]; omega
        have HW : Hid (∀ lx w0 wx, Cur B b lx w0 wx → lx.length ≤ 1000000000 → Calls Tryz.prog 33 #[.pointer (some ⟨b, 0, none⟩), .string (bs [32] ++ bs v ++ bs [32])] wx fun e w' => (∃ z, e = .returned (.tuple #[.int .i64 z, .nilIface])) ∧ Cur B b (lx ++ 32 :: (v ++ [32])) w0 w') := Lib.hid (fun lx w0 wx hx hl => by
          rw [sum3]
          refine (wrC (s := bs (32 :: (v ++ [32]))) hx (by rw [bs_size]; simp; omega)).mono fun e w' h => ⟨⟨_, h.1⟩, ?_⟩
          have := h.2
          rwa [bs_toList] at this)
        have hLl : (l ++ argsP o r g (k + 1)).length ≤ 1000000000 := by rw [List.length_append]; omega
        have hLm : (l ++ argsP o r g (k + 1) ++ 32 :: (v ++ [32])).length ≤ 1000000000 := by rw [List.length_append, List.length_append]; simp; omega
        clear hse hv
        go_wp2_with (fail)
        go_region_with (go_at_call 33; refine (HW.out _ _ _ (by first | exact HXX.out | exact HXX.out.drew) hLl).mono ?_; rintro e w2 ⟨⟨z, rfl⟩, h2⟩; have H2 := Lib.hid h2; have hb2 := h2.box HBX.out (by omega) (by decide); obtain ⟨d0, d1, d2, d3⟩ := bx4 hb2; clear h2 hb2)
        all_goals go_wp2_with (go_at_call 22; refine (HN.out _ _ H2.out.txt (HX.out.bel.trans H2.out.bel) hLm).mono ?_; rintro e w3 ⟨rfl, h3⟩; have H3 := Lib.hid h3; clear h3)
        all_goals go_roundw
        case rel => exact ⟨k + 1 + 1, by omega, by go_num, Lib.hid (by
          have := (HX.out.trans H2.out).trans H3.out
          rw [HST.out, HSE.out]
          rwa [show l ++ (argsP o r g (k + 1) ++ 32 :: (v ++ [32]) ++ opTx (g (k + 1))) = l ++ argsP o r g (k + 1) ++ 32 :: (v ++ [32]) ++ opTx (g (k + 1)) by simp])⟩
        case measure => simp [intOf]; omega
    · obtain rfl : j = n := by omega
      clear hlt
      go_wp2_with (fail)
      go_end0
      exact ⟨rfl, HR.out⟩
end Go.Proofs.YtjgdkiikkgdbaaaGreatDoor
/- The printer writes a part of a tree, in brackets where it must. -/
namespace Go.Proofs.YtjgdkiikkgdbaaaGreatDoor
open Go.RowKit
set_option linter.unusedVariables false
set_option linter.unusedSimpArgs false
/-- s was written in place of t, behind l: t itself, or what is too long as t is -/
def CutS (l s t : List UInt8) : Prop := (s = t ∨ (256 < l.length + s.length ∧ 256 < l.length + t.length)) ∧ s.length ≤ t.length
theorem CutS.refl (l t : List UInt8) : CutS l t t := ⟨.inl rfl, Nat.le_refl _⟩
theorem CutS.app {l s1 t1 s2 t2 : List UInt8} (h1 : CutS l s1 t1) (h2 : CutS (l ++ s1) s2 t2) : CutS l (s1 ++ s2) (t1 ++ t2) := by
  obtain ⟨a1, b1⟩ := h1
  obtain ⟨a2, b2⟩ := h2
  unfold CutS
  rw [List.length_append] at a2
  rw [List.length_append, List.length_append]
  refine ⟨?_, by omega⟩
  rcases a1 with rfl | ⟨a, c⟩
  · rcases a2 with rfl | ⟨a, c⟩
    · exact .inl rfl
    · right; omega
  · right; omega
theorem CutS.long {l s t : List UInt8} (h1 : CutS l s t) (h : 256 < (l ++ s).length) (u : List UInt8) : CutS l s (t ++ u) := by
  obtain ⟨a1, b1⟩ := h1
  rw [List.length_append] at h
  unfold CutS
  rw [List.length_append]
  exact ⟨.inr (by omega), by omega⟩
def PTreeTo (o r : Int) (aa : Option Addr) (an ac : Nat) (ka : Option Addr) (kn kc : Nat) (t : List UInt8) (B b : Nat) (l : List UInt8) (w : World) : Prop := Calls Tryz.prog 16 #[.pointer (some ⟨b, 0, none⟩), .agg #[.int .i64 o, .int .i64 r, .slice aa an ac, .slice ka kn kc]] w fun e w' => e = .returned (.tuple #[]) ∧ ∃ s, Cur B b (l ++ s) w w' ∧ CutS l s t
def PKidTo (o r : Int) (aa : Option Addr) (an ac : Nat) (ka : Option Addr) (kn kc : Nat) (p : Int) (t : List UInt8) (B b : Nat) (l : List UInt8) (w : World) : Prop := Calls Tryz.prog 54 #[.pointer (some ⟨b, 0, none⟩), .agg #[.int .i64 o, .int .i64 r, .slice aa an ac, .slice ka kn kc], .int .i64 p] w fun e w' => e = .returned (.tuple #[]) ∧ ∃ s, Cur B b (l ++ s) w w' ∧ CutS l s (kidS p o t)
set_option maxRecDepth 100000 in
set_option maxHeartbeats 4000000 in
theorem pKid_any (o r : Int) (aa : Option Addr) (an ac : Nat) (ka : Option Addr) (kn kc : Nat) (p : Int) (t : List UInt8) (B b : Nat) (l : List UInt8) (w : World) (h : TxtAt 48 B b l w) (hlen : l.length + (kidS p o t).length ≤ 600000000) (hBw : B ≤ w.heap.size)
    (HT : Hid (∀ lx wx, TxtAt 48 B b lx wx → Below B w wx → lx.length + t.length ≤ 600000000 → PTreeTo o r aa an ac ka kn kc t B b lx wx)) : PKidTo o r aa an ac ka kn kc p t B b l w := by
  have hbl := h.lt
  unfold PKidTo
  unfold PTreeTo at HT
  have HC0 := Lib.hid ((Cur.start h hBw).next bel1 (wy := w.alloc (.cells #[.int .i64 o, .int .i64 r, .slice aa an ac, .slice ka kn kc] 25)))
  have HX0 := Lib.hid (Cur.start (HC0.out.txt) HC0.out.size)
  have HBX := Lib.hid (alloc_at w (.cells #[.int .i64 o, .int .i64 r, .slice aa an ac, .slice ka kn kc] 25))
  have hll := Nat.le_trans (Nat.le_add_right l.length (kidS p o t).length) hlen
  have HWL := Lib.hid (fun v wx (hx : Cur B b l v wx) => wbC (c := 40) hx (by omega))
  have HWR := Lib.hid (fun lx v wx (hx : Cur B b lx v wx) (hl : lx.length ≤ 900000000) => wbC (c := 41) hx (by omega))
  obtain ⟨b6, h6⟩ : ∃ x, (o == 6) = x := ⟨_, rfl⟩
  obtain ⟨b5, h5⟩ : ∃ x, (o == 5) = x := ⟨_, rfl⟩
  obtain ⟨p6, hp⟩ : ∃ x, (p != 6) = x := ⟨_, rfl⟩
  have hpar : paren p o = (b6 || (b5 && p6)) := by rw [← h6, ← h5, ← hp]; rfl
  clear h
  cases hq : (b6 || (b5 && p6)) with
  | false =>
    have e1 : kidS p o t = t := by unfold kidS; rw [hpar, hq, if_neg (by decide)]
    rw [e1] at hlen ⊢
    clear e1 hpar HX0 HBX HWL HWR
    have hb6 : b6 = false := by cases b6 with
      | false => rfl
      | true => cases hq
    subst hb6
    cases b5 with
    | false =>
      clear hq
      go_enter Tryz.func54, Tryz.ntmps54
      go_wp2_with (go_at_call 16; refine (HT.out _ _ HC0.out.txt HC0.out.bel (by omega)).mono ?_; rintro e w1 ⟨rfl, s, h1, h2⟩; have H1 := Lib.hid h1; have H2 := Lib.hid h2; clear h1 h2)
      go_end0
      exact ⟨rfl, s, HC0.out.trans H1.out, H2.out⟩
    | true =>
      have hp6 : p6 = false := hq
      subst hp6
      clear hq
      go_enter Tryz.func54, Tryz.ntmps54
      go_wp2_with (go_at_call 16; refine (HT.out _ _ HC0.out.txt HC0.out.bel (by omega)).mono ?_; rintro e w1 ⟨rfl, s, h1, h2⟩; have H1 := Lib.hid h1; have H2 := Lib.hid h2; clear h1 h2)
      go_end0
      exact ⟨rfl, s, HC0.out.trans H1.out, H2.out⟩
  | true =>
    have e1 : kidS p o t = [40] ++ (t ++ [41]) := by unfold kidS; rw [hpar, hq, if_pos rfl]; rfl
    rw [e1] at hlen ⊢
    have hl1 : (l ++ [40]).length + t.length ≤ 600000000 := by rw [List.length_append, List.length_append] at hlen; rw [List.length_append]; simp at hlen ⊢; omega
    have hlt1 : l.length + t.length ≤ 600000000 := by rw [List.length_append, List.length_append] at hlen; omega
    clear e1 hpar hlen
    have hcase : b6 = true ∨ (b6 = false ∧ b5 = true ∧ p6 = true) := by
      cases b6 with
      | true => exact .inl rfl
      | false => rw [Bool.false_or, Bool.and_eq_true] at hq; exact .inr ⟨rfl, hq⟩
    clear hq
    rcases hcase with rfl | ⟨rfl, rfl, rfl⟩
    all_goals
      go_enter Tryz.func54, Tryz.ntmps54
      go_wp2_with (first
        | (go_at_call 16; refine (HT.out _ _ H1.out.txt (HC0.out.bel.trans H1.out.bel) hl1).mono ?_; rintro e w3 ⟨rfl, s, h1, h2⟩; have H3 := Lib.hid h1; have H4 := Lib.hid h2; have hls : (l ++ [40] ++ s).length ≤ 900000000 := (by have := h2.2; rw [List.length_append, List.length_append]; simp; omega); clear h1 h2)
        | (go_at_call 40; refine (HWR.out _ _ _ H3.out hls).mono ?_; rintro e w4 ⟨rfl, h1⟩; have H5 := Lib.hid h1; clear h1)
        | (go_at_call 40; refine (HWL.out _ _ HX0.out).mono ?_; rintro e w2 ⟨rfl, h1⟩; have H1 := Lib.hid h1; have hb2 := h1.box HBX.out (by omega) (by decide); obtain ⟨d0, d1, d2, d3⟩ := bx4 hb2; clear h1 hb2))
      go_end0
      refine ⟨rfl, [40] ++ (s ++ [41]), ?_, (CutS.refl l [40]).app (H4.out.app (CutS.refl _ [41]))⟩
      have := (HC0.out.trans H1.out).trans H5.out
      rwa [show l ++ ([40] ++ (s ++ [41])) = l ++ [40] ++ s ++ [41] by simp]
end Go.Proofs.YtjgdkiikkgdbaaaGreatDoor
/- The printer writes the parts of a tree, with something between each two of them; a text that is too long already goes no further. -/
namespace Go.Proofs.YtjgdkiikkgdbaaaGreatDoor
open Go.RowKit
set_option linter.unusedVariables false
set_option linter.unusedSimpArgs false
theorem kidsP_mono (o : Int) (f : Nat → XT) : ∀ {n m : Nat}, m ≤ n → (kidsP o f m).length ≤ (kidsP o f n).length
  | 0, m, h => by obtain rfl : m = 0 := by omega
                  exact Nat.le_refl _
  | n + 1, m, h => by
    rcases Nat.eq_or_lt_of_le h with rfl | h
    · exact Nat.le_refl _
    · have := kidsP_mono o f (n := n) (m := m) (by omega)
      show _ ≤ (kidsP o f n ++ sepK o n ++ kidS o (f n).op (showX (f n))).length
      rw [List.length_append, List.length_append]; omega
theorem kidsP_cut (o : Int) (f : Nat → XT) (l s : List UInt8) : ∀ {n m : Nat}, m ≤ n → CutS l s (kidsP o f m) → 256 < (l ++ s).length → CutS l s (kidsP o f n)
  | 0, m, h, hc, _ => by obtain rfl : m = 0 := by omega
                         exact hc
  | n + 1, m, h, hc, hl => by
    rcases Nat.eq_or_lt_of_le h with rfl | h
    · exact hc
    · have := kidsP_cut o f l s (n := n) (m := m) (by omega) hc hl
      show CutS l s (kidsP o f n ++ sepK o n ++ kidS o (f n).op (showX (f n)))
      exact (this.long hl _).long hl _
theorem kidS_ge (p k : Int) (s : List UInt8) : s.length ≤ (kidS p k s).length := by
  unfold kidS; split
  · rw [List.length_cons, List.length_append]; omega
  · exact Nat.le_refl _
set_option maxRecDepth 100000 in
set_option maxHeartbeats 4000000 in
theorem pKids_any (S : Nat → Prop) (o r : Int) (aa : Option Addr) (an ac : Nat) (ka : Option Addr) (kn kc : Nat) (f : Nat → XT) (sp : List UInt8) (B b : Nat) (l : List UInt8) (w : World) (h : TxtAt 48 B b l w) (hlen : l.length + (kidsP o f kn).length ≤ 600000000) (hBw : B ≤ w.heap.size)
    (hkn : kn ≤ 100) (hsp : ∀ i, 0 < i → i < kn → sepK o i = sp) (hspl : sp.length ≤ 10)
    (HC : Hid (∀ i, i < kn → ∀ wx, Below B w wx → CellsAt wx S ka i (xtC (f i))))
    (HT : Hid (∀ i, i < kn → ∀ lx wx, TxtAt 48 B b lx wx → Below B w wx → lx.length + (showX (f i)).length ≤ 600000000 → PTreeTo (f i).op (f i).rel (f i).aa (f i).an (f i).ac (f i).ka (f i).kn (f i).kc (showX (f i)) B b lx wx)) :
    Calls Tryz.prog 34 #[.pointer (some ⟨b, 0, none⟩), .agg #[.int .i64 o, .int .i64 r, .slice aa an ac, .slice ka kn kc], .string (bs sp)] w fun e w' => e = .returned (.tuple #[]) ∧ ∃ s, Cur B b (l ++ s) w w' ∧ CutS l s (kidsP o f kn) := by
  have hbl := h.lt
  have HC0 := Lib.hid ((Cur.start h hBw).next bel1 (wy := w.alloc (.cells #[.int .i64 o, .int .i64 r, .slice aa an ac, .slice ka kn kc] 25)))
  have HX0 := Lib.hid (Cur.start (HC0.out.txt) HC0.out.size)
  have HBX := Lib.hid (alloc_at w (.cells #[.int .i64 o, .int .i64 r, .slice aa an ac, .slice ka kn kc] 25))
  have HKL := Lib.hid (fun j (hj : j ≤ kn) => kidsP_mono o f hj)
  have HKC := Lib.hid (fun s j (hj : j ≤ kn) => kidsP_cut o f l s hj)
  have HKID := Lib.hid (fun i (hi : i < kn) lx wx (hx : TxtAt 48 B b lx wx) (he : Below B w wx) (hl : lx.length + (kidS o (f i).op (showX (f i))).length ≤ 600000000) => pKid_any (f i).op (f i).rel (f i).aa (f i).an (f i).ac (f i).ka (f i).kn (f i).kc o (showX (f i)) B b lx wx hx hl (Nat.le_trans hBw he.size) (Lib.hid (fun ly wy hy hb hl2 => HT.out i hi ly wy hy (he.trans hb) hl2)))
  have HSP := Lib.hid hsp
  have HWS := Lib.hid (fun lx v wx (hx : Cur B b lx v wx) (hl : lx.length ≤ 700000000) => wrC (s := bs sp) hx (by rw [bs_size]; omega))
  rw [bs_toList] at HWS
  have HLEN := Lib.hid (fun lx (v wx : World) (hx : Cur B b lx v wx) => len16 _ B b lx wx hx.txt)
  clear h hsp HT
  generalize hsb : bs sp = ss at *
  clear hsb
  go_enter Tryz.func34, Tryz.ntmps34
  go_wp2_with (fail)
  go_loopw [6, 7, 11] (fun _ _ i wr => ∃ (j : Nat) (s : List UInt8), j ≤ kn ∧ i = .int .i64 j ∧ Hid (Cur B b (l ++ s) (w.alloc (.cells #[.int .i64 o, .int .i64 r, .slice aa an ac, .slice ka kn kc] 25)) wr) ∧ Hid (CutS l s (kidsP o f j))) (fun _ _ i _ => kn - (intOf i).toNat)
  case atStart => exact ⟨0, [], Nat.zero_le _, rfl, Lib.hid (by rw [List.append_nil]; exact HX0.out), Lib.hid (CutS.refl _ _)⟩
  case round =>
    obtain ⟨j, s, hj, rfl, HR, HCT⟩ := hrel
    by_cases hlt : j < kn
    · obtain ⟨a, off, rfl, _, hbk, hla⟩ := HC.out j hlt wr (HC0.out.bel.trans HR.out.bel)
      have c0 : wr.cell? ⟨a, off + j * 4, none⟩ = some (.int .i64 (f j).op) := hla 0 _ rfl
      have c1 : wr.cell? ⟨a, off + j * 4 + 1, none⟩ = some (.int .i64 (f j).rel) := hla 1 _ rfl
      have c2 : wr.cell? ⟨a, off + j * 4 + 2, none⟩ = some (.slice (f j).aa (f j).an (f j).ac) := hla 2 _ rfl
      have c3 : wr.cell? ⟨a, off + j * 4 + 3, none⟩ = some (.slice (f j).ka (f j).kn (f j).kc) := hla 3 _ rfl
      have hrow := HR.out.box HBX.out (by omega) (by decide)
      have e0 : wr.cell? ⟨w.heap.size, 0, none⟩ = some (.int .i64 o) := cell_at hrow rfl
      have hrb : b < wr.heap.size := HR.out.txt.lt
      have hrw : w.heap.size < wr.heap.size := World.block_lt_of_cell? wr _ e0
      have hrw2 : ¬ w.heap.size = wr.heap.size := by omega
      have HBY := Lib.hid (alloc_at wr (.cells #[.int .i64 (f j).op, .int .i64 (f j).rel, .slice (f j).aa (f j).an (f j).ac, .slice (f j).ka (f j).kn (f j).kc] 25))
      have HROW := Lib.hid (rowKeep (bel1 (o := .cells #[.int .i64 (f j).op, .int .i64 (f j).rel, .slice (f j).aa (f j).an (f j).ac, .slice (f j).ka (f j).kn (f j).kc] 25)) hrow)
      have HY := Lib.hid (HR.out.next bel1 (wy := wr.alloc (.cells #[.int .i64 (f j).op, .int .i64 (f j).rel, .slice (f j).aa (f j).an (f j).ac, .slice (f j).ka (f j).kn (f j).kc] 25)))
      have HYY := Lib.hid (Cur.start HY.out.txt HY.out.size)
      have HN := Lib.hid (HKID.out j hlt)
      unfold PKidTo at HN
      have hst : kidsP o f (j + 1) = kidsP o f j ++ sepK o j ++ kidS o (f j).op (showX (f j)) := rfl
      have hmono := HKL.out (j + 1) (by omega)
      rw [hst, List.length_append, List.length_append] at hmono
      have hkge := kidS_ge o (f j).op (showX (f j))
      have hcl := HCT.out.2
      have HST := Lib.hid hst
      clear hla hbk hst hrow
      have hsk0 : j = 0 → sepK o j = [] := fun e => by rw [e]; unfold sepK; rw [if_pos rfl]
      have hsk1 : 0 < j → sepK o j = sp := fun e => HSP.out j e hlt
      have HSK0 := Lib.hid hsk0
      have HSK1 := Lib.hid hsk1
      have hspj : 0 < j → sp.length ≤ (sepK o j).length := fun e => by rw [hsk1 e]; exact Nat.le_refl _
      have hql : (l ++ s).length = l.length + s.length := List.length_append
      obtain ⟨q, hq⟩ : ∃ q, l ++ s = q := ⟨_, rfl⟩
      have HQ := Lib.hid hq
      have HRES := Lib.hid (HKC.out s j (by omega) HCT.out)
      rw [hq] at HR HY HYY hql HRES
      clear hq hsk0 hsk1
      by_cases hbig : 256 < q.length
      · have hbig2 : (256 : Int) < ((q.length : Nat) : Int) := by omega
        go_wp2_with (go_at_call 53; refine (HLEN.out _ _ _ HYY.out).mono ?_; rintro e w1 ⟨rfl, rfl⟩)
        refine bodyPost_ret (results_none (by rfl) _ _ _) rfl ?_
        exact ⟨rfl, s, by rw [HQ.out]; exact HC0.out.trans HY.out, HRES.out hbig⟩
      · have hbig2 : ¬ (256 : Int) < ((q.length : Nat) : Int) := by omega
        have hq1 : q.length + (kidS o (f j).op (showX (f j))).length ≤ 600000000 := by omega
        by_cases hj0 : j = 0
        · have hz : ¬ 0 < j := by omega
          have hzi : ¬ (0 : Int) < (j : Int) := by omega
          have HS0 := Lib.hid (HSK0.out hj0)
          clear hj0 hspj
          go_wp2_with (first
            | (go_at_call 53; refine (HLEN.out _ _ _ HYY.out).mono ?_; rintro e w1 ⟨rfl, rfl⟩)
            | (go_at_call 54; refine (HN.out _ _ HY.out.txt (HC0.out.bel.trans HY.out.bel) hq1).mono ?_; rintro e w2 ⟨rfl, s2, h1, h2⟩; have H1 := Lib.hid h1; have H2 := Lib.hid h2; clear h1 h2))
          go_roundw
          case rel =>
            refine ⟨j + 1, s ++ s2, by omega, by go_num, Lib.hid ?_, Lib.hid ?_⟩
            · rw [← List.append_assoc, HQ.out]; exact HY.out.trans H1.out
            · rw [HST.out, HS0.out, List.append_nil]; exact HCT.out.app (by rw [HQ.out]; exact H2.out)
          case measure => simp [intOf]; omega
        · have hz : 0 < j := by omega
          have hzi : (0 : Int) < (j : Int) := by omega
          have hsj := hspj hz
          have HS1 := Lib.hid (HSK1.out hz)
          have hq2 : (q ++ sp).length + (kidS o (f j).op (showX (f j))).length ≤ 600000000 := by rw [List.length_append]; omega
          clear hj0 hspj hsj
          go_wp2_with (first
            | (go_at_call 53; refine (HLEN.out _ _ _ HYY.out).mono ?_; rintro e w1 ⟨rfl, rfl⟩)
            | (go_at_call 54; refine (HN.out _ _ H3.out.txt (HC0.out.bel.trans (HY.out.trans H3.out).bel) hq2).mono ?_; rintro e w2 ⟨rfl, s2, h1, h2⟩; have H1 := Lib.hid h1; have H2 := Lib.hid h2; clear h1 h2)
            | (go_at_call 33; refine (HWS.out _ _ _ HYY.out (by omega)).mono ?_; rintro e w3 ⟨rfl, h3⟩; have H3 := Lib.hid h3; have hb3 := h3.box HBY.out (by omega) (by decide); have hb4 := h3.box HROW.out (by omega) (by decide); obtain ⟨d0, d1, d2, d3⟩ := bx4 hb3; have g0 : w3.cell? ⟨w.heap.size, 0, none⟩ = some (.int .i64 o) := cell_at hb4 rfl; clear h3 hb3 hb4))
          go_roundw
          case rel =>
            refine ⟨j + 1, s ++ sp ++ s2, by omega, by go_num, Lib.hid ?_, Lib.hid ?_⟩
            · rw [show l ++ (s ++ sp ++ s2) = l ++ s ++ sp ++ s2 by simp, HQ.out]; exact (HY.out.trans H3.out).trans H1.out
            · rw [HST.out, HS1.out]; exact (HCT.out.app (CutS.refl _ sp)).app (by rw [show l ++ (s ++ sp) = l ++ s ++ sp by simp, HQ.out]; exact H2.out)
          case measure => simp [intOf]; omega
    · obtain rfl : j = kn := by omega
      clear hlt
      go_wp2_with (fail)
      go_end0
      exact ⟨rfl, s, HC0.out.trans HR.out, HCT.out⟩
end Go.Proofs.YtjgdkiikkgdbaaaGreatDoor
