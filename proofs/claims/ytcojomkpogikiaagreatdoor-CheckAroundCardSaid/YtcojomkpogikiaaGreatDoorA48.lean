/- The code of chapter 18: Bind. -/
import Derived.Test.YtcojomkpogikiaaGreatDoorA47
namespace Go.Proofs.YtcojomkpogikiaaGreatDoor
open Go Go.RowKit Go.Shelf
set_option linter.unusedVariables false
set_option linter.unusedSimpArgs false
attribute [local go_sem] Oper.semAt_some
theorem fr_eqB {a b : List Value} (h : a = b) : (⟨a.toArray, []⟩ : Act) = ⟨b.toArray, []⟩ := by rw [h]
/-- what is bound stays as it is -/
theorem bindO_again (P : Nat → List UInt8) (n : Nat) (o : Opd) (h : (bindO P n o).1 = 0) : bindO P n (bindO P n o).2 = bindO P n o := by
  unfold bindO at h ⊢
  by_cases h5 : o.kind = 5
  · rw [if_pos h5] at h ⊢
    by_cases hn : (n : Int) ≤ o.num
    · rw [if_pos hn] at h; cases h
    · rw [if_neg hn] at h ⊢
      by_cases hb : litB (litA (P o.num.toNat)) = true
      · rw [if_pos hb] at ⊢
        simp only
        rw [if_neg (litO_kind _)]
      · rw [if_neg hb] at h; cases h
  · rw [if_neg h5]
    simp only
    rw [if_neg h5]
theorem bArg_same (P : Nat → List UInt8) (n : Nat) {T U : XT} (h3 : T.an = U.an) (h4 : ∀ i, i < T.an → T.arg i = U.arg i) : bArgE P n T = bArgE P n U := by
  unfold bArgE
  rw [← h3]
  exact Pa.firstE_congr (fun i hi => by rw [h4 i hi])
theorem bindE_same (P : Nat → List UInt8) (n : Nat) : ∀ T U : XT, SameX T U → bindE P n T = bindE P n U := by
  refine XT.ind fun T ih U h => ?_
  obtain ⟨h1, h2, h3, h4, h5, h6⟩ := (sameX_iff T U).1 h
  rw [bindE_eq, bindE_eq, bArg_same P n h3 h4, ← h5, Pa.firstE_congr (fun i hi => ih i hi _ (h6 i hi))]
/-- the boxes: x's, the parameters', the results' -/
structure BdSt (w : World) (U : XT) (pa : Option Addr) (pn pc : Nat) (W : World) : Prop where
  bx : W.heap[w.heap.size]? = some (.cells #[.int .i64 U.op, .int .i64 U.rel, .slice U.aa U.an U.ac, .slice U.ka U.kn U.kc] 26)
  ps : W.heap[w.heap.size + 1]? = some (.cells #[.slice pa pn pc] 33)
  r0 : W.heap[w.heap.size + 1 + 1]? = some (.cells #[.int .i64 0, .int .i64 0, .slice none 0 0, .slice none 0 0] 26)
  r1 : W.heap[w.heap.size + 1 + 1 + 1]? = some (.cells #[.int .i64 0] 30)
  bel : Below w.heap.size w W
  sz : w.heap.size + 4 ≤ W.heap.size
theorem BdSt.start (w : World) (T : XT) (pa : Option Addr) (pn pc : Nat) : BdSt w T pa pn pc ((((w.alloc (.cells #[.int .i64 T.op, .int .i64 T.rel, .slice T.aa T.an T.ac, .slice T.ka T.kn T.kc] 26)).alloc (.cells #[.slice pa pn pc] 33)).alloc (.cells #[.int .i64 0, .int .i64 0, .slice none 0 0, .slice none 0 0] 26)).alloc (.cells #[.int .i64 0] 30)) := by
  have h1 := alloc_at w (.cells #[.int .i64 T.op, .int .i64 T.rel, .slice T.aa T.an T.ac, .slice T.ka T.kn T.kc] 26)
  have h2 := alloc_at (w.alloc (.cells #[.int .i64 T.op, .int .i64 T.rel, .slice T.aa T.an T.ac, .slice T.ka T.kn T.kc] 26)) (.cells #[.slice pa pn pc] 33)
  have h3 := alloc_at ((w.alloc (.cells #[.int .i64 T.op, .int .i64 T.rel, .slice T.aa T.an T.ac, .slice T.ka T.kn T.kc] 26)).alloc (.cells #[.slice pa pn pc] 33)) (.cells #[.int .i64 0, .int .i64 0, .slice none 0 0, .slice none 0 0] 26)
  have h4 := alloc_at (((w.alloc (.cells #[.int .i64 T.op, .int .i64 T.rel, .slice T.aa T.an T.ac, .slice T.ka T.kn T.kc] 26)).alloc (.cells #[.slice pa pn pc] 33)).alloc (.cells #[.int .i64 0, .int .i64 0, .slice none 0 0, .slice none 0 0] 26)) (.cells #[.int .i64 0] 30)
  rw [World.size_alloc] at h2
  rw [World.size_alloc, World.size_alloc] at h3
  rw [World.size_alloc, World.size_alloc, World.size_alloc] at h4
  exact ⟨alloc_old (alloc_old (alloc_old h1)), alloc_old (alloc_old h2), alloc_old h3, h4, ((((Below.refl _ _).alloc (Nat.le_refl _) _).alloc (by simp) _).alloc (by simp; omega) _).alloc (by simp; omega) _, by simp⟩
theorem BdSt.next {w : World} {U : XT} {pa : Option Addr} {pn pc : Nat} {W W' : World} (h : BdSt w U pa pn pc W) (hb : Below W.heap.size W W') : BdSt w U pa pn pc W' :=
  ⟨rowKeep hb h.bx, rowKeep hb h.ps, rowKeep hb h.r0, rowKeep hb h.r1, h.bel.trans (hb.mono h.bel.size), Nat.le_trans h.sz hb.size⟩
theorem BdSt.only {w : World} {U : XT} {pa : Option Addr} {pn pc : Nat} {S : Nat → Prop} {W W' : World} (h : BdSt w U pa pn pc W) (ho : Only S W W') (hS : ∀ k, S k → w.heap.size + 4 ≤ k) : BdSt w U pa pn pc W' :=
  ⟨ho.same h.bx (fun s => by have := hS _ s; omega), ho.same h.ps (fun s => by have := hS _ s; omega), ho.same h.r0 (fun s => by have := hS _ s; omega), ho.same h.r1 (fun s => by have := hS _ s; omega),
    h.bel.trans (ho.below (fun k hk => by have := hS k hk; omega) h.bel.size), Nat.le_trans h.sz ho.size⟩
theorem BdSt.stays {w : World} {U : XT} {pa : Option Addr} {pn pc : Nat} {W W' : World} {B : Nat} (h : BdSt w U pa pn pc W) (hst : Stays B W W') (hB : w.heap.size ≤ B) : BdSt w U pa pn pc W' :=
  ⟨hst.same _ _ h.bx (.inl rfl), hst.same _ _ h.ps (.inl rfl), hst.same _ _ h.r0 (.inl rfl), hst.same _ _ h.r1 (.inl rfl), hst.below h.bel (Nat.le_refl _) hB, Nat.le_trans h.sz hst.size⟩
theorem BdSt.put {w : World} {T : XT} {pa : Option Addr} {pn pc : Nat} {W : World} (h : BdSt w T pa pn pc W) (U : XT) : BdSt w U pa pn pc ((((W.setCell ⟨w.heap.size, 0, none⟩ (.int .i64 U.op)).setCell ⟨w.heap.size, 1, none⟩ (.int .i64 U.rel)).setCell ⟨w.heap.size, 2, none⟩ (.slice U.aa U.an U.ac)).setCell ⟨w.heap.size, 3, none⟩ (.slice U.ka U.kn U.kc)) := by
  have ho : Only (fun k => k = w.heap.size) W _ := put4c_only W w.heap.size 0 (.int .i64 U.op) (.int .i64 U.rel) (.slice U.aa U.an U.ac) (.slice U.ka U.kn U.kc)
  exact ⟨set_at (set_at (set_at (set_at h.bx))), ho.same h.ps (by omega), ho.same h.r0 (by omega), ho.same h.r1 (by omega), h.bel.trans (ho.below (fun k hk => by omega) h.bel.size), Nat.le_trans h.sz ho.size⟩
/-- the rows of operands -/
def ArB (M : List (Addr × XT)) (k : Nat) : Prop := ∃ y, y ∈ M ∧ 0 < y.2.an ∧ y.2.aa = some ⟨k, 0, none⟩
/-- what is bound already, and what not yet -/
def ArI (P : Nat → List UInt8) (pn : Nat) (M N : List (Addr × XT)) (W : World) : Prop :=
  ∀ y, y ∈ M → 0 < y.2.an → ∃ g, y.2.aa = some ⟨g, 0, none⟩ ∧ (y ∈ N → RowC W g 40 (fun i => opdC (bindO P pn (y.2.arg i)).2) y.2.an) ∧ (y ∉ N → RowC W g 40 (fun i => opdC (y.2.arg i)) y.2.an)
theorem Only.stays18 {S : Nat → Prop} {B : Nat} {A X Y : World} (h : Only S A X) (hs : Stays B X Y) (hB : ∀ k, B ≤ k → S k) : Only S A Y :=
  ⟨hs.os.trans h.os, hs.tape.trans h.tape, hs.output.trans h.output, Nat.le_trans h.size hs.size, fun k hk hS => by
    have h1 := h.block k hk hS
    have hlt : k < X.heap.size := Nat.lt_of_lt_of_le hk h.size
    have h2 : X.heap[k]? = some X.heap[k] := Array.getElem?_eq_getElem hlt
    have hkB : k < B := by
      rcases Nat.lt_or_ge k B with h | h
      · exact h
      · exact absurd (hB k h) hS
    rw [hs.same k _ h2 (.inr hkB), ← h2, h1]⟩
theorem RowC.stays {B : Nat} {X Y : World} {g : Nat} {t : TypeId} {f : Nat → List Value} {n : Nat} (h : RowC X g t f n) (hs : Stays B X Y) : RowC Y g t f n := by
  obtain ⟨cur, h1, h2⟩ := h
  exact ⟨cur, hs.same _ _ h1 (.inl rfl), h2⟩
/-- what a round may change -/
def SB (B : Nat) (M : List (Addr × XT)) (k : Nat) : Prop := B ≤ k ∨ ArB M k
def S3 (B : Nat) (y : XT) (k : Nat) : Prop := B ≤ k ∨ (0 < y.an ∧ y.aa = some ⟨k, 0, none⟩)
def S4 (B n0 : Nat) (y : XT) (k : Nat) : Prop := S3 B y k ∨ k = n0 + 1 + 1 ∨ k = n0 + 1 + 1 + 1
structure BdI (P : Nat → List UInt8) (w : World) (U : XT) (pa : Option Addr) (pn pc : Nat) (M : List (Addr × XT)) (W0 : World) (N : List (Addr × XT)) (W : World) : Prop where
  z : ∀ y, y ∈ N → bArgE P pn y.2 = 0
  st : BdSt w U pa pn pc W
  on : Only (SB W0.heap.size M) W0 W
  ar : ArI P pn M N W
theorem BdI.stays {P : Nat → List UInt8} {w : World} {U : XT} {pa : Option Addr} {pn pc : Nat} {M : List (Addr × XT)} {W0 : World} {N : List (Addr × XT)} {X Y : World} (h : BdI P w U pa pn pc M W0 N X) (hs : Stays W0.heap.size X Y) (hB : w.heap.size ≤ W0.heap.size) : BdI P w U pa pn pc M W0 N Y :=
  ⟨h.z, h.st.stays hs hB, h.on.stays18 hs (fun k hk => .inl hk), fun y hy hn => by
    obtain ⟨g, e, h1, h2⟩ := h.ar y hy hn
    exact ⟨g, e, fun hm => (h1 hm).stays hs, fun hm => (h2 hm).stays hs⟩⟩
/-- an error's end -/
def BdX (P : Nat → List UInt8) (w : World) (pn : Nat) (F : Addr × XT → Addr × XT) (pre : List (Addr × XT)) (W : World) : Prop :=
  ∃ (pre0 : List (Addr × XT)) (x : Addr × XT), pre = pre0 ++ [x] ∧ (∀ y, y ∈ pre0.map F → bArgE P pn y.2 = 0) ∧ bArgE P pn (F x).2 ≠ 0 ∧ W.heap[w.heap.size + 1 + 1]? = some (.cells #[.int .i64 0, .int .i64 0, .slice none 0 0, .slice none 0 0] 26) ∧ W.heap[w.heap.size + 1 + 1 + 1]? = some (.cells #[.int .i64 (bArgE P pn (F x).2)] 30) ∧ Below w.heap.size w W
theorem BdX.stays {P : Nat → List UInt8} {w : World} {pn B : Nat} {F : Addr × XT → Addr × XT} {pre : List (Addr × XT)} {X Y : World} (h : BdX P w pn F pre X) (hs : Stays B X Y) (hB : w.heap.size ≤ B) : BdX P w pn F pre Y := by
  obtain ⟨p0, x, e, h1, h2, h3, h4, h5⟩ := h
  exact ⟨p0, x, e, h1, h2, hs.same _ _ h3 (.inl rfl), hs.same _ _ h4 (.inl rfl), hs.below h5 (Nat.le_refl _) hB⟩
structure BdI2 (P : Nat → List UInt8) (w : World) (U : XT) (pa : Option Addr) (pn pc : Nat) (y : XT) (W3 : World) (A0 : Nat → Opd) (N : List Nat) (W : World) : Prop where
  z : ∀ i, i ∈ N → (bindO P pn (y.arg i)).1 = 0
  st : BdSt w U pa pn pc W
  on : Only (S3 W3.heap.size y) W3 W
  row : ∀ g, 0 < y.an → y.aa = some ⟨g, 0, none⟩ → RowC W g 40 (fun i => opdC (if i ∈ N then (bindO P pn (y.arg i)).2 else A0 i)) y.an
theorem BdI2.stays {P : Nat → List UInt8} {w : World} {U : XT} {pa : Option Addr} {pn pc : Nat} {y : XT} {W3 : World} {A0 : Nat → Opd} {N : List Nat} {X Y : World} (h : BdI2 P w U pa pn pc y W3 A0 N X) (hs : Stays W3.heap.size X Y) (hB : w.heap.size ≤ W3.heap.size) : BdI2 P w U pa pn pc y W3 A0 N Y :=
  ⟨h.z, h.st.stays hs hB, h.on.stays18 hs (fun k hk => .inl hk), fun g hn e => (h.row g hn e).stays hs⟩
def BdX2 (P : Nat → List UInt8) (w : World) (pn : Nat) (y : XT) (W3 : World) (pre : List Nat) (W : World) : Prop :=
  ∃ (pre0 : List Nat) (x : Nat), pre = pre0 ++ [x] ∧ (∀ i, i ∈ pre0.map (opIx y.an) → (bindO P pn (y.arg i)).1 = 0) ∧ (bindO P pn (y.arg (opIx y.an x))).1 ≠ 0 ∧ W.heap[w.heap.size + 1 + 1]? = some (.cells #[.int .i64 0, .int .i64 0, .slice none 0 0, .slice none 0 0] 26) ∧ W.heap[w.heap.size + 1 + 1 + 1]? = some (.cells #[.int .i64 (bindO P pn (y.arg (opIx y.an x))).1] 30) ∧ Below w.heap.size w W ∧ Only (S4 W3.heap.size w.heap.size y) W3 W
theorem BdX2.stays {P : Nat → List UInt8} {w : World} {pn : Nat} {y : XT} {W3 : World} {pre : List Nat} {X Y : World} (h : BdX2 P w pn y W3 pre X) (hs : Stays W3.heap.size X Y) (hB : w.heap.size ≤ W3.heap.size) : BdX2 P w pn y W3 pre Y := by
  obtain ⟨p0, x, e, h1, h2, h3, h4, h5, h6⟩ := h
  exact ⟨p0, x, e, h1, h2, hs.same _ _ h3 (.inl rfl), hs.same _ _ h4 (.inl rfl), hs.below h5 (Nat.le_refl _) hB, h6.stays18 hs (fun k hk => .inl (.inl hk))⟩
theorem loop_lt {w : World} {l : Nat} {o : Obj} (h : w.heap[l]? = some o) : l < w.heap.size := (Array.getElem?_eq_some_iff.1 h).1
theorem bd_end {V : World} {n0 D : Nat} {E o r : Int} {aa ka : Option Addr} {an ac kn kc : Nat} {tmps : Array Value} {Q : Ending → World → Prop} (h4 : tmps.getD 4 undef = .pointer (some ⟨n0 + 1 + 1, 0, none⟩)) (h5 : tmps.getD 5 undef = .pointer (some ⟨n0 + 1 + 1 + 1, 0, none⟩)) (hdk : V.heap[D]? = some (.deferred (some [])))
    (hr : V.heap[n0 + 1 + 1]? = some (.cells #[.int .i64 o, .int .i64 r, .slice aa an ac, .slice ka kn kc] 26)) (he : V.heap[n0 + 1 + 1 + 1]? = some (.cells #[.int .i64 E] 30))
    (hQ : Q (.returned (.tuple #[.agg #[.int .i64 o, .int .i64 r, .slice aa an ac, .slice ka kn kc], .int .i64 E])) (V.putObj D (.deferred none))) : LeavesInM Fence.wide 3 Tryz.prog Tryz.f12 tmps Q [{ target := .collected D, args := #[] }] .returning V := by
  refine leavesM_mark (D := D) hdk ⟨.tuple #[.agg #[.int .i64 o, .int .i64 r, .slice aa an ac, .slice ka kn kc], .int .i64 E], ?_, hQ⟩
  have d0 : (V.putObj D (.deferred none)).cell? ⟨n0 + 1 + 1, 0, none⟩ = some (.int .i64 o) := putD_cell hdk (cell_at (j := 0) hr rfl)
  have d1 : (V.putObj D (.deferred none)).cell? ⟨n0 + 1 + 1, 1, none⟩ = some (.int .i64 r) := putD_cell hdk (cell_at (j := 1) hr rfl)
  have d2 : (V.putObj D (.deferred none)).cell? ⟨n0 + 1 + 1, 2, none⟩ = some (.slice aa an ac) := putD_cell hdk (cell_at (j := 2) hr rfl)
  have d3 : (V.putObj D (.deferred none)).cell? ⟨n0 + 1 + 1, 3, none⟩ = some (.slice ka kn kc) := putD_cell hdk (cell_at (j := 3) hr rfl)
  have c1 : (V.putObj D (.deferred none)).cell? ⟨n0 + 1 + 1 + 1, 0, none⟩ = some (.int .i64 E) := putD_cell hdk (cell_at (j := 0) he rfl)
  rw [Array.getD_eq_getD_getElem?] at h4 h5
  simp [results, Tryz.results12, asAddr, go_sem, h4, h5, d0, d1, d2, d3, c1]
set_option maxRecDepth 100000 in
set_option maxHeartbeats 8000000 in
theorem cbind_any (S0 : Nat → Prop) (P : Nat → List UInt8) (pa : Option Addr) (pn pc : Nat) (T : XT) (w : World) (hpn : pn ≤ 1000000) (HP : PsAt w pa pn P) (HX : XAt w S0 T) (HTX : XTx T) (HSM : XSm T) (HFW : XFw T) (hV : LibAt w) : CBTo (bindE P pn T) (bindT P pn T) T pa pn pc w := by
  have hmix : Tryz.prog.follows .mixedOrders = true := by kernel_rfl
  have HCP := Lib.hid (fun wx (hx : Below w.heap.size w wx) => copied_any S0 T wx (HX.next hx) HSM HFW)
  have HEX := Lib.hid (fun p wx => expr_any p wx)
  have HOP := Lib.hid (fun p wx => opds_any p wx)
  have HBO := Lib.hid (fun o (ho : OpX o) wx (hx : Below w.heap.size w wx) => bound_any P o ho pa pn pc hpn wx (HP.next hx) (hV.held hx))
  have HS0 := Lib.hid (BdSt.start w T pa pn pc)
  unfold CCpTo at HCP
  unfold CBoTo at HBO
  clear HP HX hV
  unfold CBTo
  refine calls_of_marks Tryz.func12 rfl ?_
  simp only [Tryz.ntmps12, List.size_toArray, List.length_cons, List.length_nil, Nat.reduceAdd, Nat.reduceSub, Array.replicate_succ, Array.replicate_zero, List.push_toArray, List.append_toArray, List.nil_append, List.cons_append]
  go_upto_region 1 with (fail)
  generalize (((w.alloc (.cells #[.int .i64 T.op, .int .i64 T.rel, .slice T.aa T.an T.ac, .slice T.ka T.kn T.kc] 26)).alloc (.cells #[.slice pa pn pc] 33)).alloc (.cells #[.int .i64 0, .int .i64 0, .slice none 0 0, .slice none 0 0] 26)).alloc (.cells #[.int .i64 0] 30) = W1 at *
  obtain ⟨x0, x1, x2, x3⟩ := expr_box HS0.out.bx
  go_upto_region 2 with (go_at_call 25; refine (HCP.out _ HS0.out.bel).mono ?_; rintro e w1 ⟨U, rfl, hs, hf, hb1⟩; have HS1 := Lib.hid (HS0.out.next hb1); clear x0 x1 x2 x3; obtain ⟨x0, x1, x2, x3⟩ := expr_box HS1.out.bx; have f0 := free_at (j := 0) HS1.out.bx; have f1 := free_at (j := 1) HS1.out.bx; have f2 := free_at (j := 2) HS1.out.bx; have f3 := free_at (j := 3) HS1.out.bx)
  have hz0 := HS0.out.sz
  have HS2 := Lib.hid (HS1.out.put U)
  have ho2 : Only (fun k => k = w.heap.size) w1 ((((w1.setCell ⟨w.heap.size, 0, none⟩ (.int .i64 U.op)).setCell ⟨w.heap.size, 1, none⟩ (.int .i64 U.rel)).setCell ⟨w.heap.size, 2, none⟩ (.slice U.aa U.an U.ac)).setCell ⟨w.heap.size, 3, none⟩ (.slice U.ka U.kn U.kc)) := put4c_only w1 w.heap.size 0 (.int .i64 U.op) (.int .i64 U.rel) (.slice U.aa U.an U.ac) (.slice U.ka U.kn U.kc)
  have hf2 := FrX.held _ _ _ hf (fun b b1 b2 => ho2.block b b2 (by omega))
  have hz2 := ho2.size
  have hlo := hb1.size
  clear x0 x1 x2 x3 f0 f1 f2 f3 HS1 HS0 hf hb1 HCP ho2
  generalize (((w1.setCell ⟨w.heap.size, 0, none⟩ (.int .i64 U.op)).setCell ⟨w.heap.size, 1, none⟩ (.int .i64 U.rel)).setCell ⟨w.heap.size, 2, none⟩ (.slice U.aa U.an U.ac)).setCell ⟨w.heap.size, 3, none⟩ (.slice U.ka U.kn U.kc) = W2 at *
  have hsame := hs
  go_wp2_with (go_at_call 21; refine (HEX.out _ _).mono ?_; rintro e w3 ⟨rfl, rfl⟩)
  have q2 := alloc_at W2 (.cells #[.pointer (some ⟨w.heap.size, 0, none⟩)] 66)
  have hbw : Below W2.heap.size W2 (W2.alloc (.cells #[.pointer (some ⟨w.heap.size, 0, none⟩)] 66)) := (Below.refl _ _).alloc (Nat.le_refl _) _
  have hzw : (W2.alloc (.cells #[.pointer (some ⟨w.heap.size, 0, none⟩)] 66)).heap.size = W2.heap.size + 1 := by simp
  generalize (W2.alloc (.cells #[.pointer (some ⟨w.heap.size, 0, none⟩)] 66)) = W0 at *
  have HS3 := Lib.hid (HS2.out.next hbw)
  have hf3 : FrX W0 U W1.heap.size w1.heap.size := FrX.held _ _ _ hf2 (fun b b1 b2 => hbw.block b (by omega))
  have hcb : W0.cell? ⟨W2.heap.size, 0, none⟩ = some (.pointer (some ⟨w.heap.size, 0, none⟩)) := cell_at q2 rfl
  have hrow := FrX.rows U ⟨w.heap.size, 0, none⟩ _ _ hf3
  have hap := FrX.apart U ⟨w.heap.size, 0, none⟩ _ _ hf3
  have hroot : ((⟨w.heap.size, 0, none⟩ : Addr), U) ∈ nodesX ⟨w.heap.size, 0, none⟩ U := by rw [nodesX_eq]; exact List.mem_cons_self ..
  have hxu : XTx U ∧ XSm U := ⟨xtx_same U T hs HTX, xsm_same U T hs HSM⟩
  have htx := nodes_all (Q := XTx) (fun T h i hi => ((xtx_iff T).1 h).2 i hi) U ⟨w.heap.size, 0, none⟩ hxu.1
  have hsm := nodes_all (Q := XSm) (fun T h i hi => ((xsm_iff T).1 h).2 i hi) U ⟨w.heap.size, 0, none⟩ hxu.2
  have hfirst := nodes_bind P pn U ⟨w.heap.size, 0, none⟩
  have hbat := fun W (S : Nat → Prop) => bndX_at (W := W) (S := S) P pn U ⟨w.heap.size, 0, none⟩
  have hlow : ∀ k, ArB (nodesX ⟨w.heap.size, 0, none⟩ U) k → W1.heap.size ≤ k ∧ k < w1.heap.size := by
    rintro k ⟨y, hy, hn, e⟩
    obtain ⟨k', e', h1, h2, _⟩ := (hrow y hy).2.1 hn
    rw [e] at e'
    cases e'
    exact ⟨h1, h2⟩
  have hnode : NodeC W0 (SB W0.heap.size (nodesX ⟨w.heap.size, 0, none⟩ U)) ⟨w.heap.size, 0, none⟩ U :=
    ⟨⟨w.heap.size, 0, rfl, fun h => by rcases h with h | h; omega; have := hlow _ h; omega, by omega, fun r u hu => by
      rw [Nat.zero_add]
      exact cell_at HS3.out.bx (by simpa using hu)⟩, hf3.wf⟩
  have hkat : KAt W0 (SB W0.heap.size (nodesX ⟨w.heap.size, 0, none⟩ U)) ⟨w.heap.size, 0, none⟩ U :=
    KAt.of_xat U _ (FrX.xat U _ _ hf3) hnode (fun y hy hn b off e hb h => by
      obtain ⟨k', e', h1, h2, _⟩ := (hrow y hy).2.2 hn
      rw [e] at e'
      cases e'
      rcases h with h | ⟨z, hz, hzn, ez⟩
      · omega
      · exact (hap z y hz hy hzn b ez).1 hn e)
  have HKN := Lib.hid (KAt.node U _ hkat)
  obtain ⟨M, hM⟩ : ∃ M, nodesX ⟨w.heap.size, 0, none⟩ U = M := ⟨_, rfl⟩
  have hseq := expr_stops (SB W0.heap.size (nodesX ⟨w.heap.size, 0, none⟩ U)) ⟨w.heap.size, 0, none⟩ U W2.heap.size W0 hkat hcb
  rw [hM] at hseq hrow hap hroot htx hsm hfirst hbat hlow HKN
  have HI0 : BdI P w U pa pn pc M W0 ([] : List (Addr × XT)) W0 := ⟨fun y hy => absurd hy (by simp), HS3.out, Only.refl _ _, fun y hy hn => by
    obtain ⟨g, e, h1, h2, hr⟩ := (hrow y hy).2.1 hn
    exact ⟨g, e, fun hm => absurd hm (by simp), fun _ => hr⟩⟩
  have HRW := Lib.hid hrow
  have HAP := Lib.hid hap
  have HTS := Lib.hid (fun y (hy : y ∈ M) i (hi : i < y.2.an) => (show OpX (y.2.arg i) ∧ (y.2.arg i).text.size ≤ 1000000 from ⟨((xtx_iff y.2).1 (htx y hy)).1 i hi, ((xsm_iff y.2).1 (hsm y hy)).1 i hi⟩))
  have HBA := Lib.hid hbat
  have HLW := Lib.hid hlow
  have HFI := Lib.hid hfirst
  have hwz : w.heap.size + 4 < W0.heap.size := by omega
  have hwr : w.heap.size + 4 ≤ W1.heap.size := hz0
  have hwt : w1.heap.size < W0.heap.size := by omega
  clear hM hkat hcb hnode hrow hap htx hsm hbat hlow hfirst hxu q2 hbw hf2 hf3 HS2 HEX hz0 hz2 hlo hzw HTX HSM HFW
  refine wp_rangeH (gf := 39) (w0 := W0) rfl (enters_of Tryz.func39 (by kernel_rfl) rfl) hseq
    (fun h k => onlyK_t h k) (onlyK_b (fun k hk => .inl hk)) (Below.refl _ _) (fun _ => rfl)
    (fun pre W => BdI P w U pa pn pc M W0 (pre.map (nodeOf M (⟨w.heap.size, 0, none⟩, U))) W) (fun pre W => BdX P w pn (nodeOf M (⟨w.heap.size, 0, none⟩, U)) pre W)
    (fun pre X Y h hst => h.stays hst (by omega)) (fun pre X Y h hst => h.stays hst (by omega)) HI0 ?round ?done ?stop
  case round =>
    clear HBA HFI hs
    rintro l x W K ⟨pre, -⟩ hK
    gi_wp2
    refine hK _ _ (KeepsFrom.refl _ _) (Only.refl _ _) (Stays.refl _ _) ?_
    rintro l2 pre2 W5 r0 hl5 hlp hst5 HI hl2
    clear hK
    have hy := nodeOf_in hroot x
    obtain ⟨y, hyx⟩ : ∃ y, nodeOf M (⟨w.heap.size, 0, none⟩, U) x = y := ⟨_, rfl⟩
    rw [hyx] at hy
    have HYX := Lib.hid hyx
    obtain ⟨⟨b, off, hb0, hb1, hb2, hb3⟩, hwf⟩ := (HKN.out y hy).only HI.on
    have hszW := HI.on.size
    rw [hyx]
    clear hseq HI0 hyx
    rw [hb0]
    gi_wp2_with (refine ⟨trivial, ?_⟩; gi_at_call 26; refine (inRnd (HOP.out _ _)).mono ?_; rintro e w4 ⟨rfl, rfl⟩)
    have q6 := alloc_at W5 (.cells #[.pointer (some ⟨b, off, none⟩)] 66)
    have hb6 : Below W5.heap.size W5 (W5.alloc (.cells #[.pointer (some ⟨b, off, none⟩)] 66)) := (Below.refl _ _).alloc (Nat.le_refl _) _
    have hz6 : (W5.alloc (.cells #[.pointer (some ⟨b, off, none⟩)] 66)).heap.size = W5.heap.size + 1 := by simp
    generalize (W5.alloc (.cells #[.pointer (some ⟨b, off, none⟩)] 66)) = W6 at *
    obtain ⟨A0, hA0, hA1⟩ : ∃ A0 : Nat → Opd, (∀ i, i < y.2.an → OpX (A0 i) ∧ bindO P pn (A0 i) = bindO P pn (y.2.arg i)) ∧ ∀ g, 0 < y.2.an → y.2.aa = some ⟨g, 0, none⟩ → RowC W6 g 40 (fun i => opdC (A0 i)) y.2.an := by
      by_cases hm : y ∈ pre2.map (nodeOf M (⟨w.heap.size, 0, none⟩, U))
      · refine ⟨fun i => (bindO P pn (y.2.arg i)).2, fun i hi => ⟨(bindO_small P pn _ (HTS.out y hy i hi).1 (HTS.out y hy i hi).2).1, bindO_again P pn _ (firstE_all18 (HI.z y hm) i hi)⟩, fun g hn e => ?_⟩
        obtain ⟨g', e', h1, _⟩ := HI.ar y hy hn
        rw [e] at e'
        obtain rfl : g = g' := by injection e' with e'; injection e'
        exact (h1 hm).held (hb6.block g (h1 hm).lt)
      · refine ⟨y.2.arg, fun i hi => ⟨(HTS.out y hy i hi).1, rfl⟩, fun g hn e => ?_⟩
        obtain ⟨g', e', _, h1⟩ := HI.ar y hy hn
        rw [e] at e'
        obtain rfl : g = g' := by injection e' with e'; injection e'
        exact (h1 hm).held (hb6.block g (h1 hm).lt)
    have hN6 : NodeC W6 (S3 W6.heap.size y.2) ⟨b, off, none⟩ y.2 :=
      ⟨⟨b, off, rfl, fun h => by rcases h with h | ⟨hn, e⟩; omega; exact hb1 (.inr ⟨y, hy, hn, e⟩), by omega, hb3.held (hb6.block b hb2)⟩, hwf⟩
    have hcb6 : W6.cell? ⟨W5.heap.size, 0, none⟩ = some (.pointer (some ⟨b, off, none⟩)) := cell_at q6 rfl
    have hga : 0 < y.2.an → ∃ g, y.2.aa = some ⟨g, 0, none⟩ ∧ W1.heap.size ≤ g ∧ g < w1.heap.size := fun hn => by
      obtain ⟨g, e, h1, h2, _⟩ := (HRW.out y hy).2.1 hn
      exact ⟨g, e, h1, h2⟩
    have hseq6 := SeqStopsK.lev 0 (opds_stops (S3 W6.heap.size y.2) ⟨b, off, none⟩ y.2 W5.heap.size W6 hN6 (fun hn => by obtain ⟨g, e, _⟩ := hga hn; exact ⟨g, 0, e⟩) (fun h => by
      rcases h with h | ⟨hn, e⟩
      · omega
      · obtain ⟨g, e', _, h2⟩ := hga hn
        rw [e] at e'
        cases e'
        omega) hcb6)
    have HI2 : BdI2 P w U pa pn pc y.2 W6 A0 ([] : List Nat) W6 := ⟨fun i hi => absurd hi (by simp), HI.st.next hb6, Only.refl _ _, fun g hn e => (hA1 g hn e).congr (fun i _ => by rw [if_neg (by simp)])⟩
    have hlp6 : W6.heap[l2]? = some (.loop r0) := (hb6.block l2 (loop_lt hlp)).trans hlp
    have HA0 := Lib.hid hA0
    have HGA := Lib.hid hga
    have HII := Lib.hid HI
    have HB6 := Lib.hid hb6
    have hw6 : W0.heap.size < W6.heap.size := by omega
    clear hN6 hcb6 hA0 hA1 hga HI hb6 q6 hlp hst5 hwf hb1 hb2 hb3 hl5 HOP
    refine wp_rangeN (gf := 49) (w0 := W6) hlp6 rfl (enters_of Tryz.func49 (by kernel_rfl) rfl) hseq6
      (fun h k => onlyK_t h k) (onlyK_b (fun k hk => .inl hk)) (Below.refl _ _) (fun _ => rfl)
      (fun pre W => BdI2 P w U pa pn pc y.2 W6 A0 (pre.map (opIx y.2.an)) W) (fun pre W => BdX2 P w pn y.2 W6 pre W)
      (fun pre X Y h hst => h.stays hst (by omega)) (fun pre X Y h hst => h.stays hst (by omega)) HI2 ?round2 ?done2 ?stop2
    case round2 =>
      rintro l6 x2 W7 K ⟨pre3, -⟩ hK
      gi_wp2
      refine hK _ _ (KeepsFrom.refl _ _) (Only.refl _ _) (Stays.refl _ _) ?_
      rintro l7 pre4 W8 hst8 HI8 hl8
      clear hK
      have hn0 : 0 < y.2.an := by omega
      have hi := opIx_lt hn0 x2
      obtain ⟨i, hix⟩ : ∃ i, opIx y.2.an x2 = i := ⟨_, rfl⟩
      rw [hix] at hi ⊢
      obtain ⟨g, haa, hg1, hg2⟩ := HGA.out hn0
      rw [kidP_at haa, Nat.zero_add]
      have hr := HI8.row g hn0 haa
      obtain ⟨⟨ok, ox, og, on⟩, hop⟩ : ∃ o, (if i ∈ pre4.map (opIx y.2.an) then (bindO P pn (y.2.arg i)).2 else A0 i) = o := ⟨_, rfl⟩
      have hox : OpX ⟨ok, ox, og, on⟩ ∧ bindO P pn ⟨ok, ox, og, on⟩ = bindO P pn (y.2.arg i) := by
        rw [← hop]
        split
        · rename_i hm
          exact ⟨(bindO_small P pn _ (HTS.out y hy i hi).1 (HTS.out y hy i hi).2).1, bindO_again P pn _ (HI8.z i hm)⟩
        · exact HA0.out i hi
      have HBX := Lib.hid (fun wx (hx : Below w.heap.size w wx) => HBO.out ⟨ok, ox, og, on⟩ hox.1 wx hx)
      rw [hox.2] at HBX
      obtain ⟨⟨E, rk, rx, rg, rn⟩, hE⟩ : ∃ q, bindO P pn (y.2.arg i) = q := ⟨_, rfl⟩
      rw [hE] at HBX
      simp only at HBX
      have HX0 := Lib.hid (show W8.cell? ⟨g, i * 4, none⟩ = some (.int .i64 ok) from hr.cell (r := 0) hi (by show (opdC _)[0]? = _; rw [hop]; rfl))
      have HX1 := Lib.hid (show W8.cell? ⟨g, i * 4 + 1, none⟩ = some (.string ox) from hr.cell (r := 1) hi (by show (opdC _)[1]? = _; rw [hop]; rfl))
      have HX2 := Lib.hid (show W8.cell? ⟨g, i * 4 + 2, none⟩ = some (.bool og) from hr.cell (r := 2) hi (by show (opdC _)[2]? = _; rw [hop]; rfl))
      have HX3 := Lib.hid (show W8.cell? ⟨g, i * 4 + 3, none⟩ = some (.int .u64 on) from hr.cell (r := 3) hi (by show (opdC _)[3]? = _; rw [hop]; rfl))
      have HST := Lib.hid HI8.st
      have HRR := Lib.hid hr
      have HI9 := Lib.hid HI8
      have HEE := Lib.hid hE
      have HIX := Lib.hid hix
      have HG := Lib.hid (show y.2.aa = some ⟨g, 0, none⟩ ∧ W1.heap.size ≤ g ∧ g < w1.heap.size ∧ 0 < y.2.an ∧ i < y.2.an from ⟨haa, hg1, hg2, hn0, hi⟩)
      have HRL := Lib.hid hr.lt
      obtain ⟨gi, hgi⟩ : ∃ gi, i * 4 = gi := ⟨_, rfl⟩
      have HGI := Lib.hid hgi
      rw [hgi] at HX0 HX1 HX2 HX3 ⊢
      clear hgi hr hE hix hox hop HI8 hi haa hg1 hg2 hn0 hst8 hl8 hseq6 HI2
      gi_wp2
      refine wpIn_region_inv hmix (by kernel_rfl) (fun ⟨_, _, h⟩ => h) (fun v => ((.agg #[.int .i64 T.op, .int .i64 T.rel, .slice T.aa T.an T.ac, .slice T.ka T.kn T.kc] : Value) :: (.slice pa pn pc : Value) :: (.pointer (some ⟨w.heap.size, 0, none⟩) : Value) :: (.pointer (some ⟨w.heap.size + 1, 0, none⟩) : Value) :: (.pointer (some ⟨w.heap.size + 1 + 1, 0, none⟩) : Value) :: (.pointer (some ⟨w.heap.size + 1 + 1 + 1, 0, none⟩) : Value) :: (.pointer (some ⟨b, off, none⟩) : Value) :: (.pointer (some ⟨g, gi, none⟩) : Value) :: v 8 :: v 10 :: (.agg #[.int .i64 T.op, .int .i64 T.rel, .slice T.aa T.an T.ac, .slice T.ka T.kn T.kc] : Value) :: (.agg #[.int .i64 U.op, .int .i64 U.rel, .slice U.aa U.an U.ac, .slice U.ka U.kn U.kc] : Value) :: (.func (.func 39) #[] #[.pointer (some ⟨W2.heap.size, 0, none⟩)] : Value) :: (.pointer (some ⟨b, off, none⟩) : Value) :: (.pointer (some ⟨b, off, none⟩) : Value) :: (.func (.func 49) #[] #[.pointer (some ⟨W5.heap.size, 0, none⟩)] : Value) :: (.pointer (some ⟨g, gi, none⟩) : Value) :: v 5 :: v 0 :: v 1 :: v 2 :: v 3 :: v 4 :: v 6 :: v 7 :: (undef : Value) :: (undef : Value) :: (undef : Value) :: (undef : Value) :: (undef : Value) :: (undef : Value) :: (undef : Value) :: (undef : Value) :: []).toArray) (fun _ => undef) (RcInv W8 (fun j => ([.pointer (some ⟨g, gi, none⟩), .pointer (some ⟨g, gi, none⟩), .agg #[.int .i64 ok, .string ox, .bool og, .int .u64 on], .slice pa pn pc, .tuple #[.agg #[.int .i64 rk, .string rx, .bool rg, .int .u64 rn], .int .i64 E], .tuple #[.agg #[.int .i64 rk, .string rx, .bool rg, .int .u64 rn], .int .i64 E], .agg #[.int .i64 rk, .string rx, .bool rg, .int .u64 rn], .int .i64 E, undef, undef, .int .i64 E] : List Value).getD j undef) 40 #[.int .i64 0, .string ⟨#[]⟩, .bool false, .int .u64 0] #[.int .i64 rk, .string rx, .bool rg, .int .u64 rn]) (by kernel_rfl) (by kernel_rfl) (RcInv.start (Below.refl _ _).drew) (fun j hj dn v w1 hI hdn hcl hd => ?_) (fun v w1 hI => ?_) (fun dn v w1 ha h => h.all (Nat.le_refl _) ha)
      · have y0 := Pa.keep6 hI.below HX0.out
        have y1 := Pa.keep6 hI.below HX1.out
        have y2 := Pa.keep6 hI.below HX2.out
        have y3 := Pa.keep6 hI.below HX3.out
        have z0 := cell_at (j := 0) (rowKeep hI.below HST.out.ps) rfl
        have hj11 : j = 0 ∨ j = 1 ∨ j = 2 ∨ j = 3 ∨ j = 4 ∨ j = 5 ∨ j = 6 ∨ j = 7 ∨ j = 8 ∨ j = 9 ∨ j = 10 := by have : j < 11 := hj; omega
        rcases hj11 with rfl | rfl | rfl | rfl | rfl | rfl | rfl | rfl | rfl | rfl | rfl
        · refine wpOp_step (o := _) rfl (fun K' hK => ?_)
          go_simp
          exact hK _ _ ⟨.pointer (some ⟨g, gi, none⟩), rfl, hI.step (by decide) (by decide) rfl (Below.refl _ _)⟩
        · have e0 : v 0 = .pointer (some ⟨g, gi, none⟩) := hI.told 0 (by decide) (hd 0 (List.contains_iff_mem.1 (by kernel_rfl))) (by decide) (by decide)
          refine wpOp_step (o := _) rfl (fun K' hK => ?_)
          go_simp
          exact hK _ _ ⟨.pointer (some ⟨g, gi, none⟩), fr_eqB (by simp [upd, e0]), hI.step (by decide) (by decide) rfl (Below.refl _ _)⟩
        · have e1 : v 1 = .pointer (some ⟨g, gi, none⟩) := hI.told 1 (by decide) (hd 1 (List.contains_iff_mem.1 (by kernel_rfl))) (by decide) (by decide)
          refine wpOp_step (o := _) rfl (fun K' hK => ?_)
          go_simp
          exact hK _ _ ⟨.agg #[.int .i64 ok, .string ox, .bool og, .int .u64 on], fr_eqB (by simp [upd, e1]), hI.step (by decide) (by decide) rfl (Below.refl _ _)⟩
        · refine wpOp_step (o := _) rfl (fun K' hK => ?_)
          go_simp
          exact hK _ _ ⟨.slice pa pn pc, rfl, hI.step (by decide) (by decide) rfl (Below.refl _ _)⟩
        · have e2 : v 2 = .agg #[.int .i64 ok, .string ox, .bool og, .int .u64 on] := hI.told 2 (by decide) (hd 2 (List.contains_iff_mem.1 (by kernel_rfl))) (by decide) (by decide)
          have e3 : v 3 = .slice pa pn pc := hI.told 3 (by decide) (hd 3 (List.contains_iff_mem.1 (by kernel_rfl))) (by decide) (by decide)
          refine wpOp_step (o := _) rfl (fun K' hK => ?_)
          go_simp
          refine (HBX.out w1 (HST.out.bel.trans (hI.below.mono HST.out.bel.size))).mono ?_
          rintro e w3 ⟨rfl, hb3⟩
          exact hK _ _ ⟨_, fr_eqB (by simp [upd, e2, e3]), hI.step (by decide) (by decide) rfl hb3⟩
        · have e4 : v 4 = .tuple #[.agg #[.int .i64 rk, .string rx, .bool rg, .int .u64 rn], .int .i64 E] := hI.told 4 (by decide) (hd 4 (List.contains_iff_mem.1 (by kernel_rfl))) (by decide) (by decide)
          refine wpOp_step (o := _) rfl (fun K' hK => ?_)
          go_simp
          exact hK _ _ ⟨.tuple #[.agg #[.int .i64 rk, .string rx, .bool rg, .int .u64 rn], .int .i64 E], fr_eqB (by simp [upd, e4]), hI.step (by decide) (by decide) rfl (Below.refl _ _)⟩
        · have e5 : v 5 = .tuple #[.agg #[.int .i64 rk, .string rx, .bool rg, .int .u64 rn], .int .i64 E] := hI.told 5 (by decide) (hd 5 (List.contains_iff_mem.1 (by kernel_rfl))) (by decide) (by decide)
          refine wpOp_step (o := _) rfl (fun K' hK => ?_)
          go_simp
          exact hK _ _ ⟨.agg #[.int .i64 rk, .string rx, .bool rg, .int .u64 rn], fr_eqB (by simp [upd, e5]), hI.step (by decide) (by decide) rfl (Below.refl _ _)⟩
        · have e5 : v 5 = .tuple #[.agg #[.int .i64 rk, .string rx, .bool rg, .int .u64 rn], .int .i64 E] := hI.told 5 (by decide) (hd 5 (List.contains_iff_mem.1 (by kernel_rfl))) (by decide) (by decide)
          refine wpOp_step (o := _) rfl (fun K' hK => ?_)
          go_simp
          exact hK _ _ ⟨.int .i64 E, fr_eqB (by simp [upd, e5]), hI.step (by decide) (by decide) rfl (Below.refl _ _)⟩
        · have h9 : dn 9 = false := by cases h : dn 9 with | false => rfl | true => (have := hcl 9 (by decide) h 8 (List.contains_iff_mem.1 (by kernel_rfl)); rw [hdn] at this; cases this)
          refine wpOp_step (o := _) rfl (fun K' hK => ?_)
          go_simp
          exact hK _ _ ⟨.pointer (some ⟨w1.heap.size, 0, none⟩), rfl, hI.make h9⟩
        · have e6 : v 6 = .agg #[.int .i64 rk, .string rx, .bool rg, .int .u64 rn] := hI.told 6 (by decide) (hd 6 (List.contains_iff_mem.1 (by kernel_rfl))) (by decide) (by decide)
          obtain ⟨p, e8, hp, hbox⟩ := hI.box (hd 8 (List.contains_iff_mem.1 (by kernel_rfl)))
          rw [hdn, if_neg (by decide)] at hbox
          have d0 := cell_at (j := 0) hbox rfl
          have f0 := free_at (j := 0) hbox
          have d1 := cell_at (j := 1) hbox rfl
          have f1 := free_at (j := 1) hbox
          have d2 := cell_at (j := 2) hbox rfl
          have f2 := free_at (j := 2) hbox
          have d3 := cell_at (j := 3) hbox rfl
          have f3 := free_at (j := 3) hbox
          refine wpOp_step (o := _) rfl (fun K' hK => ?_)
          go_simp
          exact hK _ _ ⟨undef, fr_eqB (by simp [upd, e8, e6]), hI.fill e8 hp (set_at (j := 3) (u := .int .u64 rn) (set_at (j := 2) (u := .bool rg) (set_at (j := 1) (u := .string rx) (set_at (j := 0) (u := .int .i64 rk) hbox)))) (((((hI.below).setCell (p := ⟨p, 0, none⟩) hp _).setCell (p := ⟨p, 1, none⟩) hp _).setCell (p := ⟨p, 2, none⟩) hp _).setCell (p := ⟨p, 3, none⟩) hp _)⟩
        · have e7 : v 7 = .int .i64 E := hI.told 7 (by decide) (hd 7 (List.contains_iff_mem.1 (by kernel_rfl))) (by decide) (by decide)
          refine wpOp_step (o := _) rfl (fun K' hK => ?_)
          go_simp
          exact hK _ _ ⟨.int .i64 E, fr_eqB (by simp [upd, e7]), hI.step (by decide) (by decide) rfl (Below.refl _ _)⟩
      · obtain ⟨p, e8, hp, hbox⟩ := hI.box rfl
        rw [if_pos rfl] at hbox
        have e0 : v 0 = .pointer (some ⟨g, gi, none⟩) := hI.told 0 (by decide) rfl (by decide) (by decide)
        have e1 : v 1 = .pointer (some ⟨g, gi, none⟩) := hI.told 1 (by decide) rfl (by decide) (by decide)
        have e2 : v 2 = .agg #[.int .i64 ok, .string ox, .bool og, .int .u64 on] := hI.told 2 (by decide) rfl (by decide) (by decide)
        have e3 : v 3 = .slice pa pn pc := hI.told 3 (by decide) rfl (by decide) (by decide)
        have e4 : v 4 = .tuple #[.agg #[.int .i64 rk, .string rx, .bool rg, .int .u64 rn], .int .i64 E] := hI.told 4 (by decide) rfl (by decide) (by decide)
        have e5 : v 5 = .tuple #[.agg #[.int .i64 rk, .string rx, .bool rg, .int .u64 rn], .int .i64 E] := hI.told 5 (by decide) rfl (by decide) (by decide)
        have e6 : v 6 = .agg #[.int .i64 rk, .string rx, .bool rg, .int .u64 rn] := hI.told 6 (by decide) rfl (by decide) (by decide)
        have e7 : v 7 = .int .i64 E := hI.told 7 (by decide) rfl (by decide) (by decide)
        have e10 : v 10 = .int .i64 E := hI.told 10 (by decide) rfl (by decide) (by decide)
        have HI1 := Lib.hid hI.below
        have HBX := Lib.hid hbox
        have HPP := Lib.hid hp
        simp only [e0, e1, e2, e3, e4, e5, e6, e7, e8, e10]
        clear e0 e1 e2 e3 e4 e5 e6 e7 e8 e10 hI hbox hp
        have hrx := HRR.out.held (HI1.out.block g HRL.out)
        have hst1 := HST.out.next HI1.out
        by_cases hE0 : E = 0
        · have k9 : (E != 0) = false := by rw [hE0]; rfl
          have HZ0 := Lib.hid hE0
          have HRX := Lib.hid hrx
          have HS1 := Lib.hid hst1
          have b0 := cell_at (j := 0) HBX.out rfl
          have b1 := cell_at (j := 1) HBX.out rfl
          have b2 := cell_at (j := 2) HBX.out rfl
          have b3 := cell_at (j := 3) HBX.out rfl
          have s0 := Pa.keep6 HI1.out HX0.out
          have s1 := Pa.keep6 HI1.out HX1.out
          have s2 := Pa.keep6 HI1.out HX2.out
          have s3 := Pa.keep6 HI1.out HX3.out
          have f0 : w1.frozen? ⟨g, gi, none⟩ = false := hrx.free _
          have f1 : w1.frozen? ⟨g, gi + 1, none⟩ = false := hrx.free _
          have f2 : w1.frozen? ⟨g, gi + 2, none⟩ = false := hrx.free _
          have f3 : w1.frozen? ⟨g, gi + 3, none⟩ = false := hrx.free _
          clear hE0 hrx hst1
          gi_wp2
          obtain ⟨haa, hg1, hg2, hn0, hi⟩ := HG.out
          have ho : Only (fun k => k = g) w1 (put4c w1 g gi (.int .i64 rk) (.string rx) (.bool rg) (.int .u64 rn)) := put4c_only w1 g gi (.int .i64 rk) (.string rx) (.bool rg) (.int .u64 rn)
          have hon : Only (fun k => k = g) W8 (put4c w1 g gi (.int .i64 rk) (.string rx) (.bool rg) (.int .u64 rn)) := (Only.of_below (S := fun k => k = g) HI1.out).trans ho (fun _ _ e => e)
          have hon3 : Only (S3 W6.heap.size y.2) W8 (put4c w1 g gi (.int .i64 rk) (.string rx) (.bool rg) (.int .u64 rn)) := hon.mono (fun k _ hk => by subst hk; exact .inr ⟨hn0, haa⟩)
          refine ⟨keeps_only hon (fun k o hk hko => by
            subst hk
            obtain ⟨cur, hc, _⟩ := HRR.out
            rw [hc] at hko
            cases hko
            rfl), hon3, ⟨fun j hj => ?_, HS1.out.only ho (fun k hk => by subst hk; omega), onlyK_t HI9.out.on hon3, fun g' hn e => ?_⟩⟩
          · rw [List.map_append, List.mem_append] at hj
            rcases hj with hj | hj
            · exact HI9.out.z j hj
            · simp only [List.map_cons, List.map_nil, List.mem_singleton] at hj
              rw [hj, HIX.out, HEE.out]
              exact HZ0.out
          · rw [haa] at e
            obtain rfl : g = g' := by injection e with e; injection e
            have hp := HRX.out.put (fun _ => rfl) hi (.int .i64 rk) (.string rx) (.bool rg) (.int .u64 rn)
            rw [HGI.out] at hp
            refine hp.congr (fun j hj => ?_)
            by_cases e : j = i
            · subst e
              rw [if_pos rfl, if_pos (by rw [List.map_append, List.mem_append]; right; simp [HIX.out]), HEE.out]
            · rw [if_neg e]
              by_cases e2 : j ∈ pre4.map (opIx y.2.an)
              · rw [if_pos e2, if_pos (by rw [List.map_append, List.mem_append]; exact .inl e2)]
              · rw [if_neg e2, if_neg (by
                  rw [List.map_append, List.mem_append]
                  rintro (h | h)
                  · exact e2 h
                  · simp only [List.map_cons, List.map_nil, List.mem_singleton] at h
                    exact e (h.trans HIX.out))]
        · have k9 : (E != 0) = true := by simpa using hE0
          have HS1 := Lib.hid hst1
          obtain ⟨r0, r1, r2, r3⟩ := expr_box hst1.r0
          have f0 := free_at (j := 0) hst1.r0
          have f1 := free_at (j := 1) hst1.r0
          have f2 := free_at (j := 2) hst1.r0
          have f3 := free_at (j := 3) hst1.r0
          have e0 := cell_at (j := 0) hst1.r1 rfl
          have fe := free_at (j := 0) hst1.r1
          clear hrx hst1
          gi_wp2
          have ho : Only (fun k => k = w.heap.size + 1 + 1) w1 (put4c w1 (w.heap.size + 1 + 1) 0 (.int .i64 0) (.int .i64 0) (.slice none 0 0) (.slice none 0 0)) := put4c_only w1 (w.heap.size + 1 + 1) 0 (.int .i64 0) (.int .i64 0) (.slice none 0 0) (.slice none 0 0)
          have hr0 := set_at (j := 3) (u := .slice none 0 0) (set_at (j := 2) (u := .slice none 0 0) (set_at (j := 1) (u := .int .i64 0) (set_at (j := 0) (u := .int .i64 0) HS1.out.r0)))
          have hr1 := ho.same HS1.out.r1 (by omega)
          obtain ⟨X, hX⟩ : ∃ X, put4c w1 (w.heap.size + 1 + 1) 0 (.int .i64 0) (.int .i64 0) (.slice none 0 0) (.slice none 0 0) = X := ⟨_, rfl⟩
          have hX2 : (((w1.setCell ⟨w.heap.size + 1 + 1, 0, none⟩ (.int .i64 0)).setCell ⟨w.heap.size + 1 + 1, 1, none⟩ (.int .i64 0)).setCell ⟨w.heap.size + 1 + 1, 2, none⟩ (.slice none 0 0)).setCell ⟨w.heap.size + 1 + 1, 3, none⟩ (.slice none 0 0) = X := hX
          rw [hX] at ho hr1
          rw [hX2] at hr0 ⊢
          have ho2 : Only (fun k => k = w.heap.size + 1 + 1 + 1) X (X.setCell ⟨w.heap.size + 1 + 1 + 1, 0, none⟩ (.int .i64 E)) := Only.setCell (S := fun k => k = w.heap.size + 1 + 1 + 1) (Only.refl _ X) (.inl rfl) _
          have hon : Only (fun k => k = w.heap.size + 1 + 1 ∨ k = w.heap.size + 1 + 1 + 1) W8 (X.setCell ⟨w.heap.size + 1 + 1 + 1, 0, none⟩ (.int .i64 E)) :=
            ((Only.of_below (S := fun k => k = w.heap.size + 1 + 1 ∨ k = w.heap.size + 1 + 1 + 1) HI1.out).trans ho (fun _ _ e => .inl e)).trans ho2 (fun _ _ e => .inr e)
          refine ⟨keeps_only hon (fun k o hk hko => by
            rcases hk with rfl | rfl
            · rw [HST.out.r0] at hko; cases hko; rfl
            · rw [HST.out.r1] at hko; cases hko; rfl), rfl, pre4, x2, rfl, HI9.out.z, ?_, ho2.same hr0 (by omega), ?_, ?_, ?_⟩
          · rw [HIX.out, HEE.out]; exact hE0
          · rw [HIX.out, HEE.out]; exact set_at (j := 0) (u := .int .i64 E) hr1
          · exact HST.out.bel.trans (hon.below (fun k hk => by omega) HST.out.bel.size)
          · exact (HI9.out.on.mono (fun k _ s => .inl s)).trans hon (fun k _ s => .inr s)
    case done2 =>
      rintro xs W9 rfl HI9
      have hmap : (List.range y.2.an).map (opIx y.2.an) = List.range y.2.an := opIx_map _ (fun i hi => List.mem_range.1 hi)
      rw [hmap] at HI9
      have hA : bArgE P pn y.2 = 0 := Pa.firstE_none (fun i hi => by rw [bne_eq_false_iff_eq]; exact HI9.z i (List.mem_range.2 hi))
      have hon : Only (fun k => 0 < y.2.an ∧ y.2.aa = some ⟨k, 0, none⟩) W5 W9 := (Only.of_below (S := fun k => 0 < y.2.an ∧ y.2.aa = some ⟨k, 0, none⟩) HB6.out).trans HI9.on (fun k hk s => by
        rcases s with s | s
        · omega
        · exact s)
      have hcl : ∀ k o, 0 < y.2.an ∧ y.2.aa = some ⟨k, 0, none⟩ → W5.heap[k]? = some o → o.isCells = true := fun k o hk hko => by
        obtain ⟨g, e, h1, h2⟩ := HII.out.ar y hy hk.1
        rw [hk.2] at e
        obtain rfl : k = g := by injection e with e; injection e
        rcases Classical.em (y ∈ pre2.map (nodeOf M (⟨w.heap.size, 0, none⟩, U))) with hm | hm
        · obtain ⟨cur, hc, _⟩ := h1 hm
          rw [hc] at hko; cases hko; rfl
        · obtain ⟨cur, hc, _⟩ := h2 hm
          rw [hc] at hko; cases hko; rfl
      have honS : Only (SB W0.heap.size M) W5 W9 := hon.mono (fun k _ s => .inr ⟨y, hy, s.1, s.2⟩)
      have HON := Lib.hid hon
      have HNS := Lib.hid honS
      have HA9 := Lib.hid hA
      have HI10 := Lib.hid HI9
      have HCL := Lib.hid hcl
      clear hseq6 HI2 hon honS hA HI9 hmap hcl
      gi_wp2
      refine ⟨keeps_only HON.out HCL.out, HNS.out, ⟨fun z hz => ?_, HI10.out.st, onlyK_t HII.out.on HNS.out, fun z hz hn => ?_⟩⟩
      · rw [List.map_append, List.mem_append] at hz
        rcases hz with hz | hz
        · exact HII.out.z z hz
        · simp only [List.map_cons, List.map_nil, List.mem_singleton] at hz
          rw [hz, HYX.out]
          exact HA9.out
      · by_cases e : z = y
        · rw [e] at hn ⊢
          obtain ⟨g, haa, _⟩ := HGA.out hn
          refine ⟨g, haa, fun _ => (HI10.out.row g hn haa).congr (fun i hi => by rw [if_pos (List.mem_range.2 hi)]), fun hm => absurd ?_ hm⟩
          rw [List.map_append, List.mem_append]
          right
          simp [HYX.out]
        · obtain ⟨g, haa, h1, h2⟩ := HII.out.ar z hz hn
          have hlt : g < W5.heap.size := by
            rcases Classical.em (z ∈ pre2.map (nodeOf M (⟨w.heap.size, 0, none⟩, U))) with hm | hm
            · exact (h1 hm).lt
            · exact (h2 hm).lt
          have hh : W9.heap[g]? = W5.heap[g]? := HON.out.block g hlt (fun s => (HAP.out z y hz hy hn g haa).2 e s.1 s.2)
          refine ⟨g, haa, fun hm => (h1 ?_).held hh, fun hm => (h2 (fun hm2 => hm ?_)).held hh⟩
          · rw [List.map_append, List.mem_append] at hm
            rcases hm with hm | hm
            · exact hm
            · simp only [List.map_cons, List.map_nil, List.mem_singleton] at hm
              exact absurd (hm.trans HYX.out) e
          · rw [List.map_append, List.mem_append]
            exact .inl hm2
    case stop2 =>
      rintro pre W9 ⟨k, hk, hpre⟩ ⟨pre0, x2, hp0, hz, hE, hr0, hr1, hbel, hon⟩
      have hpp : pre0 ++ [x2] = List.range k ++ [k] := by rw [← hp0, hpre, List.range_succ]
      obtain ⟨h1, h2⟩ := List.append_inj' hpp rfl
      obtain rfl : x2 = k := by injection h2
      subst h1
      rw [opIx_eq hk] at hE hr1
      have hA : bArgE P pn y.2 = (bindO P pn (y.2.arg x2)).1 := Pa.firstE_at (e := fun i => (bindO P pn (y.2.arg i)).1) (fun i hi => by rw [bne_eq_false_iff_eq]; exact hz i (List.mem_map.2 ⟨i, List.mem_range.2 hi, opIx_eq (by omega)⟩)) hk (by rw [bne_iff_ne]; exact hE)
      have hon5 : Only (fun k => (0 < y.2.an ∧ y.2.aa = some ⟨k, 0, none⟩) ∨ k = w.heap.size + 1 + 1 ∨ k = w.heap.size + 1 + 1 + 1) W5 W9 := (Only.of_below (S := fun k => (0 < y.2.an ∧ y.2.aa = some ⟨k, 0, none⟩) ∨ k = w.heap.size + 1 + 1 ∨ k = w.heap.size + 1 + 1 + 1) HB6.out).trans hon (fun k hk s => by
        rcases s with (s | s) | s
        · omega
        · exact .inl s
        · exact .inr s)
      have hcl : ∀ k o, ((0 < y.2.an ∧ y.2.aa = some ⟨k, 0, none⟩) ∨ k = w.heap.size + 1 + 1 ∨ k = w.heap.size + 1 + 1 + 1) → W5.heap[k]? = some o → o.isCells = true := fun k o hk hko => by
        rcases hk with hk | rfl | rfl
        · obtain ⟨g, e, h1, h2⟩ := HII.out.ar y hy hk.1
          rw [hk.2] at e
          obtain rfl : k = g := by injection e with e; injection e
          rcases Classical.em (y ∈ pre2.map (nodeOf M (⟨w.heap.size, 0, none⟩, U))) with hm | hm
          · obtain ⟨cur, hc, _⟩ := h1 hm
            rw [hc] at hko; cases hko; rfl
          · obtain ⟨cur, hc, _⟩ := h2 hm
            rw [hc] at hko; cases hko; rfl
        · rw [HII.out.st.r0] at hko; cases hko; rfl
        · rw [HII.out.st.r1] at hko; cases hko; rfl
      have HK := Lib.hid (keeps_only (B := W0.heap.size) hon5 hcl)
      have HB := Lib.hid (show BdX P w pn (nodeOf M (⟨w.heap.size, 0, none⟩, U)) (pre2 ++ [x]) W9 from ⟨pre2, x, rfl, HII.out.z, by rw [HYX.out, hA]; exact hE, hr0, by rw [HYX.out, hA]; exact hr1, hbel⟩)
      clear hseq6 HI2 hon hon5 hcl hA hr0 hr1 hbel hz hE hpp h2 hp0 hpre
      gi_wp2
      exact ⟨HK.out, rfl, HB.out⟩
  case done =>
    rintro D xs W hD rfl HI hdk
    rw [nodeOf_map _ (fun x hx => hx)] at HI
    have hE0 : bindE P pn T = 0 := by
      rw [bindE_same P pn T U (sameX_symm _ _ hs), ← HFI.out]
      refine firstL_none _ (fun e he => ?_)
      obtain ⟨y, hy, rfl⟩ := List.mem_map.1 he
      exact HI.z y hy
    obtain ⟨x0, x1, x2, x3⟩ := expr_box HI.st.bx
    obtain ⟨r0, r1, r2, r3⟩ := expr_box HI.st.r0
    have f0 := free_at (j := 0) HI.st.r0
    have f1 := free_at (j := 1) HI.st.r0
    have f2 := free_at (j := 2) HI.st.r0
    have f3 := free_at (j := 3) HI.st.r0
    have e0 := cell_at (j := 0) HI.st.r1 rfl
    have fe := free_at (j := 0) HI.st.r1
    have HII := Lib.hid HI
    have HDK := Lib.hid hdk
    have HE0 := Lib.hid hE0
    clear hseq HI hdk hE0 HI0
    go_wp2
    have ho : Only (fun k => k = w.heap.size + 1 + 1) W (put4c W (w.heap.size + 1 + 1) 0 (.int .i64 U.op) (.int .i64 U.rel) (.slice U.aa U.an U.ac) (.slice U.ka U.kn U.kc)) := put4c_only W (w.heap.size + 1 + 1) 0 (.int .i64 U.op) (.int .i64 U.rel) (.slice U.aa U.an U.ac) (.slice U.ka U.kn U.kc)
    have hr0 := set_at (j := 3) (u := .slice U.ka U.kn U.kc) (set_at (j := 2) (u := .slice U.aa U.an U.ac) (set_at (j := 1) (u := .int .i64 U.rel) (set_at (j := 0) (u := .int .i64 U.op) HII.out.st.r0)))
    have hr1 := ho.same HII.out.st.r1 (by omega)
    obtain ⟨X, hX⟩ : ∃ X, put4c W (w.heap.size + 1 + 1) 0 (.int .i64 U.op) (.int .i64 U.rel) (.slice U.aa U.an U.ac) (.slice U.ka U.kn U.kc) = X := ⟨_, rfl⟩
    have hX2 : (((W.setCell ⟨w.heap.size + 1 + 1, 0, none⟩ (.int .i64 U.op)).setCell ⟨w.heap.size + 1 + 1, 1, none⟩ (.int .i64 U.rel)).setCell ⟨w.heap.size + 1 + 1, 2, none⟩ (.slice U.aa U.an U.ac)).setCell ⟨w.heap.size + 1 + 1, 3, none⟩ (.slice U.ka U.kn U.kc) = X := hX
    rw [hX] at ho hr1
    rw [hX2] at hr0 ⊢
    have ho2 : Only (fun k => k = w.heap.size + 1 + 1 + 1) X (X.setCell ⟨w.heap.size + 1 + 1 + 1, 0, none⟩ (.int .i64 0)) := Only.setCell (S := fun k => k = w.heap.size + 1 + 1 + 1) (Only.refl _ X) (.inl rfl) _
    have hon : Only (fun k => k = w.heap.size + 1 + 1 ∨ k = w.heap.size + 1 + 1 + 1) W (X.setCell ⟨w.heap.size + 1 + 1 + 1, 0, none⟩ (.int .i64 0)) :=
      ((ho.mono (fun _ _ e => .inl e)).trans ho2 (fun _ _ e => .inr e))
    have hr0' := ho2.same hr0 (by omega)
    have hr1' := set_at (j := 0) (u := .int .i64 0) hr1
    have hdk := hon.same HDK.out (by omega)
    have hbel := HII.out.st.bel.trans (hon.below (fun k hk => by omega) HII.out.st.bel.size)
    obtain ⟨V, hV⟩ : ∃ V, X.setCell ⟨w.heap.size + 1 + 1 + 1, 0, none⟩ (.int .i64 0) = V := ⟨_, rfl⟩
    rw [hV] at hon hr0' hr1' hdk hbel ⊢
    have hhold : ∀ k, w.heap.size + 4 ≤ k → k < W0.heap.size → (V.putObj D (.deferred none)).heap[k]? = W.heap[k]? := fun k k1 k2 =>
      (World.putObj_heap_other (by omega)).trans (hon.block k (by have := HII.out.on.size; omega) (by omega))
    obtain ⟨a1, a2, a3, a4, a5, _, a7, a8, a9, _⟩ := bndX_parts P pn U
    refine bd_end (n0 := w.heap.size) (D := D) rfl rfl hdk hr0' hr1' ⟨bndX P pn U, by rw [a1, a2, a3, a4, a5, a7, a8, a9, HE0.out], fun _ => bndX_same P pn T U hs, fun h => absurd HE0.out h, HBA.out _ _ (fun y hy => ⟨(HRW.out y hy).1, fun i hi => ?_, fun i hi => ?_⟩), putD_below hdk hbel (by omega)⟩
    · obtain ⟨g, e, h1, _⟩ := HII.out.ar y hy (by omega)
      obtain ⟨g', e', g1, g2, _⟩ := (HRW.out y hy).2.1 (by omega)
      rw [e] at e'
      obtain rfl : g = g' := by injection e' with e'; injection e'
      rw [e]
      exact ((h1 hy).held (hhold g (by omega) (by omega))).lies (by show w.heap.size ≤ g; omega) hi
    · obtain ⟨k, e, k1, k2, hr⟩ := (HRW.out y hy).2.2 (by omega)
      rw [e]
      refine ((hr.held (HII.out.on.block k (by omega) (fun s => ?_))).held (hhold k (by omega) (by omega))).lies (by show w.heap.size ≤ k; omega) hi
      rcases s with s | ⟨z, hz, hzn, ez⟩
      · omega
      · exact (HAP.out z y hz hy hzn k ez).1 (by omega) e
  case stop =>
    rintro D pre W hD ⟨r, hpr⟩ ⟨pre0, x, hp0, hz, hE, hr0, hr1, hbel⟩ hdk
    subst hp0
    have hxM : x ∈ M := by rw [hpr]; simp
    have h0M : ∀ z, z ∈ pre0 → z ∈ M := fun z hz => by rw [hpr]; simp [hz]
    rw [nodeOf_eq hxM] at hE hr1
    rw [nodeOf_map _ h0M] at hz
    have hRE : bindE P pn T = bArgE P pn x.2 := by
      rw [bindE_same P pn T U (sameX_symm _ _ hs), ← HFI.out, hpr]
      have e : (pre0 ++ [x] ++ r).map (fun x => bArgE P pn x.2) = pre0.map (fun x => bArgE P pn x.2) ++ bArgE P pn x.2 :: r.map (fun x => bArgE P pn x.2) := by simp
      rw [e]
      refine firstL_at (fun e he => ?_) hE
      obtain ⟨y, hy, rfl⟩ := List.mem_map.1 he
      exact hz y hy
    have hxn : XAt (W.putObj D (.deferred none)) (fun b => w.heap.size ≤ b) .nil := (xat_iff .nil).2 ⟨xwf_nil, fun i hi => absurd hi (Nat.not_lt_zero i), fun i hi => absurd hi (Nat.not_lt_zero i)⟩
    refine bd_end (n0 := w.heap.size) (D := D) rfl rfl hdk hr0 hr1 ⟨.nil, by rw [hRE]; rfl, fun h => absurd (hRE.symm.trans h) hE, fun _ => rfl, hxn, putD_below hdk hbel (by omega)⟩
/-- what is wanted of the code's Bind -/
theorem cbindC : BindC := ⟨fun S P pa pn pc T w h1 _ _ HP HX HTX HSM HFW _ hV => cbind_any S P pa pn pc T w (by omega) HP HX HTX HSM HFW hV⟩
end Go.Proofs.YtcojomkpogikiaaGreatDoor
