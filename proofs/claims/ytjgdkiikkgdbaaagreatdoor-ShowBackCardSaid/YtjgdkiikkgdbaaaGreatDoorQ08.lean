/- Tokens: the code's, whatever the text. -/
import Derived.Laws.StructEq
import Derived.Test.YtjgdkiikkgdbaaaGreatDoorQ07
namespace Go.Proofs.YtjgdkiikkgdbaaaGreatDoor
open Go.RowKit
set_option linter.unusedVariables false
instance : Inhabited Tk := ⟨⟨0, [], 0, 0⟩⟩
def tkC (x : Tk) : List Value := [.int .i64 (x.k : Nat), .string (bs x.t), .int .u64 (x.n : Nat), .int .i64 (x.a : Nat)]
def tkV (x : Tk) : TkV := ⟨(x.k : Nat), bs x.t, (x.n : Nat), (x.a : Nat)⟩
def atV (out : List Tk) (i : Nat) : TkV := tkV (out.getD i default)
theorem tkC_get : ∀ (out : List Tk) (i m : Nat), i < out.length → m < 4 → (out.flatMap tkC)[i * 4 + m]? = (tkC (out.getD i default))[m]?
  | [], i, m, h, _ => by simp at h
  | x :: r, 0, m, _, hm => by
    rw [List.flatMap_cons, List.getElem?_append_left (by show _ < 4; omega), Nat.zero_mul, Nat.zero_add]; rfl
  | x :: r, i + 1, m, h, hm => by
    rw [List.flatMap_cons, List.getElem?_append_right (by show 4 ≤ _; omega)]
    show (r.flatMap tkC)[(i + 1) * 4 + m - 4]? = _
    rw [show (i + 1) * 4 + m - 4 = i * 4 + m by omega, tkC_get r i m (by simpa using h) hm]
    rfl
theorem infoTok : (Tryz.prog.info? 67).map (fun i => (i.zero, i.size, i.bytes)) = some (some (.agg #[.int .i64 0, .string ⟨#[]⟩, .int .u64 0, .int .i64 0]), 4, 40) := by kernel_rfl
/-- tokens that the call owns -/
structure TSt (w : World) (v : Value) (out : List Tk) (wx : World) : Prop where
  own : wx.ownsRow (w.heap.size + 1) 67 4 v out.length (out.flatMap tkC)
  fl : wx.heap[w.heap.size]? = some (fltO 0 0)
  be : Below w.heap.size w wx
theorem TSt.step {w wx wy : World} {v : Value} {out : List Tk} (h : TSt w v out wx) (hb : Below wx.heap.size wx wy) : TSt w v out wy :=
  ⟨(Only.of_below (S := fun _ => False) hb).row h.own (fun _ _ f => f), rowKeep hb h.fl, onBelow h.be (Nat.le_refl _) hb⟩
theorem TSt.start (w : World) : TSt w (.slice none 0 0) [] (w.alloc (fltO 0 0)) :=
  ⟨⟨rfl, .inl ⟨rfl, rfl⟩⟩, alloc_at w _, (Below.refl w.heap.size w).alloc (Nat.le_refl _) _⟩
theorem TSt.grown {w wx wy : World} {v v' : Value} {out : List Tk} {x : Tk} (h : TSt w v out wx) (hown : wy.ownsRow (w.heap.size + 1) 67 4 v' (out.length + 1) (out.flatMap tkC ++ tkC x)) (hg : wx.grownBy wy v.ownBlock) : TSt w v' (out ++ [x]) wy := by
  refine ⟨?_, ?_, ?_⟩
  · rw [List.length_append, List.flatMap_append]
    simpa using hown
  · have hlt : w.heap.size < wx.heap.size := lt_of_block h.fl
    exact (hg.block w.heap.size hlt (fun e => by have := (h.own.lt _ e.symm).1; omega)).trans h.fl
  · exact h.be.grown hg h.be.size (fun k hk => by have := (h.own.lt k hk).1; omega)
theorem TSt.at {w wx : World} {ao : Option Addr} {n cap : Nat} {out : List Tk} (h : TSt w (.slice ao n cap) out wx) : ∀ i, i < out.length → TkAt wx ao i (atV out i) := by
  intro i hi
  rcases h.own.2 with ⟨hv, h0⟩ | ⟨g, cap', cur, hv, _⟩
  · omega
  · injection hv with e1 e2 e3
    subst e1
    have hc := h.own.cells (g := g) rfl
    have key : ∀ m, m < 4 → ∀ u, (tkC (out.getD i default))[m]? = some u → wx.cell? ⟨g, i * 4 + m, none⟩ = some u := fun m hm u hu => by
      have h2 := hc (i * 4 + m) u (by rw [tkC_get out i m hi hm]; exact hu)
      have hadd : (⟨g, 0, none⟩ : Addr).add (i * 4 + m) = ⟨g, i * 4 + m, none⟩ := by unfold Addr.add; split <;> simp_all
      rwa [hadd] at h2
    refine ⟨g, 0, rfl, ?_, ?_, ?_, ?_⟩
    · rw [Nat.zero_add]; exact key 0 (by omega) _ rfl
    · rw [Nat.zero_add]; exact key 1 (by omega) _ rfl
    · rw [Nat.zero_add]; exact key 2 (by omega) _ rfl
    · rw [Nat.zero_add]; exact key 3 (by omega) _ rfl
theorem TSt.cap {w wx : World} {ao : Option Addr} {n cap : Nat} {out : List Tk} (h : TSt w (.slice ao n cap) out wx) : out.length ≤ cap := by
  rcases h.own.2 with ⟨hv, h0⟩ | ⟨g, cap', cur, hv, hb, hg, hn, _⟩
  · omega
  · injection hv with e1 e2 e3
    omega
/-- what Tokens answers -/
def AnsTo (w : World) (A : Ans) (x : Ending) (w' : World) : Prop := (match A with
  | .bad e a => x = .returned (.tuple #[.slice none 0 0, .agg #[.int .i64 (e : Nat), .int .i64 (a : Nat)]])
  | .good out => ∃ ao cap, x = .returned (.tuple #[.slice ao out.length cap, .agg #[.int .i64 0, .int .i64 0]]) ∧ (∀ i, i < out.length → TkAt w' ao i (atV out i)) ∧ out.length ≤ cap) ∧ Below w.heap.size w w'
theorem first_j (l : List UInt8) : (∃ j, j < 5 ∧ (∀ i, i < j → ld l i = 0) ∧ ld l j ≠ 0) ∨ ∀ i, i < 5 → ld l i = 0 := by
  by_cases h0 : ld l 0 = 0
  · by_cases h1 : ld l 1 = 0
    · by_cases h2 : ld l 2 = 0
      · by_cases h3 : ld l 3 = 0
        · by_cases h4 : ld l 4 = 0
          · right
            intro i hi
            match i, hi with
            | 0, _ => exact h0
            | 1, _ => exact h1
            | 2, _ => exact h2
            | 3, _ => exact h3
            | 4, _ => exact h4
          · exact .inl ⟨4, by omega, fun i hi => by
              match i, hi with
              | 0, _ => exact h0
              | 1, _ => exact h1
              | 2, _ => exact h2
              | 3, _ => exact h3, h4⟩
        · exact .inl ⟨3, by omega, fun i hi => by
            match i, hi with
            | 0, _ => exact h0
            | 1, _ => exact h1
            | 2, _ => exact h2, h3⟩
      · exact .inl ⟨2, by omega, fun i hi => by
          match i, hi with
          | 0, _ => exact h0
          | 1, _ => exact h1, h2⟩
    · exact .inl ⟨1, by omega, fun i hi => by
        match i, hi with
        | 0, _ => exact h0, h1⟩
  · exact .inl ⟨0, by omega, fun i hi => absurd hi (Nat.not_lt_zero _), h0⟩
/-- an answer's bounds -/
theorem fst_bounds (l : List UInt8) (hl : l ≠ []) : match fstG l with
    | .err e a => e ≠ 0 ∧ a < l.length
    | .tok k t n len => 1 ≤ len ∧ len ≤ l.length ∧ 1 ≤ k ∧ k ≤ 5 ∧ t.length ≤ len := by
  rcases first_j l with ⟨j, hj, hz, hn⟩ | h
  · rw [fst_at l j hj hz hn]
    have hok := gt_ok l j hj hn
    have hle := ld_le l j
    cases hg : gt l j with
    | err e a => rw [hg] at hok; exact ⟨hok.1, by have := hok.2; omega⟩
    | tok k t n len =>
      rw [hg] at hok
      obtain ⟨h1, h2, h3⟩ := hok
      exact ⟨by omega, by omega, by omega, by omega, by omega⟩
  · rw [fst_no l h]; exact ⟨by decide, List.length_pos_iff.2 hl⟩
theorem outErr {w w1 : World} (h : w1.heap[w.heap.size]? = some (fltO 0 0)) (hb : Below w.heap.size w w1) (e a : Int) (O1 O2 : Obj) :
    ((((w1.setCell ⟨w.heap.size, 0, none⟩ (.int .i64 e)).setCell ⟨w.heap.size, 1, none⟩ (.int .i64 a)).alloc O1).alloc O2).drew.heap[w.heap.size]? = some (fltO e a) ∧ Below w.heap.size w ((((w1.setCell ⟨w.heap.size, 0, none⟩ (.int .i64 e)).setCell ⟨w.heap.size, 1, none⟩ (.int .i64 a)).alloc O1).alloc O2).drew := by
  have h1 := set_at (j := 1) (u := .int .i64 a) (set_at (j := 0) (u := .int .i64 e) h)
  have hs := hb.size
  exact ⟨alloc_old (alloc_old h1), ((((hb.setCell (Nat.le_refl _) _).setCell (Nat.le_refl _) _).alloc (by simpa using hs) _).alloc (by simp; omega) _).drew⟩
theorem outErr2 {w w1 : World} (h : w1.heap[w.heap.size]? = some (fltO 0 0)) (hb : Below w.heap.size w w1) (e a : Int) (O1 O2 : Obj) :
    ((((w1.setCell ⟨w.heap.size, 0, none⟩ (.int .i64 e)).setCell ⟨w.heap.size, 1, none⟩ (.int .i64 a)).alloc O1).alloc O2).heap[w.heap.size]? = some (fltO e a) ∧ Below w.heap.size w ((((w1.setCell ⟨w.heap.size, 0, none⟩ (.int .i64 e)).setCell ⟨w.heap.size, 1, none⟩ (.int .i64 a)).alloc O1).alloc O2) := by
  have h1 := set_at (j := 1) (u := .int .i64 a) (set_at (j := 0) (u := .int .i64 e) h)
  have hs := hb.size
  exact ⟨alloc_old (alloc_old h1), (((hb.setCell (Nat.le_refl _) _).setCell (Nat.le_refl _) _).alloc (by simpa using hs) _).alloc (by simp; omega) _⟩
theorem newTk (x : Tk) (w1 : World) (O1 O2 : Obj) : ∀ i u, (tkC x)[i]? = some u → (((w1.alloc O1).alloc O2).alloc (.cells #[.int .i64 (x.k : Nat), .string (bs x.t), .int .u64 (x.n : Nat), .int .i64 (x.a : Nat)] 67)).cell? ((⟨w1.heap.size + 1 + 1, 0, none⟩ : Addr).add i) = some u := by
  have h := alloc_at ((w1.alloc O1).alloc O2) (.cells #[.int .i64 (x.k : Nat), .string (bs x.t), .int .u64 (x.n : Nat), .int .i64 (x.a : Nat)] 67)
  have hz : ((w1.alloc O1).alloc O2).heap.size = w1.heap.size + 1 + 1 := by simp
  rw [hz] at h
  intro i u hu
  exact World.news_of_block h i u hu
theorem TSt.fin {w wx : World} {v : Value} {out : List Tk} (h : TSt w v out wx) : TSt w v out ((wx.setCell ⟨w.heap.size, 0, none⟩ (.int .i64 0)).setCell ⟨w.heap.size, 1, none⟩ (.int .i64 0)) := by
  refine ⟨?_, set_at (j := 1) (set_at (j := 0) h.fl), (h.be.setCell (Nat.le_refl _) _).setCell (Nat.le_refl _) _⟩
  have ho : Only (fun k => k = w.heap.size) wx ((wx.setCell ⟨w.heap.size, 0, none⟩ (.int .i64 0)).setCell ⟨w.heap.size, 1, none⟩ (.int .i64 0)) := ((Only.refl (fun k => k = w.heap.size) wx).setCell (p := ⟨w.heap.size, 0, none⟩) (.inl rfl) _).setCell (p := ⟨w.heap.size, 1, none⟩) (.inl rfl) _
  exact ho.row h.own (fun k hk e => by have := (h.own.lt k hk).1; omega)
theorem newTk1 (x : Tk) (w1 : World) : ∀ i u, (tkC x)[i]? = some u → (w1.alloc (.cells #[.int .i64 (x.k : Nat), .string (bs x.t), .int .u64 (x.n : Nat), .int .i64 (x.a : Nat)] 67)).cell? ((⟨w1.heap.size, 0, none⟩ : Addr).add i) = some u := by
  intro i u hu
  exact World.news_of_block (alloc_at w1 (.cells #[.int .i64 (x.k : Nat), .string (bs x.t), .int .u64 (x.n : Nat), .int .i64 (x.a : Nat)] 67)) i u hu
theorem end6 {w V : World} {Q : Ending → World → Prop} {act : Act} (v : Value) (e a : Int) (hd : act.defers = []) (h2 : act.tmps.getD 2 undef = v) (h3 : act.tmps.getD 3 undef = .pointer (some ⟨w.heap.size, 0, none⟩)) (hr : V.heap[w.heap.size]? = some (fltO e a))
    (hQ : Q (.returned (.tuple #[v, .agg #[.int .i64 e, .int .i64 a]])) V) : bodyPost Tryz.prog Tryz.f26 Q Exit.ret act V := by
  refine bodyPost_ret (v := .tuple #[v, .agg #[.int .i64 e, .int .i64 a]]) ?_ hd hQ
  have hl2 := run_loadVar_row (P := Tryz.prog) V w.heap.size _ 38 _ _ _ hr Tryz.underlying38 rfl (by kernel_rfl)
  rw [Array.getD_eq_getD_getElem?] at h2 h3
  simp [results, Tryz.results26, asAddr, hl2, h2, h3]
theorem TA_skip : ∀ (k f : Nat) (l : List UInt8) (a : Nat) (out : List Tk), k ≤ (l.takeWhile blk).length → TA (f + k) l a out = TA f (l.drop k) (a + k) out
  | 0, f, l, a, out, _ => rfl
  | k + 1, f, [], a, out, h => by simp at h
  | k + 1, f, c :: r, a, out, h => by
    by_cases hc : blk c = true
    · rw [List.takeWhile_cons_of_pos hc] at h
      show TA (f + k + 1) (c :: r) a out = _
      rw [TA_step, if_pos hc, TA_skip k f r (a + 1) out (by simpa using h), List.drop_succ_cons]
      congr 1; omega
    · rw [List.takeWhile_cons_of_neg hc] at h; simp at h
theorem drop_nb (l : List UInt8) : ∀ c r, l.drop (l.takeWhile blk).length = c :: r → blk c = false := by
  intro c r h
  have hs := (tw_spec blk l).2.1
  have hlt : (l.takeWhile blk).length < l.length := by
    rcases Nat.lt_or_ge (l.takeWhile blk).length l.length with h1 | h1
    · exact h1
    · rw [List.drop_eq_nil_of_le h1] at h; cases h
  have h2 := hs hlt
  have : l.getD (l.takeWhile blk).length 0 = c := by
    rw [List.getD_eq_getElem?_getD, ← List.head?_drop, h]; rfl
  rwa [this] at h2
set_option maxRecDepth 100000 in
theorem tokens_long (s : ByteArray) (h : 256 < s.size) (hs : s.size ≤ 281474976710656) (w : World) : Calls Tryz.prog 26 #[.string s] w (AnsTo w (.bad 3 0)) := by
  have h1 : (256 : Int) < (s.size : Int) := by omega
  have hml : s.size ≤ maxLen := by show s.size ≤ 9223372036854775807; omega
  go_enter Tryz.func26, Tryz.ntmps26
  go_wp2_with (fail)
  go_returns
  exact ⟨rfl, by go_grown⟩
end Go.Proofs.YtjgdkiikkgdbaaaGreatDoor
/- What Tokens answers, bad or good, in one form. -/
namespace Go.Proofs.YtjgdkiikkgdbaaaGreatDoor
open Go.RowKit
set_option linter.unusedVariables false
def ansN : Ans → Nat | .bad _ _ => 0 | .good out => out.length
theorem TA_len : ∀ (f : Nat) (l : List UInt8) (a : Nat) (out r : List Tk), out.length ≤ 64 → TA f l a out = .good r → r.length ≤ 65
  | 0, l, a, out, r, ho, h => by cases h
  | f + 1, [], a, out, r, ho, h => by
    have : out ++ [⟨6, [], 0, a⟩] = r := by injection h
    rw [← this]; simp; omega
  | f + 1, c :: q, a, out, r, ho, h => by
    rw [TA_step] at h
    by_cases hc : blk c = true
    · rw [if_pos hc] at h; exact TA_len f q (a + 1) out r ho h
    · rw [if_neg hc] at h
      cases hg : fstG (c :: q) with
      | err e b => rw [hg] at h; cases h
      | tok k t n len =>
        rw [hg] at h
        have h : (if out.length = 64 then Ans.bad 3 a else TA f ((c :: q).drop len) (a + len) (out ++ [⟨k, t, n, a⟩])) = .good r := h
        by_cases h64 : out.length = 64
        · rw [if_pos h64] at h; cases h
        · rw [if_neg h64] at h
          exact TA_len f _ _ _ r (by simp; omega) h
theorem tokA_len (l : List UInt8) : ansN (tokA l) ≤ 65 := by
  cases h : tokA l with
  | bad e a => exact Nat.zero_le _
  | good r =>
    unfold tokA at h
    split at h
    · cases h
    · exact TA_len _ l 0 [] r (by simp) h
end Go.Proofs.YtjgdkiikkgdbaaaGreatDoor
/- A text's tokens, as the parser wants them: each is one, the end is the last; and what is wrong is an error. -/
namespace Go.Proofs.YtjgdkiikkgdbaaaGreatDoor
open Go.RowKit
set_option linter.unusedVariables false
def WOk : Got → Prop
  | .err _ _ => True
  | .tok k t _ _ => k = 1 → t ≠ []
theorem fst_word (l : List UInt8) : WOk (fstG l) := by
  unfold fstG
  by_cases h : wl l ≠ 0
  · rw [if_pos h]
    intro _ e
    have h1 := wl_le l
    have := congrArg List.length e
    rw [List.length_take, List.length_nil] at this
    omega
  rw [if_neg h]
  by_cases h : nl l ≠ 0
  · rw [if_pos h]; unfold rdNum
    split
    · trivial
    split
    · intro e; cases e
    · trivial
  rw [if_neg h]
  by_cases h : tl l ≠ 0
  · rw [if_pos h]; unfold rdText
    split
    · trivial
    split
    · trivial
    · intro e; cases e
  rw [if_neg h]
  by_cases h : pl l ≠ 0
  · rw [if_pos h]; intro e; cases e
  rw [if_neg h]
  by_cases h : sl l ≠ 0
  · rw [if_pos h]; intro e; cases e
  rw [if_neg h]; trivial
theorem Vd.snoc {out : List Tk} {t : Tk} (h : ∀ x ∈ out, TkOk x) (ht : t.k = 6) (h0 : t.t = []) : Vd (out ++ [t]) := by
  induction out with
  | nil => exact .one ht h0
  | cons x r ih => exact .cons (h x (by simp)) (ih (fun y hy => h y (by simp [hy])))
theorem TA_ok : ∀ (f : Nat) (l : List UInt8) (a : Nat) (out : List Tk), l.length < f → l.length ≤ 256 → (∀ x ∈ out, TkOk x) → match TA f l a out with
    | .bad e _ => e ≠ 0
    | .good r => Vd r
  | 0, l, a, out, hf, _, _ => by omega
  | f + 1, [], a, out, hf, _, ho => Vd.snoc ho rfl rfl
  | f + 1, c :: q, a, out, hf, h256, ho => by
    rw [TA_step]
    by_cases hc : blk c = true
    · rw [if_pos hc]; exact TA_ok f q (a + 1) out (by simpa using hf) (by simp at h256; omega) ho
    · rw [if_neg hc]
      have hb := fst_bounds (c :: q) (by simp)
      have hw := fst_word (c :: q)
      cases hg : fstG (c :: q) with
      | err e b => rw [hg] at hb; exact hb.1
      | tok k t n len =>
        rw [hg] at hb hw
        obtain ⟨b1, b2, b3, b4, b5⟩ := hb
        show match (if out.length = 64 then Ans.bad 3 a else TA f ((c :: q).drop len) (a + len) (out ++ [⟨k, t, n, a⟩])) with | .bad e _ => e ≠ 0 | .good r => Vd r
        by_cases h64 : out.length = 64
        · rw [if_pos h64]; show (3 : Nat) ≠ 0; decide
        · rw [if_neg h64]
          refine TA_ok f _ _ _ ?_ ?_ ?_
          · rw [List.length_drop]; omega
          · rw [List.length_drop]; omega
          · intro x hx
            rcases List.mem_append.1 hx with hx | hx
            · exact ho x hx
            · simp at hx; subst hx
              exact ⟨by show k < 6; omega, hw, by show t.length ≤ 256; omega⟩
theorem tokA_ok (l : List UInt8) : match tokA l with
    | .bad e _ => e ≠ 0
    | .good r => Vd r := by
  unfold tokA
  by_cases h : 256 < l.length
  · rw [if_pos h]; show (3 : Nat) ≠ 0; decide
  · rw [if_neg h]; exact TA_ok _ l 0 [] (by omega) (by omega) (fun x hx => by simp at hx)
theorem tokA_bad {l : List UInt8} {e a : Nat} (h : tokA l = .bad e a) : e ≠ 0 := by have := tokA_ok l; rw [h] at this; exact this
theorem tokA_good {l : List UInt8} {r : List Tk} (h : tokA l = .good r) : Vd r ∧ r.length ≤ 65 := by
  have h1 := tokA_ok l
  have h2 := tokA_len l
  rw [h] at h1 h2
  exact ⟨h1, h2⟩
/-- the tokens that Tokens answered, as the parser meets them -/
theorem toks_row {w : World} {ao : Option Addr} {L : List Tk} (hn : 0 < L.length) (h : ∀ i, i < L.length → TkAt w ao i (atV L i)) : ∃ tb off, ao = some ⟨tb, off, none⟩ ∧ tb < w.heap.size ∧ TksAt w tb off L := by
  obtain ⟨b, off, rfl, c0, _⟩ := h 0 hn
  refine ⟨b, off, rfl, World.block_lt_of_cell? w _ c0, fun i hi r u hu => ?_⟩
  obtain ⟨b', off', e, d0, d1, d2, d3⟩ := h i hi
  injection e with e
  injection e with e1 e2 _
  subst e1 e2
  have hd : L.getD i tk0 = L.getD i default := by simp [List.getD_eq_getElem?_getD, List.getElem?_eq_getElem hi]
  rw [hd] at hu
  match r, hu with
  | 0, hu => simp at hu; subst hu; exact d0
  | 1, hu => simp at hu; subst hu; exact d1
  | 2, hu => simp at hu; subst hu; exact d2
  | 3, hu => simp at hu; subst hu; exact d3
  | r + 4, hu => simp at hu
end Go.Proofs.YtjgdkiikkgdbaaaGreatDoor
/- Chapter 16 in plain Lean: the pieces of a printed text, each the first token of what begins with it. No run of the program. -/
namespace Go.Proofs.YtjgdkiikkgdbaaaGreatDoor
open Go
set_option linter.unusedVariables false
theorem sh_nval_snoc (l : List UInt8) (x : UInt8) : nval (l ++ [x]) = nval l * 10 + (x.toNat - 48) := by unfold nval; rw [List.foldl_append]; rfl
end Go.Proofs.YtjgdkiikkgdbaaaGreatDoor
/- The small functions of package expr: relation, isName, the classes' makers, at, skip. -/
namespace Go.Proofs.YtjgdkiikkgdbaaaGreatDoor
open Go.RowKit
set_option linter.unusedVariables false
def RelTo (t : Tk) (w : World) : Prop := Calls Tryz.prog 112 #[tkA t] w fun e w' => e = .returned (.int .i64 (relT t : Nat)) ∧ Below w.heap.size w w'
theorem relation_any (t : Tk) (w : World) : RelTo t w := by
  unfold RelTo
  by_cases hk : t.k = 5
  · have hR : relT t = relN t.t := if_pos hk
    rw [hR]
    have e1 := bs_list t.t [61]
    have e2 := bs_list t.t [60, 62]
    have e3 := bs_list t.t [60]
    have e4 := bs_list t.t [60, 61]
    have e5 := bs_list t.t [62]
    have e6 := bs_list t.t [62, 61]
    unfold relN
    obtain ⟨q1, h1⟩ : ∃ q, (t.t == [61]) = q := ⟨_, rfl⟩
    obtain ⟨q2, h2⟩ : ∃ q, (t.t == [60, 62]) = q := ⟨_, rfl⟩
    obtain ⟨q3, h3⟩ : ∃ q, (t.t == [60]) = q := ⟨_, rfl⟩
    obtain ⟨q4, h4⟩ : ∃ q, (t.t == [60, 61]) = q := ⟨_, rfl⟩
    obtain ⟨q5, h5⟩ : ∃ q, (t.t == [62]) = q := ⟨_, rfl⟩
    obtain ⟨q6, h6⟩ : ∃ q, (t.t == [62, 61]) = q := ⟨_, rfl⟩
    rw [h1] at e1 ⊢; rw [h2] at e2 ⊢; rw [h3] at e3 ⊢; rw [h4] at e4 ⊢; rw [h5] at e5 ⊢; rw [h6] at e6 ⊢
    have k5 : (((t.k : Nat) : Int) != 5) = false := by rw [hk]; rfl
    clear h1 h2 h3 h4 h5 h6 hk hR
    cases q1
    · cases q2
      · cases q3
        · cases q4
          · cases q5
            · cases q6
              all_goals
                go_enter Tryz.func112, Tryz.ntmps112
                go_wp2
                go_ret
                exact ⟨rfl, (Below.refl _ _).alloc (Nat.le_refl _) _⟩
            · go_enter Tryz.func112, Tryz.ntmps112
              go_wp2
              go_ret
              exact ⟨rfl, (Below.refl _ _).alloc (Nat.le_refl _) _⟩
          · go_enter Tryz.func112, Tryz.ntmps112
            go_wp2
            go_ret
            exact ⟨rfl, (Below.refl _ _).alloc (Nat.le_refl _) _⟩
        · go_enter Tryz.func112, Tryz.ntmps112
          go_wp2
          go_ret
          exact ⟨rfl, (Below.refl _ _).alloc (Nat.le_refl _) _⟩
      · go_enter Tryz.func112, Tryz.ntmps112
        go_wp2
        go_ret
        exact ⟨rfl, (Below.refl _ _).alloc (Nat.le_refl _) _⟩
    · go_enter Tryz.func112, Tryz.ntmps112
      go_wp2
      go_ret
      exact ⟨rfl, (Below.refl _ _).alloc (Nat.le_refl _) _⟩
  · have hR : relT t = 0 := if_neg hk
    rw [hR]
    have k5 : (((t.k : Nat) : Int) != 5) = true := by simp; omega
    clear hR hk
    go_enter Tryz.func112, Tryz.ntmps112
    go_wp2
    go_ret
    exact ⟨rfl, (Below.refl _ _).alloc (Nat.le_refl _) _⟩
theorem isRel_any (t : Tk) (w : World) : Calls Tryz.prog 113 #[tkA t] w fun e w' => e = .returned (.bool (Cl.rl.test t)) ∧ Below w.heap.size w w' := by
  have HR := Lib.hid (fun wx => relation_any t wx)
  have hT : Cl.rl.test t = !(relT t == 0) := rfl
  rw [hT]
  unfold RelTo at HR
  obtain ⟨r, hr⟩ : ∃ r, relT t = r := ⟨_, rfl⟩
  rw [hr] at HR ⊢
  have he : (((r : Nat) : Int) != 0) = !(r == 0) := by rw [Bool.eq_iff_iff]; simp
  obtain ⟨q, hq⟩ : ∃ q, (!(r == 0)) = q := ⟨_, rfl⟩
  rw [hq] at he ⊢
  clear hq hr hT
  have HB0 := Lib.hid (show Below w.heap.size w (w.alloc (.cells #[.int .i64 (t.k : Nat), .string (bs t.t), .int .u64 (t.n : Nat), .int .i64 (t.a : Nat)] 67)) from (Below.refl _ _).alloc (Nat.le_refl _) _)
  go_enter Tryz.func113, Tryz.ntmps113
  go_wp2_with (go_at_call 112; refine (HR.out _).mono ?_; rintro e w1 ⟨rfl, hb1⟩; have HB1 := Lib.hid hb1; clear hb1)
  go_ret
  exact ⟨ret_b15 (by first | rfl | exact he | simp [*]), HB0.out.trans (HB1.out.mono HB0.out.size)⟩
theorem isName_any (t : Tk) (ht : t.t.length ≤ 1000) (w : World) : Calls Tryz.prog 149 #[tkA t] w fun e w' => e = .returned (.bool (Cl.nm.test t)) ∧ Below w.heap.size w w' := by
  have HW := Lib.hid (fun wx => word_any (bs t.t) (by rw [bs_size]; omega) wx)
  have hwS : wordS (bs t.t) = wordsL.contains t.t := rfl
  rw [hwS] at HW
  have hT : Cl.nm.test t = (t.k == 1 && !wordsL.contains t.t) := rfl
  rw [hT]
  have hk : (((t.k : Nat) : Int) == 1) = (t.k == 1) := by rw [Bool.eq_iff_iff]; simp; omega
  obtain ⟨p, hp⟩ : ∃ p, (t.k == 1) = p := ⟨_, rfl⟩
  obtain ⟨q, hq⟩ : ∃ q, wordsL.contains t.t = q := ⟨_, rfl⟩
  rw [hp] at hk ⊢
  rw [hq] at HW ⊢
  clear hp hq hT hwS ht
  have HB0 := Lib.hid (show Below w.heap.size w (w.alloc (.cells #[.int .i64 (t.k : Nat), .string (bs t.t), .int .u64 (t.n : Nat), .int .i64 (t.a : Nat)] 67)) from (Below.refl _ _).alloc (Nat.le_refl _) _)
  cases p
  · go_enter Tryz.func149, Tryz.ntmps149
    go_wp2
    go_ret
    exact ⟨rfl, HB0.out⟩
  · go_enter Tryz.func149, Tryz.ntmps149
    go_wp2_with (go_at_call 86; refine (HW.out _).mono ?_; rintro e w1 ⟨rfl, hb1⟩; have HB1 := Lib.hid (HB0.out.trans (hb1.mono HB0.out.size)); clear hb1)
    go_ret
    exact ⟨ret_b15 (by cases q <;> rfl), HB1.out⟩
/-- a class's function is entered, and tells -/
theorem eKind : Enters 51 := enters_of Tryz.func51 (by kernel_rfl) rfl
theorem eWord : Enters 107 := enters_of Tryz.func107 (by kernel_rfl) rfl
theorem eSign : Enters 108 := enters_of Tryz.func108 (by kernel_rfl) rfl
theorem eName : Enters 149 := enters_of Tryz.func149 (by kernel_rfl) rfl
theorem eRel : Enters 113 := enters_of Tryz.func113 (by kernel_rfl) rfl
theorem cl_tells {w : World} {c : Cl} {v : Value} (h : ClAt w c v) : ∃ (g : Nat) (lb : Array Value), v = .func (.func g) #[] lb ∧ Enters g ∧ ∀ (t : Tk), t.t.length ≤ 1000 → Calls Tryz.prog g (#[tkA t] ++ lb) w fun e w' => e = .returned (.bool (c.test t)) ∧ Below w.heap.size w w' := by
  cases c with
  | kd n => obtain ⟨b, e, hb⟩ := h; exact ⟨_, _, e, eKind, fun t _ => kind1_any t n b w hb⟩
  | wd s => obtain ⟨b, e, hb⟩ := h; exact ⟨_, _, e, eWord, fun t _ => word1_any t s b w hb⟩
  | sg s => obtain ⟨b, e, hb⟩ := h; exact ⟨_, _, e, eSign, fun t _ => sign1_any t s b w hb⟩
  | nm => exact ⟨_, _, h, eName, fun t ht => isName_any t ht w⟩
  | rl => exact ⟨_, _, h, eRel, fun t _ => isRel_any t w⟩
theorem hmf (fn : Fn) (first cap : Array Value) (w : World) : (Instr.makeFunc fn first cap).run Tryz.prog w = .ok (.func fn first cap) w := rfl
theorem kindF_any (n : Nat) (w : World) : Calls Tryz.prog 29 #[.int .i64 (n : Nat)] w fun e w' => ∃ g lb, e = .returned (.func (.func g) #[] lb) ∧ ClAt w' (.kd n) (.func (.func g) #[] lb) ∧ Below w.heap.size w w' := by
  have hmf' := hmf
  go_enter Tryz.func29, Tryz.ntmps29
  go_wp2
  go_ret
  exact ⟨_, _, rfl, ⟨_, rfl, alloc_at w _⟩, (Below.refl _ _).alloc (Nat.le_refl _) _⟩
theorem wordF_any (s : List UInt8) (X : ByteArray) (hX : X = bs s) (w : World) : Calls Tryz.prog 68 #[.string X] w fun e w' => ∃ g lb, e = .returned (.func (.func g) #[] lb) ∧ ClAt w' (.wd s) (.func (.func g) #[] lb) ∧ Below w.heap.size w w' := by
  subst hX
  have hmf' := hmf
  go_enter Tryz.func68, Tryz.ntmps68
  go_wp2
  go_ret
  exact ⟨_, _, rfl, ⟨_, rfl, alloc_at w _⟩, (Below.refl _ _).alloc (Nat.le_refl _) _⟩
theorem signF_any (s : List UInt8) (X : ByteArray) (hX : X = bs s) (w : World) : Calls Tryz.prog 69 #[.string X] w fun e w' => ∃ g lb, e = .returned (.func (.func g) #[] lb) ∧ ClAt w' (.sg s) (.func (.func g) #[] lb) ∧ Below w.heap.size w w' := by
  subst hX
  have hmf' := hmf
  go_enter Tryz.func69, Tryz.ntmps69
  go_wp2
  go_ret
  exact ⟨_, _, rfl, ⟨_, rfl, alloc_at w _⟩, (Below.refl _ _).alloc (Nat.le_refl _) _⟩
/-- tokens whose texts are short -/
def Short (l : List Tk) : Prop := ∀ t ∈ l, t.t.length ≤ 256
theorem Short.hd {l : List Tk} (h : Short l) : (hd l).t.length ≤ 256 := by
  cases l with
  | nil => show ([] : List UInt8).length ≤ 256; simp
  | cons c r => exact h c (by simp)
theorem Short.tail {l : List Tk} (h : Short l) : Short l.tail := fun t ht => h t (List.mem_of_mem_tail ht)
theorem at_any (bp tb : Nat) (l : List Tk) (c : Cl) (v : Value) (w : World) (hp : PAt w bp tb l) (hc : ClAt w c v) (h0 : 0 < l.length) (h99 : l.length ≤ 99) (hs : (hd l).t.length ≤ 256) :
    Calls Tryz.prog 28 #[.pointer (some ⟨bp, 0, none⟩), v] w fun e w' => e = .returned (.bool (c.test (hd l))) ∧ Below w.heap.size w w' := by
  obtain ⟨g, lb, rfl, eg, hcall⟩ := cl_tells hc
  obtain ⟨_, _, off, cap, hb, hcap, ht⟩ := hp
  have p0 : w.cell? ⟨bp, 0, none⟩ = some (.slice (some ⟨tb, off, none⟩) l.length cap) := cell_at hb rfl
  have hh := ht.head h0
  have t0 : w.cell? ⟨tb, off, none⟩ = some (.int .i64 ((hd l).k : Nat)) := hh 0 _ rfl
  have t1 : w.cell? ⟨tb, off + 1, none⟩ = some (.string (bs (hd l).t)) := hh 1 _ rfl
  have t2 : w.cell? ⟨tb, off + 2, none⟩ = some (.int .u64 ((hd l).n : Nat)) := hh 2 _ rfl
  have t3 : w.cell? ⟨tb, off + 3, none⟩ = some (.int .i64 ((hd l).a : Nat)) := hh 3 _ rfl
  have HC := Lib.hid (hcall (hd l) (by omega))
  obtain ⟨q, hq⟩ : ∃ q, c.test (hd l) = q := ⟨_, rfl⟩
  obtain ⟨n, hn⟩ : ∃ n, l.length = n := ⟨_, rfl⟩
  rw [hq] at HC ⊢
  rw [hn] at p0 h0 h99 hcap
  clear hcall hq hh ht hb hc hn
  unfold Enters at eg
  go_enter Tryz.func28, Tryz.ntmps28
  go_wp2_with (go_at_fn g; refine (HC.out).mono ?_; rintro e w2 ⟨rfl, hb2⟩; have HB2 := Lib.hid hb2; clear hb2)
  go_ret
  exact ⟨rfl, HB2.out⟩
theorem skip_no (bp tb : Nat) (l : List Tk) (c : Cl) (v : Value) (w : World) (hp : PAt w bp tb l) (hc : ClAt w c v) (h0 : 0 < l.length) (h99 : l.length ≤ 99) (hs : (hd l).t.length ≤ 256) (ht : c.test (hd l) = false) :
    Calls Tryz.prog 71 #[.pointer (some ⟨bp, 0, none⟩), v] w fun e w' => e = .returned (.bool false) ∧ Below w.heap.size w w' := by
  have HA := at_any bp tb l c v w hp hc h0 h99 hs
  rw [ht] at HA
  have HA' := Lib.hid HA
  clear HA ht hs hc hp
  go_enter Tryz.func71, Tryz.ntmps71
  go_wp2_with (go_at_call 28; refine (HA'.out).mono ?_; rintro e w2 ⟨rfl, hb2⟩; have HB2 := Lib.hid hb2; clear hb2)
  go_ret
  exact ⟨rfl, HB2.out⟩
theorem skip_yes (bp tb : Nat) (l : List Tk) (c : Cl) (v : Value) (w : World) (hp : PAt w bp tb l) (hc : ClAt w c v) (h0 : 1 < l.length) (h99 : l.length ≤ 99) (hs : (hd l).t.length ≤ 256) (ht : c.test (hd l) = true) :
    Calls Tryz.prog 71 #[.pointer (some ⟨bp, 0, none⟩), v] w fun e w' => e = .returned (.bool true) ∧ PAt w' bp tb l.tail ∧ Only (fun k => k = bp) w w' := by
  have HA := at_any bp tb l c v w hp hc (by omega) h99 hs
  rw [ht] at HA
  have HA' := Lib.hid HA
  clear HA ht hs hc
  have HX := Lib.hid (fun wx (hb : Below w.heap.size w wx) => hp.next hb)
  obtain ⟨hne, hlt, off, cap, hb, hcap, htk⟩ := hp
  have HT := Lib.hid (show ∀ wx, Below w.heap.size w wx → TksAt wx tb (off + 4) l.tail from fun wx hb => (htk.held (hb.block tb hlt)).tail)
  have HBx := Lib.hid (fun wx (hx : Below w.heap.size w wx) => rowKeep hx hb)
  have hn : l.tail.length = l.length - 1 := by simp
  have HN := Lib.hid hn
  have hne1 : ¬ (cap : Int) - 1 = 0 := by omega
  have hne2 : ¬ cap - 1 = 0 := by omega
  have hne3 : ¬ cap = 1 := by omega
  clear hn htk hb
  go_enter Tryz.func71, Tryz.ntmps71
  go_wp2_with (go_at_call 28; refine (HA'.out).mono ?_; rintro e w2 ⟨rfl, hb2⟩; have HB2 := Lib.hid hb2; have hbx := HBx.out w2 hb2; have p0 : w2.cell? ⟨bp, 0, none⟩ = some (.slice (some ⟨tb, off, none⟩) l.length cap) := cell_at hbx rfl; have f0 := free_at (j := 0) hbx; have HX2 := Lib.hid hbx; clear hbx hb2)
  go_ret
  refine ⟨rfl, ⟨hne, by have := HB2.out.size; simp; omega, off + 4, cap - 1, ?_, by rw [HN.out]; omega, ?_⟩, (Only.of_below (S := fun k => k = bp) HB2.out).setCell (p := ⟨bp, 0, none⟩) (.inl rfl) _⟩
  · rw [HN.out]; exact set_at (j := 0) HX2.out
  · exact (HT.out w2 HB2.out).held (set_other hne)
end Go.Proofs.YtjgdkiikkgdbaaaGreatDoor
