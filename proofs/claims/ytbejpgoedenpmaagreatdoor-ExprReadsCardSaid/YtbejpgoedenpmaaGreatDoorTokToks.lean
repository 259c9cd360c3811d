/- Tokens: the code's, whatever the text. -/
import Derived.Test.YtbejpgoedenpmaaGreatDoorTokFirst
import Derived.Test.YtbejpgoedenpmaaGreatDoorTokJoin
import Derived.Deep.AppendLies
import Derived.Laws.OwnMore
namespace Go.Proofs.YtbejpgoedenpmaaGreatDoor
open Go.RowKit
set_option linter.unusedVariables false
instance : Inhabited Tk := ⟨⟨0, [], 0, 0⟩⟩
def tkC (x : Tk) : List Value := [.int .i64 (x.k : Nat), .string (bs x.t), .int .u64 (x.n : Nat), .int .i64 (x.a : Nat)]
def tkV (x : Tk) : TkV := ⟨(x.k : Nat), bs x.t, (x.n : Nat), (x.a : Nat)⟩
def atV (out : List Tk) (i : Nat) : TkV := tkV (out.getD i default)
theorem tkC_len (out : List Tk) : (out.flatMap tkC).length = out.length * 4 := by
  induction out with
  | nil => rfl
  | cons x r ih => rw [List.flatMap_cons, List.length_append, ih, List.length_cons, Nat.succ_mul]; show 4 + _ = _; omega
theorem tkC_get : ∀ (out : List Tk) (i m : Nat), i < out.length → m < 4 → (out.flatMap tkC)[i * 4 + m]? = (tkC (out.getD i default))[m]?
  | [], i, m, h, _ => by simp at h
  | x :: r, 0, m, _, hm => by
    rw [List.flatMap_cons, List.getElem?_append_left (by show _ < 4; omega), Nat.zero_mul, Nat.zero_add]; rfl
  | x :: r, i + 1, m, h, hm => by
    rw [List.flatMap_cons, List.getElem?_append_right (by show 4 ≤ _; omega)]
    show (r.flatMap tkC)[(i + 1) * 4 + m - 4]? = _
    rw [show (i + 1) * 4 + m - 4 = i * 4 + m by omega, tkC_get r i m (by simpa using h) hm]
    rfl
theorem infoTok : (Tryz.prog.info? 51).map (fun i => (i.zero, i.size, i.bytes)) = some (some (.agg #[.int .i64 0, .string ⟨#[]⟩, .int .u64 0, .int .i64 0]), 4, 40) := by kernel_rfl
/-- tokens that the call owns -/
structure TSt (w : World) (v : Value) (out : List Tk) (wx : World) : Prop where
  own : wx.ownsRow (w.heap.size + 1) 51 4 v out.length (out.flatMap tkC)
  fl : wx.heap[w.heap.size]? = some (fltO 0 0)
  be : Below w.heap.size w wx
theorem TSt.step {w wx wy : World} {v : Value} {out : List Tk} (h : TSt w v out wx) (hb : Below wx.heap.size wx wy) : TSt w v out wy :=
  ⟨(Only.of_below (S := fun _ => False) hb).row h.own (fun _ _ f => f), rowKeep hb h.fl, onBelow h.be (Nat.le_refl _) hb⟩
theorem TSt.start (w : World) : TSt w (.slice none 0 0) [] (w.alloc (fltO 0 0)) :=
  ⟨⟨rfl, .inl ⟨rfl, rfl⟩⟩, alloc_at w _, (Below.refl w.heap.size w).alloc (Nat.le_refl _) _⟩
theorem TSt.form {w wx : World} {v : Value} {out : List Tk} (h : TSt w v out wx) : ∃ ao cap, v = .slice ao out.length cap := by
  rcases h.own.2 with ⟨hv, h0⟩ | ⟨g, cap, cur, hv, _⟩
  · exact ⟨none, 0, by rw [hv, h0]⟩
  · exact ⟨_, cap, hv⟩
theorem TSt.grown {w wx wy : World} {v v' : Value} {out : List Tk} {x : Tk} (h : TSt w v out wx) (hown : wy.ownsRow (w.heap.size + 1) 51 4 v' (out.length + 1) (out.flatMap tkC ++ tkC x)) (hg : wx.grownBy wy v.ownBlock) : TSt w v' (out ++ [x]) wy := by
  refine ⟨?_, ?_, ?_⟩
  · rw [List.length_append, List.flatMap_append]
    simpa using hown
  · have hlt : w.heap.size < wx.heap.size := lt_of_block h.fl
    exact (hg.block w.heap.size hlt (fun e => by have := (h.own.lt _ e.symm).1; omega)).trans h.fl
  · exact h.be.grown hg h.be.size (fun k hk => by have := (h.own.lt k hk).1; omega)
theorem TSt.at {w wx : World} {ao : Option Addr} {n cap : Nat} {out : List Tk} (h : TSt w (.slice ao n cap) out wx) : ∀ i, i < out.length → TkAt wx ao i (atV out i) := by
  intro i hi
  rcases h.own.2 with ⟨hv, h0⟩ | ⟨g, cap', cur, hv, _⟩
  · omega
  · injection hv with e1 e2 e3
    subst e1
    have hc := h.own.cells (g := g) rfl
    have key : ∀ m, m < 4 → ∀ u, (tkC (out.getD i default))[m]? = some u → wx.cell? ⟨g, i * 4 + m, none⟩ = some u := fun m hm u hu => by
      have h2 := hc (i * 4 + m) u (by rw [tkC_get out i m hi hm]; exact hu)
      have hadd : (⟨g, 0, none⟩ : Addr).add (i * 4 + m) = ⟨g, i * 4 + m, none⟩ := by unfold Addr.add; split <;> simp_all
      rwa [hadd] at h2
    refine ⟨g, 0, rfl, ?_, ?_, ?_, ?_⟩
    · rw [Nat.zero_add]; exact key 0 (by omega) _ rfl
    · rw [Nat.zero_add]; exact key 1 (by omega) _ rfl
    · rw [Nat.zero_add]; exact key 2 (by omega) _ rfl
    · rw [Nat.zero_add]; exact key 3 (by omega) _ rfl
theorem TSt.cap {w wx : World} {ao : Option Addr} {n cap : Nat} {out : List Tk} (h : TSt w (.slice ao n cap) out wx) : out.length ≤ cap := by
  rcases h.own.2 with ⟨hv, h0⟩ | ⟨g, cap', cur, hv, hb, hg, hn, _⟩
  · omega
  · injection hv with e1 e2 e3
    omega
/-- what Tokens answers -/
def AnsTo (w : World) (A : Ans) (x : Ending) (w' : World) : Prop := (match A with
  | .bad e a => x = .returned (.tuple #[.slice none 0 0, .agg #[.int .i64 (e : Nat), .int .i64 (a : Nat)]])
  | .good out => ∃ ao cap, x = .returned (.tuple #[.slice ao out.length cap, .agg #[.int .i64 0, .int .i64 0]]) ∧ (∀ i, i < out.length → TkAt w' ao i (atV out i)) ∧ out.length ≤ cap) ∧ Below w.heap.size w w'
theorem first_j (l : List UInt8) : (∃ j, j < 5 ∧ (∀ i, i < j → ld l i = 0) ∧ ld l j ≠ 0) ∨ ∀ i, i < 5 → ld l i = 0 := by
  by_cases h0 : ld l 0 = 0
  · by_cases h1 : ld l 1 = 0
    · by_cases h2 : ld l 2 = 0
      · by_cases h3 : ld l 3 = 0
        · by_cases h4 : ld l 4 = 0
          · right
            intro i hi
            match i, hi with
            | 0, _ => exact h0
            | 1, _ => exact h1
            | 2, _ => exact h2
            | 3, _ => exact h3
            | 4, _ => exact h4
          · exact .inl ⟨4, by omega, fun i hi => by
              match i, hi with
              | 0, _ => exact h0
              | 1, _ => exact h1
              | 2, _ => exact h2
              | 3, _ => exact h3, h4⟩
        · exact .inl ⟨3, by omega, fun i hi => by
            match i, hi with
            | 0, _ => exact h0
            | 1, _ => exact h1
            | 2, _ => exact h2, h3⟩
      · exact .inl ⟨2, by omega, fun i hi => by
          match i, hi with
          | 0, _ => exact h0
          | 1, _ => exact h1, h2⟩
    · exact .inl ⟨1, by omega, fun i hi => by
        match i, hi with
        | 0, _ => exact h0, h1⟩
  · exact .inl ⟨0, by omega, fun i hi => absurd hi (Nat.not_lt_zero _), h0⟩
/-- an answer's bounds -/
theorem fst_bounds (l : List UInt8) (hl : l ≠ []) : match fstG l with
    | .err e a => e ≠ 0 ∧ a < l.length
    | .tok k t n len => 1 ≤ len ∧ len ≤ l.length ∧ 1 ≤ k ∧ k ≤ 5 ∧ t.length ≤ len := by
  rcases first_j l with ⟨j, hj, hz, hn⟩ | h
  · rw [fst_at l j hj hz hn]
    have hok := gt_ok l j hj hn
    have hle := ld_le l j
    cases hg : gt l j with
    | err e a => rw [hg] at hok; exact ⟨hok.1, by have := hok.2; omega⟩
    | tok k t n len =>
      rw [hg] at hok
      obtain ⟨h1, h2, h3⟩ := hok
      exact ⟨by omega, by omega, by omega, by omega, by omega⟩
  · rw [fst_no l h]; exact ⟨by decide, List.length_pos_iff.2 hl⟩
theorem outErr {w w1 : World} (h : w1.heap[w.heap.size]? = some (fltO 0 0)) (hb : Below w.heap.size w w1) (e a : Int) (O1 O2 : Obj) :
    ((((w1.setCell ⟨w.heap.size, 0, none⟩ (.int .i64 e)).setCell ⟨w.heap.size, 1, none⟩ (.int .i64 a)).alloc O1).alloc O2).drew.heap[w.heap.size]? = some (fltO e a) ∧ Below w.heap.size w ((((w1.setCell ⟨w.heap.size, 0, none⟩ (.int .i64 e)).setCell ⟨w.heap.size, 1, none⟩ (.int .i64 a)).alloc O1).alloc O2).drew := by
  have h1 := set_at (j := 1) (u := .int .i64 a) (set_at (j := 0) (u := .int .i64 e) h)
  have hs := hb.size
  exact ⟨alloc_old (alloc_old h1), ((((hb.setCell (Nat.le_refl _) _).setCell (Nat.le_refl _) _).alloc (by simpa using hs) _).alloc (by simp; omega) _).drew⟩
theorem outErr2 {w w1 : World} (h : w1.heap[w.heap.size]? = some (fltO 0 0)) (hb : Below w.heap.size w w1) (e a : Int) (O1 O2 : Obj) :
    ((((w1.setCell ⟨w.heap.size, 0, none⟩ (.int .i64 e)).setCell ⟨w.heap.size, 1, none⟩ (.int .i64 a)).alloc O1).alloc O2).heap[w.heap.size]? = some (fltO e a) ∧ Below w.heap.size w ((((w1.setCell ⟨w.heap.size, 0, none⟩ (.int .i64 e)).setCell ⟨w.heap.size, 1, none⟩ (.int .i64 a)).alloc O1).alloc O2) := by
  have h1 := set_at (j := 1) (u := .int .i64 a) (set_at (j := 0) (u := .int .i64 e) h)
  have hs := hb.size
  exact ⟨alloc_old (alloc_old h1), (((hb.setCell (Nat.le_refl _) _).setCell (Nat.le_refl _) _).alloc (by simpa using hs) _).alloc (by simp; omega) _⟩
theorem newTk (x : Tk) (w1 : World) (O1 O2 : Obj) : ∀ i u, (tkC x)[i]? = some u → (((w1.alloc O1).alloc O2).alloc (.cells #[.int .i64 (x.k : Nat), .string (bs x.t), .int .u64 (x.n : Nat), .int .i64 (x.a : Nat)] 51)).cell? ((⟨w1.heap.size + 1 + 1, 0, none⟩ : Addr).add i) = some u := by
  have h := alloc_at ((w1.alloc O1).alloc O2) (.cells #[.int .i64 (x.k : Nat), .string (bs x.t), .int .u64 (x.n : Nat), .int .i64 (x.a : Nat)] 51)
  have hz : ((w1.alloc O1).alloc O2).heap.size = w1.heap.size + 1 + 1 := by simp
  rw [hz] at h
  intro i u hu
  exact World.news_of_block h i u hu
theorem TSt.fin {w wx : World} {v : Value} {out : List Tk} (h : TSt w v out wx) : TSt w v out ((wx.setCell ⟨w.heap.size, 0, none⟩ (.int .i64 0)).setCell ⟨w.heap.size, 1, none⟩ (.int .i64 0)) := by
  refine ⟨?_, set_at (j := 1) (set_at (j := 0) h.fl), (h.be.setCell (Nat.le_refl _) _).setCell (Nat.le_refl _) _⟩
  have ho : Only (fun k => k = w.heap.size) wx ((wx.setCell ⟨w.heap.size, 0, none⟩ (.int .i64 0)).setCell ⟨w.heap.size, 1, none⟩ (.int .i64 0)) := ((Only.refl (fun k => k = w.heap.size) wx).setCell (p := ⟨w.heap.size, 0, none⟩) (.inl rfl) _).setCell (p := ⟨w.heap.size, 1, none⟩) (.inl rfl) _
  exact ho.row h.own (fun k hk e => by have := (h.own.lt k hk).1; omega)
theorem newTk1 (x : Tk) (w1 : World) : ∀ i u, (tkC x)[i]? = some u → (w1.alloc (.cells #[.int .i64 (x.k : Nat), .string (bs x.t), .int .u64 (x.n : Nat), .int .i64 (x.a : Nat)] 51)).cell? ((⟨w1.heap.size, 0, none⟩ : Addr).add i) = some u := by
  intro i u hu
  exact World.news_of_block (alloc_at w1 (.cells #[.int .i64 (x.k : Nat), .string (bs x.t), .int .u64 (x.n : Nat), .int .i64 (x.a : Nat)] 51)) i u hu
theorem end6 {w V : World} {Q : Ending → World → Prop} {act : Act} (v : Value) (e a : Int) (hd : act.defers = []) (h2 : act.tmps.getD 2 undef = v) (h3 : act.tmps.getD 3 undef = .pointer (some ⟨w.heap.size, 0, none⟩)) (hr : V.heap[w.heap.size]? = some (fltO e a))
    (hQ : Q (.returned (.tuple #[v, .agg #[.int .i64 e, .int .i64 a]])) V) : bodyPost Tryz.prog Tryz.f16 Q Exit.ret act V := by
  refine bodyPost_ret (v := .tuple #[v, .agg #[.int .i64 e, .int .i64 a]]) ?_ hd hQ
  have hl2 := run_loadVar_row (P := Tryz.prog) V w.heap.size _ 28 _ _ _ hr Tryz.underlying28 rfl (by kernel_rfl)
  rw [Array.getD_eq_getD_getElem?] at h2 h3
  simp [results, Tryz.results16, asAddr, hl2, h2, h3]
theorem outE {w1 : World} {b : Nat} (h : w1.heap[b]? = some (fltO 0 0)) (e a : Int) : ((w1.setCell ⟨b, 0, none⟩ (.int .i64 e)).setCell ⟨b, 1, none⟩ (.int .i64 a)).heap[b]? = some (fltO e a) := set_at (j := 1) (set_at (j := 0) h)
theorem TA_skip : ∀ (k f : Nat) (l : List UInt8) (a : Nat) (out : List Tk), k ≤ (l.takeWhile blk).length → TA (f + k) l a out = TA f (l.drop k) (a + k) out
  | 0, f, l, a, out, _ => rfl
  | k + 1, f, [], a, out, h => by simp at h
  | k + 1, f, c :: r, a, out, h => by
    by_cases hc : blk c = true
    · rw [List.takeWhile_cons_of_pos hc] at h
      show TA (f + k + 1) (c :: r) a out = _
      rw [TA_step, if_pos hc, TA_skip k f r (a + 1) out (by simpa using h), List.drop_succ_cons]
      congr 1; omega
    · rw [List.takeWhile_cons_of_neg hc] at h; simp at h
theorem drop_nb (l : List UInt8) : ∀ c r, l.drop (l.takeWhile blk).length = c :: r → blk c = false := by
  intro c r h
  have hs := (tw_spec blk l).2.1
  have hlt : (l.takeWhile blk).length < l.length := by
    rcases Nat.lt_or_ge (l.takeWhile blk).length l.length with h1 | h1
    · exact h1
    · rw [List.drop_eq_nil_of_le h1] at h; cases h
  have h2 := hs hlt
  have : l.getD (l.takeWhile blk).length 0 = c := by
    rw [List.getD_eq_getElem?_getD, ← List.head?_drop, h]; rfl
  rwa [this] at h2
set_option maxRecDepth 100000 in
theorem tokens_long (s : ByteArray) (h : 256 < s.size) (hs : s.size ≤ 281474976710656) (w : World) : Calls Tryz.prog 16 #[.string s] w (AnsTo w (.bad 3 0)) := by
  have h1 : (256 : Int) < (s.size : Int) := by omega
  have hml : s.size ≤ maxLen := by show s.size ≤ 9223372036854775807; omega
  go_enter Tryz.func16, Tryz.ntmps16
  go_wp2_with (fail)
  go_returns
  exact ⟨rfl, by go_grown⟩
end Go.Proofs.YtbejpgoedenpmaaGreatDoor
