/- Tokens: the code's, whatever the text. -/
import Derived.Deep.AppendLies
import Derived.Laws.OwnMore
import Derived.Laws.StructEq
import Derived.Test.YtcojomkpogikiaaGreatDoorA26
import Derived.Test.YtcojomkpogikiaaGreatDoorA36
namespace Go.Proofs.YtcojomkpogikiaaGreatDoor
open Go.RowKit
set_option linter.unusedVariables false
instance : Inhabited Tk := ⟨⟨0, [], 0, 0⟩⟩
def tkC (x : Tk) : List Value := [.int .i64 (x.k : Nat), .string (bs x.t), .int .u64 (x.n : Nat), .int .i64 (x.a : Nat)]
def tkV (x : Tk) : TkV := ⟨(x.k : Nat), bs x.t, (x.n : Nat), (x.a : Nat)⟩
def atV (out : List Tk) (i : Nat) : TkV := tkV (out.getD i default)
theorem tkC_get : ∀ (out : List Tk) (i m : Nat), i < out.length → m < 4 → (out.flatMap tkC)[i * 4 + m]? = (tkC (out.getD i default))[m]?
  | [], i, m, h, _ => by simp at h
  | x :: r, 0, m, _, hm => by
    rw [List.flatMap_cons, List.getElem?_append_left (by show _ < 4; omega), Nat.zero_mul, Nat.zero_add]; rfl
  | x :: r, i + 1, m, h, hm => by
    rw [List.flatMap_cons, List.getElem?_append_right (by show 4 ≤ _; omega)]
    show (r.flatMap tkC)[(i + 1) * 4 + m - 4]? = _
    rw [show (i + 1) * 4 + m - 4 = i * 4 + m by omega, tkC_get r i m (by simpa using h) hm]
    rfl
theorem infoTok : (Tryz.prog.info? 93).map (fun i => (i.zero, i.size, i.bytes)) = some (some (.agg #[.int .i64 0, .string ⟨#[]⟩, .int .u64 0, .int .i64 0]), 4, 40) := by kernel_rfl
/-- tokens that the call owns -/
structure TSt (w : World) (v : Value) (out : List Tk) (wx : World) : Prop where
  own : wx.ownsRow (w.heap.size + 1) 93 4 v out.length (out.flatMap tkC)
  fl : wx.heap[w.heap.size]? = some (fltO 0 0)
  be : Below w.heap.size w wx
theorem TSt.step {w wx wy : World} {v : Value} {out : List Tk} (h : TSt w v out wx) (hb : Below wx.heap.size wx wy) : TSt w v out wy :=
  ⟨(Only.of_below (S := fun _ => False) hb).row h.own (fun _ _ f => f), rowKeep hb h.fl, onBelow h.be (Nat.le_refl _) hb⟩
theorem TSt.start (w : World) : TSt w (.slice none 0 0) [] (w.alloc (fltO 0 0)) :=
  ⟨⟨rfl, .inl ⟨rfl, rfl⟩⟩, alloc_at w _, (Below.refl w.heap.size w).alloc (Nat.le_refl _) _⟩
theorem TSt.grown {w wx wy : World} {v v' : Value} {out : List Tk} {x : Tk} (h : TSt w v out wx) (hown : wy.ownsRow (w.heap.size + 1) 93 4 v' (out.length + 1) (out.flatMap tkC ++ tkC x)) (hg : wx.grownBy wy v.ownBlock) : TSt w v' (out ++ [x]) wy := by
  refine ⟨?_, ?_, ?_⟩
  · rw [List.length_append, List.flatMap_append]
    simpa using hown
  · have hlt : w.heap.size < wx.heap.size := lt_of_block h.fl
    exact (hg.block w.heap.size hlt (fun e => by have := (h.own.lt _ e.symm).1; omega)).trans h.fl
  · exact h.be.grown hg h.be.size (fun k hk => by have := (h.own.lt k hk).1; omega)
theorem TSt.at {w wx : World} {ao : Option Addr} {n cap : Nat} {out : List Tk} (h : TSt w (.slice ao n cap) out wx) : ∀ i, i < out.length → TkAt wx ao i (atV out i) := by
  intro i hi
  rcases h.own.2 with ⟨hv, h0⟩ | ⟨g, cap', cur, hv, _⟩
  · omega
  · injection hv with e1 e2 e3
    subst e1
    have hc := h.own.cells (g := g) rfl
    have key : ∀ m, m < 4 → ∀ u, (tkC (out.getD i default))[m]? = some u → wx.cell? ⟨g, i * 4 + m, none⟩ = some u := fun m hm u hu => by
      have h2 := hc (i * 4 + m) u (by rw [tkC_get out i m hi hm]; exact hu)
      have hadd : (⟨g, 0, none⟩ : Addr).add (i * 4 + m) = ⟨g, i * 4 + m, none⟩ := by unfold Addr.add; split <;> simp_all
      rwa [hadd] at h2
    refine ⟨g, 0, rfl, ?_, ?_, ?_, ?_⟩
    · rw [Nat.zero_add]; exact key 0 (by omega) _ rfl
    · rw [Nat.zero_add]; exact key 1 (by omega) _ rfl
    · rw [Nat.zero_add]; exact key 2 (by omega) _ rfl
    · rw [Nat.zero_add]; exact key 3 (by omega) _ rfl
theorem TSt.cap {w wx : World} {ao : Option Addr} {n cap : Nat} {out : List Tk} (h : TSt w (.slice ao n cap) out wx) : out.length ≤ cap := by
  rcases h.own.2 with ⟨hv, h0⟩ | ⟨g, cap', cur, hv, hb, hg, hn, _⟩
  · omega
  · injection hv with e1 e2 e3
    omega
/-- what Tokens answers -/
def AnsTo (w : World) (A : Ans) (x : Ending) (w' : World) : Prop := (match A with
  | .bad e a => x = .returned (.tuple #[.slice none 0 0, .agg #[.int .i64 (e : Nat), .int .i64 (a : Nat)]])
  | .good out => ∃ ao cap, x = .returned (.tuple #[.slice ao out.length cap, .agg #[.int .i64 0, .int .i64 0]]) ∧ (∀ i, i < out.length → TkAt w' ao i (atV out i)) ∧ out.length ≤ cap) ∧ Below w.heap.size w w'
theorem first_j (l : List UInt8) : (∃ j, j < 5 ∧ (∀ i, i < j → ld l i = 0) ∧ ld l j ≠ 0) ∨ ∀ i, i < 5 → ld l i = 0 := by
  by_cases h0 : ld l 0 = 0
  · by_cases h1 : ld l 1 = 0
    · by_cases h2 : ld l 2 = 0
      · by_cases h3 : ld l 3 = 0
        · by_cases h4 : ld l 4 = 0
          · right
            intro i hi
            match i, hi with
            | 0, _ => exact h0
            | 1, _ => exact h1
            | 2, _ => exact h2
            | 3, _ => exact h3
            | 4, _ => exact h4
          · exact .inl ⟨4, by omega, fun i hi => by
              match i, hi with
              | 0, _ => exact h0
              | 1, _ => exact h1
              | 2, _ => exact h2
              | 3, _ => exact h3, h4⟩
        · exact .inl ⟨3, by omega, fun i hi => by
            match i, hi with
            | 0, _ => exact h0
            | 1, _ => exact h1
            | 2, _ => exact h2, h3⟩
      · exact .inl ⟨2, by omega, fun i hi => by
          match i, hi with
          | 0, _ => exact h0
          | 1, _ => exact h1, h2⟩
    · exact .inl ⟨1, by omega, fun i hi => by
        match i, hi with
        | 0, _ => exact h0, h1⟩
  · exact .inl ⟨0, by omega, fun i hi => absurd hi (Nat.not_lt_zero _), h0⟩
/-- an answer's bounds -/
theorem fst_bounds (l : List UInt8) (hl : l ≠ []) : match fstG l with
    | .err e a => e ≠ 0 ∧ a < l.length
    | .tok k t n len => 1 ≤ len ∧ len ≤ l.length ∧ 1 ≤ k ∧ k ≤ 5 ∧ t.length ≤ len := by
  rcases first_j l with ⟨j, hj, hz, hn⟩ | h
  · rw [fst_at l j hj hz hn]
    have hok := gt_ok l j hj hn
    have hle := ld_le l j
    cases hg : gt l j with
    | err e a => rw [hg] at hok; exact ⟨hok.1, by have := hok.2; omega⟩
    | tok k t n len =>
      rw [hg] at hok
      obtain ⟨h1, h2, h3⟩ := hok
      exact ⟨by omega, by omega, by omega, by omega, by omega⟩
  · rw [fst_no l h]; exact ⟨by decide, List.length_pos_iff.2 hl⟩
theorem outErr {w w1 : World} (h : w1.heap[w.heap.size]? = some (fltO 0 0)) (hb : Below w.heap.size w w1) (e a : Int) (O1 O2 : Obj) :
    ((((w1.setCell ⟨w.heap.size, 0, none⟩ (.int .i64 e)).setCell ⟨w.heap.size, 1, none⟩ (.int .i64 a)).alloc O1).alloc O2).drew.heap[w.heap.size]? = some (fltO e a) ∧ Below w.heap.size w ((((w1.setCell ⟨w.heap.size, 0, none⟩ (.int .i64 e)).setCell ⟨w.heap.size, 1, none⟩ (.int .i64 a)).alloc O1).alloc O2).drew := by
  have h1 := set_at (j := 1) (u := .int .i64 a) (set_at (j := 0) (u := .int .i64 e) h)
  have hs := hb.size
  exact ⟨alloc_old (alloc_old h1), ((((hb.setCell (Nat.le_refl _) _).setCell (Nat.le_refl _) _).alloc (by simpa using hs) _).alloc (by simp; omega) _).drew⟩
theorem outErr2 {w w1 : World} (h : w1.heap[w.heap.size]? = some (fltO 0 0)) (hb : Below w.heap.size w w1) (e a : Int) (O1 O2 : Obj) :
    ((((w1.setCell ⟨w.heap.size, 0, none⟩ (.int .i64 e)).setCell ⟨w.heap.size, 1, none⟩ (.int .i64 a)).alloc O1).alloc O2).heap[w.heap.size]? = some (fltO e a) ∧ Below w.heap.size w ((((w1.setCell ⟨w.heap.size, 0, none⟩ (.int .i64 e)).setCell ⟨w.heap.size, 1, none⟩ (.int .i64 a)).alloc O1).alloc O2) := by
  have h1 := set_at (j := 1) (u := .int .i64 a) (set_at (j := 0) (u := .int .i64 e) h)
  have hs := hb.size
  exact ⟨alloc_old (alloc_old h1), (((hb.setCell (Nat.le_refl _) _).setCell (Nat.le_refl _) _).alloc (by simpa using hs) _).alloc (by simp; omega) _⟩
theorem newTk (x : Tk) (w1 : World) (O1 O2 : Obj) : ∀ i u, (tkC x)[i]? = some u → (((w1.alloc O1).alloc O2).alloc (.cells #[.int .i64 (x.k : Nat), .string (bs x.t), .int .u64 (x.n : Nat), .int .i64 (x.a : Nat)] 93)).cell? ((⟨w1.heap.size + 1 + 1, 0, none⟩ : Addr).add i) = some u := by
  have h := alloc_at ((w1.alloc O1).alloc O2) (.cells #[.int .i64 (x.k : Nat), .string (bs x.t), .int .u64 (x.n : Nat), .int .i64 (x.a : Nat)] 93)
  have hz : ((w1.alloc O1).alloc O2).heap.size = w1.heap.size + 1 + 1 := by simp
  rw [hz] at h
  intro i u hu
  exact World.news_of_block h i u hu
theorem TSt.fin {w wx : World} {v : Value} {out : List Tk} (h : TSt w v out wx) : TSt w v out ((wx.setCell ⟨w.heap.size, 0, none⟩ (.int .i64 0)).setCell ⟨w.heap.size, 1, none⟩ (.int .i64 0)) := by
  refine ⟨?_, set_at (j := 1) (set_at (j := 0) h.fl), (h.be.setCell (Nat.le_refl _) _).setCell (Nat.le_refl _) _⟩
  have ho : Only (fun k => k = w.heap.size) wx ((wx.setCell ⟨w.heap.size, 0, none⟩ (.int .i64 0)).setCell ⟨w.heap.size, 1, none⟩ (.int .i64 0)) := ((Only.refl (fun k => k = w.heap.size) wx).setCell (p := ⟨w.heap.size, 0, none⟩) (.inl rfl) _).setCell (p := ⟨w.heap.size, 1, none⟩) (.inl rfl) _
  exact ho.row h.own (fun k hk e => by have := (h.own.lt k hk).1; omega)
theorem newTk1 (x : Tk) (w1 : World) : ∀ i u, (tkC x)[i]? = some u → (w1.alloc (.cells #[.int .i64 (x.k : Nat), .string (bs x.t), .int .u64 (x.n : Nat), .int .i64 (x.a : Nat)] 93)).cell? ((⟨w1.heap.size, 0, none⟩ : Addr).add i) = some u := by
  intro i u hu
  exact World.news_of_block (alloc_at w1 (.cells #[.int .i64 (x.k : Nat), .string (bs x.t), .int .u64 (x.n : Nat), .int .i64 (x.a : Nat)] 93)) i u hu
theorem end6 {w V : World} {Q : Ending → World → Prop} {act : Act} (v : Value) (e a : Int) (hd : act.defers = []) (h2 : act.tmps.getD 2 undef = v) (h3 : act.tmps.getD 3 undef = .pointer (some ⟨w.heap.size, 0, none⟩)) (hr : V.heap[w.heap.size]? = some (fltO e a))
    (hQ : Q (.returned (.tuple #[v, .agg #[.int .i64 e, .int .i64 a]])) V) : bodyPost Tryz.prog Tryz.f33 Q Exit.ret act V := by
  refine bodyPost_ret (v := .tuple #[v, .agg #[.int .i64 e, .int .i64 a]]) ?_ hd hQ
  have hl2 := run_loadVar_row (P := Tryz.prog) V w.heap.size _ 57 _ _ _ hr Tryz.underlying57 rfl (by kernel_rfl)
  rw [Array.getD_eq_getD_getElem?] at h2 h3
  simp [results, Tryz.results33, asAddr, hl2, h2, h3]
theorem TA_skip : ∀ (k f : Nat) (l : List UInt8) (a : Nat) (out : List Tk), k ≤ (l.takeWhile blk).length → TA (f + k) l a out = TA f (l.drop k) (a + k) out
  | 0, f, l, a, out, _ => rfl
  | k + 1, f, [], a, out, h => by simp at h
  | k + 1, f, c :: r, a, out, h => by
    by_cases hc : blk c = true
    · rw [List.takeWhile_cons_of_pos hc] at h
      show TA (f + k + 1) (c :: r) a out = _
      rw [TA_step, if_pos hc, TA_skip k f r (a + 1) out (by simpa using h), List.drop_succ_cons]
      congr 1; omega
    · rw [List.takeWhile_cons_of_neg hc] at h; simp at h
theorem drop_nb (l : List UInt8) : ∀ c r, l.drop (l.takeWhile blk).length = c :: r → blk c = false := by
  intro c r h
  have hs := (tw_spec blk l).2.1
  have hlt : (l.takeWhile blk).length < l.length := by
    rcases Nat.lt_or_ge (l.takeWhile blk).length l.length with h1 | h1
    · exact h1
    · rw [List.drop_eq_nil_of_le h1] at h; cases h
  have h2 := hs hlt
  have : l.getD (l.takeWhile blk).length 0 = c := by
    rw [List.getD_eq_getElem?_getD, ← List.head?_drop, h]; rfl
  rwa [this] at h2
set_option maxRecDepth 100000 in
theorem tokens_long (s : ByteArray) (h : 256 < s.size) (hs : s.size ≤ 281474976710656) (w : World) : Calls Tryz.prog 33 #[.string s] w (AnsTo w (.bad 3 0)) := by
  have h1 : (256 : Int) < (s.size : Int) := by omega
  have hml : s.size ≤ maxLen := by show s.size ≤ 9223372036854775807; omega
  go_enter Tryz.func33, Tryz.ntmps33
  go_wp2_with (fail)
  go_returns
  exact ⟨rfl, by go_grown⟩
end Go.Proofs.YtcojomkpogikiaaGreatDoor
/- What Tokens answers, bad or good, in one form. -/
namespace Go.Proofs.YtcojomkpogikiaaGreatDoor
open Go.RowKit
set_option linter.unusedVariables false
def ansN : Ans → Nat | .bad _ _ => 0 | .good out => out.length
theorem TA_len : ∀ (f : Nat) (l : List UInt8) (a : Nat) (out r : List Tk), out.length ≤ 64 → TA f l a out = .good r → r.length ≤ 65
  | 0, l, a, out, r, ho, h => by cases h
  | f + 1, [], a, out, r, ho, h => by
    have : out ++ [⟨6, [], 0, a⟩] = r := by injection h
    rw [← this]; simp; omega
  | f + 1, c :: q, a, out, r, ho, h => by
    rw [TA_step] at h
    by_cases hc : blk c = true
    · rw [if_pos hc] at h; exact TA_len f q (a + 1) out r ho h
    · rw [if_neg hc] at h
      cases hg : fstG (c :: q) with
      | err e b => rw [hg] at h; cases h
      | tok k t n len =>
        rw [hg] at h
        have h : (if out.length = 64 then Ans.bad 3 a else TA f ((c :: q).drop len) (a + len) (out ++ [⟨k, t, n, a⟩])) = .good r := h
        by_cases h64 : out.length = 64
        · rw [if_pos h64] at h; cases h
        · rw [if_neg h64] at h
          exact TA_len f _ _ _ r (by simp; omega) h
theorem tokA_len (l : List UInt8) : ansN (tokA l) ≤ 65 := by
  cases h : tokA l with
  | bad e a => exact Nat.zero_le _
  | good r =>
    unfold tokA at h
    split at h
    · cases h
    · exact TA_len _ l 0 [] r (by simp) h
end Go.Proofs.YtcojomkpogikiaaGreatDoor
/- Tokens: the code's, whatever the text. -/
namespace Go.Proofs.YtcojomkpogikiaaGreatDoor
open Go.RowKit
set_option linter.unusedVariables false
set_option maxRecDepth 100000 in
set_option maxHeartbeats 8000000 in
theorem tokens_any (l : List UInt8) (hl : l.length ≤ 256) (w : World) (hV : LibAt w) : Calls Tryz.prog 33 #[.string (bs l)] w (AnsTo w (tokA l)) := by
  obtain ⟨i0, hi, hz0, hz1, hz2⟩ := info_parts infoTok
  have HRUN := Lib.hid (fun (m : List UInt8) (hm : m.length ≤ 256) (wx : World) => runBlanks m (by omega) wx)
  have HFI := Lib.hid (fun (c : UInt8) (r : List UInt8) (hm : (c :: r).length ≤ 256) (wx : World) (hb : Below w.heap.size w wx) => first_any c r (by omega) wx (hV.held hb))
  have HSL := Lib.hid (sl_from l)
  have HFB := Lib.hid (fst_bounds)
  have HSK := Lib.hid TA_skip
  have HNB := Lib.hid drop_nb
  have HS0 := Lib.hid (TSt.start w)
  have hsz : (bs l).size = l.length := bs_size l
  have hA : tokA l = TA (l.length + 1) l 0 [] := if_neg (by omega)
  rw [hA]
  have HR0 := Lib.hid (runBlanks l (by omega))
  have HTW := Lib.hid (fun m : List UInt8 => (tw_spec blk m).2.2)
  obtain ⟨s, hs⟩ : ∃ s, bs l = s := ⟨_, rfl⟩
  rw [hs] at HSL HR0 hsz ⊢
  have hml : s.size ≤ maxLen := by show s.size ≤ 9223372036854775807; omega
  have h256 : ¬ (256 : Int) < (l.length : Int) := by omega
  obtain ⟨AA, hAA⟩ : ∃ AA, TA (l.length + 1) l 0 [] = AA := ⟨_, rfl⟩
  rw [hAA]
  have HAA := Lib.hid hAA
  clear hA hs hAA hV
  go_enter Tryz.func33, Tryz.ntmps33
  go_wp2_with (go_at_call 65; refine (HR0.out _).mono ?_; rintro e w1 ⟨rfl, hb1⟩; have HS1 := Lib.hid (HS0.out.step hb1); clear hb1)
  go_loopw [4, 5] (fun v a wr => ∃ (out : List Tk) (j f : Nat) (ao : Option Addr) (cap : Nat), j ≤ l.length ∧ out.length ≤ 64 ∧ v = .slice ao out.length cap ∧ a = .int .i64 j ∧ l.length - j < f ∧ Hid (TA f (l.drop j) j out = AA) ∧ Hid (∀ c r, l.drop j = c :: r → blk c = false) ∧ Hid (TSt w (.slice ao out.length cap) out wr)) (fun _ a _ => l.length - (intOf a).toNat)
  case atStart =>
    have hk := HTW.out l
    refine ⟨[], (l.takeWhile blk).length, l.length + 1 - (l.takeWhile blk).length, none, 0, hk, by simp, rfl, by go_num, by omega, Lib.hid ?_, Lib.hid (HNB.out l), HS1⟩
    have h := HSK.out (l.takeWhile blk).length (l.length + 1 - (l.takeWhile blk).length) l 0 [] (Nat.le_refl _)
    rw [Nat.sub_add_cancel (by omega), Nat.zero_add] at h
    rw [← h]; exact HAA.out
  case round =>
    obtain ⟨out, j, f, ao, cap, hj, hout, rfl, rfl, hf, HTA, HB, HS⟩ := hrel
    by_cases hlt : j < l.length
    · obtain ⟨c, r, hcr⟩ : ∃ c r, l.drop j = c :: r := ⟨_, _, List.drop_eq_getElem_cons hlt⟩
      have hnb := HB.out c r hcr
      have hlen : (c :: r).length = l.length - j := by rw [← hcr, List.length_drop]
      obtain ⟨g, rfl⟩ : ∃ g, f = g + 1 := ⟨f - 1, by omega⟩
      have hta := HTA.out
      rw [hcr, TA_step, if_neg (by rw [hnb]; decide)] at hta
      have hfi := fun wx hb => HFI.out c r (by omega) wx hb
      have hfb := HFB.out (c :: r) (by simp)
      have hsl := HSL.out j hj
      rw [hcr] at hsl
      have hcr2 := HRUN.out
      have hdr : ∀ len, l.drop (j + len) = (c :: r).drop len := fun len => by rw [← List.drop_drop, hcr]
      obtain ⟨m, hm⟩ : ∃ m, c :: r = m := ⟨_, rfl⟩
      rw [hm] at hta hfi hfb hsl hlen
      simp only [hm] at hdr
      obtain ⟨G, hG⟩ : ∃ G, fstG m = G := ⟨_, rfl⟩
      rw [hG] at hta hfi hfb
      obtain ⟨X, hX⟩ : ∃ X, bs m = X := ⟨_, rfl⟩
      rw [hX] at hfi hsl
      have HFC := Lib.hid hfi
      have HDR := Lib.hid hdr
      clear hfi hdr hm hX hG hcr hnb hcr2
      cases G with
      | err e a =>
        have HTX := Lib.hid (show AA = .bad e (j + a) from hta.symm)
        have heb : ((e : Int) != 0) = true := by have := hfb.1; simpa using (show ((e : Nat) : Int) ≠ 0 by omega)
        have hae := hfb.2
        have HWR := Lib.hid (show wrap64 ((j : Int) + (a : Int)) = (j : Int) + (a : Int) by unfold wrap64; omega)
        clear hae
        clear hta hfb
        have HFD := Lib.hid (show ∀ wx, Below w.heap.size w wx → Calls Tryz.prog 66 #[.string X] wx fun x w' => x = .returned (.tuple #[.agg #[.int .i64 0, .string ⟨#[]⟩, .int .u64 0, .int .i64 0], .int .i64 0, .agg #[.int .i64 (e : Nat), .int .i64 (a : Nat)]]) ∧ Below wx.heap.size wx w' from HFC.out)
        go_wp2_with (go_at_call 66; refine (HFD.out _ HS.out.be).mono ?_; rintro x w1 ⟨rfl, hb1⟩; have HS1 := Lib.hid (HS.out.step hb1); have l0 : w1.cell? ⟨w.heap.size, 0, none⟩ = some (.int .i64 0) := cell_at HS1.out.fl rfl; have l1 : w1.cell? ⟨w.heap.size, 1, none⟩ = some (.int .i64 0) := cell_at HS1.out.fl rfl; have m0 := free_at (j := 0) HS1.out.fl; have m1 := free_at (j := 1) HS1.out.fl; have p0 : w.heap.size < w1.heap.size := lt_of_block HS1.out.fl; have p1 : ¬ w.heap.size = w1.heap.size := (by omega); clear hb1)
        go_region
        all_goals go_wp2_with (fail)
        all_goals
          rw [HWR.out]
          have HV := Lib.hid (outErr HS1.out.fl HS1.out.be (e : Nat) ((j : Int) + (a : Int)) (.cells #[.int .i64 0, .string ⟨#[]⟩, .int .u64 0, .int .i64 0] 93) (.cells #[.int .i64 (e : Nat), .int .i64 (a : Nat)] 57))
          refine end6 (w := w) (.slice none 0 0) (e : Nat) ((j : Int) + (a : Int)) rfl rfl rfl HV.out.1 ?_
          rw [HTX.out]
          exact ⟨rfl, HV.out.2⟩
      | tok k t n len =>
        obtain ⟨b1, b2, b3, b4, b5⟩ := hfb
        have hta2 : (if out.length = 64 then Ans.bad 3 j else TA g (m.drop len) (j + len) (out ++ [⟨k, t, n, j⟩])) = AA := hta
        clear hta
        by_cases h64 : out.length = 64
        · rw [if_pos h64] at hta2
          have HTX := Lib.hid hta2.symm
          clear hta2
          have HFD := Lib.hid (show ∀ wx, Below w.heap.size w wx → Calls Tryz.prog 66 #[.string X] wx fun x w' => x = .returned (.tuple #[.agg #[.int .i64 (k : Nat), .string (bs t), .int .u64 (n : Nat), .int .i64 0], .int .i64 (len : Nat), .agg #[.int .i64 0, .int .i64 0]]) ∧ Below wx.heap.size wx w' from HFC.out)
          go_wp2_with (go_at_call 66; refine (HFD.out _ HS.out.be).mono ?_; rintro x w1 ⟨rfl, hb1⟩; have HS1 := Lib.hid (HS.out.step hb1); have l0 : w1.cell? ⟨w.heap.size, 0, none⟩ = some (.int .i64 0) := cell_at HS1.out.fl rfl; have l1 : w1.cell? ⟨w.heap.size, 1, none⟩ = some (.int .i64 0) := cell_at HS1.out.fl rfl; have m0 := free_at (j := 0) HS1.out.fl; have m1 := free_at (j := 1) HS1.out.fl; have p0 : w.heap.size < w1.heap.size := lt_of_block HS1.out.fl; have p1 : ¬ w.heap.size = w1.heap.size := (by omega); clear hb1)
          have HV := Lib.hid (outErr2 HS1.out.fl HS1.out.be 3 (j : Int) (.cells #[.int .i64 (k : Nat), .string (bs t), .int .u64 (n : Nat), .int .i64 0] 93) (.cells #[.int .i64 0, .int .i64 0] 57))
          refine end6 (w := w) (.slice none 0 0) 3 (j : Int) rfl rfl rfl HV.out.1 ?_
          rw [HTX.out]
          exact ⟨rfl, HV.out.2⟩
        · rw [if_neg h64] at hta2
          have HTX := Lib.hid hta2
          clear hta2
          have HFD := Lib.hid (show ∀ wx, Below w.heap.size w wx → Calls Tryz.prog 66 #[.string X] wx fun x w' => x = .returned (.tuple #[.agg #[.int .i64 (k : Nat), .string (bs t), .int .u64 (n : Nat), .int .i64 0], .int .i64 (len : Nat), .agg #[.int .i64 0, .int .i64 0]]) ∧ Below wx.heap.size wx w' from HFC.out)
          have h64b : ((out.length : Int) == 64) = false := beq_eq_false_iff_ne.2 (by omega)
          have hlj : j + len ≤ l.length := by omega
          have hsl2 : ∀ wx, (Instr.slice 9 (.string s) (some (.int .i64 ((j : Int) + (len : Int)))) none none).run Tryz.prog wx = .ok (.string (bs (l.drop (j + len)))) wx := fun wx => HSL.out (j + len) hlj wx
          have hrun := HRUN.out (l.drop (j + len)) (by rw [List.length_drop]; omega)
          have hnbx := HNB.out (l.drop (j + len))
          have hskx := HSK.out ((l.drop (j + len)).takeWhile blk).length (g - ((l.drop (j + len)).takeWhile blk).length) (l.drop (j + len)) (j + len) (out ++ [⟨k, t, n, j⟩]) (Nat.le_refl _)
          have htw := HTW.out (l.drop (j + len))
          rw [List.length_drop] at htw
          rw [List.drop_drop] at hskx hnbx
          obtain ⟨nb, hnb⟩ : ∃ nb, ((l.drop (j + len)).takeWhile blk).length = nb := ⟨_, rfl⟩
          rw [hnb] at hrun hnbx hskx htw
          rw [Nat.sub_add_cancel (by omega)] at hskx
          have HTY := Lib.hid (show TA (g - nb) (l.drop (j + len + nb)) (j + len + nb) (out ++ [⟨k, t, n, j⟩]) = AA by rw [← hskx, HDR.out]; exact HTX.out)
          have HNX := Lib.hid hnbx
          obtain ⟨Y, hY⟩ : ∃ Y, bs (l.drop (j + len)) = Y := ⟨_, rfl⟩
          rw [hY] at hrun hsl2
          have HRX := Lib.hid hrun
          have HX := Lib.hid (show ∀ (wx wy : World) (v' : Value), TSt w (.slice ao out.length cap) out wx → wy.ownsRow (w.heap.size + 1) 93 4 v' (out.length + 1) (out.flatMap tkC ++ tkC ⟨k, t, n, j⟩) → wx.grownBy wy (Value.slice ao out.length cap).ownBlock → TSt w v' (out ++ [⟨k, t, n, j⟩]) wy from fun _ _ _ h1 h2 h3 => h1.grown h2 h3)
          have HL1 := Lib.hid (show (out ++ [(⟨k, t, n, j⟩ : Tk)]).length = out.length + 1 by rw [List.length_append]; rfl)
          have HNT := Lib.hid (newTk ⟨k, t, n, j⟩)
          clear hrun hnbx hskx hnb hY b3 b4 b5 HRUN HNB HSK HTW HFB HFI
          go_wp2_with (first
            | (go_at_call 66; refine (HFD.out _ HS.out.be).mono ?_; rintro x w1 ⟨rfl, hb1⟩; have HS1 := Lib.hid (HS.out.step hb1); have l0 : w1.cell? ⟨w.heap.size, 0, none⟩ = some (.int .i64 0) := cell_at HS1.out.fl rfl; have l1 : w1.cell? ⟨w.heap.size, 1, none⟩ = some (.int .i64 0) := cell_at HS1.out.fl rfl; have m0 := free_at (j := 0) HS1.out.fl; have m1 := free_at (j := 1) HS1.out.fl; have p0 : w.heap.size < w1.heap.size := lt_of_block HS1.out.fl; have p1 : ¬ w.heap.size = w1.heap.size := (by omega); clear hb1)
            | (at_builtin; refine wpList_append_lies _ rfl _ _ 82 rfl (w.heap.size + 1) 93 i0 _ 4 40 Tryz.underlying82 hi hz0 hz1 hz2 rfl (by decide) _ _ _ rfl (((HS1.out.own.alloc _).alloc _).alloc _) ⟨_, 0, none⟩ 1 1 (tkC ⟨k, t, n, j⟩) rfl rfl (HNT.out _ _ _) (fun u hu => by (simp [tkC] at hu; rcases hu with rfl | rfl | rfl | rfl <;> rfl)) (by decide) (by unfold maxLen; omega) (by omega) (by simp; omega) _ rfl ?_; intro gg cp w2 hown2 hg2 _ _; have HS2 := Lib.hid (HX.out _ _ _ (HS1.out.step ((((Below.refl w1.heap.size w1).alloc (Nat.le_refl _) _).alloc (by simp) _).alloc (by simp; omega) _)) hown2 hg2); clear hown2 hg2)
            | (go_at_call 65; refine (HRX.out _).mono ?_; rintro e w3 ⟨rfl, hb3⟩; have HS3 := Lib.hid (HS2.out.step hb3); clear hb3))
          go_roundw
          case rel => exact ⟨out ++ [⟨k, t, n, j⟩], j + len + nb, g - nb, some ⟨gg, 0, none⟩, cp, by omega, by rw [HL1.out]; omega, by rw [HL1.out], by go_num, by omega, HTY, HNX, by rw [HL1.out]; exact HS3⟩
          case measure => simp [intOf]; omega
    · obtain rfl : j = l.length := by omega
      obtain ⟨g, rfl⟩ : ∃ g, f = g + 1 := ⟨f - 1, by omega⟩
      have hta := HTA.out
      rw [List.drop_eq_nil_of_le (Nat.le_refl _)] at hta
      have HTX := Lib.hid (show AA = .good (out ++ [⟨6, [], 0, l.length⟩]) from hta.symm)
      have HX := Lib.hid (show ∀ (wx wy : World) (v' : Value), TSt w (.slice ao out.length cap) out wx → wy.ownsRow (w.heap.size + 1) 93 4 v' (out.length + 1) (out.flatMap tkC ++ tkC ⟨6, [], 0, l.length⟩) → wx.grownBy wy (Value.slice ao out.length cap).ownBlock → TSt w v' (out ++ [⟨6, [], 0, l.length⟩]) wy from fun _ _ _ h1 h2 h3 => h1.grown h2 h3)
      have HNT := Lib.hid (newTk1 ⟨6, [], 0, l.length⟩)
      have HL1 := Lib.hid (show (out ++ [(⟨6, [], 0, l.length⟩ : Tk)]).length = out.length + 1 by rw [List.length_append]; rfl)
      clear hta
      go_wp2_with (first
        | (at_builtin; refine wpList_append_lies _ rfl _ _ 82 rfl (w.heap.size + 1) 93 i0 _ 4 40 Tryz.underlying82 hi hz0 hz1 hz2 rfl (by decide) _ _ _ rfl (HS.out.own.alloc _) ⟨_, 0, none⟩ 1 1 (tkC ⟨6, [], 0, l.length⟩) rfl rfl (HNT.out _) (fun u hu => by (simp [tkC] at hu; rcases hu with rfl | rfl | rfl | rfl <;> rfl)) (by decide) (by unfold maxLen; omega) (by omega) (by have := HS.out.be.size; have := lt_of_block HS.out.fl; simp; omega) _ rfl ?_; intro gg cp w2 hown2 hg2 _ _; have HS2 := Lib.hid (HX.out _ _ _ (HS.out.step ((Below.refl wr.heap.size wr).alloc (Nat.le_refl _) _)) hown2 hg2); have l0 : w2.cell? ⟨w.heap.size, 0, none⟩ = some (.int .i64 0) := cell_at HS2.out.fl rfl; have l1 : w2.cell? ⟨w.heap.size, 1, none⟩ = some (.int .i64 0) := cell_at HS2.out.fl rfl; have m0 := free_at (j := 0) HS2.out.fl; have m1 := free_at (j := 1) HS2.out.fl; clear hown2 hg2))
      have HF := Lib.hid HS2.out.fin
      refine end6 (w := w) (.slice (some ⟨gg, 0, none⟩) (out.length + 1) cp) 0 0 rfl rfl rfl HF.out.fl ?_
      rw [HTX.out]
      refine ⟨⟨some ⟨gg, 0, none⟩, cp, by rw [HL1.out], ?_⟩, HF.out.be⟩
      exact ⟨HF.out.at, HF.out.cap⟩
end Go.Proofs.YtcojomkpogikiaaGreatDoor
/- Joined tokens are split into the same tokens. Plain Lean. -/
namespace Go.Proofs.YtcojomkpogikiaaGreatDoor
open Go
set_option linter.unusedVariables false
theorem all_stop (p : UInt8 → Bool) (d : UInt8) (r : List UInt8) (hd : p d = false) : ∀ l : List UInt8, (∀ x ∈ l, p x = true) → (l ++ d :: r).takeWhile p = l
  | [], _ => by simp [hd]
  | c :: q, h => by
    rw [List.cons_append, List.takeWhile_cons_of_pos (h c (by simp)), all_stop p d r hd q (fun x hx => h x (by simp [hx]))]
theorem tw_take_eq (p : UInt8 → Bool) : ∀ l : List UInt8, l.take (l.takeWhile p).length = l.takeWhile p
  | [] => rfl
  | c :: q => by
    by_cases hc : p c = true
    · rw [List.takeWhile_cons_of_pos hc, List.length_cons, List.take_succ_cons, tw_take_eq p q]
    · rw [List.takeWhile_cons_of_neg hc]; rfl
theorem tw_mem (p : UInt8 → Bool) : ∀ (l : List UInt8) (x : UInt8), x ∈ l.takeWhile p → p x = true
  | [], x, h => by simp at h
  | c :: q, x, h => by
    by_cases hc : p c = true
    · rw [List.takeWhile_cons_of_pos hc] at h
      rcases List.mem_cons.1 h with rfl | h
      · exact hc
      · exact tw_mem p q x h
    · rw [List.takeWhile_cons_of_neg hc] at h; simp at h
theorem ql_ne {c : UInt8} (h : c ≠ 39) : ∀ r, ql (c :: r) = (ql r).map (· + 1)
  | [] => by simp [ql, h]
  | d :: r => by rw [ql, if_neg h]
theorem ql_q2 (r : List UInt8) : ql (39 :: 39 :: r) = (ql r).map (· + 2) := by rw [ql, if_pos rfl, if_pos rfl]
theorem ql_q1 (d : UInt8) (r : List UInt8) (h : d ≠ 39) : ql (39 :: d :: r) = some 1 := by rw [ql, if_pos rfl, if_neg h]
theorem dbl_ne {c : UInt8} (h : c ≠ 39) (r : List UInt8) : dbl (c :: r) = c :: dbl r := by rw [dbl, if_neg h]
/-- what is quoted, and stays so behind a blank -/
theorem ql_again (z : List UInt8) : ∀ (N : Nat) (r : List UInt8) (K : Nat), r.length ≤ N → ql r = some K → ql (r.take K ++ 32 :: z) = some K ∧ dbl (unq (r.take (K - 1))) ++ [39] = r.take K
  | N, [], K, _, h => by simp [ql] at h
  | N, [c], K, _, h => by
    by_cases hc : c = 39
    · subst hc
      obtain rfl : 1 = K := (by simpa [ql] using h)
      exact ⟨ql_q1 32 z (by decide), rfl⟩
    · simp [ql, hc] at h
  | 0, c :: d :: r, K, hN, _ => by simp at hN
  | N + 1, c :: d :: r, K, hN, h => by
    by_cases hc : c = 39
    · subst hc
      by_cases hd : d = 39
      · subst hd
        rw [ql_q2] at h
        cases hq : ql r with
        | none => rw [hq] at h; cases h
        | some k =>
          rw [hq] at h
          obtain rfl : k + 2 = K := (by simpa using h)
          have hN' : r.length ≤ N := by simp at hN; omega
          obtain ⟨h1, h2⟩ := ql_again z N r k hN' hq
          obtain ⟨hk, _⟩ := ql_le r.length r k (Nat.le_refl _) hq
          constructor
          · rw [List.take_succ_cons, List.take_succ_cons, List.cons_append, List.cons_append, ql_q2, h1]; rfl
          · obtain ⟨m, rfl⟩ : ∃ m, k = m + 1 := ⟨k - 1, by omega⟩
            rw [show m + 1 + 2 - 1 = m + 2 from rfl, List.take_succ_cons, List.take_succ_cons, List.take_succ_cons, List.take_succ_cons]
            rw [show m + 1 - 1 = m from rfl] at h2
            rw [unq, if_pos ⟨rfl, rfl⟩, dbl, if_pos rfl, ← h2]; rfl
      · rw [ql_q1 d r hd] at h
        obtain rfl : 1 = K := (by simpa using h)
        exact ⟨ql_q1 32 z (by decide), rfl⟩
    · rw [ql_ne hc] at h
      cases hq : ql (d :: r) with
      | none => rw [hq] at h; cases h
      | some k =>
        rw [hq] at h
        obtain rfl : k + 1 = K := (by simpa using h)
        have hN' : (d :: r).length ≤ N := by simp at hN ⊢; omega
        obtain ⟨h1, h2⟩ := ql_again z N (d :: r) k hN' hq
        obtain ⟨hk, _⟩ := ql_le (d :: r).length (d :: r) k (Nat.le_refl _) hq
        constructor
        · rw [List.take_succ_cons, List.cons_append, ql_ne hc, h1]; rfl
        · obtain ⟨m, rfl⟩ : ∃ m, k = m + 1 := ⟨k - 1, by omega⟩
          rw [show m + 1 + 1 - 1 = m + 1 from rfl, List.take_succ_cons (i := m), List.take_succ_cons (i := m + 1)]
          rw [show m + 1 - 1 = m from rfl] at h2
          rw [unq_cons (fun e => hc e.1), dbl_ne hc, ← h2]; rfl
structure Gd (x : Tk) : Prop where
  k1 : 1 ≤ x.k
  k5 : x.k ≤ 5
  hd : ∃ c q, tkText x = c :: q ∧ blk c = false
  again : ∀ r, fstG (tkText x ++ 32 :: r) = .tok x.k x.t x.n (tkText x).length
theorem wl_hd (c : UInt8) (q : List UInt8) : wl (c :: q) = 0 ↔ isL c.toNat = false := by
  cases h : isL c.toNat <;> simp [wl, h]
theorem nl_hd (c : UInt8) (q : List UInt8) : nl (c :: q) = 0 ↔ dig c = false := by
  cases h : dig c <;> simp [nl, h]
theorem sign_again : ∀ x ∈ signs, (∀ r, fstG (x ++ 32 :: r) = .tok 5 x 0 x.length) ∧ ∃ c q, x = c :: q ∧ blk c = false := by
  intro x hx
  simp only [signs, List.mem_cons, List.not_mem_nil, or_false] at hx
  rcases hx with rfl | rfl | rfl | rfl | rfl | rfl | rfl | rfl | rfl | rfl | rfl | rfl <;> exact ⟨fun r => rfl, _, _, rfl, by decide⟩
theorem blk_not_L {c : UInt8} (h : isL c.toNat = true) : blk c = false := by
  unfold isL at h; unfold blk
  simp only [Bool.or_eq_true, Bool.and_eq_true, decide_eq_true_eq] at h
  simp only [Bool.or_eq_false_iff, beq_eq_false_iff_ne]
  omega
theorem blk_not_D {c : UInt8} (h : dig c = true) : blk c = false := by
  unfold dig isD at h; unfold blk
  simp only [Bool.and_eq_true, decide_eq_true_eq] at h
  simp only [Bool.or_eq_false_iff, beq_eq_false_iff_ne]
  omega
/-- a token, read again -/
theorem first_again (l : List UInt8) (k : Nat) (t : List UInt8) (n len a : Nat) (hl : l ≠ []) (h : fstG l = .tok k t n len) : tkText ⟨k, t, n, a⟩ = l.take len ∧ Gd ⟨k, t, n, a⟩ := by
  have hb := fst_bounds l hl
  rw [h] at hb
  obtain ⟨b1, b2, b3, b4, b5⟩ := hb
  obtain ⟨c, q, rfl⟩ : ∃ c q, l = c :: q := by cases l with | nil => exact absurd rfl hl | cons c q => exact ⟨c, q, rfl⟩
  unfold fstG at h
  by_cases hw : wl (c :: q) ≠ 0
  · rw [if_pos hw] at h
    injection h with e1 e2 e3 e4
    subst e1 e2 e3
    have hc : isL c.toNat = true := by
      cases hx : isL c.toNat with
      | true => rfl
      | false => exact absurd ((wl_hd c q).2 hx) hw
    have e5 : wl (c :: q) = (q.takeWhile alu).length + 1 := by simp [wl, hc]
    have ht : (c :: q).take (wl (c :: q)) = c :: q.takeWhile alu := by rw [e5, List.take_succ_cons, tw_take_eq]
    rw [← e4, ht]
    refine ⟨rfl, by show 1 ≤ 1; omega, by show 1 ≤ 5; omega, ⟨c, _, rfl, blk_not_L hc⟩, fun r => ?_⟩
    show fstG (c :: (q.takeWhile alu ++ 32 :: r)) = .tok 1 (c :: q.takeWhile alu) 0 (c :: q.takeWhile alu).length
    have h1 : wl (c :: (q.takeWhile alu ++ 32 :: r)) = (q.takeWhile alu).length + 1 := by
      simp only [wl, hc, if_true]
      rw [all_stop alu 32 r (by decide) _ (fun x hx => tw_mem alu q x hx)]
    unfold fstG
    rw [if_pos (by rw [h1]; omega), h1, List.take_succ_cons, List.take_left]; rfl
  · rw [if_neg hw] at h
    have hcL : isL c.toNat = false := (wl_hd c q).1 (by omega)
    by_cases hnn : nl (c :: q) ≠ 0
    · rw [if_pos hnn] at h
      have hc : dig c = true := by
        cases hx : dig c with
        | true => rfl
        | false => exact absurd ((nl_hd c q).2 hx) hnn
      have ht : (c :: q).take (nl (c :: q)) = c :: q.takeWhile dig := by
        unfold nl; rw [tw_take_eq, List.takeWhile_cons_of_pos hc]
      rw [ht] at h
      have hall : ∀ x ∈ c :: q.takeWhile dig, dig x = true := fun x hx => by
        rcases List.mem_cons.1 hx with rfl | hx
        · exact hc
        · exact tw_mem dig q x hx
      have key : ∀ r, fstG ((c :: q.takeWhile dig) ++ 32 :: r) = rdNum (c :: q.takeWhile dig) := fun r => by
        unfold fstG
        have h1 : nl ((c :: q.takeWhile dig) ++ 32 :: r) = (c :: q.takeWhile dig).length := by
          unfold nl; rw [all_stop dig 32 r (by decide) _ hall]
        rw [if_neg (by rw [List.cons_append, (wl_hd _ _).2 hcL]; simp), if_pos (by rw [h1]; simp), h1, List.take_left]
      have hr : rdNum (c :: q.takeWhile dig) = .tok 2 (c :: q.takeWhile dig) n len ∧ k = 2 ∧ t = c :: q.takeWhile dig ∧ len = (c :: q.takeWhile dig).length := by
        rw [h]
        unfold rdNum at h
        split at h
        · cases h
        · split at h
          · injection h with e1 e2 e3 e4; exact ⟨by rw [e1, e2], e1.symm, e2.symm, e4.symm⟩
          · cases h
      obtain ⟨hr, rfl, rfl, rfl⟩ := hr
      refine ⟨?_, by show 1 ≤ 2; omega, by show 2 ≤ 5; omega, ⟨c, _, rfl, blk_not_D hc⟩, fun r => ?_⟩
      · rw [← ht]
        unfold nl; rw [tw_take_eq, tw_take_eq]; rfl
      · exact (key r).trans hr
    · rw [if_neg hnn] at h
      have hcD : dig c = false := (nl_hd c q).1 (by omega)
      by_cases htt : tl (c :: q) ≠ 0
      · rw [if_pos htt] at h
        have hc : c = 39 := by
          by_cases hx : c = 39
          · exact hx
          · exact absurd (by simp [tl, hx]) htt
        subst hc
        have hq0 := ql_count q.length q (Nat.le_refl _)
        cases hq : ql q with
        | none =>
          rw [hq] at hq0
          have e1 : tl (39 :: q) = q.length + 1 := by simp [tl, hq]
          have e2 : ((39 : UInt8) :: q).take (tl (39 :: q)) = 39 :: q := by rw [e1, List.take_succ_cons, List.take_length]
          have hct : ((39 : UInt8) :: q).count 39 = q.count 39 + 1 := by rw [List.count_cons]; simp
          rw [e2] at h
          unfold rdText at h
          split at h
          · cases h
          · rw [if_pos (by rw [hct]; have hq0 : q.count 39 % 2 = 0 := hq0; omega)] at h; cases h
        | some K =>
          have e1 : tl (39 :: q) = K + 1 := by simp [tl, hq]
          obtain ⟨hk1, hk2⟩ := ql_le q.length q K (Nat.le_refl _) hq
          have e2 : ((39 : UInt8) :: q).take (tl (39 :: q)) = 39 :: q.take K := by rw [e1, List.take_succ_cons]
          have e3 : ((39 : UInt8) :: q.take K).length = K + 1 := by rw [List.length_cons, List.length_take]; omega
          rw [e2] at h
          have hr : rdText (39 :: q.take K) = .tok 3 (unq (q.take (K - 1))) 0 (K + 1) ∧ k = 3 ∧ t = unq (q.take (K - 1)) ∧ n = 0 ∧ len = K + 1 := by
            rw [h]
            unfold rdText at h
            split at h
            · cases h
            · split at h
              · cases h
              · injection h with f1 f2 f3 f4
                rw [e3] at f4 f2
                rw [show ((39 : UInt8) :: q.take K).drop 1 = q.take K from rfl, List.take_take, show min (K + 1 - 2) K = K - 1 by omega] at f2
                exact ⟨by rw [f1, f2, f3, f4], f1.symm, f2.symm, f3.symm, f4.symm⟩
          obtain ⟨hr, rfl, rfl, rfl, rfl⟩ := hr
          have hx : tkText ⟨3, unq (q.take (K - 1)), 0, a⟩ = 39 :: q.take K := by
            show 39 :: (dbl (unq (q.take (K - 1))) ++ [39]) = _
            rw [(ql_again [] q.length q K (Nat.le_refl _) hq).2]
          refine ⟨by rw [hx, List.take_succ_cons], by show 1 ≤ 3; omega, by show 3 ≤ 5; omega, ⟨39, _, hx, by decide⟩, fun r => ?_⟩
          rw [hx]
          have hq2 := (ql_again r q.length q K (Nat.le_refl _) hq).1
          have f1 : tl (39 :: (q.take K ++ 32 :: r)) = K + 1 := by simp [tl, hq2]
          show fstG (39 :: (q.take K ++ 32 :: r)) = .tok 3 (unq (q.take (K - 1))) 0 _
          unfold fstG
          rw [if_neg (by rw [(wl_hd _ _).2 (by decide)]; simp), if_neg (by rw [(nl_hd _ _).2 (by decide)]; simp), if_pos (by rw [f1]; omega), f1, List.take_succ_cons]
          rw [show (q.take K ++ 32 :: r).take K = q.take K from by
            have : (q.take K).length = K := by rw [List.length_take]; omega
            conv => lhs; rw [← this]
            rw [this, List.take_append_of_le_length (by omega), List.take_take, Nat.min_self]]
          rw [hr, e3]
      · rw [if_neg htt] at h
        have hcQ : ¬ c = 39 := by
          rintro rfl
          apply htt
          show (if (39 : UInt8) = 39 then (match ql q with | some k => k + 1 | none => q.length + 1) else 0) ≠ 0
          rw [if_pos rfl]; cases ql q <;> exact Nat.succ_ne_zero _
        by_cases hpp : pl (c :: q) ≠ 0
        · rw [if_pos hpp] at h
          match q, hpp, h with
          | [], hpp, h => exact absurd rfl hpp
          | d :: q, hpp, h =>
            have hcd : c = 37 ∧ dig d = true := by
              by_cases hx : c = 37 ∧ dig d = true
              · exact hx
              · exact absurd (by simp only [pl]; rw [if_neg hx]) hpp
            obtain ⟨rfl, hd⟩ := hcd
            have e1 : pl (37 :: d :: q) = 2 := by simp [pl, hd]
            rw [e1] at h
            injection h with f1 f2 f3 f4
            subst f1 f2 f3 f4
            refine ⟨rfl, by show 1 ≤ 4; omega, by show 4 ≤ 5; omega, ⟨37, _, rfl, by decide⟩, fun r => ?_⟩
            show fstG (37 :: d :: 32 :: r) = .tok 4 [37, d] ((([37, d] : List UInt8).getD 1 0).toNat - 48) 2
            unfold fstG
            have f1 : pl (37 :: d :: 32 :: r) = 2 := by simp [pl, hd]
            rw [if_neg (by rw [(wl_hd _ _).2 (by decide)]; simp), if_neg (by rw [(nl_hd _ _).2 (by decide)]; simp), if_neg (by simp [tl]), if_pos (by rw [f1]; omega), f1]
            rfl
        · rw [if_neg hpp] at h
          by_cases hss : sl (c :: q) ≠ 0
          · rw [if_pos hss] at h
            cases hf : signs.find? (fun x => x.isPrefixOf (c :: q)) with
            | none => exact absurd (by simp only [sl]; rw [hf]) hss
            | some x =>
              have hx := List.mem_of_find?_eq_some hf
              have hp := List.find?_some hf
              obtain ⟨z, hz⟩ := List.isPrefixOf_iff_prefix.1 hp
              have e1 : sl (c :: q) = x.length := by simp only [sl]; rw [hf]
              rw [e1, ← hz, List.take_left] at h
              injection h with f1 f2 f3 f4
              subst f1 f2 f3 f4
              obtain ⟨g1, g2⟩ := sign_again _ hx
              exact ⟨by rw [← hz, List.take_left]; rfl, by show 1 ≤ 5; omega, by show 5 ≤ 5; omega, g2, g1⟩
          · rw [if_neg hss] at h; cases h
end Go.Proofs.YtcojomkpogikiaaGreatDoor
/- Joined tokens are split into the same tokens: the whole text. Plain Lean, but for what TkV is. -/
namespace Go.Proofs.YtcojomkpogikiaaGreatDoor
open Go
set_option linter.unusedVariables false
theorem TA_good : ∀ (f : Nat) (l : List UInt8) (a : Nat) (out r : List Tk), TA f l a out = .good r → ∃ xs : List Tk, r = out ++ (xs ++ [⟨6, [], 0, a + l.length⟩]) ∧ (∀ x ∈ xs, Gd x ∧ a ≤ x.a ∧ x.a < a + l.length ∧ x.t.length ≤ l.length) ∧ List.Pairwise (fun x y : Tk => x.a < y.a) (xs ++ [⟨6, [], 0, a + l.length⟩]) ∧ (out.length ≤ 64 → out.length + xs.length ≤ 64)
  | 0, l, a, out, r, h => by cases h
  | f + 1, [], a, out, r, h => by
    have h : out ++ [⟨6, [], 0, a⟩] = r := by injection h
    exact ⟨[], h.symm, fun x hx => by simp at hx, by simp, fun h => h⟩
  | f + 1, c :: q, a, out, r, h => by
    rw [TA_step] at h
    by_cases hc : blk c = true
    · rw [if_pos hc] at h
      obtain ⟨xs, h1, h2, h3, h4⟩ := TA_good f q (a + 1) out r h
      have e1 : a + 1 + q.length = a + (c :: q).length := by rw [List.length_cons]; omega
      rw [e1] at h1 h2 h3
      refine ⟨xs, h1, fun x hx => ?_, h3, h4⟩
      obtain ⟨g1, g2, g3, g4⟩ := h2 x hx
      exact ⟨g1, by omega, g3, by rw [List.length_cons]; omega⟩
    · rw [if_neg hc] at h
      have hb := fst_bounds (c :: q) (by simp)
      cases hg : fstG (c :: q) with
      | err e1 b1 => rw [hg] at h; cases h
      | tok k t n len =>
        rw [hg] at h hb
        obtain ⟨b1, b2, b3, b4, b5⟩ := hb
        have h : (if out.length = 64 then Ans.bad 3 a else TA f ((c :: q).drop len) (a + len) (out ++ [⟨k, t, n, a⟩])) = .good r := h
        by_cases h64 : out.length = 64
        · rw [if_pos h64] at h; cases h
        · rw [if_neg h64] at h
          obtain ⟨xs, h1, h2, h3, h4⟩ := TA_good f _ _ _ r h
          have hd : ((c :: q).drop len).length = (c :: q).length - len := List.length_drop ..
          have e1 : a + len + ((c :: q).drop len).length = a + (c :: q).length := by omega
          rw [e1] at h1 h2 h3
          refine ⟨⟨k, t, n, a⟩ :: xs, by rw [h1, List.append_assoc]; rfl, fun x hx => ?_, ?_, fun ho => ?_⟩
          · rcases List.mem_cons.1 hx with rfl | hx
            · exact ⟨(first_again (c :: q) k t n len a (by simp) hg).2, Nat.le_refl _, by show a < _; omega, by show t.length ≤ _; omega⟩
            · obtain ⟨g1, g2, g3, g4⟩ := h2 x hx
              exact ⟨g1, by omega, g3, by omega⟩
          · rw [List.cons_append]
            refine List.pairwise_cons.2 ⟨fun x hx => ?_, h3⟩
            show a < x.a
            rcases List.mem_append.1 hx with hx | hx
            · have := (h2 x hx).2.1; omega
            · obtain rfl := List.mem_singleton.1 hx
              show a < a + (c :: q).length
              omega
          · have := h4 (by rw [List.length_append]; show out.length + 1 ≤ 64; omega)
            rw [List.length_append] at this
            rw [List.length_cons]
            have e2 : [(⟨k, t, n, a⟩ : Tk)].length = 1 := rfl
            omega
theorem joinL_cons (x : Tk) : ∀ r : List Tk, r ≠ [] → joinL (x :: r) = tkText x ++ 32 :: joinL r
  | [], h => absurd rfl h
  | y :: r, _ => rfl
def ktn (x : Tk) : Nat × List UInt8 × Nat := (x.k, x.t, x.n)
theorem TA_join (z : Nat) : ∀ (xs : List Tk) (f a : Nat) (out : List Tk), (∀ x ∈ xs, Gd x) → (joinL (xs ++ [(⟨6, [], 0, z⟩ : Tk)])).length < f → out.length + xs.length ≤ 64 → ∃ ys, TA f (joinL (xs ++ [⟨6, [], 0, z⟩])) a out = .good (out ++ ys) ∧ ys.map ktn = (xs ++ [(⟨6, [], 0, z⟩ : Tk)]).map ktn
  | [], f, a, out, hx, hf, ho => by
    obtain ⟨g, rfl⟩ : ∃ g, f = g + 1 := ⟨f - 1, by omega⟩
    exact ⟨[⟨6, [], 0, a⟩], rfl, rfl⟩
  | x :: xs, f, a, out, hx, hf, ho => by
    have hg := hx x (by simp)
    obtain ⟨c, q, hcq, hbl⟩ := hg.hd
    rw [List.cons_append, joinL_cons x _ (by simp)] at hf ⊢
    obtain ⟨R, hR⟩ : ∃ R, joinL (xs ++ [⟨6, [], 0, z⟩]) = R := ⟨_, rfl⟩
    have ih := TA_join z xs
    rw [hR] at ih hf ⊢
    rw [List.length_append, List.length_cons, hcq, List.length_cons] at hf
    obtain ⟨g, rfl⟩ : ∃ g, f = g + 2 := ⟨f - 2, by omega⟩
    rw [List.length_cons] at ho
    obtain ⟨ys, h1, h2⟩ := ih g (a + (tkText x).length + 1) (out ++ [⟨x.k, x.t, x.n, a⟩]) (fun y hy => hx y (by simp [hy])) (by omega) (by rw [List.length_append]; show out.length + 1 + _ ≤ 64; omega)
    refine ⟨⟨x.k, x.t, x.n, a⟩ :: ys, ?_, by rw [List.map_cons, h2]; rfl⟩
    have ha := hg.again R
    have e1 : TA (g + 2) (tkText x ++ 32 :: R) a out = TA (g + 1) ((tkText x ++ 32 :: R).drop (tkText x).length) (a + (tkText x).length) (out ++ [⟨x.k, x.t, x.n, a⟩]) := by
      have e2 : TA (g + 2) (c :: (q ++ 32 :: R)) a out = match fstG (c :: (q ++ 32 :: R)) with
        | .err e b => .bad e (a + b)
        | .tok k t n len => if out.length = 64 then .bad 3 a else TA (g + 1) ((c :: (q ++ 32 :: R)).drop len) (a + len) (out ++ [⟨k, t, n, a⟩]) := by
        rw [TA_step, if_neg (by rw [hbl]; decide)]
        cases fstG (c :: (q ++ 32 :: R)) <;> rfl
      have e3 : tkText x ++ 32 :: R = c :: (q ++ 32 :: R) := by rw [hcq]; rfl
      rw [← e3, ha] at e2
      rw [e2]
      exact if_neg (by omega)
    rw [e1, List.drop_left, TA_step, if_pos (by decide), h1, List.append_assoc]; rfl
/-- what the tokens of a text are -/
structure Told (L : Nat → TkV) (n len : Nat) : Prop where
  n1 : 1 ≤ n
  n65 : n ≤ 65
  a0 : ∀ i, i < n → 0 ≤ (L i).a
  ale : ∀ i, i < n → (L i).a ≤ (len : Int)
  inc : ∀ i, i + 1 < n → (L i).a < (L (i + 1)).a
  last : (L (n - 1)).k = 6
  mid : ∀ i, i + 1 < n → (L i).k ≠ 6
  sz : ∀ i, i < n → (L i).t.size ≤ 256
theorem told (l : List UInt8) (r : List Tk) (h : tokA l = .good r) : Told (atV r) r.length l.length ∧ (256 < (joinL r).length ∨ ∃ ys, tokA (joinL r) = .good ys ∧ ys.map ktn = r.map ktn) := by
  have h65 := tokA_len l
  rw [h] at h65
  have h65 : r.length ≤ 65 := h65
  unfold tokA at h
  by_cases h256 : 256 < l.length
  · rw [if_pos h256] at h; cases h
  · rw [if_neg h256] at h
    obtain ⟨xs, h1, h2, h3, h4⟩ := TA_good _ _ _ _ _ h
    rw [List.nil_append] at h1
    rw [Nat.zero_add] at h1 h2 h3
    subst h1
    obtain ⟨e, he⟩ : ∃ e : Tk, e = ⟨6, [], 0, l.length⟩ := ⟨_, rfl⟩
    rw [← he] at h3 h65 ⊢
    have hn : (xs ++ [e]).length = xs.length + 1 := by simp
    have gx : ∀ i (hi : i < xs.length), (xs ++ [e]).getD i default = xs[i] := fun i hi => by
      simp [List.getD_eq_getElem?_getD, List.getElem?_append_left hi, List.getElem?_eq_getElem hi]
    have ge : (xs ++ [e]).getD xs.length default = e := by
      simp [List.getD_eq_getElem?_getD]
    have hmem : ∀ i (hi : i < xs.length), xs[i] ∈ xs := fun i hi => List.getElem_mem hi
    refine ⟨⟨by omega, h65, fun i hi => ?_, fun i hi => ?_, fun i hi => ?_, ?_, fun i hi => ?_, fun i hi => ?_⟩, ?_⟩
    · show (0 : Int) ≤ (((xs ++ [e]).getD i default).a : Nat); omega
    · show ((((xs ++ [e]).getD i default).a : Nat) : Int) ≤ _
      by_cases hx : i < xs.length
      · rw [gx i hx]; have := (h2 _ (hmem i hx)).2.2.1; omega
      · obtain rfl : i = xs.length := (by omega)
        rw [ge, he]; exact Int.le_refl _
    · show ((((xs ++ [e]).getD i default).a : Nat) : Int) < (((xs ++ [e]).getD (i + 1) default).a : Nat)
      have := List.pairwise_iff_getElem.1 h3 i (i + 1) (by omega) (by omega) (by omega)
      rw [List.getD_eq_getElem?_getD, List.getD_eq_getElem?_getD, List.getElem?_eq_getElem (by omega), List.getElem?_eq_getElem (by omega)]
      simp only [Option.getD_some]
      omega
    · show ((((xs ++ [e]).getD ((xs ++ [e]).length - 1) default).k : Nat) : Int) = 6
      rw [hn, Nat.add_sub_cancel, ge, he]; rfl
    · show ((((xs ++ [e]).getD i default).k : Nat) : Int) ≠ 6
      have hx : i < xs.length := (by omega)
      rw [gx i hx]
      have := (h2 _ (hmem i hx)).1.k5
      omega
    · show (bs ((xs ++ [e]).getD i default).t).size ≤ 256
      rw [bs_size]
      by_cases hx : i < xs.length
      · rw [gx i hx]; have := (h2 _ (hmem i hx)).2.2.2; omega
      · obtain rfl : i = xs.length := (by omega)
        rw [ge, he]; exact Nat.zero_le _
    · by_cases hj : 256 < (joinL (xs ++ [e])).length
      · exact .inl hj
      · refine .inr ?_
        rw [he] at hj ⊢
        obtain ⟨ys, g1, g2⟩ := TA_join l.length xs _ 0 [] (fun x hx => (h2 x hx).1) (Nat.lt_succ_self _) (by have := h4 (by simp); simpa using this)
        exact ⟨ys, by unfold tokA; rw [if_neg hj]; exact g1, g2⟩
end Go.Proofs.YtcojomkpogikiaaGreatDoor
/- Chapter 18 in plain Lean: the literal of a parameter; the document's answer, by a test that has it as its second operand. No run of the program. -/
namespace Go.Proofs.YtcojomkpogikiaaGreatDoor
open Go Go.RowKit
set_option linter.unusedVariables false
def ofText (t : List UInt8) : Opd := ⟨3, ⟨t.toArray⟩, false, 0⟩
/-- the literal of tokens -/
def litT : List Tk → Option Opd
  | [t, _] => if t.k = 3 then some (ofText t.t) else if t.k = 2 then some ⟨2, ⟨#[]⟩, false, (t.n : Nat)⟩
    else if t.k = 1 ∧ t.t = kTRUE then some ⟨4, ⟨#[]⟩, false, 1⟩ else if t.k = 1 ∧ t.t = kFALSE then some ⟨4, ⟨#[]⟩, false, 0⟩ else none
  | [s, t, _] => if s.k = 5 ∧ s.t = [45] ∧ t.k = 2 then some ⟨2, ⟨#[]⟩, true, (t.n : Nat)⟩ else none
  | _ => none
/-- the literal of a text -/
def litA (s : List UInt8) : Option Opd := match tokA s with
  | .bad _ _ => none
  | .good L => litT L
end Go.Proofs.YtcojomkpogikiaaGreatDoor
/- The reference's longest beginning is the code's first token. -/
namespace Go.Proofs.YtcojomkpogikiaaGreatDoor
open Go
set_option linter.unusedVariables false
theorem q1 : ∀ (N : Nat) (r out : List UInt8) (m : Nat), r.length ≤ N → m ≤ r.length → (qr (r.take m) out).isSome = true → ql r = some m ∨ (m < r.length ∧ r.getD m 0 = 39 ∧ ∀ k, ql r = some k → m < k)
  | N, [], out, m, hN, hm, h => by simp [qr] at h
  | N, [c], out, 0, hN, hm, h => by simp [qr] at h
  | N, [c], out, m + 1, hN, hm, h => by
    have : m = 0 := by simp at hm; omega
    subst this
    by_cases hc : c = 39
    · left; simp [ql, hc]
    · simp [qr, hc] at h
  | N, c :: d :: r, out, 0, hN, hm, h => by simp [qr] at h
  | N, c :: d :: r, out, 1, hN, hm, h => by
    by_cases hc : c = 39
    · by_cases hd : d = 39
      · right
        refine ⟨by simp, hd, fun k hk => ?_⟩
        rw [ql, if_pos hc, if_pos hd] at hk
        cases hr : ql r with
        | none => rw [hr] at hk; simp at hk
        | some a => rw [hr] at hk; have : a + 2 = k := Option.some.inj hk; omega
      · left; rw [ql, if_pos hc, if_neg hd]
    · simp [qr, hc] at h
  | 0, c :: d :: r, out, m + 2, hN, hm, h => by simp at hN
  | N + 1, c :: d :: r, out, m + 2, hN, hm, h => by
    have ht : (c :: d :: r).take (m + 2) = c :: d :: r.take m := rfl
    rw [ht, qr] at h
    by_cases hc : c = 39
    · rw [if_pos hc] at h
      by_cases hd : d = 39
      · rw [if_pos hd] at h
        have ih := q1 N r _ m (by simp at hN; omega) (by simp at hm; omega) h
        rw [ql, if_pos hc, if_pos hd]
        rcases ih with ih | ⟨i1, i2, i3⟩
        · left; rw [ih]; rfl
        · right
          refine ⟨by simp; omega, i2, fun k hk => ?_⟩
          cases hr : ql r with
          | none => rw [hr] at hk; simp at hk
          | some a => rw [hr] at hk; have h5 : a + 2 = k := Option.some.inj hk; have := i3 a hr; omega
      · rw [if_neg hd] at h; simp at h
    · rw [if_neg hc] at h
      have ih := q1 N (d :: r) (out ++ [c]) (m + 1) (by simp at hN ⊢; omega) (by simp at hm ⊢; omega) h
      rw [ql, if_neg hc]
      rcases ih with ih | ⟨i1, i2, i3⟩
      · left; rw [ih]; rfl
      · right
        refine ⟨by simp at i1 ⊢; omega, i2, fun k hk => ?_⟩
        cases hr : ql (d :: r) with
        | none => rw [hr] at hk; simp at hk
        | some a => rw [hr] at hk; have h5 : a + 1 = k := Option.some.inj hk; have := i3 a hr; omega
theorem q2 : ∀ (N : Nat) (r out : List UInt8) (k : Nat), r.length ≤ N → ql r = some k → qr (r.take k) out = some (out ++ unq (r.take (k - 1))) ∧ (k = r.length ∨ r.getD k 0 ≠ 39)
  | N, [], out, k, hN, h => by simp [ql] at h
  | N, [c], out, k, hN, h => by
    by_cases hc : c = 39
    · rw [ql, if_pos hc] at h
      have : 1 = k := Option.some.inj h
      subst this
      refine ⟨?_, .inl rfl⟩
      show qr [c] out = _
      rw [qr, if_pos hc]
      simp [unq]
    · simp [ql, hc] at h
  | 0, c :: d :: r, out, k, hN, h => by simp at hN
  | N + 1, c :: d :: r, out, k, hN, h => by
    rw [ql] at h
    by_cases hc : c = 39
    · rw [if_pos hc] at h
      by_cases hd : d = 39
      · rw [if_pos hd] at h
        cases hr : ql r with
        | none => rw [hr] at h; simp at h
        | some a =>
          rw [hr] at h
          have h5 : a + 2 = k := Option.some.inj h
          subst h5
          obtain ⟨h6, h7⟩ := q2 N r (out ++ [39]) a (by simp at hN; omega) hr
          have ha := ql_le r.length r a (Nat.le_refl _) hr
          obtain ⟨b, rfl⟩ : ∃ b, a = b + 1 := ⟨a - 1, by omega⟩
          refine ⟨?_, by rcases h7 with h7 | h7; exact .inl (by simp; omega); exact .inr h7⟩
          show qr (c :: d :: r.take (b + 1)) out = some (out ++ unq (c :: d :: r.take b))
          rw [qr, if_pos hc, if_pos hd, h6, unq, if_pos ⟨hc, hd⟩]
          simp
      · rw [if_neg hd] at h
        have : 1 = k := Option.some.inj h
        subst this
        refine ⟨?_, .inr hd⟩
        show qr [c] out = _
        rw [qr, if_pos hc]
        simp [unq]
    · rw [if_neg hc] at h
      cases hr : ql (d :: r) with
      | none => rw [hr] at h; simp at h
      | some a =>
        rw [hr] at h
        have h5 : a + 1 = k := Option.some.inj h
        subst h5
        obtain ⟨h6, h7⟩ := q2 N (d :: r) (out ++ [c]) a (by simp at hN ⊢; omega) hr
        have ha := ql_le (d :: r).length (d :: r) a (Nat.le_refl _) hr
        obtain ⟨b, rfl⟩ : ∃ b, a = b + 1 := ⟨a - 1, by omega⟩
        refine ⟨?_, by rcases h7 with h7 | h7; exact .inl (by simp at h7 ⊢; omega); exact .inr h7⟩
        show qr (c :: d :: r.take b) out = some (out ++ unq (c :: (d :: r).take b))
        rw [qr, if_neg hc, unq_cons (fun e => hc e.1)]
        have h8 : qr (d :: r.take b) (out ++ [c]) = some (out ++ [c] ++ unq ((d :: r).take b)) := h6
        rw [h8]; simp
end Go.Proofs.YtcojomkpogikiaaGreatDoor
