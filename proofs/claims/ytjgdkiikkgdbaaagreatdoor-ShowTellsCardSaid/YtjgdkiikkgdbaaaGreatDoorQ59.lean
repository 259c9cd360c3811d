/- The reference's Tokens, in terms of the first token of a text. -/
import Derived.Test.YtjgdkiikkgdbaaaGreatDoorQ58
namespace Go.Proofs.YtjgdkiikkgdbaaaGreatDoor
open Go.RowKit
set_option linter.unusedVariables false
theorem end7 {w V : World} {Q : Ending → World → Prop} {act : Act} (v : Value) (e a : Int) (hd : act.defers = []) (h2 : act.tmps.getD 2 undef = v) (h3 : act.tmps.getD 3 undef = .pointer (some ⟨w.heap.size, 0, none⟩)) (hr : V.heap[w.heap.size]? = some (fltO e a))
    (hQ : Q (.returned (.tuple #[v, .agg #[.int .i64 e, .int .i64 a]])) V) : bodyPost Tryz.prog Tryz.f35 Q Exit.ret act V := by
  refine bodyPost_ret (v := .tuple #[v, .agg #[.int .i64 e, .int .i64 a]]) ?_ hd hQ
  have hl2 := run_loadVar_row (P := Tryz.prog) V w.heap.size _ 38 _ _ _ hr Tryz.underlying38 rfl (by kernel_rfl)
  rw [Array.getD_eq_getD_getElem?] at h2 h3
  simp [results, Tryz.results35, asAddr, hl2, h2, h3]
set_option maxRecDepth 100000 in
theorem rtokens_long (s : ByteArray) (h : 256 < s.size) (hs : s.size ≤ 281474976710656) (w : World) : Calls Tryz.prog 35 #[.string s] w (AnsTo w (.bad 3 0)) := by
  have h1 : (256 : Int) < (s.size : Int) := by omega
  have hml : s.size ≤ maxLen := by show s.size ≤ 9223372036854775807; omega
  go_enter Tryz.func35, Tryz.ntmps35
  go_wp2_with (fail)
  go_returns
  exact ⟨rfl, by go_grown⟩
theorem blk_or {x : UInt8} (h : blk x = true) : (x.toNat : Int) = 32 ∨ (x.toNat : Int) = 9 ∨ (x.toNat : Int) = 10 ∨ (x.toNat : Int) = 13 := by
  simp [blk] at h; omega
theorem blk_not {x : UInt8} (h : blk x = false) : ((x.toNat : Int) == 32) = false ∧ ((x.toNat : Int) == 9) = false ∧ ((x.toNat : Int) == 10) = false ∧ ((x.toNat : Int) == 13) = false := by
  simp only [blk, Bool.or_eq_false_iff, beq_eq_false_iff_ne] at h
  refine ⟨beq_eq_false_iff_ne.2 ?_, beq_eq_false_iff_ne.2 ?_, beq_eq_false_iff_ne.2 ?_, beq_eq_false_iff_ne.2 ?_⟩ <;> omega
set_option maxRecDepth 100000 in
set_option maxHeartbeats 8000000 in
theorem rtokens_any (h1 : ∀ t : List UInt8, t ≠ [] → LgOk t ∧ oneG t = fstG t) (l : List UInt8) (hl : l.length ≤ 256) (w : World) : Calls Tryz.prog 35 #[.string (bs l)] w (AnsTo w (tokA l)) := by
  obtain ⟨i0, hi, hz0, hz1, hz2⟩ := info_parts infoTok
  have HON := Lib.hid (fun (j : Nat) (hj : j < l.length) (wx : World) => by
    have hne : l.drop j ≠ [] := by intro h; rw [List.drop_eq_nil_iff] at h; omega
    have h2 := one_any l j hj (by omega) (h1 _ hne).1 wx
    rw [(h1 _ hne).2] at h2
    exact h2)
  have HON : Hid (∀ (j : Nat) (hj : j < l.length) (wx : World), Calls Tryz.prog 55 #[.string (bs l), .int .i64 (j : Nat)] wx (OneTo wx j (fstG (l.drop j)))) := HON
  have HFB := Lib.hid (fst_bounds)
  have HS0 := Lib.hid (TSt.start w)
  have hsz : (bs l).size = l.length := bs_size l
  have hGG : ∀ i (h : i < (bs l).size) (h' : i < l.length), (bs l)[i]'h = l[i]'h' := bs_get l
  have hA : tokA l = TA (l.length + 1) l 0 [] := if_neg (by omega)
  rw [hA]
  obtain ⟨s, hs⟩ : ∃ s, bs l = s := ⟨_, rfl⟩
  rw [hs] at HON hsz hGG ⊢
  have HG := Lib.hid hGG
  have hml : s.size ≤ maxLen := by show s.size ≤ 9223372036854775807; omega
  have h256 : ¬ (256 : Int) < (l.length : Int) := by omega
  obtain ⟨AA, hAA⟩ : ∃ AA, TA (l.length + 1) l 0 [] = AA := ⟨_, rfl⟩
  rw [hAA]
  have HAA := Lib.hid hAA
  clear hA hs hAA h1 hGG
  go_enter Tryz.func35, Tryz.ntmps35
  go_wp2_with (fail)
  go_loopw [4, 5] (fun v a wr => ∃ (out : List Tk) (j f : Nat) (ao : Option Addr) (cap : Nat), j ≤ l.length ∧ out.length ≤ 64 ∧ v = .slice ao out.length cap ∧ a = .int .i64 j ∧ l.length - j < f ∧ Hid (TA f (l.drop j) j out = AA) ∧ Hid (TSt w (.slice ao out.length cap) out wr)) (fun _ a _ => l.length - (intOf a).toNat)
  case atStart => exact ⟨[], 0, l.length + 1, none, 0, Nat.zero_le _, by simp, rfl, rfl, by omega, HAA, HS0⟩
  case round =>
    obtain ⟨out, j, f, ao, cap, hj, hout, rfl, rfl, hf, HTA, HS⟩ := hrel
    by_cases hlt : j < l.length
    · have hlt2 : j < s.size := by omega
      have hg := HG.out j hlt2 hlt
      have hcr := drop_at l j hlt
      obtain ⟨g, rfl⟩ : ∃ g, f = g + 1 := ⟨f - 1, by omega⟩
      have hta := HTA.out
      have hon := HON.out j hlt
      obtain ⟨x, hx⟩ : ∃ x, l[j] = x := ⟨_, rfl⟩
      rw [hx] at hg hcr
      rw [hcr, TA_step] at hta
      rw [hcr] at hon
      have hc256 : x.toNat < 256 := UInt8.toNat_lt x
      cases hb : blk x with
      | true =>
        rw [hb, if_pos rfl] at hta
        have HE := Lib.hid hta
        have hor := blk_or hb
        clear hta hon hcr hx hb HON HFB
        rcases hor with e1 | e1 | e1 | e1
        all_goals
          go_wp2_with (fail)
          go_roundw
          case rel => exact ⟨out, j + 1, g, ao, cap, by omega, hout, rfl, by go_num, by omega, HE, HS⟩
          case measure => simp [intOf]; omega
      | false =>
        rw [hb, if_neg (by decide)] at hta
        obtain ⟨n1, n2, n3, n4⟩ := blk_not hb
        have hfb := HFB.out (x :: l.drop (j + 1)) (by simp)
        have hlen : (x :: l.drop (j + 1)).length = l.length - j := by rw [List.length_cons, List.length_drop]; omega
        have hdr : ∀ len, l.drop (j + len) = (x :: l.drop (j + 1)).drop len := fun len => by rw [← List.drop_drop, hcr]
        obtain ⟨m, hm⟩ : ∃ m, x :: l.drop (j + 1) = m := ⟨_, rfl⟩
        rw [hm] at hta hfb hlen hon
        simp only [hm] at hdr
        obtain ⟨G, hG⟩ : ∃ G, fstG m = G := ⟨_, rfl⟩
        rw [hG] at hta hfb hon
        have HFC := Lib.hid hon
        have HDR := Lib.hid hdr
        clear hdr hm hG hcr hx hb hon HON HFB
        cases G with
        | err e a =>
          have HTX := Lib.hid (show AA = .bad e (j + a) from hta.symm)
          have heb : ((e : Int) != 0) = true := by have := hfb.1; simpa using (show ((e : Nat) : Int) ≠ 0 by omega)
          have HFD := Lib.hid (show ∀ wx, Calls Tryz.prog 55 #[.string s, .int .i64 (j : Nat)] wx fun x w' => (∃ (K : Int) (T : ByteArray) (N A : Int), x = .returned (.tuple #[.agg #[.int .i64 K, .string T, .int .u64 N, .int .i64 A], .int .i64 0, .agg #[.int .i64 (e : Nat), .int .i64 ((j + a : Nat) : Int)]])) ∧ Below wx.heap.size wx w' from HFC.out)
          obtain ⟨A, hA⟩ : ∃ A, j + a = A := ⟨_, rfl⟩
          rw [hA] at HFD HTX
          clear hta hfb hA HFC
          go_wp2_with (go_at_call 55; refine (HFD.out _).mono ?_; rintro x1 w1 ⟨⟨K, T, N, B, rfl⟩, hb1⟩; have HS1 := Lib.hid (HS.out.step hb1); have l0 : w1.cell? ⟨w.heap.size, 0, none⟩ = some (.int .i64 0) := cell_at HS1.out.fl rfl; have l1 : w1.cell? ⟨w.heap.size, 1, none⟩ = some (.int .i64 0) := cell_at HS1.out.fl rfl; have m0 := free_at (j := 0) HS1.out.fl; have m1 := free_at (j := 1) HS1.out.fl; have p0 : w.heap.size < w1.heap.size := lt_of_block HS1.out.fl; have p1 : ¬ w.heap.size = w1.heap.size := (by omega); clear hb1)
          go_region
          all_goals go_wp2_with (fail)
          all_goals
            have HV := Lib.hid (outErr HS1.out.fl HS1.out.be (e : Nat) (A : Nat) (.cells #[.int .i64 K, .string T, .int .u64 N, .int .i64 B] 67) (.cells #[.int .i64 (e : Nat), .int .i64 (A : Nat)] 38))
            refine end7 (w := w) (.slice none 0 0) (e : Nat) (A : Nat) rfl rfl rfl HV.out.1 ?_
            rw [HTX.out]
            exact ⟨rfl, HV.out.2⟩
        | tok k t n len =>
          obtain ⟨b1, b2, b3, b4, b5⟩ := hfb
          have hta2 : (if out.length = 64 then Ans.bad 3 j else TA g (m.drop len) (j + len) (out ++ [⟨k, t, n, j⟩])) = AA := hta
          have HFD := Lib.hid (show ∀ wx, Calls Tryz.prog 55 #[.string s, .int .i64 (j : Nat)] wx fun x w' => x = .returned (.tuple #[.agg #[.int .i64 (k : Nat), .string (bs t), .int .u64 (n : Nat), .int .i64 (j : Nat)], .int .i64 (len : Nat), .agg #[.int .i64 0, .int .i64 0]]) ∧ Below wx.heap.size wx w' from HFC.out)
          clear hta HFC
          by_cases h64 : out.length = 64
          · rw [if_pos h64] at hta2
            have HTX := Lib.hid hta2.symm
            clear hta2
            go_wp2_with (go_at_call 55; refine (HFD.out _).mono ?_; rintro x1 w1 ⟨rfl, hb1⟩; have HS1 := Lib.hid (HS.out.step hb1); have l0 : w1.cell? ⟨w.heap.size, 0, none⟩ = some (.int .i64 0) := cell_at HS1.out.fl rfl; have l1 : w1.cell? ⟨w.heap.size, 1, none⟩ = some (.int .i64 0) := cell_at HS1.out.fl rfl; have m0 := free_at (j := 0) HS1.out.fl; have m1 := free_at (j := 1) HS1.out.fl; have p0 : w.heap.size < w1.heap.size := lt_of_block HS1.out.fl; have p1 : ¬ w.heap.size = w1.heap.size := (by omega); clear hb1)
            have HV := Lib.hid (outErr2 HS1.out.fl HS1.out.be 3 (j : Int) (.cells #[.int .i64 (k : Nat), .string (bs t), .int .u64 (n : Nat), .int .i64 (j : Nat)] 67) (.cells #[.int .i64 0, .int .i64 0] 38))
            refine end7 (w := w) (.slice none 0 0) 3 (j : Int) rfl rfl rfl HV.out.1 ?_
            rw [HTX.out]
            exact ⟨rfl, HV.out.2⟩
          · rw [if_neg h64] at hta2
            have HTX := Lib.hid (show TA g (l.drop (j + len)) (j + len) (out ++ [⟨k, t, n, j⟩]) = AA by rw [HDR.out]; exact hta2)
            have h64b : ((out.length : Int) == 64) = false := beq_eq_false_iff_ne.2 (by omega)
            have hlj : j + len ≤ l.length := by omega
            have HX := Lib.hid (show ∀ (wx wy : World) (v' : Value), TSt w (.slice ao out.length cap) out wx → wy.ownsRow (w.heap.size + 1) 67 4 v' (out.length + 1) (out.flatMap tkC ++ tkC ⟨k, t, n, j⟩) → wx.grownBy wy (Value.slice ao out.length cap).ownBlock → TSt w v' (out ++ [⟨k, t, n, j⟩]) wy from fun _ _ _ h1 h2 h3 => h1.grown h2 h3)
            have HL1 := Lib.hid (show (out ++ [(⟨k, t, n, j⟩ : Tk)]).length = out.length + 1 by rw [List.length_append]; rfl)
            have HNT := Lib.hid (newTk ⟨k, t, n, j⟩)
            clear hta2 b3 b4 b5
            go_wp2_with (first
              | (go_at_call 55; refine (HFD.out _).mono ?_; rintro x1 w1 ⟨rfl, hb1⟩; have HS1 := Lib.hid (HS.out.step hb1); have l0 : w1.cell? ⟨w.heap.size, 0, none⟩ = some (.int .i64 0) := cell_at HS1.out.fl rfl; have l1 : w1.cell? ⟨w.heap.size, 1, none⟩ = some (.int .i64 0) := cell_at HS1.out.fl rfl; have m0 := free_at (j := 0) HS1.out.fl; have m1 := free_at (j := 1) HS1.out.fl; have p0 : w.heap.size < w1.heap.size := lt_of_block HS1.out.fl; have p1 : ¬ w.heap.size = w1.heap.size := (by omega); clear hb1)
              | (at_builtin; refine wpList_append_lies _ rfl _ _ 55 rfl (w.heap.size + 1) 67 i0 _ 4 40 Tryz.underlying55 hi hz0 hz1 hz2 rfl (by decide) _ _ _ rfl (((HS1.out.own.alloc _).alloc _).alloc _) ⟨_, 0, none⟩ 1 1 (tkC ⟨k, t, n, j⟩) rfl rfl (HNT.out _ _ _) (fun u hu => by (simp [tkC] at hu; rcases hu with rfl | rfl | rfl | rfl <;> rfl)) (by decide) (by unfold maxLen; omega) (by omega) (by simp; omega) _ rfl ?_; intro gg cp w2 hown2 hg2 _ _; have HS2 := Lib.hid (HX.out _ _ _ (HS1.out.step ((((Below.refl w1.heap.size w1).alloc (Nat.le_refl _) _).alloc (by simp) _).alloc (by simp; omega) _)) hown2 hg2); clear hown2 hg2))
            go_roundw
            case rel => exact ⟨out ++ [⟨k, t, n, j⟩], j + len, g, some ⟨gg, 0, none⟩, cp, by omega, by rw [HL1.out]; omega, by rw [HL1.out], by go_num, by omega, HTX, by rw [HL1.out]; exact HS2⟩
            case measure => simp [intOf]; omega
    · obtain rfl : j = l.length := by omega
      obtain ⟨g, rfl⟩ : ∃ g, f = g + 1 := ⟨f - 1, by omega⟩
      have hta := HTA.out
      rw [List.drop_eq_nil_of_le (Nat.le_refl _)] at hta
      have HTX := Lib.hid (show AA = .good (out ++ [⟨6, [], 0, l.length⟩]) from hta.symm)
      have HX := Lib.hid (show ∀ (wx wy : World) (v' : Value), TSt w (.slice ao out.length cap) out wx → wy.ownsRow (w.heap.size + 1) 67 4 v' (out.length + 1) (out.flatMap tkC ++ tkC ⟨6, [], 0, l.length⟩) → wx.grownBy wy (Value.slice ao out.length cap).ownBlock → TSt w v' (out ++ [⟨6, [], 0, l.length⟩]) wy from fun _ _ _ h1 h2 h3 => h1.grown h2 h3)
      have HNT := Lib.hid (newTk1 ⟨6, [], 0, l.length⟩)
      have HL1 := Lib.hid (show (out ++ [(⟨6, [], 0, l.length⟩ : Tk)]).length = out.length + 1 by rw [List.length_append]; rfl)
      clear hta
      go_wp2_with (first
        | (at_builtin; refine wpList_append_lies _ rfl _ _ 55 rfl (w.heap.size + 1) 67 i0 _ 4 40 Tryz.underlying55 hi hz0 hz1 hz2 rfl (by decide) _ _ _ rfl (HS.out.own.alloc _) ⟨_, 0, none⟩ 1 1 (tkC ⟨6, [], 0, l.length⟩) rfl rfl (HNT.out _) (fun u hu => by (simp [tkC] at hu; rcases hu with rfl | rfl | rfl | rfl <;> rfl)) (by decide) (by unfold maxLen; omega) (by omega) (by have := HS.out.be.size; have := lt_of_block HS.out.fl; simp; omega) _ rfl ?_; intro gg cp w2 hown2 hg2 _ _; have HS2 := Lib.hid (HX.out _ _ _ (HS.out.step ((Below.refl wr.heap.size wr).alloc (Nat.le_refl _) _)) hown2 hg2); have l0 : w2.cell? ⟨w.heap.size, 0, none⟩ = some (.int .i64 0) := cell_at HS2.out.fl rfl; have l1 : w2.cell? ⟨w.heap.size, 1, none⟩ = some (.int .i64 0) := cell_at HS2.out.fl rfl; have m0 := free_at (j := 0) HS2.out.fl; have m1 := free_at (j := 1) HS2.out.fl; clear hown2 hg2))
      have HF := Lib.hid HS2.out.fin
      refine end7 (w := w) (.slice (some ⟨gg, 0, none⟩) (out.length + 1) cp) 0 0 rfl rfl rfl HF.out.fl ?_
      rw [HTX.out]
      refine ⟨⟨some ⟨gg, 0, none⟩, cp, by rw [HL1.out], ?_⟩, HF.out.be⟩
      exact ⟨HF.out.at, HF.out.cap⟩
end Go.Proofs.YtjgdkiikkgdbaaaGreatDoor
/- The reference's longest beginning is the code's first token. -/
namespace Go.Proofs.YtjgdkiikkgdbaaaGreatDoor
open Go
set_option linter.unusedVariables false
theorem isL_isD {c : Nat} (h : isL c = true) : isD c = false := by
  unfold isL at h; unfold isD
  simp only [Bool.or_eq_true, Bool.and_eq_true, decide_eq_true_eq] at h
  rw [Bool.and_eq_false_iff, decide_eq_false_iff_not, decide_eq_false_iff_not]; omega
/-- kinds by the first byte -/
theorem rs_head (c : UInt8) (r : List UInt8) (h : rsigns.contains (c :: r) = true) : c.toNat ∈ [61, 60, 62, 40, 41, 46, 91, 93, 45] := by
  rw [List.contains_iff_mem] at h
  simp only [rsigns, List.mem_cons, List.cons.injEq, List.not_mem_nil, or_false] at h
  rcases h with ⟨rfl, _⟩ | ⟨rfl, _⟩ | ⟨rfl, _⟩ | ⟨rfl, _⟩ | ⟨rfl, _⟩ | ⟨rfl, _⟩ | ⟨rfl, _⟩ | ⟨rfl, _⟩ | ⟨rfl, _⟩ | ⟨rfl, _⟩ | ⟨rfl, _⟩ | ⟨rfl, _⟩ <;> decide
theorem tw_self (p : UInt8 → Bool) : ∀ l : List UInt8, l.all p = true → l.takeWhile p = l
  | [], _ => rfl
  | c :: r, h => by
    simp only [List.all_cons, Bool.and_eq_true] at h
    rw [List.takeWhile_cons_of_pos h.1, tw_self p r h.2]
theorem wl_word (c : UInt8) (r : List UInt8) (h : isL c.toNat = true) : (wl (c :: r) = (c :: r).length) ↔ r.all alu = true := by
  have e : wl (c :: r) = (r.takeWhile alu).length + 1 := by simp [wl, h]
  rw [e, List.length_cons, Nat.add_right_cancel_iff]
  constructor
  · intro h2
    have h3 : r.takeWhile alu = r := (List.takeWhile_prefix alu).eq_of_length h2
    rw [← h3]; exact List.all_takeWhile
  · intro h2
    rw [tw_self alu r h2]
theorem quo_other (c : UInt8) (r : List UInt8) (h : ¬ c = 39) : quoD (c :: r) = none := by
  unfold quoD; rw [if_neg (fun h2 => h h2.2)]
theorem kind_word (c : UInt8) (r : List UInt8) (h : isL c.toNat = true) : kindN (c :: r) = if r.all alu = true then 1 else 0 := by
  have hl := h
  unfold isL at h
  simp only [Bool.or_eq_true, Bool.and_eq_true, decide_eq_true_eq] at h
  have h39 : ¬ c = 39 := by rintro rfl; revert h; decide
  have h37 : ¬ c = 37 := by rintro rfl; revert h; decide
  have hd : dig c = false := isL_isD hl
  have hs : rsigns.contains (c :: r) = false := by
    cases hx : rsigns.contains (c :: r) with
    | false => rfl
    | true => have := rs_head c r hx; simp only [List.mem_cons, List.not_mem_nil, or_false] at this; omega
  unfold kindN
  by_cases ha : r.all alu = true
  · rw [if_pos ((wl_word c r hl).2 ha), if_pos ha]
  · rw [if_neg (fun e => ha ((wl_word c r hl).1 e)), if_neg (by simp [hd]), if_neg (by rw [quo_other c r h39]; decide), if_neg (fun e => h37 e.2.1), if_neg (by rw [hs]; decide), if_neg ha]
theorem wl_no (c : UInt8) (r : List UInt8) (h : isL c.toNat = false) : wl (c :: r) = 0 := by simp [wl, h]
theorem kind_dig (c : UInt8) (r : List UInt8) (h : dig c = true) : kindN (c :: r) = if r.all dig = true then 2 else 0 := by
  have h2 := dig_le h
  have hl : isL c.toNat = false := by cases hx : isL c.toNat with | false => rfl | true => have := isL_isD hx; rw [show isD c.toNat = dig c from rfl, h] at this; cases this
  have h39 : ¬ c = 39 := by rintro rfl; revert h2; decide
  have h37 : ¬ c = 37 := by rintro rfl; revert h2; decide
  have hs : rsigns.contains (c :: r) = false := by
    cases hx : rsigns.contains (c :: r) with
    | false => rfl
    | true => have := rs_head c r hx; simp only [List.mem_cons, List.not_mem_nil, or_false] at this; omega
  unfold kindN
  rw [if_neg (by rw [wl_no c r hl]; simp)]
  by_cases ha : r.all dig = true
  · rw [if_pos (by simp only [List.all_cons, h, ha]; rfl), if_pos ha]
  · rw [if_neg (by simp only [List.all_cons, h, Bool.true_and, List.isEmpty_cons, Bool.not_false, Bool.and_true]; exact ha), if_neg (by rw [quo_other c r h39]; decide), if_neg (fun e => h37 e.2.1), if_neg (by rw [hs]; decide), if_neg ha]
/-- other first bytes -/
theorem kind_rest (c : UInt8) (r : List UInt8) (hl : isL c.toNat = false) (hd : dig c = false) : kindN (c :: r) = if (quoD (c :: r)).isSome = true then 3 else if (c :: r).length = 2 ∧ c = 37 ∧ dig ((c :: r).getD 1 0) = true then 4 else if rsigns.contains (c :: r) = true then 5 else 0 := by
  unfold kindN
  rw [if_neg (by rw [wl_no c r hl]; simp), if_neg (by simp [hd])]
  rfl
/-- the loop, where one kind goes on up to a place -/
theorem lg_go (l : List UInt8) (m K : Nat) (hx : l.getD 0 0 ≠ 39) (hK0 : K ≠ 0) (hK3 : K ≠ 3) (hm1 : 1 ≤ m) (hm : m ≤ l.length) (hend : m = l.length ∨ kindN (l.take (m + 1)) = 0) :
    ∀ f n best k, l.length + 1 - n = f → 1 ≤ n → n ≤ m + 1 → (∀ i, n ≤ i → i ≤ m → kindN (l.take i) = K) → (n = m + 1 → best = m ∧ k = K) → lgA l f n best k = (m, K)
  | 0, n, best, k, hf, h1, hn, hr, hb => by
    obtain ⟨rfl, rfl⟩ := hb (by omega)
    show (if k = 3 then (0, 0) else (best, k)) = _
    rw [if_neg hK3]
  | f + 1, n, best, k, hf, h1, hn, hr, hb => by
    rw [lgA]
    by_cases he : n = m + 1
    · obtain ⟨rfl, rfl⟩ := hb he
      subst he
      have h0 : kindN (l.take (best + 1)) = 0 := by rcases hend with h | h; omega; exact h
      rw [if_neg (fun h => by rw [h0] at h; exact absurd h.1 (by decide)), if_pos ⟨hx, h0, by omega⟩]
    · have hk := hr n (Nat.le_refl _) (by omega)
      rw [if_neg (fun h => by rw [hk] at h; exact hK3 h.1), if_neg (fun h => by rw [hk] at h; exact hK0 h.2.1), if_neg (by rw [hk]; exact hK0), hk]
      exact lg_go l m K hx hK0 hK3 hm1 hm hend f (n + 1) n K (by omega) (by omega) (by omega) (fun i hi1 hi2 => hr i (by omega) hi2) (fun e => ⟨by omega, rfl⟩)
theorem take_cons' (c : UInt8) (r : List UInt8) (i : Nat) (h : 1 ≤ i) : (c :: r).take i = c :: r.take (i - 1) := by
  obtain ⟨k, rfl⟩ : ∃ k, i = k + 1 := ⟨i - 1, by omega⟩
  rfl
theorem tw_take (p : UInt8 → Bool) (l : List UInt8) (i : Nat) (h : i ≤ (l.takeWhile p).length) : (l.take i).all p = true := by
  have h1 := tw_spec p l
  rw [List.all_eq_true]
  intro x hx
  obtain ⟨k, hk, rfl⟩ := List.getElem_of_mem hx
  rw [List.length_take] at hk
  have h2 := h1.1 k (by omega)
  rw [getD_get l k (by omega)] at h2
  rw [List.getElem_take]; exact h2
theorem tw_end (p : UInt8 → Bool) (l : List UInt8) (h : (l.takeWhile p).length < l.length) : (l.take ((l.takeWhile p).length + 1)).all p = false := by
  have h1 := (tw_spec p l).2.1 h
  rw [getD_get l _ h] at h1
  rw [List.all_eq_false]
  have hm : l[(l.takeWhile p).length] ∈ l.take ((l.takeWhile p).length + 1) := by
    have e := take_next l _ h
    rw [e]
    exact List.mem_append_right _ (List.mem_singleton.2 rfl)
  exact ⟨_, hm, by simp [h1]⟩
/-- a run of one sort of bytes behind the first -/
theorem lg_run (c : UInt8) (r : List UInt8) (p : UInt8 → Bool) (K : Nat) (h39 : c ≠ 39) (hK0 : K ≠ 0) (hK3 : K ≠ 3) (hk : ∀ q, kindN (c :: q) = if q.all p = true then K else 0) : lgN (c :: r) = ((r.takeWhile p).length + 1, K) := by
  have hle := (tw_spec p r).2.2
  refine lg_go (c :: r) _ K h39 hK0 hK3 (by omega) (by simp; omega) ?_ _ 1 0 0 rfl (Nat.le_refl _) (by omega) ?_ (fun e => by omega)
  · by_cases he : (r.takeWhile p).length = r.length
    · left; simp [he]
    · right
      rw [take_cons' c r _ (by omega), hk, Nat.add_sub_cancel, if_neg]
      rw [tw_end p r (by omega)]; decide
  · intro i h1 h2
    rw [take_cons' c r i h1, hk, if_pos (tw_take p r (i - 1) (by omega))]
theorem rs_len (q : List UInt8) (h : rsigns.contains q = true) : q.length ≤ 2 := by
  rw [List.contains_iff_mem] at h
  simp only [rsigns, List.mem_cons, List.not_mem_nil, or_false] at h
  rcases h with rfl | rfl | rfl | rfl | rfl | rfl | rfl | rfl | rfl | rfl | rfl | rfl <;> decide
/-- nothing begins here -/
theorem lg_zero (l : List UInt8) (h0 : l ≠ []) (hx : l.getD 0 0 ≠ 39) (h1 : kindN (l.take 1) = 0) (h2 : 2 ≤ l.length → kindN (l.take 2) = 0) : lgN l = (0, 0) := by
  unfold lgN
  obtain ⟨f, hf⟩ : ∃ f, l.length = f + 1 := ⟨l.length - 1, by have := List.length_pos_iff.2 h0; omega⟩
  rw [hf, lgA, if_neg (fun h => by rw [h1] at h; exact absurd h.1 (by decide)), if_neg (fun h => absurd h.2.2 (by omega)), if_pos h1]
  cases f with
  | zero => rfl
  | succ g =>
    have h3 := h2 (by omega)
    rw [lgA, if_neg (fun h => by rw [h3] at h; exact absurd h.1 (by decide)), if_pos ⟨hx, h3, by omega⟩]
theorem kind_quo (q : List UInt8) : kindN (39 :: q) = if (qr q []).isSome = true then 3 else 0 := by
  have hq : quoD (39 :: q) = qr q [] := by
    unfold quoD
    cases q with
    | nil => rfl
    | cons d r => rw [if_pos ⟨by simp, rfl⟩]; rfl
  have hs : rsigns.contains ((39 : UInt8) :: q) = false := by
    cases hx : rsigns.contains ((39 : UInt8) :: q) with
    | false => rfl
    | true => have := rs_head 39 q hx; exact absurd this (by decide)
  rw [kind_rest 39 q (by decide) (by decide), hq]
  by_cases h : (qr q []).isSome = true
  · rw [if_pos h, if_pos h]
  · rw [if_neg h, if_neg h, if_neg (fun h => absurd h.2.1 (by decide)), if_neg (by rw [hs]; decide)]
theorem q1 : ∀ (N : Nat) (r out : List UInt8) (m : Nat), r.length ≤ N → m ≤ r.length → (qr (r.take m) out).isSome = true → ql r = some m ∨ (m < r.length ∧ r.getD m 0 = 39 ∧ ∀ k, ql r = some k → m < k)
  | N, [], out, m, hN, hm, h => by simp [qr] at h
  | N, [c], out, 0, hN, hm, h => by simp [qr] at h
  | N, [c], out, m + 1, hN, hm, h => by
    have : m = 0 := by simp at hm; omega
    subst this
    by_cases hc : c = 39
    · left; simp [ql, hc]
    · simp [qr, hc] at h
  | N, c :: d :: r, out, 0, hN, hm, h => by simp [qr] at h
  | N, c :: d :: r, out, 1, hN, hm, h => by
    by_cases hc : c = 39
    · by_cases hd : d = 39
      · right
        refine ⟨by simp, hd, fun k hk => ?_⟩
        rw [ql, if_pos hc, if_pos hd] at hk
        cases hr : ql r with
        | none => rw [hr] at hk; simp at hk
        | some a => rw [hr] at hk; have : a + 2 = k := Option.some.inj hk; omega
      · left; rw [ql, if_pos hc, if_neg hd]
    · simp [qr, hc] at h
  | 0, c :: d :: r, out, m + 2, hN, hm, h => by simp at hN
  | N + 1, c :: d :: r, out, m + 2, hN, hm, h => by
    have ht : (c :: d :: r).take (m + 2) = c :: d :: r.take m := rfl
    rw [ht, qr] at h
    by_cases hc : c = 39
    · rw [if_pos hc] at h
      by_cases hd : d = 39
      · rw [if_pos hd] at h
        have ih := q1 N r _ m (by simp at hN; omega) (by simp at hm; omega) h
        rw [ql, if_pos hc, if_pos hd]
        rcases ih with ih | ⟨i1, i2, i3⟩
        · left; rw [ih]; rfl
        · right
          refine ⟨by simp; omega, i2, fun k hk => ?_⟩
          cases hr : ql r with
          | none => rw [hr] at hk; simp at hk
          | some a => rw [hr] at hk; have h5 : a + 2 = k := Option.some.inj hk; have := i3 a hr; omega
      · rw [if_neg hd] at h; simp at h
    · rw [if_neg hc] at h
      have ih := q1 N (d :: r) (out ++ [c]) (m + 1) (by simp at hN ⊢; omega) (by simp at hm ⊢; omega) h
      rw [ql, if_neg hc]
      rcases ih with ih | ⟨i1, i2, i3⟩
      · left; rw [ih]; rfl
      · right
        refine ⟨by simp at i1 ⊢; omega, i2, fun k hk => ?_⟩
        cases hr : ql (d :: r) with
        | none => rw [hr] at hk; simp at hk
        | some a => rw [hr] at hk; have h5 : a + 1 = k := Option.some.inj hk; have := i3 a hr; omega
theorem q2 : ∀ (N : Nat) (r out : List UInt8) (k : Nat), r.length ≤ N → ql r = some k → qr (r.take k) out = some (out ++ unq (r.take (k - 1))) ∧ (k = r.length ∨ r.getD k 0 ≠ 39)
  | N, [], out, k, hN, h => by simp [ql] at h
  | N, [c], out, k, hN, h => by
    by_cases hc : c = 39
    · rw [ql, if_pos hc] at h
      have : 1 = k := Option.some.inj h
      subst this
      refine ⟨?_, .inl rfl⟩
      show qr [c] out = _
      rw [qr, if_pos hc]
      simp [unq]
    · simp [ql, hc] at h
  | 0, c :: d :: r, out, k, hN, h => by simp at hN
  | N + 1, c :: d :: r, out, k, hN, h => by
    rw [ql] at h
    by_cases hc : c = 39
    · rw [if_pos hc] at h
      by_cases hd : d = 39
      · rw [if_pos hd] at h
        cases hr : ql r with
        | none => rw [hr] at h; simp at h
        | some a =>
          rw [hr] at h
          have h5 : a + 2 = k := Option.some.inj h
          subst h5
          obtain ⟨h6, h7⟩ := q2 N r (out ++ [39]) a (by simp at hN; omega) hr
          have ha := ql_le r.length r a (Nat.le_refl _) hr
          obtain ⟨b, rfl⟩ : ∃ b, a = b + 1 := ⟨a - 1, by omega⟩
          refine ⟨?_, by rcases h7 with h7 | h7; exact .inl (by simp; omega); exact .inr h7⟩
          show qr (c :: d :: r.take (b + 1)) out = some (out ++ unq (c :: d :: r.take b))
          rw [qr, if_pos hc, if_pos hd, h6, unq, if_pos ⟨hc, hd⟩]
          simp
      · rw [if_neg hd] at h
        have : 1 = k := Option.some.inj h
        subst this
        refine ⟨?_, .inr hd⟩
        show qr [c] out = _
        rw [qr, if_pos hc]
        simp [unq]
    · rw [if_neg hc] at h
      cases hr : ql (d :: r) with
      | none => rw [hr] at h; simp at h
      | some a =>
        rw [hr] at h
        have h5 : a + 1 = k := Option.some.inj h
        subst h5
        obtain ⟨h6, h7⟩ := q2 N (d :: r) (out ++ [c]) a (by simp at hN ⊢; omega) hr
        have ha := ql_le (d :: r).length (d :: r) a (Nat.le_refl _) hr
        obtain ⟨b, rfl⟩ : ∃ b, a = b + 1 := ⟨a - 1, by omega⟩
        refine ⟨?_, by rcases h7 with h7 | h7; exact .inl (by simp at h7 ⊢; omega); exact .inr h7⟩
        show qr (c :: d :: r.take b) out = some (out ++ unq (c :: (d :: r).take b))
        rw [qr, if_neg hc, unq_cons (fun e => hc e.1)]
        have h8 : qr (d :: r.take b) (out ++ [c]) = some (out ++ [c] ++ unq ((d :: r).take b)) := h6
        rw [h8]; simp
theorem lg_quo (r : List UInt8) (K : Nat) (hK : ql r = some K) : ∀ f n best k, r.length + 2 - n = f → 1 ≤ n → n ≤ K + 1 → lgA (39 :: r) f n best k = (K + 1, 3)
  | 0, n, best, k, hf, h1, hn => by have := ql_le r.length r K (Nat.le_refl _) hK; omega
  | f + 1, n, best, k, hf, h1, hn => by
    have hle := ql_le r.length r K (Nat.le_refl _) hK
    obtain ⟨m, rfl⟩ : ∃ m, n = m + 1 := ⟨n - 1, by omega⟩
    have ht : ((39 : UInt8) :: r).take (m + 1) = 39 :: r.take m := rfl
    have hg : ((39 : UInt8) :: r).getD (m + 1) 0 = r.getD m 0 := rfl
    have hg0 : ((39 : UInt8) :: r).getD 0 0 = 39 := rfl
    rw [lgA, ht, kind_quo, hg, hg0]
    by_cases hm : m = K
    · subst hm
      obtain ⟨h6, h7⟩ := q2 r.length r [] m (Nat.le_refl _) hK
      have hk3 : (if (qr (r.take m) []).isSome = true then 3 else 0 : Nat) = 3 := if_pos (by rw [h6]; rfl)
      rw [hk3, if_pos ⟨rfl, by rcases h7 with h7 | h7; exact .inl (by simp; omega); exact .inr h7⟩]
    · by_cases hs : (qr (r.take m) []).isSome = true
      · have hk3 : (if (qr (r.take m) []).isSome = true then 3 else 0 : Nat) = 3 := if_pos hs
        rw [hk3]
        rcases q1 r.length r [] m (Nat.le_refl _) (by omega) hs with h8 | ⟨i1, i2, i3⟩
        · rw [hK] at h8; exact absurd (Option.some.inj h8).symm hm
        · rw [if_neg (fun h => by rcases h.2 with h9 | h9; (simp at h9; omega); exact h9 i2), if_neg (fun h => h.1 rfl), if_neg (by decide)]
          exact lg_quo r K hK f (m + 2) _ _ (by omega) (by omega) (by omega)
      · have hk0 : (if (qr (r.take m) []).isSome = true then 3 else 0 : Nat) = 0 := if_neg hs
        rw [hk0, if_neg (fun h => absurd h.1 (by decide)), if_neg (fun h => h.1 rfl), if_pos rfl]
        exact lg_quo r K hK f (m + 2) _ _ (by omega) (by omega) (by omega)
theorem lg_quo_none (r : List UInt8) (hK : ql r = none) : ∀ f n best k, r.length + 2 - n = f → 1 ≤ n → (k = 3 ∨ (k = 0 ∧ best = 0)) → lgA (39 :: r) f n best k = (0, 0)
  | 0, n, best, k, hf, h1, hk => by
    show (if k = 3 then (0, 0) else (best, k)) = _
    rcases hk with rfl | ⟨rfl, rfl⟩ <;> rfl
  | f + 1, n, best, k, hf, h1, hk => by
    obtain ⟨m, rfl⟩ : ∃ m, n = m + 1 := ⟨n - 1, by omega⟩
    have ht : ((39 : UInt8) :: r).take (m + 1) = 39 :: r.take m := rfl
    have hg : ((39 : UInt8) :: r).getD (m + 1) 0 = r.getD m 0 := rfl
    have hg0 : ((39 : UInt8) :: r).getD 0 0 = 39 := rfl
    rw [lgA, ht, kind_quo, hg, hg0]
    by_cases hs : (qr (r.take m) []).isSome = true
    · have hk3 : (if (qr (r.take m) []).isSome = true then 3 else 0 : Nat) = 3 := if_pos hs
      rw [hk3]
      rcases q1 r.length r [] m (Nat.le_refl _) (by omega) hs with h8 | ⟨i1, i2, i3⟩
      · rw [hK] at h8; cases h8
      · rw [if_neg (fun h => by rcases h.2 with h9 | h9; (simp at h9; omega); exact h9 i2), if_neg (fun h => h.1 rfl), if_neg (by decide)]
        exact lg_quo_none r hK f (m + 2) _ _ (by omega) (by omega) (.inl rfl)
    · have hk0 : (if (qr (r.take m) []).isSome = true then 3 else 0 : Nat) = 0 := if_neg hs
      rw [hk0, if_neg (fun h => absurd h.1 (by decide)), if_neg (fun h => h.1 rfl), if_pos rfl]
      exact lg_quo_none r hK f (m + 2) _ _ (by omega) (by omega) hk
end Go.Proofs.YtjgdkiikkgdbaaaGreatDoor
