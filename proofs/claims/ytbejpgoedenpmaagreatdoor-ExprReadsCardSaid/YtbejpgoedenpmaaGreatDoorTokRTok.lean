/- The reference's Tokens, in terms of the first token of a text. -/
import Derived.Test.YtbejpgoedenpmaaGreatDoorTokROne
import Derived.Test.YtbejpgoedenpmaaGreatDoorTokToks
namespace Go.Proofs.YtbejpgoedenpmaaGreatDoor
open Go.RowKit
set_option linter.unusedVariables false
theorem end7 {w V : World} {Q : Ending → World → Prop} {act : Act} (v : Value) (e a : Int) (hd : act.defers = []) (h2 : act.tmps.getD 2 undef = v) (h3 : act.tmps.getD 3 undef = .pointer (some ⟨w.heap.size, 0, none⟩)) (hr : V.heap[w.heap.size]? = some (fltO e a))
    (hQ : Q (.returned (.tuple #[v, .agg #[.int .i64 e, .int .i64 a]])) V) : bodyPost Tryz.prog Tryz.f20 Q Exit.ret act V := by
  refine bodyPost_ret (v := .tuple #[v, .agg #[.int .i64 e, .int .i64 a]]) ?_ hd hQ
  have hl2 := run_loadVar_row (P := Tryz.prog) V w.heap.size _ 28 _ _ _ hr Tryz.underlying28 rfl (by kernel_rfl)
  rw [Array.getD_eq_getD_getElem?] at h2 h3
  simp [results, Tryz.results20, asAddr, hl2, h2, h3]
set_option maxRecDepth 100000 in
theorem rtokens_long (s : ByteArray) (h : 256 < s.size) (hs : s.size ≤ 281474976710656) (w : World) : Calls Tryz.prog 20 #[.string s] w (AnsTo w (.bad 3 0)) := by
  have h1 : (256 : Int) < (s.size : Int) := by omega
  have hml : s.size ≤ maxLen := by show s.size ≤ 9223372036854775807; omega
  go_enter Tryz.func20, Tryz.ntmps20
  go_wp2_with (fail)
  go_returns
  exact ⟨rfl, by go_grown⟩
theorem blk_or {x : UInt8} (h : blk x = true) : (x.toNat : Int) = 32 ∨ (x.toNat : Int) = 9 ∨ (x.toNat : Int) = 10 ∨ (x.toNat : Int) = 13 := by
  simp [blk] at h; omega
theorem blk_not {x : UInt8} (h : blk x = false) : ((x.toNat : Int) == 32) = false ∧ ((x.toNat : Int) == 9) = false ∧ ((x.toNat : Int) == 10) = false ∧ ((x.toNat : Int) == 13) = false := by
  simp only [blk, Bool.or_eq_false_iff, beq_eq_false_iff_ne] at h
  refine ⟨beq_eq_false_iff_ne.2 ?_, beq_eq_false_iff_ne.2 ?_, beq_eq_false_iff_ne.2 ?_, beq_eq_false_iff_ne.2 ?_⟩ <;> omega
set_option maxRecDepth 100000 in
set_option maxHeartbeats 8000000 in
theorem rtokens_any (h1 : ∀ t : List UInt8, t ≠ [] → LgOk t ∧ oneG t = fstG t) (l : List UInt8) (hl : l.length ≤ 256) (w : World) : Calls Tryz.prog 20 #[.string (bs l)] w (AnsTo w (tokA l)) := by
  obtain ⟨i0, hi, hz0, hz1, hz2⟩ := info_parts infoTok
  have HON := Lib.hid (fun (j : Nat) (hj : j < l.length) (wx : World) => by
    have hne : l.drop j ≠ [] := by intro h; rw [List.drop_eq_nil_iff] at h; omega
    have h2 := one_any l j hj (by omega) (h1 _ hne).1 wx
    rw [(h1 _ hne).2] at h2
    exact h2)
  have HON : Hid (∀ (j : Nat) (hj : j < l.length) (wx : World), Calls Tryz.prog 30 #[.string (bs l), .int .i64 (j : Nat)] wx (OneTo wx j (fstG (l.drop j)))) := HON
  have HFB := Lib.hid (fst_bounds)
  have HS0 := Lib.hid (TSt.start w)
  have hsz : (bs l).size = l.length := bs_size l
  have hGG : ∀ i (h : i < (bs l).size) (h' : i < l.length), (bs l)[i]'h = l[i]'h' := bs_get l
  have hA : tokA l = TA (l.length + 1) l 0 [] := if_neg (by omega)
  rw [hA]
  obtain ⟨s, hs⟩ : ∃ s, bs l = s := ⟨_, rfl⟩
  rw [hs] at HON hsz hGG ⊢
  have HG := Lib.hid hGG
  have hml : s.size ≤ maxLen := by show s.size ≤ 9223372036854775807; omega
  have h256 : ¬ (256 : Int) < (l.length : Int) := by omega
  obtain ⟨AA, hAA⟩ : ∃ AA, TA (l.length + 1) l 0 [] = AA := ⟨_, rfl⟩
  rw [hAA]
  have HAA := Lib.hid hAA
  clear hA hs hAA h1 hGG
  go_enter Tryz.func20, Tryz.ntmps20
  go_wp2_with (fail)
  go_loopw [4, 5] (fun v a wr => ∃ (out : List Tk) (j f : Nat) (ao : Option Addr) (cap : Nat), j ≤ l.length ∧ out.length ≤ 64 ∧ v = .slice ao out.length cap ∧ a = .int .i64 j ∧ l.length - j < f ∧ Hid (TA f (l.drop j) j out = AA) ∧ Hid (TSt w (.slice ao out.length cap) out wr)) (fun _ a _ => l.length - (intOf a).toNat)
  case atStart => exact ⟨[], 0, l.length + 1, none, 0, Nat.zero_le _, by simp, rfl, rfl, by omega, HAA, HS0⟩
  case round =>
    obtain ⟨out, j, f, ao, cap, hj, hout, rfl, rfl, hf, HTA, HS⟩ := hrel
    by_cases hlt : j < l.length
    · have hlt2 : j < s.size := by omega
      have hg := HG.out j hlt2 hlt
      have hcr := drop_at l j hlt
      obtain ⟨g, rfl⟩ : ∃ g, f = g + 1 := ⟨f - 1, by omega⟩
      have hta := HTA.out
      have hon := HON.out j hlt
      obtain ⟨x, hx⟩ : ∃ x, l[j] = x := ⟨_, rfl⟩
      rw [hx] at hg hcr
      rw [hcr, TA_step] at hta
      rw [hcr] at hon
      have hc256 : x.toNat < 256 := UInt8.toNat_lt x
      cases hb : blk x with
      | true =>
        rw [hb, if_pos rfl] at hta
        have HE := Lib.hid hta
        have hor := blk_or hb
        clear hta hon hcr hx hb HON HFB
        rcases hor with e1 | e1 | e1 | e1
        all_goals
          go_wp2_with (fail)
          go_roundw
          case rel => exact ⟨out, j + 1, g, ao, cap, by omega, hout, rfl, by go_num, by omega, HE, HS⟩
          case measure => simp [intOf]; omega
      | false =>
        rw [hb, if_neg (by decide)] at hta
        obtain ⟨n1, n2, n3, n4⟩ := blk_not hb
        have hfb := HFB.out (x :: l.drop (j + 1)) (by simp)
        have hlen : (x :: l.drop (j + 1)).length = l.length - j := by rw [List.length_cons, List.length_drop]; omega
        have hdr : ∀ len, l.drop (j + len) = (x :: l.drop (j + 1)).drop len := fun len => by rw [← List.drop_drop, hcr]
        obtain ⟨m, hm⟩ : ∃ m, x :: l.drop (j + 1) = m := ⟨_, rfl⟩
        rw [hm] at hta hfb hlen hon
        simp only [hm] at hdr
        obtain ⟨G, hG⟩ : ∃ G, fstG m = G := ⟨_, rfl⟩
        rw [hG] at hta hfb hon
        have HFC := Lib.hid hon
        have HDR := Lib.hid hdr
        clear hdr hm hG hcr hx hb hon HON HFB
        cases G with
        | err e a =>
          have HTX := Lib.hid (show AA = .bad e (j + a) from hta.symm)
          have heb : ((e : Int) != 0) = true := by have := hfb.1; simpa using (show ((e : Nat) : Int) ≠ 0 by omega)
          have HFD := Lib.hid (show ∀ wx, Calls Tryz.prog 30 #[.string s, .int .i64 (j : Nat)] wx fun x w' => (∃ (K : Int) (T : ByteArray) (N A : Int), x = .returned (.tuple #[.agg #[.int .i64 K, .string T, .int .u64 N, .int .i64 A], .int .i64 0, .agg #[.int .i64 (e : Nat), .int .i64 ((j + a : Nat) : Int)]])) ∧ Below wx.heap.size wx w' from HFC.out)
          obtain ⟨A, hA⟩ : ∃ A, j + a = A := ⟨_, rfl⟩
          rw [hA] at HFD HTX
          clear hta hfb hA HFC
          go_wp2_with (go_at_call 30; refine (HFD.out _).mono ?_; rintro x1 w1 ⟨⟨K, T, N, B, rfl⟩, hb1⟩; have HS1 := Lib.hid (HS.out.step hb1); have l0 : w1.cell? ⟨w.heap.size, 0, none⟩ = some (.int .i64 0) := cell_at HS1.out.fl rfl; have l1 : w1.cell? ⟨w.heap.size, 1, none⟩ = some (.int .i64 0) := cell_at HS1.out.fl rfl; have m0 := free_at (j := 0) HS1.out.fl; have m1 := free_at (j := 1) HS1.out.fl; have p0 : w.heap.size < w1.heap.size := lt_of_block HS1.out.fl; have p1 : ¬ w.heap.size = w1.heap.size := (by omega); clear hb1)
          go_region
          all_goals go_wp2_with (fail)
          all_goals
            have HV := Lib.hid (outErr HS1.out.fl HS1.out.be (e : Nat) (A : Nat) (.cells #[.int .i64 K, .string T, .int .u64 N, .int .i64 B] 51) (.cells #[.int .i64 (e : Nat), .int .i64 (A : Nat)] 28))
            refine end7 (w := w) (.slice none 0 0) (e : Nat) (A : Nat) rfl rfl rfl HV.out.1 ?_
            rw [HTX.out]
            exact ⟨rfl, HV.out.2⟩
        | tok k t n len =>
          obtain ⟨b1, b2, b3, b4, b5⟩ := hfb
          have hta2 : (if out.length = 64 then Ans.bad 3 j else TA g (m.drop len) (j + len) (out ++ [⟨k, t, n, j⟩])) = AA := hta
          have HFD := Lib.hid (show ∀ wx, Calls Tryz.prog 30 #[.string s, .int .i64 (j : Nat)] wx fun x w' => x = .returned (.tuple #[.agg #[.int .i64 (k : Nat), .string (bs t), .int .u64 (n : Nat), .int .i64 (j : Nat)], .int .i64 (len : Nat), .agg #[.int .i64 0, .int .i64 0]]) ∧ Below wx.heap.size wx w' from HFC.out)
          clear hta HFC
          by_cases h64 : out.length = 64
          · rw [if_pos h64] at hta2
            have HTX := Lib.hid hta2.symm
            clear hta2
            go_wp2_with (go_at_call 30; refine (HFD.out _).mono ?_; rintro x1 w1 ⟨rfl, hb1⟩; have HS1 := Lib.hid (HS.out.step hb1); have l0 : w1.cell? ⟨w.heap.size, 0, none⟩ = some (.int .i64 0) := cell_at HS1.out.fl rfl; have l1 : w1.cell? ⟨w.heap.size, 1, none⟩ = some (.int .i64 0) := cell_at HS1.out.fl rfl; have m0 := free_at (j := 0) HS1.out.fl; have m1 := free_at (j := 1) HS1.out.fl; have p0 : w.heap.size < w1.heap.size := lt_of_block HS1.out.fl; have p1 : ¬ w.heap.size = w1.heap.size := (by omega); clear hb1)
            have HV := Lib.hid (outErr2 HS1.out.fl HS1.out.be 3 (j : Int) (.cells #[.int .i64 (k : Nat), .string (bs t), .int .u64 (n : Nat), .int .i64 (j : Nat)] 51) (.cells #[.int .i64 0, .int .i64 0] 28))
            refine end7 (w := w) (.slice none 0 0) 3 (j : Int) rfl rfl rfl HV.out.1 ?_
            rw [HTX.out]
            exact ⟨rfl, HV.out.2⟩
          · rw [if_neg h64] at hta2
            have HTX := Lib.hid (show TA g (l.drop (j + len)) (j + len) (out ++ [⟨k, t, n, j⟩]) = AA by rw [HDR.out]; exact hta2)
            have h64b : ((out.length : Int) == 64) = false := beq_eq_false_iff_ne.2 (by omega)
            have hlj : j + len ≤ l.length := by omega
            have HX := Lib.hid (show ∀ (wx wy : World) (v' : Value), TSt w (.slice ao out.length cap) out wx → wy.ownsRow (w.heap.size + 1) 51 4 v' (out.length + 1) (out.flatMap tkC ++ tkC ⟨k, t, n, j⟩) → wx.grownBy wy (Value.slice ao out.length cap).ownBlock → TSt w v' (out ++ [⟨k, t, n, j⟩]) wy from fun _ _ _ h1 h2 h3 => h1.grown h2 h3)
            have HL1 := Lib.hid (show (out ++ [(⟨k, t, n, j⟩ : Tk)]).length = out.length + 1 by rw [List.length_append]; rfl)
            have HNT := Lib.hid (newTk ⟨k, t, n, j⟩)
            clear hta2 b3 b4 b5
            go_wp2_with (first
              | (go_at_call 30; refine (HFD.out _).mono ?_; rintro x1 w1 ⟨rfl, hb1⟩; have HS1 := Lib.hid (HS.out.step hb1); have l0 : w1.cell? ⟨w.heap.size, 0, none⟩ = some (.int .i64 0) := cell_at HS1.out.fl rfl; have l1 : w1.cell? ⟨w.heap.size, 1, none⟩ = some (.int .i64 0) := cell_at HS1.out.fl rfl; have m0 := free_at (j := 0) HS1.out.fl; have m1 := free_at (j := 1) HS1.out.fl; have p0 : w.heap.size < w1.heap.size := lt_of_block HS1.out.fl; have p1 : ¬ w.heap.size = w1.heap.size := (by omega); clear hb1)
              | (at_builtin; refine wpList_append_lies _ rfl _ _ 38 rfl (w.heap.size + 1) 51 i0 _ 4 40 Tryz.underlying38 hi hz0 hz1 hz2 rfl (by decide) _ _ _ rfl (((HS1.out.own.alloc _).alloc _).alloc _) ⟨_, 0, none⟩ 1 1 (tkC ⟨k, t, n, j⟩) rfl rfl (HNT.out _ _ _) (fun u hu => by (simp [tkC] at hu; rcases hu with rfl | rfl | rfl | rfl <;> rfl)) (by decide) (by unfold maxLen; omega) (by omega) (by simp; omega) _ rfl ?_; intro gg cp w2 hown2 hg2 _ _; have HS2 := Lib.hid (HX.out _ _ _ (HS1.out.step ((((Below.refl w1.heap.size w1).alloc (Nat.le_refl _) _).alloc (by simp) _).alloc (by simp; omega) _)) hown2 hg2); clear hown2 hg2))
            go_roundw
            case rel => exact ⟨out ++ [⟨k, t, n, j⟩], j + len, g, some ⟨gg, 0, none⟩, cp, by omega, by rw [HL1.out]; omega, by rw [HL1.out], by go_num, by omega, HTX, by rw [HL1.out]; exact HS2⟩
            case measure => simp [intOf]; omega
    · obtain rfl : j = l.length := by omega
      obtain ⟨g, rfl⟩ : ∃ g, f = g + 1 := ⟨f - 1, by omega⟩
      have hta := HTA.out
      rw [List.drop_eq_nil_of_le (Nat.le_refl _)] at hta
      have HTX := Lib.hid (show AA = .good (out ++ [⟨6, [], 0, l.length⟩]) from hta.symm)
      have HX := Lib.hid (show ∀ (wx wy : World) (v' : Value), TSt w (.slice ao out.length cap) out wx → wy.ownsRow (w.heap.size + 1) 51 4 v' (out.length + 1) (out.flatMap tkC ++ tkC ⟨6, [], 0, l.length⟩) → wx.grownBy wy (Value.slice ao out.length cap).ownBlock → TSt w v' (out ++ [⟨6, [], 0, l.length⟩]) wy from fun _ _ _ h1 h2 h3 => h1.grown h2 h3)
      have HNT := Lib.hid (newTk1 ⟨6, [], 0, l.length⟩)
      have HL1 := Lib.hid (show (out ++ [(⟨6, [], 0, l.length⟩ : Tk)]).length = out.length + 1 by rw [List.length_append]; rfl)
      clear hta
      go_wp2_with (first
        | (at_builtin; refine wpList_append_lies _ rfl _ _ 38 rfl (w.heap.size + 1) 51 i0 _ 4 40 Tryz.underlying38 hi hz0 hz1 hz2 rfl (by decide) _ _ _ rfl (HS.out.own.alloc _) ⟨_, 0, none⟩ 1 1 (tkC ⟨6, [], 0, l.length⟩) rfl rfl (HNT.out _) (fun u hu => by (simp [tkC] at hu; rcases hu with rfl | rfl | rfl | rfl <;> rfl)) (by decide) (by unfold maxLen; omega) (by omega) (by have := HS.out.be.size; have := lt_of_block HS.out.fl; simp; omega) _ rfl ?_; intro gg cp w2 hown2 hg2 _ _; have HS2 := Lib.hid (HX.out _ _ _ (HS.out.step ((Below.refl wr.heap.size wr).alloc (Nat.le_refl _) _)) hown2 hg2); have l0 : w2.cell? ⟨w.heap.size, 0, none⟩ = some (.int .i64 0) := cell_at HS2.out.fl rfl; have l1 : w2.cell? ⟨w.heap.size, 1, none⟩ = some (.int .i64 0) := cell_at HS2.out.fl rfl; have m0 := free_at (j := 0) HS2.out.fl; have m1 := free_at (j := 1) HS2.out.fl; clear hown2 hg2))
      have HF := Lib.hid HS2.out.fin
      refine end7 (w := w) (.slice (some ⟨gg, 0, none⟩) (out.length + 1) cp) 0 0 rfl rfl rfl HF.out.fl ?_
      rw [HTX.out]
      refine ⟨⟨some ⟨gg, 0, none⟩, cp, by rw [HL1.out], ?_⟩, HF.out.be⟩
      exact ⟨HF.out.at, HF.out.cap⟩
end Go.Proofs.YtbejpgoedenpmaaGreatDoor
