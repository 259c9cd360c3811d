/- Tokens: the code's, whatever the text. -/
import Derived.Test.YtbejpgoedenpmaaGreatDoorTokToks
namespace Go.Proofs.YtbejpgoedenpmaaGreatDoor
open Go.RowKit
set_option linter.unusedVariables false
set_option maxRecDepth 100000 in
set_option maxHeartbeats 8000000 in
theorem tokens_any (l : List UInt8) (hl : l.length ≤ 256) (w : World) (hV : LibAt w) : Calls Tryz.prog 16 #[.string (bs l)] w (AnsTo w (tokA l)) := by
  obtain ⟨i0, hi, hz0, hz1, hz2⟩ := info_parts infoTok
  have HRUN := Lib.hid (fun (m : List UInt8) (hm : m.length ≤ 256) (wx : World) => runBlanks m (by omega) wx)
  have HFI := Lib.hid (fun (c : UInt8) (r : List UInt8) (hm : (c :: r).length ≤ 256) (wx : World) (hb : Below w.heap.size w wx) => first_any c r (by omega) wx (hV.held hb))
  have HSL := Lib.hid (sl_from l)
  have HFB := Lib.hid (fst_bounds)
  have HSK := Lib.hid TA_skip
  have HNB := Lib.hid drop_nb
  have HS0 := Lib.hid (TSt.start w)
  have hsz : (bs l).size = l.length := bs_size l
  have hA : tokA l = TA (l.length + 1) l 0 [] := if_neg (by omega)
  rw [hA]
  have HR0 := Lib.hid (runBlanks l (by omega))
  have HTW := Lib.hid (fun m : List UInt8 => (tw_spec blk m).2.2)
  obtain ⟨s, hs⟩ : ∃ s, bs l = s := ⟨_, rfl⟩
  rw [hs] at HSL HR0 hsz ⊢
  have hml : s.size ≤ maxLen := by show s.size ≤ 9223372036854775807; omega
  have h256 : ¬ (256 : Int) < (l.length : Int) := by omega
  obtain ⟨AA, hAA⟩ : ∃ AA, TA (l.length + 1) l 0 [] = AA := ⟨_, rfl⟩
  rw [hAA]
  have HAA := Lib.hid hAA
  clear hA hs hAA hV
  go_enter Tryz.func16, Tryz.ntmps16
  go_wp2_with (go_at_call 23; refine (HR0.out _).mono ?_; rintro e w1 ⟨rfl, hb1⟩; have HS1 := Lib.hid (HS0.out.step hb1); clear hb1)
  go_loopw [4, 5] (fun v a wr => ∃ (out : List Tk) (j f : Nat) (ao : Option Addr) (cap : Nat), j ≤ l.length ∧ out.length ≤ 64 ∧ v = .slice ao out.length cap ∧ a = .int .i64 j ∧ l.length - j < f ∧ Hid (TA f (l.drop j) j out = AA) ∧ Hid (∀ c r, l.drop j = c :: r → blk c = false) ∧ Hid (TSt w (.slice ao out.length cap) out wr)) (fun _ a _ => l.length - (intOf a).toNat)
  case atStart =>
    have hk := HTW.out l
    refine ⟨[], (l.takeWhile blk).length, l.length + 1 - (l.takeWhile blk).length, none, 0, hk, by simp, rfl, by go_num, by omega, Lib.hid ?_, Lib.hid (HNB.out l), HS1⟩
    have h := HSK.out (l.takeWhile blk).length (l.length + 1 - (l.takeWhile blk).length) l 0 [] (Nat.le_refl _)
    rw [Nat.sub_add_cancel (by omega), Nat.zero_add] at h
    rw [← h]; exact HAA.out
  case round =>
    obtain ⟨out, j, f, ao, cap, hj, hout, rfl, rfl, hf, HTA, HB, HS⟩ := hrel
    by_cases hlt : j < l.length
    · obtain ⟨c, r, hcr⟩ : ∃ c r, l.drop j = c :: r := ⟨_, _, List.drop_eq_getElem_cons hlt⟩
      have hnb := HB.out c r hcr
      have hlen : (c :: r).length = l.length - j := by rw [← hcr, List.length_drop]
      obtain ⟨g, rfl⟩ : ∃ g, f = g + 1 := ⟨f - 1, by omega⟩
      have hta := HTA.out
      rw [hcr, TA_step, if_neg (by rw [hnb]; decide)] at hta
      have hfi := fun wx hb => HFI.out c r (by omega) wx hb
      have hfb := HFB.out (c :: r) (by simp)
      have hsl := HSL.out j hj
      rw [hcr] at hsl
      have hcr2 := HRUN.out
      have hdr : ∀ len, l.drop (j + len) = (c :: r).drop len := fun len => by rw [← List.drop_drop, hcr]
      obtain ⟨m, hm⟩ : ∃ m, c :: r = m := ⟨_, rfl⟩
      rw [hm] at hta hfi hfb hsl hlen
      simp only [hm] at hdr
      obtain ⟨G, hG⟩ : ∃ G, fstG m = G := ⟨_, rfl⟩
      rw [hG] at hta hfi hfb
      obtain ⟨X, hX⟩ : ∃ X, bs m = X := ⟨_, rfl⟩
      rw [hX] at hfi hsl
      have HFC := Lib.hid hfi
      have HDR := Lib.hid hdr
      clear hfi hdr hm hX hG hcr hnb hcr2
      cases G with
      | err e a =>
        have HTX := Lib.hid (show AA = .bad e (j + a) from hta.symm)
        have heb : ((e : Int) != 0) = true := by have := hfb.1; simpa using (show ((e : Nat) : Int) ≠ 0 by omega)
        have hae := hfb.2
        have HWR := Lib.hid (show wrap64 ((j : Int) + (a : Int)) = (j : Int) + (a : Int) by unfold wrap64; omega)
        clear hae
        clear hta hfb
        have HFD := Lib.hid (show ∀ wx, Below w.heap.size w wx → Calls Tryz.prog 24 #[.string X] wx fun x w' => x = .returned (.tuple #[.agg #[.int .i64 0, .string ⟨#[]⟩, .int .u64 0, .int .i64 0], .int .i64 0, .agg #[.int .i64 (e : Nat), .int .i64 (a : Nat)]]) ∧ Below wx.heap.size wx w' from HFC.out)
        go_wp2_with (go_at_call 24; refine (HFD.out _ HS.out.be).mono ?_; rintro x w1 ⟨rfl, hb1⟩; have HS1 := Lib.hid (HS.out.step hb1); have l0 : w1.cell? ⟨w.heap.size, 0, none⟩ = some (.int .i64 0) := cell_at HS1.out.fl rfl; have l1 : w1.cell? ⟨w.heap.size, 1, none⟩ = some (.int .i64 0) := cell_at HS1.out.fl rfl; have m0 := free_at (j := 0) HS1.out.fl; have m1 := free_at (j := 1) HS1.out.fl; have p0 : w.heap.size < w1.heap.size := lt_of_block HS1.out.fl; have p1 : ¬ w.heap.size = w1.heap.size := (by omega); clear hb1)
        go_region
        all_goals go_wp2_with (fail)
        all_goals
          rw [HWR.out]
          have HV := Lib.hid (outErr HS1.out.fl HS1.out.be (e : Nat) ((j : Int) + (a : Int)) (.cells #[.int .i64 0, .string ⟨#[]⟩, .int .u64 0, .int .i64 0] 51) (.cells #[.int .i64 (e : Nat), .int .i64 (a : Nat)] 28))
          refine end6 (w := w) (.slice none 0 0) (e : Nat) ((j : Int) + (a : Int)) rfl rfl rfl HV.out.1 ?_
          rw [HTX.out]
          exact ⟨rfl, HV.out.2⟩
      | tok k t n len =>
        obtain ⟨b1, b2, b3, b4, b5⟩ := hfb
        have hta2 : (if out.length = 64 then Ans.bad 3 j else TA g (m.drop len) (j + len) (out ++ [⟨k, t, n, j⟩])) = AA := hta
        clear hta
        by_cases h64 : out.length = 64
        · rw [if_pos h64] at hta2
          have HTX := Lib.hid hta2.symm
          clear hta2
          have HFD := Lib.hid (show ∀ wx, Below w.heap.size w wx → Calls Tryz.prog 24 #[.string X] wx fun x w' => x = .returned (.tuple #[.agg #[.int .i64 (k : Nat), .string (bs t), .int .u64 (n : Nat), .int .i64 0], .int .i64 (len : Nat), .agg #[.int .i64 0, .int .i64 0]]) ∧ Below wx.heap.size wx w' from HFC.out)
          go_wp2_with (go_at_call 24; refine (HFD.out _ HS.out.be).mono ?_; rintro x w1 ⟨rfl, hb1⟩; have HS1 := Lib.hid (HS.out.step hb1); have l0 : w1.cell? ⟨w.heap.size, 0, none⟩ = some (.int .i64 0) := cell_at HS1.out.fl rfl; have l1 : w1.cell? ⟨w.heap.size, 1, none⟩ = some (.int .i64 0) := cell_at HS1.out.fl rfl; have m0 := free_at (j := 0) HS1.out.fl; have m1 := free_at (j := 1) HS1.out.fl; have p0 : w.heap.size < w1.heap.size := lt_of_block HS1.out.fl; have p1 : ¬ w.heap.size = w1.heap.size := (by omega); clear hb1)
          have HV := Lib.hid (outErr2 HS1.out.fl HS1.out.be 3 (j : Int) (.cells #[.int .i64 (k : Nat), .string (bs t), .int .u64 (n : Nat), .int .i64 0] 51) (.cells #[.int .i64 0, .int .i64 0] 28))
          refine end6 (w := w) (.slice none 0 0) 3 (j : Int) rfl rfl rfl HV.out.1 ?_
          rw [HTX.out]
          exact ⟨rfl, HV.out.2⟩
        · rw [if_neg h64] at hta2
          have HTX := Lib.hid hta2
          clear hta2
          have HFD := Lib.hid (show ∀ wx, Below w.heap.size w wx → Calls Tryz.prog 24 #[.string X] wx fun x w' => x = .returned (.tuple #[.agg #[.int .i64 (k : Nat), .string (bs t), .int .u64 (n : Nat), .int .i64 0], .int .i64 (len : Nat), .agg #[.int .i64 0, .int .i64 0]]) ∧ Below wx.heap.size wx w' from HFC.out)
          have h64b : ((out.length : Int) == 64) = false := beq_eq_false_iff_ne.2 (by omega)
          have hlj : j + len ≤ l.length := by omega
          have hsl2 : ∀ wx, (Instr.slice 9 (.string s) (some (.int .i64 ((j : Int) + (len : Int)))) none none).run Tryz.prog wx = .ok (.string (bs (l.drop (j + len)))) wx := fun wx => HSL.out (j + len) hlj wx
          have hrun := HRUN.out (l.drop (j + len)) (by rw [List.length_drop]; omega)
          have hnbx := HNB.out (l.drop (j + len))
          have hskx := HSK.out ((l.drop (j + len)).takeWhile blk).length (g - ((l.drop (j + len)).takeWhile blk).length) (l.drop (j + len)) (j + len) (out ++ [⟨k, t, n, j⟩]) (Nat.le_refl _)
          have htw := HTW.out (l.drop (j + len))
          rw [List.length_drop] at htw
          rw [List.drop_drop] at hskx hnbx
          obtain ⟨nb, hnb⟩ : ∃ nb, ((l.drop (j + len)).takeWhile blk).length = nb := ⟨_, rfl⟩
          rw [hnb] at hrun hnbx hskx htw
          rw [Nat.sub_add_cancel (by omega)] at hskx
          have HTY := Lib.hid (show TA (g - nb) (l.drop (j + len + nb)) (j + len + nb) (out ++ [⟨k, t, n, j⟩]) = AA by rw [← hskx, HDR.out]; exact HTX.out)
          have HNX := Lib.hid hnbx
          obtain ⟨Y, hY⟩ : ∃ Y, bs (l.drop (j + len)) = Y := ⟨_, rfl⟩
          rw [hY] at hrun hsl2
          have HRX := Lib.hid hrun
          have HX := Lib.hid (show ∀ (wx wy : World) (v' : Value), TSt w (.slice ao out.length cap) out wx → wy.ownsRow (w.heap.size + 1) 51 4 v' (out.length + 1) (out.flatMap tkC ++ tkC ⟨k, t, n, j⟩) → wx.grownBy wy (Value.slice ao out.length cap).ownBlock → TSt w v' (out ++ [⟨k, t, n, j⟩]) wy from fun _ _ _ h1 h2 h3 => h1.grown h2 h3)
          have HL1 := Lib.hid (show (out ++ [(⟨k, t, n, j⟩ : Tk)]).length = out.length + 1 by rw [List.length_append]; rfl)
          have HNT := Lib.hid (newTk ⟨k, t, n, j⟩)
          clear hrun hnbx hskx hnb hY b3 b4 b5 HRUN HNB HSK HTW HFB HFI
          go_wp2_with (first
            | (go_at_call 24; refine (HFD.out _ HS.out.be).mono ?_; rintro x w1 ⟨rfl, hb1⟩; have HS1 := Lib.hid (HS.out.step hb1); have l0 : w1.cell? ⟨w.heap.size, 0, none⟩ = some (.int .i64 0) := cell_at HS1.out.fl rfl; have l1 : w1.cell? ⟨w.heap.size, 1, none⟩ = some (.int .i64 0) := cell_at HS1.out.fl rfl; have m0 := free_at (j := 0) HS1.out.fl; have m1 := free_at (j := 1) HS1.out.fl; have p0 : w.heap.size < w1.heap.size := lt_of_block HS1.out.fl; have p1 : ¬ w.heap.size = w1.heap.size := (by omega); clear hb1)
            | (at_builtin; refine wpList_append_lies _ rfl _ _ 38 rfl (w.heap.size + 1) 51 i0 _ 4 40 Tryz.underlying38 hi hz0 hz1 hz2 rfl (by decide) _ _ _ rfl (((HS1.out.own.alloc _).alloc _).alloc _) ⟨_, 0, none⟩ 1 1 (tkC ⟨k, t, n, j⟩) rfl rfl (HNT.out _ _ _) (fun u hu => by (simp [tkC] at hu; rcases hu with rfl | rfl | rfl | rfl <;> rfl)) (by decide) (by unfold maxLen; omega) (by omega) (by simp; omega) _ rfl ?_; intro gg cp w2 hown2 hg2 _ _; have HS2 := Lib.hid (HX.out _ _ _ (HS1.out.step ((((Below.refl w1.heap.size w1).alloc (Nat.le_refl _) _).alloc (by simp) _).alloc (by simp; omega) _)) hown2 hg2); clear hown2 hg2)
            | (go_at_call 23; refine (HRX.out _).mono ?_; rintro e w3 ⟨rfl, hb3⟩; have HS3 := Lib.hid (HS2.out.step hb3); clear hb3))
          go_roundw
          case rel => exact ⟨out ++ [⟨k, t, n, j⟩], j + len + nb, g - nb, some ⟨gg, 0, none⟩, cp, by omega, by rw [HL1.out]; omega, by rw [HL1.out], by go_num, by omega, HTY, HNX, by rw [HL1.out]; exact HS3⟩
          case measure => simp [intOf]; omega
    · obtain rfl : j = l.length := by omega
      obtain ⟨g, rfl⟩ : ∃ g, f = g + 1 := ⟨f - 1, by omega⟩
      have hta := HTA.out
      rw [List.drop_eq_nil_of_le (Nat.le_refl _)] at hta
      have HTX := Lib.hid (show AA = .good (out ++ [⟨6, [], 0, l.length⟩]) from hta.symm)
      have HX := Lib.hid (show ∀ (wx wy : World) (v' : Value), TSt w (.slice ao out.length cap) out wx → wy.ownsRow (w.heap.size + 1) 51 4 v' (out.length + 1) (out.flatMap tkC ++ tkC ⟨6, [], 0, l.length⟩) → wx.grownBy wy (Value.slice ao out.length cap).ownBlock → TSt w v' (out ++ [⟨6, [], 0, l.length⟩]) wy from fun _ _ _ h1 h2 h3 => h1.grown h2 h3)
      have HNT := Lib.hid (newTk1 ⟨6, [], 0, l.length⟩)
      have HL1 := Lib.hid (show (out ++ [(⟨6, [], 0, l.length⟩ : Tk)]).length = out.length + 1 by rw [List.length_append]; rfl)
      clear hta
      go_wp2_with (first
        | (at_builtin; refine wpList_append_lies _ rfl _ _ 38 rfl (w.heap.size + 1) 51 i0 _ 4 40 Tryz.underlying38 hi hz0 hz1 hz2 rfl (by decide) _ _ _ rfl (HS.out.own.alloc _) ⟨_, 0, none⟩ 1 1 (tkC ⟨6, [], 0, l.length⟩) rfl rfl (HNT.out _) (fun u hu => by (simp [tkC] at hu; rcases hu with rfl | rfl | rfl | rfl <;> rfl)) (by decide) (by unfold maxLen; omega) (by omega) (by have := HS.out.be.size; have := lt_of_block HS.out.fl; simp; omega) _ rfl ?_; intro gg cp w2 hown2 hg2 _ _; have HS2 := Lib.hid (HX.out _ _ _ (HS.out.step ((Below.refl wr.heap.size wr).alloc (Nat.le_refl _) _)) hown2 hg2); have l0 : w2.cell? ⟨w.heap.size, 0, none⟩ = some (.int .i64 0) := cell_at HS2.out.fl rfl; have l1 : w2.cell? ⟨w.heap.size, 1, none⟩ = some (.int .i64 0) := cell_at HS2.out.fl rfl; have m0 := free_at (j := 0) HS2.out.fl; have m1 := free_at (j := 1) HS2.out.fl; clear hown2 hg2))
      have HF := Lib.hid HS2.out.fin
      refine end6 (w := w) (.slice (some ⟨gg, 0, none⟩) (out.length + 1) cp) 0 0 rfl rfl rfl HF.out.fl ?_
      rw [HTX.out]
      refine ⟨⟨some ⟨gg, 0, none⟩, cp, by rw [HL1.out], ?_⟩, HF.out.be⟩
      exact ⟨HF.out.at, HF.out.cap⟩
end Go.Proofs.YtbejpgoedenpmaaGreatDoor
