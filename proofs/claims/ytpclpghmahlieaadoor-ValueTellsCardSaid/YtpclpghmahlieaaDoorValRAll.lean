/- Contract of chapter 8's reference: Text, of any value. -/
import Derived.Test.YtpclpghmahlieaaDoorValRTop
namespace Go.Proofs.YtpclpghmahlieaaDoor
open Go.RowKit
set_option linter.unusedVariables false
def sepK (k : Int) : Nat → List UInt8 := if k = 14 then colonS else commaS
theorem sepK_len (k : Int) (i : Nat) : (sepK k i).length ≤ 1 := by
  unfold sepK; split
  · simp [colonS]
  · unfold commaS; split <;> simp
set_option maxRecDepth 20000 in
set_option maxHeartbeats 4000000 in
theorem refText_step (S : Nat → Prop) (T : VT) (w : World) (H : ValAt w S T) (hk : numK T.kind = false) (hg : greatT T ≤ 1000000) (hI : ∀ i, i < T.len → ∀ wx, Below w.heap.size w wx → RTextTo (T.kid i) wx) : RTextTo T w := by
  have hsz := bs_size
  have hw := ((valAt_iff T).1 H).1
  have hlen := val_len H
  have hwf := valAt_wf T H
  obtain ⟨h0, h1, hwk⟩ := (wfN_iff T).1 hwf
  have hgq := greatT_eq T
  have HC := Lib.hid (fun i (hi : i < T.len) wx (hb : Below w.heap.size w wx) => (kids_at H hb hi).1)
  have HI := Lib.hid hI
  obtain ⟨F, hF⟩ : ∃ F : Nat → List UInt8, F = fun i => textT (T.kid i) := ⟨_, rfl⟩
  have HF := Lib.hid hF
  obtain ⟨G, hG⟩ : ∃ G : Nat → Nat, G = fun i => greatT (T.kid i) := ⟨_, rfl⟩
  have hFG : ∀ i, i < T.len → (F i).length + 1 ≤ 24 * G i := fun i hi => by rw [hF, hG]; exact text_len _ (hwk i hi)
  have HL := Lib.hid (fun (j : Nat) (hj : j ≤ T.len) => show (joinTo (sepK T.kind) F j).length ≤ 24 * 1000000 from by
    have a := joinTo_len (s := sepK T.kind) (f := F) (g := G) (sepK_len _) j (fun i hi => hFG i (by omega))
    have b := sumTo_le (f := G) hj
    rw [← hG] at hgq
    omega)
  have HFL := Lib.hid (fun (j : Nat) (hj : j < T.len) => show (F j).length ≤ 24 * 1000000 from by
    have a := hFG j hj
    have b := sumTo_ge (f := G) hj
    rw [← hG] at hgq
    omega)
  have hts : T.text.size ≤ 1000000 := by omega
  have HN := Lib.hid (fun wx => refNumber_any T.kind wx)
  rw [hk] at HN
  have hkk : ¬ (1 ≤ T.kind ∧ T.kind ≤ 9) := by unfold numK at hk; simpa using hk
  have HB0 := Lib.hid ((Below.refl w.heap.size w).alloc (Nat.le_refl _) (valO T))
  have HQ0 := Lib.hid (alloc_at w (valO T))
  have HA := Lib.hid bs_append
  have HQT := Lib.hid (fun wx => refQuoted_any T.text (by omega) wx)
  have HDG := Lib.hid (fun wx => refDigits8 T.num h0 h1 wx)
  have hdl := dec_len T.num.toNat (by omega)
  have k58 : (⟨#[58]⟩ : ByteArray) = bs [58] := rfl
  have k44 : (⟨#[44]⟩ : ByteArray) = bs [44] := rfl
  have HX10 := Lib.hid (fun (h : T.kind = 10) => show 39 :: (quoteL T.text.data.toList ++ [39]) = textT T from (textT_10 h).symm)
  have HX11 := Lib.hid (fun (h : T.kind = 11 ∨ T.kind = 12) => show [91] ++ joinTo (sepK T.kind) F T.len ++ [93] = textT T by rw [textT_list h, HF.out]; unfold sepK; rw [if_neg (by omega)]; rfl)
  have HX13 := Lib.hid (fun (h : T.kind = 13) => show [40] ++ joinTo (sepK T.kind) F T.len ++ [41] = textT T by rw [textT_struct h, HF.out]; unfold sepK; rw [if_neg (by omega)]; rfl)
  have HX14 := Lib.hid (fun (h : T.kind = 14) => show [60] ++ Lib.decDigits T.num.toNat ++ joinTo (sepK T.kind) F T.len ++ [62] = textT T by rw [textT_union h, HF.out]; unfold sepK; rw [if_pos h]; simp)
  have HX0 := Lib.hid (fun (a : T.kind ≠ 10) (b : T.kind ≠ 11) (c : T.kind ≠ 12) (d : T.kind ≠ 13) (e : T.kind ≠ 14) => show [63] = textT T by rw [textT_num a b c d e, datK_no hk]; rfl)
  clear H hI hF hG hFG hw hwf hwk hgq hk
  unfold RTextTo
  go_enter Tryd.func15, Tryd.ntmps15
  go_wp2_with (first
    | (go_at_call 21; refine (HN.out _).mono ?_; rintro e w1 ⟨rfl, rfl⟩))
  go_loopw [4, 5] (fun s i wr => ∃ j : Nat, j ≤ T.len ∧ i = .int .i64 j ∧ s = .string (bs (joinTo (sepK T.kind) F j)) ∧ Hid (wr.heap[w.heap.size]? = some (valO T)) ∧ Hid (Below w.heap.size w wr)) (fun _ i _ => T.len - (intOf i).toNat)
  case atStart => exact ⟨0, Nat.zero_le _, rfl, rfl, HQ0, HB0⟩
  case round =>
    obtain ⟨j, hj, rfl, rfl, HQ, HBr⟩ := hrel
    have hlj := HL.out j hj
    have d0 : wr.cell? ⟨w.heap.size, 0, none⟩ = some (.int .i64 T.kind) := cell_at HQ.out rfl
    have hnx := join_succ (sepK T.kind) F j
    obtain ⟨J, hJ⟩ : ∃ J, joinTo (sepK T.kind) F j = J := ⟨_, rfl⟩
    rw [hJ] at hlj hnx
    have HJ := Lib.hid hJ
    rw [hJ]
    clear hJ
    by_cases hlt : j < T.len
    · have hfl := HFL.out j hlt
      obtain ⟨b, off, hia, _, _, c0, c1, c2, c3⟩ := HC.out j hlt wr HBr.out
      have d3 : wr.cell? ⟨w.heap.size, 3, none⟩ = some (.slice (some ⟨b, off, none⟩) T.len T.cap) := by rw [← hia]; exact cell_at HQ.out rfl
      have hIk := HI.out j hlt wr HBr.out
      unfold RTextTo at hIk
      have hfj : textT (T.kid j) = F j := by rw [HF.out]
      rw [hfj] at hIk
      have HK := Lib.hid hIk
      obtain ⟨f, hf⟩ : ∃ f, F j = f := ⟨_, rfl⟩
      rw [hf] at HK hfl hnx
      clear hIk hfj hf hia
      by_cases k14 : T.kind = 14
      · have t14 : (T.kind == 14) = true := by simpa using k14
        have HNX := Lib.hid (show J ++ [58] ++ f = joinTo (sepK T.kind) F (j + 1) by rw [hnx]; unfold sepK; rw [if_pos k14]; simp [colonS])
        have q1 : ¬ 9223372036854775807 < J.length + 1 := by omega
        have q2 : ¬ 9223372036854775807 < J.length + 1 + f.length := by omega
        clear hnx k14
        go_wp2_with (first
          | (go_at_call 15; refine (HK.out).mono ?_; rintro e w2 ⟨rfl, hb2⟩; have HQ2 := Lib.hid (box_keep HQ.out hb2); have HB2 := Lib.hid (below_step8' HBr.out hb2); clear hb2))
        have hA1 := HA.out J [58]
        have hA2 := HA.out (J ++ [58]) f
        go_roundw
        case rel => exact ⟨j + 1, by omega, by go_num, by rw [hA1, hA2, HNX.out], HQ2, HB2⟩
        case measure => simp [intOf]; omega
      · have t14 : (T.kind == 14) = false := by simpa using k14
        by_cases hj0 : 0 < j
        · have t0 : decide ((0 : Int) < j) = true := by simp; omega
          have t0' : decide (0 < j) = true := by simpa using hj0
          have HNX := Lib.hid (show J ++ [44] ++ f = joinTo (sepK T.kind) F (j + 1) by rw [hnx]; unfold sepK; rw [if_neg k14]; unfold commaS; rw [if_pos hj0]; simp)
          have q1 : ¬ 9223372036854775807 < J.length + 1 := by omega
          have q2 : ¬ 9223372036854775807 < J.length + 1 + f.length := by omega
          clear hnx k14 hj0
          go_wp2_with (first
            | (go_at_call 15; refine (HK.out).mono ?_; rintro e w2 ⟨rfl, hb2⟩; have HQ2 := Lib.hid (box_keep HQ.out hb2); have HB2 := Lib.hid (below_step8' HBr.out hb2); clear hb2))
          have hA1 := HA.out J [44]
          have hA2 := HA.out (J ++ [44]) f
          go_roundw
          case rel => exact ⟨j + 1, by omega, by go_num, by rw [hA1, hA2, HNX.out], HQ2, HB2⟩
          case measure => simp [intOf]; omega
        · have t0 : decide ((0 : Int) < j) = false := by simp; omega
          have t0' : decide (0 < j) = false := by simpa using hj0
          have HNX := Lib.hid (show J ++ f = joinTo (sepK T.kind) F (j + 1) by rw [hnx]; unfold sepK; rw [if_neg k14]; unfold commaS; rw [if_neg hj0]; simp)
          have q2 : ¬ 9223372036854775807 < J.length + f.length := by omega
          clear hnx k14 hj0
          go_wp2_with (first
            | (go_at_call 15; refine (HK.out).mono ?_; rintro e w2 ⟨rfl, hb2⟩; have HQ2 := Lib.hid (box_keep HQ.out hb2); have HB2 := Lib.hid (below_step8' HBr.out hb2); clear hb2))
          have hA2 := HA.out J f
          go_roundw
          case rel => exact ⟨j + 1, by omega, by go_num, by rw [hA2, HNX.out], HQ2, HB2⟩
          case measure => simp [intOf]; omega
    · obtain rfl : j = T.len := by omega
      have d1 : wr.cell? ⟨w.heap.size, 1, none⟩ = some (.int .u64 T.num) := cell_at HQ.out rfl
      have d2 : wr.cell? ⟨w.heap.size, 2, none⟩ = some (.string T.text) := cell_at HQ.out rfl
      have d3 : wr.cell? ⟨w.heap.size, 3, none⟩ = some (.slice T.ia T.len T.cap) := cell_at HQ.out rfl
      have m91 : (⟨#[91]⟩ : ByteArray) = bs [91] := rfl
      have m93 : (⟨#[93]⟩ : ByteArray) = bs [93] := rfl
      have m40 : (⟨#[40]⟩ : ByteArray) = bs [40] := rfl
      have m41 : (⟨#[41]⟩ : ByteArray) = bs [41] := rfl
      have m60 : (⟨#[60]⟩ : ByteArray) = bs [60] := rfl
      have m62 : (⟨#[62]⟩ : ByteArray) = bs [62] := rfl
      have m63 : (⟨#[63]⟩ : ByteArray) = bs [63] := rfl
      clear hnx
      by_cases k10 : T.kind = 10
      · have t10 : (T.kind == 10) = true := by simpa using k10
        have HE := Lib.hid (HX10.out k10)
        clear k10
        go_wp2_with (first
          | (go_at_call 24; refine (HQT.out _).mono ?_; rintro e w2 ⟨rfl, hb2⟩))
        go_ret
        exact ⟨ret_s8 HE.out, below_step8' HBr.out hb2⟩
      have t10 : (T.kind == 10) = false := by simpa using k10
      by_cases k11 : T.kind = 11
      · have t11 : (T.kind == 11) = true := by simpa using k11
        have HE := Lib.hid (HX11.out (.inl k11))
        rw [HJ.out] at HE
        have hA1 := Lib.hid (HA.out [91] J)
        have hA2 := Lib.hid (HA.out ([91] ++ J) [93])
        clear k10 k11
        go_wp2_with (fail)
        go_ret
        exact ⟨(congrArg (fun x => Ending.returned (Value.string x)) (by rw [hA1.out, hA2.out])).trans (ret_s8 HE.out), HBr.out⟩
      have t11 : (T.kind == 11) = false := by simpa using k11
      by_cases k12 : T.kind = 12
      · have t12 : (T.kind == 12) = true := by simpa using k12
        have HE := Lib.hid (HX11.out (.inr k12))
        rw [HJ.out] at HE
        have hA1 := Lib.hid (HA.out [91] J)
        have hA2 := Lib.hid (HA.out ([91] ++ J) [93])
        clear k10 k11 k12
        go_wp2_with (fail)
        go_ret
        exact ⟨(congrArg (fun x => Ending.returned (Value.string x)) (by rw [hA1.out, hA2.out])).trans (ret_s8 HE.out), HBr.out⟩
      have t12 : (T.kind == 12) = false := by simpa using k12
      by_cases k13 : T.kind = 13
      · have t13 : (T.kind == 13) = true := by simpa using k13
        have HE := Lib.hid (HX13.out k13)
        rw [HJ.out] at HE
        have hA1 := Lib.hid (HA.out [40] J)
        have hA2 := Lib.hid (HA.out ([40] ++ J) [41])
        clear k10 k11 k12 k13
        go_wp2_with (fail)
        go_ret
        exact ⟨(congrArg (fun x => Ending.returned (Value.string x)) (by rw [hA1.out, hA2.out])).trans (ret_s8 HE.out), HBr.out⟩
      have t13 : (T.kind == 13) = false := by simpa using k13
      by_cases k14 : T.kind = 14
      · have t14 : (T.kind == 14) = true := by simpa using k14
        have HE := Lib.hid (HX14.out k14)
        rw [HJ.out] at HE
        obtain ⟨dg, hdg⟩ : ∃ dg, Lib.decDigits T.num.toNat = dg := ⟨_, rfl⟩
        rw [hdg] at HE HDG hdl
        have hA1 := Lib.hid (HA.out [60] dg)
        have hA2 := Lib.hid (HA.out ([60] ++ dg) J)
        have hA3 := Lib.hid (HA.out ([60] ++ dg ++ J) [62])
        clear k10 k11 k12 k13 k14 hdg
        go_wp2_with (first
          | (go_at_call 23; refine (HDG.out _).mono ?_; rintro e w2 ⟨rfl, hb2⟩))
        go_ret
        exact ⟨(congrArg (fun x => Ending.returned (Value.string x)) (by rw [hA1.out, hA2.out, hA3.out])).trans (ret_s8 HE.out), below_step8' HBr.out hb2⟩
      have t14 : (T.kind == 14) = false := by simpa using k14
      have HE := Lib.hid (HX0.out k10 k11 k12 k13 k14)
      clear k10 k11 k12 k13 k14
      go_wp2_with (fail)
      go_ret
      exact ⟨ret_s8 HE.out, HBr.out⟩
theorem refText8_any (S : Nat → Prop) : ∀ (T : VT) (w : World), ValAt w S T → greatT T ≤ 1000000 → RTextTo T w := by
  refine VT.ind fun T ih w H hg => ?_
  cases hk : numK T.kind with
  | true => exact refText_num T w ((valAt_iff T).1 H).1 hk
  | false => exact refText_step S T w H hk hg (fun i hi wx hb => ih i hi wx (kids_at H hb hi).2 (Nat.le_trans (Nat.le_of_lt (kid_great hi)) hg))
end Go.Proofs.YtpclpghmahlieaaDoor
