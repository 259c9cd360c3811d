/- The reference's Text. -/
import Derived.Test.YtcpjbimojliogaaGreatDoorPathRefE
import Derived.Test.YtcpjbimojliogaaGreatDoorPathText
namespace Go.Proofs.YtcpjbimojliogaaGreatDoor
open Go Go.RowKit
set_option linter.unusedVariables false

theorem bs_list (b : ByteArray) : bs b.data.toList = b := by cases b; rfl
theorem bs_data (l : List UInt8) : (bs l).data.toList = l := rfl
set_option maxRecDepth 100000 in
set_option maxHeartbeats 8000000 in
theorem rtext12_any (ao : Option Addr) (len cap : Nat) (L : Nat → TypeV) (hlen : len ≤ 1000000) (t : Int) (pa : Option Addr) (n pc : Nat) (P : Nat → StepV) (hn : n ≤ 1000000) (w : World) (H : ∀ i, i < len → TypeAt w ao i (L i)) (HP : ∀ i, i < n → StepAt w pa i (P i)) :
    Calls Tryz.prog 11 #[.slice ao len cap, .int .i64 t, .slice pa n pc] w fun e w' => e = .returned (textV (textA L len t (stepsL P n))) ∧ Below w.heap.size w w' := by
  have HK := Lib.hid (known12_any ao len cap L t hlen w H)
  have HNX := Lib.hid (fun (u : Nat) (hu : u < len) (s : StepV) wx (hb : Below w.heap.size w wx) => refNext12_any ao len cap L hlen u hu s wx (hold H hb))
  have hta : textA L len t (stepsL P n) = if stepsL P n = [] then none else (endA L len t (stepsL P n)).map fun u => (textG L (alongL L t.toNat (stepsL P n)) [], u) := rfl
  have hnz : (stepsL P n = []) ↔ n = 0 := by rw [← List.length_eq_zero_iff, stepsL_len]
  have hea : endA L len t (stepsL P n) = if hasT L len t then endL L t.toNat (stepsL P n) else none := rfl
  have HH := Lib.hid H
  have HPP := Lib.hid HP
  clear H HP
  cases hT : hasT L len t with
  | false =>
    rw [hT] at hea HK
    have e1 : textA L len t (stepsL P n) = none := by rw [hta, hea]; simp
    rw [e1]
    clear hta e1 hea hnz
    go_enter Tryz.func11, Tryz.ntmps11
    go_wp2_with (go_at_call 25; refine HK.out.mono ?_; rintro e w1 ⟨rfl, hb⟩)
    go_ret3
    exact ⟨rfl, hb⟩
  | true =>
    rw [hT] at hea HK
    obtain ⟨k0, rfl, hk, hok⟩ := hasT_in hT
    have hv := ok_all hok
    rw [if_pos rfl, Int.toNat_natCast] at hea
    rw [Int.toNat_natCast, hea] at hta
    have HNM := Lib.hid (names_ok hok)
    by_cases h0 : n = 0
    · have e1 : textA L len (k0 : Nat) (stepsL P n) = none := by rw [hta, if_pos (hnz.2 h0)]
      rw [e1]
      have kz : ((n : Int) == 0) = true := by simp; omega
      clear hta e1 h0 hea hnz
      go_enter Tryz.func11, Tryz.ntmps11
      go_wp2_with (go_at_call 25; refine HK.out.mono ?_; rintro e w1 ⟨rfl, hb⟩)
      go_ret3
      exact ⟨rfl, hb⟩
    · have kz : ((n : Int) == 0) = false := by simp; omega
      rw [if_neg (fun h => h0 (hnz.1 h))] at hta
      rw [hta]
      clear hta hea hnz h0
      go_enter Tryz.func11, Tryz.ntmps11
      go_wp2_with (go_at_call 25; refine HK.out.mono ?_; rintro e w1 ⟨rfl, hb⟩)
      have HB1 := Lib.hid hb
      have HVV := Lib.hid hv
      clear hb kz
      go_loopw [1, 9, 10] (fun p q c wr => ∃ (k u : Nat) (tx : ByteArray), p = .int .i64 (u : Nat) ∧ q = .string tx ∧ c = .int .i64 (k : Nat) ∧ k ≤ n ∧ u < len ∧ tx.size ≤ 20 * k ∧ (0 < k ↔ 0 < tx.size) ∧ endL L k0 (stepsL P n) = endL L u ((stepsL P n).drop k) ∧ textG L (alongL L k0 (stepsL P n)) [] = textG L (alongL L u ((stepsL P n).drop k)) tx.data.toList ∧ Below w1.heap.size w1 wr)
        (fun _ _ c _ => n - (intOf c).toNat)
      case atStart => exact ⟨0, k0, ⟨#[]⟩, rfl, rfl, rfl, by omega, hk, by simp [ByteArray.size], by simp [ByteArray.size], rfl, rfl, Below.refl _ _⟩
      case round =>
        obtain ⟨k, u, tx, rfl, rfl, rfl, hkn, hu, hts, hkt, hel, htg, hbl⟩ := hrel
        have hbw : Below w.heap.size w wr := HB1.out.trans (hbl.mono HB1.out.size)
        by_cases hlt : k < n
        · obtain ⟨sb, so, rfl, s0, s1, swf⟩ := holdP HPP.out hbw k hlt
          obtain ⟨⟨be, nn⟩, hs⟩ : ∃ s, P k = s := ⟨_, rfl⟩
          rw [stepsL_drop P hlt, hs] at hel htg
          simp only [endL] at hel
          simp only [alongL, textG] at htg
          rw [hs] at s0 s1 swf
          simp only at s0 s1 swf
          have HNE := Lib.hid (HNX.out u hu ⟨be, nn⟩)
          have hd : decide ((k : Int) < n) = true := by simp; omega
          have hsbl : sb < wr.heap.size := World.block_lt_of_cell? wr _ s0
          have HKT := Lib.hid hkt
          have HTS := Lib.hid hts
          unfold stepVal at HNE
          obtain ⟨T, hTT⟩ : ∃ T, L u = T := ⟨_, rfl⟩
          cases hnb : nextB (L u) ⟨be, nn⟩ with
          | false =>
            rw [hnb, if_neg (by decide)] at hel
            rw [show rnextZ (L u) ⟨be, nn⟩ = -1 by unfold rnextZ; rw [hnb]; rfl] at HNE
            have HEL := Lib.hid hel
            clear hel htg hkt hts hTT hnb
            go_wp2_with (go_at_call 35; refine (HNE.out _ hbw).mono ?_; rintro e w2 ⟨rfl, hb2⟩)
            go_ret3
            rw [HEL.out]
            exact ⟨rfl, hbw.trans (hb2.mono hbw.size)⟩
          | true =>
            have hnp := next_part (s := ⟨be, nn⟩) HVV.out hu
            rw [hnb, if_pos rfl] at hel
            rw [show rnextZ (L u) ⟨be, nn⟩ = nextZ (L u) ⟨be, nn⟩ by unfold rnextZ; rw [hnb]; rfl] at HNE
            obtain ⟨u2, hu2⟩ := Int.eq_ofNat_of_zero_le hnp.1
            have hnn : nextN L u ⟨be, nn⟩ = u2 := by unfold nextN; rw [hu2, Int.toNat_natCast]
            rw [hu2] at HNE
            rw [hnn] at hel htg hnp
            have HU2 := Lib.hid hnp.2
            have hn0 : 0 ≤ nn := by unfold nextB at hnb; simp only [Bool.and_eq_true, decide_eq_true_eq] at hnb; exact hnb.1
            obtain ⟨j, rfl⟩ := Int.eq_ofNat_of_zero_le hn0
            have ku : decide (((u2 : Nat) : Int) < 0) = false := decide_eq_false (by omega)
            have HEL := Lib.hid hel
            cases be with
            | true =>
              have hjb : j < 64 := by
                unfold nextB at hnb
                simp only [elK, Bool.and_eq_true, Bool.or_eq_true, beq_iff_eq, decide_eq_true_eq, if_true] at hnb
                have := (HVV.out u hu).bound (by omega)
                omega
              have hwu : IntKind.u64.wrap ((j : Nat) : Int) = ((j : Nat) : Int) := IntWalk.u64_in _ (by omega)
              have HD := Lib.hid (fun wx => refDigits_any j (by omega) wx)
              have hws := wS_size (n := j) (by omega)
              have hd2 := dec2' j (by omega)
              obtain ⟨dk, hdk⟩ : ∃ dk, bs (Lib.decDigits j) = dk := ⟨_, rfl⟩
              have hds : dk.size = (Lib.decDigits j).length := by rw [← hdk, bs_size]
              obtain ⟨wk, hwk⟩ : ∃ wk, wS j = wk := ⟨_, rfl⟩
              have hsum : (⟨#[91]⟩ : ByteArray) ++ dk ++ ⟨#[93]⟩ = wk := by rw [← hwk, ← hdk]; rfl
              have hadd : addT L (u, ⟨true, (j : Nat)⟩) tx.data.toList = (tx ++ wk).data.toList := by
                unfold addT
                rw [← hwk, ByteArray.data_append]
                unfold wS
                simp [ByteArray.data_append, bs]
              rw [hwk] at hws
              rw [hdk] at HD
              rw [hadd] at htg
              have HTG := Lib.hid htg
              have o1 : ¬ 9223372036854775807 < (⟨#[91]⟩ : ByteArray).size + dk.size := by rw [show (⟨#[91]⟩ : ByteArray).size = 1 from rfl, hds]; omega
              have o2 : ¬ 9223372036854775807 < ((⟨#[91]⟩ : ByteArray) ++ dk).size + (⟨#[93]⟩ : ByteArray).size := by rw [ByteArray.size_append, show (⟨#[91]⟩ : ByteArray).size = 1 from rfl, show (⟨#[93]⟩ : ByteArray).size = 1 from rfl, hds]; omega
              have o3 : ¬ 9223372036854775807 < tx.size + wk.size := by omega
              have HWS := Lib.hid (show 0 < wk.size ∧ wk.size ≤ 4 by omega)
              clear hwk hdk hds hd2 hws hadd htg hel hnb hu2 hnn hnp hkt hts hTT
              go_wp2_with (first
                | (go_at_call 35; refine (HNE.out _ hbw).mono ?_; rintro e w2 ⟨rfl, hb2⟩; have s0 := keep6 hb2 s0; have s1 := keep6 hb2 s1)
                | (go_at_call 36; refine (HD.out _).mono ?_; rintro e w3 ⟨rfl, hb3⟩))
              go_roundw
              case measure => simp [intOf]; omega
              case rel => exact ⟨k + 1, u2, tx ++ wk, rfl, rfl, by go_num, by omega, HU2.out, by rw [ByteArray.size_append]; have := HWS.out; have := HTS.out; omega, by rw [ByteArray.size_append]; have := HWS.out; omega, HEL.out, HTG.out, (hbl.trans (hb2.mono hbl.size)).trans (hb3.mono (by have := hbl.size; have := hb2.size; omega))⟩
            | false =>
              have hji : itK (L u).kind = true ∧ j < (L u).ilen := by
                unfold nextB at hnb
                simp only [Bool.and_eq_true, decide_eq_true_eq] at hnb
                have := hnb.2
                simp only [Bool.false_eq_true, if_false, Bool.and_eq_true, decide_eq_true_eq] at this
                exact ⟨this.1, by omega⟩
              have hnk : namedK (L u).kind = true := by
                have := hji.1
                simp only [itK, Bool.or_eq_true, beq_iff_eq] at this
                simp only [namedK]
                rcases this with h | h <;> simp [h]
              obtain ⟨hnm, -⟩ := HNM.out u hu hnk j hji.2
              have hns : 0 < ((L u).items j).name.size ∧ ((L u).items j).name.size ≤ 16 := by rw [name_eq] at hnm; simp at hnm; omega
              obtain ⟨tb, tf, rfl, x0, x1, x2, x3, x4, x5, wf, hit⟩ := hold HH.out hbw u hu
              obtain ⟨ib, io, hia, y0, y1, y2, y3, y4, wi⟩ := hit.2 j hji.2
              have hjl := hji.2
              have hadd : addT L (u, ⟨false, (j : Nat)⟩) tx.data.toList = (if 0 < tx.size then tx.data.toList ++ [46] else tx.data.toList) ++ ((L u).items j).name.data.toList := by
                unfold addT
                rw [if_neg Bool.false_ne_true]; simp only [Int.toNat_natCast]
                rfl
              obtain ⟨nm, hnme⟩ : ∃ nm, ((L u).items j).name = nm := ⟨_, rfl⟩
              rw [hia] at x5
              rw [hnme] at y0 hns hadd
              rw [hTT] at x5 hjl
              have HNS := Lib.hid hns
              rw [hadd] at htg
              clear hadd hnme hia hel hnb hu2 hnn hnp hTT hji hnk hnm x0 x1 x2 x3 x4 y1 y2 y3 y4 wi wf hit
              by_cases hk0 : 0 < k
              · have kk : decide ((0 : Int) < (k : Nat)) = true := decide_eq_true (by omega)
                have hk0' : 0 < tx.size := hkt.1 hk0
                rw [if_pos hk0'] at htg
                obtain ⟨ty, hty⟩ : ∃ ty, tx ++ (⟨#[46]⟩ : ByteArray) = ty := ⟨_, rfl⟩
                have htys : ty.size = tx.size + 1 := by rw [← hty, ByteArray.size_append]; rfl
                have o1 : ¬ 9223372036854775807 < tx.size + (⟨#[46]⟩ : ByteArray).size := by rw [show (⟨#[46]⟩ : ByteArray).size = 1 from rfl]; omega
                have o3 : ¬ 9223372036854775807 < ty.size + nm.size := by omega
                have HTG := Lib.hid (show textG L (alongL L k0 (stepsL P n)) [] = textG L (alongL L u2 ((stepsL P n).drop (k + 1))) (ty ++ nm).data.toList by rw [htg, ← hty]; simp [ByteArray.data_append])
                have HTY := Lib.hid htys
                clear htg htys hkt hts hns
                go_wp2_with (first
                  | (go_at_call 35; refine (HNE.out _ hbw).mono ?_; rintro e w2 ⟨rfl, hb2⟩; have s0 := keep6 hb2 s0; have s1 := keep6 hb2 s1; have x5 := keep6 hb2 x5; have y0 := keep6 hb2 y0))
                go_quiet (fail)
                go_wp2
                go_roundw
                case measure => simp [intOf]; omega
                case rel => exact ⟨k + 1, u2, ty ++ nm, rfl, rfl, by go_num, by omega, HU2.out, by rw [ByteArray.size_append]; have := HNS.out; have := HTS.out; have := HTY.out; omega, by rw [ByteArray.size_append]; have := HNS.out; omega, HEL.out, HTG.out, drewN_below (hbl.trans (hb2.mono hbl.size)) _⟩
              · have kk : decide ((0 : Int) < (k : Nat)) = false := decide_eq_false (by omega)
                have hk0' : ¬ 0 < tx.size := fun h => hk0 (hkt.2 h)
                rw [if_neg hk0'] at htg
                have o3 : ¬ 9223372036854775807 < tx.size + nm.size := by omega
                have HTG := Lib.hid (show textG L (alongL L k0 (stepsL P n)) [] = textG L (alongL L u2 ((stepsL P n).drop (k + 1))) (tx ++ nm).data.toList by rw [htg]; simp [ByteArray.data_append])
                clear htg hkt hts hns
                go_wp2_with (first
                  | (go_at_call 35; refine (HNE.out _ hbw).mono ?_; rintro e w2 ⟨rfl, hb2⟩; have s0 := keep6 hb2 s0; have s1 := keep6 hb2 s1; have x5 := keep6 hb2 x5; have y0 := keep6 hb2 y0))
                go_quiet (fail)
                go_wp2
                go_roundw
                case measure => simp [intOf]; omega
                case rel => exact ⟨k + 1, u2, tx ++ nm, rfl, rfl, by go_num, by omega, HU2.out, by rw [ByteArray.size_append]; have := HNS.out; have := HTS.out; omega, by rw [ByteArray.size_append]; have := HNS.out; omega, HEL.out, HTG.out, drewN_below (hbl.trans (hb2.mono hbl.size)) _⟩
        · obtain rfl : k = n := by omega
          have hd : decide ((k : Int) < k) = false := by simp
          have hnil : (stepsL P k).drop k = [] := List.drop_eq_nil_of_le (by rw [stepsL_len]; omega)
          rw [hnil] at hel htg
          have e1 : (endL L k0 (stepsL P k)).map (fun u => (textG L (alongL L k0 (stepsL P k)) [], u)) = some (tx.data.toList, u) := by rw [hel, htg]; rfl
          have HE := Lib.hid e1
          clear hel htg e1 hkt hts hnil
          go_wp2
          go_ret3
          rw [HE.out]
          exact ⟨by unfold textV; simp, hbw⟩
end Go.Proofs.YtcpjbimojliogaaGreatDoor
