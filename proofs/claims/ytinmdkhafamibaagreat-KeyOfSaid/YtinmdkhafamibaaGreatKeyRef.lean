/- Contracts of chapter 13's reference: Fields, Of. -/
import Derived.Test.YtinmdkhafamibaaGreatKeyOf
import Derived.Test.YtinmdkhafamibaaGreatFitsRTop
namespace Go.Proofs.YtinmdkhafamibaaGreat
open Go.RowKit
set_option linter.unusedVariables false
set_option maxRecDepth 100000 in
set_option maxHeartbeats 8000000 in
theorem rfields13_any (ao : Option Addr) (len cap : Nat) (L : Nat → TypeV) (t : Int) (hlen : len ≤ 1000000) (w : World) (H : ∀ i, i < len → TypeAt w ao i (L i)) :
    Calls Tryz.prog 8 #[.slice ao len cap, .int .i64 t] w (FldTo L len t w) := by
  have hc := fun wx (hb : Below w.heap.size w wx) => refCheck_any ao len cap L hlen wx (hold H hb)
  unfold faultV at hc
  obtain ⟨E, hE0⟩ : ∃ E, fErr (oneR L len) len = E := ⟨_, rfl⟩
  obtain ⟨A, hA0⟩ : ∃ A, fAt (oneR L len) len = A := ⟨_, rfl⟩
  rw [hE0, hA0] at hc
  have hfe := fault_err
  cases hT : hasT L len t with
  | false =>
    have hE : fldE L len t = 8 := by unfold fldE; rw [if_pos hT]
    have hL : fldL L len t = [] := by unfold fldL; rw [if_neg (by rw [hE]; decide)]
    unfold FldTo
    rw [hE, hL]
    have HCK := Lib.hid hc
    by_cases hEz : E = 0
    · have hok : fErr (oneR L len) len = 0 := hE0.trans hEz
      subst hEz
      have a1 : ((0 : Int) != 0) = false := rfl
      by_cases h0 : t < 0
      · clear hT hE hL hc H hE0 hA0 hok
        go_enter Tryz.func8, Tryz.ntmps8
        go_wp2_with (go_at_call 15; refine (HCK.out _ (Below.refl _ _)).mono ?_; rintro e w1 ⟨rfl, hb1⟩; have HB1 := Lib.hid hb1;  clear hb1)
        go_ret2
        exact ⟨⟨_, rfl, IntsAt.nil _⟩, HB1.out⟩
      · have h1 : (len : Int) ≤ t := by
          rcases Classical.em (t < len) with h2 | h2
          · exfalso
            obtain ⟨k, rfl⟩ := Int.eq_ofNat_of_zero_le (show 0 ≤ t by omega)
            rw [hasT_yes (by omega) hok] at hT; cases hT
          · omega
        clear hT hE hL hc H hE0 hA0 hok
        go_enter Tryz.func8, Tryz.ntmps8
        go_wp2_with (go_at_call 15; refine (HCK.out _ (Below.refl _ _)).mono ?_; rintro e w1 ⟨rfl, hb1⟩; have HB1 := Lib.hid hb1;  clear hb1)
        go_ret2
        exact ⟨⟨_, rfl, IntsAt.nil _⟩, HB1.out⟩
    · have a1 : (E != 0) = true := by simpa using hEz
      clear hT hE hL hc H hE0 hA0 hEz
      go_enter Tryz.func8, Tryz.ntmps8
      go_wp2_with (go_at_call 15; refine (HCK.out _ (Below.refl _ _)).mono ?_; rintro e w1 ⟨rfl, hb1⟩; have HB1 := Lib.hid hb1;  clear hb1)
      go_ret2
      exact ⟨⟨_, rfl, IntsAt.nil _⟩, HB1.out⟩
  | true =>
    obtain ⟨k, rfl, hk, hok⟩ := hasT_in hT
    have hv := ok_all hok
    obtain rfl : E = 0 := hE0.symm.trans hok
    have a1 : ((0 : Int) != 0) = false := rfl
    have a2 : ¬ ((k : Int) < 0) := by omega
    have a3 : ¬ ((len : Int) ≤ (k : Int)) := by omega
    have HCK := Lib.hid hc
    have HH := Lib.hid (fun i (hi : i < len) wx (hb : Below w.heap.size w wx) => hold H hb i hi)
    obtain ⟨b, off, rfl, x0, x1, x2, x3, x4, x5, wf, hit⟩ := H k hk
    have hbl : b < w.heap.size := World.block_lt_of_cell? w _ x0
    clear H hc hE0 hA0
    have hcap := Nat.le_refl len
    by_cases h13 : (L k).kind = 13
    · have hm := hv k hk
      have hcnt := hm.count (.inl h13)
      have hty := fun j hj => hm.items (.inl h13) j hj
      have hlon : ∀ j, j < (L k).ilen → 0 ≤ lonK (L ((L k).items j).type.toNat) ∧ lonK (L ((L k).items j).type.toNat) ≤ 65 := fun j hj => lonK_le (fun h10 => (hv _ (by have := hty j hj; omega)).bound (.inl h10))
      have hE : fldE L len (k : Nat) = if 16 < keyN L (L k) (L k).ilen then 17 else 0 := by unfold fldE; rw [if_neg (by rw [hT]; decide), Int.toNat_natCast, if_neg (by rw [h13]; decide)]
      have hL : fldL L len (k : Nat) = if fldE L len (k : Nat) = 0 then keyF (L k) (L k).ilen else [] := by unfold fldL; rw [Int.toNat_natCast]
      have hBD := fun j (hj : j < (L k).ilen) (h10 : (L ((L k).items j).type.toNat).kind = 10) => (hv _ (by have := hty j hj; omega)).bound (.inl h10)
      have hKN := fun j => keyN_le (L := L) (T := L k) j
      obtain ⟨T, hTk⟩ : ∃ T, L k = T := ⟨_, rfl⟩
      have hne : (T.kind != 13) = false := by rw [← hTk, h13]; decide
      have HTk := Lib.hid hTk
      rw [hTk] at hE hL hcnt hty hlon hBD hKN x0 x5 hit
      have hKN2 := fun j (hj : j ≤ T.ilen) => hKN j (fun i hi => hlon i (by omega))
      obtain ⟨ia, hia⟩ : ∃ ia, T.ia = ia := ⟨_, rfl⟩
      have HIA := Lib.hid hia
      have hit2 := fun j (hj : j < T.ilen) wx (hb : Below w.heap.size w wx) => (hit.2 j hj).held hb
      rw [hia] at x5 hit2
      have HIT := Lib.hid hit2
      have HTY := Lib.hid hty
      have HLON := Lib.hid hlon
      have HBD := Lib.hid hBD
      have HKN := Lib.hid hKN2
      have HKF := Lib.hid (fun j => keyF_succ T j)
      have HKS := Lib.hid (show ∀ j, keyN L T (j + 1) = keyN L T j + (if (T.items j).key = true then lonK (L (T.items j).type.toNat) else 0) from fun j => rfl)
      have HKL := Lib.hid (fun j => keyF_len T j)
      have HK0 := Lib.hid (show keyN L T 0 = 0 from rfl)
      obtain ⟨i0, hi0, hz0, hz1, hz2⟩ : ∃ i, Tryz.prog.info? 3 = some i ∧ i.zero = some (.int .i64 0) ∧ i.size = 1 ∧ i.bytes = 8 := by
        have h := infoIntF
        cases hq : Tryz.prog.info? 3 with
        | none => rw [hq] at h; cases h
        | some i => rw [hq] at h; simp at h; exact ⟨i, rfl, h.1, h.2.1, h.2.2⟩
      unfold FldTo
      obtain ⟨E, hEE⟩ : ∃ E, fldE L len (k : Nat) = E := ⟨_, rfl⟩
      obtain ⟨Q, hQQ⟩ : ∃ Q, fldL L len (k : Nat) = Q := ⟨_, rfl⟩
      rw [hEE, hQQ] at hL
      rw [hEE] at hE
      rw [hEE, hQQ]
      have HE := Lib.hid hE
      have HL := Lib.hid hL
      obtain ⟨hc1, hc16⟩ := hcnt
      obtain ⟨m, hm'⟩ : ∃ m, T.ilen = m := ⟨_, rfl⟩
      have HTM := Lib.hid hm'
      rw [hm'] at x5 HIT HTY HLON HBD HKN HE HL hc1 hc16
      clear hm hty hlon hBD hKN hKN2 hit hit2 hia hE hL hEE hQQ hv hok hT h13 hTk x1 x2 x3 x4 wf hm'
      have hle := hcap
      go_enter Tryz.func8, Tryz.ntmps8
      go_wp2_with (go_at_call 15; refine (HCK.out _ (Below.refl _ _)).mono ?_; rintro e w1 ⟨rfl, hb1⟩; have HB1 := Lib.hid hb1; have y0 := keep hb1 x0; have y5 := keep hb1 x5; clear hb1)
      go_loopw [6, 7, 8] (fun f n i wr => ∃ j : Nat, j ≤ m ∧ i = .int .i64 j ∧ n = .int .i64 (keyN L T j) ∧ Hid (wr.ownsRow w.heap.size 3 1 f (keyF T j).length (ivs (keyF T j))) ∧ Hid (Below w.heap.size w wr)) (fun _ _ i _ => m - (intOf i).toNat)
      case atStart => exact ⟨0, Nat.zero_le _, rfl, by rw [HK0.out], Lib.hid (World.ownsRow_nil _ _ _ _), HB1⟩
      case round =>
        obtain ⟨j, hj, rfl, rfl, HR, HB⟩ := hrel
        have hs0 := HB.out.size
        obtain ⟨hN0, hN1⟩ := HKN.out j hj
        obtain ⟨b', off', hbb, _, _, _, _, _, t5, _, _⟩ := HH.out k hk wr HB.out
        cases hbb
        rw [HTk.out] at t5
        rw [HIA.out, HTM.out] at t5
        by_cases hlt : j < m
        · obtain ⟨ib, io, rfl, z0, z1, z2, z3, z4, wi⟩ := HIT.out j hlt wr HB.out
          obtain ⟨p, hp⟩ : ∃ p : Nat, (T.items j).type = p := ⟨(T.items j).type.toNat, by have := (HTY.out j hlt).1; omega⟩
          have hpl : p < len := by have := (HTY.out j hlt).2.1; omega
          have HS := Lib.hid (HKS.out j)
          have HF := Lib.hid (HKF.out j)
          have hfl := HKL.out j
          obtain ⟨hM0, hM1⟩ := HLON.out j hlt
          have HBp := Lib.hid (HBD.out j hlt)
          rw [hp] at z2 HS HBp hM0 hM1
          rw [Int.toNat_natCast] at HS HBp hM0 hM1
          obtain ⟨ke, hke⟩ : ∃ x, (T.items j).key = x := ⟨_, rfl⟩
          rw [hke] at z3 HS HF
          obtain ⟨N, hN⟩ : ∃ N, keyN L T j = N := ⟨_, rfl⟩
          rw [hN] at HS hN0 hN1 ⊢
          obtain ⟨X, hX⟩ : ∃ X, L p = X := ⟨_, rfl⟩
          have HXE := Lib.hid hX
          rw [hX] at HS HBp hM0 hM1
          obtain ⟨l, hl⟩ : ∃ l, keyF T j = l := ⟨_, rfl⟩
          rw [hl] at HR HF hfl
          have HMM := Lib.hid hM1
          clear hke hN hX hl wi
          cases ke with
          | true =>
            rw [if_pos rfl] at HS HF
            have hbpos := HBp.out
            by_cases h10 : X.kind = 10
            · obtain ⟨hB0, hB1⟩ := hbpos h10
              have hlX : lonK X = X.bound + 1 := by unfold lonK; rw [if_pos h10]
              rw [hlX] at HS
              have hk1 : (X.kind == 10) = true := by simpa using h10
              obtain ⟨xb, hxb⟩ : ∃ x, X.bound = x := ⟨_, rfl⟩
              have HXB := Lib.hid hxb
              rw [hxb] at hB0 hB1 HS
              clear hM0 hM1 hlX h10 hxb hbpos
              go_wp2_with (at_builtin; refine wpList_append_at rfl _ _ 30 rfl w.heap.size 3 i0 (.int .i64 0) 1 8 Tryz.underlying30 hi0 hz0 hz1 hz2 rfl (by decide) u6 l.length (ivs l) rfl (World.ownsRow.alloc (w := wr) HR.out _) ⟨_, 0, none⟩ 1 1 [.int .i64 (j : Nat)] rfl rfl (fun jj u hj => by match jj, hj with | 0, hj => (simp at hj; subst hj; rw [add_plain]; exact cell_at (alloc_at wr (.cells #[.int .i64 (j : Nat)] 3)) rfl)) (fun u hu => by (simp at hu; subst hu; rfl)) (by unfold maxLen; omega) (by omega) (by simp; omega) ?_; intro v2 w2 hown2 hg2 hf2; have HR2 := Lib.hid hown2; have HB2 := Lib.hid ((HB.out.alloc hs0 _).grown hg2 (by simp; omega) (fun q hq => (HR.out.lt q hq).1)); obtain ⟨b2, off2, hbb2, s0, s1, s2, s3, s4, s5, _, _⟩ := HH.out p hpl w2 HB2.out; cases hbb2; obtain ⟨b3, off3, hbb3, r0, _, _, _, _, r5, _, _⟩ := HH.out k hk w2 HB2.out; cases hbb3; rw [HTk.out] at r5; rw [HIA.out, HTM.out] at r5; rw [HXE.out] at s0 s1 s2 s3 s4 s5; rw [HXB.out] at s2; obtain ⟨ib2, io2, hib, _, _, q2, _, _, _⟩ := HIT.out j hlt w2 HB2.out; cases hib; rw [hp] at q2; clear hown2 hg2 hf2)
              go_roundw
              case rel => exact ⟨j + 1, by omega, by go_num, by rw [HS.out]; first | rfl | (congr 1; omega), Lib.hid (by rw [HF.out, List.length_append, ← ivs_snoc]; exact HR2.out.alloc _), Lib.hid (HB2.out.alloc HB2.out.size _)⟩
              case measure => simp [intOf]; omega
            · have hlX : lonK X = szK X.kind := by unfold lonK; rw [if_neg h10]
              rw [hlX] at HS hM0 hM1
              have hk1 : (X.kind == 10) = false := by simpa using h10
              have HSZ := Lib.hid (fun wx => refSize_any X.kind wx)
              obtain ⟨sz, hsz⟩ : ∃ x, szK X.kind = x := ⟨_, rfl⟩
              rw [hsz] at HS hM0 hM1 HSZ
              clear hlX h10 hsz hbpos
              go_wp2_with (first
                | (at_builtin; refine wpList_append_at rfl _ _ 30 rfl w.heap.size 3 i0 (.int .i64 0) 1 8 Tryz.underlying30 hi0 hz0 hz1 hz2 rfl (by decide) u6 l.length (ivs l) rfl (World.ownsRow.alloc (w := wr) HR.out _) ⟨_, 0, none⟩ 1 1 [.int .i64 (j : Nat)] rfl rfl (fun jj u hj => by match jj, hj with | 0, hj => (simp at hj; subst hj; rw [add_plain]; exact cell_at (alloc_at wr (.cells #[.int .i64 (j : Nat)] 3)) rfl)) (fun u hu => by (simp at hu; subst hu; rfl)) (by unfold maxLen; omega) (by omega) (by simp; omega) ?_; intro v2 w2 hown2 hg2 hf2; have HR2 := Lib.hid hown2; have HB2 := Lib.hid ((HB.out.alloc hs0 _).grown hg2 (by simp; omega) (fun q hq => (HR.out.lt q hq).1)); obtain ⟨b2, off2, hbb2, s0, s1, s2, s3, s4, s5, _, _⟩ := HH.out p hpl w2 HB2.out; cases hbb2; obtain ⟨b3, off3, hbb3, r0, _, _, _, _, r5, _, _⟩ := HH.out k hk w2 HB2.out; cases hbb3; rw [HTk.out] at r5; rw [HIA.out, HTM.out] at r5; rw [HXE.out] at s0 s1 s2 s3 s4 s5; obtain ⟨ib2, io2, hib, _, _, q2, _, _, _⟩ := HIT.out j hlt w2 HB2.out; cases hib; rw [hp] at q2; clear hown2 hg2 hf2)
                | (go_at_call 16; refine (HSZ.out _).mono ?_; rintro e w3 ⟨rfl, rfl⟩))
              go_roundw
              case rel => exact ⟨j + 1, by omega, by go_num, by rw [HS.out], Lib.hid (by rw [HF.out, List.length_append, ← ivs_snoc]; exact HR2.out.alloc _), Lib.hid (HB2.out.alloc HB2.out.size _)⟩
              case measure => simp [intOf]; omega
          | false =>
            rw [if_neg (by decide), Int.add_zero] at HS
            rw [if_neg (by decide), List.append_nil] at HF
            go_wp2
            go_roundw
            case rel => exact ⟨j + 1, by omega, by go_num, by rw [HS.out], Lib.hid (by rw [HF.out]; exact HR.out), HB⟩
            case measure => simp [intOf]; omega
        · obtain rfl : j = m := by omega
          obtain ⟨N, hN⟩ : ∃ N, keyN L T j = N := ⟨_, rfl⟩
          rw [hN] at HE ⊢
          by_cases h16 : 16 < N
          · have e17 : E = 17 := by rw [HE.out, if_pos h16]
            have eQ : Q = [] := by rw [HL.out, e17, if_neg (by decide)]
            subst e17 eQ
            go_wp2
            go_ret2
            exact ⟨⟨_, rfl, IntsAt.nil _⟩, HB.out⟩
          · have e0 : E = 0 := by rw [HE.out, if_neg h16]
            have eQ : Q = keyF T j := by rw [HL.out, e0, if_pos rfl]
            have HQA := Lib.hid (IntsAt.of_row HR.out)
            subst e0 eQ
            go_wp2
            go_ret2
            exact ⟨⟨u6, rfl, HQA.out⟩, HB.out⟩
    · have hE : fldE L len (k : Nat) = 4 := by unfold fldE; rw [if_neg (by rw [hT]; decide), Int.toNat_natCast, if_pos h13]
      have hL : fldL L len (k : Nat) = [] := by unfold fldL; rw [if_neg (by rw [hE]; decide)]
      have hne : ((L k).kind != 13) = true := by simpa using h13
      unfold FldTo
      rw [hE, hL]
      clear hT hE hL hv hok h13 x1 x2 x3 x4 x5 hit wf
      go_enter Tryz.func8, Tryz.ntmps8
      go_wp2_with (go_at_call 15; refine (HCK.out _ (Below.refl _ _)).mono ?_; rintro e w1 ⟨rfl, hb1⟩; have HB1 := Lib.hid hb1; have x0 := keep hb1 x0; clear hb1)
      go_ret2
      exact ⟨⟨_, rfl, IntsAt.nil _⟩, HB1.out⟩
end Go.Proofs.YtinmdkhafamibaaGreat
