/- FitsParts: for every list of types, every number and every value the law returns true, and its arguments read as before. No condition. -/
import Derived.Test.YtohphejhlgnciaaRdg
import Derived.Test.YtohphejhlgnciaaFitsNone
import Derived.Test.YtohphejhlgnciaaFitsAwake
import Derived.Test.YtohphejhlgnciaaValCSame
import Derived.Test.YtohphejhlgnciaaRegionPre
import Derived.Test.YtohphejhlgnciaaTypesLawMath
namespace Go.Proofs.Ytohphejhlgnciaa.fitsParts
open Go.ChangeShapes Go.WideShapes Go.ChangeAt Go.RowKit
open Go.ChangeMaps (open_string shut_string)
set_option linter.unusedVariables false

set_option maxRecDepth 100000 in
set_option maxHeartbeats 8000000 in
theorem walk (ao : Option Addr) (len cap : Nat) (L : Nat → TypeV) (t : Int) (T : VT) (S : Nat → Prop) (hcap : len ≤ cap) (hm : len ≤ 140737488351232) (hcp : ∀ i, i < len → (L i).ilen ≤ (L i).icap) (w : World) (H : ∀ i, i < len → TypeAt w ao i (L i)) (HV : ValAt w S T) (htc : T.len ≤ T.cap) :
    Calls Try.prog 3 #[.slice ao len cap, .int .i64 t, .agg #[.int .i64 T.kind, .int .u64 T.num, .string T.text, .slice T.ia T.len T.cap]] w fun e w' => e = .returned (.bool true) ∧ Below w.heap.size w w' := by
  have HW := Lib.hid (fun wx (hb : Below w.heap.size w wx) => awake9_any wx)
  have hg := fun wx (hb : Below w.heap.size w wx) => great_any ao len cap L hm wx (hold H hb)
  have hmu := fun wx (hb : Below w.heap.size w wx) => refMuch_any S T 0 wx (HV.next hb) (by omega)
  unfold RMuchTo at hmu
  rw [show ((0 : Nat) : Int) = 0 from rfl] at hmu
  have HQ := Lib.hid (alloc_at w (.cells #[.int .i64 T.kind, .int .u64 T.num, .string T.text, .slice T.ia T.len T.cap] 26))
  have HB := Lib.hid ((Below.refl w.heap.size w).alloc (Nat.le_refl _) (.cells #[.int .i64 T.kind, .int .u64 T.num, .string T.text, .slice T.ia T.len T.cap] 26))
  cases hbig : greatB L len with
  | true =>
    rw [hbig] at hg
    have HG := Lib.hid hg
    clear hg hmu hbig HV H hcp
    go_enter Try.func3, Try.ntmps3
    go_wp2_with (first
      | (go_at_call 4; refine (HG.out _ HB.out).mono ?_; rintro e w' ⟨rfl, rfl⟩)
      | (go_at_call 7; refine (HW.out _ HB.out).mono ?_; rintro e w9 ⟨rfl, hb9⟩; have HB9 := Lib.hid (below_step8' HB.out hb9); clear hb9))
    go_ret
    exact ⟨rfl, HB9.out⟩
  | false =>
  have hlen := great_lt hbig
  rw [hbig] at hg
  have HG := Lib.hid hg
  clear hg hbig
  cases hmt : muchT T 0 with
  | true =>
    rw [hmt] at hmu
    have HM := Lib.hid hmu
    clear hmu hmt HV H hcp
    go_enter Try.func3, Try.ntmps3
    go_wp2_with (first
      | (go_at_call 4; refine (HG.out _ HB.out).mono ?_; rintro e w' ⟨rfl, rfl⟩)
      | (go_at_call 5; refine (HM.out _ HB.out).mono ?_; rintro e w1 ⟨rfl, hb1⟩; have HB1 := Lib.hid (below_step8' HB.out hb1); have HX1 := Lib.hid (box_keep HQ.out hb1); have d0 : w1.cell? ⟨w.heap.size, 0, none⟩ = some (.int .i64 T.kind) := cell_at HX1.out rfl; have d1 : w1.cell? ⟨w.heap.size, 1, none⟩ = some (.int .u64 T.num) := cell_at HX1.out rfl; have d2 : w1.cell? ⟨w.heap.size, 2, none⟩ = some (.string T.text) := cell_at HX1.out rfl; have d3 : w1.cell? ⟨w.heap.size, 3, none⟩ = some (.slice T.ia T.len T.cap) := cell_at HX1.out rfl; clear hb1)
      | (go_at_call 7; refine (HW.out _ HB1.out).mono ?_; rintro e w9 ⟨rfl, hb9⟩; have HB9 := Lib.hid (below_step8' HB1.out hb9); clear hb9))
    go_ret
    exact ⟨rfl, HB9.out⟩
  | false =>
  rw [hmt] at hmu
  have HM := Lib.hid hmu
  have hdeep := much_deep T 0 hmt
  have hln := (much_no hmt).2.1
  clear hmu hmt
  have hfi := fun wx (hb : Below w.heap.size w wx) => fits9_any ao len cap L (by omega) hcap hcp S t T wx (HV.next hb) (hold H hb)
  by_cases hfa : fitsA L len t T = 0
  case neg =>
    obtain ⟨q, hq⟩ : ∃ q, fitsA L len t T = q := ⟨_, rfl⟩
    rw [hq] at hfi hfa
    have hq' : (q != 0) = true := by simpa using hfa
    have HF := Lib.hid hfi
    clear hfi hfa hq HV H hcp hdeep
    go_enter Try.func3, Try.ntmps3
    go_wp2_with (first
      | (go_at_call 4; refine (HG.out _ HB.out).mono ?_; rintro e w' ⟨rfl, rfl⟩)
      | (go_at_call 5; refine (HM.out _ HB.out).mono ?_; rintro e w1 ⟨rfl, hb1⟩; have HB1 := Lib.hid (below_step8' HB.out hb1); have HX1 := Lib.hid (box_keep HQ.out hb1); have d0 : w1.cell? ⟨w.heap.size, 0, none⟩ = some (.int .i64 T.kind) := cell_at HX1.out rfl; have d1 : w1.cell? ⟨w.heap.size, 1, none⟩ = some (.int .u64 T.num) := cell_at HX1.out rfl; have d2 : w1.cell? ⟨w.heap.size, 2, none⟩ = some (.string T.text) := cell_at HX1.out rfl; have d3 : w1.cell? ⟨w.heap.size, 3, none⟩ = some (.slice T.ia T.len T.cap) := cell_at HX1.out rfl; clear hb1)
      | (go_at_call 6; refine (HF.out _ HB1.out).mono ?_; rintro e w2 ⟨rfl, hb2⟩; have HB2 := Lib.hid (below_step8' HB1.out hb2); have HX2 := Lib.hid (box_keep HX1.out hb2); clear d0 d1 d2 d3 hb2)
      | (go_at_call 7; refine (HW.out _ HB2.out).mono ?_; rintro e w9 ⟨rfl, hb9⟩; have HB9 := Lib.hid (below_step8' HB2.out hb9); clear hb9))
    go_ret
    exact ⟨rfl, HB9.out⟩
  rw [hfa] at hfi
  have HF := Lib.hid hfi
  clear hfi
  have hT : hasT L len t = true := by
    unfold fitsA at hfa
    by_cases c : hasT L len t = true
    · exact c
    · rw [if_neg c] at hfa; cases hfa
  unfold fitsA at hfa
  rw [if_pos hT] at hfa
  obtain ⟨k, rfl, hk, hok⟩ := hasT_in hT
  rw [Int.toNat_natCast] at hfa
  have hv := ok_all hok
  have okt := hv k hk
  have hdd := fits_deep hv T k hk hfa
  obtain ⟨hh, hkids⟩ := fits_zero hfa
  have hpk := fun i (hi : i < T.len) => part_ok okt hh hi
  have HK := Lib.hid (fun i (hi : i < T.len) wx (hb : Below w.heap.size w wx) => (fits9_any ao len cap L (by omega) hcap hcp S (partT L k T.num i : Nat) (T.kid i) wx (kids_at HV hb hi).2 (hold H hb)).mono (fun e w' (h : e = .returned (.int .i64 (fitsA L len (partT L k T.num i : Nat) (T.kid i))) ∧ Below wx.heap.size wx w') => show e = .returned (.int .i64 0) ∧ Below wx.heap.size wx w' from ⟨h.1.trans (by unfold fitsA; rw [hasT_yes (by have := hpk i hi; omega) hok, if_pos rfl, Int.toNat_natCast, hkids i hi]), h.2⟩))
  have HC := Lib.hid (fun i (hi : i < T.len) wx (hb : Below w.heap.size w wx) => (kids_at HV hb hi).1)
  have hkd : T.kind = (L k).kind := by
    unfold headE at hh
    split at hh; · cases hh
    rename_i h; exact Classical.not_not.1 h
  have hfm : formT T = true := by
    unfold headE at hh
    rw [if_neg (by simpa using hkd)] at hh
    split at hh; · cases hh
    rename_i h; simpa using h
  have hun := head_unf (L := L) hkd hfm
  rw [hh] at hun
  have HD8 := Lib.hid (fun wx (hb : Below w.heap.size w wx) => deep8_any S T wx (HV.next hb) (by omega))
  have hd6 := fun wx (hb : Below w.heap.size w wx) => deep6_any ao len cap L (by omega) (k : Nat) wx (hold H hb)
  rw [deepL_in hk] at hd6
  unfold CDeepTo at HD8
  obtain ⟨e8, he8⟩ : ∃ d, deepT T = d := ⟨_, rfl⟩
  obtain ⟨e6, he6⟩ : ∃ d, deepN L k = d := ⟨_, rfl⟩
  rw [he8, he6] at hdd
  rw [he8] at HD8
  rw [he6] at hd6
  have HD6 := Lib.hid hd6
  have hgt : ¬ ((e6 : Int) < (e8 : Int)) := by omega
  have hgt1 : decide ((e6 : Int) < (e8 : Int)) = false := by simp; omega
  have hgt2 : decide (e6 < e8) = false := by simp; omega
  have HNO := Lib.hid (fun (h12 : (L k).kind = 12 ∨ (L k).kind = 13) a n c (hn : n ≤ 301) (hne : n ≠ T.len) wx (hb : Below w.heap.size w wx) => none9_any ao len cap L (by omega) hcap k hk hok T hkd hfm h12 a n c (by omega) ⟨fun h => by rw [if_neg (by omega), if_neg (by omega), if_pos h] at hun; by_cases c : (T.len : Int) ≠ (L k).bound; (rw [if_pos c] at hun; cases hun); omega, fun h => by rw [if_neg (by omega), if_neg (by omega), if_neg (by omega), if_pos h] at hun; by_cases c : T.len ≠ (L k).ilen; (rw [if_pos c] at hun; cases hun); omega⟩ wx (hold H hb))
  have hpos : (L k).kind = 12 ∨ (L k).kind = 13 → 1 ≤ T.len := fun h12 => by
    rcases h12 with h | h
    · rw [if_neg (by omega), if_neg (by omega), if_pos h] at hun
      by_cases c : (T.len : Int) ≠ (L k).bound
      · rw [if_pos c] at hun; cases hun
      · have := okt.least (.inr h); omega
    · rw [if_neg (by omega), if_neg (by omega), if_neg (by omega), if_pos h] at hun
      by_cases c : T.len ≠ (L k).ilen
      · rw [if_pos c] at hun; cases hun
      · have := okt.count (.inl h); omega
  have HPOS := Lib.hid hpos
  have hit := fun wx (hb : Below w.heap.size w wx) => (hold H hb k hk)
  obtain ⟨b, off, rfl, c0, c1, c2, c3, c4, c5, wf, hi⟩ := H k hk
  obtain ⟨X, hX⟩ : ∃ X, L k = X := ⟨_, rfl⟩
  have hK : X.kind = T.kind := by rw [hkd, hX]
  have HCL := Lib.hid (show ∀ wx, Below w.heap.size w wx → wx.cell? ⟨b, off + k * 6, none⟩ = some (.int .i64 T.kind) ∧ wx.cell? ⟨b, off + k * 6 + 3, none⟩ = some (.int .i64 X.of) ∧ wx.cell? ⟨b, off + k * 6 + 5, none⟩ = some (.slice X.ia X.ilen X.icap) ∧ ∀ j, j < X.ilen → ItemAt wx X.ia j (X.items j) from fun wx hb => by
    obtain ⟨b', off', e, x0, _, _, x3, _, x5, _, hi⟩ := hit wx hb
    cases e
    rw [← hK, ← hX]
    exact ⟨x0, x3, x5, hi.2⟩)
  have hilx : X.ilen ≤ 3518437208780 := by rw [← hX]; exact hi.1
  have HPT := Lib.hid (show ∀ i, i < T.len → (T.kind = 13 → i < X.ilen ∧ (X.items i).type = (partT L k T.num i : Nat)) ∧ (T.kind ≠ 13 → T.kind ≠ 14 → X.of = (partT L k T.num i : Nat)) from fun i hi => by
    have hkk : (L k).kind = T.kind := hkd.symm
    have hp := hpk i hi
    refine ⟨fun h13 => ?_, fun n13 n14 => ?_⟩
    · rw [if_neg (by omega), if_neg (by omega), if_neg (by omega), if_pos (by omega)] at hun
      by_cases c : T.len ≠ (L k).ilen
      · rw [if_pos c] at hun; cases hun
      · have h2 := okt.items (.inl (by omega)) i (by omega)
        unfold partT
        rw [if_pos (by omega)]
        rw [hX] at h2 c ⊢
        omega
    · by_cases h10 : T.kind = 11 ∨ T.kind = 12
      · have h2 := okt.of (by omega)
        unfold partT
        rw [if_neg (by omega), if_neg (by omega)]
        rw [hX] at h2 ⊢
        omega
      · exfalso
        have hk1 := okt.kind
        have := form_len hfm (by omega)
        omega)
  rw [hX, hK] at HNO HPOS
  have HNW := Lib.hid (fun wx (hb : Below w.heap.size w wx) (a : Addr) (hia : T.ia = some a) => news9_of (HV.next hb) hia)
  clear hit c0 c1 c2 c3 c4 c5 wf hi H HV hcp hpk hkids hun hh hfa hT hok hv okt hdd he8 he6 hd6 hfm hpos hkd hX hK
  go_enter Try.func3, Try.ntmps3
  go_upto_region 3 with (first
    | (go_at_call 4; refine (HG.out _ HB.out).mono ?_; rintro e w' ⟨rfl, rfl⟩)
    | (go_at_call 5; refine (HM.out _ HB.out).mono ?_; rintro e w1 ⟨rfl, hb1⟩; have HB1 := Lib.hid (below_step8' HB.out hb1); have HX1 := Lib.hid (box_keep HQ.out hb1); have d0 : w1.cell? ⟨w.heap.size, 0, none⟩ = some (.int .i64 T.kind) := cell_at HX1.out rfl; have d1 : w1.cell? ⟨w.heap.size, 1, none⟩ = some (.int .u64 T.num) := cell_at HX1.out rfl; have d2 : w1.cell? ⟨w.heap.size, 2, none⟩ = some (.string T.text) := cell_at HX1.out rfl; have d3 : w1.cell? ⟨w.heap.size, 3, none⟩ = some (.slice T.ia T.len T.cap) := cell_at HX1.out rfl; clear hb1)
    | (go_at_call 6; refine (HF.out _ HB1.out).mono ?_; rintro e w2 ⟨rfl, hb2⟩; have HB2 := Lib.hid (below_step8' HB1.out hb2); have HX2 := Lib.hid (box_keep HX1.out hb2); clear d0 d1 d2 d3 hb2))
  obtain ⟨q0, q3, q5, _⟩ := HCL.out _ HB2.out
  have d0 : w2.cell? ⟨w.heap.size, 0, none⟩ = some (.int .i64 T.kind) := cell_at HX2.out rfl
  have d1 : w2.cell? ⟨w.heap.size, 1, none⟩ = some (.int .u64 T.num) := cell_at HX2.out rfl
  have d2 : w2.cell? ⟨w.heap.size, 2, none⟩ = some (.string T.text) := cell_at HX2.out rfl
  have d3 : w2.cell? ⟨w.heap.size, 3, none⟩ = some (.slice T.ia T.len T.cap) := cell_at HX2.out rfl
  have HX := HX2
  have HB := HB2
  clear HX1 HX2 HB1 HB2 HG HM HF q3 q5
  go_wp2_with fail
  go_region_held3 (fun w' => w'.cell? ⟨w.heap.size, 0, none⟩ = some (.int .i64 T.kind) ∧ w'.cell? ⟨w.heap.size, 1, none⟩ = some (.int .u64 T.num) ∧ w'.cell? ⟨w.heap.size, 2, none⟩ = some (.string T.text) ∧ w'.cell? ⟨w.heap.size, 3, none⟩ = some (.slice T.ia T.len T.cap) ∧ w'.cell? ⟨b, off + k * 6, none⟩ = some (.int .i64 T.kind) ∧ Hid (Below w.heap.size w w'))
    (first | exact ⟨d0, d1, d2, d3, q0, Lib.hid HB.out.drew⟩ | exact ⟨d0, d1, d2, d3, q0, HB⟩ | fail)
    (first
      | (go_at_call 8; refine (HD8.out _ (by first | exact HB.out | exact HB.out.drew)).mono ?_; rintro e w3 ⟨rfl, hb3⟩; have HB := Lib.hid (below_step8' (by first | exact HB.out | exact HB.out.drew) hb3); have HX := Lib.hid (box_keep (by exact HX.out) hb3); have d0 := keep hb3 (by exact d0); have d1 := keep hb3 (by exact d1); have d2 := keep hb3 (by exact d2); have d3 := keep hb3 (by exact d3); have q0 := keep hb3 (by exact q0); clear hb3)
      | (go_at_call 9; refine (HD6.out _ (by first | exact HB.out | exact HB.out.drew)).mono ?_; rintro e w3 ⟨rfl, hb3⟩; have HB := Lib.hid (below_step8' (by first | exact HB.out | exact HB.out.drew) hb3); have HX := Lib.hid (box_keep (by exact HX.out) hb3); have d0 := keep hb3 (by exact d0); have d1 := keep hb3 (by exact d1); have d2 := keep hb3 (by exact d2); have d3 := keep hb3 (by exact d3); have q0 := keep hb3 (by exact q0); clear hb3))
  have hkk : (T.kind != T.kind) = false := by simp
  go_wp2
  go_loopw [7] (fun i wr => ∃ j : Nat, j ≤ T.len ∧ i = .int .i64 j ∧ Hid (wr.heap[w.heap.size]? = some (.cells #[.int .i64 T.kind, .int .u64 T.num, .string T.text, .slice T.ia T.len T.cap] 26 (0, 0))) ∧ Hid (Below w.heap.size w wr)) (fun i _ => T.len - (intOf i).toNat)
  case atStart => exact ⟨0, Nat.zero_le _, rfl, HX, HB⟩
  case round =>
    clear d0 d1 d2 d3 q0
    obtain ⟨j, hj, rfl, HR, HBr⟩ := hrel
    by_cases hlt : j < T.len
    · obtain ⟨q0, q3, q5, qi⟩ := HCL.out wr HBr.out
      have d0 : wr.cell? ⟨w.heap.size, 0, none⟩ = some (.int .i64 T.kind) := cell_at HR.out rfl
      have d1 : wr.cell? ⟨w.heap.size, 1, none⟩ = some (.int .u64 T.num) := cell_at HR.out rfl
      have d2 : wr.cell? ⟨w.heap.size, 2, none⟩ = some (.string T.text) := cell_at HR.out rfl
      have d3 : wr.cell? ⟨w.heap.size, 3, none⟩ = some (.slice T.ia T.len T.cap) := cell_at HR.out rfl
      obtain ⟨b', off', hia', _, _, k0, k1, k2, k3⟩ := HC.out j hlt wr HBr.out
      have hp := HPT.out j hlt
      have HKj := Lib.hid (HK.out j hlt)
      obtain ⟨M, hM⟩ : ∃ M, T.kid j = M := ⟨_, rfl⟩
      rw [hM] at HKj k0 k1 k2 k3
      rw [hia'] at d3
      obtain ⟨p, hpp⟩ : ∃ p, partT L k T.num j = p := ⟨_, rfl⟩
      rw [hpp] at hp HKj
      clear hM hia' hpp
      by_cases h14 : T.kind = 14
      · have e13 : (T.kind == 13) = false := by simp; omega
        have e14 : (T.kind != 14) = false := by simp; omega
        clear h14 hp
        go_wp2
        go_roundw
        case rel => exact ⟨j + 1, by omega, by go_num, HR, HBr⟩
        case measure => simp [intOf]; omega
      · have e14 : (T.kind != 14) = true := by simp; omega
        by_cases h13 : T.kind = 13
        · have e13 : (T.kind == 13) = true := by simp; omega
          obtain ⟨hji, hty⟩ := hp.1 h13
          obtain ⟨ib, io, hxa, i0, i1, i2, i3, i4, iw⟩ := qi j hji
          rw [hty] at i2
          rw [hxa] at q5
          clear hp hxa hty i0 i1 i3 i4 iw h13 h14 qi
          go_wp2_with (go_at_call 6; refine (HKj.out _ HBr.out).mono ?_; rintro e w3 ⟨rfl, hb3⟩; have HR3 := Lib.hid (box_keep HR.out hb3); have HB3 := Lib.hid (below_step8' HBr.out hb3); clear hb3)
          go_roundw
          case rel => exact ⟨j + 1, by omega, by go_num, HR3, HB3⟩
          case measure => simp [intOf]; omega
        · have e13 : (T.kind == 13) = false := by simp; omega
          have hof := hp.2 h13 h14
          rw [hof] at q3
          clear hp hof h13 h14 qi
          go_wp2_with (go_at_call 6; refine (HKj.out _ HBr.out).mono ?_; rintro e w3 ⟨rfl, hb3⟩; have HR3 := Lib.hid (box_keep HR.out hb3); have HB3 := Lib.hid (below_step8' HBr.out hb3); clear hb3)
          go_roundw
          case rel => exact ⟨j + 1, by omega, by go_num, HR3, HB3⟩
          case measure => simp [intOf]; omega
    · obtain rfl : j = T.len := by omega
      have d0 : wr.cell? ⟨w.heap.size, 0, none⟩ = some (.int .i64 T.kind) := cell_at HR.out rfl
      have d1 : wr.cell? ⟨w.heap.size, 1, none⟩ = some (.int .u64 T.num) := cell_at HR.out rfl
      have d2 : wr.cell? ⟨w.heap.size, 2, none⟩ = some (.string T.text) := cell_at HR.out rfl
      have d3 : wr.cell? ⟨w.heap.size, 3, none⟩ = some (.slice T.ia T.len T.cap) := cell_at HR.out rfl
      go_upto_region 13 with (fail)
      go_cut [86] (fun t wx => t = .bool ((T.kind != 12) && (T.kind != 13)) ∧ wr = wx)
      case first =>
        cases e12 : (T.kind != 12) with
        | false =>
          go_wp2
          go_meet
          exact ⟨by rw [e12]; rfl, rfl⟩
        | true =>
          cases e13 : (T.kind != 13) with
          | false =>
            go_wp2
            go_meet
            exact ⟨by rw [e12, e13]; rfl, rfl⟩
          | true =>
            go_wp2
            go_meet
            exact ⟨by rw [e12, e13]; rfl, rfl⟩
      case rest =>
        obtain ⟨rfl, rfl⟩ := hcut
        cases e12 : ((T.kind != 12) && (T.kind != 13)) with
        | true =>
          go_wp2_with (go_at_call 7; refine (HW.out _ HBr.out).mono ?_; rintro e w9 ⟨rfl, hb9⟩; have HB9 := Lib.hid (below_step8' HBr.out hb9); clear hb9)
          go_ret
          exact ⟨rfl, HB9.out⟩
        | false =>
        have H12 : T.kind = 12 ∨ T.kind = 13 := by
          rcases Classical.em (T.kind = 12) with h | h
          · exact .inl h
          · right
            rw [Bool.and_eq_false_iff] at e12
            rcases e12 with e | e
            · simp at e; exact absurd e h
            · simpa using e
        have hpos := HPOS.out H12
        have HNN := Lib.hid (HNO.out H12)
        obtain ⟨b', off', hia', _, _, k0, k1, k2, k3⟩ := HC.out 0 (by omega) wr HBr.out
        clear HNO HPOS HK HPT HCL HD8 HD6
        go_upto_region 15 with (fail)
        go_cut [9, 10] (fun p q wx => ∃ g1 g2, p = .pointer (some ⟨g1, 0, none⟩) ∧ q = .pointer (some ⟨g2, 0, none⟩) ∧ Hid (w.heap.size < g1 ∧ w.heap.size < g2 ∧ g1 ≠ g2) ∧ Hid (wx.heap[w.heap.size]? = some (.cells #[.int .i64 T.kind, .int .u64 T.num, .string T.text, .slice T.ia T.len T.cap] 26 (0, 0))) ∧ Hid (wx.heap[g1]? = some (.cells #[.int .i64 T.kind, .int .u64 T.num, .string T.text, .slice T.ia T.len T.cap] 26 (0, 0))) ∧ Hid (wx.heap[g2]? = some (.cells #[.int .i64 T.kind, .int .u64 T.num, .string T.text, .slice T.ia T.len T.cap] 26 (0, 0))) ∧ Hid (Below w.heap.size w wx))
        case first =>
          have hlt0 := lt_of_block HR.out
          have hne0 : ¬ w.heap.size = wr.heap.size := by omega
          have hne1 : ¬ w.heap.size = wr.heap.size + 1 := by omega
          go_region
          all_goals
            go_wp2_with fail
            go_meet
            have hg := HBr.out.size
            refine ⟨_, _, rfl, rfl, Lib.hid ⟨by omega, by omega, by omega⟩, Lib.hid (alloc_old (alloc_old HR.out)), Lib.hid ?_, Lib.hid ?_, Lib.hid ((HBr.out.alloc hg _).alloc (by simp; omega) _).drew⟩
            all_goals
              rw [hia']
              first | exact alloc_old (alloc_at wr _) | (have hx := alloc_at (wr.alloc (.cells #[.int .i64 T.kind, .int .u64 T.num, .string T.text, .slice (some ⟨b', off', none⟩) T.len T.cap] 26)) (.cells #[.int .i64 T.kind, .int .u64 T.num, .string T.text, .slice (some ⟨b', off', none⟩) T.len T.cap] 26); rw [show (wr.alloc (.cells #[.int .i64 T.kind, .int .u64 T.num, .string T.text, .slice (some ⟨b', off', none⟩) T.len T.cap] 26)).heap.size = wr.heap.size + 1 by simp] at hx; exact hx)
        case rest =>
          obtain ⟨g1, g2, rfl, rfl, HG, HR3, HL1, HL2, HB3⟩ := hcut
          obtain ⟨hg1, hg2, hg12⟩ := HG.out
          clear d0 d1 d2 d3 HR HBr k0 k1 k2 k3
          obtain ⟨tc, htc'⟩ : ∃ tc, T.cap = tc := ⟨_, rfl⟩
          have d3 : wc.cell? ⟨w.heap.size, 3, none⟩ = some (.slice (some ⟨b', off', none⟩) T.len tc) := by rw [← hia', ← htc']; exact cell_at HR3.out rfl
          have htc2 : T.len ≤ tc := by rw [← htc']; exact htc
          clear htc'
          have y3 : wc.cell? ⟨g1, 3, none⟩ = some (.slice (some ⟨b', off', none⟩) T.len T.cap) := by rw [← hia']; exact cell_at HL1.out rfl
          have z3 : wc.frozen? ⟨g1, 3, none⟩ = false := free_at HL1.out
          have hl1 : 1 ≤ T.len := hpos
          have HIA := Lib.hid hia'
          clear hia'
          go_upto_region 16 with (fail)
          go_cut [] (fun wy => Hid (wy.heap[w.heap.size]? = some (.cells #[.int .i64 T.kind, .int .u64 T.num, .string T.text, .slice T.ia T.len T.cap] 26 (0, 0))) ∧ Hid (∃ a1 c1, wy.heap[g1]? = some (.cells #[.int .i64 T.kind, .int .u64 T.num, .string T.text, .slice a1 (T.len - 1) c1] 26 (0, 0))) ∧ Hid (wy.heap[g2]? = some (.cells #[.int .i64 T.kind, .int .u64 T.num, .string T.text, .slice T.ia T.len T.cap] 26 (0, 0))) ∧ Hid (Below w.heap.size w wy))
          case first =>
            rcases Nat.eq_or_lt_of_le (show 1 ≤ tc by omega) with rfl | hc1
            · have h0 : T.len - 1 = 0 := by omega
              go_wp2_with fail
              go_meet
              refine ⟨Lib.hid ((set_other (by simp; omega)).trans HR3.out), Lib.hid ⟨some ⟨b', off', none⟩, 0, ?_⟩, Lib.hid ((set_other (by simp; omega)).trans HL2.out), Lib.hid (HB3.out.setCell (by simp; omega) _)⟩
              rw [h0]
              exact (set_at HL1.out).trans rfl
            · go_wp2_with fail
              go_meet
              exact ⟨Lib.hid ((set_other (by simp; omega)).trans HR3.out), Lib.hid ⟨_, _, (set_at HL1.out).trans rfl⟩, Lib.hid ((set_other (by simp; omega)).trans HL2.out), Lib.hid (HB3.out.setCell (by simp; omega) _)⟩
          case rest =>
            obtain ⟨HR4, HM1, HL4, HB4⟩ := hcut
            clear d3 y3 z3 HR3 HL1 HL2 HB3
            have hnews := HNW.out wc HB4.out _ HIA.out
            obtain ⟨i0, hi0, hz0, hz1, hz2⟩ := info_parts infoValue9
            obtain ⟨M, hM⟩ : ∃ M, T.kid 0 = M := ⟨_, rfl⟩
            have HCM := Lib.hid (show ∀ wx, Below w.heap.size w wx → wx.cell? ⟨b', off', none⟩ = some (.int .i64 M.kind) ∧ wx.cell? ⟨b', off' + 1, none⟩ = some (.int .u64 M.num) ∧ wx.cell? ⟨b', off' + 2, none⟩ = some (.string M.text) ∧ wx.cell? ⟨b', off' + 3, none⟩ = some (.slice M.ia M.len M.cap) from fun wx hb => by
              obtain ⟨b2, off2, e, _, _, x0, x1, x2, x3⟩ := HC.out 0 (by omega) wx hb
              rw [HIA.out] at e
              cases e
              rw [Nat.zero_mul, Nat.add_zero] at x0 x1 x2 x3
              rw [hM] at x0 x1 x2 x3
              exact ⟨x0, x1, x2, x3⟩)
            have hs0 := lt_of_block HR4.out
            have hs2 := lt_of_block HL4.out
            have HM := Lib.hid hM
            clear hM hnews
            go_upto_region 17 with (fail)
            go_cut [] (fun wy => Hid (wy.heap[w.heap.size]? = some (.cells #[.int .i64 T.kind, .int .u64 T.num, .string T.text, .slice T.ia T.len T.cap] 26 (0, 0))) ∧ Hid (∃ a1 c1, wy.heap[g1]? = some (.cells #[.int .i64 T.kind, .int .u64 T.num, .string T.text, .slice a1 (T.len - 1) c1] 26 (0, 0))) ∧ Hid (∃ a1 c1, wy.heap[g2]? = some (.cells #[.int .i64 T.kind, .int .u64 T.num, .string T.text, .slice a1 (T.len + 1) c1] 26 (0, 0))) ∧ Hid (Below w.heap.size w wy))
            case first =>
              refine wp_region_pre (by kernel_rfl) 9 100 (fun v => ((.slice (some ⟨b, off, none⟩) len cap : Value) :: (.int .i64 (k : Nat) : Value) :: (.agg #[.int .i64 T.kind, .int .u64 T.num, .string T.text, .slice T.ia T.len T.cap] : Value) :: undef :: undef :: (.pointer (some ⟨w.heap.size, 0, none⟩) : Value) :: u6 :: (.int .i64 (T.len : Nat) : Value) :: u8 :: (.pointer (some ⟨g1, 0, none⟩) : Value) :: (.pointer (some ⟨g2, 0, none⟩) : Value) :: u11 :: u12 :: u13 :: u14 :: u15 :: u16 :: u17 :: u18 :: u19 :: u20 :: u21 :: u22 :: u23 :: u24 :: u25 :: u26 :: u27 :: u28 :: u29 :: u30 :: u31 :: u32 :: u33 :: u34 :: u35 :: u36 :: u37 :: u38 :: u39 :: u40 :: u41 :: u42 :: u43 :: u44 :: u45 :: u46 :: u47 :: u48 :: u49 :: u50 :: u51 :: u52 :: u53 :: u54 :: u55 :: u56 :: u57 :: u58 :: u59 :: u60 :: u61 :: u62 :: u63 :: u64 :: u65 :: u66 :: u67 :: u68 :: u69 :: u70 :: u71 :: u72 :: u73 :: u74 :: u75 :: u76 :: u77 :: u78 :: u79 :: u80 :: u81 :: u82 :: u83 :: u84 :: u85 :: u86 :: u87 :: u88 :: u89 :: u90 :: u91 :: u92 :: u93 :: v 0 :: v 1 :: v 2 :: v 3 :: v 4 :: v 5 :: v 6 :: v 7 :: v 8 :: u103 :: u104 :: u105 :: u106 :: u107 :: u108 :: u109 :: u110 :: u111 :: u112 :: u113 :: u114 :: u115 :: u116 :: u117 :: u118 :: u119 :: []).toArray) (fun j => [u94, u95, u96, u97, u98, u99, u100, u101, u102].getD j undef) (Ok17 wc.heap.size T.len (rowL9 T.kid T.len) [.int .i64 M.kind, .int .u64 M.num, .string M.text, .slice M.ia M.len M.cap] (fun j => [undef, (.pointer (some ⟨w.heap.size, 3, none⟩) : Value), (.slice (some ⟨b', off', none⟩) T.len T.cap : Value), undef, (.pointer (some ⟨w.heap.size, 3, none⟩) : Value), (.slice (some ⟨b', off', none⟩) T.len T.cap : Value), (.pointer (some ⟨b', off', none⟩) : Value), (.agg #[.int .i64 M.kind, .int .u64 M.num, .string M.text, .slice M.ia M.len M.cap] : Value)].getD j undef)) (fun w' => Below wc.heap.size wc w') (fun _ => True) (Nat.le_of_ble_eq_true (by kernel_rfl)) (by kernel_rfl) ((Below.refl _ _).drew) trivial (fun j hj v w1 hBx _ hd => ?_) (fun v w1 hv hBx => ?_)
              · have hbw := below_step8' HB4.out hBx
                have z3 : w1.cell? ⟨w.heap.size, 3, none⟩ = some (.slice (some ⟨b', off', none⟩) T.len T.cap) := by rw [← HIA.out]; exact cell_at (box_keep HR4.out hBx) rfl
                obtain ⟨x0, x1, x2, x3⟩ := HCM.out w1 hbw
                rcases lt9 hj with rfl | rfl | rfl | rfl | rfl | rfl | rfl | rfl | rfl
                · skip
                  refine wpOp_step (o := _) rfl (fun K' hK => ?_)
                  go_simp
                  exact hK _ _ ⟨.slice (some ⟨w1.heap.size, 0, none⟩) 0 0, rfl, ⟨_, rfl, alloc_at _ _, hBx.size⟩, hBx.alloc hBx.size _, fun _ h => trivial, fun k y _ h => h.keep ((Below.refl _ _).alloc (Nat.le_refl _) _)⟩
                · skip
                  refine wpOp_step (o := _) rfl (fun K' hK => ?_)
                  go_simp
                  exact hK _ _ ⟨(.pointer (some ⟨w.heap.size, 3, none⟩) : Value), rfl, rfl, hBx, fun _ h => h, fun k y _ h => h⟩
                · have e1 : v 1 = (.pointer (some ⟨w.heap.size, 3, none⟩) : Value) := hd 1 (List.contains_iff_mem.1 (by kernel_rfl))
                  refine wpOp_step (o := _) rfl (fun K' hK => ?_)
                  go_simp
                  exact hK _ _ ⟨(.slice (some ⟨b', off', none⟩) T.len T.cap : Value), fr_eq9 (by simp [upd, e1]), rfl, hBx, fun _ h => h, fun k y _ h => h⟩
                · obtain ⟨g, e0, hg, hwg⟩ : ∃ g, v 0 = .slice (some ⟨g, 0, none⟩) 0 0 ∧ w1.heap[g]? = some (.cells #[] 26 (0, 0)) ∧ wc.heap.size ≤ g := hd 0 (List.contains_iff_mem.1 (by kernel_rfl))
                  have e2 : v 2 = (.slice (some ⟨b', off', none⟩) T.len T.cap : Value) := hd 2 (List.contains_iff_mem.1 (by kernel_rfl))
                  refine wpOp_step (o := _) rfl (fun K' hK => ?_)
                  refine step_append_fresh _ (by rfl) (.tmp 94) (.tmp 96) 24 (by rfl) 26 i0 (.agg #[.int .i64 0, .int .u64 0, .string ⟨#[]⟩, .slice none 0 0]) 4 56 Try.underlying24 hi0 hz0 hz1 hz2 (by rfl) (by decide) g (by exact e0) hg ⟨b', off', none⟩ T.len T.cap (rowL9 T.kid T.len) (by exact e2) (rowL9_len _ _) (HNW.out w1 hbw _ HIA.out) (rowL9_one _ _) (by omega) (by unfold maxLen; omega) (by omega) ?_
                  intro gcap w2 hown2 hb2
                  exact hK _ _ ⟨_, rfl, ⟨_, _, rfl, hown2 _ hBx.size⟩, below_step8' hBx hb2, fun _ h => trivial, fun k y _ h => h.keep hb2⟩
                · skip
                  refine wpOp_step (o := _) rfl (fun K' hK => ?_)
                  go_simp
                  exact hK _ _ ⟨(.pointer (some ⟨w.heap.size, 3, none⟩) : Value), rfl, rfl, hBx, fun _ h => h, fun k y _ h => h⟩
                · have e4 : v 4 = (.pointer (some ⟨w.heap.size, 3, none⟩) : Value) := hd 4 (List.contains_iff_mem.1 (by kernel_rfl))
                  refine wpOp_step (o := _) rfl (fun K' hK => ?_)
                  go_simp
                  exact hK _ _ ⟨(.slice (some ⟨b', off', none⟩) T.len T.cap : Value), fr_eq9 (by simp [upd, e4]), rfl, hBx, fun _ h => h, fun k y _ h => h⟩
                · have e5 : v 5 = (.slice (some ⟨b', off', none⟩) T.len T.cap : Value) := hd 5 (List.contains_iff_mem.1 (by kernel_rfl))
                  have hl0 : 0 < T.len := by omega
                  have hl00 : ¬ T.len = 0 := by omega
                  have hl01 : (0 : Int) < (T.len : Int) := by omega
                  refine wpOp_step (o := _) rfl (fun K' hK => ?_)
                  go_simp
                  exact hK _ _ ⟨.pointer (some ⟨b', off', none⟩), fr_eq9 (by simp [upd, e5]), rfl, hBx, fun _ h => h, fun k y _ h => h⟩
                · have e6 : v 6 = (.pointer (some ⟨b', off', none⟩) : Value) := hd 6 (List.contains_iff_mem.1 (by kernel_rfl))
                  refine wpOp_step (o := _) rfl (fun K' hK => ?_)
                  go_simp
                  exact hK _ _ ⟨.agg #[.int .i64 M.kind, .int .u64 M.num, .string M.text, .slice M.ia M.len M.cap], fr_eq9 (by simp [upd, e6]), rfl, hBx, fun _ h => h, fun k y _ h => h⟩
                · have e7 : v 7 = (.agg #[.int .i64 M.kind, .int .u64 M.num, .string M.text, .slice M.ia M.len M.cap] : Value) := hd 7 (List.contains_iff_mem.1 (by kernel_rfl))
                  refine wpOp_step (o := _) rfl (fun K' hK => ?_)
                  go_simp
                  exact hK _ _ ⟨.slice (some ⟨w1.heap.size, 0, none⟩) 1 1, fr_eq9 (by simp [upd, e7]), ⟨_, rfl, alloc_at _ _, hBx.size⟩, hBx.alloc hBx.size _, fun _ h => trivial, fun k y _ h => h.keep ((Below.refl _ _).alloc (Nat.le_refl _) _)⟩
              · obtain ⟨g, e0, _, _⟩ : ∃ g, v 0 = .slice (some ⟨g, 0, none⟩) 0 0 ∧ w1.heap[g]? = some (.cells #[] 26 (0, 0)) ∧ wc.heap.size ≤ g := hv 0 (by decide)
                have e1 : v 1 = (.pointer (some ⟨w.heap.size, 3, none⟩) : Value) := hv 1 (by decide)
                have e2 : v 2 = (.slice (some ⟨b', off', none⟩) T.len T.cap : Value) := hv 2 (by decide)
                obtain ⟨g3, cap3, e3, hown3⟩ : ∃ g cap, v 3 = .slice (some ⟨g, 0, none⟩) T.len cap ∧ w1.ownsRow wc.heap.size 26 4 (v 3) T.len (rowL9 T.kid T.len) := hv 3 (by decide)
                have e4 : v 4 = (.pointer (some ⟨w.heap.size, 3, none⟩) : Value) := hv 4 (by decide)
                have e5 : v 5 = (.slice (some ⟨b', off', none⟩) T.len T.cap : Value) := hv 5 (by decide)
                have e6 : v 6 = (.pointer (some ⟨b', off', none⟩) : Value) := hv 6 (by decide)
                have e7 : v 7 = (.agg #[.int .i64 M.kind, .int .u64 M.num, .string M.text, .slice M.ia M.len M.cap] : Value) := hv 7 (by decide)
                obtain ⟨g8, e8, hg8, hw8⟩ : ∃ g, v 8 = .slice (some ⟨g, 0, none⟩) 1 1 ∧ w1.heap[g]? = some (.cells ([.int .i64 M.kind, .int .u64 M.num, .string M.text, .slice M.ia M.len M.cap] : List Value).toArray 26 (0, 0)) ∧ wc.heap.size ≤ g := hv 8 (by decide)
                rw [e3] at hown3
                have hbs := hBx.size
                have HBX := Lib.hid hBx
                have HO3 := Lib.hid hown3
                have HG8 := Lib.hid hg8
                clear hv hBx hown3 hg8
                have hU : ∀ u ∈ ([.int .i64 M.kind, .int .u64 M.num, .string M.text, .slice M.ia M.len M.cap] : List Value), u.oneCell' = true := by intro u hu; simp only [List.mem_cons, List.not_mem_nil, or_false] at hu; rcases hu with rfl | rfl | rfl | rfl <;> rfl
                refine wpAny_of_held (S := fun _ => True) _ _ _ _ ?_
                simp only [e0, e1, e2, e3, e4, e5, e6, e7, e8]
                clear e0 e1 e2 e3 e4 e5 e6 e7 e8
                refine wpAnyH_ready (fuel := 2) (rs := [9]) (by kernel_rfl) (by simp) ?_
                refine AllReadyH.cons (o := _) rfl (fun K hK => ?_) AllReadyH.nil
                refine step_append_lies _ (by rfl) (.tmp 97) (.tmp 102) 24 (by rfl) wc.heap.size 26 i0 (.agg #[.int .i64 0, .int .u64 0, .string ⟨#[]⟩, .slice none 0 0]) 4 56 Try.underlying24 hi0 hz0 hz1 hz2 (by rfl) (by decide) (.slice (some ⟨g3, 0, none⟩) T.len cap3) T.len (rowL9 T.kid T.len) (by rfl) HO3.out ⟨g8, 0, none⟩ 1 1 [.int .i64 M.kind, .int .u64 M.num, .string M.text, .slice M.ia M.len M.cap] (by rfl) (by rfl) (World.news_of_block HG8.out) hU (by decide) (by unfold maxLen; omega) (by omega) hbs w1.heap.size rfl ?_
                intro g4 cap4 w2 hown4 hgrow hat hlt2
                have HB2 := Lib.hid (HBX.out.grown hgrow hbs (fun k hk => (HO3.out.lt k hk).1))
                refine hK.out _ _ trivial (fun _ => ?_)
                clear hK K hown4 hgrow hat
                refine wpAnyH_ready (fuel := 1) (rs := [10]) (by kernel_rfl) (by simp) ?_
                refine AllReadyH.cons (o := _) rfl (fun K hK => ?_) AllReadyH.nil
                go_simp
                refine hK.out _ _ trivial (fun _ => ?_)
                clear hK K
                have HQ2 := Lib.hid (box_keep HL4.out HB2.out)
                have y3 : w2.cell? ⟨g2, 3, none⟩ = some (.slice (some ⟨b', off', none⟩) T.len T.cap) := by rw [← HIA.out]; exact cell_at HQ2.out rfl
                have f3 : w2.frozen? ⟨g2, 3, none⟩ = false := free_at HQ2.out
                refine wpAnyH_ready (fuel := 0) (rs := [11]) (by kernel_rfl) (by simp) ?_
                refine AllReadyH.cons (o := _) rfl (fun K hK => ?_) AllReadyH.nil
                go_simp
                refine hK.out _ _ trivial (fun _ => ?_)
                clear hK K
                refine wpAnyH_done (by kernel_rfl) ?_ _
                go_wp2_with fail
                go_meet
                obtain ⟨a1, c1, hm1⟩ := HM1.out
                exact ⟨Lib.hid ((set_other (by simp; omega)).trans (box_keep HR4.out HB2.out)), Lib.hid ⟨a1, c1, (set_other (by simpa using hg12)).trans (box_keep hm1 HB2.out)⟩, Lib.hid ⟨_, _, (set_at HQ2.out).trans rfl⟩, Lib.hid ((below_step8' HB4.out HB2.out).setCell (by simp; omega) _)⟩
            case rest =>
              obtain ⟨HR5, HM5, HN5, HB5⟩ := hcut
              clear HR4 HM1 HL4 HB4
              obtain ⟨a1, c1, hm1⟩ := HM5.out
              obtain ⟨a2, c2, hn1⟩ := HN5.out
              have HA1 := Lib.hid hm1
              have HA2 := Lib.hid hn1
              have l0 : wc.cell? ⟨g1, 0, none⟩ = some (.int .i64 T.kind) := cell_at hm1 rfl
              have l1 : wc.cell? ⟨g1, 1, none⟩ = some (.int .u64 T.num) := cell_at hm1 rfl
              have l2 : wc.cell? ⟨g1, 2, none⟩ = some (.string T.text) := cell_at hm1 rfl
              have l3 : wc.cell? ⟨g1, 3, none⟩ = some (.slice a1 (T.len - 1) c1) := cell_at hm1 rfl
              have hq1 : T.len - 1 ≤ 301 := by omega
              have hq2 : T.len - 1 ≠ T.len := by omega
              have hq3 : T.len + 1 ≤ 301 := by omega
              have hq4 : T.len + 1 ≠ T.len := by omega
              have HF1 := Lib.hid (fun wx hb => HNN.out a1 (T.len - 1) c1 hq1 hq2 wx hb)
              have HF2 := Lib.hid (fun wx hb => HNN.out a2 (T.len + 1) c2 hq3 hq4 wx hb)
              obtain ⟨n1, hn1'⟩ : ∃ n, T.len - 1 = n := ⟨_, rfl⟩
              obtain ⟨n2, hn2'⟩ : ∃ n, T.len + 1 = n := ⟨_, rfl⟩
              rw [hn1'] at l3 HF1
              rw [hn2'] at HA2 HF2
              clear HNN hm1 hn1 hq1 hq2 hq3 hq4 hn1' hn2' HM5 HN5 HA1
              go_wp2_with (first
                | (go_at_call 6; (with_reducible refine (HF1.out _ HB5.out).mono ?_); rintro e w6 ⟨rfl, hb6⟩; have HB6 := Lib.hid (below_step8' HB5.out hb6); have HA6 := Lib.hid (box_keep HA2.out hb6); have m0 : w6.cell? ⟨g2, 0, none⟩ = some (.int .i64 T.kind) := cell_at HA6.out rfl; have m1 : w6.cell? ⟨g2, 1, none⟩ = some (.int .u64 T.num) := cell_at HA6.out rfl; have m2 : w6.cell? ⟨g2, 2, none⟩ = some (.string T.text) := cell_at HA6.out rfl; have m3 : w6.cell? ⟨g2, 3, none⟩ = some (.slice a2 n2 c2) := cell_at HA6.out rfl; clear hb6)
                | (go_at_call 6; (with_reducible refine (HF2.out _ HB6.out).mono ?_); rintro e w7 ⟨rfl, hb7⟩; have HB7 := Lib.hid (below_step8' HB6.out hb7); clear hb7)
                | (go_at_call 7; refine (HW.out _ HB7.out).mono ?_; rintro e w9 ⟨rfl, hb9⟩; have HB9 := Lib.hid (below_step8' HB7.out hb9); clear hb9))
              go_ret
              exact ⟨rfl, HB9.out⟩
set_option maxRecDepth 100000 in
theorem lifted (os : Os) (started : os.Started) (H : Type) (enc : TypeId × Value → H) :
    ReturnsInHanded {} Try.checked os 3 .any (Rows.fitsPartsSpec.pre6 enc Try.prog Try.f3 Rows.fitsPartsRow.domain false) (Rows.fitsPartsSpec.post enc Try.prog Try.f3 false true false false) := by
  refine returnsInHanded_of_change_sized (C := Try.checked) own started (by kernel_rfl) Try.func3
    (ChangeSpec.witness6 (enc := enc) (C := Try.checked) false ⟨#[], #[.slice none 0 0, .int .i64 0, .agg #[.int .i64 0, .int .u64 0, .string ⟨#[]⟩, .slice none 0 0]], []⟩ 8 (by kernel_rfl) (by kernel_rfl) (by kernel_rfl) (by kernel_rfl)) ?_
  intro W base args ds gs before hval0 hW hcnd hsz _
  have hval : ∀ (j : Nat) t v, Try.f3.params[j]? = some t → args[j]? = some v → Value.okWide Try.prog W .any base t v := hval0
  have hW' := hW
  obtain ⟨p, q, hA0, hV, rfl, hfz, hnd⟩ := hW
  have hA : DataW.TrodAll enc Try.prog W 0 (fun _ => true) true Try.f3.params.toList args.toList ds p := hA0
  rw [Try.params3] at hA hval
  obtain ⟨rfl, rfl⟩ := trodVars_none hV
  clear hA0 hval0
  simp only [List.append_nil] at hW'
  have hlt := hW'.lt
  have hA1 := hA
  have hsz1 : (DataW.weightsEach Try.prog (Try.f3.params.toList ++ []) (ds ++ [])).all (· ≤ reachBytes) = true := hsz
  rw [Try.params3, List.append_nil, List.append_nil] at hsz1
  have hrd := rdg_all _ _ _ _ hA1 (fun n hn => by simpa using List.all_eq_true.1 hsz1 n hn)
  obtain ⟨v0, vs0, d0, ds0, p0, q0, hargs, rfl, rfl, h0, r0⟩ := trodAll_cons hA
  obtain ⟨v1, vs1, d1, ds1, p1, q1, rfl, rfl, rfl, h1, r1⟩ := trodAll_cons r0
  obtain ⟨v2, vs2, d2, ds2, p2, q2, rfl, rfl, rfl, h2, r2⟩ := trodAll_cons r1
  obtain ⟨rfl, rfl, rfl⟩ := trodAll_nil r2
  obtain rfl : args = #[v0, v1, v2] := by cases args; simp_all
  obtain ⟨a1, rfl, w1⟩ := rop_int Try.underlying3 (hval 1 3 v1 rfl rfl) (hrd 1 3 v1 rfl rfl)
  have g2 := hrd 2 26 v2 rfl rfl
  obtain ⟨cs2, rfl, hz2⟩ := ok_agg (by first | exact .inl ⟨_, Try.underlying26⟩ | exact .inr ⟨_, _, Try.underlying26⟩) (hval 2 26 v2 rfl rfl)

  obtain ⟨ao, len, cap, L, rfl, hcap, hm, hcp, H⟩ := types_of3 (rop_slice 6 Try.underlying22 (by kernel_rfl) (hval 0 22 v0 rfl rfl) (hrd 0 22 v0 rfl rfl))
  obtain ⟨T, hT, HT⟩ := val_of hz2 g2
  unfold valV at hT
  injection hT with hT
  subst hT
  refine (walk ao len cap L a1 T _ hcap hm hcp W H HT (val_cap g2)).mono fun e W' ⟨he, bel⟩ => ?_
  subst he
  exact ⟨_, rfl, _, _, _, [], _, [], hW', trodAll_mk1 (shut_bool Try.underlying4 _), trodAll_below laidOut bel [22, 3, 26] _ _ _ (by kernel_rfl) hA1 hlt, rfl, bel.frame _, fun h => by cases h⟩
theorem over : Rows.fitsPartsRow.holds Try.pinned (OpenSpec.ofChange Rows.fitsPartsSpec) :=
  OpenClaim.holds_of_wide 3 Try.f3 rfl rfl rfl rfl rfl rfl rfl ⟨rfl, rfl, rfl, rfl, rfl⟩ rfl rfl rfl rfl rfl (by kernel_rfl) Try.func3 (by kernel_rfl)
    (of_decide_eq_true (by kernel_rfl)) (by unfold Func.isWrapper; first | (rw [if_pos (by decide +kernel)]; kernel_rfl) | (rw [if_neg (by decide +kernel)]; exact ⟨rfl, rfl⟩))
    (fun os started H enc _ => lifted os started H enc)
theorem proved : Rows.FitsPartsSaid := over
#print axioms proved
end Go.Proofs.Ytohphejhlgnciaa.fitsParts
