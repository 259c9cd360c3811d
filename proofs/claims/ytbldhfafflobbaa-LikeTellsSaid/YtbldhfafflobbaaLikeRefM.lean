/- The reference of chapter 17: Match, row by row. -/
import Derived.Test.YtbldhfafflobbaaLikeRef
import Derived.OwnWalk
import Derived.BigRegion
import Derived.Laws.OwnMore
namespace Go.Proofs.Ytbldhfafflobbaa
open Go.RowKit
set_option linter.unusedVariables false
set_option linter.unusedSimpArgs false
theorem info_bool : (Try.prog.info? 4).map (fun i => (i.zero, i.size, i.bytes)) = some (some (.bool false), 1, 1) := by kernel_rfl
/-- a row of truths in memory -/
def BRow (base : Nat) (w : World) (g n : Nat) (l : List Bool) : Prop := w.ownsRow base 4 1 (.slice (some ⟨g, 0, none⟩) n n) n (l.map Value.bool)
theorem BRow.cell {base g n : Nat} {w : World} {l : List Bool} (h : BRow base w g n l) (j : Nat) (hj : j < n) : w.cell? ⟨g, j, none⟩ = some (.bool (l.getD j false)) := by
  have hl : l.length = n := by have := h.1; simpa using this
  have hc := World.ownsRow.cellAt h j (by omega)
  rw [hc, List.getElem?_map, List.getElem?_eq_getElem (by omega), List.getD_eq_getElem?_getD, List.getElem?_eq_getElem (by omega)]
  rfl
theorem BRow.put {base g n : Nat} {w : World} {l : List Bool} (h : BRow base w g n l) (j : Nat) (b : Bool) : BRow base (w.setCell ⟨g, j, none⟩ (.bool b)) g n (l.set j b) := by
  have := (World.ownsRow.stored h j (.bool b)).1
  unfold BRow
  rw [List.map_set]; exact this
theorem BRow.other {base g g2 n : Nat} {w : World} {l l2 : List Bool} (h : BRow base w g n l) (h2 : BRow base w g2 n l2) (hne : g ≠ g2) (j : Nat) (b : Bool) : BRow base (w.setCell ⟨g2, j, none⟩ (.bool b)) g n l :=
  World.ownsRow.kept h (World.ownsRow.stored h2 j (.bool b)).2 (.inr (by simp [Value.ownBlock]; exact hne))
theorem BRow.lt {base g n : Nat} {w : World} {l : List Bool} (h : BRow base w g n l) : base ≤ g ∧ g < w.heap.size := World.ownsRow.lt h g rfl
theorem BRow.drew {base g n : Nat} {w : World} {l : List Bool} (h : BRow base w g n l) : BRow base w.drew g n l := h
theorem brow_new {base n : Nat} {w w1 : World} (h : w1.ownsRow base 4 1 (.slice (some ⟨w.heap.size, 0, none⟩) n n) n (madeCells #[Value.bool false] n).toList) : BRow base w1 w.heap.size n (List.replicate n false) := by
  unfold BRow
  have e : (madeCells #[Value.bool false] n).toList = List.replicate n (.bool false) := toList_madeCells_one _ _
  rw [List.map_replicate, ← e]; exact h
def RMatTo (p s : List UInt8) (w : World) : Prop := Calls Try.prog 8 #[.string (bt p), .string (bt s)] w fun e w' => e = .returned (.bool (likeL p s)) ∧ Below w.heap.size w w'
set_option maxRecDepth 100000 in
set_option maxHeartbeats 4000000 in
theorem refMatch_any (p s : List UInt8) (hp : p.length ≤ 1000000) (hs : s.length ≤ 1000000) (w : World) : RMatTo p s w := by
  unfold RMatTo
  obtain ⟨i0, hi, hz0, hz1, hz2⟩ := info_parts info_bool
  have hpz : (bt p).size = p.length := bt_size p
  have hsz : (bt s).size = s.length := bt_size s
  have HGP := Lib.hid (bt_get p)
  have HGS := Lib.hid (bt_get s)
  obtain ⟨n, hn⟩ : ∃ n, s.length + 1 = n := ⟨_, rfl⟩
  have HF := Lib.hid (show (List.replicate n false).set 0 true = rowL p s 0 by rw [← hn]; exact row_first p s)
  have HTZ := Lib.hid (fun i => show List.replicate n false = rowT p s i 0 by rw [← hn]; exact (rowT_zero p s i).symm)
  have HTF := Lib.hid (fun i => show rowT p s i n = rowL p s i by rw [← hn]; exact rowT_full p s i)
  obtain ⟨P, hP⟩ : ∃ P, bt p = P := ⟨_, rfl⟩
  obtain ⟨S, hS⟩ : ∃ S, bt s = S := ⟨_, rfl⟩
  rw [hP] at hpz HGP ⊢
  rw [hS] at hsz HGS ⊢
  have hn1 : n ≤ 1000001 := by omega
  have hwn : IntKind.i64.wrap ((s.length : Int) + 1) = (n : Int) := by rw [IntWalk.i64_in _ (by omega)]; omega
  have hmp : P.size ≤ maxLen := by show P.size ≤ 9223372036854775807; omega
  have hms : S.size ≤ maxLen := by show S.size ≤ 9223372036854775807; omega
  have hn0 : 0 < n := by omega
  have hn0i : (0 : Int) < (n : Int) := by omega
  have HNN := Lib.hid hn
  clear hP hS hn
  go_enter Try.func8, Try.ntmps8
  go_wp2_with (refine wpList_make_full _ rfl (.tmp 11) (.tmp 11) 29 rfl w.heap.size 4 i0 (.bool false) 1 Try.underlying29 hi hz0 hz1 .i64 .i64 _ _ n rfl rfl (by first | rfl | omega) (by first | rfl | omega) (by rw [hz2]; omega) (by unfold maxLen; omega) (Nat.le_refl _) ?_)
  intro w1 hown hg
  have h1 := brow_new hown
  have hb1 := (Below.refl w.heap.size w).grown hg (Nat.le_refl _) (fun k hk => by cases hk)
  have hput := h1.put 0 true
  rw [HF.out] at hput
  have c0 := h1.cell 0 hn0
  have f0 := World.ownsRow.frozenAt h1 0
  have HR0 := Lib.hid hput
  have HB0 := Lib.hid (hb1.setCell (p := ⟨w.heap.size, 0, none⟩) (Nat.le_refl _) (.bool true))
  clear hown hg h1 hb1 hput
  go_wp2_with (fail)
  generalize w1.setCell ⟨w.heap.size, 0, none⟩ (.bool true) = w2 at *
  clear c0 f0
  go_loopw [5, 6, 7, 8] (fun r i _ _ wr => ∃ (j g : Nat), j ≤ p.length ∧ i = .int .i64 j ∧ r = .slice (some ⟨g, 0, none⟩) n n ∧ Hid (BRow w.heap.size wr g n (rowL p s j)) ∧ Hid (Below w.heap.size w wr)) (fun _ i _ _ _ => p.length - (intOf i).toNat)
  case atStart => exact ⟨0, w.heap.size, Nat.zero_le _, rfl, rfl, HR0, HB0⟩
  case round =>
    obtain ⟨j, g, hj, rfl, rfl, HR, HBr⟩ := hrel
    by_cases hlt : j < p.length
    · have hji : (j : Int) < (p.length : Int) := by omega
      have hsw : w.heap.size ≤ wr.heap.size := HBr.out.size
      go_wp2_with (refine wpList_make_full _ rfl (.tmp 23) (.tmp 23) 29 rfl w.heap.size 4 i0 (.bool false) 1 Try.underlying29 hi hz0 hz1 .i64 .i64 _ _ n rfl rfl (by first | rfl | omega) (by first | rfl | omega) (by rw [hz2]; omega) (by unfold maxLen; omega) (hsw) ?_)
      intro w3 hown hg
      have h3 := brow_new hown
      rw [HTZ.out (j + 1)] at h3
      have hglt := HR.out.lt
      have HR3 := Lib.hid (show BRow w.heap.size w3 g n (rowL p s j) from World.ownsRow.kept HR.out hg (.inr (by simp [Value.ownBlock])))
      have HN3 := Lib.hid h3
      have HB3 := Lib.hid (HBr.out.grown hg hsw (fun k hk => by cases hk))
      obtain ⟨g2, hg2⟩ : ∃ g2, wr.heap.size = g2 := ⟨_, rfl⟩
      rw [hg2] at HN3 hglt hsw ⊢
      have hne : g ≠ g2 := by omega
      clear hown hg h3 HR HBr hg2
      go_wp2_with (fail)
      go_loopw [8] (fun kk wx => ∃ (k : Nat), k ≤ n ∧ kk = .int .i64 k ∧ Hid (BRow w.heap.size wx g n (rowL p s j)) ∧ Hid (BRow w.heap.size wx g2 n (rowT p s (j + 1) k)) ∧ Hid (Below w.heap.size w wx)) (fun kk _ => n - (intOf kk).toNat)
      case atStart => exact ⟨0, Nat.zero_le _, rfl, HR3, HN3, HB3⟩
      case round =>
        obtain ⟨k, hk, rfl, HRx, HNx, HBx⟩ := hrel
        by_cases hkn : k < n
        · have hks : k ≤ s.length := by have := HNN.out; omega
          have hksi : (k : Int) ≤ (s.length : Int) := by omega
          have hV := row_step (p := p) (s := s) hlt hks
          have hjP : j < P.size := by omega
          have hg := HGP.out j hjP
          have t37 := byte_eq (p.getD j 0) 37 (by decide)
          have t95 := byte_eq (p.getD j 0) 95 (by decide)
          obtain ⟨b37, h37⟩ : ∃ b, (p.getD j 0 == UInt8.ofNat 37) = b := ⟨_, rfl⟩
          obtain ⟨b95, h95⟩ : ∃ b, (p.getD j 0 == UInt8.ofNat 95) = b := ⟨_, rfl⟩
          rw [h37, ← hg] at t37
          rw [h95, ← hg] at t95
          have t37 : ((((P[j]'hjP).toNat : Nat) : Int) == 37) = b37 := t37
          have t95 : ((((P[j]'hjP).toNat : Nat) : Int) == 95) = b95 := t95
          have h95 : (p.getD j 0 == 95) = b95 := h95
          have fz := World.ownsRow.frozenAt HNx.out k
          have cz := HNx.out.cell k hkn
          obtain ⟨ov, hov⟩ : ∃ ov, (rowT p s (j + 1) k).getD k false = ov := ⟨_, rfl⟩
          rw [hov] at cz
          clear hov
          have HSTO := Lib.hid (fun v (hv : likeL (p.take (j + 1)) (s.take k) = v) => (show BRow w.heap.size (wr.setCell ⟨g2, k, none⟩ (.bool v)) g n (rowL p s j) ∧ BRow w.heap.size (wr.setCell ⟨g2, k, none⟩ (.bool v)) g2 n (rowT p s (j + 1) (k + 1)) ∧ Below w.heap.size w (wr.setCell ⟨g2, k, none⟩ (.bool v)) from ⟨HRx.out.other HNx.out hne k v, by rw [← rowT_set p s (j + 1) k hks, hv]; exact HNx.out.put k v, HBx.out.setCell (p := ⟨g2, k, none⟩) hsw (.bool v)⟩))
          have c0 := HRx.out.cell k hkn
          rw [rowL_get p s j k hks] at c0
          cases b37 with
          | true =>
            have e : p.getD j 0 = 37 := eq_of_beq h37
            rw [if_pos e] at hV
            clear e hg h37 h95 t95
            obtain ⟨a, ha⟩ : ∃ a, likeL (p.take j) (s.take k) = a := ⟨_, rfl⟩
            rw [ha] at c0 hV
            clear ha
            cases a with
            | true =>
              rw [Bool.true_or] at hV
              have HS := Lib.hid (HSTO.out true hV)
              clear hV HSTO 
              go_wp2_with (fail)
              go_roundw
              case rel => exact ⟨k + 1, by omega, by go_num, (by first | exact Lib.hid HS.out.1 | exact Lib.hid HS.out.1.drew), (by first | exact Lib.hid HS.out.2.1 | exact Lib.hid HS.out.2.1.drew), (by first | exact Lib.hid HS.out.2.2 | exact Lib.hid HS.out.2.2.drew)⟩
              case measure => simp [intOf]; omega
            | false =>
              cases k with
              | zero =>
                have hV : likeL (p.take (j + 1)) (s.take 0) = false := hV
                have HS := Lib.hid (HSTO.out false hV)
                clear hV HSTO 
                go_wp2_with (fail)
                go_roundw
                case rel => exact ⟨0 + 1, by omega, by go_num, (by first | exact Lib.hid HS.out.1 | exact Lib.hid HS.out.1.drew), (by first | exact Lib.hid HS.out.2.1 | exact Lib.hid HS.out.2.1.drew), (by first | exact Lib.hid HS.out.2.2 | exact Lib.hid HS.out.2.2.drew)⟩
                case measure => simp [intOf]; omega
              | succ m =>
                have c1 := HNx.out.cell m (by omega)
                rw [rowT_get p s (j + 1) (m + 1) m (by omega), decide_eq_true (Nat.lt_succ_self m), Bool.true_and] at c1
                rw [Nat.add_sub_cancel, decide_eq_true (Nat.succ_pos m), Bool.true_and, Bool.false_or] at hV
                have hwm : IntKind.i64.wrap (m : Int) = (m : Int) := IntWalk.i64_in _ (by omega)
                have hmn : m < n := by omega
                have hmni : (m : Int) < (n : Int) := by omega
                obtain ⟨b, hb⟩ : ∃ b, likeL (p.take (j + 1)) (s.take m) = b := ⟨_, rfl⟩
                rw [hb] at c1 hV
                clear hb
                cases b with
                | true =>
                  have HS := Lib.hid (HSTO.out true hV)
                  clear hV HSTO 
                  go_wp2_with (fail)
                  go_roundw
                  case rel => exact ⟨m + 1 + 1, by omega, by go_num, (by first | exact Lib.hid HS.out.1 | exact Lib.hid HS.out.1.drew), (by first | exact Lib.hid HS.out.2.1 | exact Lib.hid HS.out.2.1.drew), (by first | exact Lib.hid HS.out.2.2 | exact Lib.hid HS.out.2.2.drew)⟩
                  case measure => simp [intOf]; omega
                | false =>
                  have HS := Lib.hid (HSTO.out false hV)
                  clear hV HSTO 
                  go_wp2_with (fail)
                  go_roundw
                  case rel => exact ⟨m + 1 + 1, by omega, by go_num, (by first | exact Lib.hid HS.out.1 | exact Lib.hid HS.out.1.drew), (by first | exact Lib.hid HS.out.2.1 | exact Lib.hid HS.out.2.1.drew), (by first | exact Lib.hid HS.out.2.2 | exact Lib.hid HS.out.2.2.drew)⟩
                  case measure => simp [intOf]; omega
          | false =>
            have e : ¬ p.getD j 0 = 37 := fun e => by rw [e] at h37; exact absurd h37 (by decide)
            rw [if_neg e] at hV
            clear e c0 h37
            cases k with
            | zero =>
              have hV : likeL (p.take (j + 1)) (s.take 0) = false := hV
              have HN2 := Lib.hid (show BRow w.heap.size wr g2 n (rowT p s (j + 1) (0 + 1)) by rw [← rowT_skip p s (j + 1) 0 (Nat.zero_le _) hV]; exact HNx.out)
              clear hV HSTO hg h95
              go_wp2_with (fail)
              go_roundw
              case rel => exact ⟨0 + 1, by omega, by go_num, HRx, HN2, HBx⟩
              case measure => simp [intOf]; omega
            | succ m =>
              have c1 := HRx.out.cell m (by omega)
              rw [rowL_get p s j m (by omega)] at c1
              rw [Nat.add_sub_cancel, decide_eq_true (Nat.succ_pos m), Bool.true_and, h95] at hV
              have hwm : IntKind.i64.wrap (m : Int) = (m : Int) := IntWalk.i64_in _ (by omega)
              have hmn : m < n := by omega
              have hmni : (m : Int) < (n : Int) := by omega
              have hmS : m < S.size := by omega
              have hgs := HGS.out m hmS
              rw [← hg, ← hgs] at hV
              obtain ⟨a, ha⟩ : ∃ a, likeL (p.take j) (s.take m) = a := ⟨_, rfl⟩
              rw [ha] at c1 hV
              clear ha hg h95 hgs
              cases a with
              | false =>
                rw [Bool.false_and] at hV
                have HS := Lib.hid (HSTO.out false hV)
                clear hV HSTO 
                go_wp2_with (fail)
                go_region
                all_goals go_wp2_with (fail)
                all_goals go_roundw
                case rel => exact ⟨m + 1 + 1, by omega, by go_num, (by first | exact Lib.hid HS.out.1 | exact Lib.hid HS.out.1.drew), (by first | exact Lib.hid HS.out.2.1 | exact Lib.hid HS.out.2.1.drew), (by first | exact Lib.hid HS.out.2.2 | exact Lib.hid HS.out.2.2.drew)⟩
                case measure => simp [intOf]; omega
              | true =>
                rw [Bool.true_and] at hV
                cases b95 with
                | true =>
                  rw [Bool.true_or] at hV
                  have HS := Lib.hid (HSTO.out true hV)
                  clear hV HSTO 
                  go_wp2_with (fail)
                  go_region
                  all_goals go_wp2_with (fail)
                  all_goals go_roundw
                  case rel => exact ⟨m + 1 + 1, by omega, by go_num, (by first | exact Lib.hid HS.out.1 | exact Lib.hid HS.out.1.drew), (by first | exact Lib.hid HS.out.2.1 | exact Lib.hid HS.out.2.1.drew), (by first | exact Lib.hid HS.out.2.2 | exact Lib.hid HS.out.2.2.drew)⟩
                  case measure => simp [intOf]; omega
                | false =>
                  rw [Bool.false_or] at hV
                  have tb : ((((P[j]'hjP).toNat : Nat) : Int) == (((S[m]'hmS).toNat : Nat) : Int)) = (P[j]'hjP == S[m]'hmS) := by
                    rw [Bool.eq_iff_iff, beq_iff_eq, beq_iff_eq]
                    constructor
                    · intro h; exact UInt8.toNat_inj.1 (by omega)
                    · intro h; rw [h]
                  obtain ⟨b, hb⟩ : ∃ b, (P[j]'hjP == S[m]'hmS) = b := ⟨_, rfl⟩
                  rw [hb] at tb hV
                  clear hb
                  obtain ⟨pb, hpb⟩ : ∃ pb, (P[j]'hjP).toNat = pb := ⟨_, rfl⟩
                  obtain ⟨sb, hsb⟩ : ∃ sb, (S[m]'hmS).toNat = sb := ⟨_, rfl⟩
                  rw [hpb] at t37 t95 tb
                  rw [hsb] at tb
                  have tbn : (pb == sb) = b := by rw [← tb, Bool.eq_iff_iff, beq_iff_eq, beq_iff_eq]; omega
                  have tbd : decide (pb = sb) = b := by rw [← tbn, Bool.eq_iff_iff, beq_iff_eq, decide_eq_true_eq]
                  cases b with
                  | true =>
                    have HS := Lib.hid (HSTO.out true hV)
                    clear hV HSTO 
                    go_wp2_with (fail)
                    go_region
                    all_goals go_wp2_with (fail)
                    all_goals go_roundw
                    case rel => exact ⟨m + 1 + 1, by omega, by go_num, (by first | exact Lib.hid HS.out.1 | exact Lib.hid HS.out.1.drew), (by first | exact Lib.hid HS.out.2.1 | exact Lib.hid HS.out.2.1.drew), (by first | exact Lib.hid HS.out.2.2 | exact Lib.hid HS.out.2.2.drew)⟩
                    case measure => simp [intOf]; omega
                  | false =>
                    have HS := Lib.hid (HSTO.out false hV)
                    clear hV HSTO 
                    go_wp2_with (fail)
                    go_region
                    all_goals go_wp2_with (fail)
                    all_goals go_roundw
                    case rel => exact ⟨m + 1 + 1, by omega, by go_num, (by first | exact Lib.hid HS.out.1 | exact Lib.hid HS.out.1.drew), (by first | exact Lib.hid HS.out.2.1 | exact Lib.hid HS.out.2.1.drew), (by first | exact Lib.hid HS.out.2.2 | exact Lib.hid HS.out.2.2.drew)⟩
                    case measure => simp [intOf]; omega
        · have hni : ¬ (n : Int) ≤ (s.length : Int) := by have := HNN.out; omega
          obtain rfl : k = n := by omega
          have HRN := Lib.hid (show BRow w.heap.size wr g2 k (rowL p s (j + 1)) by rw [← HTF.out (j + 1)]; exact HNx.out)
          clear hkn
          go_wp2_with (fail)
          go_roundw
          case rel => exact ⟨j + 1, g2, by omega, by go_num, rfl, HRN, HBx⟩
          case measure => simp [intOf]; omega
    · obtain rfl : j = p.length := by omega
      have hc := HR.out.cell s.length (by have := HNN.out; omega)
      rw [row_last] at hc
      have hsn : s.length < n := by have := HNN.out; omega
      have hsni : (s.length : Int) < (n : Int) := by omega
      clear hlt
      go_wp2_with (fail)
      go_ret
      exact ⟨rfl, HBr.out⟩
end Go.Proofs.Ytbldhfafflobbaa
