/- Great: too great, or too deep, to be asked; and the reading of a tree that comes in. -/
import Derived.Test.YtbejpgoedenpmaaGreatDoorExprTree
import Derived.Test.YtbejpgoedenpmaaGreatDoorRdgSlice
namespace Go.Proofs.YtbejpgoedenpmaaGreatDoor
open Go.RowKit
set_option linter.unusedVariables false
def RGreatTo (T : XT) (d : Nat) (w : World) : Prop := Calls Tryz.prog 10 #[.agg #[.int .i64 T.op, .int .i64 T.rel, .slice T.aa T.an T.ac, .slice T.ka T.kn T.kc], .int .i64 (d : Nat)] w fun e w' => e = .returned (.bool (greatX T d)) ∧ Below w.heap.size w w'
theorem great_yes {T : XT} {d j : Nat} (hj : j < T.kn) (h : greatX (T.kid j) (d + 1) = true) : greatX T d = true := by
  rw [greatX_eq, (anyTo_iff T.kn).2 ⟨j, hj, h⟩]; simp
theorem great_end {T : XT} {d : Nat} (h1 : ¬ 40 < d) (h2 : ¬ 100 < T.kn) (h3 : ¬ 100 < T.an) (h4 : ∀ i, i < T.kn → greatX (T.kid i) (d + 1) = false) : greatX T d = decide ((3000 : Int) < minK (minA (fun i => (T.arg i).text.size) T.an : Nat) (fun i => sizeX (T.kid i)) T.kn) := by
  rw [greatX_eq, anyTo_none h4, decide_eq_false h1, decide_eq_false h2, decide_eq_false h3]; simp
theorem great_head {T : XT} {d : Nat} (h : 40 < d ∨ 100 < T.kn ∨ 100 < T.an) : greatX T d = true := by
  rw [greatX_eq]
  rcases h with h | h | h
  · rw [decide_eq_true h]; simp
  · rw [decide_eq_true h]; simp
  · rw [decide_eq_true h]; simp
theorem ret_bo {a b : Bool} (h : a = b) : Ending.returned (.bool a) = .returned (.bool b) := by rw [h]
theorem great_true (T : XT) (d : Nat) (w : World) (hk : T.kn ≤ 2513169434843) (ha : T.an ≤ 3518437208780) (hd : d ≤ 41) (h : 40 < d ∨ 100 < T.kn ∨ 100 < T.an) : RGreatTo T d w := by
  unfold RGreatTo
  rw [great_head h]
  by_cases h1 : 40 < d
  · clear h
    go_enter Tryz.func10, Tryz.ntmps10
    go_wp2
    go_ret
    exact ⟨rfl, (Below.refl _ _).alloc (Nat.le_refl _) _⟩
  · by_cases h2 : 100 < T.kn
    · clear h
      go_enter Tryz.func10, Tryz.ntmps10
      go_wp2
      go_ret
      exact ⟨rfl, (Below.refl _ _).alloc (Nat.le_refl _) _⟩
    · have h3 : 100 < T.an := by omega
      clear h
      go_enter Tryz.func10, Tryz.ntmps10
      go_wp2
      go_ret
      exact ⟨rfl, (Below.refl _ _).alloc (Nat.le_refl _) _⟩
set_option maxHeartbeats 4000000 in
theorem great_any (S : Nat → Prop) : ∀ (T : XT) (d : Nat) (w : World), XAt w S T → XTx T → d ≤ 41 → RGreatTo T d w := by
  refine XT.ind fun T ih d w H HX hd => ?_
  have hlen := xt_kn H
  have hlan := xt_an H
  rcases Classical.em (40 < d ∨ 100 < T.kn ∨ 100 < T.an) with hh | hh
  case inl => exact great_true T d w hlen hlan hd hh
  have h1 : ¬ 40 < d := fun h => hh (.inl h)
  have h2 : ¬ 100 < T.kn := fun h => hh (.inr (.inl h))
  have h3 : ¬ 100 < T.an := fun h => hh (.inr (.inr h))
  have HI := Lib.hid (fun i (hi : i < T.kn) wx (hb : Below w.heap.size w wx) => ih i hi (d + 1) wx (kid_at H hb hi).2 (((xtx_iff T).1 HX).2 i hi) (by omega))
  have HC := Lib.hid (fun i (hi : i < T.kn) wx (hb : Below w.heap.size w wx) => (kid_at H hb hi).1)
  have HAC := Lib.hid (fun i (hi : i < T.an) wx (hb : Below w.heap.size w wx) => (((xat_iff T).1 H).2.1 i hi).next hb)
  have HSZ := Lib.hid (fun i (hi : i < T.kn) wx (hb : Below w.heap.size w wx) => refSize_any S (T.kid i) wx (kid_at H hb hi).2)
  have HTX := Lib.hid ((xtx_iff T).1 HX).1
  have HY := Lib.hid (fun j (hj : j < T.kn) h => great_yes (d := d) hj h)
  have HE := Lib.hid (fun h4 => great_end h1 h2 h3 h4)
  obtain ⟨A, hA⟩ : ∃ A : Nat → Nat, A = fun i => (T.arg i).text.size := ⟨_, rfl⟩
  obtain ⟨F, hF⟩ : ∃ F : Nat → Int, F = fun i => sizeX (T.kid i) := ⟨_, rfl⟩
  have HA := Lib.hid hA
  have HF := Lib.hid hF
  have HML := Lib.hid (minA_le A)
  clear ih H HX hA hF hh
  unfold RGreatTo
  go_enter Tryz.func10, Tryz.ntmps10
  go_wp2
  go_loopw [5, 6] (fun n i wr => ∃ (j m : Nat), j ≤ T.an ∧ i = .int .i64 j ∧ n = .int .i64 m ∧ Hid (m = minA A j) ∧ m ≤ 100000 ∧ Hid (wr.heap[w.heap.size]? = some (.cells #[.int .i64 T.op, .int .i64 T.rel, .slice T.aa T.an T.ac, .slice T.ka T.kn T.kc] 25)) ∧ Hid (Below w.heap.size w wr)) (fun _ i _ => T.an - (intOf i).toNat)
  case atStart => exact ⟨0, 0, Nat.zero_le _, rfl, rfl, Lib.hid rfl, by omega, Lib.hid (alloc_at w _), Lib.hid ((Below.refl _ _).alloc (Nat.le_refl _) _)⟩
  case round =>
    obtain ⟨j, m, hj, rfl, rfl, HM, hm, HQ, HBr⟩ := hrel
    by_cases hlt : j < T.an
    · obtain ⟨b, off, hia, _, hbl, hla⟩ := HAC.out j hlt wr HBr.out
      have d2 : wr.cell? ⟨w.heap.size, 2, none⟩ = some (.slice (some ⟨b, off, none⟩) T.an T.ac) := by rw [← hia]; exact cell_at HQ.out rfl
      have c1 : wr.cell? ⟨b, off + j * 4 + 1, none⟩ = some (.string (T.arg j).text) := hla 1 _ rfl
      have htx := HTX.out j hlt
      have HX := Lib.hid (show minA A (j + 1) = min (minA A j + (T.arg j).text.size) 100000 by rw [HA.out]; rfl)
      obtain ⟨s, hs⟩ : ∃ s, (T.arg j).text = s := ⟨_, rfl⟩
      rw [hs] at c1 htx HX
      have hml : s.size ≤ maxLen := by unfold maxLen; omega
      clear hs hla hia
      by_cases hbig : m + s.size ≤ 100000
      · have hmm : min ((m : Int) + (s.size : Int)) 100000 = ((m + s.size : Nat) : Int) := by omega
        go_wp2
        all_goals
          go_roundw
          case rel => exact ⟨j + 1, m + s.size, by omega, by go_num, by go_num, Lib.hid (by rw [HX.out]; have := HM.out; omega), hbig, HQ, HBr⟩
          case measure => simp [intOf]; omega
      · have hmm : min ((m : Int) + (s.size : Int)) 100000 = 100000 := by omega
        go_wp2
        all_goals
          go_roundw
          case rel => exact ⟨j + 1, 100000, by omega, by go_num, by go_num, Lib.hid (by rw [HX.out]; have := HM.out; omega), by omega, HQ, HBr⟩
          case measure => simp [intOf]; omega
    · obtain rfl : j = T.an := by omega
      have d2 : wr.cell? ⟨w.heap.size, 2, none⟩ = some (.slice T.aa T.an T.ac) := cell_at HQ.out rfl
      go_wp2
      go_loopw [5, 7] (fun n i wr => ∃ (j : Nat) (z : Int), j ≤ T.kn ∧ i = .int .i64 j ∧ n = .int .i64 z ∧ Hid (z = minK (minA A T.an : Nat) F j) ∧ Hid (∀ i, i < j → greatX (T.kid i) (d + 1) = false) ∧ Hid (wr.heap[w.heap.size]? = some (.cells #[.int .i64 T.op, .int .i64 T.rel, .slice T.aa T.an T.ac, .slice T.ka T.kn T.kc] 25)) ∧ Hid (Below w.heap.size w wr)) (fun _ i _ => T.kn - (intOf i).toNat)
      case atStart => exact ⟨0, (m : Nat), Nat.zero_le _, rfl, rfl, Lib.hid (by rw [HM.out]; rfl), Lib.hid (fun i hi => absurd hi (Nat.not_lt_zero i)), HQ, HBr⟩
      case round =>
        obtain ⟨j, z, hj, rfl, rfl, HZ, HNO, HQ, HBr⟩ := hrel
        by_cases hlt : j < T.kn
        · obtain ⟨b, off, hia, _, hbl, hla⟩ := HC.out j hlt wr HBr.out
          have d3 : wr.cell? ⟨w.heap.size, 3, none⟩ = some (.slice (some ⟨b, off, none⟩) T.kn T.kc) := by rw [← hia]; exact cell_at HQ.out rfl
          have c0 : wr.cell? ⟨b, off + j * 4, none⟩ = some (.int .i64 (T.kid j).op) := hla 0 _ rfl
          have c1 : wr.cell? ⟨b, off + j * 4 + 1, none⟩ = some (.int .i64 (T.kid j).rel) := hla 1 _ rfl
          have c2 : wr.cell? ⟨b, off + j * 4 + 2, none⟩ = some (.slice (T.kid j).aa (T.kid j).an (T.kid j).ac) := hla 2 _ rfl
          have c3 : wr.cell? ⟨b, off + j * 4 + 3, none⟩ = some (.slice (T.kid j).ka (T.kid j).kn (T.kid j).kc) := hla 3 _ rfl
          have HN := Lib.hid (HI.out j hlt)
          have HS := Lib.hid (HSZ.out j hlt)
          have HIA := Lib.hid hia
          have HLA := Lib.hid (HC.out j hlt)
          clear hla hia
          unfold RGreatTo at HN
          unfold RSizeTo at HS
          rw [show (((d + 1 : Nat)) : Int) = (d : Int) + 1 by omega] at HN
          cases hg : greatX (T.kid j) (d + 1) with
          | true =>
            rw [hg] at HN
            have HYY := Lib.hid (HY.out j hlt hg)
            clear hg
            go_wp2_with (go_at_call 10; refine (HN.out _ HBr.out).mono ?_; rintro e w2 ⟨rfl, hb2⟩; have HB2 := Lib.hid (bth HBr.out hb2); clear hb2)
            go_ret
            exact ⟨ret_bo HYY.out.symm, HB2.out⟩
          | false =>
            rw [hg] at HN
            have HNO2 := Lib.hid (show ∀ i, i < j + 1 → greatX (T.kid i) (d + 1) = false from fun i hi => by
              rcases Nat.lt_succ_iff_lt_or_eq.1 hi with h | rfl
              · exact HNO.out i h
              · exact hg)
            clear hg
            obtain ⟨g, hgg⟩ : ∃ g, sizeX (T.kid j) = g := ⟨_, rfl⟩
            rw [hgg] at HS
            have HX := Lib.hid (show minK (minA A T.an : Nat) F (j + 1) = min (wrap64 (minK (minA A T.an : Nat) F j + g)) 100000 by rw [← hgg, HF.out]; rfl)
            clear hgg
            obtain ⟨y, hy⟩ : ∃ y, wrap64 (z + g) = y := ⟨_, rfl⟩
            have HYZ := Lib.hid hy
            clear hy
            go_wp2_with (first
              | (go_at_call 14; refine (HS.out _ HB2.out).mono ?_; rintro e w3 ⟨rfl, hb3⟩; have HB3 := Lib.hid (bth HB2.out hb3); have HQ3 := Lib.hid (rowKeep hb3 HQ2.out); clear hb3)
              | (go_at_call 10; refine (HN.out _ HBr.out).mono ?_; rintro e w2 ⟨rfl, hb2⟩; have HB2 := Lib.hid (bth HBr.out hb2); have HQ2 := Lib.hid (rowKeep hb2 HQ.out); have e3 := keepL hb2 (by exact d3); have e4 := keepL hb2 (by exact c0); have e5 := keepL hb2 (by exact c1); have e6 := keepL hb2 (by exact c2); have e7 := keepL hb2 (by exact c3); clear hb2))
            all_goals
              go_roundw
              case rel => exact ⟨j + 1, min (wrap64 (z + g)) 100000, by omega, by go_num, by first | rfl | (congr 1; omega), Lib.hid (by rw [HX.out, HZ.out]), HNO2, HQ3, HB3⟩
              case measure => simp [intOf]; omega
        · obtain rfl : j = T.kn := by omega
          have d3 : wr.cell? ⟨w.heap.size, 3, none⟩ = some (.slice T.ka T.kn T.kc) := cell_at HQ.out rfl
          go_wp2
          go_ret
          exact ⟨ret_bo (by rw [HE.out HNO.out]; have h := HZ.out; rw [HA.out, HF.out] at h; rw [h]), HBr.out⟩
end Go.Proofs.YtbejpgoedenpmaaGreatDoor
