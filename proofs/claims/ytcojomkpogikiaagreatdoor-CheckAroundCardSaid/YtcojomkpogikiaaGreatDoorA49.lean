/- The reference's Same, where two trees are the same; spans. -/
import Derived.Deep.DeepCutAuto
import Derived.Deep.RegionHeld3
import Derived.Laws.StructEq
import Derived.BigGuardPart
import Derived.BigQuiet
import Derived.Deep.QuietTactic
import Derived.Test.YtcojomkpogikiaaGreatDoorA20
import Derived.Test.YtcojomkpogikiaaGreatDoorA27
namespace Go.Proofs.YtcojomkpogikiaaGreatDoor
open Go.RowKit
set_option linter.unusedVariables false
set_option maxRecDepth 100000 in
theorem opd_neq (o : Opd) (w : World) : (binOp .neq 40 (.agg #[.int .i64 o.kind, .string o.text, .bool o.neg, .int .u64 o.num]) (.agg #[.int .i64 o.kind, .string o.text, .bool o.neg, .int .u64 o.num])).run Tryz.prog w = .ok (.bool false) w := by
  have hu := Tryz.underlying40
  have hi := Tryz.underlying3
  have hn := Tryz.underlying38
  have hs := Tryz.underlying9
  have hb := Tryz.underlying4
  have p0 := fun w => run_equalIn_int (P := Tryz.prog) w 9998 3 .i64 .i64 o.kind o.kind hi
  have p1 := fun w => run_equalIn_string (P := Tryz.prog) w 9998 9 o.text o.text hs
  have p2 := fun w => run_equalIn_bool' (P := Tryz.prog) w 9998 4 o.neg o.neg hb
  have p3 := fun w => run_equalIn_int (P := Tryz.prog) w 9998 38 .u64 .u64 o.num o.num hn
  rw [run_neq_struct, run_equalIn_agg _ 9999 _ _ _ (by kernel_rfl) (by kernel_rfl)]
  simp only [Program.fieldsOf, hu]
  simp [Op.eqFields, go_sem, p0, p1, p2, p3]
def RSameTo (T U : XT) (w : World) : Prop := Calls Tryz.prog 14 #[.agg #[.int .i64 T.op, .int .i64 T.rel, .slice T.aa T.an T.ac, .slice T.ka T.kn T.kc], .agg #[.int .i64 U.op, .int .i64 U.rel, .slice U.aa U.an U.ac, .slice U.ka U.kn U.kc]] w fun e w' => e = .returned (.bool true) ∧ Below w.heap.size w w'
set_option maxRecDepth 100000 in
set_option maxHeartbeats 8000000 in
theorem sameX_any (S S' : Nat → Prop) : ∀ (T U : XT) (w : World), XAt w S T → XAt w S' U → SameX T U → RSameTo T U w := by
  refine XT.ind fun T ih U w H H' hs => ?_
  have hl1 := xt_kn H
  have hl2 := xt_kn H'
  have ha1 := xt_an H
  have ha2 := xt_an H'
  obtain ⟨k1, k2, k3, k4, k5, k6⟩ := (sameX_iff T U).1 hs
  have HI := Lib.hid (fun i (hi : i < T.kn) wx (hb : Below w.heap.size w wx) => ih i hi (U.kid i) wx (kid_at H hb hi).2 (kid_at H' hb (by omega)).2 (k6 i hi))
  have HC := Lib.hid (fun i (hi : i < T.kn) wx (hb : Below w.heap.size w wx) => (kid_at H hb hi).1)
  have HD := Lib.hid (fun i (hi : i < T.kn) wx (hb : Below w.heap.size w wx) => (kid_at H' hb (i := i) (by omega)).1)
  have HAC := Lib.hid (fun i (hi : i < T.an) wx (hb : Below w.heap.size w wx) => (((xat_iff T).1 H).2.1 i hi).next hb)
  have HAD := Lib.hid (fun i (hi : i < T.an) wx (hb : Below w.heap.size w wx) => (((xat_iff U).1 H').2.1 i (by omega)).next hb)
  have HK4 := Lib.hid k4
  have HK3 := Lib.hid k3
  have HK5 := Lib.hid k5
  have e1 : (T.op != U.op) = false := by simpa using k1
  have e2 : (T.rel != U.rel) = false := by simpa using k2
  have e3 : ((T.an : Int) != (U.an : Int)) = false := by simp; omega
  have e4 : ((T.kn : Int) != (U.kn : Int)) = false := by simp; omega
  clear ih H H' hs k1 k2 k3 k4 k5 k6
  unfold RSameTo
  have HQ1 := Lib.hid (show ((w.alloc (.cells #[.int .i64 T.op, .int .i64 T.rel, .slice T.aa T.an T.ac, .slice T.ka T.kn T.kc] 26)).alloc (.cells #[.int .i64 U.op, .int .i64 U.rel, .slice U.aa U.an U.ac, .slice U.ka U.kn U.kc] 26)).heap[w.heap.size]? = some (.cells #[.int .i64 T.op, .int .i64 T.rel, .slice T.aa T.an T.ac, .slice T.ka T.kn T.kc] 26) from alloc_old (alloc_at w _))
  have HQ2 := Lib.hid (show ((w.alloc (.cells #[.int .i64 T.op, .int .i64 T.rel, .slice T.aa T.an T.ac, .slice T.ka T.kn T.kc] 26)).alloc (.cells #[.int .i64 U.op, .int .i64 U.rel, .slice U.aa U.an U.ac, .slice U.ka U.kn U.kc] 26)).heap[w.heap.size + 1]? = some (.cells #[.int .i64 U.op, .int .i64 U.rel, .slice U.aa U.an U.ac, .slice U.ka U.kn U.kc] 26) by have := alloc_at (w.alloc (.cells #[.int .i64 T.op, .int .i64 T.rel, .slice T.aa T.an T.ac, .slice T.ka T.kn T.kc] 26)) (.cells #[.int .i64 U.op, .int .i64 U.rel, .slice U.aa U.an U.ac, .slice U.ka U.kn U.kc] 26); simpa using this)
  have HB := Lib.hid (((Below.refl w.heap.size w).alloc (Nat.le_refl _) (.cells #[.int .i64 T.op, .int .i64 T.rel, .slice T.aa T.an T.ac, .slice T.ka T.kn T.kc] 26)).alloc (by simp) (.cells #[.int .i64 U.op, .int .i64 U.rel, .slice U.aa U.an U.ac, .slice U.ka U.kn U.kc] 26))
  go_enter Tryz.func14, Tryz.ntmps14
  go_wp2
  clear e1 e2 e3 e4
  go_loopw [5] (fun i wr => ∃ j : Nat, j ≤ T.an ∧ i = .int .i64 j ∧ Hid (wr.heap[w.heap.size]? = some (.cells #[.int .i64 T.op, .int .i64 T.rel, .slice T.aa T.an T.ac, .slice T.ka T.kn T.kc] 26)) ∧ Hid (wr.heap[w.heap.size + 1]? = some (.cells #[.int .i64 U.op, .int .i64 U.rel, .slice U.aa U.an U.ac, .slice U.ka U.kn U.kc] 26)) ∧ Hid (Below w.heap.size w wr)) (fun i _ => T.an - (intOf i).toNat)
  case atStart => exact ⟨0, Nat.zero_le _, rfl, HQ1, HQ2, HB⟩
  case round =>
    obtain ⟨j, hj, rfl, HR1, HR2, HBr⟩ := hrel
    by_cases hlt : j < T.an
    · have hltU : j < U.an := by have := HK3.out; omega
      obtain ⟨b, off, hia, _, _, hla⟩ := HAC.out j hlt wr HBr.out
      obtain ⟨b', off', hib, _, _, hlb⟩ := HAD.out j hlt wr HBr.out
      have d2 : wr.cell? ⟨w.heap.size, 2, none⟩ = some (.slice (some ⟨b, off, none⟩) T.an T.ac) := by rw [← hia]; exact cell_at HR1.out rfl
      have d6 : wr.cell? ⟨w.heap.size + 1, 2, none⟩ = some (.slice (some ⟨b', off', none⟩) U.an U.ac) := by rw [← hib]; exact cell_at HR2.out rfl
      rw [← HK4.out j hlt] at hlb
      obtain ⟨o, ho⟩ : ∃ o, T.arg j = o := ⟨_, rfl⟩
      rw [ho] at hla hlb
      have c0 : wr.cell? ⟨b, off + j * 4, none⟩ = some (.int .i64 o.kind) := hla 0 _ rfl
      have c1 : wr.cell? ⟨b, off + j * 4 + 1, none⟩ = some (.string o.text) := hla 1 _ rfl
      have c2 : wr.cell? ⟨b, off + j * 4 + 2, none⟩ = some (.bool o.neg) := hla 2 _ rfl
      have c3 : wr.cell? ⟨b, off + j * 4 + 3, none⟩ = some (.int .u64 o.num) := hla 3 _ rfl
      have c4 : wr.cell? ⟨b', off' + j * 4, none⟩ = some (.int .i64 o.kind) := hlb 0 _ rfl
      have c5 : wr.cell? ⟨b', off' + j * 4 + 1, none⟩ = some (.string o.text) := hlb 1 _ rfl
      have c6 : wr.cell? ⟨b', off' + j * 4 + 2, none⟩ = some (.bool o.neg) := hlb 2 _ rfl
      have c7 : wr.cell? ⟨b', off' + j * 4 + 3, none⟩ = some (.int .u64 o.num) := hlb 3 _ rfl
      have heq := opd_neq o
      clear ho hla hlb hia hib
      go_wp2_with fail
      go_quiet (fail)
      all_goals go_wp2_with fail
      all_goals
        go_roundw
        case rel => exact ⟨j + 1, by omega, by go_num, Lib.hid HR1.out, Lib.hid HR2.out, Lib.hid ⟨HBr.out.os, HBr.out.tape, HBr.out.output, HBr.out.size, HBr.out.block⟩⟩
        case measure => simp [intOf]; omega
    · obtain rfl : j = T.an := by omega
      have d2 : wr.cell? ⟨w.heap.size, 2, none⟩ = some (.slice T.aa T.an T.ac) := cell_at HR1.out rfl
      go_wp2
      go_loopw [6] (fun i wr => ∃ j : Nat, j ≤ T.kn ∧ i = .int .i64 j ∧ Hid (wr.heap[w.heap.size]? = some (.cells #[.int .i64 T.op, .int .i64 T.rel, .slice T.aa T.an T.ac, .slice T.ka T.kn T.kc] 26)) ∧ Hid (wr.heap[w.heap.size + 1]? = some (.cells #[.int .i64 U.op, .int .i64 U.rel, .slice U.aa U.an U.ac, .slice U.ka U.kn U.kc] 26)) ∧ Hid (Below w.heap.size w wr)) (fun i _ => T.kn - (intOf i).toNat)
      case atStart => exact ⟨0, Nat.zero_le _, rfl, HR1, HR2, HBr⟩
      case round =>
        obtain ⟨j, hj, rfl, HR1, HR2, HBr⟩ := hrel
        by_cases hlt : j < T.kn
        · have hltU : j < U.kn := by have := HK5.out; omega
          obtain ⟨b, off, hia, _, _, hla⟩ := HC.out j hlt wr HBr.out
          obtain ⟨b', off', hib, _, _, hlb⟩ := HD.out j hlt wr HBr.out
          have d3 : wr.cell? ⟨w.heap.size, 3, none⟩ = some (.slice (some ⟨b, off, none⟩) T.kn T.kc) := by rw [← hia]; exact cell_at HR1.out rfl
          have d7 : wr.cell? ⟨w.heap.size + 1, 3, none⟩ = some (.slice (some ⟨b', off', none⟩) U.kn U.kc) := by rw [← hib]; exact cell_at HR2.out rfl
          have c0 : wr.cell? ⟨b, off + j * 4, none⟩ = some (.int .i64 (T.kid j).op) := hla 0 _ rfl
          have c1 : wr.cell? ⟨b, off + j * 4 + 1, none⟩ = some (.int .i64 (T.kid j).rel) := hla 1 _ rfl
          have c2 : wr.cell? ⟨b, off + j * 4 + 2, none⟩ = some (.slice (T.kid j).aa (T.kid j).an (T.kid j).ac) := hla 2 _ rfl
          have c3 : wr.cell? ⟨b, off + j * 4 + 3, none⟩ = some (.slice (T.kid j).ka (T.kid j).kn (T.kid j).kc) := hla 3 _ rfl
          have c4 : wr.cell? ⟨b', off' + j * 4, none⟩ = some (.int .i64 (U.kid j).op) := hlb 0 _ rfl
          have c5 : wr.cell? ⟨b', off' + j * 4 + 1, none⟩ = some (.int .i64 (U.kid j).rel) := hlb 1 _ rfl
          have c6 : wr.cell? ⟨b', off' + j * 4 + 2, none⟩ = some (.slice (U.kid j).aa (U.kid j).an (U.kid j).ac) := hlb 2 _ rfl
          have c7 : wr.cell? ⟨b', off' + j * 4 + 3, none⟩ = some (.slice (U.kid j).ka (U.kid j).kn (U.kid j).kc) := hlb 3 _ rfl
          have HN := Lib.hid (HI.out j hlt)
          unfold RSameTo at HN
          clear hia hib hla hlb
          go_wp2_with fail
          go_region_held3 (fun w' => w'.cell? ⟨w.heap.size, 3, none⟩ = some (.slice (some ⟨b, off, none⟩) T.kn T.kc) ∧ w'.cell? ⟨b, off + j * 4, none⟩ = some (.int .i64 (T.kid j).op) ∧ w'.cell? ⟨b, off + j * 4 + 1, none⟩ = some (.int .i64 (T.kid j).rel) ∧ w'.cell? ⟨b, off + j * 4 + 2, none⟩ = some (.slice (T.kid j).aa (T.kid j).an (T.kid j).ac) ∧ w'.cell? ⟨b, off + j * 4 + 3, none⟩ = some (.slice (T.kid j).ka (T.kid j).kn (T.kid j).kc) ∧ w'.cell? ⟨w.heap.size + 1, 3, none⟩ = some (.slice (some ⟨b', off', none⟩) U.kn U.kc) ∧ w'.cell? ⟨b', off' + j * 4, none⟩ = some (.int .i64 (U.kid j).op) ∧ w'.cell? ⟨b', off' + j * 4 + 1, none⟩ = some (.int .i64 (U.kid j).rel) ∧ w'.cell? ⟨b', off' + j * 4 + 2, none⟩ = some (.slice (U.kid j).aa (U.kid j).an (U.kid j).ac) ∧ w'.cell? ⟨b', off' + j * 4 + 3, none⟩ = some (.slice (U.kid j).ka (U.kid j).kn (U.kid j).kc))
            (first | exact ⟨d3, c0, c1, c2, c3, d7, c4, c5, c6, c7⟩ | exact ⟨keepL hb3 (by exact d3), keepL hb3 (by exact c0), keepL hb3 (by exact c1), keepL hb3 (by exact c2), keepL hb3 (by exact c3), keepL hb3 (by exact d7), keepL hb3 (by exact c4), keepL hb3 (by exact c5), keepL hb3 (by exact c6), keepL hb3 (by exact c7)⟩ | fail)
            (first | (go_at_call 14; refine (HN.out _ (by first | exact HBr.out | exact HBr.out.drew)).mono ?_; rintro e w3 ⟨rfl, hb3⟩; have HS1 := Lib.hid (rowKeep hb3 (by exact HR1.out)); have HS2 := Lib.hid (rowKeep hb3 (by exact HR2.out)); have HB3 := Lib.hid (bth (by first | exact HBr.out | exact HBr.out.drew) hb3)))
          clear d3 c0 c1 c2 c3 d7 c4 c5 c6 c7
          go_wp2
          go_roundw
          case rel => exact ⟨j + 1, by omega, by go_num, HS1, HS2, HB3⟩
          case measure => simp [intOf]; omega
        · obtain rfl : j = T.kn := by omega
          have d3 : wr.cell? ⟨w.heap.size, 3, none⟩ = some (.slice T.ka T.kn T.kc) := cell_at HR1.out rfl
          go_wp2
          go_ret
          exact ⟨rfl, HBr.out⟩
end Go.Proofs.YtcojomkpogikiaaGreatDoor
