/- Contract of chapter 6's reference: more. -/
import Derived.Test.YtohphejhlgnciaaGreatTypesDeep
import Derived.Deep.DeepCutAuto
namespace Go.Proofs.YtohphejhlgnciaaGreat
open Go.RowKit
set_option linter.unusedVariables false
/-- a type's own box -/
def BoxT (g : Nat) (T : TypeV) (w0 w : World) : Prop := w.heap[g]? = some (typO T) ∧ Below g w0 w
theorem BoxT.cells {g : Nat} {T : TypeV} {w0 w : World} (h : BoxT g T w0 w) : w.cell? ⟨g, 0, none⟩ = some (.int .i64 T.kind) ∧ w.cell? ⟨g, 1, none⟩ = some (.string T.name) ∧ w.cell? ⟨g, 2, none⟩ = some (.int .i64 T.bound) ∧ w.cell? ⟨g, 3, none⟩ = some (.int .i64 T.of) ∧ w.cell? ⟨g, 4, none⟩ = some (.int .i64 T.tag) ∧ w.cell? ⟨g, 5, none⟩ = some (.slice T.ia T.ilen T.icap) :=
  ⟨cell_at h.1 rfl, cell_at h.1 rfl, cell_at h.1 rfl, cell_at h.1 rfl, cell_at h.1 rfl, cell_at h.1 rfl⟩
theorem BoxT.keep {g : Nat} {T : TypeV} {w0 w w1 : World} (h : BoxT g T w0 w) (hb : Below w.heap.size w w1) : BoxT g T w0 w1 :=
  ⟨(hb.block g (lt_of_block h.1)).trans h.1, h.2.trans (hb.mono (Nat.le_of_lt (lt_of_block h.1)))⟩
theorem BoxT.start (T : TypeV) (w : World) : BoxT w.heap.size T w (w.alloc (typO T)) := ⟨alloc_at w _, (Below.refl _ _).alloc (Nat.le_refl _) _⟩
def c1B (T : TypeV) : Bool := (!T.name.toList.isEmpty && !namedK T.kind) || (decide (0 < T.ilen) && !namedK T.kind)
def c3B (T : TypeV) : Bool := (T.bound != 0 && (decide (T.kind < 10) || decide (12 < T.kind))) || (T.of != 0 && (T.kind != 11 && T.kind != 12)) || (T.tag != 0 && T.kind != 14)
def itemMore (k : Int) (x : ItemV) : Bool := (x.num != 0 && (k == 13 || x.rest)) || (x.type != 0 && k == 9) || (x.key && k != 13) || (x.rest && k != 14)
def moreB (T : TypeV) : Bool := c1B T || c3B T || decide (firstN (fun j => itemMore T.kind (T.items j)) T.ilen < T.ilen)
set_option maxRecDepth 100000 in
set_option maxHeartbeats 4000000 in
theorem refMore_any (T : TypeV) (w : World) (H : ItemsAt w T) : Calls Tryz.prog 49 #[typV T] w fun e w' => e = .returned (.bool (moreB T)) ∧ Below w.heap.size w w' := by
  obtain ⟨hil, hit⟩ := H
  have HI := Lib.hid hit
  clear hit
  have HE := Lib.hid (show moreB T = (c1B T || c3B T || decide (firstN (fun j => itemMore T.kind (T.items j)) T.ilen < T.ilen)) from rfl)
  have H1 := Lib.hid (show c1B T = ((!T.name.toList.isEmpty && !namedK T.kind) || (decide (0 < T.ilen) && !namedK T.kind)) from rfl)
  have H3 := Lib.hid (show c3B T = ((T.bound != 0 && (decide (T.kind < 10) || decide (12 < T.kind))) || (T.of != 0 && (T.kind != 11 && T.kind != 12)) || (T.tag != 0 && T.kind != 14)) from rfl)
  unfold typV
  go_enter Tryz.func49, Tryz.ntmps49
  go_upto_region 1 with (fail)
  have HB := Lib.hid (BoxT.start T w)
  go_cut [25] (fun t wx => t = .bool (c1B T) ∧ Hid (BoxT w.heap.size T w wx))
  case first =>
    go_wp2_with (go_at_call 50; refine (refNamed_any _ _).mono ?_; rintro e w' ⟨rfl, rfl⟩)
    all_goals
      go_meet
      exact ⟨by rw [H1.out]; simp_all, HB⟩
  case rest =>
    obtain ⟨rfl, HB⟩ := hcut
    cases hc1 : c1B T with
    | true =>
      go_wp2
      go_ret
      exact ⟨ret_b (by rw [HE.out, hc1]; rfl), HB.out.2⟩
    | false =>
      obtain ⟨d0, d1, d2, d3, d4, d5⟩ := HB.out.cells
      go_upto_region 3 with (fail)
      go_cut [63] (fun t wx => t = .bool (c3B T) ∧ Hid (BoxT w.heap.size T w wx))
      case first =>
        obtain ⟨b1, hb1⟩ : ∃ b, (T.bound != 0) = b := ⟨_, rfl⟩
        obtain ⟨b2, hb2⟩ : ∃ b, decide (T.kind < 10) = b := ⟨_, rfl⟩
        obtain ⟨b3, hb3⟩ : ∃ b, decide (12 < T.kind) = b := ⟨_, rfl⟩
        obtain ⟨b4, hb4⟩ : ∃ b, (T.of != 0) = b := ⟨_, rfl⟩
        obtain ⟨b5, hb5⟩ : ∃ b, (T.kind != 11) = b := ⟨_, rfl⟩
        obtain ⟨b6, hb6⟩ : ∃ b, (T.kind != 12) = b := ⟨_, rfl⟩
        obtain ⟨b7, hb7⟩ : ∃ b, (T.tag != 0) = b := ⟨_, rfl⟩
        obtain ⟨b8, hb8⟩ : ∃ b, (T.kind != 14) = b := ⟨_, rfl⟩
        have H4 := Lib.hid (H3.out.trans (by rw [hb1, hb2, hb3, hb4, hb5, hb6, hb7, hb8] : _ = ((b1 && (b2 || b3)) || (b4 && (b5 && b6)) || (b7 && b8))))
        go_wp2
        all_goals
          go_meet
          exact ⟨by rw [H4.out]; simp_all, HB⟩
      case rest =>
        obtain ⟨rfl, HB⟩ := hcut
        clear d0 d1 d2 d3 d4 d5
        cases hc3 : c3B T with
        | true =>
          go_wp2
          go_ret
          exact ⟨ret_b (by rw [HE.out, hc1, hc3]; rfl), HB.out.2⟩
        | false =>
          go_wp2
          go_loopw [3] (fun i wr => ∃ j : Nat, j ≤ T.ilen ∧ i = .int .i64 j ∧ Hid (∀ m, m < j → itemMore T.kind (T.items m) = false) ∧ Hid (BoxT w.heap.size T w wr)) (fun i _ => T.ilen - (intOf i).toNat)
          case atStart => exact ⟨0, Nat.zero_le _, rfl, Lib.hid (fun m hm => absurd hm (Nat.not_lt_zero _)), HB⟩
          case round =>
            obtain ⟨j, hj, rfl, HN, HBr⟩ := hrel
            obtain ⟨d0, d1, d2, d3, d4, d5⟩ := HBr.out.cells
            by_cases hlt : j < T.ilen
            · have hiat := (HI.out j hlt).held (w1 := wr) HBr.out.2
              obtain ⟨b, off, hia, x0, x1, x2, x3, x4, wi⟩ := hiat
              rw [hia] at d5
              clear hia
              have HIM := Lib.hid (show itemMore T.kind (T.items j) = (((T.items j).num != 0 && (T.kind == 13 || (T.items j).rest)) || ((T.items j).type != 0 && T.kind == 9) || ((T.items j).key && T.kind != 13) || ((T.items j).rest && T.kind != 14)) from rfl)
              go_upto_region 9 with (fail)
              go_cut [115] (fun t wx => t = .bool (itemMore T.kind (T.items j)) ∧ Hid (BoxT w.heap.size T w wx))
              case first =>
                have hlt3 := lt_of_block HBr.out.1
                have hne : ¬ w.heap.size = wr.heap.size := by omega
                obtain ⟨b1, hb1⟩ : ∃ b, ((T.items j).num != 0) = b := ⟨_, rfl⟩
                obtain ⟨b2, hb2⟩ : ∃ b, (T.kind == 13) = b := ⟨_, rfl⟩
                obtain ⟨b3, hb3⟩ : ∃ b, (T.items j).rest = b := ⟨_, rfl⟩
                obtain ⟨b4, hb4⟩ : ∃ b, ((T.items j).type != 0) = b := ⟨_, rfl⟩
                obtain ⟨b5, hb5⟩ : ∃ b, (T.kind == 9) = b := ⟨_, rfl⟩
                obtain ⟨b6, hb6⟩ : ∃ b, (T.items j).key = b := ⟨_, rfl⟩
                obtain ⟨b7, hb7⟩ : ∃ b, (T.kind != 13) = b := ⟨_, rfl⟩
                obtain ⟨b8, hb8⟩ : ∃ b, (T.kind != 14) = b := ⟨_, rfl⟩
                have H4 := Lib.hid (HIM.out.trans (by rw [hb1, hb2, hb3, hb4, hb5, hb6, hb7, hb8] : _ = ((b1 && (b2 || b3)) || (b4 && b5) || (b6 && b7) || (b3 && b8))))
                go_wp2
                all_goals
                  go_meet
                  exact ⟨by rw [H4.out]; simp_all, Lib.hid (HBr.out.keep ((Below.refl _ _).alloc (Nat.le_refl _) _))⟩
              case rest =>
                obtain ⟨rfl, HB3⟩ := hcut
                cases hm : itemMore T.kind (T.items j) with
                | true =>
                  have hf := first_at HN.out hlt hm
                  go_wp2
                  go_ret
                  exact ⟨ret_b (by rw [HE.out, hf, decide_eq_true hlt]; simp), HB3.out.2⟩
                | false =>
                  have HN2 := Lib.hid (none_next HN.out hm)
                  go_wp2
                  go_roundw
                  case rel => exact ⟨j + 1, by omega, by go_num, HN2, HB3⟩
                  case measure => simp [intOf]; omega
            · obtain rfl : j = T.ilen := by omega
              have hf := first_none HN.out
              go_wp2
              go_ret
              exact ⟨ret_b (by rw [HE.out, hf, hc1, hc3]; simp), HBr.out.2⟩
end Go.Proofs.YtohphejhlgnciaaGreat
