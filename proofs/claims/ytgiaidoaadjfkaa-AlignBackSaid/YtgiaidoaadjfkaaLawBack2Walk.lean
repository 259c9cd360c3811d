/- The walk of AlignBack. -/
import Derived.Test.YtgiaidoaadjfkaaAlignBackSt
import Derived.Deep.RegionHeld3
import Derived.Deep.DeepCutAuto
namespace Go.Proofs.Ytgiaidoaadjfkaa
open Go.RowKit
set_option linter.unusedVariables false
theorem all_snoc {ps : List PartV} {q : PartV} (h : ∀ p ∈ ps, PutOk p) (hq : PutOk q) : ∀ p ∈ ps ++ [q], PutOk p := by
  intro p hp
  rcases List.mem_append.1 hp with h1 | h1
  · exact h p h1
  · simp at h1; subst h1; exact hq
theorem ok_plain {nu sz : Int} {tx : ByteArray} (wn : (Lit.int .u64 nu).wf = true) (wz : (Lit.int .i64 sz).wf = true) (h : tx.size ≤ 300) : PutOk ⟨true, nu, sz, tx⟩ := ⟨(fun h => by cases h), wn, wz, h⟩
theorem ok_num {nu sz : Int} {tx : ByteArray} (he : putE nu sz = 0) (wn : (Lit.int .u64 nu).wf = true) (wz : (Lit.int .i64 sz).wf = true) (h : tx.size ≤ 300) : PutOk ⟨false, nu, sz, tx⟩ := ⟨fun _ => he, wn, wz, h⟩
theorem bput_yes (b : Nat) (v : Value) (t : ByteArray) (n z : Int) (w : World) (h : BufAt b v t w) (hn : (Lit.int .u64 n).wf = true) (he : putE n z = 0) (ht : t.size ≤ 140737488355000) :
    Calls Try.prog 11 #[.pointer (some ⟨b, 0, none⟩), .int .u64 n, .int .i64 z] w (BufTo b v (bufPut t n z) (.int .i64 0) w) := by
  have := bput_any b v t n z w h hn ht
  rwa [he] at this
/-- the place behind a number that was put -/
theorem put_place {t : ByteArray} {n z : Int} (he : putE n z = 0) : 1 ≤ z ∧ z ≤ 8 ∧ z ≤ (bufPut t n z).size ∧ (((bufPut t n z).size : Nat) : Int) - (t.size : Nat) < 2 * z ∧ ((((bufPut t n z).size : Nat) : Int) - z).tmod z = 0 := by
  obtain ⟨hz, _⟩ := put_zero he
  have hlt := gapZ_lt (a := (t.size : Nat)) hz
  have hmd := gapZ_mod (a := (t.size : Nat)) (by omega) hz
  have hB : bufPut t n z = t ++ zerosB (gapZ (t.size : Nat) z).toNat ++ putS n z := by unfold bufPut; rw [if_pos he]
  have hs : (((bufPut t n z).size : Nat) : Int) = (t.size : Nat) + gapZ (t.size : Nat) z + z := by
    rw [hB, ByteArray.size_append, ByteArray.size_append, zerosB_size, putS_size]
    have hz0 : 0 ≤ z := by rcases isSz_cases hz with rfl | rfl | rfl | rfl <;> omega
    omega
  refine ⟨?_, ?_, ?_, ?_, ?_⟩
  · rcases isSz_cases hz with rfl | rfl | rfl | rfl <;> omega
  · rcases isSz_cases hz with rfl | rfl | rfl | rfl <;> omega
  · omega
  · omega
  · rw [hs, Int.add_sub_cancel, Int.tmod_eq_emod_of_nonneg (by omega)]; exact hmd
theorem BackSt.drewN {b : Nat} {w0 w : World} {u v : Value} {ps : List PartV} {t : ByteArray} (h : BackSt b w0 w u v ps t) (n : Nat) : BackSt b w0 (w.drewN n) u v ps t := ⟨h.buf, h.row, h.apart, below_drewN h.below n⟩
theorem encP_num (t : ByteArray) (nu sz : Int) (tx : ByteArray) : encP t ⟨false, nu, sz, tx⟩ = bufPut t nu sz := rfl
theorem cur_new (w : World) (s : ByteArray) : CurAt w.heap.size s ((encs ⟨#[]⟩ (List.take 0 ([] : List PartV))).size : Nat) 0 (w.alloc (.cells #[.int .i64 0, .string s, .int .i64 0] 61 (0, 0))) := alloc_at w _
theorem read_text (c : Nat) (S T tx r : ByteArray) (hS : S = T ++ tx ++ r) (hs : S.size ≤ 281474976710656) (w : World) (h : CurAt c S (T.size : Nat) 0 w) :
    Calls Try.prog 18 #[.pointer (some ⟨c, 0, none⟩), .int .i64 (tx.size : Nat)] w (CurTo c S ((T ++ tx).size : Nat) 0 (.string tx) w) := by
  have hl : T.size + tx.size ≤ S.size := by rw [hS, ByteArray.size_append, ByteArray.size_append]; omega
  have h1 := ctext_any c S T.size tx.size w h (by omega) hs (WalkArith.wf_i64 (by omega))
  subst hS
  obtain ⟨e1, e2, e3⟩ := text_back T tx r
  rw [e1, e2, e3] at h1
  exact h1
theorem read_num (c : Nat) (S T r : ByteArray) (nu sz : Int) (hS : S = bufPut T nu sz ++ r) (hs : S.size ≤ 281474976710656) (he : putE nu sz = 0) (wn : (Lit.int .u64 nu).wf = true) (wz : (Lit.int .i64 sz).wf = true) (w : World) (h : CurAt c S (T.size : Nat) 0 w) :
    Calls Try.prog 20 #[.pointer (some ⟨c, 0, none⟩), .int .i64 sz] w (CurTo c S ((bufPut T nu sz).size : Nat) 0 (.int .u64 nu) w) := by
  obtain ⟨e1, e2, e3, e4⟩ := take_back T r nu sz he (bounds_u64 wn).1
  have hl : T.size ≤ S.size := by rw [hS, ByteArray.size_append]; omega
  have h1 := ctake_any c S T.size sz w h hl hs wz
  subst hS
  rw [e1, e2, e3] at h1
  exact h1
theorem keep_cur {w w1 : World} {c : Nat} (ho : Only (fun k => k = c) w w1) {p : Addr} {x : Value} (hc : w.cell? p = some x) (hne : p.block ≠ c) : w1.cell? p = some x := by
  rw [World.cell?_of_block (w := w) (ho.block p.block (World.block_lt_of_cell? _ _ hc) hne)]; exact hc
/-- the cells of a part in a row -/
def RowS (g j : Nat) (pl : Bool) (nu sz : Int) (tx : ByteArray) (w : World) : Prop :=
  w.cell? ⟨g, j * 4, none⟩ = some (.bool pl) ∧ w.cell? ⟨g, j * 4 + 1, none⟩ = some (.int .u64 nu) ∧ w.cell? ⟨g, j * 4 + 2, none⟩ = some (.int .i64 sz) ∧ w.cell? ⟨g, j * 4 + 3, none⟩ = some (.string tx)
theorem RowS.drew {g j : Nat} {pl : Bool} {nu sz : Int} {tx : ByteArray} {w : World} (h : RowS g j pl nu sz tx w) : RowS g j pl nu sz tx w.drew := h
theorem RowS.cur {g j c : Nat} {pl : Bool} {nu sz : Int} {tx : ByteArray} {w w1 : World} (h : RowS g j pl nu sz tx w) (ho : Only (fun k => k = c) w w1) (hg : g ≠ c) : RowS g j pl nu sz tx w1 :=
  ⟨keep_cur ho h.1 hg, keep_cur ho h.2.1 hg, keep_cur ho h.2.2.1 hg, keep_cur ho h.2.2.2 hg⟩
theorem BackSt.cur {b c : Nat} {w0 w w1 : World} {u v : Value} {ps : List PartV} {t : ByteArray} (h : BackSt b w0 w u v ps t) (ho : Only (fun k => k = c) w w1) (hb : b < c) (hv : ∀ k, v.ownBlock = some k → k < c) (hu : ∀ k, u.ownBlock = some k → k < c) : BackSt b w0 w1 u v ps t := by
  refine ⟨h.buf.only ho ?_, ho.row h.row (fun k hk e => by have := hu k hk; omega), h.apart, h.below.trans (ho.below (by omega) (Nat.le_of_lt h.ge))⟩
  rintro k (rfl | hk) e
  · omega
  · have := hv k hk; omega
theorem done_end (s : ByteArray) : dnE s (s.size : Nat) 0 = 0 := by unfold dnE; rw [if_pos rfl, if_neg (by omega)]
theorem done_full (c : Nat) (s : ByteArray) (w : World) (h : CurAt c s (s.size : Nat) 0 w) : Calls Try.prog 23 #[.pointer (some ⟨c, 0, none⟩)] w fun e w' => e = .returned (.int .i64 0) ∧ ∃ m, w' = w.drewN m := by
  have := done_any c s (s.size : Nat) 0 w h
  rwa [done_end] at this
theorem cur_all (ps : List PartV) (S : ByteArray) (c : Nat) (w : World) (he : encs ⟨#[]⟩ ps = S) (h : CurAt c S ((encs ⟨#[]⟩ (ps.take ps.length)).size : Nat) 0 w) : CurAt c S (S.size : Nat) 0 w := by
  rw [List.take_length, he] at h; exact h
theorem len_any' (b : Nat) (v : Value) (t : ByteArray) (w : World) (h : BufAt b v t w) : Calls Try.prog 12 #[.pointer (some ⟨b, 0, none⟩)] w fun e w' => e = .returned (.int .i64 (t.size : Nat)) ∧ w' = w :=
  (len_any b v t w h).mono fun _ _ ⟨a, b⟩ => ⟨a, b.symm⟩
set_option maxHeartbeats 8000000 in
set_option maxRecDepth 100000 in
theorem back_walk (ao : Option Addr) (len cap : Nat) (L : Nat → PartV) (hm : len ≤ maxLen) (w : World) (h : ∀ i, i < len → PartAt w ao i (L i)) :
    Calls Try.prog 5 #[.slice ao len cap] w fun e w' => e = .returned (.bool true) ∧ Below w.heap.size w w' := by
  unfold maxLen at hm
  have H := Lib.hid h
  clear h
  obtain ⟨i0, hi, hz0, hz1, hz2⟩ := info_parts infoPart
  by_cases hl : 200 < len
  · go_enter Try.func5, Try.ntmps5
    go_wp2_with (go_at_call 7; refine (awake2_any _).mono ?_; rintro e w1 ⟨rfl, hb⟩)
    go_ret
    exact ⟨rfl, hb⟩
  · go_enter Try.func5, Try.ntmps5
    go_wp2
    go_loopw [4, 5] (fun u i wr => ∃ (k : Nat) (v : Value) (ps : List PartV), k ≤ len ∧ i = .int .i64 k ∧ ps.length ≤ k ∧ (encs ⟨#[]⟩ ps).size ≤ k * 400 ∧ Hid (∀ p ∈ ps, PutOk p) ∧ Hid (BackSt w.heap.size w wr u v ps (encs ⟨#[]⟩ ps))) (fun _ i _ => len - (intOf i).toNat)
    case atStart => exact ⟨0, _, [], Nat.zero_le _, rfl, Nat.le_refl _, by decide, fun p hp => (by cases hp), BackSt.start w⟩
    case round =>
      obtain ⟨k, v, ps, hk, rfl, hpl, hts, HP, HS⟩ := hrel
      have hgw := HS.out.ge
      by_cases hlt : k < len
      · obtain ⟨b, off, rfl, c0, c1, c2, c3, wn, wz, htl⟩ := (H.out k hlt).held HS.out.below
        have hb0 : b < w.heap.size := by obtain ⟨b', off', e', x0, _⟩ := H.out k hlt; cases e'; exact lt_of_cell x0
        have CW : Hid (w.cell? ⟨b, off + k * 4 + 2, none⟩ = some (.int .i64 (L k).size)) := by obtain ⟨b', off', e', _, _, x2, _⟩ := H.out k hlt; cases e'; exact x2
        rcases hq : L k with ⟨pl, nu, sz, tx⟩
        rw [hq] at c0 c1 c2 c3 wn wz htl CW
        dsimp only at c0 c1 c2 c3 wn wz htl CW
        clear hq
        by_cases hlong : 300 < tx.size
        · go_wp2_with (go_at_call 7; refine (awake2_any _).mono ?_; rintro e w1 ⟨rfl, hb⟩)
          go_ret
          exact ⟨rfl, below_step HS.out.below hb⟩
        · cases pl with
          | true =>
            go_wp2_with (first
              | (go_at_call 9; refine (text_any _ _ _ _ _ HS.out.buf (by omega)).mono ?_; rintro e w1 ⟨rfl, v1, h1, o1, f1⟩; have c0 := keep_buf HS.out.buf o1 hb0 c0; have c1 := keep_buf HS.out.buf o1 hb0 c1; have c2 := keep_buf HS.out.buf o1 hb0 c2; have c3 := keep_buf HS.out.buf o1 hb0 c3; have HS1 := Lib.hid (HS.out.step h1 o1 f1); clear h1 o1 f1)
              | (at_builtin; refine wpList_append_at rfl (.tmp 41) (.tmp 46) 22 rfl (w.heap.size + 1) 28 i0 _ 4 40 Try.underlying22 hi hz0 hz1 hz2 rfl (by decide) _ ps.length _ rfl (HS1.out.row.alloc _) ⟨_, 0, none⟩ 1 1 (partCells ⟨true, nu, sz, tx⟩) rfl rfl (part_cells_at _ ⟨true, nu, sz, tx⟩) (part_one ⟨true, nu, sz, tx⟩) (by unfold maxLen; omega) (by omega) (by have := HS1.out.ge; simp; omega) ?_))
            intro u1 w2 hown2 hg2 hf2
            have HS2 := Lib.hid (HS1.out.push (p := ⟨true, nu, sz, tx⟩) hown2 hg2 hf2.out)
            clear hown2 hg2 hf2 c0 c1 c2 c3
            go_wp2
            go_roundw
            case rel => exact ⟨k + 1, _, ps ++ [⟨true, nu, sz, tx⟩], by omega, by go_num, by simp; omega, by rw [encs_snoc]; simp only [encP, if_true, ByteArray.size_append]; omega, all_snoc HP.out (ok_plain wn wz (by omega)), (by rw [encs_snoc]; exact HS2.out)⟩
            case measure => simp [intOf]; omega
          | false =>
            by_cases he : putE nu sz = 0
            · have hbs := bufPut_size (encs ⟨#[]⟩ ps) nu sz
              have HE := Lib.hid he
              clear he
              go_wp2_with (go_at_call 12; refine (len_any _ _ _ _ HS.out.buf).mono ?_; rintro e w3 ⟨rfl, rfl⟩)
              go_region_held3 (fun w' => w'.cell? ⟨b, off + k * 4 + 1, none⟩ = some (.int .u64 nu) ∧ w'.cell? ⟨b, off + k * 4 + 2, none⟩ = some (.int .i64 sz))
                (first | exact ⟨keep_buf HS.out.drew.buf o1 hb0 c1, keep_buf HS.out.drew.buf o1 hb0 c2⟩ | go_keep)
                (first | (go_at_call 11; refine (bput_yes _ _ _ _ _ _ HS.out.drew.buf wn HE.out (by omega)).mono ?_; rintro e w1 ⟨rfl, v1, h1, o1, f1⟩))
              have HS1 := Lib.hid (HS.out.drew.step h1 o1 f1)
              have c0 := keep_buf HS.out.drew.buf o1 hb0 c0
              have c1 := keep_buf HS.out.drew.buf o1 hb0 c1
              have c2 := keep_buf HS.out.drew.buf o1 hb0 c2
              have c3 := keep_buf HS.out.drew.buf o1 hb0 c3
              clear h1 o1 f1
              go_wp2_with (at_builtin; refine wpList_append_at rfl (.tmp 63) (.tmp 68) 22 rfl (w.heap.size + 1) 28 i0 _ 4 40 Try.underlying22 hi hz0 hz1 hz2 rfl (by decide) _ ps.length _ rfl (HS1.out.row.alloc _) ⟨_, 0, none⟩ 1 1 (partCells ⟨false, nu, sz, tx⟩) rfl rfl (part_cells_at _ ⟨false, nu, sz, tx⟩) (part_one ⟨false, nu, sz, tx⟩) (by unfold maxLen; omega) (by omega) (by have := HS1.out.ge; simp; omega) ?_)
              intro u1 w2 hown2 hg2 hf2
              have HS2 := Lib.hid (HS1.out.push (p := ⟨false, nu, sz, tx⟩) hown2 hg2 hf2.out)
              have HF := Lib.hid (put_place (t := encs ⟨#[]⟩ ps) HE.out)
              have c2 := keep HS2.out.below CW.out
              clear hown2 hg2 hf2 c0 c1 c3
              go_wp2
              obtain ⟨p1, p2, p3, p4, p5⟩ := HF.out
              have hw1 := IntWalk.i64_in ((((bufPut (encs ⟨#[]⟩ ps) nu sz).size : Nat) : Int) - sz) (by omega)
              have hw2 := IntWalk.i64_in ((((bufPut (encs ⟨#[]⟩ ps) nu sz).size : Nat) : Int) - ((encs ⟨#[]⟩ ps).size : Nat)) (by omega)
              have hw3 := IntWalk.i64_in (2 * sz) (by omega)
              have hnz : (sz == 0) = false := by simp; omega
              have hle : decide (2 * sz ≤ (((bufPut (encs ⟨#[]⟩ ps) nu sz).size : Nat) : Int) - ((encs ⟨#[]⟩ ps).size : Nat)) = false := by simp; omega
              go_quiet ((go_at_call 12; exact Calls.quiet_of_same (P := Try.prog) (len_any' _ _ _ _ (by exact HS2.out.buf))))
              clear hw1 hw2 hw3 hnz hle p5
              have HS3 := Lib.hid (HS2.out.drewN nq)
              go_wp2
              go_roundw
              case rel => exact ⟨k + 1, _, ps ++ [⟨false, nu, sz, tx⟩], by omega, by go_num, by simp; omega, by rw [encs_snoc, encP_num]; omega, all_snoc HP.out (ok_num HE.out wn wz (by omega)), (by rw [encs_snoc, encP_num]; exact HS3.out)⟩
              case measure => simp [intOf]; omega
            · have he2 : (putE nu sz == 0) = false := by simpa using he
              have HE := Lib.hid he
              clear he
              go_wp2_with (go_at_call 12; refine (len_any _ _ _ _ HS.out.buf).mono ?_; rintro e w3 ⟨rfl, rfl⟩)
              go_region_held3 (fun w' => w'.cell? ⟨b, off + k * 4 + 1, none⟩ = some (.int .u64 nu) ∧ w'.cell? ⟨b, off + k * 4 + 2, none⟩ = some (.int .i64 sz))
                (first | exact ⟨keep_buf HS.out.drew.buf o1 hb0 c1, keep_buf HS.out.drew.buf o1 hb0 c2⟩ | go_keep)
                (first | (go_at_call 11; refine (bput_bad _ _ _ _ _ _ HS.out.drew.buf wn HE.out).mono ?_; rintro e w1 ⟨rfl, v1, h1, o1, f1⟩))
              have HS1 := Lib.hid (HS.out.drew.step h1 o1 f1)
              clear h1 o1 f1 c0 c1 c2 c3
              go_wp2_with (go_at_call 12; refine (len_any _ _ _ _ HS1.out.buf).mono ?_; rintro e w3 ⟨rfl, rfl⟩)
              go_roundw
              case rel => exact ⟨k + 1, _, ps, by omega, by go_num, by omega, by omega, HP, HS1⟩
              case measure => simp [intOf]; omega
      · obtain ⟨wo, rfl⟩ : ∃ wo : World, wo = wr := ⟨_, rfl⟩
        obtain ⟨S, hS⟩ : ∃ S, encs ⟨#[]⟩ ps = S := ⟨_, rfl⟩
        have HE := Lib.hid hS
        rw [hS] at HS hts
        clear hS
        have HC0 := Lib.hid (cur_new wo S)
        have HVK := Lib.hid (fun k hk => (HS.out.buf.2.lt k hk).2)
        have HUK := Lib.hid (fun k hk => (HS.out.row.lt k hk).2)
        go_wp2_with (first
          | (go_at_call 13; refine (bytes_any _ _ _ _ HS.out.buf).mono ?_; rintro e w1 ⟨rfl, rfl⟩)
          | (go_at_call 16; refine (read_any _ _).mono ?_; rintro e w1 ⟨rfl, rfl⟩))
        go_loopw [8] (fun i wc => ∃ j : Nat, j ≤ ps.length ∧ i = .int .i64 j ∧ Hid (CurAt wo.heap.size S ((encs ⟨#[]⟩ (ps.take j)).size : Nat) 0 wc) ∧ Hid (BackSt w.heap.size w wc u4 v ps S)) (fun i _ => ps.length - (intOf i).toNat)
        case atStart => exact ⟨0, Nat.zero_le _, rfl, HC0, HS.out.quiet (new_below _ _)⟩
        case round =>
          obtain ⟨j, hj, rfl, HC, HT⟩ := hrel
          by_cases hlj : j < ps.length
          · obtain ⟨g, gc, rfl, hgb, hgl, d0, d1, d2, d3⟩ := part_row HT.out.row j hlj
            have HK := Lib.hid (HP.out ps[j] (List.getElem_mem hlj))
            have HA := Lib.hid (encs_at ps j hlj)
            have HT1 := Lib.hid (encs_take ps j hlj)
            have hgc : g < wo.heap.size := HUK.out g rfl
            rcases hq : ps[j] with ⟨pl, nu, sz, tx⟩
            rw [hq] at d0 d1 d2 d3 HK HA HT1
            dsimp only at d0 d1 d2 d3
            clear hq
            obtain ⟨r, hr⟩ := HA.out
            have HR := Lib.hid (HE.out.symm.trans hr)
            clear hr HA
            cases pl with
            | true =>
              go_wp2 -- region 24
              refine wp_region_held_drew (S := RowS g j true nu sz tx) (by kernel_rfl) (RowS.drew ⟨d0, d1, d2, d3⟩) (fun hHeld => ?_)
              refine wpAnyH_take (i := 0) (oi := { dst := some 111, op := Go.Op.move (Go.Operand.tmp 4), type := 22, pos := "law.go:116", after := #[], guard := none }) (v := ?_) rfl (by kernel_rfl) (by kernel_rfl) (by kernel_rfl) (fun _ _ _ h => h) (Or.inl ⟨by rfl, ?_⟩) hHeld ?_
              rotate_left 1
              · (intro wx hSw; obtain ⟨q0, q1, q2, q3⟩ := hSw; go_simp; try with_reducible rfl)
              try simp only [Act.put, List.setIfInBounds_toArray, List.set_cons_zero, List.set_cons_succ]
              refine wpAnyH_take (i := 1) (oi := { dst := some 112, op := Go.Op.move (Go.Operand.tmp 8), type := 3, pos := "law.go:116", after := #[], guard := none }) (v := ?_) rfl (by kernel_rfl) (by kernel_rfl) (by kernel_rfl) (fun _ _ _ h => h) (Or.inl ⟨by rfl, ?_⟩) hHeld ?_
              rotate_left 1
              · (intro wx hSw; obtain ⟨q0, q1, q2, q3⟩ := hSw; go_simp; try with_reducible rfl)
              try simp only [Act.put, List.setIfInBounds_toArray, List.set_cons_zero, List.set_cons_succ]
              refine wpAnyH_take (i := 2) (oi := { dst := some 113, op := Go.Op.indexAddr 22 (Go.Operand.tmp 111) (Go.Operand.tmp 112), type := 0, pos := "law.go:116", after := #[{ on := 0, ground := Go.Ground.data }, { on := 1, ground := Go.Ground.data }], guard := none }) (v := ?_) rfl (by kernel_rfl) (by kernel_rfl) (by kernel_rfl) (fun _ _ _ h => h) (Or.inl ⟨by rfl, ?_⟩) hHeld ?_
              rotate_left 1
              · (intro wx hSw; obtain ⟨q0, q1, q2, q3⟩ := hSw; go_simp; try with_reducible rfl)
              try simp only [Act.put, List.setIfInBounds_toArray, List.set_cons_zero, List.set_cons_succ]
              refine wpAnyH_take (i := 3) (oi := { dst := some 114, op := Go.Op.fieldAddr 28 (Go.Operand.tmp 113) 0, type := 0, pos := "law.go:116", after := #[{ on := 2, ground := Go.Ground.data }], guard := none }) (v := ?_) rfl (by kernel_rfl) (by kernel_rfl) (by kernel_rfl) (fun _ _ _ h => h) (Or.inl ⟨by rfl, ?_⟩) hHeld ?_
              rotate_left 1
              · (intro wx hSw; obtain ⟨q0, q1, q2, q3⟩ := hSw; go_simp; try with_reducible rfl)
              try simp only [Act.put, List.setIfInBounds_toArray, List.set_cons_zero, List.set_cons_succ]
              refine wpAnyH_take (i := 4) (oi := { dst := some 115, op := Go.Op.load 4 (Go.Operand.tmp 114), type := 4, pos := "law.go:116", after := #[{ on := 3, ground := Go.Ground.data }], guard := none }) (v := ?_) rfl (by kernel_rfl) (by kernel_rfl) (by kernel_rfl) (fun _ _ _ h => h) (Or.inl ⟨by rfl, ?_⟩) hHeld ?_
              rotate_left 1
              · (intro wx hSw; obtain ⟨q0, q1, q2, q3⟩ := hSw; go_simp; try with_reducible rfl)
              try simp only [Act.put, List.setIfInBounds_toArray, List.set_cons_zero, List.set_cons_succ]
              refine wpAnyH_take (i := 5) (oi := { dst := some 116, op := Go.Op.move (Go.Operand.tmp 115), type := 4, pos := "law.go:116", after := #[{ on := 4, ground := Go.Ground.data }], guard := none }) (v := ?_) rfl (by kernel_rfl) (by kernel_rfl) (by kernel_rfl) (fun _ _ _ h => h) (Or.inl ⟨by rfl, ?_⟩) hHeld ?_
              rotate_left 1
              · (intro wx hSw; obtain ⟨q0, q1, q2, q3⟩ := hSw; go_simp; try with_reducible rfl)
              try simp only [Act.put, List.setIfInBounds_toArray, List.set_cons_zero, List.set_cons_succ]
              refine wpAnyH_take (i := 6) (oi := { dst := some 117, op := Go.Op.move (Go.Operand.tmp 7), type := 39, pos := "law.go:116", after := #[{ on := 5, ground := Go.Ground.guard }], guard := some (5, true) }) (v := ?_) rfl (by kernel_rfl) (by kernel_rfl) (by kernel_rfl) (fun _ _ _ h => h) (Or.inl ⟨by rfl, ?_⟩) hHeld ?_
              rotate_left 1
              · (intro wx hSw; obtain ⟨q0, q1, q2, q3⟩ := hSw; go_simp; try with_reducible rfl)
              try simp only [Act.put, List.setIfInBounds_toArray, List.set_cons_zero, List.set_cons_succ]
              refine wpAnyH_take (i := 7) (oi := { dst := some 118, op := Go.Op.move (Go.Operand.tmp 4), type := 22, pos := "law.go:116", after := #[{ on := 5, ground := Go.Ground.guard }], guard := some (5, true) }) (v := ?_) rfl (by kernel_rfl) (by kernel_rfl) (by kernel_rfl) (fun _ _ _ h => h) (Or.inl ⟨by rfl, ?_⟩) hHeld ?_
              rotate_left 1
              · (intro wx hSw; obtain ⟨q0, q1, q2, q3⟩ := hSw; go_simp; try with_reducible rfl)
              try simp only [Act.put, List.setIfInBounds_toArray, List.set_cons_zero, List.set_cons_succ]
              refine wpAnyH_take (i := 8) (oi := { dst := some 119, op := Go.Op.move (Go.Operand.tmp 8), type := 3, pos := "law.go:116", after := #[{ on := 5, ground := Go.Ground.guard }], guard := some (5, true) }) (v := ?_) rfl (by kernel_rfl) (by kernel_rfl) (by kernel_rfl) (fun _ _ _ h => h) (Or.inl ⟨by rfl, ?_⟩) hHeld ?_
              rotate_left 1
              · (intro wx hSw; obtain ⟨q0, q1, q2, q3⟩ := hSw; go_simp; try with_reducible rfl)
              try simp only [Act.put, List.setIfInBounds_toArray, List.set_cons_zero, List.set_cons_succ]
              refine wpAnyH_take (i := 9) (oi := { dst := some 120, op := Go.Op.indexAddr 22 (Go.Operand.tmp 118) (Go.Operand.tmp 119), type := 0, pos := "law.go:116", after := #[{ on := 7, ground := Go.Ground.data }, { on := 8, ground := Go.Ground.data }, { on := 5, ground := Go.Ground.guard }], guard := some (5, true) }) (v := ?_) rfl (by kernel_rfl) (by kernel_rfl) (by kernel_rfl) (fun _ _ _ h => h) (Or.inl ⟨by rfl, ?_⟩) hHeld ?_
              rotate_left 1
              · (intro wx hSw; obtain ⟨q0, q1, q2, q3⟩ := hSw; go_simp; try with_reducible rfl)
              try simp only [Act.put, List.setIfInBounds_toArray, List.set_cons_zero, List.set_cons_succ]
              refine wpAnyH_take (i := 10) (oi := { dst := some 121, op := Go.Op.fieldAddr 28 (Go.Operand.tmp 120) 3, type := 0, pos := "law.go:116", after := #[{ on := 9, ground := Go.Ground.data }, { on := 5, ground := Go.Ground.guard }], guard := some (5, true) }) (v := ?_) rfl (by kernel_rfl) (by kernel_rfl) (by kernel_rfl) (fun _ _ _ h => h) (Or.inl ⟨by rfl, ?_⟩) hHeld ?_
              rotate_left 1
              · (intro wx hSw; obtain ⟨q0, q1, q2, q3⟩ := hSw; go_simp; try with_reducible rfl)
              try simp only [Act.put, List.setIfInBounds_toArray, List.set_cons_zero, List.set_cons_succ]
              refine wpAnyH_take (i := 11) (oi := { dst := some 122, op := Go.Op.load 9 (Go.Operand.tmp 121), type := 9, pos := "law.go:116", after := #[{ on := 10, ground := Go.Ground.data }, { on := 5, ground := Go.Ground.guard }], guard := some (5, true) }) (v := ?_) rfl (by kernel_rfl) (by kernel_rfl) (by kernel_rfl) (fun _ _ _ h => h) (Or.inl ⟨by rfl, ?_⟩) hHeld ?_
              rotate_left 1
              · (intro wx hSw; obtain ⟨q0, q1, q2, q3⟩ := hSw; go_simp; try with_reducible rfl)
              try simp only [Act.put, List.setIfInBounds_toArray, List.set_cons_zero, List.set_cons_succ]
              refine wpAnyH_take (i := 12) (oi := { dst := some 123, op := Go.Op.call { callee := Go.Callee.builtin Go.Builtin.len, args := #[Go.Operand.tmp 122], argTypes := #[9] }, type := 3, pos := "law.go:116", after := #[{ on := 11, ground := Go.Ground.data }, { on := 5, ground := Go.Ground.guard }], guard := some (5, true) }) (v := ?_) rfl (by kernel_rfl) (by kernel_rfl) (by kernel_rfl) (fun _ _ _ h => h) (Or.inl ⟨by rfl, ?_⟩) hHeld ?_
              rotate_left 1
              · (intro wx hSw; obtain ⟨q0, q1, q2, q3⟩ := hSw; go_simp; try with_reducible rfl)
              try simp only [Act.put, List.setIfInBounds_toArray, List.set_cons_zero, List.set_cons_succ]
              refine wpAnyH_take (i := 14) (oi := { dst := some 125, op := Go.Op.move (Go.Operand.tmp 4), type := 22, pos := "law.go:116", after := #[{ on := 5, ground := Go.Ground.guard }], guard := some (5, true) }) (v := ?_) rfl (by kernel_rfl) (by kernel_rfl) (by kernel_rfl) (fun _ _ _ h => h) (Or.inl ⟨by rfl, ?_⟩) hHeld ?_
              rotate_left 1
              · (intro wx hSw; obtain ⟨q0, q1, q2, q3⟩ := hSw; go_simp; try with_reducible rfl)
              try simp only [Act.put, List.setIfInBounds_toArray, List.set_cons_zero, List.set_cons_succ]
              refine wpAnyH_take (i := 15) (oi := { dst := some 126, op := Go.Op.move (Go.Operand.tmp 8), type := 3, pos := "law.go:116", after := #[{ on := 5, ground := Go.Ground.guard }], guard := some (5, true) }) (v := ?_) rfl (by kernel_rfl) (by kernel_rfl) (by kernel_rfl) (fun _ _ _ h => h) (Or.inl ⟨by rfl, ?_⟩) hHeld ?_
              rotate_left 1
              · (intro wx hSw; obtain ⟨q0, q1, q2, q3⟩ := hSw; go_simp; try with_reducible rfl)
              try simp only [Act.put, List.setIfInBounds_toArray, List.set_cons_zero, List.set_cons_succ]
              refine wpAnyH_take (i := 16) (oi := { dst := some 127, op := Go.Op.indexAddr 22 (Go.Operand.tmp 125) (Go.Operand.tmp 126), type := 0, pos := "law.go:116", after := #[{ on := 14, ground := Go.Ground.data }, { on := 15, ground := Go.Ground.data }, { on := 5, ground := Go.Ground.guard }], guard := some (5, true) }) (v := ?_) rfl (by kernel_rfl) (by kernel_rfl) (by kernel_rfl) (fun _ _ _ h => h) (Or.inl ⟨by rfl, ?_⟩) hHeld ?_
              rotate_left 1
              · (intro wx hSw; obtain ⟨q0, q1, q2, q3⟩ := hSw; go_simp; try with_reducible rfl)
              try simp only [Act.put, List.setIfInBounds_toArray, List.set_cons_zero, List.set_cons_succ]
              refine wpAnyH_take (i := 17) (oi := { dst := some 128, op := Go.Op.fieldAddr 28 (Go.Operand.tmp 127) 3, type := 0, pos := "law.go:116", after := #[{ on := 16, ground := Go.Ground.data }, { on := 5, ground := Go.Ground.guard }], guard := some (5, true) }) (v := ?_) rfl (by kernel_rfl) (by kernel_rfl) (by kernel_rfl) (fun _ _ _ h => h) (Or.inl ⟨by rfl, ?_⟩) hHeld ?_
              rotate_left 1
              · (intro wx hSw; obtain ⟨q0, q1, q2, q3⟩ := hSw; go_simp; try with_reducible rfl)
              try simp only [Act.put, List.setIfInBounds_toArray, List.set_cons_zero, List.set_cons_succ]
              refine wpAnyH_take (i := 18) (oi := { dst := some 129, op := Go.Op.load 9 (Go.Operand.tmp 128), type := 9, pos := "law.go:116", after := #[{ on := 17, ground := Go.Ground.data }, { on := 5, ground := Go.Ground.guard }], guard := some (5, true) }) (v := ?_) rfl (by kernel_rfl) (by kernel_rfl) (by kernel_rfl) (fun _ _ _ h => h) (Or.inl ⟨by rfl, ?_⟩) hHeld ?_
              rotate_left 1
              · (intro wx hSw; obtain ⟨q0, q1, q2, q3⟩ := hSw; go_simp; try with_reducible rfl)
              try simp only [Act.put, List.setIfInBounds_toArray, List.set_cons_zero, List.set_cons_succ]
              refine wpAnyH_ready (rs := [13]) (by kernel_rfl) (by simp) ?_
              refine AllReadyH.cons (o := { dst := some 124, op := Go.Op.call { callee := Go.Callee.value (Go.Operand.func 18), args := #[Go.Operand.tmp 117, Go.Operand.tmp 123], argTypes := #[39, 3] }, type := 9, pos := "law.go:116", after := #[{ on := 6, ground := Go.Ground.data }, { on := 12, ground := Go.Ground.data }, { on := 5, ground := Go.Ground.chain }, { on := 5, ground := Go.Ground.guard }], guard := some (5, true) }) rfl (fun K hK => ?_) AllReadyH.nil
              go_simp
              (go_at_call 18; refine (read_text _ _ _ _ r HR.out (by omega) _ (by exact HC.out)).mono ?_; rintro e w1 ⟨rfl, ho, hc⟩; go_wp2_with fail)
              refine hK.out _ _ (RowS.cur hHeld ho (Nat.ne_of_lt hgc)) (fun hHeld => ?_)
              clear hK K
              try simp only [Act.put, List.setIfInBounds_toArray, List.set_cons_zero, List.set_cons_succ]
              refine wpAnyH_take (i := 19) (oi := { dst := some 130, op := Go.Op.binOp Go.BinOp.neq 9 (Go.Operand.tmp 124) (Go.Operand.tmp 129) 9, type := 4, pos := "law.go:116", after := #[{ on := 13, ground := Go.Ground.data }, { on := 18, ground := Go.Ground.data }, { on := 5, ground := Go.Ground.guard }], guard := some (5, true) }) (v := ?_) rfl (by kernel_rfl) (by kernel_rfl) (by kernel_rfl) (fun _ _ _ h => h) (Or.inl ⟨by rfl, ?_⟩) hHeld ?_
              rotate_left 1
              · (intro wx hSw; obtain ⟨q0, q1, q2, q3⟩ := hSw; go_simp; try with_reducible rfl)
              try simp only [Act.put, List.setIfInBounds_toArray, List.set_cons_zero, List.set_cons_succ]
              refine wpAnyH_take (i := 20) (oi := { dst := some 131, op := Go.Op.pick (Go.Operand.tmp 116) (Go.Operand.tmp 130) (Go.Operand.const (Go.Value.bool false)), type := 4, pos := "law.go:116", after := #[{ on := 5, ground := Go.Ground.data }, { on := 19, ground := Go.Ground.data }], guard := none }) (v := ?_) rfl (by kernel_rfl) (by kernel_rfl) (by kernel_rfl) (fun _ _ _ h => h) (Or.inl ⟨by rfl, ?_⟩) hHeld ?_
              rotate_left 1
              · (intro wx hSw; obtain ⟨q0, q1, q2, q3⟩ := hSw; go_simp; try with_reducible rfl)
              try simp only [Act.put, List.setIfInBounds_toArray, List.set_cons_zero, List.set_cons_succ]
              refine wpAnyH_take (i := 21) (oi := { dst := some 132, op := Go.Op.move (Go.Operand.tmp 131), type := 4, pos := "law.go:116", after := #[{ on := 20, ground := Go.Ground.data }, { on := 13, ground := Go.Ground.chain }], guard := none }) (v := ?_) rfl (by kernel_rfl) (by kernel_rfl) (by kernel_rfl) (fun _ _ _ h => h) (Or.inl ⟨by rfl, ?_⟩) hHeld ?_
              rotate_left 1
              · (intro wx hSw; obtain ⟨q0, q1, q2, q3⟩ := hSw; go_simp; try with_reducible rfl)
              try simp only [Act.put, List.setIfInBounds_toArray, List.set_cons_zero, List.set_cons_succ]
              refine wpAnyH_take (i := 22) (oi := { dst := some 133, op := Go.Op.move (Go.Operand.tmp 4), type := 22, pos := "law.go:116", after := #[{ on := 21, ground := Go.Ground.guard }], guard := some (21, false) }) (v := ?_) rfl (by kernel_rfl) (by kernel_rfl) (by kernel_rfl) (fun _ _ _ h => h) (Or.inl ⟨by rfl, ?_⟩) hHeld ?_
              rotate_left 1
              · (intro wx hSw; obtain ⟨q0, q1, q2, q3⟩ := hSw; go_simp; try with_reducible rfl)
              try simp only [Act.put, List.setIfInBounds_toArray, List.set_cons_zero, List.set_cons_succ]
              refine wpAnyH_take (i := 23) (oi := { dst := some 134, op := Go.Op.move (Go.Operand.tmp 8), type := 3, pos := "law.go:116", after := #[{ on := 21, ground := Go.Ground.guard }], guard := some (21, false) }) (v := ?_) rfl (by kernel_rfl) (by kernel_rfl) (by kernel_rfl) (fun _ _ _ h => h) (Or.inl ⟨by rfl, ?_⟩) hHeld ?_
              rotate_left 1
              · (intro wx hSw; obtain ⟨q0, q1, q2, q3⟩ := hSw; go_simp; try with_reducible rfl)
              try simp only [Act.put, List.setIfInBounds_toArray, List.set_cons_zero, List.set_cons_succ]
              refine wpAnyH_take (i := 24) (oi := { dst := some 135, op := Go.Op.indexAddr 22 (Go.Operand.tmp 133) (Go.Operand.tmp 134), type := 0, pos := "law.go:116", after := #[{ on := 22, ground := Go.Ground.data }, { on := 23, ground := Go.Ground.data }, { on := 21, ground := Go.Ground.guard }], guard := some (21, false) }) (v := ?_) rfl (by kernel_rfl) (by kernel_rfl) (by kernel_rfl) (fun _ _ _ h => h) (Or.inl ⟨by rfl, ?_⟩) hHeld ?_
              rotate_left 1
              · (intro wx hSw; obtain ⟨q0, q1, q2, q3⟩ := hSw; go_simp; try with_reducible rfl)
              try simp only [Act.put, List.setIfInBounds_toArray, List.set_cons_zero, List.set_cons_succ]
              refine wpAnyH_take (i := 25) (oi := { dst := some 136, op := Go.Op.fieldAddr 28 (Go.Operand.tmp 135) 0, type := 0, pos := "law.go:116", after := #[{ on := 24, ground := Go.Ground.data }, { on := 21, ground := Go.Ground.guard }], guard := some (21, false) }) (v := ?_) rfl (by kernel_rfl) (by kernel_rfl) (by kernel_rfl) (fun _ _ _ h => h) (Or.inl ⟨by rfl, ?_⟩) hHeld ?_
              rotate_left 1
              · (intro wx hSw; obtain ⟨q0, q1, q2, q3⟩ := hSw; go_simp; try with_reducible rfl)
              try simp only [Act.put, List.setIfInBounds_toArray, List.set_cons_zero, List.set_cons_succ]
              refine wpAnyH_take (i := 26) (oi := { dst := some 137, op := Go.Op.load 4 (Go.Operand.tmp 136), type := 4, pos := "law.go:116", after := #[{ on := 25, ground := Go.Ground.data }, { on := 21, ground := Go.Ground.guard }], guard := some (21, false) }) (v := ?_) rfl (by kernel_rfl) (by kernel_rfl) (by kernel_rfl) (fun _ _ _ h => h) (Or.inl ⟨by rfl, ?_⟩) hHeld ?_
              rotate_left 1
              · (intro wx hSw; obtain ⟨q0, q1, q2, q3⟩ := hSw; go_simp; try with_reducible rfl)
              try simp only [Act.put, List.setIfInBounds_toArray, List.set_cons_zero, List.set_cons_succ]
              refine wpAnyH_take (i := 27) (oi := { dst := some 138, op := Go.Op.unOp Go.UnOp.not 4 (Go.Operand.tmp 137), type := 4, pos := "law.go:116", after := #[{ on := 26, ground := Go.Ground.data }, { on := 21, ground := Go.Ground.guard }], guard := some (21, false) }) (v := ?_) rfl (by kernel_rfl) (by kernel_rfl) (by kernel_rfl) (fun _ _ _ h => h) (Or.inl ⟨by rfl, ?_⟩) hHeld ?_
              rotate_left 1
              · (intro wx hSw; obtain ⟨q0, q1, q2, q3⟩ := hSw; go_simp; try with_reducible rfl)
              try simp only [Act.put, List.setIfInBounds_toArray, List.set_cons_zero, List.set_cons_succ]
              refine wpAnyH_take (i := 28) (oi := { dst := some 139, op := Go.Op.move (Go.Operand.tmp 138), type := 4, pos := "law.go:116", after := #[{ on := 27, ground := Go.Ground.data }, { on := 21, ground := Go.Ground.chain }, { on := 21, ground := Go.Ground.guard }], guard := some (21, false) }) (v := ?_) rfl (by kernel_rfl) (by kernel_rfl) (by kernel_rfl) (fun _ _ _ h => h) (Or.inl ⟨by rfl, ?_⟩) hHeld ?_
              rotate_left 1
              · (intro wx hSw; obtain ⟨q0, q1, q2, q3⟩ := hSw; go_simp; try with_reducible rfl)
              try simp only [Act.put, List.setIfInBounds_toArray, List.set_cons_zero, List.set_cons_succ]
              refine wpAnyH_take (i := 29) (oi := { dst := some 140, op := Go.Op.move (Go.Operand.tmp 7), type := 39, pos := "law.go:116", after := #[{ on := 28, ground := Go.Ground.guard }], guard := some (28, true) }) (v := undef) rfl (by kernel_rfl) (by kernel_rfl) (by kernel_rfl) (fun _ _ _ h => h) (Or.inr ⟨by rfl, rfl⟩) hHeld ?_
              try simp only [Act.put, List.setIfInBounds_toArray, List.set_cons_zero, List.set_cons_succ]
              refine wpAnyH_take (i := 30) (oi := { dst := some 141, op := Go.Op.move (Go.Operand.tmp 4), type := 22, pos := "law.go:116", after := #[{ on := 28, ground := Go.Ground.guard }], guard := some (28, true) }) (v := undef) rfl (by kernel_rfl) (by kernel_rfl) (by kernel_rfl) (fun _ _ _ h => h) (Or.inr ⟨by rfl, rfl⟩) hHeld ?_
              try simp only [Act.put, List.setIfInBounds_toArray, List.set_cons_zero, List.set_cons_succ]
              refine wpAnyH_take (i := 31) (oi := { dst := some 142, op := Go.Op.move (Go.Operand.tmp 8), type := 3, pos := "law.go:116", after := #[{ on := 28, ground := Go.Ground.guard }], guard := some (28, true) }) (v := undef) rfl (by kernel_rfl) (by kernel_rfl) (by kernel_rfl) (fun _ _ _ h => h) (Or.inr ⟨by rfl, rfl⟩) hHeld ?_
              try simp only [Act.put, List.setIfInBounds_toArray, List.set_cons_zero, List.set_cons_succ]
              refine wpAnyH_take (i := 32) (oi := { dst := some 143, op := Go.Op.indexAddr 22 (Go.Operand.tmp 141) (Go.Operand.tmp 142), type := 0, pos := "law.go:116", after := #[{ on := 30, ground := Go.Ground.data }, { on := 31, ground := Go.Ground.data }, { on := 28, ground := Go.Ground.guard }], guard := some (28, true) }) (v := undef) rfl (by kernel_rfl) (by kernel_rfl) (by kernel_rfl) (fun _ _ _ h => h) (Or.inr ⟨by rfl, rfl⟩) hHeld ?_
              try simp only [Act.put, List.setIfInBounds_toArray, List.set_cons_zero, List.set_cons_succ]
              refine wpAnyH_take (i := 33) (oi := { dst := some 144, op := Go.Op.fieldAddr 28 (Go.Operand.tmp 143) 2, type := 0, pos := "law.go:116", after := #[{ on := 32, ground := Go.Ground.data }, { on := 28, ground := Go.Ground.guard }], guard := some (28, true) }) (v := undef) rfl (by kernel_rfl) (by kernel_rfl) (by kernel_rfl) (fun _ _ _ h => h) (Or.inr ⟨by rfl, rfl⟩) hHeld ?_
              try simp only [Act.put, List.setIfInBounds_toArray, List.set_cons_zero, List.set_cons_succ]
              refine wpAnyH_take (i := 34) (oi := { dst := some 145, op := Go.Op.load 3 (Go.Operand.tmp 144), type := 3, pos := "law.go:116", after := #[{ on := 33, ground := Go.Ground.data }, { on := 28, ground := Go.Ground.guard }], guard := some (28, true) }) (v := undef) rfl (by kernel_rfl) (by kernel_rfl) (by kernel_rfl) (fun _ _ _ h => h) (Or.inr ⟨by rfl, rfl⟩) hHeld ?_
              try simp only [Act.put, List.setIfInBounds_toArray, List.set_cons_zero, List.set_cons_succ]
              refine wpAnyH_take (i := 35) (oi := { dst := some 146, op := Go.Op.call { callee := Go.Callee.value (Go.Operand.func 20), args := #[Go.Operand.tmp 140, Go.Operand.tmp 145], argTypes := #[39, 3] }, type := 26, pos := "law.go:116", after := #[{ on := 29, ground := Go.Ground.data }, { on := 34, ground := Go.Ground.data }, { on := 28, ground := Go.Ground.chain }, { on := 28, ground := Go.Ground.guard }], guard := some (28, true) }) (v := undef) rfl (by kernel_rfl) (by kernel_rfl) (by kernel_rfl) (fun _ _ _ h => h) (Or.inr ⟨by rfl, rfl⟩) hHeld ?_
              try simp only [Act.put, List.setIfInBounds_toArray, List.set_cons_zero, List.set_cons_succ]
              refine wpAnyH_take (i := 36) (oi := { dst := some 147, op := Go.Op.move (Go.Operand.tmp 4), type := 22, pos := "law.go:116", after := #[{ on := 28, ground := Go.Ground.guard }], guard := some (28, true) }) (v := undef) rfl (by kernel_rfl) (by kernel_rfl) (by kernel_rfl) (fun _ _ _ h => h) (Or.inr ⟨by rfl, rfl⟩) hHeld ?_
              try simp only [Act.put, List.setIfInBounds_toArray, List.set_cons_zero, List.set_cons_succ]
              refine wpAnyH_take (i := 37) (oi := { dst := some 148, op := Go.Op.move (Go.Operand.tmp 8), type := 3, pos := "law.go:116", after := #[{ on := 28, ground := Go.Ground.guard }], guard := some (28, true) }) (v := undef) rfl (by kernel_rfl) (by kernel_rfl) (by kernel_rfl) (fun _ _ _ h => h) (Or.inr ⟨by rfl, rfl⟩) hHeld ?_
              try simp only [Act.put, List.setIfInBounds_toArray, List.set_cons_zero, List.set_cons_succ]
              refine wpAnyH_take (i := 38) (oi := { dst := some 149, op := Go.Op.indexAddr 22 (Go.Operand.tmp 147) (Go.Operand.tmp 148), type := 0, pos := "law.go:116", after := #[{ on := 36, ground := Go.Ground.data }, { on := 37, ground := Go.Ground.data }, { on := 28, ground := Go.Ground.guard }], guard := some (28, true) }) (v := undef) rfl (by kernel_rfl) (by kernel_rfl) (by kernel_rfl) (fun _ _ _ h => h) (Or.inr ⟨by rfl, rfl⟩) hHeld ?_
              try simp only [Act.put, List.setIfInBounds_toArray, List.set_cons_zero, List.set_cons_succ]
              refine wpAnyH_take (i := 39) (oi := { dst := some 150, op := Go.Op.fieldAddr 28 (Go.Operand.tmp 149) 1, type := 0, pos := "law.go:116", after := #[{ on := 38, ground := Go.Ground.data }, { on := 28, ground := Go.Ground.guard }], guard := some (28, true) }) (v := undef) rfl (by kernel_rfl) (by kernel_rfl) (by kernel_rfl) (fun _ _ _ h => h) (Or.inr ⟨by rfl, rfl⟩) hHeld ?_
              try simp only [Act.put, List.setIfInBounds_toArray, List.set_cons_zero, List.set_cons_succ]
              refine wpAnyH_take (i := 40) (oi := { dst := some 151, op := Go.Op.load 26 (Go.Operand.tmp 150), type := 26, pos := "law.go:116", after := #[{ on := 39, ground := Go.Ground.data }, { on := 28, ground := Go.Ground.guard }], guard := some (28, true) }) (v := undef) rfl (by kernel_rfl) (by kernel_rfl) (by kernel_rfl) (fun _ _ _ h => h) (Or.inr ⟨by rfl, rfl⟩) hHeld ?_
              try simp only [Act.put, List.setIfInBounds_toArray, List.set_cons_zero, List.set_cons_succ]
              refine wpAnyH_take (i := 41) (oi := { dst := some 152, op := Go.Op.binOp Go.BinOp.neq 26 (Go.Operand.tmp 146) (Go.Operand.tmp 151) 26, type := 4, pos := "law.go:116", after := #[{ on := 35, ground := Go.Ground.data }, { on := 40, ground := Go.Ground.data }, { on := 28, ground := Go.Ground.guard }], guard := some (28, true) }) (v := undef) rfl (by kernel_rfl) (by kernel_rfl) (by kernel_rfl) (fun _ _ _ h => h) (Or.inr ⟨by rfl, rfl⟩) hHeld ?_
              try simp only [Act.put, List.setIfInBounds_toArray, List.set_cons_zero, List.set_cons_succ]
              refine wpAnyH_take (i := 42) (oi := { dst := some 153, op := Go.Op.pick (Go.Operand.tmp 139) (Go.Operand.tmp 152) (Go.Operand.const (Go.Value.bool false)), type := 4, pos := "law.go:116", after := #[{ on := 28, ground := Go.Ground.data }, { on := 41, ground := Go.Ground.data }, { on := 21, ground := Go.Ground.guard }], guard := some (21, false) }) (v := ?_) rfl (by kernel_rfl) (by kernel_rfl) (by kernel_rfl) (fun _ _ _ h => h) (Or.inl ⟨by rfl, ?_⟩) hHeld ?_
              rotate_left 1
              · (intro wx hSw; obtain ⟨q0, q1, q2, q3⟩ := hSw; go_simp; try with_reducible rfl)
              try simp only [Act.put, List.setIfInBounds_toArray, List.set_cons_zero, List.set_cons_succ]
              refine wpAnyH_take (i := 43) (oi := { dst := some 154, op := Go.Op.pick (Go.Operand.tmp 132) (Go.Operand.const (Go.Value.bool true)) (Go.Operand.tmp 153), type := 4, pos := "law.go:116", after := #[{ on := 21, ground := Go.Ground.data }, { on := 42, ground := Go.Ground.data }], guard := none }) (v := ?_) rfl (by kernel_rfl) (by kernel_rfl) (by kernel_rfl) (fun _ _ _ h => h) (Or.inl ⟨by rfl, ?_⟩) hHeld ?_
              rotate_left 1
              · (intro wx hSw; obtain ⟨q0, q1, q2, q3⟩ := hSw; go_simp; try with_reducible rfl)
              try simp only [Act.put, List.setIfInBounds_toArray, List.set_cons_zero, List.set_cons_succ]
              refine wpAnyH_done (by kernel_rfl) ?_ _
              have HC1 := Lib.hid hc
              have HT2 := Lib.hid (HT.out.drew.cur ho hgw HVK.out HUK.out)
              clear ho hc hHeld d0 d1 d2 d3
              go_wp2_with (fail)
              go_roundw
              case rel => exact ⟨j + 1, by omega, by go_num, (by rw [HT1.out]; exact HC1.out), HT2⟩
              case measure => simp [intOf]; omega
            | false =>
              go_wp2 -- region 24
              refine wp_region_held_drew (S := RowS g j false nu sz tx) (by kernel_rfl) (RowS.drew ⟨d0, d1, d2, d3⟩) (fun hHeld => ?_)
              refine wpAnyH_take (i := 0) (oi := { dst := some 111, op := Go.Op.move (Go.Operand.tmp 4), type := 22, pos := "law.go:116", after := #[], guard := none }) (v := ?_) rfl (by kernel_rfl) (by kernel_rfl) (by kernel_rfl) (fun _ _ _ h => h) (Or.inl ⟨by rfl, ?_⟩) hHeld ?_
              rotate_left 1
              · (intro wx hSw; obtain ⟨q0, q1, q2, q3⟩ := hSw; go_simp; try with_reducible rfl)
              try simp only [Act.put, List.setIfInBounds_toArray, List.set_cons_zero, List.set_cons_succ]
              refine wpAnyH_take (i := 1) (oi := { dst := some 112, op := Go.Op.move (Go.Operand.tmp 8), type := 3, pos := "law.go:116", after := #[], guard := none }) (v := ?_) rfl (by kernel_rfl) (by kernel_rfl) (by kernel_rfl) (fun _ _ _ h => h) (Or.inl ⟨by rfl, ?_⟩) hHeld ?_
              rotate_left 1
              · (intro wx hSw; obtain ⟨q0, q1, q2, q3⟩ := hSw; go_simp; try with_reducible rfl)
              try simp only [Act.put, List.setIfInBounds_toArray, List.set_cons_zero, List.set_cons_succ]
              refine wpAnyH_take (i := 2) (oi := { dst := some 113, op := Go.Op.indexAddr 22 (Go.Operand.tmp 111) (Go.Operand.tmp 112), type := 0, pos := "law.go:116", after := #[{ on := 0, ground := Go.Ground.data }, { on := 1, ground := Go.Ground.data }], guard := none }) (v := ?_) rfl (by kernel_rfl) (by kernel_rfl) (by kernel_rfl) (fun _ _ _ h => h) (Or.inl ⟨by rfl, ?_⟩) hHeld ?_
              rotate_left 1
              · (intro wx hSw; obtain ⟨q0, q1, q2, q3⟩ := hSw; go_simp; try with_reducible rfl)
              try simp only [Act.put, List.setIfInBounds_toArray, List.set_cons_zero, List.set_cons_succ]
              refine wpAnyH_take (i := 3) (oi := { dst := some 114, op := Go.Op.fieldAddr 28 (Go.Operand.tmp 113) 0, type := 0, pos := "law.go:116", after := #[{ on := 2, ground := Go.Ground.data }], guard := none }) (v := ?_) rfl (by kernel_rfl) (by kernel_rfl) (by kernel_rfl) (fun _ _ _ h => h) (Or.inl ⟨by rfl, ?_⟩) hHeld ?_
              rotate_left 1
              · (intro wx hSw; obtain ⟨q0, q1, q2, q3⟩ := hSw; go_simp; try with_reducible rfl)
              try simp only [Act.put, List.setIfInBounds_toArray, List.set_cons_zero, List.set_cons_succ]
              refine wpAnyH_take (i := 4) (oi := { dst := some 115, op := Go.Op.load 4 (Go.Operand.tmp 114), type := 4, pos := "law.go:116", after := #[{ on := 3, ground := Go.Ground.data }], guard := none }) (v := ?_) rfl (by kernel_rfl) (by kernel_rfl) (by kernel_rfl) (fun _ _ _ h => h) (Or.inl ⟨by rfl, ?_⟩) hHeld ?_
              rotate_left 1
              · (intro wx hSw; obtain ⟨q0, q1, q2, q3⟩ := hSw; go_simp; try with_reducible rfl)
              try simp only [Act.put, List.setIfInBounds_toArray, List.set_cons_zero, List.set_cons_succ]
              refine wpAnyH_take (i := 5) (oi := { dst := some 116, op := Go.Op.move (Go.Operand.tmp 115), type := 4, pos := "law.go:116", after := #[{ on := 4, ground := Go.Ground.data }], guard := none }) (v := ?_) rfl (by kernel_rfl) (by kernel_rfl) (by kernel_rfl) (fun _ _ _ h => h) (Or.inl ⟨by rfl, ?_⟩) hHeld ?_
              rotate_left 1
              · (intro wx hSw; obtain ⟨q0, q1, q2, q3⟩ := hSw; go_simp; try with_reducible rfl)
              try simp only [Act.put, List.setIfInBounds_toArray, List.set_cons_zero, List.set_cons_succ]
              refine wpAnyH_take (i := 6) (oi := { dst := some 117, op := Go.Op.move (Go.Operand.tmp 7), type := 39, pos := "law.go:116", after := #[{ on := 5, ground := Go.Ground.guard }], guard := some (5, true) }) (v := undef) rfl (by kernel_rfl) (by kernel_rfl) (by kernel_rfl) (fun _ _ _ h => h) (Or.inr ⟨by rfl, rfl⟩) hHeld ?_
              try simp only [Act.put, List.setIfInBounds_toArray, List.set_cons_zero, List.set_cons_succ]
              refine wpAnyH_take (i := 7) (oi := { dst := some 118, op := Go.Op.move (Go.Operand.tmp 4), type := 22, pos := "law.go:116", after := #[{ on := 5, ground := Go.Ground.guard }], guard := some (5, true) }) (v := undef) rfl (by kernel_rfl) (by kernel_rfl) (by kernel_rfl) (fun _ _ _ h => h) (Or.inr ⟨by rfl, rfl⟩) hHeld ?_
              try simp only [Act.put, List.setIfInBounds_toArray, List.set_cons_zero, List.set_cons_succ]
              refine wpAnyH_take (i := 8) (oi := { dst := some 119, op := Go.Op.move (Go.Operand.tmp 8), type := 3, pos := "law.go:116", after := #[{ on := 5, ground := Go.Ground.guard }], guard := some (5, true) }) (v := undef) rfl (by kernel_rfl) (by kernel_rfl) (by kernel_rfl) (fun _ _ _ h => h) (Or.inr ⟨by rfl, rfl⟩) hHeld ?_
              try simp only [Act.put, List.setIfInBounds_toArray, List.set_cons_zero, List.set_cons_succ]
              refine wpAnyH_take (i := 9) (oi := { dst := some 120, op := Go.Op.indexAddr 22 (Go.Operand.tmp 118) (Go.Operand.tmp 119), type := 0, pos := "law.go:116", after := #[{ on := 7, ground := Go.Ground.data }, { on := 8, ground := Go.Ground.data }, { on := 5, ground := Go.Ground.guard }], guard := some (5, true) }) (v := undef) rfl (by kernel_rfl) (by kernel_rfl) (by kernel_rfl) (fun _ _ _ h => h) (Or.inr ⟨by rfl, rfl⟩) hHeld ?_
              try simp only [Act.put, List.setIfInBounds_toArray, List.set_cons_zero, List.set_cons_succ]
              refine wpAnyH_take (i := 10) (oi := { dst := some 121, op := Go.Op.fieldAddr 28 (Go.Operand.tmp 120) 3, type := 0, pos := "law.go:116", after := #[{ on := 9, ground := Go.Ground.data }, { on := 5, ground := Go.Ground.guard }], guard := some (5, true) }) (v := undef) rfl (by kernel_rfl) (by kernel_rfl) (by kernel_rfl) (fun _ _ _ h => h) (Or.inr ⟨by rfl, rfl⟩) hHeld ?_
              try simp only [Act.put, List.setIfInBounds_toArray, List.set_cons_zero, List.set_cons_succ]
              refine wpAnyH_take (i := 11) (oi := { dst := some 122, op := Go.Op.load 9 (Go.Operand.tmp 121), type := 9, pos := "law.go:116", after := #[{ on := 10, ground := Go.Ground.data }, { on := 5, ground := Go.Ground.guard }], guard := some (5, true) }) (v := undef) rfl (by kernel_rfl) (by kernel_rfl) (by kernel_rfl) (fun _ _ _ h => h) (Or.inr ⟨by rfl, rfl⟩) hHeld ?_
              try simp only [Act.put, List.setIfInBounds_toArray, List.set_cons_zero, List.set_cons_succ]
              refine wpAnyH_take (i := 12) (oi := { dst := some 123, op := Go.Op.call { callee := Go.Callee.builtin Go.Builtin.len, args := #[Go.Operand.tmp 122], argTypes := #[9] }, type := 3, pos := "law.go:116", after := #[{ on := 11, ground := Go.Ground.data }, { on := 5, ground := Go.Ground.guard }], guard := some (5, true) }) (v := undef) rfl (by kernel_rfl) (by kernel_rfl) (by kernel_rfl) (fun _ _ _ h => h) (Or.inr ⟨by rfl, rfl⟩) hHeld ?_
              try simp only [Act.put, List.setIfInBounds_toArray, List.set_cons_zero, List.set_cons_succ]
              refine wpAnyH_take (i := 13) (oi := { dst := some 124, op := Go.Op.call { callee := Go.Callee.value (Go.Operand.func 18), args := #[Go.Operand.tmp 117, Go.Operand.tmp 123], argTypes := #[39, 3] }, type := 9, pos := "law.go:116", after := #[{ on := 6, ground := Go.Ground.data }, { on := 12, ground := Go.Ground.data }, { on := 5, ground := Go.Ground.chain }, { on := 5, ground := Go.Ground.guard }], guard := some (5, true) }) (v := undef) rfl (by kernel_rfl) (by kernel_rfl) (by kernel_rfl) (fun _ _ _ h => h) (Or.inr ⟨by rfl, rfl⟩) hHeld ?_
              try simp only [Act.put, List.setIfInBounds_toArray, List.set_cons_zero, List.set_cons_succ]
              refine wpAnyH_take (i := 14) (oi := { dst := some 125, op := Go.Op.move (Go.Operand.tmp 4), type := 22, pos := "law.go:116", after := #[{ on := 5, ground := Go.Ground.guard }], guard := some (5, true) }) (v := undef) rfl (by kernel_rfl) (by kernel_rfl) (by kernel_rfl) (fun _ _ _ h => h) (Or.inr ⟨by rfl, rfl⟩) hHeld ?_
              try simp only [Act.put, List.setIfInBounds_toArray, List.set_cons_zero, List.set_cons_succ]
              refine wpAnyH_take (i := 15) (oi := { dst := some 126, op := Go.Op.move (Go.Operand.tmp 8), type := 3, pos := "law.go:116", after := #[{ on := 5, ground := Go.Ground.guard }], guard := some (5, true) }) (v := undef) rfl (by kernel_rfl) (by kernel_rfl) (by kernel_rfl) (fun _ _ _ h => h) (Or.inr ⟨by rfl, rfl⟩) hHeld ?_
              try simp only [Act.put, List.setIfInBounds_toArray, List.set_cons_zero, List.set_cons_succ]
              refine wpAnyH_take (i := 16) (oi := { dst := some 127, op := Go.Op.indexAddr 22 (Go.Operand.tmp 125) (Go.Operand.tmp 126), type := 0, pos := "law.go:116", after := #[{ on := 14, ground := Go.Ground.data }, { on := 15, ground := Go.Ground.data }, { on := 5, ground := Go.Ground.guard }], guard := some (5, true) }) (v := undef) rfl (by kernel_rfl) (by kernel_rfl) (by kernel_rfl) (fun _ _ _ h => h) (Or.inr ⟨by rfl, rfl⟩) hHeld ?_
              try simp only [Act.put, List.setIfInBounds_toArray, List.set_cons_zero, List.set_cons_succ]
              refine wpAnyH_take (i := 17) (oi := { dst := some 128, op := Go.Op.fieldAddr 28 (Go.Operand.tmp 127) 3, type := 0, pos := "law.go:116", after := #[{ on := 16, ground := Go.Ground.data }, { on := 5, ground := Go.Ground.guard }], guard := some (5, true) }) (v := undef) rfl (by kernel_rfl) (by kernel_rfl) (by kernel_rfl) (fun _ _ _ h => h) (Or.inr ⟨by rfl, rfl⟩) hHeld ?_
              try simp only [Act.put, List.setIfInBounds_toArray, List.set_cons_zero, List.set_cons_succ]
              refine wpAnyH_take (i := 18) (oi := { dst := some 129, op := Go.Op.load 9 (Go.Operand.tmp 128), type := 9, pos := "law.go:116", after := #[{ on := 17, ground := Go.Ground.data }, { on := 5, ground := Go.Ground.guard }], guard := some (5, true) }) (v := undef) rfl (by kernel_rfl) (by kernel_rfl) (by kernel_rfl) (fun _ _ _ h => h) (Or.inr ⟨by rfl, rfl⟩) hHeld ?_
              try simp only [Act.put, List.setIfInBounds_toArray, List.set_cons_zero, List.set_cons_succ]
              refine wpAnyH_take (i := 19) (oi := { dst := some 130, op := Go.Op.binOp Go.BinOp.neq 9 (Go.Operand.tmp 124) (Go.Operand.tmp 129) 9, type := 4, pos := "law.go:116", after := #[{ on := 13, ground := Go.Ground.data }, { on := 18, ground := Go.Ground.data }, { on := 5, ground := Go.Ground.guard }], guard := some (5, true) }) (v := undef) rfl (by kernel_rfl) (by kernel_rfl) (by kernel_rfl) (fun _ _ _ h => h) (Or.inr ⟨by rfl, rfl⟩) hHeld ?_
              try simp only [Act.put, List.setIfInBounds_toArray, List.set_cons_zero, List.set_cons_succ]
              refine wpAnyH_take (i := 20) (oi := { dst := some 131, op := Go.Op.pick (Go.Operand.tmp 116) (Go.Operand.tmp 130) (Go.Operand.const (Go.Value.bool false)), type := 4, pos := "law.go:116", after := #[{ on := 5, ground := Go.Ground.data }, { on := 19, ground := Go.Ground.data }], guard := none }) (v := ?_) rfl (by kernel_rfl) (by kernel_rfl) (by kernel_rfl) (fun _ _ _ h => h) (Or.inl ⟨by rfl, ?_⟩) hHeld ?_
              rotate_left 1
              · (intro wx hSw; obtain ⟨q0, q1, q2, q3⟩ := hSw; go_simp; try with_reducible rfl)
              try simp only [Act.put, List.setIfInBounds_toArray, List.set_cons_zero, List.set_cons_succ]
              refine wpAnyH_take (i := 21) (oi := { dst := some 132, op := Go.Op.move (Go.Operand.tmp 131), type := 4, pos := "law.go:116", after := #[{ on := 20, ground := Go.Ground.data }, { on := 13, ground := Go.Ground.chain }], guard := none }) (v := ?_) rfl (by kernel_rfl) (by kernel_rfl) (by kernel_rfl) (fun _ _ _ h => h) (Or.inl ⟨by rfl, ?_⟩) hHeld ?_
              rotate_left 1
              · (intro wx hSw; obtain ⟨q0, q1, q2, q3⟩ := hSw; go_simp; try with_reducible rfl)
              try simp only [Act.put, List.setIfInBounds_toArray, List.set_cons_zero, List.set_cons_succ]
              refine wpAnyH_take (i := 22) (oi := { dst := some 133, op := Go.Op.move (Go.Operand.tmp 4), type := 22, pos := "law.go:116", after := #[{ on := 21, ground := Go.Ground.guard }], guard := some (21, false) }) (v := ?_) rfl (by kernel_rfl) (by kernel_rfl) (by kernel_rfl) (fun _ _ _ h => h) (Or.inl ⟨by rfl, ?_⟩) hHeld ?_
              rotate_left 1
              · (intro wx hSw; obtain ⟨q0, q1, q2, q3⟩ := hSw; go_simp; try with_reducible rfl)
              try simp only [Act.put, List.setIfInBounds_toArray, List.set_cons_zero, List.set_cons_succ]
              refine wpAnyH_take (i := 23) (oi := { dst := some 134, op := Go.Op.move (Go.Operand.tmp 8), type := 3, pos := "law.go:116", after := #[{ on := 21, ground := Go.Ground.guard }], guard := some (21, false) }) (v := ?_) rfl (by kernel_rfl) (by kernel_rfl) (by kernel_rfl) (fun _ _ _ h => h) (Or.inl ⟨by rfl, ?_⟩) hHeld ?_
              rotate_left 1
              · (intro wx hSw; obtain ⟨q0, q1, q2, q3⟩ := hSw; go_simp; try with_reducible rfl)
              try simp only [Act.put, List.setIfInBounds_toArray, List.set_cons_zero, List.set_cons_succ]
              refine wpAnyH_take (i := 24) (oi := { dst := some 135, op := Go.Op.indexAddr 22 (Go.Operand.tmp 133) (Go.Operand.tmp 134), type := 0, pos := "law.go:116", after := #[{ on := 22, ground := Go.Ground.data }, { on := 23, ground := Go.Ground.data }, { on := 21, ground := Go.Ground.guard }], guard := some (21, false) }) (v := ?_) rfl (by kernel_rfl) (by kernel_rfl) (by kernel_rfl) (fun _ _ _ h => h) (Or.inl ⟨by rfl, ?_⟩) hHeld ?_
              rotate_left 1
              · (intro wx hSw; obtain ⟨q0, q1, q2, q3⟩ := hSw; go_simp; try with_reducible rfl)
              try simp only [Act.put, List.setIfInBounds_toArray, List.set_cons_zero, List.set_cons_succ]
              refine wpAnyH_take (i := 25) (oi := { dst := some 136, op := Go.Op.fieldAddr 28 (Go.Operand.tmp 135) 0, type := 0, pos := "law.go:116", after := #[{ on := 24, ground := Go.Ground.data }, { on := 21, ground := Go.Ground.guard }], guard := some (21, false) }) (v := ?_) rfl (by kernel_rfl) (by kernel_rfl) (by kernel_rfl) (fun _ _ _ h => h) (Or.inl ⟨by rfl, ?_⟩) hHeld ?_
              rotate_left 1
              · (intro wx hSw; obtain ⟨q0, q1, q2, q3⟩ := hSw; go_simp; try with_reducible rfl)
              try simp only [Act.put, List.setIfInBounds_toArray, List.set_cons_zero, List.set_cons_succ]
              refine wpAnyH_take (i := 26) (oi := { dst := some 137, op := Go.Op.load 4 (Go.Operand.tmp 136), type := 4, pos := "law.go:116", after := #[{ on := 25, ground := Go.Ground.data }, { on := 21, ground := Go.Ground.guard }], guard := some (21, false) }) (v := ?_) rfl (by kernel_rfl) (by kernel_rfl) (by kernel_rfl) (fun _ _ _ h => h) (Or.inl ⟨by rfl, ?_⟩) hHeld ?_
              rotate_left 1
              · (intro wx hSw; obtain ⟨q0, q1, q2, q3⟩ := hSw; go_simp; try with_reducible rfl)
              try simp only [Act.put, List.setIfInBounds_toArray, List.set_cons_zero, List.set_cons_succ]
              refine wpAnyH_take (i := 27) (oi := { dst := some 138, op := Go.Op.unOp Go.UnOp.not 4 (Go.Operand.tmp 137), type := 4, pos := "law.go:116", after := #[{ on := 26, ground := Go.Ground.data }, { on := 21, ground := Go.Ground.guard }], guard := some (21, false) }) (v := ?_) rfl (by kernel_rfl) (by kernel_rfl) (by kernel_rfl) (fun _ _ _ h => h) (Or.inl ⟨by rfl, ?_⟩) hHeld ?_
              rotate_left 1
              · (intro wx hSw; obtain ⟨q0, q1, q2, q3⟩ := hSw; go_simp; try with_reducible rfl)
              try simp only [Act.put, List.setIfInBounds_toArray, List.set_cons_zero, List.set_cons_succ]
              refine wpAnyH_take (i := 28) (oi := { dst := some 139, op := Go.Op.move (Go.Operand.tmp 138), type := 4, pos := "law.go:116", after := #[{ on := 27, ground := Go.Ground.data }, { on := 21, ground := Go.Ground.chain }, { on := 21, ground := Go.Ground.guard }], guard := some (21, false) }) (v := ?_) rfl (by kernel_rfl) (by kernel_rfl) (by kernel_rfl) (fun _ _ _ h => h) (Or.inl ⟨by rfl, ?_⟩) hHeld ?_
              rotate_left 1
              · (intro wx hSw; obtain ⟨q0, q1, q2, q3⟩ := hSw; go_simp; try with_reducible rfl)
              try simp only [Act.put, List.setIfInBounds_toArray, List.set_cons_zero, List.set_cons_succ]
              refine wpAnyH_take (i := 29) (oi := { dst := some 140, op := Go.Op.move (Go.Operand.tmp 7), type := 39, pos := "law.go:116", after := #[{ on := 28, ground := Go.Ground.guard }], guard := some (28, true) }) (v := ?_) rfl (by kernel_rfl) (by kernel_rfl) (by kernel_rfl) (fun _ _ _ h => h) (Or.inl ⟨by rfl, ?_⟩) hHeld ?_
              rotate_left 1
              · (intro wx hSw; obtain ⟨q0, q1, q2, q3⟩ := hSw; go_simp; try with_reducible rfl)
              try simp only [Act.put, List.setIfInBounds_toArray, List.set_cons_zero, List.set_cons_succ]
              refine wpAnyH_take (i := 30) (oi := { dst := some 141, op := Go.Op.move (Go.Operand.tmp 4), type := 22, pos := "law.go:116", after := #[{ on := 28, ground := Go.Ground.guard }], guard := some (28, true) }) (v := ?_) rfl (by kernel_rfl) (by kernel_rfl) (by kernel_rfl) (fun _ _ _ h => h) (Or.inl ⟨by rfl, ?_⟩) hHeld ?_
              rotate_left 1
              · (intro wx hSw; obtain ⟨q0, q1, q2, q3⟩ := hSw; go_simp; try with_reducible rfl)
              try simp only [Act.put, List.setIfInBounds_toArray, List.set_cons_zero, List.set_cons_succ]
              refine wpAnyH_take (i := 31) (oi := { dst := some 142, op := Go.Op.move (Go.Operand.tmp 8), type := 3, pos := "law.go:116", after := #[{ on := 28, ground := Go.Ground.guard }], guard := some (28, true) }) (v := ?_) rfl (by kernel_rfl) (by kernel_rfl) (by kernel_rfl) (fun _ _ _ h => h) (Or.inl ⟨by rfl, ?_⟩) hHeld ?_
              rotate_left 1
              · (intro wx hSw; obtain ⟨q0, q1, q2, q3⟩ := hSw; go_simp; try with_reducible rfl)
              try simp only [Act.put, List.setIfInBounds_toArray, List.set_cons_zero, List.set_cons_succ]
              refine wpAnyH_take (i := 32) (oi := { dst := some 143, op := Go.Op.indexAddr 22 (Go.Operand.tmp 141) (Go.Operand.tmp 142), type := 0, pos := "law.go:116", after := #[{ on := 30, ground := Go.Ground.data }, { on := 31, ground := Go.Ground.data }, { on := 28, ground := Go.Ground.guard }], guard := some (28, true) }) (v := ?_) rfl (by kernel_rfl) (by kernel_rfl) (by kernel_rfl) (fun _ _ _ h => h) (Or.inl ⟨by rfl, ?_⟩) hHeld ?_
              rotate_left 1
              · (intro wx hSw; obtain ⟨q0, q1, q2, q3⟩ := hSw; go_simp; try with_reducible rfl)
              try simp only [Act.put, List.setIfInBounds_toArray, List.set_cons_zero, List.set_cons_succ]
              refine wpAnyH_take (i := 33) (oi := { dst := some 144, op := Go.Op.fieldAddr 28 (Go.Operand.tmp 143) 2, type := 0, pos := "law.go:116", after := #[{ on := 32, ground := Go.Ground.data }, { on := 28, ground := Go.Ground.guard }], guard := some (28, true) }) (v := ?_) rfl (by kernel_rfl) (by kernel_rfl) (by kernel_rfl) (fun _ _ _ h => h) (Or.inl ⟨by rfl, ?_⟩) hHeld ?_
              rotate_left 1
              · (intro wx hSw; obtain ⟨q0, q1, q2, q3⟩ := hSw; go_simp; try with_reducible rfl)
              try simp only [Act.put, List.setIfInBounds_toArray, List.set_cons_zero, List.set_cons_succ]
              refine wpAnyH_take (i := 34) (oi := { dst := some 145, op := Go.Op.load 3 (Go.Operand.tmp 144), type := 3, pos := "law.go:116", after := #[{ on := 33, ground := Go.Ground.data }, { on := 28, ground := Go.Ground.guard }], guard := some (28, true) }) (v := ?_) rfl (by kernel_rfl) (by kernel_rfl) (by kernel_rfl) (fun _ _ _ h => h) (Or.inl ⟨by rfl, ?_⟩) hHeld ?_
              rotate_left 1
              · (intro wx hSw; obtain ⟨q0, q1, q2, q3⟩ := hSw; go_simp; try with_reducible rfl)
              try simp only [Act.put, List.setIfInBounds_toArray, List.set_cons_zero, List.set_cons_succ]
              refine wpAnyH_take (i := 36) (oi := { dst := some 147, op := Go.Op.move (Go.Operand.tmp 4), type := 22, pos := "law.go:116", after := #[{ on := 28, ground := Go.Ground.guard }], guard := some (28, true) }) (v := ?_) rfl (by kernel_rfl) (by kernel_rfl) (by kernel_rfl) (fun _ _ _ h => h) (Or.inl ⟨by rfl, ?_⟩) hHeld ?_
              rotate_left 1
              · (intro wx hSw; obtain ⟨q0, q1, q2, q3⟩ := hSw; go_simp; try with_reducible rfl)
              try simp only [Act.put, List.setIfInBounds_toArray, List.set_cons_zero, List.set_cons_succ]
              refine wpAnyH_take (i := 37) (oi := { dst := some 148, op := Go.Op.move (Go.Operand.tmp 8), type := 3, pos := "law.go:116", after := #[{ on := 28, ground := Go.Ground.guard }], guard := some (28, true) }) (v := ?_) rfl (by kernel_rfl) (by kernel_rfl) (by kernel_rfl) (fun _ _ _ h => h) (Or.inl ⟨by rfl, ?_⟩) hHeld ?_
              rotate_left 1
              · (intro wx hSw; obtain ⟨q0, q1, q2, q3⟩ := hSw; go_simp; try with_reducible rfl)
              try simp only [Act.put, List.setIfInBounds_toArray, List.set_cons_zero, List.set_cons_succ]
              refine wpAnyH_take (i := 38) (oi := { dst := some 149, op := Go.Op.indexAddr 22 (Go.Operand.tmp 147) (Go.Operand.tmp 148), type := 0, pos := "law.go:116", after := #[{ on := 36, ground := Go.Ground.data }, { on := 37, ground := Go.Ground.data }, { on := 28, ground := Go.Ground.guard }], guard := some (28, true) }) (v := ?_) rfl (by kernel_rfl) (by kernel_rfl) (by kernel_rfl) (fun _ _ _ h => h) (Or.inl ⟨by rfl, ?_⟩) hHeld ?_
              rotate_left 1
              · (intro wx hSw; obtain ⟨q0, q1, q2, q3⟩ := hSw; go_simp; try with_reducible rfl)
              try simp only [Act.put, List.setIfInBounds_toArray, List.set_cons_zero, List.set_cons_succ]
              refine wpAnyH_take (i := 39) (oi := { dst := some 150, op := Go.Op.fieldAddr 28 (Go.Operand.tmp 149) 1, type := 0, pos := "law.go:116", after := #[{ on := 38, ground := Go.Ground.data }, { on := 28, ground := Go.Ground.guard }], guard := some (28, true) }) (v := ?_) rfl (by kernel_rfl) (by kernel_rfl) (by kernel_rfl) (fun _ _ _ h => h) (Or.inl ⟨by rfl, ?_⟩) hHeld ?_
              rotate_left 1
              · (intro wx hSw; obtain ⟨q0, q1, q2, q3⟩ := hSw; go_simp; try with_reducible rfl)
              try simp only [Act.put, List.setIfInBounds_toArray, List.set_cons_zero, List.set_cons_succ]
              refine wpAnyH_take (i := 40) (oi := { dst := some 151, op := Go.Op.load 26 (Go.Operand.tmp 150), type := 26, pos := "law.go:116", after := #[{ on := 39, ground := Go.Ground.data }, { on := 28, ground := Go.Ground.guard }], guard := some (28, true) }) (v := ?_) rfl (by kernel_rfl) (by kernel_rfl) (by kernel_rfl) (fun _ _ _ h => h) (Or.inl ⟨by rfl, ?_⟩) hHeld ?_
              rotate_left 1
              · (intro wx hSw; obtain ⟨q0, q1, q2, q3⟩ := hSw; go_simp; try with_reducible rfl)
              try simp only [Act.put, List.setIfInBounds_toArray, List.set_cons_zero, List.set_cons_succ]
              refine wpAnyH_ready (rs := [35]) (by kernel_rfl) (by simp) ?_
              refine AllReadyH.cons (o := { dst := some 146, op := Go.Op.call { callee := Go.Callee.value (Go.Operand.func 20), args := #[Go.Operand.tmp 140, Go.Operand.tmp 145], argTypes := #[39, 3] }, type := 26, pos := "law.go:116", after := #[{ on := 29, ground := Go.Ground.data }, { on := 34, ground := Go.Ground.data }, { on := 28, ground := Go.Ground.chain }, { on := 28, ground := Go.Ground.guard }], guard := some (28, true) }) rfl (fun K hK => ?_) AllReadyH.nil
              go_simp
              (go_at_call 20; refine (read_num _ _ _ r _ _ (by exact HR.out) (by omega) (HK.out.1 rfl) HK.out.2.1 HK.out.2.2.1 _ (by exact HC.out)).mono ?_; rintro e w1 ⟨rfl, ho, hc⟩; go_wp2_with fail)
              refine hK.out _ _ (RowS.cur hHeld ho (Nat.ne_of_lt hgc)) (fun hHeld => ?_)
              clear hK K
              try simp only [Act.put, List.setIfInBounds_toArray, List.set_cons_zero, List.set_cons_succ]
              refine wpAnyH_take (i := 41) (oi := { dst := some 152, op := Go.Op.binOp Go.BinOp.neq 26 (Go.Operand.tmp 146) (Go.Operand.tmp 151) 26, type := 4, pos := "law.go:116", after := #[{ on := 35, ground := Go.Ground.data }, { on := 40, ground := Go.Ground.data }, { on := 28, ground := Go.Ground.guard }], guard := some (28, true) }) (v := ?_) rfl (by kernel_rfl) (by kernel_rfl) (by kernel_rfl) (fun _ _ _ h => h) (Or.inl ⟨by rfl, ?_⟩) hHeld ?_
              rotate_left 1
              · (intro wx hSw; obtain ⟨q0, q1, q2, q3⟩ := hSw; go_simp; try with_reducible rfl)
              try simp only [Act.put, List.setIfInBounds_toArray, List.set_cons_zero, List.set_cons_succ]
              refine wpAnyH_take (i := 42) (oi := { dst := some 153, op := Go.Op.pick (Go.Operand.tmp 139) (Go.Operand.tmp 152) (Go.Operand.const (Go.Value.bool false)), type := 4, pos := "law.go:116", after := #[{ on := 28, ground := Go.Ground.data }, { on := 41, ground := Go.Ground.data }, { on := 21, ground := Go.Ground.guard }], guard := some (21, false) }) (v := ?_) rfl (by kernel_rfl) (by kernel_rfl) (by kernel_rfl) (fun _ _ _ h => h) (Or.inl ⟨by rfl, ?_⟩) hHeld ?_
              rotate_left 1
              · (intro wx hSw; obtain ⟨q0, q1, q2, q3⟩ := hSw; go_simp; try with_reducible rfl)
              try simp only [Act.put, List.setIfInBounds_toArray, List.set_cons_zero, List.set_cons_succ]
              refine wpAnyH_take (i := 43) (oi := { dst := some 154, op := Go.Op.pick (Go.Operand.tmp 132) (Go.Operand.const (Go.Value.bool true)) (Go.Operand.tmp 153), type := 4, pos := "law.go:116", after := #[{ on := 21, ground := Go.Ground.data }, { on := 42, ground := Go.Ground.data }], guard := none }) (v := ?_) rfl (by kernel_rfl) (by kernel_rfl) (by kernel_rfl) (fun _ _ _ h => h) (Or.inl ⟨by rfl, ?_⟩) hHeld ?_
              rotate_left 1
              · (intro wx hSw; obtain ⟨q0, q1, q2, q3⟩ := hSw; go_simp; try with_reducible rfl)
              try simp only [Act.put, List.setIfInBounds_toArray, List.set_cons_zero, List.set_cons_succ]
              refine wpAnyH_done (by kernel_rfl) ?_ _
              have HC1 := Lib.hid hc
              have HT2 := Lib.hid (HT.out.drew.cur ho hgw HVK.out HUK.out)
              clear ho hc hHeld d0 d1 d2 d3
              go_wp2_with (fail)
              go_roundw
              case rel => exact ⟨j + 1, by omega, by go_num, (by rw [HT1.out]; exact HC1.out), HT2⟩
              case measure => simp [intOf]; omega
          · obtain rfl : j = ps.length := by omega
            have HD := Lib.hid (cur_all ps S _ _ HE.out HC.out)
            obtain ⟨ua, uc, rfl⟩ := row_shape HT.out.row
            have HDE := Lib.hid (done_end S)
            go_wp2_with (first
              | (go_at_call 23; refine (done_full _ _ _ HD.out).mono ?_; rintro e w3 ⟨rfl, m, rfl⟩)
              | (go_at_call 21; refine (at_any _ _ _ _ _ (cur_drewN HD.out _)).mono ?_; rintro e w3 ⟨rfl, rfl⟩)
              | (go_at_call 12; refine (len_any _ _ _ _ (HT.out.drewN _).buf).mono ?_; rintro e w3 ⟨rfl, rfl⟩)
              | (go_at_call 7; refine (awake2_any _).mono ?_; rintro e w3 ⟨rfl, hb⟩))
            go_ret
            exact ⟨rfl, below_step (HT.out.drewN _).below hb⟩
end Go.Proofs.Ytgiaidoaadjfkaa
