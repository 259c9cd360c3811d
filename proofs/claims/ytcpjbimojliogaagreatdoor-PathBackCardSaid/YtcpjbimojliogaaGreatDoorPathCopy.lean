/- Contract of path.copied: a value's copy shares no memory with it. -/
import Derived.Test.YtcpjbimojliogaaGreatDoorValPlace
import Derived.Test.YtcpjbimojliogaaGreatDoorShelfC
namespace Go.Proofs.YtcpjbimojliogaaGreatDoor
open Go.RowKit
set_option linter.unusedVariables false
theorem clone12_any (s : ByteArray) (w : World) (hs : s.size ≤ 281474976710656) : Calls Tryz.prog 60 #[.string s] w fun e w' => e = .returned (.string s) ∧ Below w.heap.size w w' := by
  go_enter Tryz.func60, Tryz.ntmps60
  go_wp2_with (go_at_call 94; refine (Tryz.stringslite_Clone s _ hs).mono ?_; rintro e w1 ⟨rfl, hb⟩)
  go_ret
  exact ⟨rfl, hb⟩
theorem set_id {w : World} {b i : Nat} {cs : Array Value} {t : TypeId} {fr : Nat × Nat} {v : Value} (h : w.heap[b]? = some (.cells cs t fr)) (hv : cs[i]? = some v) : w.setCell ⟨b, i, none⟩ v = w := by
  obtain ⟨hp, tp, dr, os, out⟩ := w
  unfold World.setCell
  congr 1
  refine Array.ext_getElem? fun k => ?_
  rw [Array.getElem?_modify]
  split
  · rename_i e
    subst e
    have h' : hp[b]? = some (.cells cs t fr) := h
    rw [h']
    simp only [Option.map_some, Option.isSome_none, Bool.false_eq_true, if_false]
    congr 2
    refine Array.ext_getElem? fun m => ?_
    rw [Array.getElem?_setIfInBounds]
    split
    · rename_i e
      subst e
      split
      · exact hv.symm
      · rename_i hl
        rw [Array.getElem?_eq_none (by omega)] at hv
        cases hv
    · rfl
  · rfl
def PCopyTo (T : VT) (w : World) : Prop := Calls Tryz.prog 39 #[.agg #[.int .i64 T.kind, .int .u64 T.num, .string T.text, .slice T.ia T.len T.cap]] w fun e w' => ∃ U : VT, e = .returned (.agg #[.int .i64 U.kind, .int .u64 U.num, .string U.text, .slice U.ia U.len U.cap]) ∧ sameT T U = true ∧ ValAt w' (fun b => w.heap.size ≤ b) U ∧ Below w.heap.size w w'
set_option maxRecDepth 20000 in
set_option maxHeartbeats 4000000 in
theorem copied12_step (S : Nat → Prop) (T : VT) (ih : ∀ i, i < T.len → ∀ w, ValAt w S (T.kid i) → PCopyTo (T.kid i) w) (w : World) (H : ValAt w S T) : PCopyTo T w := by
  have hlen := val_len H
  have hwf := ((valAt_iff T).1 H).1
  have hW0 : Below w.heap.size w ((w.alloc (valO T)).alloc zeroO) := ((Below.refl w.heap.size w).alloc (Nat.le_refl _) _).alloc (by simp) _
  have es : ((w.alloc (valO T)).alloc zeroO).heap.size = w.heap.size + 2 := by simp
  have HCl := Lib.hid (fun wx (hb : Below (w.heap.size + 2) ((w.alloc (valO T)).alloc zeroO) wx) => clone8_any S T wx (H.next (hW0.trans (hb.mono (by omega)))))
  have HH := Lib.hid (fun i (hi : i < T.len) wx (hb : Below w.heap.size w wx) => ih i hi wx (kids_at H hb hi).2)
  have HW := Lib.hid hwf
  have HQ := Lib.hid (show ((w.alloc (valO T)).alloc zeroO).heap[w.heap.size]? = some (valO T) from alloc_old (alloc_at w _))
  have HST := Lib.hid (fun ao cap w1 hb hr => cp_start T w w1 ao cap hb hr)
  have HSC := Lib.hid (fun wx => clone12_any T.text wx (by have := val_text H; omega))
  obtain ⟨N, hN⟩ : ∃ N, w.heap.size = N := ⟨_, rfl⟩
  have HNN := Lib.hid hN
  unfold valO zeroO at HCl HQ
  clear ih H hW0 es hN hwf
  unfold PCopyTo
  go_enter Tryz.func39, Tryz.ntmps39
  go_upto_region 2 with (first
    | (go_at_call 60; refine (HSC.out _).mono ?_; rintro e w0 ⟨rfl, hb0⟩; have hb0' : Below (w.heap.size + 2) _ w0 := hb0.mono (by simp); have HB0 := Lib.hid hb0'; have hbx := (hb0'.block w.heap.size (by omega)).trans HQ.out; have HX0 := Lib.hid hbx; have c2 : w0.cell? ⟨w.heap.size, 2, none⟩ = some (.string T.text) := cell_at hbx rfl; have f2 := free_at (j := 2) hbx; clear hbx hb0 hb0'))
  rw [set_id HX0.out rfl]
  have c3 : w0.cell? ⟨w.heap.size, 3, none⟩ = some (.slice T.ia T.len T.cap) := cell_at HX0.out rfl
  clear c2 f2
  go_wp2_with (first
    | (go_at_call 61; refine (HCl.out _ HB0.out).mono ?_; rintro e w1 ⟨ao, cap, rfl, hrow, hb1⟩; have hbs1 := hb1.mono (show w.heap.size + 2 ≤ w0.heap.size by have := HB0.out.size; simp at this; omega); have HX1 := Lib.hid ((hbs1.block w.heap.size (by omega)).trans HX0.out); clear c3; have c3 : w1.cell? ⟨w.heap.size, 3, none⟩ = some (.slice T.ia T.len T.cap) := cell_at HX1.out rfl; have f3 := free_at (j := 3) HX1.out; have HS0 := Lib.hid (HST.out ao cap w1 (HB0.out.trans hbs1) (fun h0 => by obtain ⟨g, e, hg, hr⟩ := hrow h0; exact ⟨g, e, (by have := HB0.out.size; simp at this; omega), hr⟩)); clear hbs1 hb1 hrow))
  generalize w1.setCell ⟨w.heap.size, 3, none⟩ (.slice ao T.len cap) = w2 at *
  clear c3 f3 HCl HQ HST HSC HX0 HX1 HB0
  go_loopw [16] (fun i wr => ∃ j : Nat, j ≤ T.len ∧ i = .int .i64 j ∧ ∃ K : Nat → VT, Hid (CpSt T w.heap.size ao cap j K w wr)) (fun i _ => T.len - (intOf i).toNat)
  case atStart => exact ⟨0, Nat.zero_le _, rfl, _, HS0⟩
  case round =>
    obtain ⟨j, hj, rfl, K, HC⟩ := hrel
    by_cases hlt : j < T.len
    · obtain ⟨g, rfl, hg, hrow, hk⟩ := HC.out.row (by omega)
      obtain ⟨c0, c1, c2, c3, ff⟩ := hrow.cells hlt
      have e : mixK K T j j = T.kid j := by unfold mixK; rw [if_neg (by omega)]
      rw [e] at c0 c1 c2 c3
      have hrowlt := hrow.lt
      clear hrow hk e ff
      go_upto_region 6 with (fail)
      have hbr := HC.out.below.size
      obtain ⟨bm, hbm⟩ : ∃ bm, wr.heap.size = bm := ⟨_, rfl⟩
      have hb0 := (Below.refl wr.heap.size wr).alloc (Nat.le_refl _) (.cells #[.int .i64 (T.kid j).kind, .int .u64 (T.kid j).num, .string (T.kid j).text, .slice (T.kid j).ia (T.kid j).len (T.kid j).cap] 38)
      have HB0 := Lib.hid hb0
      have HBW := Lib.hid (HC.out.below.trans (hb0.mono hbr))
      have hqm := alloc_at wr (.cells #[.int .i64 (T.kid j).kind, .int .u64 (T.kid j).num, .string (T.kid j).text, .slice (T.kid j).ia (T.kid j).len (T.kid j).cap] 38)
      have hszb : (wr.alloc (.cells #[.int .i64 (T.kid j).kind, .int .u64 (T.kid j).num, .string (T.kid j).text, .slice (T.kid j).ia (T.kid j).len (T.kid j).cap] 38)).heap.size = wr.heap.size + 1 := by simp
      have HQB := Lib.hid (box_keep HC.out.box hb0)
      have HKID := Lib.hid (fun wx hb => HH.out j hlt wx hb)
      unfold PCopyTo at HKID
      rw [hbm] at hqm hszb hbr
      have HQM := Lib.hid hqm
      have hglt := hrowlt
      rw [hbm] at hglt
      rw [hbm]
      clear hqm hb0 c0 c1 c2 c3
      generalize (wr.alloc (.cells #[.int .i64 (T.kid j).kind, .int .u64 (T.kid j).num, .string (T.kid j).text, .slice (T.kid j).ia (T.kid j).len (T.kid j).cap] 38)) = wb at *
      have hNb : w.heap.size ≤ wb.heap.size := by omega
      have hHbm := Lib.hid hbm
      clear hbm
      refine wp_region_pre (by kernel_rfl) 6 100 (fun v => ((.agg #[.int .i64 T.kind, .int .u64 T.num, .string T.text, .slice T.ia T.len T.cap] : Value) :: (.pointer (some ⟨w.heap.size, 0, none⟩) : Value) :: (.pointer (some ⟨w.heap.size + 1, 0, none⟩) : Value) :: (.int .i64 (j : Nat) : Value) :: (.pointer (some ⟨bm, 0, none⟩) : Value) :: (.pointer (some ⟨w.heap.size, 2, none⟩) : Value) :: (.string T.text : Value) :: (.string T.text : Value) :: (.pointer (some ⟨w.heap.size, 2, none⟩) : Value) :: (.pointer (some ⟨w.heap.size, 3, none⟩) : Value) :: (.slice T.ia T.len T.cap : Value) :: (.slice (some ⟨g, 0, none⟩) T.len cap : Value) :: (.pointer (some ⟨w.heap.size, 3, none⟩) : Value) :: (.pointer (some ⟨w.heap.size, 3, none⟩) : Value) :: (.slice (some ⟨g, 0, none⟩) T.len cap : Value) :: (.int .i64 (T.len : Nat) : Value) :: (.int .i64 (j : Nat) : Value) :: (.bool true : Value) :: (.int .i64 (j : Nat) : Value) :: (.pointer (some ⟨g, j * 4, none⟩) : Value) :: (.agg #[.int .i64 (T.kid j).kind, .int .u64 (T.kid j).num, .string (T.kid j).text, .slice (T.kid j).ia (T.kid j).len (T.kid j).cap] : Value) :: v 0 :: v 1 :: v 2 :: v 3 :: v 4 :: v 5 :: u27 :: undef :: []).toArray) (fun j => [u21, u22, u23, u24, u25, u26].getD j undef) (COk w.heap.size g T.len cap j (T.kid j)) (fun w' => Below wb.heap.size wb w') (fun _ => True) (Nat.le_of_ble_eq_true (by kernel_rfl)) (by kernel_rfl) ((Below.refl _ _).drew) trivial (fun i hi v w1 hBx hPx hd => ?_) (fun v w1 hv hBx => ?_)
      · have b1 := box_keep HQB.out hBx
        have b2 := box_keep HQM.out hBx
        have y3 : w1.cell? ⟨w.heap.size, 3, none⟩ = some (.slice (some ⟨g, 0, none⟩) T.len cap) := cell_at b1 rfl
        have z0 : w1.cell? ⟨bm, 0, none⟩ = some (.int .i64 (T.kid j).kind) := cell_at b2 rfl
        have z1 : w1.cell? ⟨bm, 1, none⟩ = some (.int .u64 (T.kid j).num) := cell_at b2 rfl
        have z2 : w1.cell? ⟨bm, 2, none⟩ = some (.string (T.kid j).text) := cell_at b2 rfl
        have z3 : w1.cell? ⟨bm, 3, none⟩ = some (.slice (T.kid j).ia (T.kid j).len (T.kid j).cap) := cell_at b2 rfl
        clear b1 b2
        have hi6 : i = 0 ∨ i = 1 ∨ i = 2 ∨ i = 3 ∨ i = 4 ∨ i = 5 := by omega
        rcases hi6 with rfl | rfl | rfl | rfl | rfl | rfl
        · skip
          refine wpOp_step (o := _) rfl (fun K' hK => ?_)
          go_simp
          exact hK _ _ ⟨.pointer (some ⟨w.heap.size, 3, none⟩), rfl, rfl, hBx, fun _ h => h, fun k y _ h => h⟩
        · have e0 : v 0 = .pointer (some ⟨w.heap.size, 3, none⟩) := hd 0 (List.contains_iff_mem.1 (by kernel_rfl))
          refine wpOp_step (o := _) rfl (fun K' hK => ?_)
          go_simp
          exact hK _ _ ⟨.slice (some ⟨g, 0, none⟩) T.len cap, fr_eq8 (by simp [upd, e0]), rfl, hBx, fun _ h => h, fun k y _ h => h⟩
        · skip
          refine wpOp_step (o := _) rfl (fun K' hK => ?_)
          go_simp
          exact hK _ _ ⟨.int .i64 (j : Nat), rfl, rfl, hBx, fun _ h => h, fun k y _ h => h⟩
        · skip
          refine wpOp_step (o := _) rfl (fun K' hK => ?_)
          go_simp
          exact hK _ _ ⟨.agg #[.int .i64 (T.kid j).kind, .int .u64 (T.kid j).num, .string (T.kid j).text, .slice (T.kid j).ia (T.kid j).len (T.kid j).cap], rfl, rfl, hBx, fun _ h => h, fun k y _ h => h⟩
        · have e3 : v 3 = .agg #[.int .i64 (T.kid j).kind, .int .u64 (T.kid j).num, .string (T.kid j).text, .slice (T.kid j).ia (T.kid j).len (T.kid j).cap] := hd 3 (List.contains_iff_mem.1 (by kernel_rfl))
          refine wpOp_step (o := _) rfl (fun K' hK => ?_)
          go_simp
          have hsz := hBx.size
          refine (HKID.out w1 (HBW.out.trans (hBx.mono hNb))).mono ?_
          rintro e w3 ⟨U, rfl, hs, hv, hb3⟩
          exact hK _ _ ⟨_, fr_eq8 (by simp [upd, e3]), COk.four ⟨U, rfl, hs, hv.sub (fun b hb => by omega)⟩, hBx.trans (hb3.mono hsz), fun _ h => h, fun k y hk h => h.keep hk⟩
        · have e1 : v 1 = .slice (some ⟨g, 0, none⟩) T.len cap := hd 1 (List.contains_iff_mem.1 (by kernel_rfl)); have e2 : v 2 = .int .i64 (j : Nat) := hd 2 (List.contains_iff_mem.1 (by kernel_rfl))
          refine wpOp_step (o := _) rfl (fun K' hK => ?_)
          go_simp
          exact hK _ _ ⟨.pointer (some ⟨g, j * 4, none⟩), fr_eq8 (by simp [upd, e1, e2]), rfl, hBx, fun _ h => h, fun k y _ h => h⟩
      · have e0 : v 0 = .pointer (some ⟨w.heap.size, 3, none⟩) := hv 0 (by decide)
        have e1 : v 1 = .slice (some ⟨g, 0, none⟩) T.len cap := hv 1 (by decide)
        have e2 : v 2 = .int .i64 (j : Nat) := hv 2 (by decide)
        have e3 : v 3 = .agg #[.int .i64 (T.kid j).kind, .int .u64 (T.kid j).num, .string (T.kid j).text, .slice (T.kid j).ia (T.kid j).len (T.kid j).cap] := hv 3 (by decide)
        have e5 : v 5 = .pointer (some ⟨g, j * 4, none⟩) := hv 5 (by decide)
        obtain ⟨U, e4, hs, hvU⟩ : ∃ U : VT, v 4 = .agg #[.int .i64 U.kind, .int .u64 U.num, .string U.text, .slice U.ia U.len U.cap] ∧ sameT (T.kid j) U = true ∧ ValAt w1 (fun b => g < b) U := hv 4 (by decide)
        have hrw := HB0.out.trans (hBx.mono (by have := hHbm.out; omega))
        have HNX := Lib.hid (HC.out.step hlt hrw (Nat.le_refl _) hs hvU)
        obtain ⟨g', eg, _, hrow', _⟩ := HC.out.row (by omega)
        cases eg
        obtain ⟨s0, s1, s2, s3, sf⟩ := (hrow'.next hrw).cells hlt
        have f0 : w1.frozen? ⟨g, j * 4, none⟩ = false := sf 0
        have f1 : w1.frozen? ⟨g, j * 4 + 1, none⟩ = false := sf 1
        have f2 : w1.frozen? ⟨g, j * 4 + 2, none⟩ = false := sf 2
        have f3 : w1.frozen? ⟨g, j * 4 + 3, none⟩ = false := sf 3
        clear hv hrow' sf hBx hs hvU hrw
        refine wpAny_of_held (S := fun _ => True) _ _ _ _ ?_
        simp only [e0, e1, e2, e3, e4, e5]
        clear e0 e1 e2 e3 e4 e5
        refine wpAnyH_ready (fuel := 0) (rs := [6]) (by kernel_rfl) (by simp) ?_
        refine AllReadyH.cons (o := _) rfl (fun K hK => ?_) AllReadyH.nil
        go_simp
        refine hK.out _ _ trivial (fun _ => ?_)
        clear hK K s0 s1 s2 s3 f0 f1 f2 f3
        refine wpAnyH_done (by kernel_rfl) ?_ _
        go_wp2
        go_roundw
        case rel => exact ⟨j + 1, by omega, by go_num, _, HNX⟩
        case measure => simp [intOf]; omega
    · obtain rfl : j = T.len := by omega
      have hbx := HC.out.box
      have HR := Lib.hid HC.out.res
      obtain ⟨hsm, hva⟩ := HC.out.done HW.out
      have HBl := Lib.hid HC.out.below
      unfold boxO at hbx
      unfold zeroO at HR
      have d0 : wr.cell? ⟨w.heap.size, 0, none⟩ = some (.int .i64 T.kind) := cell_at hbx rfl
      have d1 : wr.cell? ⟨w.heap.size, 1, none⟩ = some (.int .u64 T.num) := cell_at hbx rfl
      have d2 : wr.cell? ⟨w.heap.size, 2, none⟩ = some (.string T.text) := cell_at hbx rfl
      have d3 : wr.cell? ⟨w.heap.size, 3, none⟩ = some (.slice ao T.len cap) := cell_at hbx rfl
      have HE := Lib.hid (show ∃ U : VT, (Ending.returned (.agg #[.int .i64 T.kind, .int .u64 T.num, .string T.text, .slice ao T.len cap]) = Ending.returned (.agg #[.int .i64 U.kind, .int .u64 U.num, .string U.text, .slice U.ia U.len U.cap])) ∧ sameT T U = true ∧ ValAt (wr.setRow (w.heap.size + 1) #[.int .i64 T.kind, .int .u64 T.num, .string T.text, .slice ao T.len cap]) (fun b => w.heap.size ≤ b) U ∧ Below w.heap.size w (wr.setRow (w.heap.size + 1) #[.int .i64 T.kind, .int .u64 T.num, .string T.text, .slice ao T.len cap]) from
        ⟨.node T.kind T.num T.text ao T.len cap K, rfl, hsm, ValAt.held_of (fun b h => by omega) (by simp [World.setRow]) (fun b h _ => setRow_other _ _ _ _ (by omega)) _ hva, below_setRow HBl.out (by omega) _⟩)
      clear hbx hsm hva HC
      go_wp2_with (refine wpList_store_rowTo rfl 38 _ _ rfl rfl (w.heap.size + 1) #[.int .i64 T.kind, .int .u64 T.num, .string T.text, .slice ao T.len cap] rfl rfl _ _ HR.out (by kernel_rfl) (by kernel_rfl) (by kernel_rfl) ?_)
      refine bodyPost_ret (v := .agg #[.int .i64 T.kind, .int .u64 T.num, .string T.text, .slice ao T.len cap]) ?_ rfl HE.out
      have hl := run_loadVar_row (P := Tryz.prog) _ (w.heap.size + 1) _ 38 _ _ _ (setRow_heap _ _ _ #[.int .i64 T.kind, .int .u64 T.num, .string T.text, .slice ao T.len cap] _ _ HR.out) Tryz.underlying38 rfl (by kernel_rfl)
      simp [results, Tryz.results39, asAddr]
      exact hl
theorem copied12_any (S : Nat → Prop) : ∀ (T : VT) (w : World), ValAt w S T → PCopyTo T w :=
  VT.ind fun T ih w H => copied12_step S T (fun i hi w' H' => ih i hi w' H') w H
end Go.Proofs.YtcpjbimojliogaaGreatDoor
