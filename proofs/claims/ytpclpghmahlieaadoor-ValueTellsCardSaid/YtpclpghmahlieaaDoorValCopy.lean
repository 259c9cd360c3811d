/- The walk of copied. -/
import Derived.Test.YtpclpghmahlieaaDoorValCopied
import Derived.Deep.RegionHeld3
import Derived.Deep.WholeRow
import Derived.Great.BuildSlice
import Derived.Laws.CopyOwn
import Derived.RegionTactic
namespace Go.Proofs.YtpclpghmahlieaaDoor
open Go.RowKit
set_option linter.unusedVariables false
def CCopyTo (T : VT) (w : World) : Prop := Calls Tryd.prog 18 #[.agg #[.int .i64 T.kind, .int .u64 T.num, .string T.text, .slice T.ia T.len T.cap]] w fun e w' => ∃ U : VT, e = .returned (.agg #[.int .i64 U.kind, .int .u64 U.num, .string U.text, .slice U.ia U.len U.cap]) ∧ sameT T U = true ∧ ValAt w' (fun b => w.heap.size ≤ b) U ∧ Below w.heap.size w w'
theorem cp_start (T : VT) (w w1 : World) (ao : Option Addr) (cap : Nat) (hb : Below (w.heap.size + 2) ((w.alloc (valO T)).alloc zeroO) w1) (hrow : 0 < T.len → ∃ g, ao = some ⟨g, 0, none⟩ ∧ w.heap.size + 2 ≤ g ∧ RowAt w1 g T.kid T.len) :
    CpSt T w.heap.size ao cap 0 T.kid w (w1.setCell ⟨w.heap.size, 3, none⟩ (.slice ao T.len cap)) := by
  have q1 : ((w.alloc (valO T)).alloc zeroO).heap[w.heap.size]? = some (valO T) := alloc_old (alloc_at w _)
  have q2 : ((w.alloc (valO T)).alloc zeroO).heap[w.heap.size + 1]? = some zeroO := by have := alloc_at (w.alloc (valO T)) zeroO; simpa using this
  have b1 : w1.heap[w.heap.size]? = some (valO T) := (hb.block _ (by omega)).trans q1
  have b2 : w1.heap[w.heap.size + 1]? = some zeroO := (hb.block _ (by omega)).trans q2
  have s1 := set_at (j := 3) (u := .slice ao T.len cap) b1
  refine ⟨by simpa [boxO] using s1, (set_other (by simp)).trans b2, ?_, fun h0 => ?_⟩
  · have h1 : Below w.heap.size w w1 := (((Below.refl w.heap.size w).alloc (Nat.le_refl _) (valO T)).alloc (by simp) zeroO).trans (hb.mono (by omega))
    exact h1.setCell (p := ⟨w.heap.size, 3, none⟩) (Nat.le_refl _) _
  · obtain ⟨g, e, hg, cur, h1, h2⟩ := hrow h0
    refine ⟨g, e, hg, ⟨cur, (set_other (by simp; omega)).trans h1, fun i hi => ?_⟩, fun i hi => absurd hi (Nat.not_lt_zero i)⟩
    have e : mixK T.kid T 0 i = T.kid i := by unfold mixK; rw [if_neg (by omega)]
    rw [e]; exact h2 i hi
/-- what is known of the region's values: the fifth is the copy -/
def COk (N g len cap j : Nat) (kid : VT) (k : Nat) (x : Value) (w : World) : Prop :=
  if k = 4 then ∃ U : VT, x = .agg #[.int .i64 U.kind, .int .u64 U.num, .string U.text, .slice U.ia U.len U.cap] ∧ sameT kid U = true ∧ ValAt w (fun b => g < b) U
  else x = [.pointer (some ⟨N, 3, none⟩), .slice (some ⟨g, 0, none⟩) len cap, .int .i64 (j : Nat), .agg #[.int .i64 kid.kind, .int .u64 kid.num, .string kid.text, .slice kid.ia kid.len kid.cap], undef, .pointer (some ⟨g, j * 4, none⟩)].getD k undef
theorem COk.four {N g len cap j : Nat} {kid : VT} {x : Value} {w : World} (h : ∃ U : VT, x = .agg #[.int .i64 U.kind, .int .u64 U.num, .string U.text, .slice U.ia U.len U.cap] ∧ sameT kid U = true ∧ ValAt w (fun b => g < b) U) : COk N g len cap j kid 4 x w := by
  unfold COk; rw [if_pos rfl]; exact h
theorem COk.keep {N g len cap j k : Nat} {kid : VT} {x : Value} {w w' : World} (h : COk N g len cap j kid k x w) (hk : k ≠ 4) : COk N g len cap j kid k x w' := by
  unfold COk at *; rw [if_neg hk] at *; exact h
theorem fr_eq8 {a b : List Value} (h : a = b) : (⟨a.toArray, []⟩ : Act) = ⟨b.toArray, []⟩ := by rw [h]
set_option maxRecDepth 20000 in
set_option maxHeartbeats 4000000 in
theorem copied_step (S : Nat → Prop) (T : VT) (ih : ∀ i, i < T.len → ∀ w, ValAt w S (T.kid i) → CCopyTo (T.kid i) w) (w : World) (H : ValAt w S T) : CCopyTo T w := by
  have hlen := val_len H
  have hwf := ((valAt_iff T).1 H).1
  have hW0 : Below w.heap.size w ((w.alloc (valO T)).alloc zeroO) := ((Below.refl w.heap.size w).alloc (Nat.le_refl _) _).alloc (by simp) _
  have es : ((w.alloc (valO T)).alloc zeroO).heap.size = w.heap.size + 2 := by simp
  have HCl := Lib.hid (clone_any S T _ (H.next hW0))
  rw [es] at HCl
  have HH := Lib.hid (fun i (hi : i < T.len) wx (hb : Below w.heap.size w wx) => ih i hi wx (kids_at H hb hi).2)
  have HW := Lib.hid hwf
  have HQ := Lib.hid (show ((w.alloc (valO T)).alloc zeroO).heap[w.heap.size]? = some (valO T) from alloc_old (alloc_at w _))
  have HST := Lib.hid (fun ao cap w1 hb hr => cp_start T w w1 ao cap hb hr)
  obtain ⟨N, hN⟩ : ∃ N, w.heap.size = N := ⟨_, rfl⟩
  have HNN := Lib.hid hN
  unfold valO zeroO at HCl HQ
  clear ih H hW0 es hN hwf
  unfold CCopyTo
  go_enter Tryd.func18, Tryd.ntmps18
  go_wp2_with (first
    | (go_at_call 26; refine (HCl.out).mono ?_; rintro e w1 ⟨ao, cap, rfl, hrow, hb1⟩; have hbx := (hb1.block w.heap.size (by omega)).trans HQ.out; have c3 : w1.cell? ⟨w.heap.size, 3, none⟩ = some (.slice T.ia T.len T.cap) := cell_at hbx rfl; have f3 := free_at (j := 3) hbx; have HS0 := Lib.hid (HST.out ao cap w1 hb1 hrow); clear hbx hb1 hrow))
  generalize w1.setCell ⟨w.heap.size, 3, none⟩ (.slice ao T.len cap) = w2 at *
  clear c3 f3 HCl HQ HST
  go_loopw [12] (fun i wr => ∃ j : Nat, j ≤ T.len ∧ i = .int .i64 j ∧ ∃ K : Nat → VT, Hid (CpSt T w.heap.size ao cap j K w wr)) (fun i _ => T.len - (intOf i).toNat)
  case atStart => exact ⟨0, Nat.zero_le _, rfl, _, HS0⟩
  case round =>
    obtain ⟨j, hj, rfl, K, HC⟩ := hrel
    by_cases hlt : j < T.len
    · obtain ⟨g, rfl, hg, hrow, hk⟩ := HC.out.row (by omega)
      obtain ⟨c0, c1, c2, c3, ff⟩ := hrow.cells hlt
      have e : mixK K T j j = T.kid j := by unfold mixK; rw [if_neg (by omega)]
      rw [e] at c0 c1 c2 c3
      have hrowlt := hrow.lt
      clear hrow hk e ff
      go_upto_region 5 with (fail)
      have hbr := HC.out.below.size
      obtain ⟨bm, hbm⟩ : ∃ bm, wr.heap.size = bm := ⟨_, rfl⟩
      have hb0 := (Below.refl wr.heap.size wr).alloc (Nat.le_refl _) (.cells #[.int .i64 (T.kid j).kind, .int .u64 (T.kid j).num, .string (T.kid j).text, .slice (T.kid j).ia (T.kid j).len (T.kid j).cap] 25)
      have HB0 := Lib.hid hb0
      have HBW := Lib.hid (HC.out.below.trans (hb0.mono hbr))
      have hqm := alloc_at wr (.cells #[.int .i64 (T.kid j).kind, .int .u64 (T.kid j).num, .string (T.kid j).text, .slice (T.kid j).ia (T.kid j).len (T.kid j).cap] 25)
      have hszb : (wr.alloc (.cells #[.int .i64 (T.kid j).kind, .int .u64 (T.kid j).num, .string (T.kid j).text, .slice (T.kid j).ia (T.kid j).len (T.kid j).cap] 25)).heap.size = wr.heap.size + 1 := by simp
      have HQB := Lib.hid (box_keep HC.out.box hb0)
      have HKID := Lib.hid (fun wx hb => HH.out j hlt wx hb)
      unfold CCopyTo at HKID
      rw [hbm] at hqm hszb hbr
      have HQM := Lib.hid hqm
      have hglt := hrowlt
      rw [hbm] at hglt
      rw [hbm]
      clear hqm hb0 c0 c1 c2 c3
      generalize (wr.alloc (.cells #[.int .i64 (T.kid j).kind, .int .u64 (T.kid j).num, .string (T.kid j).text, .slice (T.kid j).ia (T.kid j).len (T.kid j).cap] 25)) = wb at *
      have hNb : w.heap.size ≤ wb.heap.size := by omega
      have hHbm := Lib.hid hbm
      clear hbm
      refine wp_region_pre (by kernel_rfl) 6 100 (fun v => ((.agg #[.int .i64 T.kind, .int .u64 T.num, .string T.text, .slice T.ia T.len T.cap] : Value) :: (.pointer (some ⟨w.heap.size, 0, none⟩) : Value) :: (.pointer (some ⟨w.heap.size + 1, 0, none⟩) : Value) :: (.int .i64 (j : Nat) : Value) :: (.pointer (some ⟨bm, 0, none⟩) : Value) :: (.pointer (some ⟨w.heap.size, 3, none⟩) : Value) :: (.slice T.ia T.len T.cap : Value) :: (.slice (some ⟨g, 0, none⟩) T.len cap : Value) :: (.pointer (some ⟨w.heap.size, 3, none⟩) : Value) :: (.pointer (some ⟨w.heap.size, 3, none⟩) : Value) :: (.slice (some ⟨g, 0, none⟩) T.len cap : Value) :: (.int .i64 (T.len : Nat) : Value) :: (.int .i64 (j : Nat) : Value) :: (.bool true : Value) :: (.int .i64 (j : Nat) : Value) :: (.pointer (some ⟨g, j * 4, none⟩) : Value) :: (.agg #[.int .i64 (T.kid j).kind, .int .u64 (T.kid j).num, .string (T.kid j).text, .slice (T.kid j).ia (T.kid j).len (T.kid j).cap] : Value) :: v 0 :: v 1 :: v 2 :: v 3 :: v 4 :: v 5 :: u23 :: undef :: []).toArray) (fun j => [u17, u18, u19, u20, u21, u22].getD j undef) (COk w.heap.size g T.len cap j (T.kid j)) (fun w' => Below wb.heap.size wb w') (fun _ => True) (Nat.le_of_ble_eq_true (by kernel_rfl)) (by kernel_rfl) ((Below.refl _ _).drew) trivial (fun i hi v w1 hBx hPx hd => ?_) (fun v w1 hv hBx => ?_)
      · have b1 := box_keep HQB.out hBx
        have b2 := box_keep HQM.out hBx
        have y3 : w1.cell? ⟨w.heap.size, 3, none⟩ = some (.slice (some ⟨g, 0, none⟩) T.len cap) := cell_at b1 rfl
        have z0 : w1.cell? ⟨bm, 0, none⟩ = some (.int .i64 (T.kid j).kind) := cell_at b2 rfl
        have z1 : w1.cell? ⟨bm, 1, none⟩ = some (.int .u64 (T.kid j).num) := cell_at b2 rfl
        have z2 : w1.cell? ⟨bm, 2, none⟩ = some (.string (T.kid j).text) := cell_at b2 rfl
        have z3 : w1.cell? ⟨bm, 3, none⟩ = some (.slice (T.kid j).ia (T.kid j).len (T.kid j).cap) := cell_at b2 rfl
        clear b1 b2
        have hi6 : i = 0 ∨ i = 1 ∨ i = 2 ∨ i = 3 ∨ i = 4 ∨ i = 5 := by omega
        rcases hi6 with rfl | rfl | rfl | rfl | rfl | rfl
        · skip
          refine wpOp_step (o := _) rfl (fun K' hK => ?_)
          go_simp
          exact hK _ _ ⟨.pointer (some ⟨w.heap.size, 3, none⟩), rfl, rfl, hBx, fun _ h => h, fun k y _ h => h⟩
        · have e0 : v 0 = .pointer (some ⟨w.heap.size, 3, none⟩) := hd 0 (List.contains_iff_mem.1 (by kernel_rfl))
          refine wpOp_step (o := _) rfl (fun K' hK => ?_)
          go_simp
          exact hK _ _ ⟨.slice (some ⟨g, 0, none⟩) T.len cap, fr_eq8 (by simp [upd, e0]), rfl, hBx, fun _ h => h, fun k y _ h => h⟩
        · skip
          refine wpOp_step (o := _) rfl (fun K' hK => ?_)
          go_simp
          exact hK _ _ ⟨.int .i64 (j : Nat), rfl, rfl, hBx, fun _ h => h, fun k y _ h => h⟩
        · skip
          refine wpOp_step (o := _) rfl (fun K' hK => ?_)
          go_simp
          exact hK _ _ ⟨.agg #[.int .i64 (T.kid j).kind, .int .u64 (T.kid j).num, .string (T.kid j).text, .slice (T.kid j).ia (T.kid j).len (T.kid j).cap], rfl, rfl, hBx, fun _ h => h, fun k y _ h => h⟩
        · have e3 : v 3 = .agg #[.int .i64 (T.kid j).kind, .int .u64 (T.kid j).num, .string (T.kid j).text, .slice (T.kid j).ia (T.kid j).len (T.kid j).cap] := hd 3 (List.contains_iff_mem.1 (by kernel_rfl))
          refine wpOp_step (o := _) rfl (fun K' hK => ?_)
          go_simp
          have hsz := hBx.size
          refine (HKID.out w1 (HBW.out.trans (hBx.mono hNb))).mono ?_
          rintro e w3 ⟨U, rfl, hs, hv, hb3⟩
          exact hK _ _ ⟨_, fr_eq8 (by simp [upd, e3]), COk.four ⟨U, rfl, hs, hv.sub (fun b hb => by omega)⟩, hBx.trans (hb3.mono hsz), fun _ h => h, fun k y hk h => h.keep hk⟩
        · have e1 : v 1 = .slice (some ⟨g, 0, none⟩) T.len cap := hd 1 (List.contains_iff_mem.1 (by kernel_rfl)); have e2 : v 2 = .int .i64 (j : Nat) := hd 2 (List.contains_iff_mem.1 (by kernel_rfl))
          refine wpOp_step (o := _) rfl (fun K' hK => ?_)
          go_simp
          exact hK _ _ ⟨.pointer (some ⟨g, j * 4, none⟩), fr_eq8 (by simp [upd, e1, e2]), rfl, hBx, fun _ h => h, fun k y _ h => h⟩
      · have e0 : v 0 = .pointer (some ⟨w.heap.size, 3, none⟩) := hv 0 (by decide)
        have e1 : v 1 = .slice (some ⟨g, 0, none⟩) T.len cap := hv 1 (by decide)
        have e2 : v 2 = .int .i64 (j : Nat) := hv 2 (by decide)
        have e3 : v 3 = .agg #[.int .i64 (T.kid j).kind, .int .u64 (T.kid j).num, .string (T.kid j).text, .slice (T.kid j).ia (T.kid j).len (T.kid j).cap] := hv 3 (by decide)
        have e5 : v 5 = .pointer (some ⟨g, j * 4, none⟩) := hv 5 (by decide)
        obtain ⟨U, e4, hs, hvU⟩ : ∃ U : VT, v 4 = .agg #[.int .i64 U.kind, .int .u64 U.num, .string U.text, .slice U.ia U.len U.cap] ∧ sameT (T.kid j) U = true ∧ ValAt w1 (fun b => g < b) U := hv 4 (by decide)
        have hrw := HB0.out.trans (hBx.mono (by have := hHbm.out; omega))
        have HNX := Lib.hid (HC.out.step hlt hrw (Nat.le_refl _) hs hvU)
        obtain ⟨g', eg, _, hrow', _⟩ := HC.out.row (by omega)
        cases eg
        obtain ⟨s0, s1, s2, s3, sf⟩ := (hrow'.next hrw).cells hlt
        have f0 : w1.frozen? ⟨g, j * 4, none⟩ = false := sf 0
        have f1 : w1.frozen? ⟨g, j * 4 + 1, none⟩ = false := sf 1
        have f2 : w1.frozen? ⟨g, j * 4 + 2, none⟩ = false := sf 2
        have f3 : w1.frozen? ⟨g, j * 4 + 3, none⟩ = false := sf 3
        clear hv hrow' sf hBx hs hvU hrw
        refine wpAny_of_held (S := fun _ => True) _ _ _ _ ?_
        simp only [e0, e1, e2, e3, e4, e5]
        clear e0 e1 e2 e3 e4 e5
        refine wpAnyH_ready (fuel := 0) (rs := [6]) (by kernel_rfl) (by simp) ?_
        refine AllReadyH.cons (o := _) rfl (fun K hK => ?_) AllReadyH.nil
        go_simp
        refine hK.out _ _ trivial (fun _ => ?_)
        clear hK K s0 s1 s2 s3 f0 f1 f2 f3
        refine wpAnyH_done (by kernel_rfl) ?_ _
        go_wp2
        go_roundw
        case rel => exact ⟨j + 1, by omega, by go_num, _, HNX⟩
        case measure => simp [intOf]; omega
    · obtain rfl : j = T.len := by omega
      have hbx := HC.out.box
      have HR := Lib.hid HC.out.res
      obtain ⟨hsm, hva⟩ := HC.out.done HW.out
      have HBl := Lib.hid HC.out.below
      unfold boxO at hbx
      unfold zeroO at HR
      have d0 : wr.cell? ⟨w.heap.size, 0, none⟩ = some (.int .i64 T.kind) := cell_at hbx rfl
      have d1 : wr.cell? ⟨w.heap.size, 1, none⟩ = some (.int .u64 T.num) := cell_at hbx rfl
      have d2 : wr.cell? ⟨w.heap.size, 2, none⟩ = some (.string T.text) := cell_at hbx rfl
      have d3 : wr.cell? ⟨w.heap.size, 3, none⟩ = some (.slice ao T.len cap) := cell_at hbx rfl
      have HE := Lib.hid (show ∃ U : VT, (Ending.returned (.agg #[.int .i64 T.kind, .int .u64 T.num, .string T.text, .slice ao T.len cap]) = Ending.returned (.agg #[.int .i64 U.kind, .int .u64 U.num, .string U.text, .slice U.ia U.len U.cap])) ∧ sameT T U = true ∧ ValAt (wr.setRow (w.heap.size + 1) #[.int .i64 T.kind, .int .u64 T.num, .string T.text, .slice ao T.len cap]) (fun b => w.heap.size ≤ b) U ∧ Below w.heap.size w (wr.setRow (w.heap.size + 1) #[.int .i64 T.kind, .int .u64 T.num, .string T.text, .slice ao T.len cap]) from
        ⟨.node T.kind T.num T.text ao T.len cap K, rfl, hsm, ValAt.held_of (fun b h => by omega) (by simp [World.setRow]) (fun b h _ => setRow_other _ _ _ _ (by omega)) _ hva, below_setRow HBl.out (by omega) _⟩)
      clear hbx hsm hva HC
      go_wp2_with (refine wpList_store_rowTo rfl 25 _ _ rfl rfl (w.heap.size + 1) #[.int .i64 T.kind, .int .u64 T.num, .string T.text, .slice ao T.len cap] rfl rfl _ _ HR.out (by kernel_rfl) (by kernel_rfl) (by kernel_rfl) ?_)
      refine bodyPost_ret (v := .agg #[.int .i64 T.kind, .int .u64 T.num, .string T.text, .slice ao T.len cap]) ?_ rfl HE.out
      have hl := run_loadVar_row (P := Tryd.prog) _ (w.heap.size + 1) _ 25 _ _ _ (setRow_heap _ _ _ #[.int .i64 T.kind, .int .u64 T.num, .string T.text, .slice ao T.len cap] _ _ HR.out) Tryd.underlying25 rfl (by kernel_rfl)
      simp [results, Tryd.results18, asAddr]
      exact hl
theorem copied_any (S : Nat → Prop) : ∀ (T : VT) (w : World), ValAt w S T → CCopyTo T w :=
  VT.ind fun T ih w H => copied_step S T (fun i hi w' H' => ih i hi w' H') w H
end Go.Proofs.YtpclpghmahlieaaDoor
