/- Contract of chapter 8's reference: At. -/
import Derived.Test.YtpclpghmahlieaaDoorValPlace
import Derived.BigGuardPart
namespace Go.Proofs.YtpclpghmahlieaaDoor
open Go.RowKit
set_option linter.unusedVariables false
theorem walk_front (T : VT) (L : Nat → Int) : ∀ n, walkT T L (n + 1) = (stepT T (L 0)).bind fun U => walkT U (fun i => L (i + 1)) n
  | 0 => by
    show stepT T (L 0) = (stepT T (L 0)).bind fun U => some U
    cases stepT T (L 0) <;> rfl
  | n + 1 => by
    rw [walkT, walk_front T L n]
    cases stepT T (L 0) <;> rfl
theorem walk_at {w : World} {S : Nat → Prop} {T : VT} {L : Nat → Int} (H : ValAt w S T) : ∀ {n V}, walkT T L n = some V → ValAt w S V
  | 0, V, h => by obtain rfl := Option.some.inj h
                  exact H
  | n + 1, V, h => by
    rw [walkT] at h
    cases hw : walkT T L n with
    | none => rw [hw] at h; cases h
    | some U =>
      rw [hw] at h
      have hU := walk_at H hw
      have h2 : stepT U (L n) = some V := h
      unfold stepT at h2
      split at h2
      · rename_i hc
        obtain rfl := Option.some.inj h2
        exact (((valAt_iff U).1 hU).2 _ (by omega)).2
      · cases h2
theorem drewN8 {B : Nat} {w w1 : World} (h : Below B w w1) (n : Nat) : Below B w (w1.drewN n) := ⟨h.os, h.tape, h.output, h.size, h.block⟩
theorem slice_one (b off n cap : Nat) (hc : n + 1 ≤ cap) (w : World) : (Instr.slice 26 (.slice (some ⟨b, off, none⟩) (n + 1) cap) (some (.int .i64 1)) none none).run Tryd.prog w = .ok (.slice (if cap = 1 then some ⟨b, off, none⟩ else some ⟨b, off + 1, none⟩) n (cap - 1)) w := by
  have he : Tryd.prog.elem 26 = 3 := by kernel_rfl
  have hu : Tryd.prog.underlying 26 = some (.slice (Tryd.prog.elem 26)) := by rw [he]; exact Tryd.underlying26
  have hs : (sizeOf (Tryd.prog.elem 26)).run Tryd.prog w = .ok 1 w := by rw [he]; kernel_rfl
  rw [run_slice_l (P := Tryd.prog) w 26 (some ⟨b, off, none⟩) (n + 1) cap hu .i64 1 (by omega) (by omega), hs]
  simp only [Result.andThen, sliced]
  congr 1
abbrev agU (U : VT) : Value := .agg #[.int .i64 U.kind, .int .u64 U.num, .string U.text, .slice U.ia U.len U.cap]
def RAtTo (T : VT) (ao : Option Addr) (n cap : Nat) (L : Nat → Int) (w : World) : Prop :=
  Calls Tryd.prog 9 #[.agg #[.int .i64 T.kind, .int .u64 T.num, .string T.text, .slice T.ia T.len T.cap], .slice ao n cap] w fun e w' => e = .returned (.tuple #[agU ((walkT T L n).getD .nil), .bool (walkT T L n).isSome]) ∧ Below w.heap.size w w'
theorem refAt_end (T : VT) (ao : Option Addr) (cap : Nat) (L : Nat → Int) (w : World) : RAtTo T ao 0 cap L w := by
  have HB := Lib.hid (((Below.refl w.heap.size w).alloc (Nat.le_refl _) (valO T)).alloc (by simp) zeroO)
  have HZ := Lib.hid (show ((w.alloc (valO T)).alloc zeroO).heap[w.heap.size + 1]? = some (.cells #[.int .i64 0, .int .u64 0, .string ⟨#[]⟩, .slice none 0 0] 25) by have := alloc_at (w.alloc (valO T)) zeroO; simpa [zeroO] using this)
  unfold valO zeroO at HB HZ
  unfold RAtTo
  go_enter Tryd.func9, Tryd.ntmps9
  go_wp2_with (refine wpList_store_rowTo rfl 25 _ _ rfl rfl (w.heap.size + 1) #[.int .i64 T.kind, .int .u64 T.num, .string T.text, .slice T.ia T.len T.cap] rfl rfl _ _ HZ.out (by kernel_rfl) (by kernel_rfl) (by kernel_rfl) ?_)
  refine bodyPost_ret (v := .tuple #[.agg #[.int .i64 T.kind, .int .u64 T.num, .string T.text, .slice T.ia T.len T.cap], .bool true]) ?_ rfl ⟨rfl, below_setRow HB.out (by omega) _⟩
  have hl := run_loadVar_row (P := Tryd.prog) _ (w.heap.size + 1) _ 25 _ _ _ (setRow_heap _ _ _ #[.int .i64 T.kind, .int .u64 T.num, .string T.text, .slice T.ia T.len T.cap] _ _ HZ.out) Tryd.underlying25 rfl (by kernel_rfl)
  simp [results, Tryd.results9, asAddr, hl]
set_option maxRecDepth 20000 in
set_option maxHeartbeats 4000000 in
theorem refAt_step (S : Nat → Prop) (T : VT) (n cap b off : Nat) (L : Nat → Int) (w : World) (hn : n + 1 ≤ cap) (hcap : cap ≤ 140737488351232) (H : ValAt w S T) (hc : w.cell? ⟨b, off, none⟩ = some (.int .i64 (L 0)))
    (ih : ∀ U ao', stepT T (L 0) = some U → (0 < n → ao' = some ⟨b, off + 1, none⟩) → ∀ wx, Below w.heap.size w wx → RAtTo U ao' n (cap - 1) (fun i => L (i + 1)) wx) : RAtTo T (some ⟨b, off, none⟩) (n + 1) cap L w := by
  have hTl := val_len H
  have HB := Lib.hid (((Below.refl w.heap.size w).alloc (Nat.le_refl _) (valO T)).alloc (by simp) zeroO)
  have HQ := Lib.hid (show ((w.alloc (valO T)).alloc zeroO).heap[w.heap.size]? = some (valO T) from alloc_old (alloc_at w _))
  have HZ := Lib.hid (show ((w.alloc (valO T)).alloc zeroO).heap[w.heap.size + 1]? = some (.cells #[.int .i64 0, .int .u64 0, .string ⟨#[]⟩, .slice none 0 0] 25) by have := alloc_at (w.alloc (valO T)) zeroO; simpa [zeroO] using this)
  have hcz := keep HB.out hc
  have hwf := walk_front T L n
  have HK := Lib.hid (fun i (hi : i < T.len) wx (hb : Below w.heap.size w wx) => (kids_at H hb hi).1)
  unfold RAtTo
  rw [hwf]
  obtain ⟨z, hz⟩ : ∃ z, L 0 = z := ⟨_, rfl⟩
  rw [hz] at hcz ih ⊢
  have HI := Lib.hid ih
  unfold valO zeroO at HB HQ HZ
  unfold valO zeroO at hcz
  have tn : ((n : Int) + 1 == 0) = false := by simp; omega
  have tn' : (n + 1 == 0) = false := by simp
  clear ih hz hwf H hc
  by_cases hin : 0 ≤ z ∧ z < T.len
  · obtain ⟨i, rfl⟩ := Int.eq_ofNat_of_zero_le hin.1
    have hi : i < T.len := by omega
    have hst : stepT T ((i : Nat) : Int) = some (T.kid i) := by unfold stepT; rw [if_pos hin]; rfl
    have t0 : decide ((i : Int) < 0) = false := by simp
    have t1 : decide ((T.len : Int) ≤ (i : Int)) = false := by simp; omega
    have t2 : decide (T.len ≤ i) = false := by simp; omega
    rw [hst]
    have HII := Lib.hid (fun ao' h wx hb => HI.out (T.kid i) ao' hst h wx hb)
    obtain ⟨ao', hao'⟩ : ∃ a, (if cap = 1 then some (⟨b, off, none⟩ : Addr) else some ⟨b, off + 1, none⟩) = a := ⟨_, rfl⟩
    have hsl := fun wx => slice_one b off n cap hn wx
    rw [hao'] at hsl
    have HA := Lib.hid (HII.out ao' (fun h => by rw [← hao', if_neg (by omega)]))
    unfold RAtTo at HA
    obtain ⟨b', off', hia, _, _, c0, c1, c2, c3⟩ := HK.out i hi _ HB.out
    have d3 := cell_at (j := 3) (v := .slice T.ia T.len T.cap) HQ.out rfl
    have HIA := Lib.hid hia
    clear hst HI HII hao' hin HK hia
    go_enter Tryd.func9, Tryd.ntmps9
    go_upto_region 3 with (fail)
    generalize ((w.alloc (.cells #[.int .i64 T.kind, .int .u64 T.num, .string T.text, .slice T.ia T.len T.cap] 25)).alloc (.cells #[.int .i64 0, .int .u64 0, .string ⟨#[]⟩, .slice none 0 0] 25)) = W0 at *
    rw [HIA.out] at d3 HQ ⊢
    go_big_quiet (fail)
    go_upto_region 5 with (fail)
    have HBn := Lib.hid (drewN8 HB.out nq)
    have HQn := Lib.hid (show (W0.drewN nq).heap[w.heap.size]? = _ from HQ.out)
    have HZn := Lib.hid (show (W0.drewN nq).heap[w.heap.size + 1]? = _ from HZ.out)
    have Hcz := Lib.hid (show (W0.drewN nq).cell? ⟨b, off, none⟩ = _ from hcz)
    have Hc0 := Lib.hid (show (W0.drewN nq).cell? ⟨b', off' + i * 4, none⟩ = _ from c0)
    have Hc1 := Lib.hid (show (W0.drewN nq).cell? ⟨b', off' + i * 4 + 1, none⟩ = _ from c1)
    have Hc2 := Lib.hid (show (W0.drewN nq).cell? ⟨b', off' + i * 4 + 2, none⟩ = _ from c2)
    have Hc3 := Lib.hid (show (W0.drewN nq).cell? ⟨b', off' + i * 4 + 3, none⟩ = _ from c3)
    obtain ⟨R, hR⟩ : ∃ R, (walkT (T.kid i) (fun i => L (i + 1)) n).getD .nil = R := ⟨_, rfl⟩
    obtain ⟨r, hr⟩ : ∃ r, (walkT (T.kid i) (fun i => L (i + 1)) n).isSome = r := ⟨_, rfl⟩
    rw [hR, hr] at HA
    have HE := Lib.hid (show Ending.returned (.tuple #[.agg #[.int .i64 R.kind, .int .u64 R.num, .string R.text, .slice R.ia R.len R.cap], .bool r]) = .returned (.tuple #[agU (((some (T.kid i)).bind fun U => walkT U (fun i => L (i + 1)) n).getD .nil), .bool (((some (T.kid i)).bind fun U => walkT U (fun i => L (i + 1)) n).isSome)]) by rw [← hR, ← hr]; rfl)
    clear hR hr hcz c0 c1 c2 c3 d3
    generalize (W0.drewN nq) = W1 at *
    refine wp_region_ext (by kernel_rfl) 12 (fun v => ((.agg #[.int .i64 T.kind, .int .u64 T.num, .string T.text, .slice (some ⟨b', off', none⟩) T.len T.cap] : Value) :: (.slice (some ⟨b, off, none⟩) (n + 1) cap : Value) :: (.pointer (some ⟨w.heap.size, 0, none⟩) : Value) :: (undef : Value) :: (.pointer (some ⟨w.heap.size + 1, 0, none⟩) : Value) :: (.bool false : Value) :: (.slice (some ⟨b, off, none⟩) (n + 1) cap : Value) :: (.int .i64 ((n : Int) + 1) : Value) :: (.bool false : Value) :: (undef : Value) :: (.slice (some ⟨b, off, none⟩) (n + 1) cap : Value) :: (.pointer (some ⟨b, off, none⟩) : Value) :: (.int .i64 (i : Nat) : Value) :: (.bool false : Value) :: (.bool false : Value) :: (.slice (some ⟨b, off, none⟩) (n + 1) cap : Value) :: (.pointer (some ⟨b, off, none⟩) : Value) :: (.int .i64 (i : Nat) : Value) :: (.pointer (some ⟨w.heap.size, 3, none⟩) : Value) :: (.slice (some ⟨b', off', none⟩) T.len T.cap : Value) :: (.int .i64 (T.len : Nat) : Value) :: (.bool false : Value) :: (.bool false : Value) :: (undef : Value) :: v 0 :: v 1 :: v 2 :: v 3 :: v 4 :: v 5 :: v 6 :: v 7 :: v 8 :: v 9 :: v 10 :: v 11 :: []).toArray) (fun _ => undef) (fun _ => none) (fun j => [.pointer (some ⟨w.heap.size, 3, none⟩), .slice (some ⟨b', off', none⟩) T.len T.cap, .slice (some ⟨b, off, none⟩) (n + 1) cap, .pointer (some ⟨b, off, none⟩), .int .i64 (i : Nat), .pointer (some ⟨b', off' + i * 4, none⟩), .agg #[.int .i64 (T.kid i).kind, .int .u64 (T.kid i).num, .string (T.kid i).text, .slice (T.kid i).ia (T.kid i).len (T.kid i).cap], .slice (some ⟨b, off, none⟩) (n + 1) cap, .slice ao' n (cap - 1), .tuple #[.agg #[.int .i64 R.kind, .int .u64 R.num, .string R.text, .slice R.ia R.len R.cap], .bool r], .agg #[.int .i64 R.kind, .int .u64 R.num, .string R.text, .slice R.ia R.len R.cap], .bool r].getD j undef) (fun w' => Below W1.heap.size W1 w')
      (Nat.le_of_ble_eq_true (by kernel_rfl)) (by kernel_rfl) (fun _ _ h hb => below_step8' h hb) (Below.refl _ _) (fun j hj v w1 hBx hsz hd => ?_) (fun v w1 hv hdist hBx hb => ?_)
    · have y3 : w1.cell? ⟨w.heap.size, 3, none⟩ = some (.slice (some ⟨b', off', none⟩) T.len T.cap) := cell_at (box_keep HQn.out hBx) rfl
      have yz := keep hBx Hcz.out
      have y4 := keep hBx Hc0.out
      have y5 := keep hBx Hc1.out
      have y6 := keep hBx Hc2.out
      have y7 := keep hBx Hc3.out
      have hj12 : j = 0 ∨ j = 1 ∨ j = 2 ∨ j = 3 ∨ j = 4 ∨ j = 5 ∨ j = 6 ∨ j = 7 ∨ j = 8 ∨ j = 9 ∨ j = 10 ∨ j = 11 := by omega
      rcases hj12 with rfl | rfl | rfl | rfl | rfl | rfl | rfl | rfl | rfl | rfl | rfl | rfl
      · skip
        refine wpOp_step (o := _) rfl (fun K' hK => ?_)
        go_simp
        exact hK _ _ ⟨.pointer (some ⟨w.heap.size, 3, none⟩), rfl, Below.refl _ _, (fun _ => rfl), fun o h => by cases h⟩
      · have e0 : v 0 = .pointer (some ⟨w.heap.size, 3, none⟩) := hd 0 (List.contains_iff_mem.1 (by kernel_rfl))
        refine wpOp_step (o := _) rfl (fun K' hK => ?_)
        go_simp
        exact hK _ _ ⟨.slice (some ⟨b', off', none⟩) T.len T.cap, fr_eq8 (by simp [upd, e0]), Below.refl _ _, (fun _ => rfl), fun o h => by cases h⟩
      · skip
        refine wpOp_step (o := _) rfl (fun K' hK => ?_)
        go_simp
        exact hK _ _ ⟨.slice (some ⟨b, off, none⟩) (n + 1) cap, rfl, Below.refl _ _, (fun _ => rfl), fun o h => by cases h⟩
      · have e2 : v 2 = .slice (some ⟨b, off, none⟩) (n + 1) cap := hd 2 (List.contains_iff_mem.1 (by kernel_rfl))
        refine wpOp_step (o := _) rfl (fun K' hK => ?_)
        go_simp
        exact hK _ _ ⟨.pointer (some ⟨b, off, none⟩), fr_eq8 (by simp [upd, e2]), Below.refl _ _, (fun _ => rfl), fun o h => by cases h⟩
      · have e3 : v 3 = .pointer (some ⟨b, off, none⟩) := hd 3 (List.contains_iff_mem.1 (by kernel_rfl))
        refine wpOp_step (o := _) rfl (fun K' hK => ?_)
        go_simp
        exact hK _ _ ⟨.int .i64 (i : Nat), fr_eq8 (by simp [upd, e3]), Below.refl _ _, (fun _ => rfl), fun o h => by cases h⟩
      · have e1 : v 1 = .slice (some ⟨b', off', none⟩) T.len T.cap := hd 1 (List.contains_iff_mem.1 (by kernel_rfl)); have e4 : v 4 = .int .i64 (i : Nat) := hd 4 (List.contains_iff_mem.1 (by kernel_rfl))
        refine wpOp_step (o := _) rfl (fun K' hK => ?_)
        go_simp
        exact hK _ _ ⟨.pointer (some ⟨b', off' + i * 4, none⟩), fr_eq8 (by simp [upd, e1, e4]), Below.refl _ _, (fun _ => rfl), fun o h => by cases h⟩
      · have e5 : v 5 = .pointer (some ⟨b', off' + i * 4, none⟩) := hd 5 (List.contains_iff_mem.1 (by kernel_rfl))
        refine wpOp_step (o := _) rfl (fun K' hK => ?_)
        go_simp
        exact hK _ _ ⟨.agg #[.int .i64 (T.kid i).kind, .int .u64 (T.kid i).num, .string (T.kid i).text, .slice (T.kid i).ia (T.kid i).len (T.kid i).cap], fr_eq8 (by simp [upd, e5]), Below.refl _ _, (fun _ => rfl), fun o h => by cases h⟩
      · skip
        refine wpOp_step (o := _) rfl (fun K' hK => ?_)
        go_simp
        exact hK _ _ ⟨.slice (some ⟨b, off, none⟩) (n + 1) cap, rfl, Below.refl _ _, (fun _ => rfl), fun o h => by cases h⟩
      · have e7 : v 7 = .slice (some ⟨b, off, none⟩) (n + 1) cap := hd 7 (List.contains_iff_mem.1 (by kernel_rfl))
        refine wpOp_step (o := _) rfl (fun K' hK => ?_)
        go_simp
        exact hK _ _ ⟨.slice ao' n (cap - 1), fr_eq8 (by simp [upd, e7]), Below.refl _ _, (fun _ => rfl), fun o h => by cases h⟩
      · have e6 : v 6 = .agg #[.int .i64 (T.kid i).kind, .int .u64 (T.kid i).num, .string (T.kid i).text, .slice (T.kid i).ia (T.kid i).len (T.kid i).cap] := hd 6 (List.contains_iff_mem.1 (by kernel_rfl)); have e8 : v 8 = .slice ao' n (cap - 1) := hd 8 (List.contains_iff_mem.1 (by kernel_rfl))
        refine wpOp_step (o := _) rfl (fun K' hK => ?_)
        go_simp
        refine (HA.out w1 (below_step8' HBn.out hBx)).mono ?_
        rintro e w3 ⟨rfl, hb3⟩
        exact hK _ _ ⟨.tuple #[.agg #[.int .i64 R.kind, .int .u64 R.num, .string R.text, .slice R.ia R.len R.cap], .bool r], fr_eq8 (by simp [upd, e6, e8]), hb3, fun _ => rfl, fun o h => by cases h⟩
      · have e9 : v 9 = .tuple #[.agg #[.int .i64 R.kind, .int .u64 R.num, .string R.text, .slice R.ia R.len R.cap], .bool r] := hd 9 (List.contains_iff_mem.1 (by kernel_rfl))
        refine wpOp_step (o := _) rfl (fun K' hK => ?_)
        go_simp
        exact hK _ _ ⟨.agg #[.int .i64 R.kind, .int .u64 R.num, .string R.text, .slice R.ia R.len R.cap], fr_eq8 (by simp [upd, e9]), Below.refl _ _, (fun _ => rfl), fun o h => by cases h⟩
      · have e9 : v 9 = .tuple #[.agg #[.int .i64 R.kind, .int .u64 R.num, .string R.text, .slice R.ia R.len R.cap], .bool r] := hd 9 (List.contains_iff_mem.1 (by kernel_rfl))
        refine wpOp_step (o := _) rfl (fun K' hK => ?_)
        go_simp
        exact hK _ _ ⟨.bool r, fr_eq8 (by simp [upd, e9]), Below.refl _ _, (fun _ => rfl), fun o h => by cases h⟩
    · have HB4 := Lib.hid (below_step8' HBn.out hb)
      have hq := box_keep HZn.out hb
      have e0 : v 0 = .pointer (some ⟨w.heap.size, 3, none⟩) := hv 0 (by decide)
      have e1 : v 1 = .slice (some ⟨b', off', none⟩) T.len T.cap := hv 1 (by decide)
      have e2 : v 2 = .slice (some ⟨b, off, none⟩) (n + 1) cap := hv 2 (by decide)
      have e3 : v 3 = .pointer (some ⟨b, off, none⟩) := hv 3 (by decide)
      have e4 : v 4 = .int .i64 (i : Nat) := hv 4 (by decide)
      have e5 : v 5 = .pointer (some ⟨b', off' + i * 4, none⟩) := hv 5 (by decide)
      have e6 : v 6 = .agg #[.int .i64 (T.kid i).kind, .int .u64 (T.kid i).num, .string (T.kid i).text, .slice (T.kid i).ia (T.kid i).len (T.kid i).cap] := hv 6 (by decide)
      have e7 : v 7 = .slice (some ⟨b, off, none⟩) (n + 1) cap := hv 7 (by decide)
      have e8 : v 8 = .slice ao' n (cap - 1) := hv 8 (by decide)
      have e9 : v 9 = .tuple #[.agg #[.int .i64 R.kind, .int .u64 R.num, .string R.text, .slice R.ia R.len R.cap], .bool r] := hv 9 (by decide)
      have e10 : v 10 = .agg #[.int .i64 R.kind, .int .u64 R.num, .string R.text, .slice R.ia R.len R.cap] := hv 10 (by decide)
      have e11 : v 11 = .bool r := hv 11 (by decide)
      have s0 : w1.cell? ⟨w.heap.size + 1, 0, none⟩ = some (.int .i64 0) := cell_at hq rfl
      have s1 : w1.cell? ⟨w.heap.size + 1, 1, none⟩ = some (.int .u64 0) := cell_at hq rfl
      have s2 : w1.cell? ⟨w.heap.size + 1, 2, none⟩ = some (.string ⟨#[]⟩) := cell_at hq rfl
      have s3 : w1.cell? ⟨w.heap.size + 1, 3, none⟩ = some (.slice none 0 0) := cell_at hq rfl
      have f0 := free_at (j := 0) hq
      have f1 := free_at (j := 1) hq
      have f2 := free_at (j := 2) hq
      have f3 := free_at (j := 3) hq
      have a1 := set_at (j := 0) (u := .int .i64 R.kind) hq
      have a2 := set_at (j := 1) (u := .int .u64 R.num) a1
      have a3 := set_at (j := 2) (u := .string R.text) a2
      have a4 := set_at (j := 3) (u := .slice R.ia R.len R.cap) a3
      have HR4 := Lib.hid a4
      have HB5 := Lib.hid (put_below (g := w.heap.size + 1) (o := 0) (U := R) HB4.out (by omega))
      clear hv hdist hBx hb hq a1 a2 a3 a4
      refine wpAny_of_held (S := fun _ => True) _ _ _ _ ?_
      simp only [e0, e1, e2, e3, e4, e5, e6, e7, e8, e9, e10, e11]
      clear e0 e1 e2 e3 e4 e5 e6 e7 e8 e9 e10 e11
      refine wpAnyH_ready (fuel := 1) (rs := [12]) (by kernel_rfl) (by simp) ?_
      refine AllReadyH.cons (o := _) rfl (fun K hK => ?_) AllReadyH.nil
      go_simp
      refine hK.out _ _ trivial (fun _ => ?_)
      clear hK K s0 s1 s2 s3 f0 f1 f2 f3
      refine wpAnyH_ready (fuel := 0) (rs := [13]) (by kernel_rfl) (by simp) ?_
      refine AllReadyH.cons (o := _) rfl (fun K hK => ?_) AllReadyH.nil
      go_simp
      refine hK.out _ _ trivial (fun _ => ?_)
      clear hK K
      refine wpAnyH_done (by kernel_rfl) ?_ _
      go_wp2_with fail
      refine bodyPost_ret (v := .tuple #[.agg #[.int .i64 R.kind, .int .u64 R.num, .string R.text, .slice R.ia R.len R.cap], .bool r]) ?_ rfl ⟨HE.out, HB5.out⟩
      have hl := run_loadVar_row (P := Tryd.prog) _ (w.heap.size + 1) _ 25 _ _ _ HR4.out Tryd.underlying25 rfl (by kernel_rfl)
      simp [results, Tryd.results9, asAddr, hl]
  · have hst : stepT T z = none := by unfold stepT; rw [if_neg hin]
    rw [hst]
    have d3 := cell_at (j := 3) (v := .slice T.ia T.len T.cap) HQ.out rfl
    have HE := Lib.hid (show Ending.returned (.tuple #[.agg #[.int .i64 0, .int .u64 0, .string ⟨#[]⟩, .slice none 0 0], .bool false]) = .returned (.tuple #[agU (((none : Option VT).bind fun U => walkT U (fun i => L (i + 1)) n).getD .nil), .bool (((none : Option VT).bind fun U => walkT U (fun i => L (i + 1)) n).isSome)]) from rfl)
    clear hst HI HK
    by_cases hz0 : z < 0
    · have t0 : decide (z < 0) = true := by simpa using hz0
      clear hin hz0
      go_enter Tryd.func9, Tryd.ntmps9
      go_upto_region 3 with (fail)
      generalize ((w.alloc (.cells #[.int .i64 T.kind, .int .u64 T.num, .string T.text, .slice T.ia T.len T.cap] 25)).alloc (.cells #[.int .i64 0, .int .u64 0, .string ⟨#[]⟩, .slice none 0 0] 25)) = W0 at *
      go_big_quiet (fail)
      have HBn := Lib.hid (drewN8 HB.out nq)
      have HZn := Lib.hid (show (W0.drewN nq).heap[w.heap.size + 1]? = _ from HZ.out)
      clear d3 hcz
      generalize (W0.drewN nq) = W1 at *
      go_wp2_with (refine wpList_store_rowTo rfl 25 _ _ rfl rfl (w.heap.size + 1) #[.int .i64 0, .int .u64 0, .string ⟨#[]⟩, .slice none 0 0] rfl rfl _ _ HZn.out (by kernel_rfl) (by kernel_rfl) (by kernel_rfl) ?_)
      refine bodyPost_ret (v := .tuple #[.agg #[.int .i64 0, .int .u64 0, .string ⟨#[]⟩, .slice none 0 0], .bool false]) ?_ rfl ⟨HE.out, below_setRow HBn.out (by omega) _⟩
      have hl := run_loadVar_row (P := Tryd.prog) _ (w.heap.size + 1) _ 25 _ _ _ (setRow_heap _ _ _ #[.int .i64 0, .int .u64 0, .string ⟨#[]⟩, .slice none 0 0] _ _ HZn.out) Tryd.underlying25 rfl (by kernel_rfl)
      simp [results, Tryd.results9, asAddr, hl]
    · have t0 : decide (z < 0) = false := by simpa using hz0
      have t1 : decide ((T.len : Int) ≤ z) = true := by simp; omega
      clear hin hz0
      go_enter Tryd.func9, Tryd.ntmps9
      go_upto_region 3 with (fail)
      generalize ((w.alloc (.cells #[.int .i64 T.kind, .int .u64 T.num, .string T.text, .slice T.ia T.len T.cap] 25)).alloc (.cells #[.int .i64 0, .int .u64 0, .string ⟨#[]⟩, .slice none 0 0] 25)) = W0 at *
      go_big_quiet (fail)
      have HBn := Lib.hid (drewN8 HB.out nq)
      have HZn := Lib.hid (show (W0.drewN nq).heap[w.heap.size + 1]? = _ from HZ.out)
      clear d3 hcz
      generalize (W0.drewN nq) = W1 at *
      go_wp2_with (refine wpList_store_rowTo rfl 25 _ _ rfl rfl (w.heap.size + 1) #[.int .i64 0, .int .u64 0, .string ⟨#[]⟩, .slice none 0 0] rfl rfl _ _ HZn.out (by kernel_rfl) (by kernel_rfl) (by kernel_rfl) ?_)
      refine bodyPost_ret (v := .tuple #[.agg #[.int .i64 0, .int .u64 0, .string ⟨#[]⟩, .slice none 0 0], .bool false]) ?_ rfl ⟨HE.out, below_setRow HBn.out (by omega) _⟩
      have hl := run_loadVar_row (P := Tryd.prog) _ (w.heap.size + 1) _ 25 _ _ _ (setRow_heap _ _ _ #[.int .i64 0, .int .u64 0, .string ⟨#[]⟩, .slice none 0 0] _ _ HZn.out) Tryd.underlying25 rfl (by kernel_rfl)
      simp [results, Tryd.results9, asAddr, hl]
end Go.Proofs.YtpclpghmahlieaaDoor
