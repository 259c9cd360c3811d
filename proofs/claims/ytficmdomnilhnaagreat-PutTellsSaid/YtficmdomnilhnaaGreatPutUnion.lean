/- What the pen writes of a value: fields, union, sequence, and the value itself. -/
import Derived.Test.YtficmdomnilhnaaGreatPutKids
namespace Go.Proofs.YtficmdomnilhnaaGreat
open Go.RowKit
set_option linter.unusedVariables false
set_option maxHeartbeats 4000000 in
theorem cfield_any (P : Nat) (ao : Option Addr) (len cap : Nat) (bo : Option Nat) (v : Value) (a : Nat) (s : ByteArray) (t : Nat) (X : TypeV) (kd nm : Int) (tx : ByteArray) (ia : Option Addr) (n cp : Nat) (K : Nat → VT) (S : Nat → Prop) (f : Nat → List RPart)
    (hlen : len ≤ 1000000) (ht : t < len) (hof : ∀ i, i < n → i < X.ilen ∧ (X.items i).type = ((X.items i).type.toNat : Nat)) (hn : n ≤ 2513169434843) (w0 w : World) (hb : Below w0.heap.size w0 w) (hu : PenUp w0.heap.size P bo) (h : PenAt P ao len cap bo v a s w) (HT : TypeAt w0 ao t X)
    (HC : ∀ i, i < n → ∀ wx, Below w0.heap.size w0 wx → CellsAt wx S ia i (K i)) (hr : RowOk bo s (catTo f n) a)
    (HK : ∀ i, i < n → ∀ v a s wx, Below w0.heap.size w0 wx → PenAt P ao len cap bo v a s wx → RowOk bo s (f i) a → CPut P ao len cap bo v a s (f i) (X.items i).type.toNat (K i) wx) :
    Calls Tryz.prog 56 #[.pointer (some ⟨P, 0, none⟩), .int .i64 (t : Nat), .agg #[.int .i64 kd, .int .u64 nm, .string tx, .slice ia n cp]] w (PenTo P ao len cap bo v (endR (catTo f n) a) (bytR (catTo f n) s) w) := by
  obtain ⟨tb, toff, rfl, _, _, _, _, _, c5, wf, hi⟩ := HT
  have hB := (Below.refl w.heap.size w).alloc (Nat.le_refl _) (.cells #[.int .i64 kd, .int .u64 nm, .string tx, .slice ia n cp] 26)
  have HP := Lib.hid (h.step hB)
  have HBW := Lib.hid (below_step8' (w := w0) (a := w) hb (hB))
  have HB := Lib.hid hB
  have HC := Lib.hid HC
  have HK := Lib.hid HK
  have HR := Lib.hid hr
  have HI := Lib.hid hi
  have HO := Lib.hid hof
  have hil := hi.1
  have C5 := Lib.hid c5
  clear h hb hB hr c5 wf hof hi
  go_enter Tryz.func56, Tryz.ntmps56
  go_wp2
  go_loopw [11] (fun i wr => ∃ j : Nat, j ≤ n ∧ i = .int .i64 j ∧ Hid (PenNow P (some ⟨tb, toff, none⟩) len cap bo v (endR (catTo f j) a) (bytR (catTo f j) s) (w.alloc (.cells #[.int .i64 kd, .int .u64 nm, .string tx, .slice ia n cp] 26)) wr)) (fun i _ => n - (intOf i).toNat)
  case atStart => exact ⟨0, Nat.zero_le _, rfl, Lib.hid (PenNow.refl HP.out)⟩
  case round =>
    obtain ⟨j, hj, rfl, HN⟩ := hrel
    by_cases hlt : j < n
    · have HW := Lib.hid (PenNow.below HBW.out HP.out hu HN.out)
      obtain ⟨b, off, rfl, _, _, c0, c1, c2, c3⟩ := HC.out j hlt wr HW.out
      obtain ⟨v1, q1, o1, f1⟩ := HN.out
      have hk := fun wx hbx hpx => HK.out j hlt v1 _ _ wx hbx hpx (HR.out.kid hlt)
      obtain ⟨hji, hjt⟩ := HO.out j hlt
      obtain ⟨ib, ioff, eia, _, _, i2, _, _, _⟩ := HI.out.2 j hji
      obtain ⟨p, hp⟩ : ∃ p, (X.items j).type.toNat = p := ⟨_, rfl⟩
      rw [hp] at hjt hk
      rw [hjt] at i2
      have c5 := C5.out
      rw [eia] at c5
      have K2 := Lib.hid i2
      have K5 := Lib.hid c5
      obtain ⟨M, hM⟩ : ∃ M, K j = M := ⟨_, rfl⟩
      rw [hM] at hk c0 c1 c2 c3
      unfold CPut at hk
      have hA := (Below.refl wr.heap.size wr).alloc (Nat.le_refl _) (.cells #[.int .i64 M.kind, .int .u64 M.num, .string M.text, .slice M.ia M.len M.cap] 26)
      have HQ := Lib.hid (alloc_at wr (.cells #[.int .i64 M.kind, .int .u64 M.num, .string M.text, .slice M.ia M.len M.cap] 26))
      have HA := Lib.hid hA
      have HX := Lib.hid (q1.step hA)
      have HY := Lib.hid (below_step8' (w := w0) HW.out hA)
      have Q1 := Lib.hid q1
      have F1 := Lib.hid f1
      have HD := Lib.hid hk
      clear hk hM hA q1 f1 HN i2 c5 eia hp hjt
      go_upto_region 4 with (fail)
      clear c0 c1 c2 c3
      generalize wr.alloc (.cells #[.int .i64 M.kind, .int .u64 M.num, .string M.text, .slice M.ia M.len M.cap] 26) = wb at *
      have p0 : wb.cell? ⟨P, 0, none⟩ = some (.slice (some ⟨tb, toff, none⟩) len cap) := cell_at (j := 0) HX.out.1 rfl
      have k5 : wb.cell? ⟨tb, toff + t * 6 + 5, none⟩ = some (.slice (some ⟨ib, ioff, none⟩) X.ilen X.icap) := keep HY.out K5.out
      have k2 : wb.cell? ⟨ib, ioff + j * 5 + 2, none⟩ = some (.int .i64 (p : Nat)) := keep HY.out K2.out
      have d0 : wb.cell? ⟨wr.heap.size, 0, none⟩ = some (.int .i64 M.kind) := cell_at HQ.out rfl
      have d1 : wb.cell? ⟨wr.heap.size, 1, none⟩ = some (.int .u64 M.num) := cell_at HQ.out rfl
      have d2 : wb.cell? ⟨wr.heap.size, 2, none⟩ = some (.string M.text) := cell_at HQ.out rfl
      have d3 : wb.cell? ⟨wr.heap.size, 3, none⟩ = some (.slice M.ia M.len M.cap) := cell_at HQ.out rfl
      go_region_held3 (fun w' => w'.cell? ⟨P, 0, none⟩ = some (.slice (some ⟨tb, toff, none⟩) len cap) ∧ w'.cell? ⟨tb, toff + t * 6 + 5, none⟩ = some (.slice (some ⟨ib, ioff, none⟩) X.ilen X.icap) ∧ w'.cell? ⟨ib, ioff + j * 5 + 2, none⟩ = some (.int .i64 (p : Nat)) ∧ w'.cell? ⟨wr.heap.size, 0, none⟩ = some (.int .i64 M.kind) ∧ w'.cell? ⟨wr.heap.size, 1, none⟩ = some (.int .u64 M.num) ∧ w'.cell? ⟨wr.heap.size, 2, none⟩ = some (.string M.text) ∧ w'.cell? ⟨wr.heap.size, 3, none⟩ = some (.slice M.ia M.len M.cap))
        (first | exact ⟨p0, k5, k2, d0, d1, d2, d3⟩ | fail)
        (first | (go_at_call 20; refine (HD.out _ (by first | exact HY.out | exact HY.out.drew) (by first | exact HX.out | exact HX.out.step (Below.refl _ _).drew)).mono ?_; rintro e w3 ⟨rfl, hn3⟩; have HN3 := Lib.hid (hn3.from (w := wr) (by first | exact HA.out | exact HA.out.drew)); have hbx := box_at Q1.out (by exact HQ.out) hn3; have p0 := hn3.cell0; have k5 := keep (PenNow.below HW.out Q1.out hu HN3.out) K5.out; have k2 := keep (PenNow.below HW.out Q1.out hu HN3.out) K2.out; have d0 : w3.cell? ⟨wr.heap.size, 0, none⟩ = some (.int .i64 M.kind) := cell_at hbx rfl; have d1 : w3.cell? ⟨wr.heap.size, 1, none⟩ = some (.int .u64 M.num) := cell_at hbx rfl; have d2 : w3.cell? ⟨wr.heap.size, 2, none⟩ = some (.string M.text) := cell_at hbx rfl; have d3 : w3.cell? ⟨wr.heap.size, 3, none⟩ = some (.slice M.ia M.len M.cap) := cell_at hbx rfl; clear hn3 hbx))
      go_wp2
      go_roundw
      case rel => exact ⟨j + 1, by omega, by go_num, Lib.hid (PenNow.snoc o1 F1.out (by first | exact HN3.out | exact HN3.out.drew))⟩
      case measure => simp [intOf]; omega
    · obtain rfl : j = n := by omega
      go_wp2
      go_returns
      exact ⟨rfl, HN.out.from HB.out⟩
theorem btF_any (x : ItemV) (b : Nat) (n : Int) (w : World) (hc : w.cell? ⟨b, 0, none⟩ = some (.int .u64 n)) :
    Calls Tryz.prog 113 #[itmV x, .pointer (some ⟨b, 0, none⟩)] w fun e w' => e = .returned (.bool (x.num == n || x.rest)) ∧ Below w.heap.size w w' := by
  have hlt := World.block_lt_of_cell? w _ hc
  have hne : ¬ b = w.heap.size := by simp at hlt; omega
  obtain ⟨q, hq⟩ : ∃ q, (x.num == n) = q := ⟨_, rfl⟩
  unfold itmV
  rw [hq]
  go_enter Tryz.func113, Tryz.ntmps113
  cases q
  all_goals
    go_wp2
    all_goals
      go_ret
      exact ⟨ret_b (by first | rfl | simp [*]), (Below.refl _ _).alloc (Nat.le_refl _) _⟩
theorem eBT : Enters 113 := enters_of Tryz.func113 (by kernel_rfl) rfl
theorem bt_pays {b : Nat} {n : Int} {w : World} (hc : w.cell? ⟨b, 0, none⟩ = some (.int .u64 n)) : Pays 113 #[.pointer (some ⟨b, 0, none⟩)] (fun x => x.num == n || x.rest) w :=
  fun W x hb => btF_any x b n W (keep6 hb hc)
set_option maxHeartbeats 2000000 in
theorem btype_any (T : TypeV) (n : Int) (w : World) (hi : ItemsAt w T) (h14 : T.kind = 14) (hl : RestLast T) (hb : okZ (branchZ T n) = true) :
    Calls Tryz.prog 78 #[typV T, .int .u64 n] w fun e w' => e = .returned (.int .i64 (T.items (branchZ T n).toNat).type) ∧ Below w.heap.size w w' := by
  have hmf' := hmf
  have hz : 0 ≤ branchZ T n := by unfold okZ at hb; simpa using hb
  have hlt := branchZ_lt hz
  have hbr := branch_is h14 hl hb
  obtain ⟨k, hk⟩ : ∃ k : Nat, branchZ T n = k := ⟨(branchZ T n).toNat, by omega⟩
  rw [hk] at hlt hbr ⊢
  have hkl : k < T.ilen := by omega
  have HB := Lib.hid (((Below.refl w.heap.size w).alloc (Nat.le_refl _) (typO T)).alloc (by simp) (.cells #[.int .u64 n] 23))
  have hx := fun wx (hb : Below w.heap.size w wx) (hc : wx.cell? ⟨w.heap.size + 1, 0, none⟩ = some (.int .u64 n)) =>
    idxFunc_any T.ia T.ilen T.icap T.items 113 #[.pointer (some ⟨w.heap.size + 1, 0, none⟩)] (fun x => x.num == n || x.rest) hi.1 wx eBT (bt_pays hc) (hi.held hb).2
  rw [hbr] at hx
  obtain ⟨y, hy⟩ : ∃ y, (T.items ((k : Nat) : Int).toNat).type = y := ⟨_, rfl⟩
  rw [hy]
  have hit := hi.2 k hkl
  have hil := hi.1
  unfold typV
  unfold typO at HB
  obtain ⟨ia, hia⟩ : ∃ ia, T.ia = ia := ⟨_, rfl⟩
  rw [hia] at hit hx HB ⊢
  obtain ⟨ib, ioff, rfl, _, _, i2, _, _, _⟩ := hit
  have hy' : (T.items k).type = y := hy
  rw [hy'] at i2
  have I2 := Lib.hid i2
  have HI := Lib.hid hx
  clear hx hy hy' i2 hi hb hl hbr hk hz hia h14
  go_enter Tryz.func78, Tryz.ntmps78
  go_wp2_with (go_at_call 112; refine (HI.out _ HB.out (by go_cell)).mono ?_; rintro e w3 ⟨rfl, hb3⟩; have HB3 := Lib.hid (below_step8' HB.out hb3); have g2 : w3.cell? ⟨ib, ioff + k * 5 + 2, none⟩ = some (.int .i64 y) := keep HB3.out I2.out; have g5 : w3.cell? ⟨w.heap.size, 5, none⟩ = some (.slice (some ⟨ib, ioff, none⟩) T.ilen T.icap) := keep hb3 (by go_cell); clear hb3)
  go_ret
  exact ⟨rfl, HB3.out⟩
end Go.Proofs.YtficmdomnilhnaaGreat
