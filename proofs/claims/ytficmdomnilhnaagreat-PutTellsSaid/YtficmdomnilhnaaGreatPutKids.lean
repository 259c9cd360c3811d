/- The loops over a value's Items: elements, fields, union. -/
import Derived.Test.YtficmdomnilhnaaGreatPutVal
namespace Go.Proofs.YtficmdomnilhnaaGreat
open Go.RowKit
set_option linter.unusedVariables false
theorem RowOk.pre {bo : Option Nat} {s : ByteArray} {f : Nat → List RPart} {a : Nat} : ∀ {n j : Nat}, j ≤ n → RowOk bo s (catTo f n) a → RowOk bo s (catTo f j) a
  | 0, j, hj, h => by obtain rfl : j = 0 := by omega
                      exact h
  | n + 1, j, hj, h => by
    by_cases c : j = n + 1
    · subst c; exact h
    · exact RowOk.pre (n := n) (by omega) (RowOk.fst (r := catTo f n) (q := f n) h)
theorem RowOk.kid {bo : Option Nat} {s : ByteArray} {f : Nat → List RPart} {a n j : Nat} (h : RowOk bo s (catTo f n) a) (hj : j < n) : RowOk bo (bytR (catTo f j) s) (f j) (endR (catTo f j) a) :=
  RowOk.snd (r := catTo f j) (q := f j) (RowOk.pre (n := n) (j := j + 1) hj h)
/-- what the pen writes of a value -/
def CPut (P : Nat) (ao : Option Addr) (len cap : Nat) (bo : Option Nat) (v : Value) (a : Nat) (s : ByteArray) (r : List RPart) (p : Nat) (M : VT) (wx : World) : Prop :=
  Calls Tryz.prog 20 #[.pointer (some ⟨P, 0, none⟩), .int .i64 (p : Nat), .agg #[.int .i64 M.kind, .int .u64 M.num, .string M.text, .slice M.ia M.len M.cap]] wx (PenTo P ao len cap bo v (endR r a) (bytR r s) wx)
theorem box_at {P : Nat} {ao : Option Addr} {len cap : Nat} {bo : Option Nat} {v : Value} {a a' : Nat} {s s' : ByteArray} {wr wx w3 : World} {o : Obj} (h : PenAt P ao len cap bo v a s wr) (hb : wx.heap[wr.heap.size]? = some o) (hn : PenNow P ao len cap bo v a' s' wx w3) : w3.heap[wr.heap.size]? = some o := by
  obtain ⟨v', h1, h2, h3⟩ := hn
  exact h2.same hb (fun hk => Nat.lt_irrefl _ (h.lt hk))
theorem PenNow.cell0 {P : Nat} {ao : Option Addr} {len cap : Nat} {bo : Option Nat} {v : Value} {a : Nat} {s : ByteArray} {w w1 : World} (h : PenNow P ao len cap bo v a s w w1) : w1.cell? ⟨P, 0, none⟩ = some (.slice ao len cap) := by
  obtain ⟨v', h1, h2, h3⟩ := h
  exact cell_at (j := 0) h1.1 rfl
theorem PenNow.snoc {P : Nat} {ao : Option Addr} {len cap : Nat} {bo : Option Nat} {v v1 : Value} {a j : Nat} {s : ByteArray} {f : Nat → List RPart} {w w1 w' : World} (h : Only (PenFoot P bo v) w w1) (hf : ∀ k, v1.ownBlock = some k → v.ownBlock = some k ∨ w.heap.size ≤ k)
    (k : PenNow P ao len cap bo v1 (endR (f j) (endR (catTo f j) a)) (bytR (f j) (bytR (catTo f j) s)) w1 w') : PenNow P ao len cap bo v (endR (catTo f (j + 1)) a) (bytR (catTo f (j + 1)) s) w w' := by
  show PenNow P ao len cap bo v (endR (catTo f j ++ f j) a) (bytR (catTo f j ++ f j) s) w w'
  rw [endR_app, bytR_app]
  exact PenNow.trans h hf k
set_option maxHeartbeats 4000000 in
theorem celem_any (P : Nat) (ao : Option Addr) (len cap : Nat) (bo : Option Nat) (v : Value) (a : Nat) (s : ByteArray) (t : Nat) (X : TypeV) (kd nm : Int) (tx : ByteArray) (ia : Option Addr) (n cp : Nat) (K : Nat → VT) (S : Nat → Prop) (f : Nat → List RPart) (p : Nat)
    (hlen : len ≤ 1000000) (ht : t < len) (hof : X.of = (p : Nat)) (hn : n ≤ 2513169434843) (w0 w : World) (hb : Below w0.heap.size w0 w) (hu : PenUp w0.heap.size P bo) (h : PenAt P ao len cap bo v a s w) (HT : TypeAt w0 ao t X)
    (HC : ∀ i, i < n → ∀ wx, Below w0.heap.size w0 wx → CellsAt wx S ia i (K i)) (hr : RowOk bo s (catTo f n) a)
    (HK : ∀ i, i < n → ∀ v a s wx, Below w0.heap.size w0 wx → PenAt P ao len cap bo v a s wx → RowOk bo s (f i) a → CPut P ao len cap bo v a s (f i) p (K i) wx) :
    Calls Tryz.prog 55 #[.pointer (some ⟨P, 0, none⟩), .int .i64 (t : Nat), .agg #[.int .i64 kd, .int .u64 nm, .string tx, .slice ia n cp]] w (PenTo P ao len cap bo v (endR (catTo f n) a) (bytR (catTo f n) s) w) := by
  obtain ⟨tb, toff, rfl, _, _, _, c3, _, _, wf, _⟩ := HT
  rw [hof] at c3
  have hB := (Below.refl w.heap.size w).alloc (Nat.le_refl _) (.cells #[.int .i64 kd, .int .u64 nm, .string tx, .slice ia n cp] 26)
  have HP := Lib.hid (h.step hB)
  have HBW := Lib.hid (below_step8' (w := w0) (a := w) hb (hB))
  have HB := Lib.hid hB
  have HC := Lib.hid HC
  have HK := Lib.hid HK
  have HR := Lib.hid hr
  have C3 := Lib.hid c3
  clear h hb hB hr c3 wf hof
  go_enter Tryz.func55, Tryz.ntmps55
  go_wp2
  go_loopw [11] (fun i wr => ∃ j : Nat, j ≤ n ∧ i = .int .i64 j ∧ Hid (PenNow P (some ⟨tb, toff, none⟩) len cap bo v (endR (catTo f j) a) (bytR (catTo f j) s) (w.alloc (.cells #[.int .i64 kd, .int .u64 nm, .string tx, .slice ia n cp] 26)) wr)) (fun i _ => n - (intOf i).toNat)
  case atStart => exact ⟨0, Nat.zero_le _, rfl, Lib.hid (PenNow.refl HP.out)⟩
  case round =>
    obtain ⟨j, hj, rfl, HN⟩ := hrel
    by_cases hlt : j < n
    · have HW := Lib.hid (PenNow.below HBW.out HP.out hu HN.out)
      obtain ⟨b, off, rfl, _, _, c0, c1, c2, c3⟩ := HC.out j hlt wr HW.out
      obtain ⟨v1, q1, o1, f1⟩ := HN.out
      have hk := fun wx hbx hpx => HK.out j hlt v1 _ _ wx hbx hpx (HR.out.kid hlt)
      obtain ⟨M, hM⟩ : ∃ M, K j = M := ⟨_, rfl⟩
      rw [hM] at hk c0 c1 c2 c3
      unfold CPut at hk
      have hA := (Below.refl wr.heap.size wr).alloc (Nat.le_refl _) (.cells #[.int .i64 M.kind, .int .u64 M.num, .string M.text, .slice M.ia M.len M.cap] 26)
      have HQ := Lib.hid (alloc_at wr (.cells #[.int .i64 M.kind, .int .u64 M.num, .string M.text, .slice M.ia M.len M.cap] 26))
      have HA := Lib.hid hA
      have HX := Lib.hid (q1.step hA)
      have HY := Lib.hid (below_step8' (w := w0) HW.out hA)
      have Q1 := Lib.hid q1
      have F1 := Lib.hid f1
      have HD := Lib.hid hk
      clear hk hM hA q1 f1 HN
      go_upto_region 4 with (fail)
      clear c0 c1 c2 c3
      generalize wr.alloc (.cells #[.int .i64 M.kind, .int .u64 M.num, .string M.text, .slice M.ia M.len M.cap] 26) = wb at *
      have p0 : wb.cell? ⟨P, 0, none⟩ = some (.slice (some ⟨tb, toff, none⟩) len cap) := cell_at (j := 0) HX.out.1 rfl
      have k3 : wb.cell? ⟨tb, toff + t * 6 + 3, none⟩ = some (.int .i64 (p : Nat)) := keep HY.out C3.out
      have d0 : wb.cell? ⟨wr.heap.size, 0, none⟩ = some (.int .i64 M.kind) := cell_at HQ.out rfl
      have d1 : wb.cell? ⟨wr.heap.size, 1, none⟩ = some (.int .u64 M.num) := cell_at HQ.out rfl
      have d2 : wb.cell? ⟨wr.heap.size, 2, none⟩ = some (.string M.text) := cell_at HQ.out rfl
      have d3 : wb.cell? ⟨wr.heap.size, 3, none⟩ = some (.slice M.ia M.len M.cap) := cell_at HQ.out rfl
      go_region_held3 (fun w' => w'.cell? ⟨P, 0, none⟩ = some (.slice (some ⟨tb, toff, none⟩) len cap) ∧ w'.cell? ⟨tb, toff + t * 6 + 3, none⟩ = some (.int .i64 (p : Nat)) ∧ w'.cell? ⟨wr.heap.size, 0, none⟩ = some (.int .i64 M.kind) ∧ w'.cell? ⟨wr.heap.size, 1, none⟩ = some (.int .u64 M.num) ∧ w'.cell? ⟨wr.heap.size, 2, none⟩ = some (.string M.text) ∧ w'.cell? ⟨wr.heap.size, 3, none⟩ = some (.slice M.ia M.len M.cap))
        (first | exact ⟨p0, k3, d0, d1, d2, d3⟩ | fail)
        (first | (go_at_call 20; refine (HD.out _ (by first | exact HY.out | exact HY.out.drew) (by first | exact HX.out | exact HX.out.step (Below.refl _ _).drew)).mono ?_; rintro e w3 ⟨rfl, hn3⟩; have HN3 := Lib.hid (hn3.from (w := wr) (by first | exact HA.out | exact HA.out.drew)); have hbx := box_at Q1.out (by exact HQ.out) hn3; have p0 := hn3.cell0; have k3 := keep (PenNow.below HW.out Q1.out hu HN3.out) C3.out; have d0 : w3.cell? ⟨wr.heap.size, 0, none⟩ = some (.int .i64 M.kind) := cell_at hbx rfl; have d1 : w3.cell? ⟨wr.heap.size, 1, none⟩ = some (.int .u64 M.num) := cell_at hbx rfl; have d2 : w3.cell? ⟨wr.heap.size, 2, none⟩ = some (.string M.text) := cell_at hbx rfl; have d3 : w3.cell? ⟨wr.heap.size, 3, none⟩ = some (.slice M.ia M.len M.cap) := cell_at hbx rfl; clear hn3 hbx))
      go_wp2
      go_roundw
      case rel => exact ⟨j + 1, by omega, by go_num, Lib.hid (PenNow.snoc o1 F1.out (by first | exact HN3.out | exact HN3.out.drew))⟩
      case measure => simp [intOf]; omega
    · obtain rfl : j = n := by omega
      go_wp2
      go_returns
      exact ⟨rfl, HN.out.from HB.out⟩
end Go.Proofs.YtficmdomnilhnaaGreat
