/- What the pen writes of a value: union, sequence, and the value itself, kind by kind. -/
import Derived.Test.YtficmdomnilhnaaGreatPutUnion
namespace Go.Proofs.YtficmdomnilhnaaGreat
open Go.RowKit
set_option linter.unusedVariables false
theorem PenNow.other {P : Nat} {ao : Option Addr} {len cap : Nat} {bo : Option Nat} {v : Value} {a g : Nat} {s : ByteArray} {w w1 : World} {o : Obj} (h : PenNow P ao len cap bo v a s w w1) (hb : w.heap[g]? = some o) (hg : ¬ PenFoot P bo v g) : w1.heap[g]? = some o := by
  obtain ⟨v', h1, h2, h3⟩ := h
  exact h2.same hb hg
set_option maxHeartbeats 8000000 in
theorem cunion_any (P : Nat) (ao : Option Addr) (len cap : Nat) (bo : Option Nat) (v : Value) (a : Nat) (s : ByteArray) (t : Nat) (X : TypeV) (q : Nat) (Y : TypeV) (kd nm : Int) (tx : ByteArray) (ia : Option Addr) (n cp : Nat) (K : Nat → VT) (S : Nat → Prop) (f : Nat → List RPart) (p : Nat)
    (hlen : len ≤ 1000000) (ht : t < len) (hq : q < len) (htag : X.tag = (q : Nat)) (h14 : X.kind = 14) (hrl : RestLast X) (hbz : 0 < n → okZ (branchZ X nm) = true) (hpt : (X.items (branchZ X nm).toNat).type = (p : Nat) ∨ n = 0) (hnm : (Lit.int .u64 nm).wf = true) (hn : n ≤ 2513169434843)
    (w0 w : World) (hb : Below w0.heap.size w0 w) (hu : PenUp w0.heap.size P bo) (h : PenAt P ao len cap bo v a s w) (HT : TypeAt w0 ao t X) (HTg : TypeAt w0 ao q Y)
    (HC : ∀ i, i < n → ∀ wx, Below w0.heap.size w0 wx → CellsAt wx S ia i (K i)) (hr : RowOk bo s ([.num (lowK Y.kind nm) (szK Y.kind)] ++ catTo f n) a)
    (HK : ∀ i, i < n → ∀ v a s wx, Below w0.heap.size w0 wx → PenAt P ao len cap bo v a s wx → RowOk bo s (f i) a → CPut P ao len cap bo v a s (f i) p (K i) wx) :
    Calls Tryz.prog 57 #[.pointer (some ⟨P, 0, none⟩), .int .i64 (t : Nat), .agg #[.int .i64 kd, .int .u64 nm, .string tx, .slice ia n cp]] w (PenTo P ao len cap bo v (endR ([.num (lowK Y.kind nm) (szK Y.kind)] ++ catTo f n) a) (bytR ([.num (lowK Y.kind nm) (szK Y.kind)] ++ catTo f n) s) w) := by
  rw [endR_app, bytR_app]
  have r1 := RowOk.fst hr
  have r2 := RowOk.snd hr
  have hcn : ∀ wx, Below w0.heap.size w0 wx → PenAt P ao len cap bo v a s wx → Calls Tryz.prog 58 #[.pointer (some ⟨P, 0, none⟩), .int .i64 (q : Nat), .agg #[.int .i64 kd, .int .u64 nm, .string tx, .slice ia n cp]] wx (PenTo P ao len cap bo v (endR [.num (lowK Y.kind nm) (szK Y.kind)] a) (bytR [.num (lowK Y.kind nm) (szK Y.kind)] s) wx) :=
    fun wx hbx hpx => cnum_any P ao len cap bo v a s q Y (.node kd nm tx ia n cp K) hlen hq hnm wx hpx (HTg.held hbx) r1
  obtain ⟨a1, ha1⟩ : ∃ a1, endR [.num (lowK Y.kind nm) (szK Y.kind)] a = a1 := ⟨_, rfl⟩
  obtain ⟨s1, hs1⟩ : ∃ s1, bytR [.num (lowK Y.kind nm) (szK Y.kind)] s = s1 := ⟨_, rfl⟩
  rw [ha1, hs1] at hcn r2 ⊢
  have hbt : 0 < n → ∀ wx, Below w0.heap.size w0 wx → Calls Tryz.prog 78 #[typV X, .int .u64 nm] wx fun e w' => e = .returned (.int .i64 (p : Nat)) ∧ Below wx.heap.size wx w' := fun hn0 wx hbx => by
    have hxx := HT.held hbx
    obtain ⟨_, _, _, _, _, _, _, _, _, _, hi⟩ := hxx
    have := btype_any X nm wx hi h14 hrl (hbz hn0)
    rw [hpt.resolve_right (by omega)] at this
    exact this
  obtain ⟨tb, toff, rfl, c0, c1, c2, c3, c4, c5, wf, _⟩ := HT
  rw [htag] at c4
  unfold typV at hbt
  rw [htag] at hbt
  have hB := (Below.refl w.heap.size w).alloc (Nat.le_refl _) (.cells #[.int .i64 kd, .int .u64 nm, .string tx, .slice ia n cp] 26)
  have HH := Lib.hid h
  have HP := Lib.hid (h.step hB)
  have HBW := Lib.hid (below_step8' (w := w0) (a := w) hb (hB))
  have HB := Lib.hid hB
  have HG := Lib.hid (alloc_at w (.cells #[.int .i64 kd, .int .u64 nm, .string tx, .slice ia n cp] 26))
  have HC := Lib.hid HC
  have HK := Lib.hid HK
  have HR := Lib.hid r2
  have HNC := Lib.hid hcn
  have HBT := Lib.hid hbt
  have C0 := Lib.hid c0
  have C1 := Lib.hid c1
  have C2 := Lib.hid c2
  have C3 := Lib.hid c3
  have C4 := Lib.hid c4
  have C5 := Lib.hid c5
  have hgw : w.heap.size < (w.alloc (.cells #[.int .i64 kd, .int .u64 nm, .string tx, .slice ia n cp] 26)).heap.size := by simp
  have HGW := Lib.hid hgw
  clear h hb hB hr c0 c1 c2 c3 c4 c5 wf r1 r2 hcn hbt hbz hpt hrl h14 htag ha1 hs1 HTg hnm hgw
  go_enter Tryz.func57, Tryz.ntmps57
  go_upto_region 1 with (fail)
  generalize hwa : w.alloc (.cells #[.int .i64 kd, .int .u64 nm, .string tx, .slice ia n cp] 26) = wa at *
  have p0 : wa.cell? ⟨P, 0, none⟩ = some (.slice (some ⟨tb, toff, none⟩) len cap) := cell_at (j := 0) HP.out.1 rfl
  have k4 : wa.cell? ⟨tb, toff + t * 6 + 4, none⟩ = some (.int .i64 (q : Nat)) := keep HBW.out C4.out
  have e0 : wa.cell? ⟨w.heap.size, 0, none⟩ = some (.int .i64 kd) := cell_at HG.out rfl
  have e1 : wa.cell? ⟨w.heap.size, 1, none⟩ = some (.int .u64 nm) := cell_at HG.out rfl
  have e2 : wa.cell? ⟨w.heap.size, 2, none⟩ = some (.string tx) := cell_at HG.out rfl
  have e3 : wa.cell? ⟨w.heap.size, 3, none⟩ = some (.slice ia n cp) := cell_at HG.out rfl
  clear hwa
  go_region_held3 (fun w' => w'.cell? ⟨P, 0, none⟩ = some (.slice (some ⟨tb, toff, none⟩) len cap) ∧ w'.cell? ⟨tb, toff + t * 6 + 4, none⟩ = some (.int .i64 (q : Nat)) ∧ w'.cell? ⟨w.heap.size, 0, none⟩ = some (.int .i64 kd) ∧ w'.cell? ⟨w.heap.size, 1, none⟩ = some (.int .u64 nm) ∧ w'.cell? ⟨w.heap.size, 2, none⟩ = some (.string tx) ∧ w'.cell? ⟨w.heap.size, 3, none⟩ = some (.slice ia n cp))
    (first | exact ⟨p0, k4, e0, e1, e2, e3⟩ | fail)
    (first | (go_at_call 58; refine (HNC.out _ (by first | exact HBW.out | exact HBW.out.drew) (by first | exact HP.out | exact HP.out.step (Below.refl _ _).drew)).mono ?_; rintro e w1 ⟨rfl, hn1⟩; have HN1 := Lib.hid (hn1.from (w := wa) (by first | exact Below.refl _ _ | exact (Below.refl _ _).drew)); have hbx := box_at HH.out (by exact HG.out) hn1; have p0 := hn1.cell0; have HW1 := Lib.hid (PenNow.below HBW.out HP.out hu HN1.out); have k4 := keep HW1.out C4.out; have e0 : w1.cell? ⟨w.heap.size, 0, none⟩ = some (.int .i64 kd) := cell_at hbx rfl; have e1 : w1.cell? ⟨w.heap.size, 1, none⟩ = some (.int .u64 nm) := cell_at hbx rfl; have e2 : w1.cell? ⟨w.heap.size, 2, none⟩ = some (.string tx) := cell_at hbx rfl; have e3 : w1.cell? ⟨w.heap.size, 3, none⟩ = some (.slice ia n cp) := cell_at hbx rfl; have HBX := Lib.hid hbx; clear hn1 hbx))
  obtain ⟨v1, q1, o1, f1⟩ := HN1.out
  have HQ1 := Lib.hid q1
  have HO1 := Lib.hid o1
  have HF1 := Lib.hid f1
  have HNF := Lib.hid (foot_not (v1 := v1) (g := w.heap.size) HGW.out (fun hk => Nat.lt_irrefl _ (HH.out.lt hk)) f1)
  clear q1 o1 f1
  go_wp2
  go_loopw [22] (fun i wr => ∃ j : Nat, j ≤ n ∧ i = .int .i64 j ∧ Hid (PenNow P (some ⟨tb, toff, none⟩) len cap bo v1 (endR (catTo f j) a1) (bytR (catTo f j) s1) w1 wr)) (fun i _ => n - (intOf i).toNat)
  case atStart => exact ⟨0, Nat.zero_le _, rfl, Lib.hid (by first | exact PenNow.refl HQ1.out | exact (PenNow.refl HQ1.out).drew)⟩
  case round =>
    obtain ⟨j, hj, rfl, HN⟩ := hrel
    by_cases hlt : j < n
    · have HW := Lib.hid (PenNow.below HW1.out HQ1.out hu HN.out)
      obtain ⟨b, off, rfl, _, _, c0, c1, c2, c3⟩ := HC.out j hlt wr HW.out
      obtain ⟨v2, q2, o2, f2⟩ := HN.out
      have hk := fun wx hbx hpx => HK.out j hlt v2 _ _ wx hbx hpx (HR.out.kid hlt)
      have HBT := Lib.hid (HBT.out (by omega))
      obtain ⟨M, hM⟩ : ∃ M, K j = M := ⟨_, rfl⟩
      rw [hM] at hk c0 c1 c2 c3
      unfold CPut at hk
      have hbr := o2.same HBX.out HNF.out
      have hA := (Below.refl wr.heap.size wr).alloc (Nat.le_refl _) (.cells #[.int .i64 M.kind, .int .u64 M.num, .string M.text, .slice M.ia M.len M.cap] 26)
      have HQ := Lib.hid (alloc_at wr (.cells #[.int .i64 M.kind, .int .u64 M.num, .string M.text, .slice M.ia M.len M.cap] 26))
      have HG2 := Lib.hid (alloc_old (o := (.cells #[.int .i64 M.kind, .int .u64 M.num, .string M.text, .slice M.ia M.len M.cap] 26)) hbr)
      have HNF2 := Lib.hid (foot_not (v1 := v2) (g := w.heap.size) (lt_of_block HBX.out) HNF.out f2)
      have HA := Lib.hid hA
      have HX := Lib.hid (q2.step hA)
      have HY := Lib.hid (below_step8' (w := w0) HW.out hA)
      have Q1 := Lib.hid q2
      have F1 := Lib.hid f2
      have HD := Lib.hid hk
      clear hk hM hA q2 f2 HN hbr p0 k4 e0 e1 e2 e3
      go_upto_region 5 with (fail)
      clear c0 c1 c2 c3
      generalize wr.alloc (.cells #[.int .i64 M.kind, .int .u64 M.num, .string M.text, .slice M.ia M.len M.cap] 26) = wb at *
      have p0 : wb.cell? ⟨P, 0, none⟩ = some (.slice (some ⟨tb, toff, none⟩) len cap) := cell_at (j := 0) HX.out.1 rfl
      have k0 : wb.cell? ⟨tb, toff + t * 6, none⟩ = some (.int .i64 X.kind) := keep HY.out C0.out
      have k1 : wb.cell? ⟨tb, toff + t * 6 + 1, none⟩ = some (.string X.name) := keep HY.out C1.out
      have k2 : wb.cell? ⟨tb, toff + t * 6 + 2, none⟩ = some (.int .i64 X.bound) := keep HY.out C2.out
      have k3 : wb.cell? ⟨tb, toff + t * 6 + 3, none⟩ = some (.int .i64 X.of) := keep HY.out C3.out
      have k4 : wb.cell? ⟨tb, toff + t * 6 + 4, none⟩ = some (.int .i64 (q : Nat)) := keep HY.out C4.out
      have k5 : wb.cell? ⟨tb, toff + t * 6 + 5, none⟩ = some (.slice X.ia X.ilen X.icap) := keep HY.out C5.out
      have e1 : wb.cell? ⟨w.heap.size, 1, none⟩ = some (.int .u64 nm) := cell_at HG2.out rfl
      have d0 : wb.cell? ⟨wr.heap.size, 0, none⟩ = some (.int .i64 M.kind) := cell_at HQ.out rfl
      have d1 : wb.cell? ⟨wr.heap.size, 1, none⟩ = some (.int .u64 M.num) := cell_at HQ.out rfl
      have d2 : wb.cell? ⟨wr.heap.size, 2, none⟩ = some (.string M.text) := cell_at HQ.out rfl
      have d3 : wb.cell? ⟨wr.heap.size, 3, none⟩ = some (.slice M.ia M.len M.cap) := cell_at HQ.out rfl
      go_region_held3 (fun w' => w'.cell? ⟨P, 0, none⟩ = some (.slice (some ⟨tb, toff, none⟩) len cap) ∧ w'.cell? ⟨tb, toff + t * 6, none⟩ = some (.int .i64 X.kind) ∧ w'.cell? ⟨tb, toff + t * 6 + 1, none⟩ = some (.string X.name) ∧ w'.cell? ⟨tb, toff + t * 6 + 2, none⟩ = some (.int .i64 X.bound) ∧ w'.cell? ⟨tb, toff + t * 6 + 3, none⟩ = some (.int .i64 X.of) ∧ w'.cell? ⟨tb, toff + t * 6 + 4, none⟩ = some (.int .i64 (q : Nat)) ∧ w'.cell? ⟨tb, toff + t * 6 + 5, none⟩ = some (.slice X.ia X.ilen X.icap) ∧ w'.cell? ⟨w.heap.size, 1, none⟩ = some (.int .u64 nm) ∧ w'.cell? ⟨wr.heap.size, 0, none⟩ = some (.int .i64 M.kind) ∧ w'.cell? ⟨wr.heap.size, 1, none⟩ = some (.int .u64 M.num) ∧ w'.cell? ⟨wr.heap.size, 2, none⟩ = some (.string M.text) ∧ w'.cell? ⟨wr.heap.size, 3, none⟩ = some (.slice M.ia M.len M.cap))
        (first | exact ⟨p0, k0, k1, k2, k3, k4, k5, e1, d0, d1, d2, d3⟩ | fail)
        (first
          | (go_at_call 78; refine (HBT.out _ (by first | exact HY.out | exact HY.out.drew)).mono ?_; rintro e w2 ⟨rfl, hb2⟩; have HX := Lib.hid (PenAt.step (by first | exact HX.out | exact HX.out.step (Below.refl _ _).drew) hb2); have HA := Lib.hid (below_step8' (w := wr) (by first | exact HA.out | exact HA.out.drew) hb2); have HY := Lib.hid (below_step8' (w := w0) (by first | exact HY.out | exact HY.out.drew) hb2); have HQ := Lib.hid (box_keep (by exact HQ.out) hb2); have HG2 := Lib.hid (box_keep (by exact HG2.out) hb2); have p0 := keep hb2 (by exact p0); have k0 := keep hb2 (by exact k0); have k1 := keep hb2 (by exact k1); have k2 := keep hb2 (by exact k2); have k3 := keep hb2 (by exact k3); have k4 := keep hb2 (by exact k4); have k5 := keep hb2 (by exact k5); have e1 := keep hb2 (by exact e1); have d0 := keep hb2 (by exact d0); have d1 := keep hb2 (by exact d1); have d2 := keep hb2 (by exact d2); have d3 := keep hb2 (by exact d3); clear hb2)
          | (go_at_call 20; refine (HD.out _ (by first | exact HY.out | exact HY.out.drew) (by first | exact HX.out | exact HX.out.step (Below.refl _ _).drew)).mono ?_; rintro e w3 ⟨rfl, hn3⟩; have HN3 := Lib.hid (hn3.from (w := wr) (by first | exact HA.out | exact HA.out.drew)); have hbx := box_at Q1.out (by exact HQ.out) hn3; have hgx := PenNow.other hn3 (by exact HG2.out) HNF2.out; have p0 := hn3.cell0; have HY3 := Lib.hid (PenNow.below HW.out Q1.out hu HN3.out); have k0 : w3.cell? ⟨tb, toff + t * 6, none⟩ = some (.int .i64 X.kind) := keep HY3.out C0.out; have k1 : w3.cell? ⟨tb, toff + t * 6 + 1, none⟩ = some (.string X.name) := keep HY3.out C1.out; have k2 : w3.cell? ⟨tb, toff + t * 6 + 2, none⟩ = some (.int .i64 X.bound) := keep HY3.out C2.out; have k3 : w3.cell? ⟨tb, toff + t * 6 + 3, none⟩ = some (.int .i64 X.of) := keep HY3.out C3.out; have k4 : w3.cell? ⟨tb, toff + t * 6 + 4, none⟩ = some (.int .i64 (q : Nat)) := keep HY3.out C4.out; have k5 : w3.cell? ⟨tb, toff + t * 6 + 5, none⟩ = some (.slice X.ia X.ilen X.icap) := keep HY3.out C5.out; have e1 : w3.cell? ⟨w.heap.size, 1, none⟩ = some (.int .u64 nm) := cell_at hgx rfl; have d0 : w3.cell? ⟨wr.heap.size, 0, none⟩ = some (.int .i64 M.kind) := cell_at hbx rfl; have d1 : w3.cell? ⟨wr.heap.size, 1, none⟩ = some (.int .u64 M.num) := cell_at hbx rfl; have d2 : w3.cell? ⟨wr.heap.size, 2, none⟩ = some (.string M.text) := cell_at hbx rfl; have d3 : w3.cell? ⟨wr.heap.size, 3, none⟩ = some (.slice M.ia M.len M.cap) := cell_at hbx rfl; clear hn3 hbx hgx))
      go_wp2
      go_roundw
      case rel => exact ⟨j + 1, by omega, by go_num, Lib.hid (PenNow.snoc o2 F1.out (by first | exact HN3.out | exact HN3.out.drew))⟩
      case measure => simp [intOf]; omega
    · obtain rfl : j = n := by omega
      go_wp2
      go_returns
      exact ⟨rfl, (PenNow.trans HO1.out HF1.out HN.out).from HB.out⟩
set_option maxHeartbeats 4000000 in
theorem cseq_any (P : Nat) (ao : Option Addr) (len cap : Nat) (bo : Option Nat) (v : Value) (a : Nat) (s : ByteArray) (t : Nat) (X : TypeV) (kd nm : Int) (tx : ByteArray) (ia : Option Addr) (n cp : Nat) (K : Nat → VT) (S : Nat → Prop) (f : Nat → List RPart) (p : Nat)
    (hlen : len ≤ 1000000) (ht : t < len) (hof : X.of = (p : Nat)) (hn : n ≤ 2513169434843) (w0 w : World) (hb : Below w0.heap.size w0 w) (hu : PenUp w0.heap.size P bo) (h : PenAt P ao len cap bo v a s w) (HT : TypeAt w0 ao t X)
    (HC : ∀ i, i < n → ∀ wx, Below w0.heap.size w0 wx → CellsAt wx S ia i (K i)) (hr : RowOk bo s ([.num (n : Nat) 4] ++ catTo f n) a)
    (HK : ∀ i, i < n → ∀ v a s wx, Below w0.heap.size w0 wx → PenAt P ao len cap bo v a s wx → RowOk bo s (f i) a → CPut P ao len cap bo v a s (f i) p (K i) wx) :
    Calls Tryz.prog 54 #[.pointer (some ⟨P, 0, none⟩), .int .i64 (t : Nat), .agg #[.int .i64 kd, .int .u64 nm, .string tx, .slice ia n cp]] w (PenTo P ao len cap bo v (endR ([.num (n : Nat) 4] ++ catTo f n) a) (bytR ([.num (n : Nat) 4] ++ catTo f n) s) w) := by
  rw [endR_app, bytR_app]
  have r1 := RowOk.fst hr
  have r2 := RowOk.snd hr
  have hcn : ∀ wx, PenAt P ao len cap bo v a s wx → Calls Tryz.prog 76 #[.pointer (some ⟨P, 0, none⟩), .int .u64 (n : Nat), .int .i64 4] wx (PenTo P ao len cap bo v (endR [.num (n : Nat) 4] a) (bytR [.num (n : Nat) 4] s) wx) := fun wx hpx => pnum_any P ao len cap bo v a s (n : Nat) 4 wx hpx r1
  obtain ⟨a1, ha1⟩ : ∃ a1, endR [.num (n : Nat) 4] a = a1 := ⟨_, rfl⟩
  obtain ⟨s1, hs1⟩ : ∃ s1, bytR [.num (n : Nat) 4] s = s1 := ⟨_, rfl⟩
  rw [ha1, hs1] at hcn r2 ⊢
  have hel := fun v1 w1 hbx hpx => celem_any P ao len cap bo v1 a1 s1 t X kd nm tx ia n cp K S f p hlen ht hof hn w0 w1 hbx hu hpx HT HC r2 HK
  have hB := (Below.refl w.heap.size w).alloc (Nat.le_refl _) (.cells #[.int .i64 kd, .int .u64 nm, .string tx, .slice ia n cp] 26)
  have HH := Lib.hid h
  have HP := Lib.hid (h.step hB)
  have HBW := Lib.hid (below_step8' (w := w0) (a := w) hb (hB))
  have HB := Lib.hid hB
  have HN := Lib.hid hcn
  have HE := Lib.hid hel
  have hun : IntKind.u64.wrap (n : Nat) = (n : Nat) := IntWalk.u64_in _ (by omega)
  clear h hb hB hr r1 r2 hcn hel ha1 hs1 HT HC HK hof
  go_enter Tryz.func54, Tryz.ntmps54
  go_wp2_with (first
    | (go_at_call 76; refine (HN.out _ HP.out).mono ?_; rintro e w1 ⟨rfl, hn1⟩; have hbx := box_now HH.out hn1; have HW1 := Lib.hid (PenNow.below HBW.out HP.out hu hn1); have e0 : w1.cell? ⟨w.heap.size, 0, none⟩ = some (.int .i64 kd) := cell_at hbx rfl; have e1 : w1.cell? ⟨w.heap.size, 1, none⟩ = some (.int .u64 nm) := cell_at hbx rfl; have e2 : w1.cell? ⟨w.heap.size, 2, none⟩ = some (.string tx) := cell_at hbx rfl; have e3 : w1.cell? ⟨w.heap.size, 3, none⟩ = some (.slice ia n cp) := cell_at hbx rfl; obtain ⟨v1, q1, o1, f1⟩ := hn1; have Q1 := Lib.hid q1; have F1 := Lib.hid f1; clear q1 f1 hbx)
    | (go_at_call 55; refine (HE.out _ _ HW1.out Q1.out).mono ?_; rintro e w2 ⟨rfl, hn2⟩))
  go_returns
  exact ⟨rfl, (PenNow.trans o1 F1.out hn2).from HB.out⟩
set_option maxHeartbeats 4000000 in
/-- value: the encoding of the type's kind is called -/
theorem cvalue_any (P : Nat) (ao : Option Addr) (len cap : Nat) (bo : Option Nat) (v : Value) (a : Nat) (s : ByteArray) (t : Nat) (X : TypeV) (M : VT) (r : List RPart) (hlen : len ≤ 1000000) (ht : t < len) (w0 w : World) (hb : Below w0.heap.size w0 w) (hu : PenUp w0.heap.size P bo) (h : PenAt P ao len cap bo v a s w) (HT : TypeAt w0 ao t X)
    (HE : ∀ wx, Below w0.heap.size w0 wx → PenAt P ao len cap bo v a s wx → Calls Tryz.prog (encN X.kind) #[.pointer (some ⟨P, 0, none⟩), .int .i64 (t : Nat), .agg #[.int .i64 M.kind, .int .u64 M.num, .string M.text, .slice M.ia M.len M.cap]] wx (PenTo P ao len cap bo v (endR r a) (bytR r s) wx)) :
    CPut P ao len cap bo v a s r t M w := by
  unfold CPut
  obtain ⟨tb, toff, rfl, c0, _, _, _, _, _, wf, _⟩ := HT
  have heg := eEnc X.kind
  have henc := fun w => enc_any X.kind w
  obtain ⟨k, hk⟩ : ∃ k, X.kind = k := ⟨_, rfl⟩
  rw [hk] at c0 heg henc HE
  obtain ⟨g, hg⟩ : ∃ g, encN k = g := ⟨_, rfl⟩
  rw [hg] at heg henc HE
  have hA := (Below.refl w.heap.size w).alloc (Nat.le_refl _) (.cells #[.int .i64 M.kind, .int .u64 M.num, .string M.text, .slice M.ia M.len M.cap] 26)
  have HH := Lib.hid h
  have HP := Lib.hid (h.step hA)
  have HY := Lib.hid (below_step8' (w := w0) (a := w) hb hA)
  have HA := Lib.hid hA
  have HQ := Lib.hid (alloc_at w (.cells #[.int .i64 M.kind, .int .u64 M.num, .string M.text, .slice M.ia M.len M.cap] 26))
  have HD := Lib.hid HE
  have HN := Lib.hid henc
  have C0 := Lib.hid c0
  unfold Enters at heg
  clear HE henc h hb hA c0 hk hg wf
  go_enter Tryz.func20, Tryz.ntmps20
  go_upto_region 1 with (fail)
  generalize w.alloc (.cells #[.int .i64 M.kind, .int .u64 M.num, .string M.text, .slice M.ia M.len M.cap] 26) = wb at *
  have p0 : wb.cell? ⟨P, 0, none⟩ = some (.slice (some ⟨tb, toff, none⟩) len cap) := cell_at (j := 0) HP.out.1 rfl
  have k0 : wb.cell? ⟨tb, toff + t * 6, none⟩ = some (.int .i64 k) := keep HY.out C0.out
  have d0 : wb.cell? ⟨w.heap.size, 0, none⟩ = some (.int .i64 M.kind) := cell_at HQ.out rfl
  have d1 : wb.cell? ⟨w.heap.size, 1, none⟩ = some (.int .u64 M.num) := cell_at HQ.out rfl
  have d2 : wb.cell? ⟨w.heap.size, 2, none⟩ = some (.string M.text) := cell_at HQ.out rfl
  have d3 : wb.cell? ⟨w.heap.size, 3, none⟩ = some (.slice M.ia M.len M.cap) := cell_at HQ.out rfl
  go_region_held3 (fun w' => w'.cell? ⟨P, 0, none⟩ = some (.slice (some ⟨tb, toff, none⟩) len cap) ∧ w'.cell? ⟨tb, toff + t * 6, none⟩ = some (.int .i64 k) ∧ w'.cell? ⟨w.heap.size, 0, none⟩ = some (.int .i64 M.kind) ∧ w'.cell? ⟨w.heap.size, 1, none⟩ = some (.int .u64 M.num) ∧ w'.cell? ⟨w.heap.size, 2, none⟩ = some (.string M.text) ∧ w'.cell? ⟨w.heap.size, 3, none⟩ = some (.slice M.ia M.len M.cap))
    (first | exact ⟨p0, k0, d0, d1, d2, d3⟩ | fail)
    (first
      | (go_at_call 34; refine (HN.out _).mono ?_; rintro e w2 ⟨rfl, rfl⟩)
      | (go_at_fn g; refine (HD.out _ (by first | exact HY.out | exact HY.out.drew) (by first | exact HP.out | exact HP.out.step (Below.refl _ _).drew)).mono ?_; rintro e w3 ⟨rfl, hn3⟩; have HN3 := Lib.hid (hn3.from (w := w) (by first | exact HA.out | exact HA.out.drew)); have hbx := box_at HH.out (by exact HQ.out) hn3; have p0 := hn3.cell0; have k0 := keep (PenNow.below HY.out HP.out hu (hn3.from (w := wb) (by first | exact Below.refl _ _ | exact (Below.refl _ _).drew))) C0.out; have d0 : w3.cell? ⟨w.heap.size, 0, none⟩ = some (.int .i64 M.kind) := cell_at hbx rfl; have d1 : w3.cell? ⟨w.heap.size, 1, none⟩ = some (.int .u64 M.num) := cell_at hbx rfl; have d2 : w3.cell? ⟨w.heap.size, 2, none⟩ = some (.string M.text) := cell_at hbx rfl; have d3 : w3.cell? ⟨w.heap.size, 3, none⟩ = some (.slice M.ia M.len M.cap) := cell_at hbx rfl; clear hn3 hbx))
  go_wp2
  go_returns
  exact ⟨rfl, by first | exact HN3.out | exact HN3.out.drew⟩
end Go.Proofs.YtficmdomnilhnaaGreat
