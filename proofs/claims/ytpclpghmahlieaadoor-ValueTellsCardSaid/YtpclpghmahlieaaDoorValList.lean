/- The writer: lists of values. -/
import Derived.Test.YtpclpghmahlieaaDoorValQuote
namespace Go.Proofs.YtpclpghmahlieaaDoor
open Go.RowKit
set_option linter.unusedVariables false
abbrev agV (T : VT) : Value := .agg #[.int .i64 T.kind, .int .u64 T.num, .string T.text, .slice T.ia T.len T.cap]
theorem join_succ (s f : Nat → List UInt8) (j : Nat) : joinTo s f (j + 1) = joinTo s f j ++ (s j ++ f j) := rfl
/-- what is asked of the writing of each Item -/
def KidsTo (T : VT) (B b : Nat) (F : Nat → List UInt8) (G : Nat → Nat) (w : World) : Prop :=
  ∀ i, i < T.len → ∀ (l : List UInt8) (wx : World), Below B w wx → TxtAt 41 B b l wx → l.length + 24 * G i ≤ 1099511627776 → Calls Tryd.prog 19 #[.pointer (some ⟨b, 0, none⟩), .agg #[.int .i64 (T.kid i).kind, .int .u64 (T.kid i).num, .string (T.kid i).text, .slice (T.kid i).ia (T.kid i).len (T.kid i).cap]] wx (WTo (l ++ F i) B b wx)
set_option maxHeartbeats 4000000 in
theorem list_any (S : Nat → Prop) (T : VT) (B b : Nat) (F : Nat → List UInt8) (G : Nat → Nat) (l : List UInt8) (o c : ByteArray) (w : World) (hTl : T.len ≤ 2513169434843) (hC : ∀ i, i < T.len → ∀ wx, Below B w wx → CellsAt wx S T.ia i (T.kid i)) (hI : KidsTo T B b F G w)
    (hT : ∀ i, i < T.len → (F i).length + 1 ≤ 24 * G i) (h : TxtAt 41 B b l w) (hlen : l.length + (o.size + (c.size + 24 * sumTo G T.len)) + 10 ≤ 1099511627776) (hBw : B ≤ w.heap.size) :
    Calls Tryd.prog 29 #[.pointer (some ⟨b, 0, none⟩), .string o, .slice T.ia T.len T.cap, .string c] w (WTo (l ++ (o.data.toList ++ (joinTo commaS F T.len ++ c.data.toList))) B b w) := by
  have HC := Lib.hid hC
  have HI := Lib.hid hI
  have ho := size_list o
  have hc := size_list c
  have HL := Lib.hid (fun (j : Nat) (hj : j ≤ T.len) => show (l ++ o.data.toList ++ joinTo commaS F j).length ≤ l.length + o.size + 24 * sumTo G j ∧ sumTo G j ≤ sumTo G T.len from ⟨by
    have := joinTo_len (s := commaS) (f := F) (g := G) (fun i => by unfold commaS; split <;> simp) j (fun i hi => hT i (by omega))
    simp only [List.length_append]; omega, sumTo_le hj⟩)
  have HO := Lib.hid (join1 B b w.heap.size o l w h (by omega) hBw rfl)
  have H0 := Lib.hid h
  obtain ⟨ao, hao⟩ : ∃ a, T.ia = a := ⟨_, rfl⟩
  have HAO := Lib.hid hao
  rw [hao]
  clear hao hC hI h hT
  go_enter Tryd.func29, Tryd.ntmps29
  go_wp2_with (first
    | (go_at_call 27; refine (HO.out).mono ?_; rintro e w1 ⟨rfl, ht1, hb1, hk1⟩; have HT1 := Lib.hid ht1; have HB1 := Lib.hid hb1; have HK1 := Lib.hid hk1; clear ht1 hb1 hk1))
  go_loopw [16] (fun i wr => ∃ j : Nat, j ≤ T.len ∧ i = .int .i64 j ∧ Hid (TxtAt 41 B b (l ++ o.data.toList ++ joinTo commaS F j) wr) ∧ Hid (Below B w wr) ∧ Hid (Kept b w wr)) (fun i _ => T.len - (intOf i).toNat)
  case atStart => exact ⟨0, Nat.zero_le _, rfl, Lib.hid (by rw [joinTo, List.append_nil]; exact HT1.out), HB1, HK1⟩
  case round =>
    obtain ⟨j, hj, rfl, HR, HBr, HKr⟩ := hrel
    obtain ⟨hlj, hsj⟩ := HL.out j hj
    by_cases hlt : j < T.len
    · have hlj2 := HL.out (j + 1) hlt
      have hss := sum_succ G j
      have hBr : B ≤ wr.heap.size := by have := HBr.out.size; omega
      obtain ⟨bb, off, hia, _, _, c0, c1, c2, c3⟩ := HC.out j hlt wr HBr.out
      obtain rfl : ao = some ⟨bb, off, none⟩ := HAO.out.symm.trans hia
      have HX := Lib.hid ((Below.refl wr.heap.size wr).alloc (Nat.le_refl _) (.cells #[.int .i64 (T.kid j).kind, .int .u64 (T.kid j).num, .string (T.kid j).text, .slice (T.kid j).ia (T.kid j).len (T.kid j).cap] 25))
      have HTx := Lib.hid (HR.out.next HX.out)
      have HBx := Lib.hid (HBr.out.trans (HX.out.mono hBr))
      have HKx := Lib.hid (Kept.next HKr.out HX.out)
      have hltb := HR.out.lt
      by_cases hj0 : 0 < j
      · have t0 : decide ((0 : Int) < j) = true := by simp; omega
        have t0' : decide (0 < j) = true := by simpa using hj0
        have hcm : commaS j = [44] := by unfold commaS; rw [if_pos hj0]
        clear hj0 hia
        go_wp2_with (first
          | (go_at_call 27; refine (join1 B b _ ⟨#[44]⟩ _ _ HTx.out (by rw [show ((⟨#[44]⟩ : ByteArray)).size = 1 from rfl]; omega) (by have := HBx.out.size; omega) (by simp)).mono ?_; rintro e w2 ⟨rfl, ht2, hb2, hk2⟩; have HT2 := Lib.hid ht2; have HB2 := Lib.hid (HBx.out.trans hb2); have HK2 := Lib.hid (HKx.out.trans hk2); have hbx := hk2 wr.heap.size _ (alloc_at wr _) (fun e => by have := Option.some.inj e; omega) (fun c fz e => by cases e); have x0 : w2.cell? ⟨wr.heap.size, 0, none⟩ = some (.int .i64 (T.kid j).kind) := cell_at hbx rfl; have x1 : w2.cell? ⟨wr.heap.size, 1, none⟩ = some (.int .u64 (T.kid j).num) := cell_at hbx rfl; have x2 : w2.cell? ⟨wr.heap.size, 2, none⟩ = some (.string (T.kid j).text) := cell_at hbx rfl; have x3 : w2.cell? ⟨wr.heap.size, 3, none⟩ = some (.slice (T.kid j).ia (T.kid j).len (T.kid j).cap) := cell_at hbx rfl; clear ht2 hb2 hk2 hbx c0 c1 c2 c3)
          | (go_at_call 19; refine (HI.out j hlt _ _ HB2.out HT2.out (by rw [List.length_append, show ((⟨#[44]⟩ : ByteArray).data.toList).length = 1 from rfl]; omega)).mono ?_; rintro e w3 ⟨rfl, ht3, hb3, hk3⟩; have HT3 := Lib.hid ht3; have HB3 := Lib.hid (HB2.out.trans hb3); have HK3 := Lib.hid (HK2.out.trans hk3); clear ht3 hb3 hk3))
        go_roundw
        case rel => exact ⟨j + 1, by omega, by go_num, Lib.hid (by rw [join_succ, hcm]; have := HT3.out; simpa [List.append_assoc] using this), HB3, HK3⟩
        case measure => simp [intOf]; omega
      · have t0 : decide ((0 : Int) < j) = false := by simp; omega
        have t0' : decide (0 < j) = false := by simpa using hj0
        have hcm : commaS j = [] := by unfold commaS; rw [if_neg hj0]
        clear hj0 hia
        go_wp2_with (first
          | (go_at_call 19; refine (HI.out j hlt _ _ HBx.out HTx.out (by omega)).mono ?_; rintro e w3 ⟨rfl, ht3, hb3, hk3⟩; have HT3 := Lib.hid ht3; have HB3 := Lib.hid (HBx.out.trans hb3); have HK3 := Lib.hid (HKx.out.trans hk3); clear ht3 hb3 hk3))
        go_roundw
        case rel => exact ⟨j + 1, by omega, by go_num, Lib.hid (by rw [join_succ, hcm]; have := HT3.out; simpa [List.append_assoc] using this), HB3, HK3⟩
        case measure => simp [intOf]; omega
    · obtain rfl : j = T.len := by omega
      have HE := Lib.hid (join1 B b wr.heap.size c _ wr HR.out (by omega) (by have := HBr.out.size; omega) rfl)
      go_wp2_with (first
        | (go_at_call 27; refine (HE.out).mono ?_; rintro e w1 ⟨rfl, ht1, hb1, hk1⟩))
      go_end0
      exact ⟨rfl, by simpa [List.append_assoc] using ht1, HBr.out.trans hb1, HKr.out.trans hk1⟩
end Go.Proofs.YtpclpghmahlieaaDoor
