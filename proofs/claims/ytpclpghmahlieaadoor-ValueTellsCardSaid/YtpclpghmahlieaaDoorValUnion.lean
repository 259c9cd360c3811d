/- The writer: unions, and any value; Text. -/
import Derived.Test.YtpclpghmahlieaaDoorValList
namespace Go.Proofs.YtpclpghmahlieaaDoor
open Go.RowKit
set_option linter.unusedVariables false
set_option maxHeartbeats 4000000 in
theorem union_any (S : Nat → Prop) (T : VT) (B b : Nat) (F : Nat → List UInt8) (G : Nat → Nat) (l : List UInt8) (w : World) (hTl : T.len ≤ 2513169434843) (h0 : 0 ≤ T.num) (h1 : T.num < 18446744073709551616) (hC : ∀ i, i < T.len → ∀ wx, Below B w wx → CellsAt wx S T.ia i (T.kid i)) (hI : KidsTo T B b F G w)
    (hT : ∀ i, i < T.len → (F i).length + 1 ≤ 24 * G i) (h : TxtAt 41 B b l w) (htab : Tab w) (hlen : l.length + (21 + 24 * sumTo G T.len) + 3 ≤ 1099511627776) (hBw : B ≤ w.heap.size) :
    Calls Tryd.prog 30 #[.pointer (some ⟨b, 0, none⟩), .agg #[.int .i64 T.kind, .int .u64 T.num, .string T.text, .slice T.ia T.len T.cap]] w (WTo (l ++ (60 :: (Lib.decDigits T.num.toNat ++ (joinTo colonS F T.len ++ [62])))) B b w) := by
  have HC := Lib.hid hC
  have HI := Lib.hid hI
  have hdl := dec_len T.num.toNat (by omega)
  obtain ⟨dg, hdg⟩ : ∃ dg, Lib.decDigits T.num.toNat = dg := ⟨_, rfl⟩
  have HDG := Lib.hid (fun wx (hx : Tab wx) => digits_any T.num h0 h1 wx hx)
  rw [hdg] at HDG hdl ⊢
  have HL := Lib.hid (fun (j : Nat) (hj : j ≤ T.len) => show (l ++ (60 :: dg) ++ joinTo colonS F j).length ≤ l.length + 21 + 24 * sumTo G j ∧ sumTo G j ≤ sumTo G T.len from ⟨by
    have := joinTo_len (s := colonS) (f := F) (g := G) (fun i => by simp [colonS]) j (fun i hi => hT i (by omega))
    simp only [List.length_append, List.length_cons]; omega, sumTo_le hj⟩)
  have HX0 := Lib.hid ((Below.refl w.heap.size w).alloc (Nat.le_refl _) (valO T))
  have HT0 := Lib.hid (h.next HX0.out)
  have HB0 := Lib.hid (HX0.out.mono hBw)
  have HK0 := Lib.hid (Kept.next (Lib.OthersKept.refl 5 (some b) w) HX0.out)
  have HTb := Lib.hid (htab.next HX0.out)
  have HQ0 := Lib.hid (alloc_at w (valO T))
  have hltb := h.lt
  have hds : (⟨dg.toArray⟩ : ByteArray).size ≤ 20 := hdl
  obtain ⟨ao, hao⟩ : ∃ a, T.ia = a := ⟨_, rfl⟩
  have HAO := Lib.hid hao
  unfold valO at HX0 HT0 HB0 HK0 HTb HQ0
  rw [hao] at HX0 HT0 HB0 HK0 HTb HQ0 ⊢
  clear hao hC hI h hT hdg
  go_enter Tryd.func30, Tryd.ntmps30
  go_wp2_with (first
    | (go_at_call 42; refine (HDG.out _ HTb.out).mono ?_; rintro e w1 ⟨rfl, hb1⟩; have HB1 := Lib.hid (HB0.out.trans (hb1.mono (by have := HB0.out.size; omega))); have HT1 := Lib.hid (HT0.out.next hb1); have HK1 := Lib.hid (Kept.next HK0.out hb1); have HQ1 := Lib.hid (box_keep HQ0.out hb1); clear hb1)
    | (go_at_call 27; refine (join2 B b _ ⟨#[60]⟩ ⟨dg.toArray⟩ l w1 HT1.out (by rw [show ((⟨#[60]⟩ : ByteArray)).size = 1 from rfl]; omega) (by have := HB1.out.size; omega) rfl).mono ?_; rintro e w2 ⟨rfl, ht2, hb2, hk2⟩; have HT2 := Lib.hid ht2; have HB2 := Lib.hid (HB1.out.trans hb2); have HK2 := Lib.hid (HK1.out.trans hk2); have hbx := hk2 w.heap.size _ HQ1.out (fun e => by have := Option.some.inj e; omega) (fun c fz e => by cases e); have x3 : w2.cell? ⟨w.heap.size, 3, none⟩ = some (.slice ao T.len T.cap) := cell_at hbx rfl; clear ht2 hb2 hk2 hbx))
  go_loopw [15] (fun i wr => ∃ j : Nat, j ≤ T.len ∧ i = .int .i64 j ∧ Hid (TxtAt 41 B b (l ++ (60 :: dg) ++ joinTo colonS F j) wr) ∧ Hid (Below B w wr) ∧ Hid (Kept b w wr)) (fun i _ => T.len - (intOf i).toNat)
  case atStart => exact ⟨0, Nat.zero_le _, rfl, Lib.hid (by rw [joinTo, List.append_nil]; simpa using HT2.out), HB2, HK2⟩
  case round =>
    obtain ⟨j, hj, rfl, HR, HBr, HKr⟩ := hrel
    obtain ⟨hlj, hsj⟩ := HL.out j hj
    by_cases hlt : j < T.len
    · have hlj2 := (HL.out (j + 1) hlt).2
      have hss := sum_succ G j
      have hBr : B ≤ wr.heap.size := by have := HBr.out.size; omega
      obtain ⟨bb, off, hia, _, _, c0, c1, c2, c3⟩ := HC.out j hlt wr HBr.out
      obtain rfl : ao = some ⟨bb, off, none⟩ := HAO.out.symm.trans hia
      have HX := Lib.hid ((Below.refl wr.heap.size wr).alloc (Nat.le_refl _) (.cells #[.int .i64 (T.kid j).kind, .int .u64 (T.kid j).num, .string (T.kid j).text, .slice (T.kid j).ia (T.kid j).len (T.kid j).cap] 25))
      have HTx := Lib.hid (HR.out.next HX.out)
      have HBx := Lib.hid (HBr.out.trans (HX.out.mono hBr))
      have HKx := Lib.hid (Kept.next HKr.out HX.out)
      have hltb2 := HR.out.lt
      clear hia
      go_wp2_with (first
        | (go_at_call 27; refine (join1 B b _ ⟨#[58]⟩ _ _ HTx.out (by rw [show ((⟨#[58]⟩ : ByteArray)).size = 1 from rfl]; omega) (by have := HBx.out.size; omega) (by simp)).mono ?_; rintro e w3 ⟨rfl, ht2, hb2, hk2⟩; have HT3 := Lib.hid ht2; have HB3 := Lib.hid (HBx.out.trans hb2); have HK3 := Lib.hid (HKx.out.trans hk2); have hbx := hk2 wr.heap.size _ (alloc_at wr _) (fun e => by have := Option.some.inj e; omega) (fun c fz e => by cases e); have x4 : w3.cell? ⟨wr.heap.size, 0, none⟩ = some (.int .i64 (T.kid j).kind) := cell_at hbx rfl; have x5 : w3.cell? ⟨wr.heap.size, 1, none⟩ = some (.int .u64 (T.kid j).num) := cell_at hbx rfl; have x6 : w3.cell? ⟨wr.heap.size, 2, none⟩ = some (.string (T.kid j).text) := cell_at hbx rfl; have x7 : w3.cell? ⟨wr.heap.size, 3, none⟩ = some (.slice (T.kid j).ia (T.kid j).len (T.kid j).cap) := cell_at hbx rfl; clear ht2 hb2 hk2 hbx c0 c1 c2 c3)
        | (go_at_call 19; refine (HI.out j hlt _ _ HB3.out HT3.out (by rw [List.length_append, show ((⟨#[58]⟩ : ByteArray).data.toList).length = 1 from rfl]; omega)).mono ?_; rintro e w4 ⟨rfl, ht3, hb3, hk3⟩; have HT4 := Lib.hid ht3; have HB4 := Lib.hid (HB3.out.trans hb3); have HK4 := Lib.hid (HK3.out.trans hk3); clear ht3 hb3 hk3))
      go_roundw
      case rel => exact ⟨j + 1, by omega, by go_num, Lib.hid (by rw [join_succ, show colonS j = [58] from rfl]; have := HT4.out; simpa [List.append_assoc] using this), HB4, HK4⟩
      case measure => simp [intOf]; omega
    · obtain rfl : j = T.len := by omega
      have HE := Lib.hid (join1 B b wr.heap.size ⟨#[62]⟩ _ wr HR.out (by rw [show ((⟨#[62]⟩ : ByteArray)).size = 1 from rfl]; omega) (by have := HBr.out.size; omega) rfl)
      go_wp2_with (first
        | (go_at_call 27; refine (HE.out).mono ?_; rintro e w1 ⟨rfl, ht1, hb1, hk1⟩))
      go_end0
      exact ⟨rfl, by simpa [List.append_assoc] using ht1, HBr.out.trans hb1, HKr.out.trans hk1⟩
end Go.Proofs.YtpclpghmahlieaaDoor
