/- A text between quotes, as package value writes it. -/
import Derived.Test.YtmnemddagcfjgaaGreatDoorValNumber
namespace Go.Proofs.YtmnemddagcfjgaaGreatDoor
open Go.RowKit
set_option linter.unusedVariables false
theorem isPlain_any (c : Nat) (hc : c < 256) (w : World) : Calls Tryz.prog 104 #[.int .u8 (c : Nat)] w fun e w' => e = .returned (.bool (plainB (c : Nat))) ∧ w = w' := by
  obtain ⟨p, hp⟩ : ∃ p, plainB (c : Nat) = p := ⟨_, rfl⟩
  rw [hp]
  have HP := Lib.hid hp
  clear hp
  go_enter Tryz.func104, Tryz.ntmps104
  go_wp2
  all_goals
    go_ret
    exact ⟨ret_bool (by rw [← HP.out]; unfold plainB; rw [Bool.eq_iff_iff]; simp; omega), rfl⟩
def hexS : ByteArray := ⟨#[48, 49, 50, 51, 52, 53, 54, 55, 56, 57, 97, 98, 99, 100, 101, 102]⟩
theorem quote_next (s : ByteArray) (j : Nat) (hj : j < s.size) : quoteL (s.data.toList.take (j + 1)) = quoteL (s.data.toList.take j) ++ quoteB (s[j]'hj) := by
  have hl : j < s.data.toList.length := by simpa using hj
  unfold quoteL
  rw [List.take_succ_eq_append_getElem hl, List.flatMap_append]
  simp
  rfl
theorem quote_le (s : ByteArray) (j : Nat) (hj : j ≤ s.size) : (quoteL (s.data.toList.take j)).length ≤ 3 * s.size := by
  have h := quoteL_len (s.data.toList.take j)
  rw [List.length_take] at h
  have : s.data.toList.length = s.size := by simp
  omega
theorem hex_fig : ∀ q : Fin 16, (#[48, 49, 50, 51, 52, 53, 54, 55, 56, 57, 97, 98, 99, 100, 101, 102] : Array UInt8)[q.val]'(by simp) = figB q.val := by decide
theorem hex_hi (c : Nat) (h : c < 256) (hq : c / 16 < (⟨#[48, 49, 50, 51, 52, 53, 54, 55, 56, 57, 97, 98, 99, 100, 101, 102]⟩ : ByteArray).size) : (⟨#[48, 49, 50, 51, 52, 53, 54, 55, 56, 57, 97, 98, 99, 100, 101, 102]⟩ : ByteArray)[c / 16]'hq = figB (c / 16) := hex_fig ⟨c / 16, by omega⟩
theorem hex_lo (c : Nat) (hq : c % 16 < (⟨#[48, 49, 50, 51, 52, 53, 54, 55, 56, 57, 97, 98, 99, 100, 101, 102]⟩ : ByteArray).size) : (⟨#[48, 49, 50, 51, 52, 53, 54, 55, 56, 57, 97, 98, 99, 100, 101, 102]⟩ : ByteArray)[c % 16]'hq = figB (c % 16) := hex_fig ⟨c % 16, by omega⟩
set_option maxHeartbeats 2000000 in
theorem quoted_any (s : ByteArray) (hs : s.size ≤ 1099511627776) (w : World) :
    Calls Tryz.prog 61 #[.string s] w fun e w' => e = .returned (.string ⟨(quoteL s.data.toList).toArray⟩) ∧ Below w.heap.size w w' := by
  have hml : s.size ≤ maxLen := by unfold maxLen; omega
  have H0 := Lib.hid (show TxtAt 84 w.heap.size w.heap.size [] (w.alloc (.cells #[.pointer none, .slice none 0 0] 84)) from Lib.fresh_isBuilder _ _ w)
  have HW := Lib.hid (fun (l : List UInt8) (c : UInt8) (wx : World) (hx : TxtAt 84 w.heap.size w.heap.size l wx) (hl : l.length ≤ 5497558138880) (hb : Below w.heap.size w wx) => writeByte8 84 liesBuilder w.heap.size w.heap.size l c wx hx (by omega) hb.size)
  have HS := Lib.hid (fun (l : List UInt8) (wx : World) (hx : TxtAt 84 w.heap.size w.heap.size l wx) (hb : Below w.heap.size w wx) => Tryz.Builder_String_any w.heap.size w.heap.size l wx hx hb.size)
  have HL := Lib.hid (fun j (hj : j ≤ s.size) => quote_le s j hj)
  go_enter Tryz.func61, Tryz.ntmps61
  go_wp2
  go_loopw [8] (fun i wr => ∃ j : Nat, j ≤ s.size ∧ i = .int .i64 j ∧ Hid (TxtAt 84 w.heap.size w.heap.size (quoteL (s.data.toList.take j)) wr) ∧ Hid (Below w.heap.size w wr)) (fun i _ => s.size - (intOf i).toNat)
  case atStart => exact ⟨0, Nat.zero_le _, rfl, H0, Lib.hid ((Below.refl _ _).alloc (Nat.le_refl _) _)⟩
  case round =>
    obtain ⟨j, hj, rfl, HR, HBr⟩ := hrel
    by_cases hlt : j < s.size
    · have hl := HL.out j hj
      have hc : (s[j]'hlt).toNat < 256 := UInt8.toNat_lt _
      have HP := Lib.hid (isPlain_any (s[j]'hlt).toNat hc)
      have HQ := Lib.hid (quote_next s j hlt)
      cases hp : plainB ((s[j]'hlt).toNat : Nat) with
      | true =>
        have he : quoteB (s[j]'hlt) = [s[j]'hlt] := by unfold quoteB; rw [if_pos hp]
        rw [he] at HQ
        rw [hp] at HP
        clear hp he
        have HX := Lib.hid (HW.out _ (s[j]'hlt) wr HR.out (by omega) HBr.out)
        go_wp2_with (first
          | (go_at_call 104; refine (HP.out _).mono ?_; rintro e w2 ⟨rfl, rfl⟩)
          | (go_at_call 105; refine (HX.out).mono ?_; rintro e w3 ⟨rfl, ht3, hb3, _⟩))
        go_roundw
        case rel => exact ⟨j + 1, by omega, by go_num, Lib.hid (by rw [HQ.out]; exact ht3), Lib.hid (HBr.out.trans hb3)⟩
        case measure => simp [intOf]; omega
      | false =>
        have he : quoteB (s[j]'hlt) = [92, figB ((s[j]'hlt).toNat / 16), figB ((s[j]'hlt).toNat % 16)] := by unfold quoteB; rw [if_neg (by simp [hp])]
        rw [he] at HQ
        rw [hp] at HP
        clear hp he
        have HX := Lib.hid (HW.out _ 92 wr HR.out (by omega) HBr.out)
        go_wp2_with (first
          | (go_at_call 104; refine (HP.out _).mono ?_; rintro e w2 ⟨rfl, rfl⟩)
          | (go_at_call 105; refine (HX.out).mono ?_; rintro e w3 ⟨rfl, ht3, hb3, _⟩; have HT3 := Lib.hid ht3; have HB3 := Lib.hid (HBr.out.trans hb3); clear HX ht3 hb3)
          | (go_at_call 105; refine (HW.out _ _ _ HT3.out (by simp; omega) HB3.out).mono ?_; rintro e w4 ⟨rfl, ht4, hb4, _⟩; have HT4 := Lib.hid ht4; have HB4 := Lib.hid (HB3.out.trans hb4); clear HT3 HB3 ht4 hb4)
          | (go_at_call 105; refine (HW.out _ _ _ HT4.out (by simp; omega) HB4.out).mono ?_; rintro e w5 ⟨rfl, ht5, hb5, _⟩; have HT5 := Lib.hid ht5; have HB5 := Lib.hid (HB4.out.trans hb5); clear HT4 HB4 ht5 hb5))
        go_roundw
        case rel => exact ⟨j + 1, by omega, by go_num, Lib.hid (by rw [HQ.out]; have h5 := HT5.out; rw [hex_hi _ hc, hex_lo _] at h5; simpa using h5), HB5⟩
        case measure => simp [intOf]; omega
    · obtain rfl : j = s.size := by omega
      have he : s.data.toList.take s.size = s.data.toList := List.take_of_length_le (by simp)
      rw [he] at HR
      have HX := Lib.hid (HS.out _ wr HR.out HBr.out)
      go_wp2_with (go_at_call 37; refine (HX.out).mono ?_; rintro e w3 ⟨rfl, hb3⟩)
      go_ret
      exact ⟨rfl, HBr.out.trans hb3⟩
end Go.Proofs.YtmnemddagcfjgaaGreatDoor
namespace Go.Proofs.YtmnemddagcfjgaaGreatDoor
open Go.RowKit
set_option linter.unusedVariables false
abbrev agV (T : VT) : Value := .agg #[.int .i64 T.kind, .int .u64 T.num, .string T.text, .slice T.ia T.len T.cap]
theorem join_succ (s f : Nat → List UInt8) (j : Nat) : joinTo s f (j + 1) = joinTo s f j ++ (s j ++ f j) := rfl
/-- what is asked of the writing of each Item -/
def KidsTo (T : VT) (B b : Nat) (F : Nat → List UInt8) (G : Nat → Nat) (w : World) : Prop :=
  ∀ i, i < T.len → ∀ (l : List UInt8) (wx : World), Below B w wx → TxtAt 86 B b l wx → l.length + 24 * G i ≤ 1099511627776 → Calls Tryz.prog 36 #[.pointer (some ⟨b, 0, none⟩), .agg #[.int .i64 (T.kid i).kind, .int .u64 (T.kid i).num, .string (T.kid i).text, .slice (T.kid i).ia (T.kid i).len (T.kid i).cap]] wx (WTo (l ++ F i) B b wx)
set_option maxHeartbeats 4000000 in
theorem list_any (S : Nat → Prop) (T : VT) (B b : Nat) (F : Nat → List UInt8) (G : Nat → Nat) (l : List UInt8) (o c : ByteArray) (w : World) (hTl : T.len ≤ 2513169434843) (hC : ∀ i, i < T.len → ∀ wx, Below B w wx → CellsAt wx S T.ia i (T.kid i)) (hI : KidsTo T B b F G w)
    (hT : ∀ i, i < T.len → (F i).length + 1 ≤ 24 * G i) (h : TxtAt 86 B b l w) (hlen : l.length + (o.size + (c.size + 24 * sumTo G T.len)) + 10 ≤ 1099511627776) (hBw : B ≤ w.heap.size) :
    Calls Tryz.prog 62 #[.pointer (some ⟨b, 0, none⟩), .string o, .slice T.ia T.len T.cap, .string c] w (WTo (l ++ (o.data.toList ++ (joinTo commaS F T.len ++ c.data.toList))) B b w) := by
  have HC := Lib.hid hC
  have HI := Lib.hid hI
  have ho := size_list o
  have hc := size_list c
  have HL := Lib.hid (fun (j : Nat) (hj : j ≤ T.len) => show (l ++ o.data.toList ++ joinTo commaS F j).length ≤ l.length + o.size + 24 * sumTo G j ∧ sumTo G j ≤ sumTo G T.len from ⟨by
    have := joinTo_len (s := commaS) (f := F) (g := G) (fun i => by unfold commaS; split <;> simp) j (fun i hi => hT i (by omega))
    simp only [List.length_append]; omega, sumTo_le hj⟩)
  have HO := Lib.hid (join1 B b w.heap.size o l w h (by omega) hBw rfl)
  have H0 := Lib.hid h
  obtain ⟨ao, hao⟩ : ∃ a, T.ia = a := ⟨_, rfl⟩
  have HAO := Lib.hid hao
  rw [hao]
  clear hao hC hI h hT
  go_enter Tryz.func62, Tryz.ntmps62
  go_wp2_with (first
    | (go_at_call 60; refine (HO.out).mono ?_; rintro e w1 ⟨rfl, ht1, hb1, hk1⟩; have HT1 := Lib.hid ht1; have HB1 := Lib.hid hb1; have HK1 := Lib.hid hk1; clear ht1 hb1 hk1))
  go_loopw [16] (fun i wr => ∃ j : Nat, j ≤ T.len ∧ i = .int .i64 j ∧ Hid (TxtAt 86 B b (l ++ o.data.toList ++ joinTo commaS F j) wr) ∧ Hid (Below B w wr) ∧ Hid (Kept b w wr)) (fun i _ => T.len - (intOf i).toNat)
  case atStart => exact ⟨0, Nat.zero_le _, rfl, Lib.hid (by rw [joinTo, List.append_nil]; exact HT1.out), HB1, HK1⟩
  case round =>
    obtain ⟨j, hj, rfl, HR, HBr, HKr⟩ := hrel
    obtain ⟨hlj, hsj⟩ := HL.out j hj
    by_cases hlt : j < T.len
    · have hlj2 := HL.out (j + 1) hlt
      have hss := sum_succ G j
      have hBr : B ≤ wr.heap.size := by have := HBr.out.size; omega
      obtain ⟨bb, off, hia, _, _, c0, c1, c2, c3⟩ := HC.out j hlt wr HBr.out
      obtain rfl : ao = some ⟨bb, off, none⟩ := HAO.out.symm.trans hia
      have HX := Lib.hid ((Below.refl wr.heap.size wr).alloc (Nat.le_refl _) (.cells #[.int .i64 (T.kid j).kind, .int .u64 (T.kid j).num, .string (T.kid j).text, .slice (T.kid j).ia (T.kid j).len (T.kid j).cap] 28))
      have HTx := Lib.hid (HR.out.next HX.out)
      have HBx := Lib.hid (HBr.out.trans (HX.out.mono hBr))
      have HKx := Lib.hid (Kept.next HKr.out HX.out)
      have hltb := HR.out.lt
      by_cases hj0 : 0 < j
      · have t0 : decide ((0 : Int) < j) = true := by simp; omega
        have t0' : decide (0 < j) = true := by simpa using hj0
        have hcm : commaS j = [44] := by unfold commaS; rw [if_pos hj0]
        clear hj0 hia
        go_wp2_with (first
          | (go_at_call 60; refine (join1 B b _ ⟨#[44]⟩ _ _ HTx.out (by rw [show ((⟨#[44]⟩ : ByteArray)).size = 1 from rfl]; omega) (by have := HBx.out.size; omega) (by simp)).mono ?_; rintro e w2 ⟨rfl, ht2, hb2, hk2⟩; have HT2 := Lib.hid ht2; have HB2 := Lib.hid (HBx.out.trans hb2); have HK2 := Lib.hid (HKx.out.trans hk2); have hbx := hk2 wr.heap.size _ (alloc_at wr _) (fun e => by have := Option.some.inj e; omega) (fun c fz e => by cases e); have x0 : w2.cell? ⟨wr.heap.size, 0, none⟩ = some (.int .i64 (T.kid j).kind) := cell_at hbx rfl; have x1 : w2.cell? ⟨wr.heap.size, 1, none⟩ = some (.int .u64 (T.kid j).num) := cell_at hbx rfl; have x2 : w2.cell? ⟨wr.heap.size, 2, none⟩ = some (.string (T.kid j).text) := cell_at hbx rfl; have x3 : w2.cell? ⟨wr.heap.size, 3, none⟩ = some (.slice (T.kid j).ia (T.kid j).len (T.kid j).cap) := cell_at hbx rfl; clear ht2 hb2 hk2 hbx c0 c1 c2 c3)
          | (go_at_call 36; refine (HI.out j hlt _ _ HB2.out HT2.out (by rw [List.length_append, show ((⟨#[44]⟩ : ByteArray).data.toList).length = 1 from rfl]; omega)).mono ?_; rintro e w3 ⟨rfl, ht3, hb3, hk3⟩; have HT3 := Lib.hid ht3; have HB3 := Lib.hid (HB2.out.trans hb3); have HK3 := Lib.hid (HK2.out.trans hk3); clear ht3 hb3 hk3))
        go_roundw
        case rel => exact ⟨j + 1, by omega, by go_num, Lib.hid (by rw [join_succ, hcm]; have := HT3.out; simpa [List.append_assoc] using this), HB3, HK3⟩
        case measure => simp [intOf]; omega
      · have t0 : decide ((0 : Int) < j) = false := by simp; omega
        have t0' : decide (0 < j) = false := by simpa using hj0
        have hcm : commaS j = [] := by unfold commaS; rw [if_neg hj0]
        clear hj0 hia
        go_wp2_with (first
          | (go_at_call 36; refine (HI.out j hlt _ _ HBx.out HTx.out (by omega)).mono ?_; rintro e w3 ⟨rfl, ht3, hb3, hk3⟩; have HT3 := Lib.hid ht3; have HB3 := Lib.hid (HBx.out.trans hb3); have HK3 := Lib.hid (HKx.out.trans hk3); clear ht3 hb3 hk3))
        go_roundw
        case rel => exact ⟨j + 1, by omega, by go_num, Lib.hid (by rw [join_succ, hcm]; have := HT3.out; simpa [List.append_assoc] using this), HB3, HK3⟩
        case measure => simp [intOf]; omega
    · obtain rfl : j = T.len := by omega
      have HE := Lib.hid (join1 B b wr.heap.size c _ wr HR.out (by omega) (by have := HBr.out.size; omega) rfl)
      go_wp2_with (first
        | (go_at_call 60; refine (HE.out).mono ?_; rintro e w1 ⟨rfl, ht1, hb1, hk1⟩))
      go_end0
      exact ⟨rfl, by simpa [List.append_assoc] using ht1, HBr.out.trans hb1, HKr.out.trans hk1⟩
end Go.Proofs.YtmnemddagcfjgaaGreatDoor
namespace Go.Proofs.YtmnemddagcfjgaaGreatDoor
open Go.RowKit
set_option linter.unusedVariables false
set_option maxHeartbeats 4000000 in
theorem unionW_any (S : Nat → Prop) (T : VT) (B b : Nat) (F : Nat → List UInt8) (G : Nat → Nat) (l : List UInt8) (w : World) (hTl : T.len ≤ 2513169434843) (h0 : 0 ≤ T.num) (h1 : T.num < 18446744073709551616) (hC : ∀ i, i < T.len → ∀ wx, Below B w wx → CellsAt wx S T.ia i (T.kid i)) (hI : KidsTo T B b F G w)
    (hT : ∀ i, i < T.len → (F i).length + 1 ≤ 24 * G i) (h : TxtAt 86 B b l w) (htab : Tab w) (hlen : l.length + (21 + 24 * sumTo G T.len) + 3 ≤ 1099511627776) (hBw : B ≤ w.heap.size) :
    Calls Tryz.prog 63 #[.pointer (some ⟨b, 0, none⟩), .agg #[.int .i64 T.kind, .int .u64 T.num, .string T.text, .slice T.ia T.len T.cap]] w (WTo (l ++ (60 :: (Lib.decDigits T.num.toNat ++ (joinTo colonS F T.len ++ [62])))) B b w) := by
  have HC := Lib.hid hC
  have HI := Lib.hid hI
  have hdl := dec_len T.num.toNat (by omega)
  obtain ⟨dg, hdg⟩ : ∃ dg, Lib.decDigits T.num.toNat = dg := ⟨_, rfl⟩
  have HDG := Lib.hid (fun wx (hx : Tab wx) => digits_any T.num h0 h1 wx hx)
  rw [hdg] at HDG hdl ⊢
  have HL := Lib.hid (fun (j : Nat) (hj : j ≤ T.len) => show (l ++ (60 :: dg) ++ joinTo colonS F j).length ≤ l.length + 21 + 24 * sumTo G j ∧ sumTo G j ≤ sumTo G T.len from ⟨by
    have := joinTo_len (s := colonS) (f := F) (g := G) (fun i => by simp [colonS]) j (fun i hi => hT i (by omega))
    simp only [List.length_append, List.length_cons]; omega, sumTo_le hj⟩)
  have HX0 := Lib.hid ((Below.refl w.heap.size w).alloc (Nat.le_refl _) (valO T))
  have HT0 := Lib.hid (h.next HX0.out)
  have HB0 := Lib.hid (HX0.out.mono hBw)
  have HK0 := Lib.hid (Kept.next (Lib.OthersKept.refl 5 (some b) w) HX0.out)
  have HTb := Lib.hid (htab.next HX0.out)
  have HQ0 := Lib.hid (alloc_at w (valO T))
  have hltb := h.lt
  have hds : (⟨dg.toArray⟩ : ByteArray).size ≤ 20 := hdl
  obtain ⟨ao, hao⟩ : ∃ a, T.ia = a := ⟨_, rfl⟩
  have HAO := Lib.hid hao
  unfold valO at HX0 HT0 HB0 HK0 HTb HQ0
  rw [hao] at HX0 HT0 HB0 HK0 HTb HQ0 ⊢
  clear hao hC hI h hT hdg
  go_enter Tryz.func63, Tryz.ntmps63
  go_wp2_with (first
    | (go_at_call 106; refine (HDG.out _ HTb.out).mono ?_; rintro e w1 ⟨rfl, hb1⟩; have HB1 := Lib.hid (HB0.out.trans (hb1.mono (by have := HB0.out.size; omega))); have HT1 := Lib.hid (HT0.out.next hb1); have HK1 := Lib.hid (Kept.next HK0.out hb1); have HQ1 := Lib.hid (box_keep HQ0.out hb1); clear hb1)
    | (go_at_call 60; refine (join2 B b _ ⟨#[60]⟩ ⟨dg.toArray⟩ l w1 HT1.out (by rw [show ((⟨#[60]⟩ : ByteArray)).size = 1 from rfl]; omega) (by have := HB1.out.size; omega) rfl).mono ?_; rintro e w2 ⟨rfl, ht2, hb2, hk2⟩; have HT2 := Lib.hid ht2; have HB2 := Lib.hid (HB1.out.trans hb2); have HK2 := Lib.hid (HK1.out.trans hk2); have hbx := hk2 w.heap.size _ HQ1.out (fun e => by have := Option.some.inj e; omega) (fun c fz e => by cases e); have x3 : w2.cell? ⟨w.heap.size, 3, none⟩ = some (.slice ao T.len T.cap) := cell_at hbx rfl; clear ht2 hb2 hk2 hbx))
  go_loopw [15] (fun i wr => ∃ j : Nat, j ≤ T.len ∧ i = .int .i64 j ∧ Hid (TxtAt 86 B b (l ++ (60 :: dg) ++ joinTo colonS F j) wr) ∧ Hid (Below B w wr) ∧ Hid (Kept b w wr)) (fun i _ => T.len - (intOf i).toNat)
  case atStart => exact ⟨0, Nat.zero_le _, rfl, Lib.hid (by rw [joinTo, List.append_nil]; simpa using HT2.out), HB2, HK2⟩
  case round =>
    obtain ⟨j, hj, rfl, HR, HBr, HKr⟩ := hrel
    obtain ⟨hlj, hsj⟩ := HL.out j hj
    by_cases hlt : j < T.len
    · have hlj2 := (HL.out (j + 1) hlt).2
      have hss := sum_succ G j
      have hBr : B ≤ wr.heap.size := by have := HBr.out.size; omega
      obtain ⟨bb, off, hia, _, _, c0, c1, c2, c3⟩ := HC.out j hlt wr HBr.out
      obtain rfl : ao = some ⟨bb, off, none⟩ := HAO.out.symm.trans hia
      have HX := Lib.hid ((Below.refl wr.heap.size wr).alloc (Nat.le_refl _) (.cells #[.int .i64 (T.kid j).kind, .int .u64 (T.kid j).num, .string (T.kid j).text, .slice (T.kid j).ia (T.kid j).len (T.kid j).cap] 28))
      have HTx := Lib.hid (HR.out.next HX.out)
      have HBx := Lib.hid (HBr.out.trans (HX.out.mono hBr))
      have HKx := Lib.hid (Kept.next HKr.out HX.out)
      have hltb2 := HR.out.lt
      clear hia
      go_wp2_with (first
        | (go_at_call 60; refine (join1 B b _ ⟨#[58]⟩ _ _ HTx.out (by rw [show ((⟨#[58]⟩ : ByteArray)).size = 1 from rfl]; omega) (by have := HBx.out.size; omega) (by simp)).mono ?_; rintro e w3 ⟨rfl, ht2, hb2, hk2⟩; have HT3 := Lib.hid ht2; have HB3 := Lib.hid (HBx.out.trans hb2); have HK3 := Lib.hid (HKx.out.trans hk2); have hbx := hk2 wr.heap.size _ (alloc_at wr _) (fun e => by have := Option.some.inj e; omega) (fun c fz e => by cases e); have x4 : w3.cell? ⟨wr.heap.size, 0, none⟩ = some (.int .i64 (T.kid j).kind) := cell_at hbx rfl; have x5 : w3.cell? ⟨wr.heap.size, 1, none⟩ = some (.int .u64 (T.kid j).num) := cell_at hbx rfl; have x6 : w3.cell? ⟨wr.heap.size, 2, none⟩ = some (.string (T.kid j).text) := cell_at hbx rfl; have x7 : w3.cell? ⟨wr.heap.size, 3, none⟩ = some (.slice (T.kid j).ia (T.kid j).len (T.kid j).cap) := cell_at hbx rfl; clear ht2 hb2 hk2 hbx c0 c1 c2 c3)
        | (go_at_call 36; refine (HI.out j hlt _ _ HB3.out HT3.out (by rw [List.length_append, show ((⟨#[58]⟩ : ByteArray).data.toList).length = 1 from rfl]; omega)).mono ?_; rintro e w4 ⟨rfl, ht3, hb3, hk3⟩; have HT4 := Lib.hid ht3; have HB4 := Lib.hid (HB3.out.trans hb3); have HK4 := Lib.hid (HK3.out.trans hk3); clear ht3 hb3 hk3))
      go_roundw
      case rel => exact ⟨j + 1, by omega, by go_num, Lib.hid (by rw [join_succ, show colonS j = [58] from rfl]; have := HT4.out; simpa [List.append_assoc] using this), HB4, HK4⟩
      case measure => simp [intOf]; omega
    · obtain rfl : j = T.len := by omega
      have HE := Lib.hid (join1 B b wr.heap.size ⟨#[62]⟩ _ wr HR.out (by rw [show ((⟨#[62]⟩ : ByteArray)).size = 1 from rfl]; omega) (by have := HBr.out.size; omega) rfl)
      go_wp2_with (first
        | (go_at_call 60; refine (HE.out).mono ?_; rintro e w1 ⟨rfl, ht1, hb1, hk1⟩))
      go_end0
      exact ⟨rfl, by simpa [List.append_assoc] using ht1, HBr.out.trans hb1, HKr.out.trans hk1⟩
end Go.Proofs.YtmnemddagcfjgaaGreatDoor
namespace Go.Proofs.YtmnemddagcfjgaaGreatDoor
open Go.RowKit
set_option linter.unusedVariables false
/-- the table of powers stands, whatever is made from B on -/
def TabB (B : Nat) (w : World) : Prop := Lib.TabBelow Tryz.prog B w "internal/strconv.uint64pow10" .u64 Lib.pow10Tab
theorem TabB.on {B : Nat} {w w1 : World} (h : TabB B w) (hb : Below B w w1) : TabB B w1 := Lib.TabBelow.on h hb
theorem TabB.here {B : Nat} {w : World} (h : TabB B w) : Tab w := Lib.TabBelow.here h
theorem TabB.of {B : Nat} {w : World} (h : Tab w) (hB : w.heap.size ≤ B) : TabB B w := fun w' hb => (Lib.tabBelow_of_tabIs h) w' (hb.mono hB)
theorem textT_10 {T : VT} (h : T.kind = 10) : textT T = 39 :: (quoteL T.text.data.toList ++ [39]) := by
  rw [textT_eq]; unfold textOf; rw [if_pos h, ByteArray.toList_eq]
theorem textT_list {T : VT} (h : T.kind = 11 ∨ T.kind = 12) : textT T = 91 :: (joinTo commaS (fun i => textT (T.kid i)) T.len ++ [93]) := by
  rw [textT_eq]; unfold textOf; rw [if_neg (by omega), if_pos h]
theorem textT_struct {T : VT} (h : T.kind = 13) : textT T = 40 :: (joinTo commaS (fun i => textT (T.kid i)) T.len ++ [41]) := by
  rw [textT_eq]; unfold textOf; rw [if_neg (by omega), if_neg (by omega), if_pos h]
theorem textT_union {T : VT} (h : T.kind = 14) : textT T = 60 :: (Lib.decDigits T.num.toNat ++ (joinTo colonS (fun i => textT (T.kid i)) T.len ++ [62])) := by
  rw [textT_eq]; unfold textOf; rw [if_neg (by omega), if_neg (by omega), if_neg (by omega), if_pos h]
theorem textT_num {T : VT} (h0 : T.kind ≠ 10) (h1 : T.kind ≠ 11) (h2 : T.kind ≠ 12) (h3 : T.kind ≠ 13) (h4 : T.kind ≠ 14) : textT T = datL (datK T.kind T.num) := by
  rw [textT_eq]; unfold textOf; rw [if_neg h0, if_neg (by omega), if_neg h3, if_neg h4]
def CValTo (T : VT) (B b : Nat) (l : List UInt8) (w : World) : Prop := Calls Tryz.prog 36 #[.pointer (some ⟨b, 0, none⟩), .agg #[.int .i64 T.kind, .int .u64 T.num, .string T.text, .slice T.ia T.len T.cap]] w (WTo (l ++ textT T) B b w)
set_option maxHeartbeats 4000000 in
theorem value_step (S : Nat → Prop) (T : VT) (B b : Nat) (l : List UInt8) (w : World) (hw : ValWf T) (hwk : ∀ i, i < T.len → (T.kid i).wfN) (h0 : 0 ≤ T.num) (h1 : T.num < 18446744073709551616)
    (hC : ∀ i, i < T.len → ∀ wx, Below B w wx → CellsAt wx S T.ia i (T.kid i)) (hI : KidsTo T B b (fun i => textT (T.kid i)) (fun i => greatT (T.kid i)) w)
    (h : TxtAt 86 B b l w) (htab : TabB B w) (hlen : l.length + 24 * greatT T ≤ 1099511627776) (hBw : B ≤ w.heap.size) : CValTo T B b l w := by
  have hTl : T.len ≤ 2513169434843 := hw.2.2.2
  have hwn := hw.2.1
  have hts := hw.2.2.1
  rw [greatT_eq] at hlen
  have hT : ∀ i, i < T.len → ((fun i => textT (T.kid i)) i).length + 1 ≤ 24 * (fun i => greatT (T.kid i)) i := fun i hi => text_len _ (hwk i hi)
  have HX0 := Lib.hid ((Below.refl w.heap.size w).alloc (Nat.le_refl _) (valO T))
  have HT0 := Lib.hid (h.next HX0.out)
  have HB0 := Lib.hid (HX0.out.mono hBw)
  have HK0 := Lib.hid (Kept.next (Lib.OthersKept.refl 5 (some b) w) HX0.out)
  have HTb := Lib.hid (htab.on HB0.out)
  have HS0 := Lib.hid (show B ≤ (w.alloc (valO T)).heap.size by have := HB0.out.size; omega)
  have HC0 := Lib.hid (show ∀ i, i < T.len → ∀ wx, Below B (w.alloc (valO T)) wx → CellsAt wx S T.ia i (T.kid i) from fun i hi wx hb => hC i hi wx (HB0.out.trans hb))
  have HI0 := Lib.hid (show KidsTo T B b (fun i => textT (T.kid i)) (fun i => greatT (T.kid i)) (w.alloc (valO T)) from fun i hi l' wx hb => hI i hi l' wx (HB0.out.trans hb))
  unfold CValTo
  by_cases k10 : T.kind = 10
  · have t10 : (T.kind == 10) = true := by simpa using k10
    rw [textT_10 k10]
    have HQ := Lib.hid (quoted_any T.text (by omega) (w.alloc (valO T)))
    have hql := quoteL_len T.text.data.toList
    rw [size_list] at hql
    obtain ⟨ql, hq⟩ : ∃ q, quoteL T.text.data.toList = q := ⟨_, rfl⟩
    rw [hq] at HQ hql ⊢
    have hqs : (⟨ql.toArray⟩ : ByteArray).size ≤ 3 * T.text.size := hql
    unfold valO at HX0 HT0 HB0 HK0 HTb HS0 HQ
    clear hq k10 hC hI HC0 HI0
    go_enter Tryz.func36, Tryz.ntmps36
    go_wp2_with (first
      | (go_at_call 61; refine (HQ.out).mono ?_; rintro e w1 ⟨rfl, hb1⟩; have HB1 := Lib.hid (HB0.out.trans (hb1.mono HS0.out)); have HT1 := Lib.hid (HT0.out.next hb1); have HK1 := Lib.hid (Kept.next HK0.out hb1); clear hb1)
      | (go_at_call 60; refine (join3 B b _ ⟨#[39]⟩ ⟨ql.toArray⟩ ⟨#[39]⟩ l w1 HT1.out (by rw [show ((⟨#[39]⟩ : ByteArray)).size = 1 from rfl]; omega) (by have := HB1.out.size; omega) rfl).mono ?_; rintro e w2 ⟨rfl, ht2, hb2, hk2⟩))
    go_end0
    exact ⟨rfl, by simpa using ht2, HB1.out.trans hb2, HK1.out.trans hk2⟩
  have t10 : (T.kind == 10) = false := by simpa using k10
  by_cases k11 : T.kind = 11 ∨ T.kind = 12
  · rw [textT_list k11]
    have HL := Lib.hid (list_any S T B b (fun i => textT (T.kid i)) (fun i => greatT (T.kid i)) l ⟨#[91]⟩ ⟨#[93]⟩ (w.alloc (valO T)) hTl HC0.out HI0.out hT HT0.out (by rw [show ((⟨#[91]⟩ : ByteArray)).size = 1 from rfl, show ((⟨#[93]⟩ : ByteArray)).size = 1 from rfl]; omega) HS0.out)
    unfold valO at HX0 HT0 HB0 HK0 HTb HS0 HL
    obtain ⟨J, hJ⟩ : ∃ J, joinTo commaS (fun i => textT (T.kid i)) T.len = J := ⟨_, rfl⟩
    rw [hJ] at HL ⊢
    clear hC hI HC0 HI0 hT hJ
    by_cases k1 : T.kind = 11
    · have t11 : (T.kind == 11) = true := by simpa using k1
      clear k10 k11 k1
      go_enter Tryz.func36, Tryz.ntmps36
      go_wp2_with (first
        | (go_at_call 62; refine (HL.out).mono ?_; rintro e w2 ⟨rfl, ht2, hb2, hk2⟩))
      go_end0
      exact ⟨rfl, by simpa using ht2, HB0.out.trans hb2, HK0.out.trans hk2⟩
    · have t11 : (T.kind == 11) = false := by simpa using k1
      have t12 : (T.kind == 12) = true := by simp; omega
      clear k10 k11 k1
      go_enter Tryz.func36, Tryz.ntmps36
      go_wp2_with (first
        | (go_at_call 62; refine (HL.out).mono ?_; rintro e w2 ⟨rfl, ht2, hb2, hk2⟩))
      go_end0
      exact ⟨rfl, by simpa using ht2, HB0.out.trans hb2, HK0.out.trans hk2⟩
  have t11 : (T.kind == 11) = false := by simp; omega
  have t12 : (T.kind == 12) = false := by simp; omega
  by_cases k13 : T.kind = 13
  · have t13 : (T.kind == 13) = true := by simpa using k13
    rw [textT_struct k13]
    have HL := Lib.hid (list_any S T B b (fun i => textT (T.kid i)) (fun i => greatT (T.kid i)) l ⟨#[40]⟩ ⟨#[41]⟩ (w.alloc (valO T)) hTl HC0.out HI0.out hT HT0.out (by rw [show ((⟨#[40]⟩ : ByteArray)).size = 1 from rfl, show ((⟨#[41]⟩ : ByteArray)).size = 1 from rfl]; omega) HS0.out)
    unfold valO at HX0 HT0 HB0 HK0 HTb HS0 HL
    obtain ⟨J, hJ⟩ : ∃ J, joinTo commaS (fun i => textT (T.kid i)) T.len = J := ⟨_, rfl⟩
    rw [hJ] at HL ⊢
    clear hC hI HC0 HI0 hT hJ k10 k11 k13
    go_enter Tryz.func36, Tryz.ntmps36
    go_wp2_with (first
      | (go_at_call 62; refine (HL.out).mono ?_; rintro e w2 ⟨rfl, ht2, hb2, hk2⟩))
    go_end0
    exact ⟨rfl, by simpa using ht2, HB0.out.trans hb2, HK0.out.trans hk2⟩
  have t13 : (T.kind == 13) = false := by simpa using k13
  by_cases k14 : T.kind = 14
  · have t14 : (T.kind == 14) = true := by simpa using k14
    rw [textT_union k14]
    have HL := Lib.hid (unionW_any S T B b (fun i => textT (T.kid i)) (fun i => greatT (T.kid i)) l (w.alloc (valO T)) hTl h0 h1 HC0.out HI0.out hT HT0.out HTb.out.here (by omega) HS0.out)
    unfold valO at HX0 HT0 HB0 HK0 HTb HS0 HL
    obtain ⟨J, hJ⟩ : ∃ J, (60 :: (Lib.decDigits T.num.toNat ++ (joinTo colonS (fun i => textT (T.kid i)) T.len ++ [62])) : List UInt8) = J := ⟨_, rfl⟩
    rw [hJ] at HL ⊢
    clear hC hI HC0 HI0 hT hJ k10 k11 k13 k14
    go_enter Tryz.func36, Tryz.ntmps36
    go_wp2_with (first
      | (go_at_call 63; refine (HL.out).mono ?_; rintro e w2 ⟨rfl, ht2, hb2, hk2⟩))
    go_end0
    exact ⟨rfl, ht2, HB0.out.trans hb2, HK0.out.trans hk2⟩
  have t14 : (T.kind == 14) = false := by simpa using k14
  rw [textT_num k10 (by omega) (by omega) k13 k14]
  have HD := Lib.hid (fun wx => datum_any T.kind T.num hwn wx)
  unfold datV at HD
  have hdn := dat_num T.kind T.num
  obtain ⟨d, hd⟩ : ∃ d, datK T.kind T.num = d := ⟨_, rfl⟩
  rw [hd] at HD hdn ⊢
  have HN := Lib.hid (fun wx (hx : TxtAt 86 B b l wx) (ht : Tab wx) (hB : B ≤ wx.heap.size) => numberW_any d B b l wx hdn.1 (by omega) hx ht (by omega) hB)
  unfold valO at HX0 HT0 HB0 HK0 HTb HS0
  clear hC hI HC0 HI0 hT hd k10 k11 k13 k14
  go_enter Tryz.func36, Tryz.ntmps36
  go_wp2_with (first
    | (go_at_call 65; refine (HD.out _).mono ?_; rintro e w1 ⟨rfl, hb1⟩; have HB1 := Lib.hid (HB0.out.trans (hb1.mono HS0.out)); have HT1 := Lib.hid (HT0.out.next hb1); have HK1 := Lib.hid (Kept.next HK0.out hb1); have HA1 := Lib.hid (HTb.out.on (hb1.mono HS0.out)); clear hb1)
    | (go_at_call 64; refine (HN.out _ HT1.out HA1.out.here (by have := HB1.out.size; omega)).mono ?_; rintro e w2 ⟨rfl, ht2, hb2, hk2⟩))
  go_end0
  exact ⟨rfl, ht2, HB1.out.trans hb2, HK1.out.trans hk2⟩
end Go.Proofs.YtmnemddagcfjgaaGreatDoor
namespace Go.Proofs.YtmnemddagcfjgaaGreatDoor
open Go.RowKit
set_option linter.unusedVariables false
theorem TabB.wide {B B' : Nat} {w : World} (h : TabB B w) (hB : B ≤ B') : TabB B' w := fun w' hb => h w' (hb.mono hB)
theorem CellsAt.below {w w' : World} {S : Nat → Prop} {ao : Option Addr} {i B : Nat} {T : VT} (h : CellsAt w S ao i T) (hb : Below B w w') (hS : ∀ b, S b → b < B) : CellsAt w' S ao i T :=
  h.held (fun _ s => s) hb.size (fun b s _ => hb.block b (hS b s))
theorem ValAt.old {w : World} {S : Nat → Prop} : ∀ T : VT, ValAt w S T → ValAt w (fun b => b < w.heap.size) T := by
  refine VT.ind fun T ih h => ?_
  obtain ⟨h1, h2⟩ := (valAt_iff T).1 h
  refine (valAt_iff T).2 ⟨h1, fun i hi => ⟨?_, ih i hi (h2 i hi).2⟩⟩
  obtain ⟨b, off, e, hs, hl, hc⟩ := (h2 i hi).1
  exact ⟨b, off, e, hl, hl, hc⟩
theorem valueW_any (S : Nat → Prop) (B b : Nat) (hS : ∀ b, S b → b < B) : ∀ (T : VT) (l : List UInt8) (w : World), ValAt w S T → TxtAt 86 B b l w → TabB B w → l.length + 24 * greatT T ≤ 1099511627776 → B ≤ w.heap.size → CValTo T B b l w := by
  refine VT.ind fun T ih l w H h htab hlen hBw => ?_
  obtain ⟨hw, hk⟩ := (valAt_iff T).1 H
  have hwf := valAt_wf T H
  obtain ⟨h0, h1, hwk⟩ := (wfN_iff T).1 hwf
  exact value_step S T B b l w hw hwk h0 h1 (fun i hi wx hb => (hk i hi).1.below hb hS)
    (fun i hi l' wx hb hx hl => ih i hi l' wx ((hk i hi).2.held hb hS) hx (htab.on hb) hl (by have := hb.size; omega)) h htab hlen hBw
theorem dec_ne (n : Nat) : Lib.decDigits n ≠ [] := by
  intro h
  have := Lib.nDigits_pos n
  have h2 := Lib.decDigits_length n
  rw [h] at h2
  simp at h2; omega
theorem text_nonempty (T : VT) : textT T ≠ [] := by
  rw [textT_eq]
  unfold textOf
  split
  · simp
  · split
    · simp
    · split
      · simp
      · split
        · simp
        · unfold datL
          split
          · split <;> simp [trueL, falseL]
          · split
            · split
              · simp
              · exact dec_ne _
            · simp
def CTextTo (T : VT) (w : World) : Prop := Calls Tryz.prog 17 #[.agg #[.int .i64 T.kind, .int .u64 T.num, .string T.text, .slice T.ia T.len T.cap]] w fun e w' => e = .returned (.string ⟨(textT T).toArray⟩) ∧ Below w.heap.size w w'
set_option maxHeartbeats 2000000 in
theorem text8_any (S : Nat → Prop) (T : VT) (w : World) (H : ValAt w S T) (hg : greatT T ≤ 1000000) (htab : Tab w) : CTextTo T w := by
  have hb0 := (Below.refl w.heap.size w).alloc (Nat.le_refl _) (valO T)
  have es : (w.alloc (valO T)).heap.size = w.heap.size + 1 := by simp
  have hb1 := hb0.alloc (by rw [es]; omega) (.cells #[.pointer none, .slice none 0 0] 86)
  have hB := Lib.hid hb1
  have hx : TxtAt 86 (w.alloc (valO T)).heap.size (w.alloc (valO T)).heap.size [] ((w.alloc (valO T)).alloc (.cells #[.pointer none, .slice none 0 0] 86)) := Lib.fresh_isBuilder _ _ _
  rw [es] at hx
  have HV := Lib.hid (valueW_any (fun b => b < w.heap.size) (w.heap.size + 1) (w.heap.size + 1) (fun b hb => by omega) T [] _ ((ValAt.old T H).next hb1) hx (((TabB.of htab (Nat.le_refl _)).on hb1).wide (by omega)) (by simp only [List.length_nil]; omega) (by simp))
  have hne := text_nonempty T
  unfold CValTo at HV
  rw [List.nil_append] at HV
  unfold CTextTo
  obtain ⟨t, ht⟩ : ∃ t, textT T = t := ⟨_, rfl⟩
  rw [ht] at HV hne ⊢
  have HS := Lib.hid (fun wx (hx : TxtAt 86 (w.heap.size + 1) (w.heap.size + 1) t wx) => string8 86 liesWriter (w.heap.size + 1) (w.heap.size + 1) t wx hx hne)
  unfold valO at HV hB
  clear ht H htab hb0 hb1 hx hne es
  go_enter Tryz.func17, Tryz.ntmps17
  go_wp2_with (first
    | (go_at_call 36; refine (HV.out).mono ?_; rintro e w2 ⟨rfl, ht2, hb2, hk2⟩; have HT2 := Lib.hid ht2; have HB2 := Lib.hid (hB.out.trans (hb2.mono (by omega))); clear ht2 hb2 hk2)
    | (go_at_call 37; refine (HS.out _ HT2.out).mono ?_; rintro e w3 ⟨rfl, hb3⟩; have HB3 := Lib.hid (HB2.out.trans (hb3.mono (by omega))); clear hb3))
  go_ret
  exact ⟨rfl, HB3.out⟩
end Go.Proofs.YtmnemddagcfjgaaGreatDoor
