/- The writer: any value; Text. -/
import Derived.Test.YtpclpghmahlieaaDoorValUnion
namespace Go.Proofs.YtpclpghmahlieaaDoor
open Go.RowKit
set_option linter.unusedVariables false
/-- the table of powers stands, whatever is made from B on -/
def TabB (B : Nat) (w : World) : Prop := Lib.TabBelow Tryd.prog B w "internal/strconv.uint64pow10" .u64 Lib.pow10Tab
theorem TabB.on {B : Nat} {w w1 : World} (h : TabB B w) (hb : Below B w w1) : TabB B w1 := Lib.TabBelow.on h hb
theorem TabB.here {B : Nat} {w : World} (h : TabB B w) : Tab w := Lib.TabBelow.here h
theorem TabB.of {B : Nat} {w : World} (h : Tab w) (hB : w.heap.size ≤ B) : TabB B w := fun w' hb => (Lib.tabBelow_of_tabIs h) w' (hb.mono hB)
theorem textT_10 {T : VT} (h : T.kind = 10) : textT T = 39 :: (quoteL T.text.data.toList ++ [39]) := by
  rw [textT_eq]; unfold textOf; rw [if_pos h, ByteArray.toList_eq]
theorem textT_list {T : VT} (h : T.kind = 11 ∨ T.kind = 12) : textT T = 91 :: (joinTo commaS (fun i => textT (T.kid i)) T.len ++ [93]) := by
  rw [textT_eq]; unfold textOf; rw [if_neg (by omega), if_pos h]
theorem textT_struct {T : VT} (h : T.kind = 13) : textT T = 40 :: (joinTo commaS (fun i => textT (T.kid i)) T.len ++ [41]) := by
  rw [textT_eq]; unfold textOf; rw [if_neg (by omega), if_neg (by omega), if_pos h]
theorem textT_union {T : VT} (h : T.kind = 14) : textT T = 60 :: (Lib.decDigits T.num.toNat ++ (joinTo colonS (fun i => textT (T.kid i)) T.len ++ [62])) := by
  rw [textT_eq]; unfold textOf; rw [if_neg (by omega), if_neg (by omega), if_neg (by omega), if_pos h]
theorem textT_num {T : VT} (h0 : T.kind ≠ 10) (h1 : T.kind ≠ 11) (h2 : T.kind ≠ 12) (h3 : T.kind ≠ 13) (h4 : T.kind ≠ 14) : textT T = datL (datK T.kind T.num) := by
  rw [textT_eq]; unfold textOf; rw [if_neg h0, if_neg (by omega), if_neg h3, if_neg h4]
def CValTo (T : VT) (B b : Nat) (l : List UInt8) (w : World) : Prop := Calls Tryd.prog 19 #[.pointer (some ⟨b, 0, none⟩), .agg #[.int .i64 T.kind, .int .u64 T.num, .string T.text, .slice T.ia T.len T.cap]] w (WTo (l ++ textT T) B b w)
set_option maxHeartbeats 4000000 in
theorem value_step (S : Nat → Prop) (T : VT) (B b : Nat) (l : List UInt8) (w : World) (hw : ValWf T) (hwk : ∀ i, i < T.len → (T.kid i).wfN) (h0 : 0 ≤ T.num) (h1 : T.num < 18446744073709551616)
    (hC : ∀ i, i < T.len → ∀ wx, Below B w wx → CellsAt wx S T.ia i (T.kid i)) (hI : KidsTo T B b (fun i => textT (T.kid i)) (fun i => greatT (T.kid i)) w)
    (h : TxtAt 41 B b l w) (htab : TabB B w) (hlen : l.length + 24 * greatT T ≤ 1099511627776) (hBw : B ≤ w.heap.size) : CValTo T B b l w := by
  have hTl : T.len ≤ 2513169434843 := hw.2.2.2
  have hwn := hw.2.1
  have hts := hw.2.2.1
  rw [greatT_eq] at hlen
  have hT : ∀ i, i < T.len → ((fun i => textT (T.kid i)) i).length + 1 ≤ 24 * (fun i => greatT (T.kid i)) i := fun i hi => text_len _ (hwk i hi)
  have HX0 := Lib.hid ((Below.refl w.heap.size w).alloc (Nat.le_refl _) (valO T))
  have HT0 := Lib.hid (h.next HX0.out)
  have HB0 := Lib.hid (HX0.out.mono hBw)
  have HK0 := Lib.hid (Kept.next (Lib.OthersKept.refl 5 (some b) w) HX0.out)
  have HTb := Lib.hid (htab.on HB0.out)
  have HS0 := Lib.hid (show B ≤ (w.alloc (valO T)).heap.size by have := HB0.out.size; omega)
  have HC0 := Lib.hid (show ∀ i, i < T.len → ∀ wx, Below B (w.alloc (valO T)) wx → CellsAt wx S T.ia i (T.kid i) from fun i hi wx hb => hC i hi wx (HB0.out.trans hb))
  have HI0 := Lib.hid (show KidsTo T B b (fun i => textT (T.kid i)) (fun i => greatT (T.kid i)) (w.alloc (valO T)) from fun i hi l' wx hb => hI i hi l' wx (HB0.out.trans hb))
  unfold CValTo
  by_cases k10 : T.kind = 10
  · have t10 : (T.kind == 10) = true := by simpa using k10
    rw [textT_10 k10]
    have HQ := Lib.hid (quoted_any T.text (by omega) (w.alloc (valO T)))
    have hql := quoteL_len T.text.data.toList
    rw [size_list] at hql
    obtain ⟨ql, hq⟩ : ∃ q, quoteL T.text.data.toList = q := ⟨_, rfl⟩
    rw [hq] at HQ hql ⊢
    have hqs : (⟨ql.toArray⟩ : ByteArray).size ≤ 3 * T.text.size := hql
    unfold valO at HX0 HT0 HB0 HK0 HTb HS0 HQ
    clear hq k10 hC hI HC0 HI0
    go_enter Tryd.func19, Tryd.ntmps19
    go_wp2_with (first
      | (go_at_call 28; refine (HQ.out).mono ?_; rintro e w1 ⟨rfl, hb1⟩; have HB1 := Lib.hid (HB0.out.trans (hb1.mono HS0.out)); have HT1 := Lib.hid (HT0.out.next hb1); have HK1 := Lib.hid (Kept.next HK0.out hb1); clear hb1)
      | (go_at_call 27; refine (join3 B b _ ⟨#[39]⟩ ⟨ql.toArray⟩ ⟨#[39]⟩ l w1 HT1.out (by rw [show ((⟨#[39]⟩ : ByteArray)).size = 1 from rfl]; omega) (by have := HB1.out.size; omega) rfl).mono ?_; rintro e w2 ⟨rfl, ht2, hb2, hk2⟩))
    go_end0
    exact ⟨rfl, by simpa using ht2, HB1.out.trans hb2, HK1.out.trans hk2⟩
  have t10 : (T.kind == 10) = false := by simpa using k10
  by_cases k11 : T.kind = 11 ∨ T.kind = 12
  · rw [textT_list k11]
    have HL := Lib.hid (list_any S T B b (fun i => textT (T.kid i)) (fun i => greatT (T.kid i)) l ⟨#[91]⟩ ⟨#[93]⟩ (w.alloc (valO T)) hTl HC0.out HI0.out hT HT0.out (by rw [show ((⟨#[91]⟩ : ByteArray)).size = 1 from rfl, show ((⟨#[93]⟩ : ByteArray)).size = 1 from rfl]; omega) HS0.out)
    unfold valO at HX0 HT0 HB0 HK0 HTb HS0 HL
    obtain ⟨J, hJ⟩ : ∃ J, joinTo commaS (fun i => textT (T.kid i)) T.len = J := ⟨_, rfl⟩
    rw [hJ] at HL ⊢
    clear hC hI HC0 HI0 hT hJ
    by_cases k1 : T.kind = 11
    · have t11 : (T.kind == 11) = true := by simpa using k1
      clear k10 k11 k1
      go_enter Tryd.func19, Tryd.ntmps19
      go_wp2_with (first
        | (go_at_call 29; refine (HL.out).mono ?_; rintro e w2 ⟨rfl, ht2, hb2, hk2⟩))
      go_end0
      exact ⟨rfl, by simpa using ht2, HB0.out.trans hb2, HK0.out.trans hk2⟩
    · have t11 : (T.kind == 11) = false := by simpa using k1
      have t12 : (T.kind == 12) = true := by simp; omega
      clear k10 k11 k1
      go_enter Tryd.func19, Tryd.ntmps19
      go_wp2_with (first
        | (go_at_call 29; refine (HL.out).mono ?_; rintro e w2 ⟨rfl, ht2, hb2, hk2⟩))
      go_end0
      exact ⟨rfl, by simpa using ht2, HB0.out.trans hb2, HK0.out.trans hk2⟩
  have t11 : (T.kind == 11) = false := by simp; omega
  have t12 : (T.kind == 12) = false := by simp; omega
  by_cases k13 : T.kind = 13
  · have t13 : (T.kind == 13) = true := by simpa using k13
    rw [textT_struct k13]
    have HL := Lib.hid (list_any S T B b (fun i => textT (T.kid i)) (fun i => greatT (T.kid i)) l ⟨#[40]⟩ ⟨#[41]⟩ (w.alloc (valO T)) hTl HC0.out HI0.out hT HT0.out (by rw [show ((⟨#[40]⟩ : ByteArray)).size = 1 from rfl, show ((⟨#[41]⟩ : ByteArray)).size = 1 from rfl]; omega) HS0.out)
    unfold valO at HX0 HT0 HB0 HK0 HTb HS0 HL
    obtain ⟨J, hJ⟩ : ∃ J, joinTo commaS (fun i => textT (T.kid i)) T.len = J := ⟨_, rfl⟩
    rw [hJ] at HL ⊢
    clear hC hI HC0 HI0 hT hJ k10 k11 k13
    go_enter Tryd.func19, Tryd.ntmps19
    go_wp2_with (first
      | (go_at_call 29; refine (HL.out).mono ?_; rintro e w2 ⟨rfl, ht2, hb2, hk2⟩))
    go_end0
    exact ⟨rfl, by simpa using ht2, HB0.out.trans hb2, HK0.out.trans hk2⟩
  have t13 : (T.kind == 13) = false := by simpa using k13
  by_cases k14 : T.kind = 14
  · have t14 : (T.kind == 14) = true := by simpa using k14
    rw [textT_union k14]
    have HL := Lib.hid (union_any S T B b (fun i => textT (T.kid i)) (fun i => greatT (T.kid i)) l (w.alloc (valO T)) hTl h0 h1 HC0.out HI0.out hT HT0.out HTb.out.here (by omega) HS0.out)
    unfold valO at HX0 HT0 HB0 HK0 HTb HS0 HL
    obtain ⟨J, hJ⟩ : ∃ J, (60 :: (Lib.decDigits T.num.toNat ++ (joinTo colonS (fun i => textT (T.kid i)) T.len ++ [62])) : List UInt8) = J := ⟨_, rfl⟩
    rw [hJ] at HL ⊢
    clear hC hI HC0 HI0 hT hJ k10 k11 k13 k14
    go_enter Tryd.func19, Tryd.ntmps19
    go_wp2_with (first
      | (go_at_call 30; refine (HL.out).mono ?_; rintro e w2 ⟨rfl, ht2, hb2, hk2⟩))
    go_end0
    exact ⟨rfl, ht2, HB0.out.trans hb2, HK0.out.trans hk2⟩
  have t14 : (T.kind == 14) = false := by simpa using k14
  rw [textT_num k10 (by omega) (by omega) k13 k14]
  have HD := Lib.hid (fun wx => datum_any T.kind T.num hwn wx)
  unfold datV at HD
  have hdn := dat_num T.kind T.num
  obtain ⟨d, hd⟩ : ∃ d, datK T.kind T.num = d := ⟨_, rfl⟩
  rw [hd] at HD hdn ⊢
  have HN := Lib.hid (fun wx (hx : TxtAt 41 B b l wx) (ht : Tab wx) (hB : B ≤ wx.heap.size) => numberW_any d B b l wx hdn.1 (by omega) hx ht (by omega) hB)
  unfold valO at HX0 HT0 HB0 HK0 HTb HS0
  clear hC hI HC0 HI0 hT hd k10 k11 k13 k14
  go_enter Tryd.func19, Tryd.ntmps19
  go_wp2_with (first
    | (go_at_call 32; refine (HD.out _).mono ?_; rintro e w1 ⟨rfl, hb1⟩; have HB1 := Lib.hid (HB0.out.trans (hb1.mono HS0.out)); have HT1 := Lib.hid (HT0.out.next hb1); have HK1 := Lib.hid (Kept.next HK0.out hb1); have HA1 := Lib.hid (HTb.out.on (hb1.mono HS0.out)); clear hb1)
    | (go_at_call 31; refine (HN.out _ HT1.out HA1.out.here (by have := HB1.out.size; omega)).mono ?_; rintro e w2 ⟨rfl, ht2, hb2, hk2⟩))
  go_end0
  exact ⟨rfl, ht2, HB1.out.trans hb2, HK1.out.trans hk2⟩
end Go.Proofs.YtpclpghmahlieaaDoor
