/- A text between quotes, as package value writes it. -/
import Derived.Test.YtpclpghmahlieaaDoorValNumber
namespace Go.Proofs.YtpclpghmahlieaaDoor
open Go.RowKit
set_option linter.unusedVariables false
theorem isPlain_any (c : Nat) (hc : c < 256) (w : World) : Calls Tryd.prog 40 #[.int .u8 (c : Nat)] w fun e w' => e = .returned (.bool (plainB (c : Nat))) ∧ w = w' := by
  obtain ⟨p, hp⟩ : ∃ p, plainB (c : Nat) = p := ⟨_, rfl⟩
  rw [hp]
  have HP := Lib.hid hp
  clear hp
  go_enter Tryd.func40, Tryd.ntmps40
  go_wp2
  all_goals
    go_ret
    exact ⟨ret_bool (by rw [← HP.out]; unfold plainB; rw [Bool.eq_iff_iff]; simp; omega), rfl⟩
def hexS : ByteArray := ⟨#[48, 49, 50, 51, 52, 53, 54, 55, 56, 57, 97, 98, 99, 100, 101, 102]⟩
theorem quote_next (s : ByteArray) (j : Nat) (hj : j < s.size) : quoteL (s.data.toList.take (j + 1)) = quoteL (s.data.toList.take j) ++ quoteB (s[j]'hj) := by
  have hl : j < s.data.toList.length := by simpa using hj
  unfold quoteL
  rw [List.take_succ_eq_append_getElem hl, List.flatMap_append]
  simp
  rfl
theorem quote_le (s : ByteArray) (j : Nat) (hj : j ≤ s.size) : (quoteL (s.data.toList.take j)).length ≤ 3 * s.size := by
  have h := quoteL_len (s.data.toList.take j)
  rw [List.length_take] at h
  have : s.data.toList.length = s.size := by simp
  omega
theorem hex_fig : ∀ q : Fin 16, (#[48, 49, 50, 51, 52, 53, 54, 55, 56, 57, 97, 98, 99, 100, 101, 102] : Array UInt8)[q.val]'(by simp) = figB q.val := by decide
theorem hex_hi (c : Nat) (h : c < 256) (hq : c / 16 < (⟨#[48, 49, 50, 51, 52, 53, 54, 55, 56, 57, 97, 98, 99, 100, 101, 102]⟩ : ByteArray).size) : (⟨#[48, 49, 50, 51, 52, 53, 54, 55, 56, 57, 97, 98, 99, 100, 101, 102]⟩ : ByteArray)[c / 16]'hq = figB (c / 16) := hex_fig ⟨c / 16, by omega⟩
theorem hex_lo (c : Nat) (hq : c % 16 < (⟨#[48, 49, 50, 51, 52, 53, 54, 55, 56, 57, 97, 98, 99, 100, 101, 102]⟩ : ByteArray).size) : (⟨#[48, 49, 50, 51, 52, 53, 54, 55, 56, 57, 97, 98, 99, 100, 101, 102]⟩ : ByteArray)[c % 16]'hq = figB (c % 16) := hex_fig ⟨c % 16, by omega⟩
set_option maxHeartbeats 2000000 in
theorem quoted_any (s : ByteArray) (hs : s.size ≤ 1099511627776) (w : World) :
    Calls Tryd.prog 28 #[.string s] w fun e w' => e = .returned (.string ⟨(quoteL s.data.toList).toArray⟩) ∧ Below w.heap.size w w' := by
  have hml : s.size ≤ maxLen := by unfold maxLen; omega
  have H0 := Lib.hid (show TxtAt 39 w.heap.size w.heap.size [] (w.alloc (.cells #[.pointer none, .slice none 0 0] 39)) from Lib.fresh_isBuilder _ _ w)
  have HW := Lib.hid (fun (l : List UInt8) (c : UInt8) (wx : World) (hx : TxtAt 39 w.heap.size w.heap.size l wx) (hl : l.length ≤ 5497558138880) (hb : Below w.heap.size w wx) => writeByte8 39 liesBuilder w.heap.size w.heap.size l c wx hx (by omega) hb.size)
  have HS := Lib.hid (fun (l : List UInt8) (wx : World) (hx : TxtAt 39 w.heap.size w.heap.size l wx) (hb : Below w.heap.size w wx) => Tryd.Builder_String_any w.heap.size w.heap.size l wx hx hb.size)
  have HL := Lib.hid (fun j (hj : j ≤ s.size) => quote_le s j hj)
  go_enter Tryd.func28, Tryd.ntmps28
  go_wp2
  go_loopw [8] (fun i wr => ∃ j : Nat, j ≤ s.size ∧ i = .int .i64 j ∧ Hid (TxtAt 39 w.heap.size w.heap.size (quoteL (s.data.toList.take j)) wr) ∧ Hid (Below w.heap.size w wr)) (fun i _ => s.size - (intOf i).toNat)
  case atStart => exact ⟨0, Nat.zero_le _, rfl, H0, Lib.hid ((Below.refl _ _).alloc (Nat.le_refl _) _)⟩
  case round =>
    obtain ⟨j, hj, rfl, HR, HBr⟩ := hrel
    by_cases hlt : j < s.size
    · have hl := HL.out j hj
      have hc : (s[j]'hlt).toNat < 256 := UInt8.toNat_lt _
      have HP := Lib.hid (isPlain_any (s[j]'hlt).toNat hc)
      have HQ := Lib.hid (quote_next s j hlt)
      cases hp : plainB ((s[j]'hlt).toNat : Nat) with
      | true =>
        have he : quoteB (s[j]'hlt) = [s[j]'hlt] := by unfold quoteB; rw [if_pos hp]
        rw [he] at HQ
        rw [hp] at HP
        clear hp he
        have HX := Lib.hid (HW.out _ (s[j]'hlt) wr HR.out (by omega) HBr.out)
        go_wp2_with (first
          | (go_at_call 40; refine (HP.out _).mono ?_; rintro e w2 ⟨rfl, rfl⟩)
          | (go_at_call 41; refine (HX.out).mono ?_; rintro e w3 ⟨rfl, ht3, hb3, _⟩))
        go_roundw
        case rel => exact ⟨j + 1, by omega, by go_num, Lib.hid (by rw [HQ.out]; exact ht3), Lib.hid (HBr.out.trans hb3)⟩
        case measure => simp [intOf]; omega
      | false =>
        have he : quoteB (s[j]'hlt) = [92, figB ((s[j]'hlt).toNat / 16), figB ((s[j]'hlt).toNat % 16)] := by unfold quoteB; rw [if_neg (by simp [hp])]
        rw [he] at HQ
        rw [hp] at HP
        clear hp he
        have HX := Lib.hid (HW.out _ 92 wr HR.out (by omega) HBr.out)
        go_wp2_with (first
          | (go_at_call 40; refine (HP.out _).mono ?_; rintro e w2 ⟨rfl, rfl⟩)
          | (go_at_call 41; refine (HX.out).mono ?_; rintro e w3 ⟨rfl, ht3, hb3, _⟩; have HT3 := Lib.hid ht3; have HB3 := Lib.hid (HBr.out.trans hb3); clear HX ht3 hb3)
          | (go_at_call 41; refine (HW.out _ _ _ HT3.out (by simp; omega) HB3.out).mono ?_; rintro e w4 ⟨rfl, ht4, hb4, _⟩; have HT4 := Lib.hid ht4; have HB4 := Lib.hid (HB3.out.trans hb4); clear HT3 HB3 ht4 hb4)
          | (go_at_call 41; refine (HW.out _ _ _ HT4.out (by simp; omega) HB4.out).mono ?_; rintro e w5 ⟨rfl, ht5, hb5, _⟩; have HT5 := Lib.hid ht5; have HB5 := Lib.hid (HB4.out.trans hb5); clear HT4 HB4 ht5 hb5))
        go_roundw
        case rel => exact ⟨j + 1, by omega, by go_num, Lib.hid (by rw [HQ.out]; have h5 := HT5.out; rw [hex_hi _ hc, hex_lo _] at h5; simpa using h5), HB5⟩
        case measure => simp [intOf]; omega
    · obtain rfl : j = s.size := by omega
      have he : s.data.toList.take s.size = s.data.toList := List.take_of_length_le (by simp)
      rw [he] at HR
      have HX := Lib.hid (HS.out _ wr HR.out HBr.out)
      go_wp2_with (go_at_call 20; refine (HX.out).mono ?_; rintro e w3 ⟨rfl, hb3⟩)
      go_ret
      exact ⟨rfl, HBr.out.trans hb3⟩
end Go.Proofs.YtpclpghmahlieaaDoor
