/- Chapter 17's laws, walked over what the code's three functions answer (LikeC). -/
import Derived.Test.YtbldhfafflobbaaLikeRefM
namespace Go.Proofs.Ytbldhfafflobbaa
open Go.RowKit
set_option linter.unusedVariables false
set_option linter.unusedSimpArgs false
/-- what the code's functions answer -/
structure LikeC : Prop where
  mat : ∀ (p s : List UInt8), p.length ≤ 1000 → s.length ≤ 1000 → ∀ w, Calls Try.prog 7 #[.string (bt p), .string (bt s)] w fun e w' => e = .returned (.bool (likeL p s)) ∧ Below w.heap.size w w'
  lead : ∀ (p : List UInt8), p.length ≤ 1000 → ∀ w, Calls Try.prog 9 #[.string (bt p)] w fun e w' => e = .returned (.string (bt (leadL p))) ∧ Below w.heap.size w w'
  least : ∀ (p : List UInt8), p.length ≤ 1000 → ∀ w, Calls Try.prog 11 #[.string (bt p)] w fun e w' => e = .returned (.int .i64 (leastL p : Nat)) ∧ Below w.heap.size w w'
theorem bthL {w a b : World} (h : Below w.heap.size w a) (k : Below a.heap.size a b) : Below w.heap.size w b := h.trans (k.mono h.size)
theorem awake17 (C : LikeC) (w : World) : Calls Try.prog 6 #[] w fun e w' => e = .returned (.bool true) ∧ Below w.heap.size w w' := by
  have H1 := Lib.hid (show ∀ wx, Calls Try.prog 7 #[.string ⟨#[97, 37, 98, 95]⟩, .string ⟨#[97, 98, 99]⟩] wx fun e w' => e = .returned (.bool true) ∧ Below wx.heap.size wx w' from fun wx => C.mat [97, 37, 98, 95] [97, 98, 99] (by decide) (by decide) wx)
  have H2 := Lib.hid (show ∀ wx, Calls Try.prog 7 #[.string ⟨#[97, 37, 98, 95]⟩, .string ⟨#[97, 120, 120, 98, 99]⟩] wx fun e w' => e = .returned (.bool true) ∧ Below wx.heap.size wx w' from fun wx => C.mat [97, 37, 98, 95] [97, 120, 120, 98, 99] (by decide) (by decide) wx)
  have H3 := Lib.hid (show ∀ wx, Calls Try.prog 7 #[.string ⟨#[97, 37, 98, 95]⟩, .string ⟨#[97, 98]⟩] wx fun e w' => e = .returned (.bool false) ∧ Below wx.heap.size wx w' from fun wx => C.mat [97, 37, 98, 95] [97, 98] (by decide) (by decide) wx)
  go_enter Try.func6, Try.ntmps6
  go_wp2_with (first
    | (go_at_call 7; (with_reducible refine (H3.out _).mono ?_); rintro e w3 ⟨rfl, hb⟩; have HB3 := Lib.hid (bthL HB2.out hb); clear hb)
    | (go_at_call 7; (with_reducible refine (H2.out _).mono ?_); rintro e w2 ⟨rfl, hb⟩; have HB2 := Lib.hid (bthL HB1.out hb); clear hb)
    | (go_at_call 7; (with_reducible refine (H1.out _).mono ?_); rintro e w1 ⟨rfl, hb⟩; have HB1 := Lib.hid hb; clear hb))
  go_ret
  exact ⟨rfl, HB3.out⟩
theorem tells17 (C : LikeC) (x y : ByteArray) (w : World) : Calls Try.prog 3 #[.string x, .string y] w fun e w' => e = .returned (.bool true) ∧ Below w.heap.size w w' := by
  have HA := Lib.hid (awake17 C)
  by_cases h1 : 400 < x.size
  · have h1i : (400 : Int) < (x.size : Int) := by omega
    go_enter Try.func3, Try.ntmps3
    go_wp2_with (go_at_call 6; refine (HA.out _).mono ?_; rintro e w1 ⟨rfl, hb⟩; have HB1 := Lib.hid hb; clear hb)
    go_ret
    exact ⟨rfl, HB1.out⟩
  · have h1i : ¬ (400 : Int) < (x.size : Int) := by omega
    by_cases h2 : 400 < y.size
    · have h2i : (400 : Int) < (y.size : Int) := by omega
      go_enter Try.func3, Try.ntmps3
      go_wp2_with (go_at_call 6; refine (HA.out _).mono ?_; rintro e w1 ⟨rfl, hb⟩; have HB1 := Lib.hid hb; clear hb)
      go_ret
      exact ⟨rfl, HB1.out⟩
    · have h2i : ¬ (400 : Int) < (y.size : Int) := by omega
      obtain ⟨p, rfl⟩ : ∃ p, x = bt p := ⟨x.data.toList, by apply ByteArray.ext; simp [bt]⟩
      obtain ⟨s, rfl⟩ : ∃ s, y = bt s := ⟨y.data.toList, by apply ByteArray.ext; simp [bt]⟩
      have hp : p.length ≤ 400 := by have := bt_size p; omega
      have hs : s.length ≤ 400 := by have := bt_size s; omega
      have HM := Lib.hid (C.mat p s (by omega) (by omega))
      have HR := Lib.hid (fun wx => refMatch_any p s (by omega) (by omega) wx)
      unfold RMatTo at HR
      have HL := Lib.hid (C.lead p (by omega))
      have HRL := Lib.hid (fun wx => refLead_any p (by omega) wx)
      have HN := Lib.hid (C.least p (by omega))
      have HRN := Lib.hid (fun wx => refLeast_any p (by omega) wx)
      generalize likeL p s = m at *
      generalize bt (leadL p) = l at *
      generalize leastL p = n at *
      generalize bt p = x at *
      generalize bt s = y at *
      clear h1 h2 hp hs C
      go_enter Try.func3, Try.ntmps3
      go_wp2_with (first
        | (go_at_call 6; refine (HA.out _).mono ?_; rintro e w7 ⟨rfl, hb⟩; have HB7 := Lib.hid (bthL HB4.out hb); clear hb)
        | (go_at_call 12; refine (HRN.out _).mono ?_; rintro e w6 ⟨rfl, rfl⟩)
        | (go_at_call 11; refine (HN.out _).mono ?_; rintro e w4 ⟨rfl, hb⟩; have HB4 := Lib.hid (bthL HB3.out hb); clear hb)
        | (go_at_call 10; refine (HRL.out _).mono ?_; rintro e w5 ⟨rfl, rfl⟩)
        | (go_at_call 9; refine (HL.out _).mono ?_; rintro e w3 ⟨rfl, hb⟩; have HB3 := Lib.hid (bthL HB2.out hb); clear hb)
        | (go_at_call 8; refine (HR.out _).mono ?_; rintro e w2 ⟨rfl, hb⟩; have HB2 := Lib.hid (bthL HB1.out hb); clear hb)
        | (go_at_call 7; refine (HM.out _).mono ?_; rintro e w1 ⟨rfl, hb⟩; have HB1 := Lib.hid hb; clear hb))
      go_ret
      exact ⟨rfl, HB7.out⟩
end Go.Proofs.Ytbldhfafflobbaa
