/- Chapter 17's second law, walked over what the code's three functions answer (LikeC). -/
import Derived.Test.YtbldhfafflobbaaLikeLaw
namespace Go.Proofs.Ytbldhfafflobbaa
open Go.RowKit
set_option linter.unusedVariables false
set_option linter.unusedSimpArgs false
theorem bt_append (a b : List UInt8) : bt a ++ bt b = bt (a ++ b) := by
  apply ByteArray.ext; simp [bt]
theorem bt_eq (a b : List UInt8) : ((bt a).toList == (bt b).toList) = (a == b) := by rw [ByteArray.toList_eq, ByteArray.toList_eq]; simp [bt]
set_option maxHeartbeats 2000000 in
theorem suffix17 (C : LikeC) (p s : List UInt8) (hp : p.length ≤ 1000) (hs : s.length ≤ 1000) (w : World) : Calls Try.prog 13 #[.string (bt p), .string (bt s)] w fun e w' => e = .returned (.bool (likeL (37 :: p) s)) ∧ Below w.heap.size w w' := by
  have hsz : (bt s).size = s.length := bt_size s
  have HM := Lib.hid (fun j => C.mat p (s.drop j) hp (by rw [List.length_drop]; omega))
  have HSL := Lib.hid (fun j (hj : j ≤ s.length) wx => bt_from s j hj wx)
  have HY := Lib.hid (fun j (hj : j ≤ s.length) (h : likeL p (s.drop j) = true) => (like_suf p s).2 ⟨j, hj, h⟩)
  have HN := Lib.hid (show (∀ j, j < s.length + 1 → likeL p (s.drop j) = false) → likeL (37 :: p) s = false from fun h => by
    rw [Bool.eq_false_iff]; intro e
    obtain ⟨j, hj, h2⟩ := (like_suf p s).1 e
    rw [h j (by omega)] at h2; cases h2)
  obtain ⟨V, hV⟩ : ∃ V, likeL (37 :: p) s = V := ⟨_, rfl⟩
  rw [hV] at HY HN ⊢
  obtain ⟨P, hP⟩ : ∃ P, bt p = P := ⟨_, rfl⟩
  obtain ⟨S, hS⟩ : ∃ S, bt s = S := ⟨_, rfl⟩
  rw [hP] at HM ⊢
  rw [hS] at hsz HSL ⊢
  have hms : S.size ≤ maxLen := by show S.size ≤ 9223372036854775807; omega
  clear hV hP hS C
  go_enter Try.func13, Try.ntmps13
  go_wp2_with (fail)
  go_loopw [5] (fun i wr => ∃ j : Nat, j ≤ s.length + 1 ∧ i = .int .i64 j ∧ Hid (∀ i, i < j → likeL p (s.drop i) = false) ∧ Hid (Below w.heap.size w wr)) (fun i _ => s.length + 1 - (intOf i).toNat)
  case atStart => exact ⟨0, Nat.zero_le _, rfl, Lib.hid (fun i hi => absurd hi (Nat.not_lt_zero i)), Lib.hid (Below.refl _ _)⟩
  case round =>
    obtain ⟨j, hj, rfl, HJ, HBr⟩ := hrel
    by_cases hlt : j ≤ s.length
    · have hji : (j : Int) ≤ (s.length : Int) := by omega
      have HMj := Lib.hid (HM.out j)
      have hsl := HSL.out j hlt
      have hy := HY.out j hlt
      obtain ⟨m, hm⟩ : ∃ m, likeL p (s.drop j) = m := ⟨_, rfl⟩
      rw [hm] at HMj hy
      have HMM := Lib.hid hm
      generalize bt (s.drop j) = X at *
      clear hm
      cases m with
      | true =>
        have hv := hy rfl
        subst hv
        clear hy
        go_wp2_with (go_at_call 7; refine (HMj.out _).mono ?_; rintro e w1 ⟨rfl, hb⟩; have HB1 := Lib.hid (bthL HBr.out hb); clear hb)
        go_ret
        exact ⟨rfl, HB1.out⟩
      | false =>
        have HJ2 := Lib.hid (show ∀ i, i < j + 1 → likeL p (s.drop i) = false from fun i hi => by
          rcases Nat.lt_succ_iff_lt_or_eq.1 hi with h | rfl
          · exact HJ.out i h
          · exact HMM.out)
        clear hy
        go_wp2_with (go_at_call 7; refine (HMj.out _).mono ?_; rintro e w1 ⟨rfl, hb⟩; have HB1 := Lib.hid (bthL HBr.out hb); clear hb)
        go_roundw
        case rel => exact ⟨j + 1, by omega, by go_num, HJ2, HB1⟩
        case measure => simp [intOf]; omega
    · have hji : ¬ (j : Int) ≤ (s.length : Int) := by omega
      have hjn : j = s.length + 1 := by omega
      have hv := HN.out (fun i hi => HJ.out i (by omega))
      subst hv
      clear hjn hlt
      go_wp2_with (fail)
      go_ret
      exact ⟨rfl, HBr.out⟩
set_option maxRecDepth 100000 in
set_option maxHeartbeats 4000000 in
theorem leads17 (C : LikeC) (x y : ByteArray) (w : World) : Calls Try.prog 4 #[.string x, .string y] w fun e w' => e = .returned (.bool true) ∧ Below w.heap.size w w' := by
  have HA := Lib.hid (awake17 C)
  by_cases h1 : 400 < x.size
  · have h1i : (400 : Int) < (x.size : Int) := by omega
    go_enter Try.func4, Try.ntmps4
    go_wp2_with (go_at_call 6; refine (HA.out _).mono ?_; rintro e w1 ⟨rfl, hb⟩; have HB1 := Lib.hid hb; clear hb)
    go_ret
    exact ⟨rfl, HB1.out⟩
  · have h1i : ¬ (400 : Int) < (x.size : Int) := by omega
    by_cases h2 : 400 < y.size
    · have h2i : (400 : Int) < (y.size : Int) := by omega
      go_enter Try.func4, Try.ntmps4
      go_wp2_with (go_at_call 6; refine (HA.out _).mono ?_; rintro e w1 ⟨rfl, hb⟩; have HB1 := Lib.hid hb; clear hb)
      go_ret
      exact ⟨rfl, HB1.out⟩
    · have h2i : ¬ (400 : Int) < (y.size : Int) := by omega
      obtain ⟨p, rfl⟩ : ∃ p, x = bt p := ⟨x.data.toList, by apply ByteArray.ext; simp [bt]⟩
      obtain ⟨s, rfl⟩ : ∃ s, y = bt s := ⟨y.data.toList, by apply ByteArray.ext; simp [bt]⟩
      have hp : p.length ≤ 400 := by have := bt_size p; omega
      have hs : s.length ≤ 400 := by have := bt_size s; omega
      obtain ⟨hlt1, hlt2⟩ := lead_take p
      have HL := Lib.hid (C.lead p (by omega))
      have HALL := Lib.hid (show ∀ wx, Calls Try.prog 7 #[.string ⟨#[37]⟩, .string (bt s)] wx fun e w' => e = .returned (.bool true) ∧ Below wx.heap.size wx w' from fun wx => by have h := C.mat [37] s (by decide) (by omega) wx; rw [like_all] at h; exact h)
      have HLL := Lib.hid (fun wx => C.mat (leadL p) (leadL p) (by omega) (by omega) wx)
      rw [like_self _ _ (lead_plain p), beq_self_eq_true] at HLL
      have HLS := Lib.hid (fun wx => C.mat (leadL p) s (by omega) (by omega) wx)
      rw [like_self _ _ (lead_plain p)] at HLS
      have HM := Lib.hid (fun wx => C.mat p s (by omega) (by omega) wx)
      have HN := Lib.hid (C.least p (by omega))
      have HPM := Lib.hid (fun wx => C.mat (37 :: p) s (by rw [List.length_cons]; omega) (by omega) wx)
      have HSF := Lib.hid (fun wx => suffix17 C p s (by omega) (by omega) wx)
      have hk1 : likeL p s = true → leastL p ≤ s.length := least_le p s
      have hk2 : likeL p s = true → s.take (leadL p).length = leadL p := lead_pre p s
      have hk3 : likeL p s = true → (leadL p).length ≤ s.length := fun h => by
        have := congrArg List.length (hk2 h)
        rw [List.length_take] at this; omega
      have hsl1 := fun wx => bt_to p (leadL p).length hlt2 wx
      rw [hlt1] at hsl1
      have hsl2 := fun h wx => bt_to s (leadL p).length h wx
      have hlz := bt_size (leadL p)
      have hsz := bt_size s
      have hpz := bt_size p
      have hee := bt_eq (leadL p) s
      have hcat : bt [37] ++ bt p = bt (37 :: p) := bt_append [37] p
      obtain ⟨m, hm⟩ : ∃ m, likeL p s = m := ⟨_, rfl⟩
      rw [hm] at HM hk1 hk2 hk3
      obtain ⟨e1, he1⟩ : ∃ e, (leadL p == s) = e := ⟨_, rfl⟩
      rw [he1] at HLS hee
      generalize likeL (37 :: p) s = m2 at *
      generalize leastL p = n at *
      have hcat2 : (⟨#[37]⟩ : ByteArray) ++ bt p = bt (37 :: p) := hcat
      have q1 : ¬ 9223372036854775807 < 1 + p.length := by omega
      have q2 : ¬ (leadL p).length > p.length := by omega
      have q3 : ¬ ((p.length : Nat) : Int) < (((leadL p).length : Nat) : Int) := by omega
      clear hm he1 C hcat hlt1 h1 h2
      cases m with
      | true =>
        have g1 := hk1 rfl
        have g2 := hk2 rfl
        have g3 := hk3 rfl
        have hs2 := fun wx => hsl2 g3 wx
        rw [g2] at hs2
        have r1 : ¬ ((s.length : Nat) : Int) < ((n : Nat) : Int) := by omega
        have r2 : ¬ ((s.length : Nat) : Int) < (((leadL p).length : Nat) : Int) := by omega
        clear hk1 hk2 hk3 hsl2 g2
        generalize bt (37 :: p) = PP at *
        generalize bt (leadL p) = L at *
        generalize (leadL p).length = k at *
        generalize bt p = P at *
        generalize bt s = S at *
        cases e1
        all_goals
          go_enter Try.func4, Try.ntmps4
          go_wp2_with (first
            | (go_at_call 6; refine (HA.out _).mono ?_; rintro e w9 ⟨rfl, hb⟩; have HB9 := Lib.hid (bthL HB8.out hb); clear hb)
            | (go_at_call 13; (with_reducible refine (HSF.out _).mono ?_); rintro e w8 ⟨rfl, hb⟩; have HB8 := Lib.hid (bthL HB7.out hb); clear hb)
            | (go_at_call 7; (with_reducible refine (HPM.out _).mono ?_); rintro e w7 ⟨rfl, hb⟩; have HB7 := Lib.hid (show Below w.heap.size w w7 from by first | exact bthL HB6.out hb | exact bthL HB5.out hb); clear hb)
            | (go_at_call 11; (with_reducible refine (HN.out _).mono ?_); rintro e w6 ⟨rfl, hb⟩; have HB6 := Lib.hid (bthL HB5.out hb); clear hb)
            | (go_at_call 7; (with_reducible refine (HM.out _).mono ?_); rintro e w5 ⟨rfl, hb⟩; have HB5 := Lib.hid (bthL HB4.out hb); clear hb)
            | (go_at_call 7; (with_reducible refine (HLS.out _).mono ?_); rintro e w4 ⟨rfl, hb⟩; have HB4 := Lib.hid (bthL HB3.out hb); clear hb)
            | (go_at_call 7; (with_reducible refine (HLL.out _).mono ?_); rintro e w3 ⟨rfl, hb⟩; have HB3 := Lib.hid (bthL HB2.out hb); clear hb)
            | (go_at_call 7; (with_reducible refine (HALL.out _).mono ?_); rintro e w2 ⟨rfl, hb⟩; have HB2 := Lib.hid (bthL HB1.out hb); clear hb)
            | (go_at_call 9; (with_reducible refine (HL.out _).mono ?_); rintro e w1 ⟨rfl, hb⟩; have HB1 := Lib.hid hb; clear hb))
          go_ret
          exact ⟨rfl, HB9.out⟩
      | false =>
        clear hk1 hk2 hk3 hsl2
        generalize bt (37 :: p) = PP at *
        generalize bt (leadL p) = L at *
        generalize (leadL p).length = k at *
        generalize bt p = P at *
        generalize bt s = S at *
        cases e1
        all_goals
          go_enter Try.func4, Try.ntmps4
          go_wp2_with (first
            | (go_at_call 6; refine (HA.out _).mono ?_; rintro e w9 ⟨rfl, hb⟩; have HB9 := Lib.hid (bthL HB8.out hb); clear hb)
            | (go_at_call 13; (with_reducible refine (HSF.out _).mono ?_); rintro e w8 ⟨rfl, hb⟩; have HB8 := Lib.hid (bthL HB7.out hb); clear hb)
            | (go_at_call 7; (with_reducible refine (HPM.out _).mono ?_); rintro e w7 ⟨rfl, hb⟩; have HB7 := Lib.hid (show Below w.heap.size w w7 from by first | exact bthL HB6.out hb | exact bthL HB5.out hb); clear hb)
            | (go_at_call 11; (with_reducible refine (HN.out _).mono ?_); rintro e w6 ⟨rfl, hb⟩; have HB6 := Lib.hid (bthL HB5.out hb); clear hb)
            | (go_at_call 7; (with_reducible refine (HM.out _).mono ?_); rintro e w5 ⟨rfl, hb⟩; have HB5 := Lib.hid (bthL HB4.out hb); clear hb)
            | (go_at_call 7; (with_reducible refine (HLS.out _).mono ?_); rintro e w4 ⟨rfl, hb⟩; have HB4 := Lib.hid (bthL HB3.out hb); clear hb)
            | (go_at_call 7; (with_reducible refine (HLL.out _).mono ?_); rintro e w3 ⟨rfl, hb⟩; have HB3 := Lib.hid (bthL HB2.out hb); clear hb)
            | (go_at_call 7; (with_reducible refine (HALL.out _).mono ?_); rintro e w2 ⟨rfl, hb⟩; have HB2 := Lib.hid (bthL HB1.out hb); clear hb)
            | (go_at_call 9; (with_reducible refine (HL.out _).mono ?_); rintro e w1 ⟨rfl, hb⟩; have HB1 := Lib.hid hb; clear hb))
          go_ret
          exact ⟨rfl, HB9.out⟩
end Go.Proofs.Ytbldhfafflobbaa
