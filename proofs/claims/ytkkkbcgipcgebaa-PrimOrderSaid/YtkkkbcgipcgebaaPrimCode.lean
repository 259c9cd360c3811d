/- Contracts of package prim: isBelow, cmpNum, Cmp, and cmp.Compare. -/
import Derived.Test.YtkkkbcgipcgebaaPrimSmall
namespace Go.Proofs.Ytkkkbcgipcgebaa
open Go.RowKit
set_option linter.unusedVariables false
theorem nan_i (a : Int) (w : World) : Calls Try.prog 46 #[.int .i64 a] w fun e w' => e = .returned (.bool false) ∧ w = w' := by
  go_enter Try.func46, Try.ntmps46
  go_wp2
  go_ret
  exact ⟨ret_bool (by simp), rfl⟩
theorem nan_u (a : Int) (w : World) : Calls Try.prog 48 #[.int .u64 a] w fun e w' => e = .returned (.bool false) ∧ w = w' := by
  go_enter Try.func48, Try.ntmps48
  go_wp2
  go_ret
  exact ⟨ret_bool (by simp), rfl⟩
theorem nan_s (a : ByteArray) (w : World) : Calls Try.prog 47 #[.string a] w fun e w' => e = .returned (.bool false) ∧ w = w' := by
  go_enter Try.func47, Try.ntmps47
  go_wp2
  go_ret
  exact ⟨ret_bool (by simp), rfl⟩
theorem compare_i (a b : Int) (w : World) : Calls Try.prog 35 #[.int .i64 a, .int .i64 b] w fun e w' => e = .returned (.int .i64 (cmpI a b)) ∧ w = w' := by
  go_enter Try.func35, Try.ntmps35
  go_wp2_with (go_at_call 46; refine (nan_i _ _).mono ?_; rintro e w' ⟨rfl, rfl⟩)
  all_goals
    go_ret
    refine ⟨ret_int ?_, rfl⟩
    unfold cmpI; (repeat' split) <;> first | rfl | omega | (simp_all; done) | (simp_all; omega)
theorem compare_u (a b : Int) (w : World) : Calls Try.prog 38 #[.int .u64 a, .int .u64 b] w fun e w' => e = .returned (.int .i64 (cmpI a b)) ∧ w = w' := by
  go_enter Try.func38, Try.ntmps38
  go_wp2_with (go_at_call 48; refine (nan_u _ _).mono ?_; rintro e w' ⟨rfl, rfl⟩)
  all_goals
    go_ret
    refine ⟨ret_int ?_, rfl⟩
    unfold cmpI; (repeat' split) <;> first | rfl | omega | (simp_all; done) | (simp_all; omega)
theorem compare_s (a b : ByteArray) (w : World) : Calls Try.prog 37 #[.string a, .string b] w fun e w' => e = .returned (.int .i64 (cmpT a b)) ∧ w = w' := by
  unfold cmpT
  cases h1 : Op.bytesLess a.toList b.toList <;> cases h2 : (a.toList == b.toList)
  all_goals
    go_enter Try.func37, Try.ntmps37
    go_wp2_with (go_at_call 47; refine (nan_s _ _).mono ?_; rintro e w' ⟨rfl, rfl⟩)
    go_ret
    exact ⟨rfl, rfl⟩
theorem isBelow_at (kd num : Int) (neg : Bool) (tx : ByteArray) (w : World) : Calls Try.prog 33 #[.agg #[.int .i64 kd, .bool neg, .int .u64 num, .string tx]] w fun e w' => e = .returned (.bool (neg && num != 0)) ∧ w' = w.alloc (.cells #[.int .i64 kd, .bool neg, .int .u64 num, .string tx] 29) := by
  cases neg
  all_goals
    go_enter Try.func33, Try.ntmps33
    go_wp2
    go_ret
    exact ⟨rfl, rfl⟩
theorem cmp_num (a b : DatV) (ha : 0 ≤ a.num) (hb : 0 ≤ b.num) : cmpI (dv a) (dv b) = (if (a.neg && a.num != 0) && (b.neg && b.num != 0) then cmpI b.num a.num else if (a.neg && a.num != 0) then -1 else if (b.neg && b.num != 0) then 1 else cmpI a.num b.num) := by
  obtain ⟨ka, ga, na, ta⟩ := a
  obtain ⟨kb, gb, nb, tb⟩ := b
  simp only [dv, cmpI] at *
  cases ga <;> cases gb <;> simp <;> (repeat' split) <;> omega
theorem cmpNum_any (ka kb na nb : Int) (ga gb : Bool) (ta tb : ByteArray) (hna : 0 ≤ na) (hnb : 0 ≤ nb) (w : World) : Calls Try.prog 36 #[.agg #[.int .i64 ka, .bool ga, .int .u64 na, .string ta], .agg #[.int .i64 kb, .bool gb, .int .u64 nb, .string tb]] w fun e w' => e = .returned (.int .i64 (cmpI (dv ⟨ka, ga, na, ta⟩) (dv ⟨kb, gb, nb, tb⟩))) ∧ Below w.heap.size w w' := by
  have hr := Below.refl w.heap.size w
  rw [cmp_num _ _ hna hnb]
  dsimp only
  have HA := fun w => isBelow_at ka na ga ta w
  have HB := fun w => isBelow_at kb nb gb tb w
  cases ca : (ga && na != 0) <;> cases cb : (gb && nb != 0)
  all_goals
    rw [ca] at HA
    rw [cb] at HB
    have HA := Lib.hid HA
    have HB := Lib.hid HB
    clear ca cb
    go_enter Try.func36, Try.ntmps36
    go_wp2_with (first
      | (go_at_call 33; with_reducible refine (HA.out _).mono ?_; rintro e w1 ⟨rfl, rfl⟩)
      | (go_at_call 33; with_reducible refine (HB.out _).mono ?_; rintro e w1 ⟨rfl, rfl⟩)
      | (go_at_call 38; refine (compare_u _ _ _).mono ?_; rintro e w1 ⟨rfl, rfl⟩))
    go_ret
    exact ⟨rfl, by go_grown⟩
theorem cmp_any (ka kb na nb : Int) (ga gb : Bool) (ta tb : ByteArray) (hna : (Lit.int .u64 na).wf = true) (hnb : (Lit.int .u64 nb).wf = true) (hta : ta.size ≤ 281474976710656) (htb : tb.size ≤ 281474976710656) (w : World) : Calls Try.prog 24 #[.agg #[.int .i64 ka, .bool ga, .int .u64 na, .string ta], .agg #[.int .i64 kb, .bool gb, .int .u64 nb, .string tb]] w fun e w' => e = .returned (.int .i64 (cmpD ⟨ka, ga, na, ta⟩ ⟨kb, gb, nb, tb⟩)) ∧ Below w.heap.size w w' := by
  obtain ⟨c, hc⟩ : ∃ c, cmpD ⟨ka, ga, na, ta⟩ ⟨kb, gb, nb, tb⟩ = c := ⟨_, rfl⟩
  rw [hc]
  have h0 := (bounds_u64 hna).1
  have h1 := (bounds_u64 hnb).1
  by_cases hk : ka = kb
  · subst hk
    have hkk : (ka != ka) = false := by simp
    by_cases h1 : ka = 1
    · subst h1
      rw [cmpD_num (a := ⟨1, ga, na, ta⟩) (b := ⟨1, gb, nb, tb⟩) rfl rfl] at hc
      have HC := Lib.hid (fun w => hc ▸ cmpNum_any 1 1 na nb ga gb ta tb h0 (by assumption) w)
      clear hc
      go_enter Try.func24, Try.ntmps24
      go_wp2_with (go_at_call 36; refine (HC.out _).mono ?_; rintro e w1 ⟨rfl, hb⟩)
      go_ret
      exact ⟨rfl, (by (refine (Below.trans ?_ (hb.mono (by simp; omega))); go_grown))⟩
    · by_cases h2 : ka = 2
      · subst h2
        rw [cmpD_text (a := ⟨2, ga, na, ta⟩) (b := ⟨2, gb, nb, tb⟩) rfl rfl] at hc
        have HC := Lib.hid (fun w => hc ▸ compare_s ta tb w)
        clear hc
        go_enter Try.func24, Try.ntmps24
        go_wp2_with (go_at_call 37; refine (HC.out _).mono ?_; rintro e w1 ⟨rfl, rfl⟩)
        go_ret
        exact ⟨rfl, by go_grown⟩
      · by_cases h3 : ka = 3
        · subst h3
          rw [cmpD_bool (a := ⟨3, ga, na, ta⟩) (b := ⟨3, gb, nb, tb⟩) rfl rfl] at hc
          have HC := Lib.hid (fun w => hc ▸ compare_u na nb w)
          clear hc
          go_enter Try.func24, Try.ntmps24
          go_wp2_with (go_at_call 38; refine (HC.out _).mono ?_; rintro e w1 ⟨rfl, rfl⟩)
          go_ret
          exact ⟨rfl, by go_grown⟩
        · rw [cmpD_none (a := ⟨ka, ga, na, ta⟩) (b := ⟨ka, gb, nb, tb⟩) rfl h1 h2 h3] at hc
          subst hc
          have t1 : (ka == 1) = false := by simpa using h1
          have t2 : (ka == 2) = false := by simpa using h2
          have t3 : (ka == 3) = false := by simpa using h3
          clear h1 h2 h3
          go_enter Try.func24, Try.ntmps24
          go_wp2
          go_ret
          exact ⟨rfl, by go_grown⟩
  · rw [cmpD_kinds (a := ⟨ka, ga, na, ta⟩) (b := ⟨kb, gb, nb, tb⟩) hk] at hc
    have HC := Lib.hid (fun w => (show cmpI ka kb = c from hc) ▸ compare_i ka kb w)
    clear hc
    have t1 : (ka != kb) = true := by simpa using hk
    clear hk
    go_enter Try.func24, Try.ntmps24
    go_wp2_with (go_at_call 35; refine (HC.out _).mono ?_; rintro e w1 ⟨rfl, rfl⟩)
    go_ret
    exact ⟨rfl, by go_grown⟩
end Go.Proofs.Ytkkkbcgipcgebaa
