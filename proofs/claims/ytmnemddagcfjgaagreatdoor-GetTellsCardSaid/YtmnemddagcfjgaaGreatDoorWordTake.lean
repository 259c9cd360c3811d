/- Contracts of word.Take and of the reference's Take. -/
import Derived.Test.YtmnemddagcfjgaaGreatDoorWordRef
import Derived.Test.YtmnemddagcfjgaaGreatDoorAlignMath
import Derived.LoopN
import Derived.Handy
import Derived.OpenShut
namespace Go.Proofs.YtmnemddagcfjgaaGreatDoor
open Go.RowKit
theorem take_1 (s : ByteArray) (k : Nat) (hs : s.size ≤ maxLen) (hk : k + 1 ≤ s.size) (w : World) : Calls Tryz.prog 183 #[.string s, .int .i64 k, .int .i64 1] w fun e w' => e = .returned (.tuple #[.int .u64 (takeS s k 1), .int .i64 0]) ∧ w = w' := by
  unfold maxLen at hs
  go_enter Tryz.func183, Tryz.ntmps183
  go_wp2_with (first | (go_at_call 184; refine (isSize_any _ _).mono ?_; rintro e w' ⟨rfl, rfl⟩))
  go_rounds 2
  go_ret2
  exact ⟨ret_ui (takeW1 s k hk) rfl, rfl⟩
theorem take_2 (s : ByteArray) (k : Nat) (hs : s.size ≤ maxLen) (hk : k + 2 ≤ s.size) (w : World) : Calls Tryz.prog 183 #[.string s, .int .i64 k, .int .i64 2] w fun e w' => e = .returned (.tuple #[.int .u64 (takeS s k 2), .int .i64 0]) ∧ w = w' := by
  unfold maxLen at hs
  go_enter Tryz.func183, Tryz.ntmps183
  go_wp2_with (first | (go_at_call 184; refine (isSize_any _ _).mono ?_; rintro e w' ⟨rfl, rfl⟩))
  go_rounds 3
  go_ret2
  exact ⟨ret_ui (takeW2 s k hk) rfl, rfl⟩
theorem take_4 (s : ByteArray) (k : Nat) (hs : s.size ≤ maxLen) (hk : k + 4 ≤ s.size) (w : World) : Calls Tryz.prog 183 #[.string s, .int .i64 k, .int .i64 4] w fun e w' => e = .returned (.tuple #[.int .u64 (takeS s k 4), .int .i64 0]) ∧ w = w' := by
  unfold maxLen at hs
  go_enter Tryz.func183, Tryz.ntmps183
  go_wp2_with (first | (go_at_call 184; refine (isSize_any _ _).mono ?_; rintro e w' ⟨rfl, rfl⟩))
  go_rounds 5
  go_ret2
  exact ⟨ret_ui (takeW4 s k hk) rfl, rfl⟩
theorem take_8 (s : ByteArray) (k : Nat) (hs : s.size ≤ maxLen) (hk : k + 8 ≤ s.size) (w : World) : Calls Tryz.prog 183 #[.string s, .int .i64 k, .int .i64 8] w fun e w' => e = .returned (.tuple #[.int .u64 (takeS s k 8), .int .i64 0]) ∧ w = w' := by
  unfold maxLen at hs
  go_enter Tryz.func183, Tryz.ntmps183
  go_wp2_with (first | (go_at_call 184; refine (isSize_any _ _).mono ?_; rintro e w' ⟨rfl, rfl⟩))
  go_rounds 9
  go_ret2
  exact ⟨ret_ui (takeW8 s k hk) rfl, rfl⟩
theorem take_any (s : ByteArray) (a z : Int) (hs : s.size ≤ maxLen) (ha : (Lit.int .i64 a).wf = true) (w : World) : Calls Tryz.prog 183 #[.string s, .int .i64 a, .int .i64 z] w fun e w' => e = .returned (.tuple #[.int .u64 (takeN s a z), .int .i64 (takeE s a z)]) ∧ w = w' := by
  cases hz : isSz z with
  | false =>
    rw [(take_no hz).1, (take_no hz).2]
    go_enter Tryz.func183, Tryz.ntmps183
    go_wp2_with (first | (go_at_call 184; refine (isSize_any _ _).mono ?_; rintro e w' ⟨rfl, rfl⟩))
    go_ret2
    exact ⟨rfl, rfl⟩
  | true =>
    have hs' := hs
    unfold maxLen at hs
    obtain ⟨ha0, ha1⟩ := bounds_i64 ha
    clear ha
    by_cases c : a < 0
    · rw [(take_out hz (.inl c)).1, (take_out hz (.inl c)).2]
      go_enter Tryz.func183, Tryz.ntmps183
      go_wp2_with (first | (go_at_call 184; refine (isSize_any _ _).mono ?_; rintro e w' ⟨rfl, rfl⟩))
      go_ret2
      exact ⟨rfl, rfl⟩
    · by_cases d : (s.size : Int) < a
      · rw [(take_out hz (.inr d)).1, (take_out hz (.inr d)).2]
        go_enter Tryz.func183, Tryz.ntmps183
        go_wp2_with (first | (go_at_call 184; refine (isSize_any _ _).mono ?_; rintro e w' ⟨rfl, rfl⟩))
        go_ret2
        exact ⟨rfl, rfl⟩
      · by_cases g : (s.size : Int) - a < z
        · rw [(take_short hz (by omega) (by omega) g).1, (take_short hz (by omega) (by omega) g).2]
          go_enter Tryz.func183, Tryz.ntmps183
          go_wp2_with (first | (go_at_call 184; refine (isSize_any _ _).mono ?_; rintro e w' ⟨rfl, rfl⟩))
          go_ret2
          exact ⟨rfl, rfl⟩
        · obtain ⟨k, rfl⟩ := Int.eq_ofNat_of_zero_le (show 0 ≤ a by omega)
          rw [(take_in hz (by omega)).1, (take_in hz (by omega)).2]
          rcases isSz_cases hz with rfl | rfl | rfl | rfl
          · exact take_1 s k hs' (by omega) w
          · exact take_2 s k hs' (by omega) w
          · exact take_4 s k hs' (by omega) w
          · exact take_8 s k hs' (by omega) w
theorem refTake_1 (s : ByteArray) (k : Nat) (hs : s.size ≤ maxLen) (hk : k + 1 ≤ s.size) (w : World) : Calls Tryz.prog 133 #[.string s, .int .i64 k, .int .i64 1] w fun e w' => e = .returned (.tuple #[.int .u64 (takeS s k 1), .int .i64 0]) ∧ w = w' := by
  unfold maxLen at hs
  go_enter Tryz.func133, Tryz.ntmps133
  go_wp2_with (first | (go_at_call 131; refine (refSized_any _ _).mono ?_; rintro e w' ⟨rfl, rfl⟩))
  go_rounds 2
  go_ret2
  exact ⟨ret_ui (refTakeW1 s k hk) rfl, rfl⟩
theorem refTake_2 (s : ByteArray) (k : Nat) (hs : s.size ≤ maxLen) (hk : k + 2 ≤ s.size) (w : World) : Calls Tryz.prog 133 #[.string s, .int .i64 k, .int .i64 2] w fun e w' => e = .returned (.tuple #[.int .u64 (takeS s k 2), .int .i64 0]) ∧ w = w' := by
  unfold maxLen at hs
  go_enter Tryz.func133, Tryz.ntmps133
  go_wp2_with (first | (go_at_call 131; refine (refSized_any _ _).mono ?_; rintro e w' ⟨rfl, rfl⟩))
  go_rounds 3
  go_ret2
  exact ⟨ret_ui (refTakeW2 s k hk) rfl, rfl⟩
theorem refTake_4 (s : ByteArray) (k : Nat) (hs : s.size ≤ maxLen) (hk : k + 4 ≤ s.size) (w : World) : Calls Tryz.prog 133 #[.string s, .int .i64 k, .int .i64 4] w fun e w' => e = .returned (.tuple #[.int .u64 (takeS s k 4), .int .i64 0]) ∧ w = w' := by
  unfold maxLen at hs
  go_enter Tryz.func133, Tryz.ntmps133
  go_wp2_with (first | (go_at_call 131; refine (refSized_any _ _).mono ?_; rintro e w' ⟨rfl, rfl⟩))
  go_rounds 5
  go_ret2
  exact ⟨ret_ui (refTakeW4 s k hk) rfl, rfl⟩
theorem refTake_8 (s : ByteArray) (k : Nat) (hs : s.size ≤ maxLen) (hk : k + 8 ≤ s.size) (w : World) : Calls Tryz.prog 133 #[.string s, .int .i64 k, .int .i64 8] w fun e w' => e = .returned (.tuple #[.int .u64 (takeS s k 8), .int .i64 0]) ∧ w = w' := by
  unfold maxLen at hs
  go_enter Tryz.func133, Tryz.ntmps133
  go_wp2_with (first | (go_at_call 131; refine (refSized_any _ _).mono ?_; rintro e w' ⟨rfl, rfl⟩))
  go_rounds 9
  go_ret2
  exact ⟨ret_ui (refTakeW8 s k hk) rfl, rfl⟩
theorem refTake_any (s : ByteArray) (a z : Int) (hs : s.size ≤ maxLen) (ha : (Lit.int .i64 a).wf = true) (w : World) : Calls Tryz.prog 133 #[.string s, .int .i64 a, .int .i64 z] w fun e w' => e = .returned (.tuple #[.int .u64 (takeN s a z), .int .i64 (takeE s a z)]) ∧ w = w' := by
  cases hz : isSz z with
  | false =>
    rw [(take_no hz).1, (take_no hz).2]
    go_enter Tryz.func133, Tryz.ntmps133
    go_wp2_with (first | (go_at_call 131; refine (refSized_any _ _).mono ?_; rintro e w' ⟨rfl, rfl⟩))
    go_ret2
    exact ⟨rfl, rfl⟩
  | true =>
    have hs' := hs
    unfold maxLen at hs
    obtain ⟨ha0, ha1⟩ := bounds_i64 ha
    clear ha
    by_cases c : a < 0
    · rw [(take_out hz (.inl c)).1, (take_out hz (.inl c)).2]
      go_enter Tryz.func133, Tryz.ntmps133
      go_wp2_with (first | (go_at_call 131; refine (refSized_any _ _).mono ?_; rintro e w' ⟨rfl, rfl⟩))
      go_ret2
      exact ⟨rfl, rfl⟩
    · by_cases d : (s.size : Int) < a
      · rw [(take_out hz (.inr d)).1, (take_out hz (.inr d)).2]
        go_enter Tryz.func133, Tryz.ntmps133
        go_wp2_with (first | (go_at_call 131; refine (refSized_any _ _).mono ?_; rintro e w' ⟨rfl, rfl⟩))
        all_goals (first | (exfalso; omega) | (go_ret2; exact ⟨rfl, rfl⟩))
      · by_cases g : (s.size : Int) - a < z
        · rw [(take_short hz (by omega) (by omega) g).1, (take_short hz (by omega) (by omega) g).2]
          go_enter Tryz.func133, Tryz.ntmps133
          go_wp2_with (first | (go_at_call 131; refine (refSized_any _ _).mono ?_; rintro e w' ⟨rfl, rfl⟩))
          all_goals (first | (exfalso; omega) | (go_ret2; exact ⟨rfl, rfl⟩))
        · obtain ⟨k, rfl⟩ := Int.eq_ofNat_of_zero_le (show 0 ≤ a by omega)
          rw [(take_in hz (by omega)).1, (take_in hz (by omega)).2]
          rcases isSz_cases hz with rfl | rfl | rfl | rfl
          · exact refTake_1 s k hs' (by omega) w
          · exact refTake_2 s k hs' (by omega) w
          · exact refTake_4 s k hs' (by omega) w
          · exact refTake_8 s k hs' (by omega) w
end Go.Proofs.YtmnemddagcfjgaaGreatDoor
