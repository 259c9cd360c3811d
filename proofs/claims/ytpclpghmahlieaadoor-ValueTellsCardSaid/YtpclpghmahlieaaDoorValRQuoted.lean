/- Contract of chapter 8's reference: quoted. -/
import Derived.Test.YtpclpghmahlieaaDoorValRQuote
namespace Go.Proofs.YtpclpghmahlieaaDoor
open Go.RowKit
set_option linter.unusedVariables false
theorem extract_one (s : ByteArray) (j : Nat) (hj : j < s.size) : s.extract j (j + 1) = bs [s[j]'hj] := by
  apply ByteArray.ext
  rw [ByteArray.data_extract]
  apply Array.ext
  · simp [bs]; have : s.data.size = s.size := rfl; omega
  · intro i h1 h2
    have : i = 0 := by simp [bs] at h2; omega
    subst this
    simp [bs]
    rfl
set_option maxRecDepth 20000 in
set_option maxHeartbeats 4000000 in
theorem refQuoted_any (s : ByteArray) (hs : s.size ≤ 1099511627776) (w : World) :
    Calls Tryd.prog 24 #[.string s] w fun e w' => e = .returned (.string (bs (39 :: (quoteL s.data.toList ++ [39])))) ∧ Below w.heap.size w w' := by
  have hml : s.size ≤ maxLen := by unfold maxLen; omega
  have hsz := bs_size
  have HL := Lib.hid (fun j (hj : j ≤ s.size) => quote_le s j hj)
  have HA := Lib.hid bs_append
  have h0 : (⟨#[39]⟩ : ByteArray) = bs [39] := rfl
  have HB92 := Lib.hid (fun wx => refByte8 92 wx (by omega) (by omega))
  rw [show UInt8.ofNat (92 : Int).toNat = 92 from rfl] at HB92
  go_enter Tryd.func24, Tryd.ntmps24
  go_wp2
  clear h0
  go_loopw [3, 4] (fun o i wr => ∃ j : Nat, j ≤ s.size ∧ i = .int .i64 j ∧ o = .string (bs ([39] ++ quoteL (s.data.toList.take j))) ∧ Hid (Below w.heap.size w wr)) (fun _ i _ => s.size - (intOf i).toNat)
  case atStart => exact ⟨0, Nat.zero_le _, rfl, rfl, Lib.hid (Below.refl _ _)⟩
  case round =>
    obtain ⟨j, hj, rfl, rfl, HBr⟩ := hrel
    have hl := HL.out j hj
    obtain ⟨P, hP⟩ : ∃ P, [39] ++ quoteL (s.data.toList.take j) = P := ⟨_, rfl⟩
    have hPl : P.length ≤ 3 * s.size + 1 := by rw [← hP]; simp; omega
    have HP := Lib.hid hP
    rw [hP]
    clear hP
    by_cases hlt : j < s.size
    · have HQ := Lib.hid (quote_next s j hlt)
      have hc : (s[j]'hlt).toNat < 256 := UInt8.toNat_lt _
      have HH := Lib.hid (fun wx => hex_any (s[j]'hlt).toNat hc wx)
      go_upto_region 5 with (fail)
      go_cut [32] (fun t wx => t = .bool (plainB ((s[j]'hlt).toNat : Nat)) ∧ wr = wx)
      case first =>
        clear HH HQ HP HL HA HB92
        go_wp2_with (fail)
        all_goals
          go_meet
          exact ⟨by congr 1; unfold plainB; rw [Bool.eq_iff_iff]; simp; omega, rfl⟩
      case rest =>
        obtain ⟨rfl, rfl⟩ := hcut
        cases hp : plainB ((s[j]'hlt).toNat : Nat) with
        | true =>
          have he : quoteB (s[j]'hlt) = [s[j]'hlt] := by unfold quoteB; rw [if_pos hp]
          have hsl : ∀ wx : World, (Instr.slice 9 (.string s) (some (.int .i64 (j : Int))) (some (.int .i64 ((j : Int) + 1))) none).run Tryd.prog wx = .ok (.string (bs [s[j]'hlt])) wx := fun wx => by
            have h := run_slice_string (P := Tryd.prog) wx 9 s .i64 .i64 (j : Int) ((j : Int) + 1) Tryd.underlying9 (by omega) (by omega) (by omega)
            rw [h, ← extract_one s j hlt]
            congr 3
          rw [he] at HQ
          obtain ⟨x, hx⟩ : ∃ x, s[j]'hlt = x := ⟨_, rfl⟩
          rw [hx] at hsl HQ
          clear hp he hx HH HL HB92 hc
          go_wp2_with (fail)
          have HAA := HA.out P [x]
          go_roundw
          case rel => exact ⟨j + 1, by omega, by go_num, by rw [HQ.out, HAA, ← HP.out, List.append_assoc], HBr⟩
          case measure => simp [intOf]; omega
        | false =>
          have he : quoteB (s[j]'hlt) = [92, figB ((s[j]'hlt).toNat / 16), figB ((s[j]'hlt).toNat % 16)] := by unfold quoteB; rw [if_neg (by simp [hp])]
          rw [he] at HQ
          clear hp he
          have HB := HBr
          have q1 : ¬ 9223372036854775807 < P.length + 3 := by omega
          have q2 : ¬ 9223372036854775807 < P.length + (1 + 2) := by omega
          have q3 : P.length + 3 ≤ 9223372036854775807 := by omega
          go_upto_region 7 with (fail)
          go_region_held3 (fun w' => Hid (Below w.heap.size w w')) (first | exact Lib.hid HB.out.drew | exact HB | fail)
            (first
              | (go_at_call 37; refine (HB92.out _).mono ?_; rintro e w3 ⟨rfl, hb3⟩; have HB := Lib.hid (below_step8' (by first | exact HB.out | exact HB.out.drew) hb3); clear hb3)
              | (go_at_call 38; refine (HH.out _).mono ?_; rintro e w4 ⟨rfl, hb4⟩; have HB := Lib.hid (below_step8' (by first | exact HB.out | exact HB.out.drew) hb4); clear hb4))
          all_goals
            go_wp2_with (fail)
            have HAA := HA.out [92] [figB ((s[j]'hlt).toNat / 16), figB ((s[j]'hlt).toNat % 16)]
            have HAB := HA.out P ([92] ++ [figB ((s[j]'hlt).toNat / 16), figB ((s[j]'hlt).toNat % 16)])
            go_roundw
            case rel => exact ⟨j + 1, by omega, by go_num, by rw [HQ.out, HAA, HAB, ← HP.out, List.append_assoc]; rfl, HB⟩
            case measure => simp [intOf]; omega
    · obtain rfl : j = s.size := by omega
      have he : s.data.toList.take s.size = s.data.toList := List.take_of_length_le (by simp)
      have h0 : (⟨#[39]⟩ : ByteArray) = bs [39] := rfl
      have HX := Lib.hid (show P ++ [39] = 39 :: (quoteL s.data.toList ++ [39]) by rw [← HP.out, he]; rfl)
      go_wp2_with (fail)
      have HAA := HA.out P [39]
      go_ret
      exact ⟨congrArg (fun x => Ending.returned (Value.string x)) (HAA.trans (by rw [HX.out])), HBr.out⟩
end Go.Proofs.YtpclpghmahlieaaDoor
