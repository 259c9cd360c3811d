/- Quote: of the code and of the reference. -/
import Derived.Test.YtjgdkiikkgdbaaaGreatDoorQ03
import Derived.Test.YtjgdkiikkgdbaaaGreatDoorQ30
namespace Go.Proofs.YtjgdkiikkgdbaaaGreatDoor
open Go.RowKit
set_option linter.unusedVariables false
theorem dbl_append (a b : List UInt8) : dbl (a ++ b) = dbl a ++ dbl b := by
  induction a with
  | nil => rfl
  | cons c r ih =>
    rw [List.cons_append, dbl, dbl]
    split <;> simp [ih]
theorem take_next (l : List UInt8) (j : Nat) (hj : j < l.length) : l.take (j + 1) = l.take j ++ [l[j]] := by
  rw [List.take_add_one, List.getElem?_eq_getElem hj]; rfl
theorem dbl_next (s : ByteArray) (j : Nat) (hj : j < s.size) : dbl (s.data.toList.take (j + 1)) = dbl (s.data.toList.take j) ++ (if s[j]'hj = 39 then [39, 39] else [s[j]'hj]) := by
  have hj' : j < s.data.toList.length := by simpa using hj
  rw [take_next _ j hj', dbl_append]
  have e : s.data.toList[j] = s[j]'hj := by simp only [Array.getElem_toList]; rfl
  rw [e]
  rw [dbl]; split <;> rfl
theorem extract_one14 (s : ByteArray) (j : Nat) (hj : j < s.size) : s.extract j (j + 1) = bs [s[j]'hj] := by
  apply ByteArray.ext
  rw [ByteArray.data_extract]
  apply Array.ext
  · simp [bs]; have : s.data.size = s.size := rfl; omega
  · intro i h1 h2
    have : i = 0 := by simp [bs] at h2; omega
    subst this
    simp [bs]
    rfl
set_option maxRecDepth 100000 in
set_option maxHeartbeats 2000000 in
theorem refQuote_any (s : ByteArray) (hs : s.size ≤ 1099511) (w : World) : Calls Tryz.prog 25 #[.string s] w fun e w' => e = .returned (.string (bs (quoteL s.data.toList))) ∧ w = w' := by
  have hml : s.size ≤ maxLen := by unfold maxLen; omega
  have hsz := bs_size
  have HL := Lib.hid (fun j (hj : j ≤ s.size) => show (dbl (s.data.toList.take j)).length ≤ 2 * s.size by
    have := dbl_le (s.data.toList.take j)
    have h2 : (s.data.toList.take j).length ≤ s.size := by rw [List.length_take, ← Lib.size_eq]; omega
    omega)
  have HA := Lib.hid bs_append
  have h0 : (⟨#[39]⟩ : ByteArray) = bs [39] := rfl
  go_enter Tryz.func25, Tryz.ntmps25
  go_wp2
  clear h0
  go_loopw [3, 4] (fun o i wr => ∃ j : Nat, j ≤ s.size ∧ i = .int .i64 j ∧ o = .string (bs ([39] ++ dbl (s.data.toList.take j))) ∧ wr = w) (fun _ i _ => s.size - (intOf i).toNat)
  case atStart => exact ⟨0, Nat.zero_le _, rfl, rfl, rfl⟩
  case round =>
    obtain ⟨j, hj, rfl, rfl, rfl⟩ := hrel
    have hl := HL.out j hj
    obtain ⟨P, hP⟩ : ∃ P, [39] ++ dbl (s.data.toList.take j) = P := ⟨_, rfl⟩
    have hPl : P.length ≤ 2 * s.size + 1 := by rw [← hP]; simp; omega
    have HP := Lib.hid hP
    rw [hP]
    clear hP hl
    have h0 : (⟨#[39]⟩ : ByteArray) = bs [39] := rfl
    by_cases hlt : j < s.size
    · have HQ := Lib.hid (dbl_next s j hlt)
      have hc : (s[j]'hlt).toNat < 256 := UInt8.toNat_lt _
      have hsl : ∀ wx : World, (Instr.slice 9 (.string s) (some (.int .i64 (j : Int))) (some (.int .i64 ((j : Int) + 1))) none).run Tryz.prog wx = .ok (.string (bs [s[j]'hlt])) wx := fun wx => by
        have h := run_slice_string (P := Tryz.prog) wx 9 s .i64 .i64 (j : Int) ((j : Int) + 1) Tryz.underlying9 (by omega) (by omega) (by omega)
        rw [h, ← extract_one14 s j hlt]
        congr 3
      have q1 : ¬ 9223372036854775807 < P.length + 1 := by omega
      have q2 : ¬ 9223372036854775807 < P.length + 1 + 1 := by omega
      by_cases h39 : s[j]'hlt = 39
      · have hq : ((s[j]'hlt).toNat : Int) = 39 := by rw [h39]; rfl
        rw [if_pos h39] at HQ
        rw [h39] at hsl
        go_wp2
        have HAA := HA.out P [39]
        have HAB := HA.out (P ++ [39]) [39]
        go_roundw
        case rel => exact ⟨j + 1, by omega, by go_num, by rw [HQ.out, HAA, HAB, ← HP.out]; simp, by first | rfl | trivial⟩
        case measure => simp [intOf]; omega
      · have hq : (((s[j]'hlt).toNat : Int) == 39) = false := by
          rw [beq_eq_false_iff_ne]
          intro h
          apply h39
          apply UInt8.toNat_inj.1
          exact_mod_cast h
        rw [if_neg h39] at HQ
        obtain ⟨x, hx⟩ : ∃ x, s[j]'hlt = x := ⟨_, rfl⟩
        rw [hx] at hsl HQ hq
        go_wp2
        have HAA := HA.out P [x]
        go_roundw
        case rel => exact ⟨j + 1, by omega, by go_num, by rw [HQ.out, HAA, ← HP.out, List.append_assoc], by first | rfl | trivial⟩
        case measure => simp [intOf]; omega
    · obtain rfl : j = s.size := by omega
      have he : s.data.toList.take s.size = s.data.toList := List.take_of_length_le (by simp)
      have HX := Lib.hid (show P ++ [39] = quoteL s.data.toList by rw [← HP.out, he]; rfl)
      have q1 : ¬ 9223372036854775807 < P.length + 1 := by omega
      go_wp2
      have HAA := HA.out P [39]
      go_ret
      exact ⟨congrArg (fun x => Ending.returned (Value.string x)) (HAA.trans (by rw [HX.out])), rfl⟩
end Go.Proofs.YtjgdkiikkgdbaaaGreatDoor
