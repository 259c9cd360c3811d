/- Contracts of chapter 8's reference: Digits, quoted. -/
import Derived.Test.YtpclpghmahlieaaDoorValRText
import Derived.Test.YtpclpghmahlieaaDoorValQuote
import Derived.Deep.RegionHeld3
import Derived.Deep.DeepCutAuto
namespace Go.Proofs.YtpclpghmahlieaaDoor
open Go.RowKit
set_option linter.unusedVariables false
set_option maxHeartbeats 2000000 in
theorem refDigits_any (N : Nat) (hN : N < 18446744073709551616) (w : World) :
    Calls Tryd.prog 23 #[.int .u64 (N : Nat)] w fun e w' => e = .returned (.string (bs (Lib.decDigits N))) ∧ Below w.heap.size w w' := by
  have hdl := dec_len N hN
  have hsz := bs_size
  obtain ⟨D, hD⟩ : ∃ D, Lib.decDigits N = D := ⟨_, rfl⟩
  have HD := Lib.hid hD
  rw [hD] at hdl
  rw [hD]
  clear hD
  go_enter Tryd.func23, Tryd.ntmps23
  go_wp2
  go_loopw [0, 3] (fun n s wr => ∃ (m : Nat) (l : List UInt8), n = .int .u64 (m : Nat) ∧ m < 18446744073709551616 ∧ s = .string (bs l) ∧ Hid (D = Lib.decDigits m ++ l) ∧ Hid (Below w.heap.size w wr)) (fun n _ _ => (intOf n).toNat)
  case atStart => exact ⟨N, [], rfl, hN, rfl, Lib.hid (by rw [List.append_nil, HD.out]), Lib.hid (Below.refl _ _)⟩
  case round =>
    obtain ⟨m, l, rfl, hm, rfl, HI, HBr⟩ := hrel
    have hlen : l.length ≤ 20 := by
      have := HI.out
      rw [this, List.length_append] at hdl; omega
    have HB := Lib.hid (fun wx => refByte8 (48 + (m : Int) % 10) wx (by omega) (by omega))
    obtain ⟨x, hx⟩ : ∃ x, UInt8.ofNat (48 + (m : Int) % 10).toNat = x := ⟨_, rfl⟩
    have hx2 : UInt8.ofNat (48 + m % 10) = x := by rw [← hx]; congr 1
    rw [hx] at HB
    have HA := Lib.hid (bs_append [x] l)
    clear hx
    by_cases h10 : m < 10
    · have HE := Lib.hid (show [x] ++ l = D by rw [HI.out, Lib.decDigits_one h10, ← hx2, Nat.mod_eq_of_lt h10])
      have hq : ((m : Int) / 10) = 0 := by omega
      have hq' : m / 10 = 0 := by omega
      clear hx2
      go_wp2_with (first
        | (go_at_call 37; refine (HB.out _).mono ?_; rintro e w1 ⟨rfl, hb1⟩; have HB1 := Lib.hid (below_step8' HBr.out hb1); clear hb1))
      go_ret
      exact ⟨congrArg (fun x => Ending.returned (Value.string x)) (HA.out.trans (by rw [HE.out])), HB1.out⟩
    · have hd : Lib.decDigits m = Lib.decDigits (m / 10) ++ [UInt8.ofNat (48 + m % 10)] := by rw [Lib.decDigits, dif_neg h10]
      have HE := Lib.hid (show D = Lib.decDigits (m / 10) ++ ([x] ++ l) by rw [HI.out, hd, hx2]; simp)
      have hq : ((m : Int) / 10 == 0) = false := by simp; omega
      have hq' : (m / 10 == 0) = false := by simp; omega
      clear hd hx2
      go_wp2_with (first
        | (go_at_call 37; refine (HB.out _).mono ?_; rintro e w1 ⟨rfl, hb1⟩; have HB1 := Lib.hid (below_step8' HBr.out hb1); clear hb1))
      go_roundw
      case rel => exact ⟨m / 10, [x] ++ l, by go_num, by omega, by rw [← HA.out], HE, HB1⟩
      case measure => simp [intOf]; omega
end Go.Proofs.YtpclpghmahlieaaDoor
