/- Contracts of chapter 8's reference: digits, figures, quotes. -/
import Derived.Lib.Builder
import Derived.Lib.OthersKept
import Derived.Lib.UnsafeStr
import Derived.Laws.Externs
import Derived.Lib.AppendIntMem
import Derived.Laws.IdiomStrings
import Derived.Shelf.Abstract
import Derived.Test.YtcojomkpogikiaaGreatDoorQ07
import Derived.Test.YtcojomkpogikiaaGreatDoorQ23
namespace Go.Proofs.YtcojomkpogikiaaGreatDoor.Pa
open Go.RowKit
set_option linter.unusedVariables false
theorem ba_append (a b : List UInt8) : (⟨a.toArray⟩ : ByteArray) ++ ⟨b.toArray⟩ = ⟨(a ++ b).toArray⟩ := by
  apply ByteArray.ext
  simp
/-- a text of these bytes -/
def bs (l : List UInt8) : ByteArray := ⟨l.toArray⟩
theorem bs_append (a b : List UInt8) : bs a ++ bs b = bs (a ++ b) := ba_append a b
theorem bs_size (l : List UInt8) : (bs l).size = l.length := by simp [bs, ByteArray.size]
theorem conv8b (w : World) (n : Int) (h0 : 0 ≤ n) (h1 : n ≤ 255) : (convert 173 9 (.slice (some ⟨w.heap.size, 0, none⟩) 1 1)).run Tryz.prog (w.alloc (.cells #[.int .u8 n] 5)) = .ok (.string ⟨[UInt8.ofNat n.toNat].toArray⟩) (w.alloc (.cells #[.int .u8 n] 5)) := by
  have h := run_convert_bytes_back (P := Tryz.prog) (w.alloc (.cells #[.int .u8 n] 5)) 173 9 5 ⟨w.heap.size, 0, none⟩ 1 [UInt8.ofNat n.toNat] Tryz.underlying173 Tryz.underlying5 Tryz.underlying9 (fun j hj => by
    obtain rfl : j = 0 := by simpa using hj
    rw [add_plain]
    have e : ((UInt8.ofNat n.toNat).toNat : Int) = n := by
      rw [UInt8.toNat_ofNat']
      omega
    show _ = some (Value.int .u8 ((UInt8.ofNat n.toNat).toNat : Int))
    rw [e]
    exact cell_at (alloc_at w _) rfl)
  exact h
theorem refByte8 (n : Int) (w : World) (h0 : 0 ≤ n) (h1 : n ≤ 255) : Calls Tryz.prog 208 #[.int .i64 n] w fun e w' => e = .returned (.string (bs [UInt8.ofNat n.toNat])) ∧ Below w.heap.size w w' := by
  have hcv := conv8b w n h0 h1
  go_enter Tryz.func208, Tryz.ntmps208
  go_wp2
  go_ret
  exact ⟨rfl, (Below.refl _ _).alloc (Nat.le_refl _) _⟩
end Go.Proofs.YtcojomkpogikiaaGreatDoor.Pa
namespace Go.Proofs.YtcojomkpogikiaaGreatDoor.Pa
open Go.RowKit
set_option linter.unusedVariables false
set_option maxHeartbeats 2000000 in
theorem refDigits_any (N : Nat) (hN : N < 18446744073709551616) (w : World) :
    Calls Tryz.prog 184 #[.int .u64 (N : Nat)] w fun e w' => e = .returned (.string (bs (Lib.decDigits N))) ∧ Below w.heap.size w w' := by
  have hdl := dec_len N hN
  have hsz := bs_size
  obtain ⟨D, hD⟩ : ∃ D, Lib.decDigits N = D := ⟨_, rfl⟩
  have HD := Lib.hid hD
  rw [hD] at hdl
  rw [hD]
  clear hD
  go_enter Tryz.func184, Tryz.ntmps184
  go_wp2
  go_loopw [0, 3] (fun n s wr => ∃ (m : Nat) (l : List UInt8), n = .int .u64 (m : Nat) ∧ m < 18446744073709551616 ∧ s = .string (bs l) ∧ Hid (D = Lib.decDigits m ++ l) ∧ Hid (Below w.heap.size w wr)) (fun n _ _ => (intOf n).toNat)
  case atStart => exact ⟨N, [], rfl, hN, rfl, Lib.hid (by rw [List.append_nil, HD.out]), Lib.hid (Below.refl _ _)⟩
  case round =>
    obtain ⟨m, l, rfl, hm, rfl, HI, HBr⟩ := hrel
    have hlen : l.length ≤ 20 := by
      have := HI.out
      rw [this, List.length_append] at hdl; omega
    have HB := Lib.hid (fun wx => refByte8 (48 + (m : Int) % 10) wx (by omega) (by omega))
    obtain ⟨x, hx⟩ : ∃ x, UInt8.ofNat (48 + (m : Int) % 10).toNat = x := ⟨_, rfl⟩
    have hx2 : UInt8.ofNat (48 + m % 10) = x := by rw [← hx]; congr 1
    rw [hx] at HB
    have HA := Lib.hid (bs_append [x] l)
    clear hx
    by_cases h10 : m < 10
    · have HE := Lib.hid (show [x] ++ l = D by rw [HI.out, Lib.decDigits_one h10, ← hx2, Nat.mod_eq_of_lt h10])
      have hq : ((m : Int) / 10) = 0 := by omega
      have hq' : m / 10 = 0 := by omega
      clear hx2
      go_wp2_with (first
        | (go_at_call 208; refine (HB.out _).mono ?_; rintro e w1 ⟨rfl, hb1⟩; have HB1 := Lib.hid (below_step8' HBr.out hb1); clear hb1))
      go_ret
      exact ⟨congrArg (fun x => Ending.returned (Value.string x)) (HA.out.trans (by rw [HE.out])), HB1.out⟩
    · have hd : Lib.decDigits m = Lib.decDigits (m / 10) ++ [UInt8.ofNat (48 + m % 10)] := by rw [Lib.decDigits, dif_neg h10]
      have HE := Lib.hid (show D = Lib.decDigits (m / 10) ++ ([x] ++ l) by rw [HI.out, hd, hx2]; simp)
      have hq : ((m : Int) / 10 == 0) = false := by simp; omega
      have hq' : (m / 10 == 0) = false := by simp; omega
      clear hd hx2
      go_wp2_with (first
        | (go_at_call 208; refine (HB.out _).mono ?_; rintro e w1 ⟨rfl, hb1⟩; have HB1 := Lib.hid (below_step8' HBr.out hb1); clear hb1))
      go_roundw
      case rel => exact ⟨m / 10, [x] ++ l, by go_num, by omega, by rw [← HA.out], HE, HB1⟩
      case measure => simp [intOf]; omega
end Go.Proofs.YtcojomkpogikiaaGreatDoor.Pa
namespace Go.Proofs.YtcojomkpogikiaaGreatDoor.Pa
open Go.RowKit
set_option linter.unusedVariables false
end Go.Proofs.YtcojomkpogikiaaGreatDoor.Pa
namespace Go.Proofs.YtcojomkpogikiaaGreatDoor.Pa
open Go.RowKit
set_option linter.unusedVariables false
end Go.Proofs.YtcojomkpogikiaaGreatDoor.Pa
namespace Go.Proofs.YtcojomkpogikiaaGreatDoor.Pa
open Go.RowKit
set_option linter.unusedVariables false
end Go.Proofs.YtcojomkpogikiaaGreatDoor.Pa
