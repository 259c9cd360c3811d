/- The reference's number in brackets: trying all. -/
import Derived.Test.YtcpjbimojliogaaGreatDoorPathRef
import Derived.Test.YtcpjbimojliogaaGreatDoorValRAll
namespace Go.Proofs.YtcpjbimojliogaaGreatDoor
open Go Go.RowKit
set_option linter.unusedVariables false

def wS (n : Nat) : ByteArray := ⟨#[91]⟩ ++ bs (Lib.decDigits n) ++ ⟨#[93]⟩
def pS (s : ByteArray) (n : Nat) : Bool := decide ((wS n).size ≤ s.size) && ((s.extract 0 (wS n).size).toList == (wS n).toList)
def elemK (s : ByteArray) : Nat := firstN (pS s) 100
def elemV (s : ByteArray) : Value :=
  if elemK s < 100 then .tuple #[.int .i64 (elemK s : Nat), .string (s.extract (wS (elemK s)).size s.size), .bool true] else .tuple #[.int .i64 0, .string s, .bool false]
theorem dec2' : ∀ i, i < 100 → (Lib.decDigits i).length ≤ 2 := by decide +kernel
theorem wS_size {n : Nat} (h : n < 100) : (wS n).size = (Lib.decDigits n).length + 2 := by
  unfold wS
  rw [ByteArray.size_append, ByteArray.size_append, bs_size]
  simp [ByteArray.size]
  omega

set_option maxRecDepth 100000 in
set_option maxHeartbeats 2000000 in
theorem elem12_any (s : ByteArray) (hs : s.size ≤ 1000000) (w : World) : Calls Tryz.prog 52 #[.string s] w fun e w' => e = .returned (elemV s) ∧ Below w.heap.size w w' := by
  go_enter Tryz.func52, Tryz.ntmps52
  go_wp2
  go_loopw [5] (fun i wr => ∃ k : Nat, k ≤ 100 ∧ i = .int .i64 k ∧ Hid (∀ j, j < k → pS s j = false) ∧ Below w.heap.size w wr) (fun i _ => 100 - (intOf i).toNat)
  case atStart => exact ⟨0, by omega, rfl, Lib.hid fun j hj => by omega, Below.refl _ _⟩
  case round =>
    obtain ⟨k, hk, rfl, H, hbl⟩ := hrel
    by_cases hlt : k < 100
    · have hd : decide ((k : Int) < 100) = true := by simp; omega
      have hwu : IntKind.u64.wrap ((k : Nat) : Int) = ((k : Nat) : Int) := IntWalk.u64_in _ (by omega)
      have hwi : IntKind.i64.wrap ((k : Int) + 1) = ((k + 1 : Nat) : Int) := by rw [IntWalk.i64_in _ (by omega)]; omega
      have HD := Lib.hid (fun wx => refDigits_any k (by omega) wx)
      have hws := wS_size hlt
      have hd2 := dec2' k hlt
      have hp : pS s k = (decide ((wS k).size ≤ s.size) && ((s.extract 0 (wS k).size).toList == (wS k).toList)) := rfl
      obtain ⟨dk, hdk⟩ : ∃ dk, bs (Lib.decDigits k) = dk := ⟨_, rfl⟩
      have hds : dk.size = (Lib.decDigits k).length := by rw [← hdk, bs_size]
      obtain ⟨wk, hwk⟩ : ∃ wk, wS k = wk := ⟨_, rfl⟩
      have hsum : (⟨#[91]⟩ : ByteArray) ++ dk ++ ⟨#[93]⟩ = wk := by rw [← hwk, ← hdk]; rfl
      rw [hwk] at hws hp
      rw [hdk] at HD
      have HK := Lib.hid hwk
      have o1 : ¬ 9223372036854775807 < (⟨#[91]⟩ : ByteArray).size + dk.size := by rw [show (⟨#[91]⟩ : ByteArray).size = 1 from rfl, hds]; omega
      have o2 : ¬ 9223372036854775807 < ((⟨#[91]⟩ : ByteArray) ++ dk).size + (⟨#[93]⟩ : ByteArray).size := by rw [ByteArray.size_append, show (⟨#[91]⟩ : ByteArray).size = 1 from rfl, show (⟨#[93]⟩ : ByteArray).size = 1 from rfl, hds]; omega
      have HDS := Lib.hid hds
      have HWS := Lib.hid hws
      clear hwk hdk hds hd2
      by_cases hle : wk.size ≤ s.size
      · have kl : decide ((wk.size : Int) ≤ (s.size : Nat)) = true := by simp; omega
        have hsl : ∀ wx, (Instr.slice 9 (.string s) none (some (.int .i64 (wk.size : Nat))) none).run Tryz.prog wx = .ok (.string (s.extract 0 wk.size)) wx := fun wx => run_slice_string_h wx 9 s Tryz.underlying9 .i64 (wk.size : Nat) (by omega) (by omega)
        have hsr : ∀ wx, (Instr.slice 9 (.string s) (some (.int .i64 (wk.size : Nat))) none none).run Tryz.prog wx = .ok (.string (s.extract wk.size s.size)) wx := fun wx => run_slice_string_l wx 9 s Tryz.underlying9 .i64 (wk.size : Nat) (by omega) (by omega)
        obtain ⟨q, hq⟩ : ∃ q, ((s.extract 0 wk.size).toList == wk.toList) = q := ⟨_, rfl⟩
        rw [decide_eq_true hle, hq] at hp
        cases q
        · have HP := Lib.hid (show pS s k = false from hp)
          clear hp hws
          go_wp2_with (go_at_call 36; refine (HD.out _).mono ?_; rintro e w1 ⟨rfl, hb1⟩)
          go_roundw
          case measure => simp [intOf]; omega
          case rel => exact ⟨k + 1, by omega, by go_num, Lib.hid (none_next H.out HP.out), hbl.trans (hb1.mono hbl.size)⟩
        · have HP := Lib.hid (show pS s k = true from hp)
          clear hp hws
          go_wp2_with (go_at_call 36; refine (HD.out _).mono ?_; rintro e w1 ⟨rfl, hb1⟩)
          go_quiet (fail)
          go_wp2
          go_ret3
          have e : elemK s = k := first_at H.out hlt HP.out
          exact ⟨by unfold elemV; rw [e, if_pos hlt, HK.out]; rfl, drewN_below (hbl.trans (hb1.mono hbl.size)) _⟩
      · have kl : decide ((wk.size : Int) ≤ (s.size : Nat)) = false := decide_eq_false (by omega)
        have HP := Lib.hid (show pS s k = false by rw [hp, decide_eq_false hle]; rfl)
        clear hp hws
        go_wp2_with (go_at_call 36; refine (HD.out _).mono ?_; rintro e w1 ⟨rfl, hb1⟩)
        go_roundw
        case measure => simp [intOf]; omega
        case rel => exact ⟨k + 1, by omega, by go_num, Lib.hid (none_next H.out HP.out), hbl.trans (hb1.mono hbl.size)⟩
    · obtain rfl : k = 100 := by omega
      go_wp2
      go_ret3
      have e : elemK s = 100 := first_none H.out
      exact ⟨by unfold elemV; rw [e, if_neg (by omega)]; rfl, hbl⟩
end Go.Proofs.YtcpjbimojliogaaGreatDoor
