/- Contracts of chapter 8's reference: digits, figures, quotes. -/
import Derived.Test.YtpclpghmahlieaaDoorValTop
import Derived.Laws.IdiomStrings
namespace Go.Proofs.YtpclpghmahlieaaDoor
open Go.RowKit
set_option linter.unusedVariables false
theorem ba_append (a b : List UInt8) : (⟨a.toArray⟩ : ByteArray) ++ ⟨b.toArray⟩ = ⟨(a ++ b).toArray⟩ := by
  apply ByteArray.ext
  simp
/-- a text of these bytes -/
def bs (l : List UInt8) : ByteArray := ⟨l.toArray⟩
theorem bs_append (a b : List UInt8) : bs a ++ bs b = bs (a ++ b) := ba_append a b
theorem bs_size (l : List UInt8) : (bs l).size = l.length := by simp [bs, ByteArray.size]
theorem conv8 (w : World) (n : Int) (h0 : 0 ≤ n) (h1 : n ≤ 255) : (convert 37 9 (.slice (some ⟨w.heap.size, 0, none⟩) 1 1)).run Tryd.prog (w.alloc (.cells #[.int .u8 n] 5)) = .ok (.string ⟨[UInt8.ofNat n.toNat].toArray⟩) (w.alloc (.cells #[.int .u8 n] 5)) := by
  have h := run_convert_bytes_back (P := Tryd.prog) (w.alloc (.cells #[.int .u8 n] 5)) 37 9 5 ⟨w.heap.size, 0, none⟩ 1 [UInt8.ofNat n.toNat] Tryd.underlying37 Tryd.underlying5 Tryd.underlying9 (fun j hj => by
    obtain rfl : j = 0 := by simpa using hj
    rw [add_plain]
    have e : ((UInt8.ofNat n.toNat).toNat : Int) = n := by
      rw [UInt8.toNat_ofNat']
      omega
    show _ = some (Value.int .u8 ((UInt8.ofNat n.toNat).toNat : Int))
    rw [e]
    exact cell_at (alloc_at w _) rfl)
  exact h
theorem refByte8 (n : Int) (w : World) (h0 : 0 ≤ n) (h1 : n ≤ 255) : Calls Tryd.prog 37 #[.int .i64 n] w fun e w' => e = .returned (.string (bs [UInt8.ofNat n.toNat])) ∧ Below w.heap.size w w' := by
  have hcv := conv8 w n h0 h1
  go_enter Tryd.func37, Tryd.ntmps37
  go_wp2
  go_ret
  exact ⟨rfl, (Below.refl _ _).alloc (Nat.le_refl _) _⟩
theorem figure_any (n : Nat) (hn : n < 16) (w : World) : Calls Tryd.prog 50 #[.int .i64 (n : Nat)] w fun e w' => e = .returned (.string (bs [figB n])) ∧ Below w.heap.size w w' := by
  by_cases h : n < 10
  · have t : decide ((n : Int) < 10) = true := by simp; omega
    have t' : decide (n < 10) = true := by simpa using h
    have HB := Lib.hid (fun wx => refByte8 (48 + (n : Int)) wx (by omega) (by omega))
    rw [show UInt8.ofNat (48 + (n : Int)).toNat = figB n by unfold figB figN; rw [if_pos h]; congr 1] at HB
    clear h
    go_enter Tryd.func50, Tryd.ntmps50
    go_wp2_with (go_at_call 37; refine (HB.out _).mono ?_; rintro e w1 ⟨rfl, hb1⟩)
    go_ret
    exact ⟨rfl, hb1⟩
  · have t : decide ((n : Int) < 10) = false := by simp; omega
    have t' : decide (n < 10) = false := by simpa using h
    have HB := Lib.hid (fun wx => refByte8 (97 + (n : Int) - 10) wx (by omega) (by omega))
    rw [show UInt8.ofNat (97 + (n : Int) - 10).toNat = figB n by unfold figB figN; rw [if_neg h]; congr 1; omega] at HB
    clear h
    go_enter Tryd.func50, Tryd.ntmps50
    go_wp2_with (go_at_call 37; refine (HB.out _).mono ?_; rintro e w1 ⟨rfl, hb1⟩)
    go_ret
    exact ⟨rfl, hb1⟩
theorem hex_any (c : Nat) (hc : c < 256) (w : World) : Calls Tryd.prog 38 #[.int .u8 (c : Nat)] w fun e w' => e = .returned (.string (bs [figB (c / 16), figB (c % 16)])) ∧ Below w.heap.size w w' := by
  have HF1 := Lib.hid (fun wx => figure_any (c / 16) (by omega) wx)
  have HF2 := Lib.hid (fun wx => figure_any (c % 16) (by omega) wx)
  have HA := Lib.hid (bs_append [figB (c / 16)] [figB (c % 16)])
  have hsz := bs_size
  go_enter Tryd.func38, Tryd.ntmps38
  go_wp2_with (first
    | (go_at_call 50; refine (HF1.out _).mono ?_; rintro e w1 ⟨rfl, hb1⟩; clear HF1)
    | (go_at_call 50; refine (HF2.out _).mono ?_; rintro e w2 ⟨rfl, hb2⟩))
  go_ret
  exact ⟨congrArg (fun x => Ending.returned (Value.string x)) HA.out, below_step8' hb1 hb2⟩
end Go.Proofs.YtpclpghmahlieaaDoor
