/- Contract of a cursor's Text. -/
import Derived.Test.YtmnemddagcfjgaaGreatDoorAlignCur
import Derived.Test.YtmnemddagcfjgaaGreatDoorShelf
namespace Go.Proofs.YtmnemddagcfjgaaGreatDoor
open Go.RowKit
set_option linter.unusedVariables false
theorem clone_any (s : ByteArray) (w : World) (hs : s.size ≤ 281474976710656) : Calls Tryz.prog 156 #[.string s] w fun e w' => e = .returned (.string s) ∧ Below w.heap.size w w' := by
  go_enter Tryz.func156, Tryz.ntmps156
  go_wp2_with (go_at_call 181; refine (Tryz.stringslite_Clone s _ hs).mono ?_; rintro e w1 ⟨rfl, hb⟩)
  go_ret
  exact ⟨rfl, hb⟩
theorem ctext_nil (n : Int) (w : World) : Calls Tryz.prog 118 #[.pointer none, .int .i64 n] w fun e w' => e = .returned (.string ⟨#[]⟩) ∧ w = w' := by
  go_enter Tryz.func118, Tryz.ntmps118
  go_wp2
  go_ret
  exact ⟨rfl, rfl⟩
theorem ctext_err (c : Nat) (s : ByteArray) (a er n : Int) (w : World) (h : CurAt c s a er w) (he : er ≠ 0) : Calls Tryz.prog 118 #[.pointer (some ⟨c, 0, none⟩), .int .i64 n] w (CurTo c s a er (.string ⟨#[]⟩) w) := by
  have c2 := cell_at (j := 2) h rfl
  have hne : (er != 0) = true := by simpa using he
  have H := Lib.hid h
  clear h he
  go_enter Tryz.func118, Tryz.ntmps118
  go_wp2
  go_ret
  exact ⟨rfl, Only.refl _ _, H.out⟩
theorem tx_neg {s : ByteArray} {a : Nat} {n : Int} (h : n < 0) : txE s a n = 7 ∧ txS s a n = ⟨#[]⟩ ∧ txA s a n = a := by
  have e : txE s a n = 7 := by unfold txE; rw [if_pos h]
  unfold txS txA; rw [e]; exact ⟨rfl, rfl, rfl⟩
theorem tx_short {s : ByteArray} {a : Nat} {n : Int} (h : 0 ≤ n) (k : (s.size : Int) - a < n) : txE s a n = 2 ∧ txS s a n = ⟨#[]⟩ ∧ txA s a n = a := by
  have e : txE s a n = 2 := by unfold txE; rw [if_neg (by omega), if_pos k]
  unfold txS txA; rw [e]; exact ⟨rfl, rfl, rfl⟩
theorem tx_in {s : ByteArray} {a n : Nat} (k : a + n ≤ s.size) : txE s a n = 0 ∧ txS s a n = s.extract a (a + n) ∧ txA s a n = a + n := by
  have e : txE s a n = 0 := by unfold txE; rw [if_neg (by omega), if_neg (by omega)]
  unfold txS txA; rw [e]; exact ⟨rfl, rfl, rfl⟩
theorem pass_cur_in {c : Nat} {s : ByteArray} {a e : Int} (n : Int) {w : World} (h : CurAt c s a e w) (h0 : 0 ≤ a) (h1 : 0 ≤ n) (h2 : a + n ≤ 9223372036854775807) : Calls Tryz.prog 155 #[.pointer (some ⟨c, 0, none⟩), .int .i64 n] w fun e w' => e = .returned (.tuple #[]) ∧ w' = w.setCell ⟨c, 0, none⟩ (.int .i64 (a + n)) :=
  pass_in c a n w (cell_at (j := 0) h rfl) (free_at (j := 0) h) h0 h1 h2
theorem ctext_end {c : Nat} {s t : ByteArray} {a m n : Nat} {w w4 : World} (h : CurAt c s a 0 w) (hb : Below ((w.drewN n).setCell ⟨c, 0, none⟩ (.int .i64 ((a : Int) + (m : Nat)))).heap.size ((w.drewN n).setCell ⟨c, 0, none⟩ (.int .i64 ((a : Int) + (m : Nat)))) w4) :
    CurTo c s ((a + m : Nat) : Int) 0 (.string t) w (.returned (.string t)) w4 := by
  refine ⟨rfl, (((Only.refl (fun k => k = c) w).drewN n).setCell (.inl rfl) _).step hb, ?_⟩
  have h1 := cur_set (x := (a : Int) + (m : Nat)) (cur_drewN h n)
  have h2 := cur_only h1 (Only.of_below (S := fun _ => False) hb) (fun f => f)
  rw [Int.natCast_add]
  exact h2
theorem ctext_any (c : Nat) (s : ByteArray) (a : Nat) (n : Int) (w : World) (h : CurAt c s a 0 w) (ha : a ≤ s.size) (hs : s.size ≤ 281474976710656) (hn : (Lit.int .i64 n).wf = true) :
    Calls Tryz.prog 118 #[.pointer (some ⟨c, 0, none⟩), .int .i64 n] w (CurTo c s (txA s a n : Nat) (txE s a n) (.string (txS s a n)) w) := by
  have c0 := cell_at (j := 0) h rfl
  have c1 := cell_at (j := 1) h rfl
  have c2 := cell_at (j := 2) h rfl
  have f0 := free_at (j := 0) h
  have f2 := free_at (j := 2) h
  have hlt := lt_of_block h
  obtain ⟨hn0, hn1⟩ := bounds_i64 hn
  have H := Lib.hid h
  clear h hn
  by_cases hneg : n < 0
  · rw [(tx_neg hneg).1, (tx_neg hneg).2.1, (tx_neg hneg).2.2]
    go_enter Tryz.func118, Tryz.ntmps118
    go_wp2
    go_ret
    exact ⟨rfl, (Only.refl (fun k => k = c) w).setCell (.inl rfl) _, cur_err H.out⟩
  · have hnn : 0 ≤ n := by omega
    have hd : decide (n < 0) = false := by simpa using hnn
    obtain ⟨m, rfl⟩ := Int.eq_ofNat_of_zero_le hnn
    clear hneg hnn
    by_cases hsh : (s.size : Int) - a < m
    · rw [(tx_short (by omega) hsh).1, (tx_short (by omega) hsh).2.1, (tx_short (by omega) hsh).2.2]
      go_enter Tryz.func118, Tryz.ntmps118
      go_wp2
      go_quiet (fail)
      go_wp2
      go_ret
      exact ⟨rfl, ((Only.refl (fun k => k = c) w).drewN _).setCell (.inl rfl) _, cur_err (cur_drewN H.out _)⟩
    · have hle : a + m ≤ s.size := by omega
      rw [(tx_in hle).1, (tx_in hle).2.1, (tx_in hle).2.2]
      have hsl : ∀ wx : World, (Instr.slice 9 (.string s) (some (.int .i64 (a : Int))) (some (.int .i64 ((a : Int) + (m : Nat)))) none).run Tryz.prog wx = .ok (.string (s.extract a (a + m))) wx := fun wx => by
        have h := run_slice_string (P := Tryz.prog) wx 9 s .i64 .i64 (a : Int) ((a : Int) + (m : Nat)) Tryz.underlying9 (by omega) (by omega) (by omega)
        rw [h]
        congr 3
      have HS := Lib.hid hsl
      clear hsl
      have HW1 := Lib.hid (IntWalk.i64_in ((a : Int) + (m : Nat)) (by omega))
      have HW2 := Lib.hid (show ((a : Int) + (m : Nat)).toNat = a + m by omega)
      have HW3 : (0 : Int) ≤ (a : Int) + (m : Nat) := by omega
      go_enter Tryz.func118, Tryz.ntmps118
      go_wp2
      go_quiet (fail)
      go_wp2
      have hw1 := HW1.out
      have hw2 := HW2.out
      have hsl := HS.out
      go_quiet (fail)
      clear hw1 hw2 hsl
      go_wp2_with (first
        | (go_at_call 155; refine (pass_cur_in (m : Nat) (cur_drewN H.out _) (by omega) (by omega) (by omega)).mono ?_; rintro e w3 ⟨rfl, rfl⟩)
        | (go_at_call 156; refine (clone_any _ _ (by simp only [ByteArray.size_extract]; omega)).mono ?_; rintro e w4 ⟨rfl, hb⟩))
      go_ret
      exact ctext_end H.out hb
end Go.Proofs.YtmnemddagcfjgaaGreatDoor
