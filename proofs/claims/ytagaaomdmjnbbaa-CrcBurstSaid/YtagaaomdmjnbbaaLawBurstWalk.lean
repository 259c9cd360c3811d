/- The walk of CrcBurst. -/
import Derived.Test.YtagaaomdmjnbbaaCrcLawMath
import Derived.Test.YtagaaomdmjnbbaaCrcBytes
import Derived.Test.YtagaaomdmjnbbaaFrame
import Derived.RegionTactic
import Derived.BigGuardPart
import Derived.StillTailTactics
import Derived.Deep.RegionHeld3
namespace Go.Proofs.Ytagaaomdmjnbbaa
open Go.RowKit
set_option linter.unusedVariables false
def fourAt (x : UInt8 × UInt8 × UInt8 × UInt8) : Nat → UInt8
  | 0 => x.1 | 1 => x.2.1 | 2 => x.2.2.1 | _ => x.2.2.2
def FourBlk (b : Nat) (x : UInt8 × UInt8 × UInt8 × UInt8) (w : World) : Prop :=
  w.heap[b]? = some (.cells #[.int .u8 (x.1.toNat : Nat), .int .u8 (x.2.1.toNat : Nat), .int .u8 (x.2.2.1.toNat : Nat), .int .u8 (x.2.2.2.toNat : Nat)] 28 (0, 0))
theorem four_cell {b : Nat} {x : UInt8 × UInt8 × UInt8 × UInt8} {w : World} (h : FourBlk b x w) (k : Nat) (hk : k < 4) : w.cell? ⟨b, k, none⟩ = some (.int .u8 ((fourAt x k).toNat : Nat)) := by
  match k, hk with
  | 0, _ => exact cell_at (j := 0) h rfl
  | 1, _ => exact cell_at (j := 1) h rfl
  | 2, _ => exact cell_at (j := 2) h rfl
  | 3, _ => exact cell_at (j := 3) h rfl
theorem xorN_step (l : List UInt8) (f k : Nat) (F : Nat → UInt8) (h : f + k < l.length) : xorN l f F (k + 1) = (xorN l f F k).set (f + k) ((xorN l f F k).getD (f + k) 0 ^^^ F k) := by
  show (if f + k < l.length then _ else _) = _
  rw [if_pos h]
def BurstSt (w : World) (s : ByteArray) (x : UInt8 × UInt8 × UInt8 × UInt8) (f k : Nat) (wr : World) : Prop :=
  BytesBlk (w.heap.size + 1) (xorN s.data.toList f (fourAt x) k) wr ∧ FourBlk w.heap.size x wr ∧ Below w.heap.size w wr
theorem burst_start (w : World) (s : ByteArray) (x : UInt8 × UInt8 × UInt8 × UInt8) (f : Nat) : BurstSt w s x f 0 (Lib.bytesWorld (w.alloc (.cells #[.int .u8 (x.1.toNat : Nat), .int .u8 (x.2.1.toNat : Nat), .int .u8 (x.2.2.1.toNat : Nat), .int .u8 (x.2.2.2.toNat : Nat)] 28 (0, 0))) 5 s) := by
  have hb := bw_below (w.alloc (.cells #[.int .u8 (x.1.toNat : Nat), .int .u8 (x.2.1.toNat : Nat), .int .u8 (x.2.2.1.toNat : Nat), .int .u8 (x.2.2.2.toNat : Nat)] 28 (0, 0))) s
  refine ⟨?_, (hb.block _ (by simp)).trans (alloc_at w _), below_step3 ((Below.refl w.heap.size w).alloc (Nat.le_refl _) _) hb⟩
  have := bb_start (w.alloc (.cells #[.int .u8 (x.1.toNat : Nat), .int .u8 (x.2.1.toNat : Nat), .int .u8 (x.2.2.1.toNat : Nat), .int .u8 (x.2.2.2.toNat : Nat)] 28 (0, 0))) s
  rwa [World.size_alloc] at this
theorem BurstSt.drew {w wr : World} {s : ByteArray} {x : UInt8 × UInt8 × UInt8 × UInt8} {f k : Nat} (h : BurstSt w s x f k wr) : BurstSt w s x f k wr.drew := ⟨h.1, h.2.1, h.2.2.drew⟩
theorem bb_keep {g : Nat} {l : List UInt8} {w w1 : World} (h : BytesBlk g l w) (hb : Below w.heap.size w w1) : BytesBlk g l w1 := by
  obtain ⟨C, hC, r⟩ := h
  exact ⟨C, (hb.block g (lt_of_block hC)).trans hC, r⟩
theorem BytesBlk.drew {g : Nat} {l : List UInt8} {w : World} (h : BytesBlk g l w) : BytesBlk g l w.drew := h
/-- the changed text is the same, or its sum is another -/
theorem burst_sum (s : ByteArray) (f k : Nat) (F : Nat → UInt8) (hk : k ≤ 4) : (⟨(xorN s.data.toList f F k).toArray⟩ : ByteArray) = s ∨ ((⟨(xorN s.data.toList f F k).toArray⟩ : ByteArray) ≠ s ∧ crcSum ⟨(xorN s.data.toList f F k).toArray⟩ ≠ crcSum s) := by
  by_cases h : xorN s.data.toList f F k = s.data.toList
  · exact .inl (by rw [h])
  · refine .inr ⟨fun e => h ?_, fun e => h ?_⟩
    · have := congrArg (fun b : ByteArray => b.data.toList) e
      simpa using this
    · refine (xorN_burst s.data.toList f 4294967295 F k hk (by decide)).1 ?_
      have h1 := bytes_lt 4294967295 (by decide) (xorN s.data.toList f F k)
      have h2 := bytes_lt 4294967295 (by decide) s.data.toList
      unfold crcSum at e
      simp only at e
      omega
theorem burst_next {w wr : World} {s : ByteArray} {x : UInt8 × UInt8 × UInt8 × UInt8} {f k : Nat} (h : BurstSt w s x f k wr) (hl : f + k < s.data.toList.length) :
    BurstSt w s x f (k + 1) (wr.setCell ⟨w.heap.size + 1, f + k, none⟩ (.int .u8 (((xorN s.data.toList f (fourAt x) k).getD (f + k) 0 ^^^ fourAt x k).toNat : Nat))) := by
  refine ⟨?_, (set_other (by simp)).trans h.2.1, h.2.2.setCell (by simp) _⟩
  rw [xorN_step _ _ _ _ hl]
  exact bb_store h.1 _ _
set_option maxHeartbeats 4000000 in
set_option maxRecDepth 100000 in
theorem burst_walk (s : ByteArray) (a : Int) (x : UInt8 × UInt8 × UInt8 × UInt8) (hs : s.size ≤ 140737488351232) (ha : (Lit.int .i64 a).wf = true) (w : World) :
    Calls Try.prog 5 #[.string s, .int .i64 a, .agg #[.int .u8 (x.1.toNat : Nat), .int .u8 (x.2.1.toNat : Nat), .int .u8 (x.2.2.1.toNat : Nat), .int .u8 (x.2.2.2.toNat : Nat)]] w fun e w' => e = .returned (.bool true) ∧ Below w.heap.size w w' := by
  obtain ⟨h0, h1⟩ := bounds_i64 ha
  have HF := Lib.hid (show FourBlk w.heap.size x (w.alloc (.cells #[.int .u8 (x.1.toNat : Nat), .int .u8 (x.2.1.toNat : Nat), .int .u8 (x.2.2.1.toNat : Nat), .int .u8 (x.2.2.2.toNat : Nat)] 28 (0, 0))) from alloc_at w _)
  have HB0 := Lib.hid ((Below.refl w.heap.size w).alloc (Nat.le_refl _) (.cells #[.int .u8 (x.1.toNat : Nat), .int .u8 (x.2.1.toNat : Nat), .int .u8 (x.2.2.1.toNat : Nat), .int .u8 (x.2.2.2.toNat : Nat)] 28 (0, 0)))
  by_cases hl : 5000 < s.size
  · go_enter Try.func5, Try.ntmps5
    go_wp2_with (go_at_call 8; refine (awake3_any _).mono ?_; rintro e w1 ⟨rfl, hb⟩)
    go_ret
    exact ⟨rfl, below_step3 HB0.out hb⟩
  · by_cases hz : s.size = 0
    · have hz1 : (((s.size : Nat) : Int) == 0) = true := by rw [hz]; rfl
      have HZ := Lib.hid hz
      clear hz
      go_enter Try.func5, Try.ntmps5
      go_wp2_with (go_at_call 8; refine (awake3_any _).mono ?_; rintro e w1 ⟨rfl, hb⟩)
      go_ret
      exact ⟨rfl, below_step3 HB0.out hb⟩
    · have hpos : 0 < s.size := by omega
      have hu0 : 0 ≤ IntKind.u64.wrap a := by rw [IntKind.wrap_u64]; omega
      have hu1 : IntKind.u64.wrap a ≤ 18446744073709551615 := by rw [IntKind.wrap_u64]; omega
      obtain ⟨f, hf⟩ : ∃ f : Nat, IntKind.u64.wrap a % (s.size : Nat) = f := ⟨_, (Int.toNat_of_nonneg (Int.emod_nonneg _ (by omega))).symm⟩
      have hfl : f < s.size := by have := Int.emod_lt_of_pos (IntKind.u64.wrap a) (show (0 : Int) < (s.size : Nat) by omega); omega
      have hkc : ∀ W : World, (convert 9 30 (.string s)).run Try.prog W = .ok (.slice (some ⟨W.heap.size, 0, none⟩) s.size (grownCap W s.size 0 5)) (Lib.bytesWorld W 5 s) := fun W => Lib.run_convert_string_bytes (P := Try.prog) W 9 30 5 s Try.underlying9 Try.underlying30 Try.underlying5
      clear hz
      go_enter Try.func5, Try.ntmps5
      go_wp2
      have HBB := Lib.hid (burst_start w s x f)
      clear hkc hf hu0 hu1 h0 h1
      have hll : s.data.toList.length = s.size := by simp
      have HLL := Lib.hid hll
      clear hll
      go_loopw [9] (fun i wr => ∃ k : Nat, k ≤ 4 ∧ i = .int .i64 k ∧ Hid (BurstSt w s x f k wr)) (fun i _ => 4 - (intOf i).toNat)
      case atStart => exact ⟨0, by omega, rfl, HBB.out⟩
      case round =>
        obtain ⟨k, hk, rfl, HS⟩ := hrel
        by_cases hin : k < 4 ∧ f + k < s.size
        · obtain ⟨hk4, hfk⟩ := hin
          have c0 := bb_cell HS.out.1 (f + k) (by rw [xorN_length, HLL.out]; exact hfk)
          have fr := bb_free HS.out.1 (f + k) (by rw [xorN_length, HLL.out]; exact hfk)
          have c1 := four_cell HS.out.2.1 k hk4
          have HN := Lib.hid (burst_next HS.out (by rw [HLL.out]; exact hfk))
          obtain ⟨A, hA⟩ : ∃ A, (xorN s.data.toList f (fourAt x) k).getD (f + k) 0 = A := ⟨_, rfl⟩
          obtain ⟨B, hB⟩ : ∃ B, fourAt x k = B := ⟨_, rfl⟩
          rw [hA] at c0 HN
          rw [hB] at c1 HN
          clear hA hB
          have hd1 : decide ((k : Int) < 4) = true := by simp; omega
          have hd2 : decide ((f : Int) + (k : Int) < (s.size : Nat)) = true := by simp; omega
          have hx := xor_byte A B
          have hw1 := IntWalk.i64_in ((f : Int) + (k : Int)) (by omega)
          have hw2 : ((f : Int) + (k : Int)).toNat = f + k := by omega
          have hw3 : (0 : Int) ≤ (f : Int) + (k : Int) := by omega
          go_wp2
          go_region
          clear hx hw1 hw2 hw3
          go_wp2
          go_roundw
          case rel => exact ⟨k + 1, by omega, by go_num, HN.out.drew⟩
          case measure => simp [intOf]; omega
        · have HC := Lib.hid (fun (W : World) (h : BytesBlk (w.heap.size + 1) (xorN s.data.toList f (fourAt x) k) W) (cp : Nat) => bb_back (cap := cp) h ((xorN_length _ _ _ _).trans HLL.out))
          have HQ := Lib.hid (burst_sum s f k (fourAt x) hk)
          have hml : (xorN s.data.toList f (fourAt x) k).length = s.size := (xorN_length _ _ _ _).trans HLL.out
          obtain ⟨Y, hY⟩ : ∃ Y, xorN s.data.toList f (fourAt x) k = Y := ⟨_, rfl⟩
          have HB1 := Lib.hid (show BytesBlk (w.heap.size + 1) Y wr from hY ▸ HS.out.1)
          have HB2 := Lib.hid HS.out.2.2
          rw [hY] at HC HQ hml
          have hys : (⟨Y.toArray⟩ : ByteArray).size ≤ 281474976710656 := by show Y.toArray.size ≤ _; rw [List.size_toArray, hml]; omega
          have HML := Lib.hid hml
          clear hY HS hml
          have HE := Lib.hid (show (⟨Y.toArray⟩ : ByteArray) = s ∨ ((⟨Y.toArray⟩ : ByteArray) ≠ s ∧ crcSum ⟨Y.toArray⟩ ≠ crcSum s) from HQ.out)
          have hd4 : (decide ((k : Int) < 4) = true ∧ decide ((f : Int) + (k : Int) < (s.size : Nat)) = false) ∨ decide ((k : Int) < 4) = false := by
            by_cases hk4 : k < 4
            · exact .inl ⟨by simp; omega, by simp; omega⟩
            · exact .inr (by simp; omega)
          clear hin
          rcases HE.out with he | ⟨he, hq⟩
          · rw [he] at HC
            have hcv := HC.out
            have HR := HB2.out.drew
            rcases hd4 with ⟨hd1, hd2⟩ | hd1
            all_goals
              go_wp2
              go_region_held3 (fun w' => BytesBlk (w.heap.size + 1) Y w') (first | exact HB1.out | exact bb_keep (by first | exact HB1.out.drew | assumption) hb3 | exact bb_keep (by first | exact HB1.out.drew | assumption) hb2 | fail) (first
                | (go_at_call 8; refine (awake3_any _).mono ?_; rintro e w3 ⟨rfl, hb3⟩)
                | (go_at_call 6; refine (sum_any _ (by omega) _).mono ?_; rintro e w2 ⟨rfl, hb2⟩; have HR := below_step3 HR hb2))
              go_wp2
              go_ret
              exact ⟨rfl, below_step3 HR hb3⟩
          · have hcv := HC.out
            have HR := HB2.out.drew
            have hy : Y ≠ s.data.toList := fun h => he (by apply ByteArray.ext; rw [h])
            have hne3 : (Y == s.data.toList) = false := beq_eq_false_iff_ne.2 hy
            have hne4 : (Y == s.toList) = false := by rw [ByteArray.toList_eq]; exact hne3
            have hne1 : ((⟨Y.toArray⟩ : ByteArray).toList == s.toList) = false := by rw [ByteArray.toList_eq, ByteArray.toList_eq]; exact hne3
            have hne2 : (((crcSum ⟨Y.toArray⟩ : Nat) : Int) == (crcSum s : Nat)) = false := beq_eq_false_iff_ne.2 (fun h => hq (Int.ofNat.inj h))
            rcases hd4 with ⟨hd1, hd2⟩ | hd1
            all_goals
              go_wp2
              go_region_held3 (fun w' => BytesBlk (w.heap.size + 1) Y w') (first | exact HB1.out | exact bb_keep (by first | exact HB1.out.drew | assumption) hb3 | exact bb_keep (by first | exact HB1.out.drew | assumption) hb2 | fail) (first
                | (go_at_call 8; refine (awake3_any _).mono ?_; rintro e w3 ⟨rfl, hb3⟩)
                | (go_at_call 6; refine (sum_any _ (by omega) _).mono ?_; rintro e w2 ⟨rfl, hb2⟩; have HR := below_step3 HR hb2))
              go_wp2
              go_ret
              exact ⟨rfl, below_step3 HR hb3⟩
end Go.Proofs.Ytagaaomdmjnbbaa
