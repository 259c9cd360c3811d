/- What stands at a place: in plain words; contract of package value: At. -/
import Derived.Test.YtpclpghmahlieaaDoorValCopy
namespace Go.Proofs.YtpclpghmahlieaaDoor
open Go.RowKit
set_option linter.unusedVariables false
def stepT (U : VT) (z : Int) : Option VT := if 0 ≤ z ∧ z < U.len then some (U.kid z.toNat) else none
/-- behind k steps -/
def walkT (T : VT) (L : Nat → Int) : Nat → Option VT
  | 0 => some T
  | k + 1 => (walkT T L k).bind fun U => stepT U (L k)
theorem walk_none {T : VT} {L : Nat → Int} {k : Nat} (h : walkT T L k = none) : ∀ n, k ≤ n → walkT T L n = none
  | 0, hk => by obtain rfl : k = 0 := by omega
                exact h
  | n + 1, hk => by
    rcases Nat.eq_or_lt_of_le hk with rfl | hk
    · exact h
    · rw [walkT, walk_none h n (by omega)]; rfl
/-- integers in a row -/
def IntsAt (w : World) (ao : Option Addr) (n : Nat) (L : Nat → Int) : Prop := ∀ i, i < n → ∃ b off, ao = some ⟨b, off, none⟩ ∧ w.cell? ⟨b, off + i, none⟩ = some (.int .i64 (L i))
theorem IntsAt.next {w w' : World} {ao : Option Addr} {n : Nat} {L : Nat → Int} (h : IntsAt w ao n L) (hb : Below w.heap.size w w') : IntsAt w' ao n L := fun i hi => by
  obtain ⟨b, off, e, c⟩ := h i hi
  exact ⟨b, off, e, keep hb c⟩
def AtTo (T : VT) (L : Nat → Int) (n N : Nat) (w : World) (e : Ending) (w' : World) : Prop :=
  ∃ (U : VT) (b : Bool), e = .returned (.tuple #[.agg #[.int .i64 U.kind, .int .u64 U.num, .string U.text, .slice U.ia U.len U.cap], .bool b]) ∧ ((∃ V, walkT T L n = some V ∧ b = true ∧ sameT V U = true) ∨ (walkT T L n = none ∧ b = false ∧ U = .nil)) ∧ ValAt w' (fun c => N ≤ c) U ∧ Below N w w'
set_option maxRecDepth 20000 in
set_option maxHeartbeats 4000000 in
theorem at8_any (S : Nat → Prop) (T : VT) (ao : Option Addr) (n cap : Nat) (L : Nat → Int) (w : World) (hn : n ≤ 140737488351232) (H : ValAt w S T) (HL : IntsAt w ao n L) :
    Calls Tryd.prog 8 #[.agg #[.int .i64 T.kind, .int .u64 T.num, .string T.text, .slice T.ia T.len T.cap], .slice ao n cap] w (AtTo T L n w.heap.size w) := by
  have HLL := Lib.hid (fun wx (hb : Below w.heap.size w wx) => HL.next hb)
  have HV0 := Lib.hid H
  have hW0 : Below w.heap.size w ((w.alloc (valO T)).alloc zeroO) := ((Below.refl w.heap.size w).alloc (Nat.le_refl _) _).alloc (by simp) _
  have HB0 := Lib.hid hW0
  have HQ1 := Lib.hid (show ((w.alloc (valO T)).alloc zeroO).heap[w.heap.size]? = some (valO T) from alloc_old (alloc_at w _))
  have HQ2 := Lib.hid (show ((w.alloc (valO T)).alloc zeroO).heap[w.heap.size + 1]? = some zeroO by have := alloc_at (w.alloc (valO T)) zeroO; simpa using this)
  clear H HL hW0
  go_enter Tryd.func8, Tryd.ntmps8
  go_wp2
  go_loopw [10] (fun i wr => ∃ k : Nat, k ≤ n ∧ i = .int .i64 k ∧ ∃ V : VT, Hid (walkT T L k = some V) ∧ Hid (ValAt w S V) ∧ Hid (wr.heap[w.heap.size]? = some (valO V)) ∧ Hid (wr.heap[w.heap.size + 1]? = some zeroO) ∧ Hid (Below w.heap.size w wr)) (fun i _ => n - (intOf i).toNat)
  case atStart => exact ⟨0, Nat.zero_le _, rfl, T, Lib.hid rfl, HV0, HQ1, HQ2, HB0⟩
  case round =>
    obtain ⟨k, hk, rfl, V, HW, HV, HR1, HR2, HBr⟩ := hrel
    have hvl := val_len HV.out
    have hbx := HR1.out
    unfold valO at hbx
    have HX := Lib.hid hbx
    have HZ := Lib.hid (show wr.heap[w.heap.size + 1]? = some (.cells #[.int .i64 0, .int .u64 0, .string ⟨#[]⟩, .slice none 0 0] 25) from HR2.out)
    by_cases hlt : k < n
    · obtain ⟨b, off, hao, cz⟩ := HLL.out wr HBr.out k hlt
      obtain ⟨z, hz⟩ : ∃ z, L k = z := ⟨_, rfl⟩
      rw [hz] at cz
      have HS := Lib.hid (show walkT T L (k + 1) = stepT V z by rw [walkT, HW.out, ← hz]; rfl)
      have HAO := Lib.hid hao
      subst hao
      clear hz
      by_cases hin : 0 ≤ z ∧ z < V.len
      · obtain ⟨i, rfl⟩ := Int.eq_ofNat_of_zero_le hin.1
        have hiv : i < V.len := by omega
        have t0 : decide ((i : Int) < 0) = false := by simp
        have t1 : decide ((V.len : Int) ≤ (i : Int)) = false := by simp; omega
        have t2 : decide (V.len ≤ i) = false := by simp; omega
        obtain ⟨⟨b', off', hia, _, _, c0, c1, c2, c3⟩, _⟩ := kids_at HV.out HBr.out hiv
        have d3 : wr.cell? ⟨w.heap.size, 3, none⟩ = some (.slice (some ⟨b', off', none⟩) V.len V.cap) := by rw [← hia]; exact cell_at hbx rfl
        have HN := Lib.hid (show walkT T L (k + 1) = some (V.kid i) by rw [HS.out]; unfold stepT; rw [if_pos hin]; rfl)
        have HVK := Lib.hid (((valAt_iff V).1 HV.out).2 i hiv).2
        have HR1' := Lib.hid (show (wr.setRow w.heap.size #[.int .i64 (V.kid i).kind, .int .u64 (V.kid i).num, .string (V.kid i).text, .slice (V.kid i).ia (V.kid i).len (V.kid i).cap]).heap[w.heap.size]? = some (valO (V.kid i)) from setRow_heap _ _ _ _ _ _ HX.out)
        have HR2' := Lib.hid (show (wr.setRow w.heap.size #[.int .i64 (V.kid i).kind, .int .u64 (V.kid i).num, .string (V.kid i).text, .slice (V.kid i).ia (V.kid i).len (V.kid i).cap]).heap[w.heap.size + 1]? = some zeroO from (setRow_other _ _ _ _ (by omega)).trans HR2.out)
        have HB' := Lib.hid (below_setRow HBr.out (Nat.le_refl _) #[.int .i64 (V.kid i).kind, .int .u64 (V.kid i).num, .string (V.kid i).text, .slice (V.kid i).ia (V.kid i).len (V.kid i).cap])
        clear hia hin hbx
        go_wp2_with (refine wpList_store_rowTo rfl 25 _ _ rfl rfl w.heap.size #[.int .i64 (V.kid i).kind, .int .u64 (V.kid i).num, .string (V.kid i).text, .slice (V.kid i).ia (V.kid i).len (V.kid i).cap] rfl rfl _ _ HX.out (by kernel_rfl) (by kernel_rfl) (by kernel_rfl) ?_)
        go_roundw
        case rel => exact ⟨k + 1, by omega, by go_num, V.kid i, HN, HVK, HR1', HR2', HB'⟩
        case measure => simp [intOf]; omega
      · have d3 : wr.cell? ⟨w.heap.size, 3, none⟩ = some (.slice V.ia V.len V.cap) := cell_at hbx rfl
        have hno : walkT T L n = none := walk_none (k := k + 1) (by rw [HS.out]; unfold stepT; rw [if_neg hin]) n (by omega)
        have HE := Lib.hid (show AtTo T L n w.heap.size w (.returned (.tuple #[.agg #[.int .i64 0, .int .u64 0, .string ⟨#[]⟩, .slice none 0 0], .bool false])) (wr.setRow (w.heap.size + 1) #[.int .i64 0, .int .u64 0, .string ⟨#[]⟩, .slice none 0 0]) from
          ⟨.nil, false, rfl, .inr ⟨hno, rfl, rfl⟩, trivial, below_setRow HBr.out (by omega) _⟩)
        clear hbx hno
        by_cases hz0 : z < 0
        · have t0 : decide (z < 0) = true := by simpa using hz0
          clear hin hz0
          go_wp2_with (refine wpList_store_rowTo rfl 25 _ _ rfl rfl (w.heap.size + 1) #[.int .i64 0, .int .u64 0, .string ⟨#[]⟩, .slice none 0 0] rfl rfl _ _ HZ.out (by kernel_rfl) (by kernel_rfl) (by kernel_rfl) ?_)
          refine bodyPost_ret (v := .tuple #[.agg #[.int .i64 0, .int .u64 0, .string ⟨#[]⟩, .slice none 0 0], .bool false]) ?_ rfl HE.out
          have hl := run_loadVar_row (P := Tryd.prog) _ (w.heap.size + 1) _ 25 _ _ _ (setRow_heap _ _ _ #[.int .i64 0, .int .u64 0, .string ⟨#[]⟩, .slice none 0 0] _ _ HZ.out) Tryd.underlying25 rfl (by kernel_rfl)
          simp [results, Tryd.results8, asAddr, hl]
        · have t0 : decide (z < 0) = false := by simpa using hz0
          have t1 : decide ((V.len : Int) ≤ z) = true := by simp; omega
          clear hin hz0
          go_wp2_with (refine wpList_store_rowTo rfl 25 _ _ rfl rfl (w.heap.size + 1) #[.int .i64 0, .int .u64 0, .string ⟨#[]⟩, .slice none 0 0] rfl rfl _ _ HZ.out (by kernel_rfl) (by kernel_rfl) (by kernel_rfl) ?_)
          refine bodyPost_ret (v := .tuple #[.agg #[.int .i64 0, .int .u64 0, .string ⟨#[]⟩, .slice none 0 0], .bool false]) ?_ rfl HE.out
          have hl := run_loadVar_row (P := Tryd.prog) _ (w.heap.size + 1) _ 25 _ _ _ (setRow_heap _ _ _ #[.int .i64 0, .int .u64 0, .string ⟨#[]⟩, .slice none 0 0] _ _ HZ.out) Tryd.underlying25 rfl (by kernel_rfl)
          simp [results, Tryd.results8, asAddr, hl]
    · obtain rfl : k = n := by omega
      have d0 : wr.cell? ⟨w.heap.size, 0, none⟩ = some (.int .i64 V.kind) := cell_at hbx rfl
      have d1 : wr.cell? ⟨w.heap.size, 1, none⟩ = some (.int .u64 V.num) := cell_at hbx rfl
      have d2 : wr.cell? ⟨w.heap.size, 2, none⟩ = some (.string V.text) := cell_at hbx rfl
      have d3 : wr.cell? ⟨w.heap.size, 3, none⟩ = some (.slice V.ia V.len V.cap) := cell_at hbx rfl
      have HC := Lib.hid (copied_any S V wr (HV.out.next HBr.out))
      unfold CCopyTo at HC
      have hlz := lt_of_block HZ.out
      clear hbx
      go_wp2_with (first
        | (go_at_call 18; refine (HC.out).mono ?_; rintro e w3 ⟨U, rfl, hs, hv, hb3⟩; have HS := Lib.hid hs; have HVU := Lib.hid hv; have HB3 := Lib.hid hb3; have HZ3 := Lib.hid (box_keep HZ.out hb3); clear hs hv hb3)
        | (refine wpList_store_rowTo rfl 25 _ _ rfl rfl (w.heap.size + 1) #[.int .i64 U.kind, .int .u64 U.num, .string U.text, .slice U.ia U.len U.cap] rfl rfl _ _ HZ3.out (by kernel_rfl) (by kernel_rfl) (by kernel_rfl) ?_))
      have hbw := HBr.out.size
      refine bodyPost_ret (v := .tuple #[.agg #[.int .i64 U.kind, .int .u64 U.num, .string U.text, .slice U.ia U.len U.cap], .bool true]) ?_ rfl ⟨U, true, rfl, .inl ⟨V, HW.out, rfl, HS.out⟩, ValAt.held_of (fun b h => by omega) (by simp [World.setRow]) (fun b h _ => setRow_other _ _ _ _ (by omega)) _ HVU.out, below_setRow (HBr.out.trans (HB3.out.mono hbw)) (by omega) _⟩
      have hl := run_loadVar_row (P := Tryd.prog) _ (w.heap.size + 1) _ 25 _ _ _ (setRow_heap _ _ _ #[.int .i64 U.kind, .int .u64 U.num, .string U.text, .slice U.ia U.len U.cap] _ _ HZ3.out) Tryd.underlying25 rfl (by kernel_rfl)
      simp [results, Tryd.results8, asAddr, hl]
end Go.Proofs.YtpclpghmahlieaaDoor
