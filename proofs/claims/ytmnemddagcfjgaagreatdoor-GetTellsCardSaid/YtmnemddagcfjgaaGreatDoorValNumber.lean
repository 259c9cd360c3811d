/- strings.Builder, in a block of its own type or of a struct that it fills: copyCheck, WriteString, WriteByte, String. -/
import Derived.Test.YtmnemddagcfjgaaGreatDoorOwn
import Derived.Test.YtmnemddagcfjgaaGreatDoorValSame
import Derived.Lib.Builder
import Derived.Lib.OthersKept
import Derived.Lib.UnsafeStr
import Derived.Laws.Externs
import Derived.Test.YtmnemddagcfjgaaGreatDoorShelf
import Derived.Lib.AppendIntMem
import Derived.Laws.IdiomStrings
import Derived.Shelf.Abstract
import Derived.Test.YtmnemddagcfjgaaGreatDoorPrimSmall
namespace Go.Proofs.YtmnemddagcfjgaaGreatDoor
open Go.RowKit
set_option linter.unusedVariables false
/-- a Builder lies at the head of a block of the type T -/
structure LiesB (T : TypeId) : Prop where
  lies : liesAt Tryz.prog Tryz.prog.depth T (2 / Tryz.prog.cellsOf T) 0 84 1 = true
  ne : T ≠ 5
theorem liesBuilder : LiesB 84 := ⟨by kernel_rfl, by decide⟩
theorem liesWriter : LiesB 86 := ⟨by kernel_rfl, by decide⟩
theorem sizeBuilder : (Tryz.prog.info? 84).map (·.size) = some 2 := by kernel_rfl
theorem infoByte8 : (Tryz.prog.info? 5).map (fun i => (i.zero, i.size, i.bytes)) = some (some (.int .u8 0), 1, 1) := by kernel_rfl
/-- what holds of every block but b and rows of bytes -/
abbrev Kept (b : Nat) (w w' : World) : Prop := Lib.OthersKept 5 (some b) w w'
set_option maxRecDepth 100000 in
set_option maxHeartbeats 1000000 in
theorem copyFresh (T : TypeId) (hT : LiesB T) (b : Nat) (w : World) (h0 : w.cell? ⟨b, 0, none⟩ = some (.pointer none)) (hsh : w.shape? b = some (T, 2)) (hfz : w.frozen? ⟨b, 0, none⟩ = false) :
    Calls Tryz.prog 142 #[.pointer (some ⟨b, 0, none⟩)] w fun e w' => e = .returned (.tuple #[]) ∧ w' = w.setCell ⟨b, 0, none⟩ (.pointer (some ⟨b, 0, none⟩)) := by
  obtain ⟨j, hj, hjs⟩ := Option.map_eq_some_iff.1 sizeBuilder
  have hto := Lib.run_to_unsafe (P := Tryz.prog) w ⟨b, 0, none⟩ Tryz.underlying81 Tryz.underlying185 hj (by rw [hjs]; decide) hsh (Nat.zero_lt_succ 1)
  have hfrom := Lib.run_from_unsafe (P := Tryz.prog) w ⟨b, 0, none⟩ Tryz.underlying185 Tryz.underlying81 hj hsh hT.lies
  clear hj hjs
  go_enter Tryz.func142, Tryz.ntmps142
  go_wp2
  rw [run_callFunc_extern Tryz.func172 (by kernel_rfl) (by kernel_rfl) (e := Extern.AbiNoEscape.same) (by kernel_rfl), Lib.run_noEscape]
  simp only [Result.andThen]
  rw [Oper.upon_value]
  · go_wp2
    go_end0
    exact ⟨rfl, rfl⟩
  · kernel_rfl
set_option maxHeartbeats 1000000 in
theorem copyUsed (b : Nat) (w : World) (h0 : w.cell? ⟨b, 0, none⟩ = some (.pointer (some ⟨b, 0, none⟩))) :
    Calls Tryz.prog 142 #[.pointer (some ⟨b, 0, none⟩)] w fun e w' => e = .returned (.tuple #[]) ∧ w' = w := by
  obtain ⟨j, hj, _⟩ := Option.map_eq_some_iff.1 sizeBuilder
  have hn := Lib.run_neq_ptr_same (P := Tryz.prog) w ⟨b, 0, none⟩ Tryz.underlying81 hj
  clear hj
  go_enter Tryz.func142, Tryz.ntmps142
  go_wp2
  go_end0
  exact ⟨rfl, rfl⟩
/-- the text that a Builder holds -/
def TxtAt (T : TypeId) (B b : Nat) (l : List UInt8) (w : World) : Prop := Lib.IsBuilder T 5 B b (Lib.byteCells l) w
theorem TxtAt.drew {T : TypeId} {B b : Nat} {l : List UInt8} {w : World} (h : TxtAt T B b l w) : TxtAt T B b l w.drew := h
theorem copyCheck8 (T : TypeId) (hT : LiesB T) (B b : Nat) (l : List UInt8) (w : World) (h : TxtAt T B b l w) :
    Calls Tryz.prog 142 #[.pointer (some ⟨b, 0, none⟩)] w fun e w' => e = .returned (.tuple #[]) ∧ Lib.BuilderAt T 5 B b (.pointer (some ⟨b, 0, none⟩)) (Lib.byteCells l) w' ∧ Below B w w' ∧ Kept b w w' := by
  rcases h with h | h
  · refine (copyFresh T hT b w h.cell0 h.shape h.frozen0).mono ?_
    rintro e w' ⟨rfl, rfl⟩
    exact ⟨rfl, h.used _, (Below.refl B w).setCell (p := ⟨b, 0, none⟩) h.1 _, (Lib.OthersKept.refl _ _ w).setCell ⟨b, 0, none⟩ rfl _⟩
  · refine (copyUsed b w h.cell0).mono ?_
    rintro e w' ⟨rfl, rfl⟩
    exact ⟨rfl, h, Below.refl B _, Lib.OthersKept.refl _ _ _⟩
theorem own_kind {w : World} {B : Nat} {e : TypeId} {v : Value} {n : Nat} {xs : List Value} (h : w.ownsRow B e 1 v n xs) : ∀ g, v.ownBlock = some g → ∃ c fz, w.heap[g]? = some (.cells c e fz) := by
  intro g hg
  rcases h.2 with ⟨rfl, _⟩ | ⟨g', cap, cur, rfl, _, hgg, _⟩
  · simp [Value.ownBlock] at hg
  · simp [Value.ownBlock] at hg
    subst hg
    exact ⟨cur, _, hgg⟩
theorem own_slice8 {w : World} {B : Nat} {e : TypeId} {v : Value} {n : Nat} {xs : List Value} (h : w.ownsRow B e 1 v n xs) : ∃ ao cap, v = .slice ao n cap := by
  rcases h.2 with ⟨hv, h0⟩ | ⟨g, cap, cur, hv, _⟩
  · exact ⟨none, 0, by rw [hv, h0]⟩
  · exact ⟨_, cap, hv⟩
set_option maxHeartbeats 2000000 in
theorem writeString8 (T : TypeId) (hT : LiesB T) (B b : Nat) (l : List UInt8) (s : ByteArray) (w : World) (h : TxtAt T B b l w) (hlen : l.length + s.size ≤ 140737488355328) (hBw : B ≤ w.heap.size) :
    Calls Tryz.prog 103 #[.pointer (some ⟨b, 0, none⟩), .string s] w fun e w' => e = .returned (.tuple #[.int .i64 s.size, .nilIface]) ∧ TxtAt T B b (l ++ s.data.toList) w' ∧ Below B w w' ∧ Kept b w w' := by
  obtain ⟨i0, hi, hz0, hz1, hz2⟩ := info_parts infoByte8
  have hml : s.size ≤ maxLen := by unfold maxLen; omega
  have HC := Lib.hid (copyCheck8 T hT B b l w h)
  clear h
  go_enter Tryz.func103, Tryz.ntmps103
  go_wp2_with (first
    | (go_at_call 142; refine (HC.out).mono ?_; rintro e w1 ⟨rfl, h1, hb1, hk1⟩; obtain ⟨hB, v, hbk, hown, hne⟩ := h1; have c1 : w1.cell? ⟨b, 1, none⟩ = some v := cell_at (j := 1) hbk rfl; have HO := Lib.hid hown; have HK := Lib.hid hbk; have HB := Lib.hid hb1; have HT := Lib.hid hk1; have HNE := Lib.hid hne; clear hown hbk hb1 hk1 hne)
    | (at_builtin; refine wpList_append_string_at rfl _ _ 82 9 rfl B 5 i0 Tryz.underlying82 Tryz.underlying9 hi hz0 hz1 hz2 _ _ _ rfl HO.out s rfl (by rw [Lib.byteCells_length]; unfold maxLen; omega) (by rw [Lib.byteCells_length]; omega) (by have := HB.out.size; omega) ?_; intro v2 w2 hown2 hg2 hf2; obtain ⟨ao2, cap2, rfl⟩ := own_slice8 hown2; have hb2 := (hg2.block b (lt_of_block HK.out) (fun e => HNE.out e.symm)).trans HK.out; have d1 : w2.cell? ⟨b, 1, none⟩ = some v := cell_at (j := 1) hb2 rfl; have f1 := free_at (j := 1) hb2; have HO2 := Lib.hid hown2; have HG2 := Lib.hid hg2; have HK2 := Lib.hid hb2; clear hown2 hg2 hf2 hb2 c1))
  go_ret2
  have hbs : (Lib.byteCells (l ++ s.data.toList)).length = (Lib.byteCells l).length + s.size := by rw [Lib.byteCells_append, List.length_append, ← Lib.strCells_eq, Lib.strCells_length]
  refine ⟨rfl, .inr ?_, ?_, ?_⟩
  · exact Lib.BuilderAt.put (T := T) (e := 5) hB HK2.out (bs' := Lib.byteCells (l ++ s.data.toList)) (by rw [hbs, Lib.byteCells_append, ← Lib.strCells_eq]; exact HO2.out) hT.ne
  · exact (HB.out.grown HG2.out (by have := HB.out.size; omega) (fun k hk => (HO.out.lt k hk).1)).setCell (p := ⟨b, 1, none⟩) hB _
  · exact (HT.out.grown HG2.out (own_kind HO.out)).setCell ⟨b, 1, none⟩ rfl _
set_option maxHeartbeats 2000000 in
theorem writeByte8 (T : TypeId) (hT : LiesB T) (B b : Nat) (l : List UInt8) (c : UInt8) (w : World) (h : TxtAt T B b l w) (hlen : l.length + 1 ≤ 140737488355328) (hBw : B ≤ w.heap.size) :
    Calls Tryz.prog 105 #[.pointer (some ⟨b, 0, none⟩), .int .u8 c.toNat] w fun e w' => e = .returned .nilIface ∧ TxtAt T B b (l ++ [c]) w' ∧ Below B w w' ∧ Kept b w w' := by
  obtain ⟨i0, hi, hz0, hz1, hz2⟩ := info_parts infoByte8
  have HC := Lib.hid (copyCheck8 T hT B b l w h)
  obtain ⟨n, hn⟩ : ∃ n : Int, n = c.toNat := ⟨_, rfl⟩
  have HN := Lib.hid hn
  rw [← hn]
  clear h hn
  go_enter Tryz.func105, Tryz.ntmps105
  go_wp2_with (first
    | (go_at_call 142; refine (HC.out).mono ?_; rintro e w1 ⟨rfl, h1, hb1, hk1⟩; obtain ⟨hB, v, hbk, hown, hne⟩ := h1; have c1 : w1.cell? ⟨b, 1, none⟩ = some v := cell_at (j := 1) hbk rfl; have HO := Lib.hid hown; have HK := Lib.hid hbk; have HB := Lib.hid hb1; have HT := Lib.hid hk1; have HNE := Lib.hid hne; clear hown hbk hb1 hk1 hne)
    | (at_builtin; refine wpList_append_at rfl _ _ 82 rfl B 5 i0 (.int .u8 0) 1 1 Tryz.underlying82 hi hz0 hz1 hz2 rfl (by decide) _ _ _ rfl (HO.out.alloc _) ⟨_, 0, none⟩ 1 1 [.int .u8 n] rfl rfl (fun j u hj => by match j, hj with | 0, hj => (simp at hj; subst hj; simp [Addr.add])) (fun u hu => by (simp at hu; subst hu; rfl)) (by rw [Lib.byteCells_length]; unfold maxLen; omega) (by rw [Lib.byteCells_length]; omega) (by have := HB.out.size; simp; omega) ?_; intro v2 w2 hown2 hg2 hf2; obtain ⟨ao2, cap2, rfl⟩ := own_slice8 hown2; have hb2 := (hg2.block b (by have := lt_of_block HK.out; simp; omega) (fun e => HNE.out e.symm)).trans (alloc_old HK.out); have d1 : w2.cell? ⟨b, 1, none⟩ = some v := cell_at (j := 1) hb2 rfl; have f1 := free_at (j := 1) hb2; have HO2 := Lib.hid hown2; have HG2 := Lib.hid hg2; have HK2 := Lib.hid hb2; clear hown2 hg2 hf2 hb2 c1))
  go_ret
  have hc1 : Lib.byteCells [c] = [.int .u8 n] := by rw [HN.out]; rfl
  refine ⟨rfl, .inr ?_, ?_, ?_⟩
  · exact Lib.BuilderAt.put (T := T) (e := 5) hB HK2.out (bs' := Lib.byteCells (l ++ [c])) (by rw [Lib.byteCells_append, hc1]; simpa using HO2.out) hT.ne
  · exact ((HB.out.alloc (by have := HB.out.size; omega) _).grown HG2.out (by have := HB.out.size; simp; omega) (fun k hk => (HO.out.lt k hk).1)).setCell (p := ⟨b, 1, none⟩) hB _
  · exact ((HT.out.alloc _).grown HG2.out (own_kind (HO.out.alloc _))).setCell ⟨b, 1, none⟩ rfl _
end Go.Proofs.YtmnemddagcfjgaaGreatDoor
namespace Go.Proofs.YtmnemddagcfjgaaGreatDoor
open Go.RowKit
set_option linter.unusedVariables false
set_option maxHeartbeats 2000000 in
theorem string8 (T : TypeId) (hT : LiesB T) (B b : Nat) (l : List UInt8) (w : World) (h : TxtAt T B b l w) (h0 : l ≠ []) :
    Calls Tryz.prog 37 #[.pointer (some ⟨b, 0, none⟩)] w fun e w' => e = .returned (.string ⟨l.toArray⟩) ∧ Below B w w' := by
  obtain ⟨p, hB, v, hbk, hown, hne⟩ : ∃ p, Lib.BuilderAt T 5 B b p (Lib.byteCells l) w := by
    rcases h with h | h
    · exact ⟨_, h⟩
    · exact ⟨_, h⟩
  have hl0 : l.length ≠ 0 := by simpa using h0
  have hown' := hown
  rw [Lib.byteCells_length] at hown
  rcases hown.2 with ⟨_, hz⟩ | ⟨g, cap, cur, rfl, hbg, hg, hnc, hcm, hcs, htake⟩
  · exact absurd hz hl0
  have hcb : Tryz.prog.cellsOf 5 = 1 := by kernel_rfl
  have c1 : w.cell? ⟨b, 1, none⟩ = some (.slice (some ⟨g, 0, none⟩) l.length cap) := cell_at (j := 1) hbk rfl
  have c2 : w.drew.cell? ⟨b, 1, none⟩ = some (.slice (some ⟨g, 0, none⟩) l.length cap) := c1
  have hSD : (Builtin.unsafeSliceData_ #[82] 128 #[.slice (some ⟨g, 0, none⟩) l.length cap]).run Tryz.prog w.drew = .ok (.pointer (some ⟨g, 0, none⟩)) w.drew :=
    Lib.run_unsafeSliceData_row _ _ _ _ _ _ (by omega)
  have hUS : (Builtin.unsafeString_ #[128, 3] 9 #[.pointer (some ⟨g, 0, none⟩), .int .i64 l.length]).run Tryz.prog w.drew = .ok (.string ⟨l.toArray⟩) (w.drew.freeze ⟨g, 0, none⟩ l.length) := by
    refine Lib.run_unsafeString_row w.drew 128 3 9 5 Tryz.underlying128 hcb g cur.size (by have hg' : w.drew.heap[g]? = some (.cells cur 5 (0, 0)) := hg; simp [World.shape?, hg']) l h0 (by omega) (by unfold maxLen at hcm; omega) ?_
    intro j x hx
    exact hown'.cells (g := g) rfl j (.int .u8 x.toNat) (by simp [Lib.byteCells, hx])
  have HE := Lib.hid (Lib.below_freeze (Below.drew (Below.refl B w)) (p := ⟨g, 0, none⟩) hbg l.length)
  clear hown hown' htake hbk h hcs hg
  go_enter Tryz.func37, Tryz.ntmps37
  go_wp2
  go_region
  all_goals (go_wp2; go_ret; exact ⟨rfl, HE.out⟩)
end Go.Proofs.YtmnemddagcfjgaaGreatDoor
namespace Go.Proofs.YtmnemddagcfjgaaGreatDoor
open Go.RowKit Go.Sort
set_option linter.unusedVariables false
/-- the table of the powers of ten stands as the program lays it -/
def Tab (w : World) : Prop := Lib.TabIs Tryz.prog w "internal/strconv.uint64pow10" .u64 Lib.pow10Tab
theorem Tab.next {w w' : World} (h : Tab w) (hb : Below w.heap.size w w') : Tab w' := (Lib.tabBelow_of_tabIs h) w' hb
set_option maxHeartbeats 2000000 in
set_option maxRecDepth 100000 in
theorem fmtUint_any (u : Nat) (hu64 : u < 18446744073709551616) (w : World) (htab : Tab w) :
    Calls Tryz.prog 173 #[.int .u64 u, .int .i64 10] w fun e w' => e = .returned (.string ⟨(Lib.decDigits u).toArray⟩) ∧ Below w.heap.size w w' := by
  by_cases hs : u < 100
  · have HS := Lib.hid (fun wx => Tryz.internal_strconv_small u hs wx)
    go_enter Tryz.func173, Tryz.ntmps173
    go_wp2_with (go_at_call 190; refine (HS.out _).mono ?_; rintro e w1 ⟨rfl, rfl⟩)
    go_ret
    exact ⟨rfl, Below.refl _ _⟩
  · have hu1 : 1 ≤ u := by omega
    have hnd20 : Lib.nDigits u ≤ 20 := by have := Lib.numDigits_eq u hu1 hu64; split at this <;> omega
    have hal : Tryz.prog.arrayLen 191 = 24 := by kernel_rfl
    have hsl1 : ∀ W, (Instr.sliceAt 191 (.pointer (some ⟨w.heap.size, 0, none⟩)) none (some (.int .i64 (Lib.nDigits u : Int))) none).run Tryz.prog W = .ok (.slice (some ⟨w.heap.size, 0, none⟩) (Lib.nDigits u) 24) W := fun W => by
      rw [run_sliceAt_array_h W 191 ⟨w.heap.size, 0, none⟩ (by simp [Program.arrayLen, Program.elem, Tryz.underlying191]) .i64 (Lib.nDigits u : Int) (by omega) (by rw [hal]; omega)]
      go_simp
    have hH0 := Lib.holds_zero0 w 191 (Lib.nDigits u) (by omega)
    have hfmt := Tryz.internal_strconv_formatBase10 w.heap.size 0 24 u (Array.replicate (Lib.nDigits u) 0) (w.alloc (.cells Lib.zeros24 191)) hH0 (by rw [Array.size_replicate]; exact Lib.lt_pow_nDigits u) hu64 (by rw [Array.size_replicate]; omega)
    rw [Array.size_replicate] at hfmt
    have HH0 := Lib.hid hH0
    have HF := Lib.hid hfmt
    have HN := Lib.hid (fun wx (hx : Tab wx) => Tryz.internal_strconv_numDigits u hu1 hu64 wx hx)
    have HT := Lib.hid (Tab.next htab ((Below.refl w.heap.size w).alloc (Nat.le_refl _) (.cells Lib.zeros24 191)))
    have t100 : decide ((u : Int) < 100) = false := by simp; omega
    clear hH0 hal hfmt htab
    go_enter Tryz.func173, Tryz.ntmps173
    go_wp2_with (first
      | (go_at_call 191; refine (HN.out _ HT.out).mono ?_; rintro e w1 ⟨rfl, rfl⟩)
      | fail)
    refine (HF.out).mono ?_
    rintro e w' ⟨rfl, k, v', dk, rfl, hF⟩
    have hcv : (convert 82 9 (.slice (some ⟨w.heap.size, 0, none⟩) (Lib.nDigits u) 24)).run Tryz.prog ((putRow (fun (b : UInt8) => Value.int .u8 (b.toNat : Int)) (w.alloc (.cells Lib.zeros24 191)) w.heap.size 0 dk).drewN k) = .ok (.string ⟨(Lib.decDigits u).toArray⟩) ((putRow (fun (b : UInt8) => Value.int .u8 (b.toNat : Int)) (w.alloc (.cells Lib.zeros24 191)) w.heap.size 0 dk).drewN k) := by
      have h := run_convert_bytes_back (P := Tryz.prog) ((putRow (fun (b : UInt8) => Value.int .u8 (b.toNat : Int)) (w.alloc (.cells Lib.zeros24 191)) w.heap.size 0 dk).drewN k) 82 9 5 ⟨w.heap.size, 0, none⟩ 24 (Lib.decDigits u) Tryz.underlying82 Tryz.underlying5 Tryz.underlying9 (fun j hj => by
        rw [Lib.row_is_numeral hF j hj, Lib.add_plain, World.cell?_drewN]
        exact cell?_putRow (fun (b : UInt8) => Value.int .u8 (b.toNat : Int)) _ w.heap.size 0 _ dk HH0.out (by rw [hF.size, Array.size_replicate]) j (by rw [hF.size]; rw [Lib.decDigits_length] at hj; exact hj))
      rw [Lib.decDigits_length] at h
      exact h
    go_wp2
    go_ret
    obtain ⟨os, eo⟩ := Lib.fin_at w (.cells Lib.zeros24 191) dk k 0
    exact ⟨rfl, by rw [eo]; exact Lib.below_grow _ w (Nat.le_refl _) k os⟩
theorem digits_any (u : Int) (h0 : 0 ≤ u) (hu64 : u < 18446744073709551616) (w : World) (htab : Tab w) :
    Calls Tryz.prog 106 #[.int .u64 u] w fun e w' => e = .returned (.string ⟨(Lib.decDigits u.toNat).toArray⟩) ∧ Below w.heap.size w w' := by
  have HF := Lib.hid (fmtUint_any u.toNat (by omega) w htab)
  rw [show ((u.toNat : Nat) : Int) = u by omega] at HF
  have hw : Calls Tryz.prog 143 #[.int .u64 u, .int .i64 10] w fun e w' => e = .returned (.string ⟨(Lib.decDigits u.toNat).toArray⟩) ∧ Below w.heap.size w w' := by
    go_enter Tryz.func143, Tryz.ntmps143
    go_wp2_with (go_at_call 173; refine (HF.out).mono ?_; rintro e w1 ⟨rfl, hb1⟩)
    go_ret
    exact ⟨rfl, hb1⟩
  have HW := Lib.hid hw
  clear hw
  go_enter Tryz.func106, Tryz.ntmps106
  go_wp2_with (go_at_call 143; refine (HW.out).mono ?_; rintro e w1 ⟨rfl, hb1⟩)
  go_ret
  exact ⟨rfl, hb1⟩
theorem fmtBool_any (b : Bool) (w : World) : Calls Tryz.prog 107 #[.bool b] w fun e w' => e = .returned (.string ⟨(if b then trueL else falseL).toArray⟩) ∧ w = w' := by
  refine (Tryz.strconv_FormatBool b w).mono ?_
  rintro e w' ⟨rfl, rfl⟩
  refine ⟨?_, rfl⟩
  cases b <;> rfl
end Go.Proofs.YtmnemddagcfjgaaGreatDoor
namespace Go.Proofs.YtmnemddagcfjgaaGreatDoor
open Go.RowKit
set_option linter.unusedVariables false
theorem TxtAt.next {T : TypeId} {B b : Nat} {l : List UInt8} {w w' : World} (h : TxtAt T B b l w) (hb : Below w.heap.size w w') : TxtAt T B b l w' := by
  have hk : ∀ p, Lib.BuilderAt T 5 B b p (Lib.byteCells l) w → Lib.BuilderAt T 5 B b p (Lib.byteCells l) w' := by
    rintro p ⟨hB, v, hbk, hown, hne⟩
    exact ⟨hB, v, box_keep hbk hb, (Only.of_below (S := fun _ => False) hb).row hown (fun _ _ f => f), hne⟩
  exact h.elim (fun h => .inl (hk _ h)) (fun h => .inr (hk _ h))
theorem TxtAt.lt {T : TypeId} {B b : Nat} {l : List UInt8} {w : World} (h : TxtAt T B b l w) : b < w.heap.size := by
  rcases h with h | h
  · exact h.lt
  · exact h.lt
theorem TxtAt.ge {T : TypeId} {B b : Nat} {l : List UInt8} {w : World} (h : TxtAt T B b l w) : B ≤ b := by
  rcases h with h | h
  · exact h.1
  · exact h.1
theorem Kept.next {b : Nat} {a w w' : World} (h : Kept b a w) (hb : Below w.heap.size w w') : Kept b a w' :=
  fun k o hk hne ho => by have h1 := h k o hk hne ho; exact box_keep h1 hb
/-- the texts, one behind the other -/
def flatTo (S : Nat → ByteArray) : Nat → List UInt8 | 0 => [] | n + 1 => flatTo S n ++ (S n).data.toList
theorem flatTo_le (S : Nat → ByteArray) : ∀ {n m : Nat}, m ≤ n → (flatTo S m).length ≤ (flatTo S n).length
  | 0, m, h => by obtain rfl : m = 0 := by omega
                  exact Nat.le_refl _
  | n + 1, m, h => by
    rcases Nat.eq_or_lt_of_le h with rfl | h
    · exact Nat.le_refl _
    · have := flatTo_le S (n := n) (m := m) (by omega)
      rw [flatTo, List.length_append]; omega
theorem size_list (s : ByteArray) : s.data.toList.length = s.size := by simp
def WTo (l : List UInt8) (B b : Nat) (w : World) (e : Ending) (w' : World) : Prop := e = .returned (.tuple #[]) ∧ TxtAt 86 B b l w' ∧ Below B w w' ∧ Kept b w w'
set_option maxHeartbeats 2000000 in
theorem join_any (B b g n : Nat) (S : Nat → ByteArray) (l : List UInt8) (cs : Array Value) (w : World) (hn : n ≤ 3) (h : TxtAt 86 B b l w) (hg : w.heap[g]? = some (.cells cs 9 (0, 0))) (hcs : ∀ j, j < n → cs[j]? = some (.string (S j))) (hgb : g ≠ b)
    (hlen : l.length + (flatTo S n).length ≤ 140737488355328) (hBw : B ≤ w.heap.size) :
    Calls Tryz.prog 60 #[.pointer (some ⟨b, 0, none⟩), .slice (some ⟨g, 0, none⟩) n n] w (WTo (l ++ flatTo S n) B b w) := by
  unfold WTo
  have HG := Lib.hid hg
  have H0 := Lib.hid h
  have HW := Lib.hid (fun (j : Nat) (hj : j < n) (wx : World) (hx : TxtAt 86 B b (l ++ flatTo S j) wx) (hB : B ≤ wx.heap.size) => writeString8 86 liesWriter B b (l ++ flatTo S j) (S j) wx hx (by
    have h1 := flatTo_le S (m := j + 1) (n := n) hj
    rw [flatTo, List.length_append, size_list] at h1
    rw [List.length_append]; omega) hB)
  have HK := Lib.hid (fun (wx : World) (hk : Kept b w wx) => hk g _ hg (fun e => hgb (Option.some.inj e)) (fun c fz e => by cases e))
  have hsz : ∀ j, j < n → (S j).size ≤ 140737488355328 := fun j hj => by
    have h1 := flatTo_le S (m := j + 1) (n := n) hj
    rw [flatTo, List.length_append, size_list] at h1
    omega
  have HS := Lib.hid hsz
  have HCS := Lib.hid hcs
  clear h hg hlen hsz hcs
  go_enter Tryz.func60, Tryz.ntmps60
  go_wp2
  go_loopw [8] (fun i wr => ∃ j : Nat, j ≤ n ∧ i = .int .i64 j ∧ Hid (TxtAt 86 B b (l ++ flatTo S j) wr) ∧ Hid (Below B w wr) ∧ Hid (Kept b w wr)) (fun i _ => n - (intOf i).toNat)
  case atStart => exact ⟨0, Nat.zero_le _, rfl, Lib.hid (by rw [flatTo, List.append_nil]; exact H0.out), Lib.hid (Below.refl _ _), Lib.hid (Lib.OthersKept.refl _ _ _)⟩
  case round =>
    obtain ⟨j, hj, rfl, HR, HBr, HKr⟩ := hrel
    by_cases hlt : j < n
    · have c0 : wr.cell? ⟨g, j, none⟩ = some (.string (S j)) := cell_at (HK.out wr HKr.out) (HCS.out j hlt)
      have hs := HS.out j hlt
      have hsm : (S j).size ≤ maxLen := by unfold maxLen; omega
      have HX := Lib.hid (HW.out j hlt wr HR.out (by have := HBr.out.size; omega))
      go_wp2_with (go_at_call 103; refine (HX.out).mono ?_; rintro e w2 ⟨rfl, ht2, hb2, hk2⟩)
      go_roundw
      case rel => exact ⟨j + 1, by omega, by go_num, Lib.hid (by rw [flatTo, ← List.append_assoc]; exact ht2), Lib.hid (HBr.out.trans hb2), Lib.hid (HKr.out.trans hk2)⟩
      case measure => simp [intOf]; omega
    · obtain rfl : j = n := by omega
      go_wp2
      go_end0
      exact ⟨rfl, HR.out, HBr.out, HKr.out⟩
end Go.Proofs.YtmnemddagcfjgaaGreatDoor
namespace Go.Proofs.YtmnemddagcfjgaaGreatDoor
open Go.RowKit
set_option linter.unusedVariables false
theorem WTo.from {l : List UInt8} {B b : Nat} {a w w' : World} {e : Ending} (h : WTo l B b w e w') (hb : Below B a w) (hk : Kept b a w) : WTo l B b a e w' := ⟨h.1, h.2.1, hb.trans h.2.2.1, hk.trans h.2.2.2⟩
theorem join_row (B b n : Nat) (S : Nat → ByteArray) (cs : Array Value) (l : List UInt8) (w : World) (hn : n ≤ 3) (h : TxtAt 86 B b l w) (hcs : ∀ j, j < n → cs[j]? = some (.string (S j))) (hlen : l.length + (flatTo S n).length ≤ 140737488355328) (hBw : B ≤ w.heap.size) :
    Calls Tryz.prog 60 #[.pointer (some ⟨b, 0, none⟩), .slice (some ⟨w.heap.size, 0, none⟩) n n] (w.alloc (.cells cs 9)) (WTo (l ++ flatTo S n) B b w) := by
  have hb := (Below.refl w.heap.size w).alloc (Nat.le_refl _) (.cells cs 9)
  refine (join_any B b w.heap.size n S l cs (w.alloc (.cells cs 9)) hn (h.next hb) (alloc_at w _) hcs (by have := h.lt; omega) hlen (by have := hb.size; omega)).mono ?_
  intro e w' hh
  exact WTo.from hh ((Below.refl B w).alloc hBw _) ((Lib.OthersKept.refl _ _ w).alloc _)
theorem join1 (B b g : Nat) (x : ByteArray) (l : List UInt8) (w : World) (h : TxtAt 86 B b l w) (hlen : l.length + x.size ≤ 140737488355328) (hBw : B ≤ w.heap.size) (hg : g = w.heap.size) :
    Calls Tryz.prog 60 #[.pointer (some ⟨b, 0, none⟩), .slice (some ⟨g, 0, none⟩) 1 1] (w.alloc (.cells #[.string x] 9)) (WTo (l ++ x.data.toList) B b w) := by
  subst hg
  have := join_row B b 1 (fun _ => x) #[.string x] l w (by omega) h (fun j hj => by obtain rfl : j = 0 := by omega
                                                                                    rfl) (by simpa [flatTo] using hlen) hBw
  simpa [flatTo] using this
theorem join2 (B b g : Nat) (x y : ByteArray) (l : List UInt8) (w : World) (h : TxtAt 86 B b l w) (hlen : l.length + (x.size + y.size) ≤ 140737488355328) (hBw : B ≤ w.heap.size) (hg : g = w.heap.size) :
    Calls Tryz.prog 60 #[.pointer (some ⟨b, 0, none⟩), .slice (some ⟨g, 0, none⟩) 2 2] (w.alloc (.cells #[.string x, .string y] 9)) (WTo (l ++ (x.data.toList ++ y.data.toList)) B b w) := by
  subst hg
  have := join_row B b 2 (fun j => if j = 0 then x else y) #[.string x, .string y] l w (by omega) h (fun j hj => by
    match j, hj with
    | 0, _ => rfl
    | 1, _ => rfl) (by simpa [flatTo] using hlen) hBw
  simpa [flatTo] using this
theorem join3 (B b g : Nat) (x y z : ByteArray) (l : List UInt8) (w : World) (h : TxtAt 86 B b l w) (hlen : l.length + (x.size + (y.size + z.size)) ≤ 140737488355328) (hBw : B ≤ w.heap.size) (hg : g = w.heap.size) :
    Calls Tryz.prog 60 #[.pointer (some ⟨b, 0, none⟩), .slice (some ⟨g, 0, none⟩) 3 3] (w.alloc (.cells #[.string x, .string y, .string z] 9)) (WTo (l ++ (x.data.toList ++ (y.data.toList ++ z.data.toList))) B b w) := by
  subst hg
  have := join_row B b 3 (fun j => if j = 0 then x else if j = 1 then y else z) #[.string x, .string y, .string z] l w (by omega) h (fun j hj => by
    match j, hj with
    | 0, _ => rfl
    | 1, _ => rfl
    | 2, _ => rfl) (by simp only [flatTo]; simp; omega) hBw
  simpa [flatTo, List.append_assoc] using this
set_option maxHeartbeats 2000000 in
theorem numberW_any (d : DatV) (B b : Nat) (l : List UInt8) (w : World) (h0 : 0 ≤ d.num) (h1 : d.num < 18446744073709551616) (h : TxtAt 86 B b l w) (htab : Tab w) (hlen : l.length ≤ 1099511627776) (hBw : B ≤ w.heap.size) :
    Calls Tryz.prog 64 #[.pointer (some ⟨b, 0, none⟩), .agg #[.int .i64 d.kind, .bool d.neg, .int .u64 d.num, .string d.text]] w (WTo (l ++ datL d) B b w) := by
  have hdl := dec_len d.num.toNat (by omega)
  have HB := Lib.hid ((Below.refl w.heap.size w).alloc (Nat.le_refl _) (.cells #[.int .i64 d.kind, .bool d.neg, .int .u64 d.num, .string d.text] 126))
  have HT := Lib.hid (h.next HB.out)
  have HD := Lib.hid (digits_any d.num h0 h1 _ (htab.next HB.out))
  have HS := Lib.hid (show B ≤ (w.alloc (.cells #[.int .i64 d.kind, .bool d.neg, .int .u64 d.num, .string d.text] 126)).heap.size by have := HB.out.size; omega)
  have HBB := Lib.hid (HB.out.mono hBw)
  have HKK := Lib.hid ((Lib.OthersKept.refl 5 (some b) w).alloc (.cells #[.int .i64 d.kind, .bool d.neg, .int .u64 d.num, .string d.text] 126))
  clear h htab
  by_cases k3 : d.kind = 3
  · have t3 : (d.kind == 3) = true := by simpa using k3
    cases hb : (d.num == 1) with
    | true =>
      have he : datL d = trueL := by unfold datL; rw [if_pos k3, if_pos (by simpa using hb)]
      rw [he]
      clear k3 he
      go_enter Tryz.func64, Tryz.ntmps64
      go_wp2_with (first
        | (go_at_call 107; refine (fmtBool_any _ _).mono ?_; rintro e w2 ⟨rfl, rfl⟩)
        | (go_at_call 60; refine (join1 B b _ _ l _ HT.out (by rw [show ((⟨trueL.toArray⟩ : ByteArray)).size = 4 from rfl]; omega) HS.out (by simp)).mono ?_; rintro e w3 ⟨rfl, ht3, hb3, hk3⟩))
      go_end0
      exact ⟨rfl, ht3, HBB.out.trans hb3, HKK.out.trans hk3⟩
    | false =>
      have he : datL d = falseL := by unfold datL; rw [if_pos k3, if_neg (by simpa using hb)]
      rw [he]
      clear k3 he
      go_enter Tryz.func64, Tryz.ntmps64
      go_wp2_with (first
        | (go_at_call 107; refine (fmtBool_any _ _).mono ?_; rintro e w2 ⟨rfl, rfl⟩)
        | (go_at_call 60; refine (join1 B b _ _ l _ HT.out (by rw [show ((⟨falseL.toArray⟩ : ByteArray)).size = 5 from rfl]; omega) HS.out (by simp)).mono ?_; rintro e w3 ⟨rfl, ht3, hb3, hk3⟩))
      go_end0
      exact ⟨rfl, ht3, HBB.out.trans hb3, HKK.out.trans hk3⟩
  · have t3 : (d.kind == 3) = false := by simpa using k3
    by_cases k1 : d.kind = 1
    · have t1 : (d.kind == 1) = true := by simpa using k1
      have hds : (⟨(Lib.decDigits d.num.toNat).toArray⟩ : ByteArray).size ≤ 20 := hdl
      cases hb : d.neg with
      | true =>
        have he : datL d = 45 :: Lib.decDigits d.num.toNat := by unfold datL; rw [if_neg k3, if_pos k1, if_pos hb]
        rw [he]
        rw [hb] at HB HT HD HS HBB HKK
        clear k3 k1 he hb
        go_enter Tryz.func64, Tryz.ntmps64
        go_wp2_with (first
          | (go_at_call 106; refine (HD.out).mono ?_; rintro e w2 ⟨rfl, hb2⟩)
          | (go_at_call 60; refine (join2 B b _ _ _ l w2 (HT.out.next hb2) (by rw [show ((⟨#[45]⟩ : ByteArray)).size = 1 from rfl]; omega) (by have := HS.out; have := hb2.size; omega) rfl).mono ?_; rintro e w3 ⟨rfl, ht3, hb3, hk3⟩))
        go_end0
        exact ⟨rfl, ht3, (HBB.out.trans (hb2.mono HS.out)).trans hb3, Lib.OthersKept.trans (Kept.next HKK.out hb2) hk3⟩
      | false =>
        have he : datL d = Lib.decDigits d.num.toNat := by unfold datL; rw [if_neg k3, if_pos k1, if_neg (by simp [hb])]
        rw [he]
        rw [hb] at HB HT HD HS HBB HKK
        clear k3 k1 he hb
        go_enter Tryz.func64, Tryz.ntmps64
        go_wp2_with (first
          | (go_at_call 106; refine (HD.out).mono ?_; rintro e w2 ⟨rfl, hb2⟩)
          | (go_at_call 60; refine (join1 B b _ _ l w2 (HT.out.next hb2) (by omega) (by have := HS.out; have := hb2.size; omega) rfl).mono ?_; rintro e w3 ⟨rfl, ht3, hb3, hk3⟩))
        go_end0
        exact ⟨rfl, ht3, (HBB.out.trans (hb2.mono HS.out)).trans hb3, Lib.OthersKept.trans (Kept.next HKK.out hb2) hk3⟩
    · have t1 : (d.kind == 1) = false := by simpa using k1
      have he : datL d = [63] := by unfold datL; rw [if_neg k3, if_neg k1]
      rw [he]
      clear k3 k1 he
      go_enter Tryz.func64, Tryz.ntmps64
      go_wp2_with (first
        | (go_at_call 60; refine (join1 B b _ _ l _ HT.out (by rw [show ((⟨#[63]⟩ : ByteArray)).size = 1 from rfl]; omega) HS.out (by simp)).mono ?_; rintro e w3 ⟨rfl, ht3, hb3, hk3⟩))
      go_end0
      exact ⟨rfl, ht3, HBB.out.trans hb3, HKK.out.trans hk3⟩
end Go.Proofs.YtmnemddagcfjgaaGreatDoor
