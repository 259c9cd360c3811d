/- strings.Builder (as package key's Text uses it), and chapter 8's figures of the reference: in a block of its own type or of a struct that it fills: copyCheck, WriteString, WriteByte, String. -/
import Derived.Test.YtinmdkhafamibaaOwn
import Derived.Test.YtinmdkhafamibaaValSame
import Derived.Lib.Builder
import Derived.Lib.OthersKept
import Derived.Lib.UnsafeStr
import Derived.Laws.Externs
import Derived.Lib.AppendIntMem
import Derived.Laws.IdiomStrings
import Derived.Shelf.Abstract
import Derived.Test.YtinmdkhafamibaaPrimSmall
namespace Go.Proofs.Ytinmdkhafamibaa
open Go.RowKit
set_option linter.unusedVariables false
/-- a Builder lies at the head of a block of the type T -/
structure LiesB (T : TypeId) : Prop where
  lies : liesAt Try.prog Try.prog.depth T (2 / Try.prog.cellsOf T) 0 62 1 = true
  ne : T ≠ 5
theorem liesBuilder : LiesB 62 := ⟨by kernel_rfl, by decide⟩
theorem sizeBuilder : (Try.prog.info? 62).map (·.size) = some 2 := by kernel_rfl
theorem infoByte8 : (Try.prog.info? 5).map (fun i => (i.zero, i.size, i.bytes)) = some (some (.int .u8 0), 1, 1) := by kernel_rfl
/-- what holds of every block but b and rows of bytes -/
abbrev Kept (b : Nat) (w w' : World) : Prop := Lib.OthersKept 5 (some b) w w'
set_option maxRecDepth 100000 in
set_option maxHeartbeats 1000000 in
theorem copyFresh (T : TypeId) (hT : LiesB T) (b : Nat) (w : World) (h0 : w.cell? ⟨b, 0, none⟩ = some (.pointer none)) (hsh : w.shape? b = some (T, 2)) (hfz : w.frozen? ⟨b, 0, none⟩ = false) :
    Calls Try.prog 29 #[.pointer (some ⟨b, 0, none⟩)] w fun e w' => e = .returned (.tuple #[]) ∧ w' = w.setCell ⟨b, 0, none⟩ (.pointer (some ⟨b, 0, none⟩)) := by
  obtain ⟨j, hj, hjs⟩ := Option.map_eq_some_iff.1 sizeBuilder
  have hto := Lib.run_to_unsafe (P := Try.prog) w ⟨b, 0, none⟩ Try.underlying60 Try.underlying86 hj (by rw [hjs]; decide) hsh (Nat.zero_lt_succ 1)
  have hfrom := Lib.run_from_unsafe (P := Try.prog) w ⟨b, 0, none⟩ Try.underlying86 Try.underlying60 hj hsh hT.lies
  clear hj hjs
  go_enter Try.func29, Try.ntmps29
  go_wp2
  rw [run_callFunc_extern Try.func37 (by kernel_rfl) (by kernel_rfl) (e := Extern.AbiNoEscape.same) (by kernel_rfl), Lib.run_noEscape]
  simp only [Result.andThen]
  rw [Oper.upon_value]
  · go_wp2
    go_end0
    exact ⟨rfl, rfl⟩
  · kernel_rfl
set_option maxHeartbeats 1000000 in
theorem copyUsed (b : Nat) (w : World) (h0 : w.cell? ⟨b, 0, none⟩ = some (.pointer (some ⟨b, 0, none⟩))) :
    Calls Try.prog 29 #[.pointer (some ⟨b, 0, none⟩)] w fun e w' => e = .returned (.tuple #[]) ∧ w' = w := by
  obtain ⟨j, hj, _⟩ := Option.map_eq_some_iff.1 sizeBuilder
  have hn := Lib.run_neq_ptr_same (P := Try.prog) w ⟨b, 0, none⟩ Try.underlying60 hj
  clear hj
  go_enter Try.func29, Try.ntmps29
  go_wp2
  go_end0
  exact ⟨rfl, rfl⟩
/-- the text that a Builder holds -/
def TxtAt (T : TypeId) (B b : Nat) (l : List UInt8) (w : World) : Prop := Lib.IsBuilder T 5 B b (Lib.byteCells l) w
theorem TxtAt.drew {T : TypeId} {B b : Nat} {l : List UInt8} {w : World} (h : TxtAt T B b l w) : TxtAt T B b l w.drew := h
theorem copyCheck8 (T : TypeId) (hT : LiesB T) (B b : Nat) (l : List UInt8) (w : World) (h : TxtAt T B b l w) :
    Calls Try.prog 29 #[.pointer (some ⟨b, 0, none⟩)] w fun e w' => e = .returned (.tuple #[]) ∧ Lib.BuilderAt T 5 B b (.pointer (some ⟨b, 0, none⟩)) (Lib.byteCells l) w' ∧ Below B w w' ∧ Kept b w w' := by
  rcases h with h | h
  · refine (copyFresh T hT b w h.cell0 h.shape h.frozen0).mono ?_
    rintro e w' ⟨rfl, rfl⟩
    exact ⟨rfl, h.used _, (Below.refl B w).setCell (p := ⟨b, 0, none⟩) h.1 _, (Lib.OthersKept.refl _ _ w).setCell ⟨b, 0, none⟩ rfl _⟩
  · refine (copyUsed b w h.cell0).mono ?_
    rintro e w' ⟨rfl, rfl⟩
    exact ⟨rfl, h, Below.refl B _, Lib.OthersKept.refl _ _ _⟩
theorem own_kind {w : World} {B : Nat} {e : TypeId} {v : Value} {n : Nat} {xs : List Value} (h : w.ownsRow B e 1 v n xs) : ∀ g, v.ownBlock = some g → ∃ c fz, w.heap[g]? = some (.cells c e fz) := by
  intro g hg
  rcases h.2 with ⟨rfl, _⟩ | ⟨g', cap, cur, rfl, _, hgg, _⟩
  · simp [Value.ownBlock] at hg
  · simp [Value.ownBlock] at hg
    subst hg
    exact ⟨cur, _, hgg⟩
theorem own_slice8 {w : World} {B : Nat} {e : TypeId} {v : Value} {n : Nat} {xs : List Value} (h : w.ownsRow B e 1 v n xs) : ∃ ao cap, v = .slice ao n cap := by
  rcases h.2 with ⟨hv, h0⟩ | ⟨g, cap, cur, hv, _⟩
  · exact ⟨none, 0, by rw [hv, h0]⟩
  · exact ⟨_, cap, hv⟩
set_option maxHeartbeats 2000000 in
theorem writeByte8 (T : TypeId) (hT : LiesB T) (B b : Nat) (l : List UInt8) (c : UInt8) (w : World) (h : TxtAt T B b l w) (hlen : l.length + 1 ≤ 140737488355328) (hBw : B ≤ w.heap.size) :
    Calls Try.prog 20 #[.pointer (some ⟨b, 0, none⟩), .int .u8 c.toNat] w fun e w' => e = .returned .nilIface ∧ TxtAt T B b (l ++ [c]) w' ∧ Below B w w' ∧ Kept b w w' := by
  obtain ⟨i0, hi, hz0, hz1, hz2⟩ := info_parts infoByte8
  have HC := Lib.hid (copyCheck8 T hT B b l w h)
  obtain ⟨n, hn⟩ : ∃ n : Int, n = c.toNat := ⟨_, rfl⟩
  have HN := Lib.hid hn
  rw [← hn]
  clear h hn
  go_enter Try.func20, Try.ntmps20
  go_wp2_with (first
    | (go_at_call 29; refine (HC.out).mono ?_; rintro e w1 ⟨rfl, h1, hb1, hk1⟩; obtain ⟨hB, v, hbk, hown, hne⟩ := h1; have c1 : w1.cell? ⟨b, 1, none⟩ = some v := cell_at (j := 1) hbk rfl; have HO := Lib.hid hown; have HK := Lib.hid hbk; have HB := Lib.hid hb1; have HT := Lib.hid hk1; have HNE := Lib.hid hne; clear hown hbk hb1 hk1 hne)
    | (at_builtin; refine wpList_append_at rfl _ _ 58 rfl B 5 i0 (.int .u8 0) 1 1 Try.underlying58 hi hz0 hz1 hz2 rfl (by decide) _ _ _ rfl (HO.out.alloc _) ⟨_, 0, none⟩ 1 1 [.int .u8 n] rfl rfl (fun j u hj => by match j, hj with | 0, hj => (simp at hj; subst hj; simp [Addr.add])) (fun u hu => by (simp at hu; subst hu; rfl)) (by rw [Lib.byteCells_length]; unfold maxLen; omega) (by rw [Lib.byteCells_length]; omega) (by have := HB.out.size; simp; omega) ?_; intro v2 w2 hown2 hg2 hf2; obtain ⟨ao2, cap2, rfl⟩ := own_slice8 hown2; have hb2 := (hg2.block b (by have := lt_of_block HK.out; simp; omega) (fun e => HNE.out e.symm)).trans (alloc_old HK.out); have d1 : w2.cell? ⟨b, 1, none⟩ = some v := cell_at (j := 1) hb2 rfl; have f1 := free_at (j := 1) hb2; have HO2 := Lib.hid hown2; have HG2 := Lib.hid hg2; have HK2 := Lib.hid hb2; clear hown2 hg2 hf2 hb2 c1))
  go_ret
  have hc1 : Lib.byteCells [c] = [.int .u8 n] := by rw [HN.out]; rfl
  refine ⟨rfl, .inr ?_, ?_, ?_⟩
  · exact Lib.BuilderAt.put (T := T) (e := 5) hB HK2.out (bs' := Lib.byteCells (l ++ [c])) (by rw [Lib.byteCells_append, hc1]; simpa using HO2.out) hT.ne
  · exact ((HB.out.alloc (by have := HB.out.size; omega) _).grown HG2.out (by have := HB.out.size; simp; omega) (fun k hk => (HO.out.lt k hk).1)).setCell (p := ⟨b, 1, none⟩) hB _
  · exact ((HT.out.alloc _).grown HG2.out (own_kind (HO.out.alloc _))).setCell ⟨b, 1, none⟩ rfl _
end Go.Proofs.Ytinmdkhafamibaa
namespace Go.Proofs.Ytinmdkhafamibaa
open Go.RowKit
set_option linter.unusedVariables false
set_option maxHeartbeats 2000000 in
theorem string8 (T : TypeId) (hT : LiesB T) (B b : Nat) (l : List UInt8) (w : World) (h : TxtAt T B b l w) (h0 : l ≠ []) :
    Calls Try.prog 21 #[.pointer (some ⟨b, 0, none⟩)] w fun e w' => e = .returned (.string ⟨l.toArray⟩) ∧ Below B w w' := by
  obtain ⟨p, hB, v, hbk, hown, hne⟩ : ∃ p, Lib.BuilderAt T 5 B b p (Lib.byteCells l) w := by
    rcases h with h | h
    · exact ⟨_, h⟩
    · exact ⟨_, h⟩
  have hl0 : l.length ≠ 0 := by simpa using h0
  have hown' := hown
  rw [Lib.byteCells_length] at hown
  rcases hown.2 with ⟨_, hz⟩ | ⟨g, cap, cur, rfl, hbg, hg, hnc, hcm, hcs, htake⟩
  · exact absurd hz hl0
  have hcb : Try.prog.cellsOf 5 = 1 := by kernel_rfl
  have c1 : w.cell? ⟨b, 1, none⟩ = some (.slice (some ⟨g, 0, none⟩) l.length cap) := cell_at (j := 1) hbk rfl
  have c2 : w.drew.cell? ⟨b, 1, none⟩ = some (.slice (some ⟨g, 0, none⟩) l.length cap) := c1
  have hSD : (Builtin.unsafeSliceData_ #[58] 75 #[.slice (some ⟨g, 0, none⟩) l.length cap]).run Try.prog w.drew = .ok (.pointer (some ⟨g, 0, none⟩)) w.drew :=
    Lib.run_unsafeSliceData_row _ _ _ _ _ _ (by omega)
  have hUS : (Builtin.unsafeString_ #[75, 3] 9 #[.pointer (some ⟨g, 0, none⟩), .int .i64 l.length]).run Try.prog w.drew = .ok (.string ⟨l.toArray⟩) (w.drew.freeze ⟨g, 0, none⟩ l.length) := by
    refine Lib.run_unsafeString_row w.drew 75 3 9 5 Try.underlying75 hcb g cur.size (by have hg' : w.drew.heap[g]? = some (.cells cur 5 (0, 0)) := hg; simp [World.shape?, hg']) l h0 (by omega) (by unfold maxLen at hcm; omega) ?_
    intro j x hx
    exact hown'.cells (g := g) rfl j (.int .u8 x.toNat) (by simp [Lib.byteCells, hx])
  have HE := Lib.hid (Lib.below_freeze (Below.drew (Below.refl B w)) (p := ⟨g, 0, none⟩) hbg l.length)
  clear hown hown' htake hbk h hcs hg
  go_enter Try.func21, Try.ntmps21
  go_wp2
  go_region
  all_goals (go_wp2; go_ret; exact ⟨rfl, HE.out⟩)
end Go.Proofs.Ytinmdkhafamibaa
namespace Go.Proofs.Ytinmdkhafamibaa
open Go.RowKit
set_option linter.unusedVariables false
theorem hex_fig : ∀ q : Fin 16, (#[48, 49, 50, 51, 52, 53, 54, 55, 56, 57, 97, 98, 99, 100, 101, 102] : Array UInt8)[q.val]'(by simp) = figB q.val := by decide
theorem hex_hi (c : Nat) (h : c < 256) (hq : c / 16 < (⟨#[48, 49, 50, 51, 52, 53, 54, 55, 56, 57, 97, 98, 99, 100, 101, 102]⟩ : ByteArray).size) : (⟨#[48, 49, 50, 51, 52, 53, 54, 55, 56, 57, 97, 98, 99, 100, 101, 102]⟩ : ByteArray)[c / 16]'hq = figB (c / 16) := hex_fig ⟨c / 16, by omega⟩
theorem hex_lo (c : Nat) (hq : c % 16 < (⟨#[48, 49, 50, 51, 52, 53, 54, 55, 56, 57, 97, 98, 99, 100, 101, 102]⟩ : ByteArray).size) : (⟨#[48, 49, 50, 51, 52, 53, 54, 55, 56, 57, 97, 98, 99, 100, 101, 102]⟩ : ByteArray)[c % 16]'hq = figB (c % 16) := hex_fig ⟨c % 16, by omega⟩
theorem ba_append (a b : List UInt8) : (⟨a.toArray⟩ : ByteArray) ++ ⟨b.toArray⟩ = ⟨(a ++ b).toArray⟩ := by
  apply ByteArray.ext
  simp
/-- a text of these bytes -/
def bs (l : List UInt8) : ByteArray := ⟨l.toArray⟩
theorem bs_append (a b : List UInt8) : bs a ++ bs b = bs (a ++ b) := ba_append a b
theorem bs_size (l : List UInt8) : (bs l).size = l.length := by simp [bs, ByteArray.size]
theorem conv8b (w : World) (n : Int) (h0 : 0 ≤ n) (h1 : n ≤ 255) : (convert 58 9 (.slice (some ⟨w.heap.size, 0, none⟩) 1 1)).run Try.prog (w.alloc (.cells #[.int .u8 n] 5)) = .ok (.string ⟨[UInt8.ofNat n.toNat].toArray⟩) (w.alloc (.cells #[.int .u8 n] 5)) := by
  have h := run_convert_bytes_back (P := Try.prog) (w.alloc (.cells #[.int .u8 n] 5)) 58 9 5 ⟨w.heap.size, 0, none⟩ 1 [UInt8.ofNat n.toNat] Try.underlying58 Try.underlying5 Try.underlying9 (fun j hj => by
    obtain rfl : j = 0 := by simpa using hj
    rw [add_plain]
    have e : ((UInt8.ofNat n.toNat).toNat : Int) = n := by
      rw [UInt8.toNat_ofNat']
      omega
    show _ = some (Value.int .u8 ((UInt8.ofNat n.toNat).toNat : Int))
    rw [e]
    exact cell_at (alloc_at w _) rfl)
  exact h
theorem refByte8 (n : Int) (w : World) (h0 : 0 ≤ n) (h1 : n ≤ 255) : Calls Try.prog 38 #[.int .i64 n] w fun e w' => e = .returned (.string (bs [UInt8.ofNat n.toNat])) ∧ Below w.heap.size w w' := by
  have hcv := conv8b w n h0 h1
  go_enter Try.func38, Try.ntmps38
  go_wp2
  go_ret
  exact ⟨rfl, (Below.refl _ _).alloc (Nat.le_refl _) _⟩
theorem figure_any (n : Nat) (hn : n < 16) (w : World) : Calls Try.prog 30 #[.int .i64 (n : Nat)] w fun e w' => e = .returned (.string (bs [figB n])) ∧ Below w.heap.size w w' := by
  by_cases h : n < 10
  · have t : decide ((n : Int) < 10) = true := by simp; omega
    have t' : decide (n < 10) = true := by simpa using h
    have HB := Lib.hid (fun wx => refByte8 (48 + (n : Int)) wx (by omega) (by omega))
    rw [show UInt8.ofNat (48 + (n : Int)).toNat = figB n by unfold figB figN; rw [if_pos h]; congr 1] at HB
    clear h
    go_enter Try.func30, Try.ntmps30
    go_wp2_with (go_at_call 38; refine (HB.out _).mono ?_; rintro e w1 ⟨rfl, hb1⟩)
    go_ret
    exact ⟨rfl, hb1⟩
  · have t : decide ((n : Int) < 10) = false := by simp; omega
    have t' : decide (n < 10) = false := by simpa using h
    have HB := Lib.hid (fun wx => refByte8 (97 + (n : Int) - 10) wx (by omega) (by omega))
    rw [show UInt8.ofNat (97 + (n : Int) - 10).toNat = figB n by unfold figB figN; rw [if_neg h]; congr 1; omega] at HB
    clear h
    go_enter Try.func30, Try.ntmps30
    go_wp2_with (go_at_call 38; refine (HB.out _).mono ?_; rintro e w1 ⟨rfl, hb1⟩)
    go_ret
    exact ⟨rfl, hb1⟩
theorem hex_any (c : Nat) (hc : c < 256) (w : World) : Calls Try.prog 22 #[.int .u8 (c : Nat)] w fun e w' => e = .returned (.string (bs [figB (c / 16), figB (c % 16)])) ∧ Below w.heap.size w w' := by
  have HF1 := Lib.hid (fun wx => figure_any (c / 16) (by omega) wx)
  have HF2 := Lib.hid (fun wx => figure_any (c % 16) (by omega) wx)
  have HA := Lib.hid (bs_append [figB (c / 16)] [figB (c % 16)])
  have hsz := bs_size
  go_enter Try.func22, Try.ntmps22
  go_wp2_with (first
    | (go_at_call 30; refine (HF1.out _).mono ?_; rintro e w1 ⟨rfl, hb1⟩; clear HF1)
    | (go_at_call 30; refine (HF2.out _).mono ?_; rintro e w2 ⟨rfl, hb2⟩))
  go_ret
  exact ⟨congrArg (fun x => Ending.returned (Value.string x)) HA.out, below_step8' hb1 hb2⟩
end Go.Proofs.Ytinmdkhafamibaa
