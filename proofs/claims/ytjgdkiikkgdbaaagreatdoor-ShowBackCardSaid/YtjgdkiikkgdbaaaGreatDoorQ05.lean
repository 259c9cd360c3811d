/- Trees that come in: how deep, how great; Deep, Size and Great, of the code and of the reference. -/
import Derived.OwnWalk
import Derived.LoopN
import Derived.Lib.FrozenHead
import Derived.Test.YtjgdkiikkgdbaaaGreatDoorQ03
import Derived.Test.YtjgdkiikkgdbaaaGreatDoorQ04
namespace Go.Proofs.YtjgdkiikkgdbaaaGreatDoor
open Go.RowKit
set_option linter.unusedVariables false
def maxTo (f : Nat → Nat) : Nat → Nat | 0 => 0 | n + 1 => max (maxTo f n) (f n)
def anyTo (f : Nat → Bool) : Nat → Bool | 0 => false | n + 1 => anyTo f n || f n
theorem maxTo_le {f : Nat → Nat} {m : Nat} : ∀ n, (∀ i, i < n → f i ≤ m) → maxTo f n ≤ m
  | 0, _ => Nat.zero_le _
  | n + 1, h => by have := maxTo_le n (fun i hi => h i (by omega)); have := h n (by omega); rw [maxTo]; omega
theorem anyTo_iff {f : Nat → Bool} : ∀ n, anyTo f n = true ↔ ∃ i, i < n ∧ f i = true
  | 0 => by simp [anyTo]
  | n + 1 => by
    rw [anyTo, Bool.or_eq_true, anyTo_iff n]
    constructor
    · rintro (⟨i, hi, h⟩ | h)
      · exact ⟨i, by omega, h⟩
      · exact ⟨n, by omega, h⟩
    · rintro ⟨i, hi, h⟩
      rcases Nat.lt_succ_iff_lt_or_eq.1 hi with h' | rfl
      · exact .inl ⟨i, h', h⟩
      · exact .inr h
theorem anyTo_false {f : Nat → Bool} {n : Nat} (h : anyTo f n = false) (i : Nat) (hi : i < n) : f i = false := by
  cases hx : f i with
  | false => rfl
  | true => rw [(anyTo_iff n).2 ⟨i, hi, hx⟩] at h; cases h
/-- how deep -/
def deepX : XT → Nat
  | .nil => 1
  | .node _ _ _ _ _ _ _ m _ f => 1 + maxTo (fun i => deepX (f i)) m
/-- a sum of numbers that wrap round -/
def sumW (a : Int) (f : Nat → Int) : Nat → Int | 0 => a | n + 1 => wrap64 (sumW a f n + f n)
/-- how great -/
def sizeX : XT → Int
  | .nil => 1
  | .node _ _ _ n _ _ _ m _ f => sumW (1 + (n : Int)) (fun i => sizeX (f i)) m
theorem sizeX_eq (T : XT) : sizeX T = sumW (1 + (T.an : Int)) (fun i => sizeX (T.kid i)) T.kn := by cases T <;> rfl
/-- texts' bytes, up to a bound -/
def minA (f : Nat → Nat) : Nat → Nat | 0 => 0 | n + 1 => min (minA f n + f n) 100000
theorem minA_le (f : Nat → Nat) : ∀ n, minA f n ≤ 100000
  | 0 => Nat.zero_le _
  | n + 1 => Nat.min_le_right _ _
def minK (a : Int) (f : Nat → Int) : Nat → Int | 0 => a | n + 1 => min (wrap64 (minK a f n + f n)) 100000
/-- too great, or too deep, to be asked -/
def greatX : XT → Nat → Bool
  | .nil, d => decide (40 < d)
  | .node _ _ _ n _ g _ m _ f, d => decide (40 < d) || decide (100 < m) || decide (100 < n) || anyTo (fun i => greatX (f i) (d + 1)) m || decide ((3000 : Int) < minK (minA (fun i => (g i).text.size) n : Nat) (fun i => sizeX (f i)) m)
theorem greatX_eq (T : XT) (d : Nat) : greatX T d = (decide (40 < d) || decide (100 < T.kn) || decide (100 < T.an) || anyTo (fun i => greatX (T.kid i) (d + 1)) T.kn || decide ((3000 : Int) < minK (minA (fun i => (T.arg i).text.size) T.an : Nat) (fun i => sizeX (T.kid i)) T.kn)) := by
  cases T with
  | nil => simp [greatX, XT.kn, XT.an, anyTo, minK, minA]
  | node => rfl
/-- an operand's text fits into memory, its number into 64 bits -/
def OpX (o : Opd) : Prop := o.text.size ≤ 140737488351232 ∧ 0 ≤ o.num ∧ o.num < 18446744073709551616
/-- its texts fit into memory, its numbers into 64 bits -/
def XTx : XT → Prop
  | .nil => True
  | .node _ _ _ n _ g _ m _ f => (∀ i, i < n → OpX (g i)) ∧ ∀ i, i < m → XTx (f i)
theorem xtx_iff (T : XT) : XTx T ↔ (∀ i, i < T.an → OpX (T.arg i)) ∧ ∀ i, i < T.kn → XTx (T.kid i) := by
  cases T with
  | nil => exact ⟨fun _ => ⟨fun i hi => absurd hi (Nat.not_lt_zero i), fun i hi => absurd hi (Nat.not_lt_zero i)⟩, fun _ => trivial⟩
  | node => exact Iff.rfl
theorem kid_at {w : World} {S : Nat → Prop} {T : XT} (H : XAt w S T) {wx : World} (hb : Below w.heap.size w wx) {i : Nat} (hi : i < T.kn) : CellsAt wx S T.ka i (xtC (T.kid i)) ∧ XAt wx S (T.kid i) := by
  have h := ((xat_iff T).1 H).2.2 i hi
  exact ⟨h.1.next hb, h.2.next hb⟩
end Go.Proofs.YtjgdkiikkgdbaaaGreatDoor
/- A tree that comes in, read. -/
namespace Go.Proofs.YtjgdkiikkgdbaaaGreatDoor
open Go.ChangeShapes Go.WideShapes Go.ChangeAt Go.RowKit
set_option linter.unusedVariables false
section
variable {H : Type} {enc : TypeId × Value → H} {P : Program} {w : World}
/-- a reading of at most this depth -/
def RdgF (enc : TypeId × Value → H) (P : Program) (w : World) (fuel : Nat) (t : TypeId) (cs : List Value) : Prop :=
  ∃ (d : DataW H) (p : List MemPlace), DataW.trod enc P w 0 (fun _ => true) true fuel t cs = some (d, p) ∧ ∀ n ∈ d.weights P t, n ≤ reachBytes
theorem RdgF.rdg {fuel : Nat} {t : TypeId} {cs : List Value} (h : RdgF enc P w fuel t cs) : Rdg enc P w t cs := by
  obtain ⟨d, p, h⟩ := h; exact ⟨fuel, d, p, h⟩
theorem rdgF_field {fuel : Nat} {t : TypeId} {fs : Array Field} {cs : List Value} (ht : P.underlying t = some (.struct fs)) (h : RdgF enc P w fuel t cs) (i : Nat) (ty : TypeId) (off n : Nat)
    (hf : fs[i]?.map (fun f => (f.type, f.offset)) = some (ty, off)) (hc : P.cellsOf ty = n) : ∃ m, fuel = m + 1 ∧ RdgF enc P w m ty ((cs.drop off).take n) := by
  obtain ⟨d, p, h, hw⟩ := h
  obtain ⟨xs, m, hfu, hx, _, hl, hfl⟩ := DataW.trod_struct ht h
  obtain ⟨rfl, _⟩ := Prod.mk.inj hx
  cases hq : fs[i]? with
  | none => rw [hq] at hf; cases hf
  | some f =>
    rw [hq] at hf
    simp at hf
    obtain ⟨rfl, rfl⟩ := hf
    subst hc
    have hi : i < xs.length := by
      have := (Array.getElem?_eq_some_iff.1 hq).1
      omega
    refine ⟨m, hfu, xs[i].1, xs[i].2, by rw [hfl i f hq, List.getElem?_eq_getElem hi], fun k hk => hw k ?_⟩
    simp only [DataW.weights, ht]
    refine DataW.weights_mem_each (j := i) (t := f.type) (d := xs[i].1) ?_ ?_ k hk
    · have := Array.getElem?_toList (xs := fs) (i := i)
      rw [List.getElem?_map, this, hq]; rfl
    · rw [List.getElem?_map, List.getElem?_eq_getElem hi]; rfl
end
section
variable {H : Type} {enc : TypeId × Value → H} {w : World}
theorem u64_wf {n : Int} (h : (Lit.int .u64 n).wf = true) : 0 ≤ n ∧ n < 18446744073709551616 := by
  obtain ⟨h0, h1⟩ := bounds_u64 h
  omega
theorem opd_of {m : Nat} {c : List Value} (hcl : c.length = 4) (hr : RdgF enc Tryz.prog w m 34 c) : ∃ o : Opd, c = opdC o ∧ OpX o := by
  obtain ⟨_, _, f0⟩ := rdgF_field Tryz.underlying34 hr 0 3 0 1 rfl (by kernel_rfl)
  obtain ⟨_, _, f1⟩ := rdgF_field Tryz.underlying34 hr 1 9 1 1 rfl (by kernel_rfl)
  obtain ⟨_, _, f2⟩ := rdgF_field Tryz.underlying34 hr 2 4 2 1 rfl (by kernel_rfl)
  obtain ⟨_, _, f3⟩ := rdgF_field Tryz.underlying34 hr 3 32 3 1 rfl (by kernel_rfl)
  obtain ⟨x0, e0, _⟩ := rdg_int Tryz.underlying3 f0.rdg
  obtain ⟨x1, e1, w1⟩ := rdg_string Tryz.underlying9 f1.rdg
  obtain ⟨x2, e2⟩ := rdg_bool Tryz.underlying4 f2.rdg
  obtain ⟨x3, e3, w3⟩ := rdg_int Tryz.underlying32 f3.rdg
  have hb3 := u64_wf w3
  match c, hcl with
  | [c0, c1, c2, c3], _ =>
    simp at e0 e1 e2 e3
    subst e0 e1 e2 e3
    exact ⟨⟨x0, x1, x2, x3⟩, rfl, w1, hb3.1, hb3.2⟩
end
end Go.Proofs.YtjgdkiikkgdbaaaGreatDoor
/- The printer's Builder: how long its text is, and its text, more than once. -/
namespace Go.Proofs.YtjgdkiikkgdbaaaGreatDoor
open Go.RowKit
set_option linter.unusedVariables false
theorem liesPrinter : LiesB 48 := ⟨by kernel_rfl, by decide⟩
set_option maxHeartbeats 2000000 in
theorem len16 (T : TypeId) (B b : Nat) (l : List UInt8) (w : World) (h : TxtAt T B b l w) :
    Calls Tryz.prog 53 #[.pointer (some ⟨b, 0, none⟩)] w fun e w' => e = .returned (.int .i64 (l.length : Nat)) ∧ w' = w := by
  obtain ⟨p, hB, v, hbk, hown, hne⟩ : ∃ p, Lib.BuilderAt T 5 B b p (Lib.byteCells l) w := by
    rcases h with h | h
    · exact ⟨_, h⟩
    · exact ⟨_, h⟩
  rw [Lib.byteCells_length] at hown
  obtain ⟨ao, cap, rfl⟩ := own_slice8 hown
  have c1 : w.cell? ⟨b, 1, none⟩ = some (.slice ao l.length cap) := cell_at (j := 1) hbk rfl
  clear hown hbk h
  go_enter Tryz.func53, Tryz.ntmps53
  go_wp2
  go_ret
  exact ⟨rfl, rfl⟩
/-- the text that a Builder holds, whether it has been told before or not -/
def TxtF (T : TypeId) (B b : Nat) (l : List UInt8) (w : World) : Prop := ∃ p, Lib.BuilderAtF T 5 B b p (Lib.byteCells l) w
theorem TxtAt.toF {T : TypeId} {B b : Nat} {l : List UInt8} {w : World} (h : TxtAt T B b l w) : TxtF T B b l w := h.elim (fun h => ⟨_, .of h⟩) (fun h => ⟨_, .of h⟩)
theorem TxtF.next {T : TypeId} {B b : Nat} {l : List UInt8} {w w' : World} (h : TxtF T B b l w) (hb : Below w.heap.size w w') : TxtF T B b l w' := by
  obtain ⟨p, hB, v, hbk, hown, hne⟩ := h
  refine ⟨p, hB, v, rowKeep hb hbk, ⟨hown.1, ?_⟩, hne⟩
  rcases hown.2 with h1 | ⟨g, cap, cur, fz, h1, h2, h3, rest⟩
  · exact .inl h1
  · exact .inr ⟨g, cap, cur, fz, h1, h2, rowKeep hb h3, rest⟩
set_option maxHeartbeats 2000000 in
theorem stringF (T : TypeId) (B b : Nat) (l : List UInt8) (w : World) (h : TxtF T B b l w) (h0 : l ≠ []) :
    Calls Tryz.prog 17 #[.pointer (some ⟨b, 0, none⟩)] w fun e w' => e = .returned (.string (bs l)) ∧ Below B w w' ∧ TxtF T B b l w' := by
  obtain ⟨p, hp⟩ := h
  have hp2 : Lib.BuilderAtF T 5 B b p (Lib.byteCells l) w.drew := hp
  obtain ⟨hB, v, hbk, hown, hne⟩ := hp
  have hl0 : l.length ≠ 0 := by simpa using h0
  have hown' := hown
  rw [Lib.byteCells_length] at hown
  rcases hown.2 with ⟨_, hz⟩ | ⟨g, cap, cur, fz, rfl, hbg, hg, hfz, hnc, hcm, hcs, htake⟩
  · exact absurd hz hl0
  have hcb : Tryz.prog.cellsOf 5 = 1 := by kernel_rfl
  have c1 : w.cell? ⟨b, 1, none⟩ = some (.slice (some ⟨g, 0, none⟩) l.length cap) := cell_at (j := 1) hbk rfl
  have c2 : w.drew.cell? ⟨b, 1, none⟩ = some (.slice (some ⟨g, 0, none⟩) l.length cap) := c1
  have hSD : (Builtin.unsafeSliceData_ #[44] 76 #[.slice (some ⟨g, 0, none⟩) l.length cap]).run Tryz.prog w.drew = .ok (.pointer (some ⟨g, 0, none⟩)) w.drew :=
    Lib.run_unsafeSliceData_row _ _ _ _ _ _ (by omega)
  have hUS : (Builtin.unsafeString_ #[76, 3] 9 #[.pointer (some ⟨g, 0, none⟩), .int .i64 l.length]).run Tryz.prog w.drew = .ok (.string ⟨l.toArray⟩) (w.drew.freeze ⟨g, 0, none⟩ l.length) := by
    refine Lib.run_unsafeString_row w.drew 76 3 9 5 Tryz.underlying76 hcb g cur.size (by have hg' : w.drew.heap[g]? = some (.cells cur 5 fz) := hg; simp [World.shape?, hg']) l h0 (by omega) (by unfold maxLen at hcm; omega) ?_
    intro j x hx
    exact hown'.cells (g := g) rfl j (.int .u8 x.toNat) (by simp [Lib.byteCells, hx])
  have HE := Lib.hid (Lib.below_freeze (Below.drew (Below.refl B w)) (p := ⟨g, 0, none⟩) hbg l.length)
  have hfr := hp2.froze (g := g) (cap := cap) (by rw [Lib.byteCells_length]; exact c2)
  rw [Lib.byteCells_length] at hfr
  have HF := Lib.hid hfr
  clear hown hown' htake hbk hp2 hfr hcs hg
  go_enter Tryz.func17, Tryz.ntmps17
  go_wp2
  go_region
  all_goals (go_wp2; go_ret; exact ⟨rfl, HE.out, ⟨_, HF.out⟩⟩)
end Go.Proofs.YtjgdkiikkgdbaaaGreatDoor
/- With how many bytes of a token of each kind a text begins: the code's five leads. -/
namespace Go.Proofs.YtjgdkiikkgdbaaaGreatDoor
open Go.RowKit
set_option linter.unusedVariables false
theorem bs_get (l : List UInt8) (i : Nat) (h : i < (bs l).size) (h' : i < l.length) : (bs l)[i]'h = l[i]'h' := by
  show (bs l).data[i]'h = l[i]
  simp [bs]
theorem extract_bs (l : List UInt8) (i j : Nat) : (bs l).extract i j = bs ((l.take j).drop i) := by
  apply ByteArray.ext
  rw [ByteArray.data_extract]
  simp [bs, List.drop_take]
theorem sl_from (l : List UInt8) (j : Nat) (hj : j ≤ l.length) (wx : World) : (Instr.slice 9 (.string (bs l)) (some (.int .i64 (j : Nat))) none none).run Tryz.prog wx = .ok (.string (bs (l.drop j))) wx := by
  have h := run_slice_string_l (P := Tryz.prog) wx 9 (bs l) Tryz.underlying9 .i64 (j : Nat) (by omega) (by rw [bs_size]; omega)
  rw [h]
  show Result.ok (Value.string ((bs l).extract j (bs l).size)) wx = _
  rw [extract_bs, bs_size, List.take_length]
theorem sl_to (l : List UInt8) (j : Nat) (hj : j ≤ l.length) (wx : World) : (Instr.slice 9 (.string (bs l)) none (some (.int .i64 (j : Nat))) none).run Tryz.prog wx = .ok (.string (bs (l.take j))) wx := by
  have h := run_slice_string_h (P := Tryz.prog) wx 9 (bs l) Tryz.underlying9 .i64 (j : Nat) (by omega) (by rw [bs_size]; omega)
  rw [h]
  show Result.ok (Value.string ((bs l).extract 0 j)) wx = _
  rw [extract_bs, List.drop_zero]
theorem sl_mid (l : List UInt8) (i j : Nat) (h1 : i ≤ j) (h2 : j ≤ l.length) (wx : World) : (Instr.slice 9 (.string (bs l)) (some (.int .i64 (i : Nat))) (some (.int .i64 (j : Nat))) none).run Tryz.prog wx = .ok (.string (bs ((l.drop i).take (j - i)))) wx := by
  have h := run_slice_string (P := Tryz.prog) wx 9 (bs l) .i64 .i64 (i : Nat) (j : Nat) Tryz.underlying9 (by omega) (by omega) (by rw [bs_size]; omega)
  rw [h]
  show Result.ok (Value.string ((bs l).extract i j)) wx = _
  rw [extract_bs, List.drop_take]
theorem list_ne (a b : List UInt8) (h : a ≠ b) : (a == b) = false := beq_eq_false_iff_ne.2 h
/-- name.Lead -/
theorem leadWord_any (l : List UInt8) (hl : l.length ≤ 1000) (w : World) : Calls Tryz.prog 85 #[.string (bs l)] w fun e w' => e = .returned (.int .i64 (wl l : Nat)) ∧ Below w.heap.size w w' := by
  have h := lead_any (bs l) (by rw [bs_size]; omega) w
  rwa [leadN_eq, bs_toList] at h
theorem runBlanks (l : List UInt8) (hl : l.length ≤ 1000) (w : World) : Calls Tryz.prog 45 #[.string (bs l), .string ⟨#[32, 9, 10, 13]⟩] w fun e w' => e = .returned (.int .i64 ((l.takeWhile blk).length : Nat)) ∧ Below w.heap.size w w' := by
  have h := run_any (bs l) ⟨#[32, 9, 10, 13]⟩ blk blk_set (by rw [bs_size]; omega) (by decide) (fun j b h => by
    have : b ∈ ([32, 9, 10, 13] : List UInt8) := List.mem_of_getElem? h
    revert this
    simp; rintro (rfl | rfl | rfl | rfl) <;> decide) w
  rwa [bs_toList] at h
theorem runDigits (l : List UInt8) (hl : l.length ≤ 1000) (w : World) : Calls Tryz.prog 45 #[.string (bs l), .string ⟨#[48, 49, 50, 51, 52, 53, 54, 55, 56, 57]⟩] w fun e w' => e = .returned (.int .i64 (nl l : Nat)) ∧ Below w.heap.size w w' := by
  have h := run_any (bs l) ⟨#[48, 49, 50, 51, 52, 53, 54, 55, 56, 57]⟩ dig dig_set (by rw [bs_size]; omega) (by decide) (fun j b h => by
    have : b ∈ ([48, 49, 50, 51, 52, 53, 54, 55, 56, 57] : List UInt8) := List.mem_of_getElem? h
    revert this
    simp; rintro (rfl | rfl | rfl | rfl | rfl | rfl | rfl | rfl | rfl | rfl) <;> decide) w
  rwa [bs_toList] at h
set_option maxRecDepth 100000 in
theorem leadNumber_any (l : List UInt8) (hl : l.length ≤ 1000) (w : World) : Calls Tryz.prog 99 #[.string (bs l)] w fun e w' => e = .returned (.int .i64 (nl l : Nat)) ∧ Below w.heap.size w w' := by
  have HR := Lib.hid (runDigits l hl)
  go_enter Tryz.func99, Tryz.ntmps99
  go_wp2_with (go_at_call 45; refine (HR.out _).mono ?_; rintro e w1 ⟨rfl, hb⟩)
  go_ret
  exact ⟨rfl, hb⟩
set_option maxRecDepth 100000 in
theorem leadParam_any (c : UInt8) (r : List UInt8) (hl : (c :: r).length ≤ 1000) (w : World) : Calls Tryz.prog 103 #[.string (bs (c :: r))] w fun e w' => e = .returned (.int .i64 (pl (c :: r) : Nat)) ∧ Below w.heap.size w w' := by
  have hl' : r.length ≤ 999 := by simpa using hl
  have HR := Lib.hid (runDigits r (by omega))
  have hsl : ∀ wx, (Instr.slice 9 (.string (bs (c :: r))) (some (.int .i64 1)) none none).run Tryz.prog wx = .ok (.string (bs r)) wx := fun wx => sl_from (c :: r) 1 (by simp) wx
  have hsz : (bs (c :: r)).size = r.length + 1 := by rw [bs_size]; rfl
  have h0 : 0 < (bs (c :: r)).size := by omega
  have hg : (bs (c :: r))[0]'h0 = c := bs_get _ 0 h0 (by simp)
  have hp : pl (c :: r) = if c.toNat = 37 ∧ 0 < nl r then 2 else 0 := by
    have e : (c.toNat = 37) ↔ (c = 37) := ⟨fun h => UInt8.toNat_inj.1 h, fun h => by rw [h]; rfl⟩
    simp only [e]
    unfold pl nl
    cases r with
    | nil => simp
    | cons d q =>
      cases hd : dig d with
      | true => rw [List.takeWhile_cons_of_pos hd]; simp [hd]
      | false => rw [List.takeWhile_cons_of_neg (by simp [hd])]; simp [hd]
  rw [hp]
  have hc : c.toNat < 256 := UInt8.toNat_lt c
  generalize hb : bs (c :: r) = s at *
  obtain ⟨m, hm⟩ : ∃ m, nl r = m := ⟨_, rfl⟩
  rw [hm] at HR ⊢
  by_cases h37 : (c.toNat : Int) = 37
  · have h37' : c.toNat = 37 := by omega
    by_cases hm0 : (0 : Int) < (m : Int)
    · rw [if_pos ⟨h37', by omega⟩]
      clear hp h37' hm
      go_enter Tryz.func103, Tryz.ntmps103
      go_wp2_with (go_at_call 45; refine (HR.out _).mono ?_; rintro e w1 ⟨rfl, hb⟩)
      go_ret
      exact ⟨rfl, hb⟩
    · rw [if_neg (fun h => hm0 (by omega))]
      clear hp h37' hm
      go_enter Tryz.func103, Tryz.ntmps103
      go_wp2_with (go_at_call 45; refine (HR.out _).mono ?_; rintro e w1 ⟨rfl, hb⟩)
      go_ret
      exact ⟨rfl, hb⟩
  · rw [if_neg (fun h => h37 (by omega))]
    have h37b : ((c.toNat : Int) == 37) = false := beq_eq_false_iff_ne.2 h37
    clear hp hm
    go_enter Tryz.func103, Tryz.ntmps103
    go_wp2_with (fail)
    go_ret
    exact ⟨rfl, Below.refl _ _⟩
/-- where a text in quotes ends, looked at from a place on -/
def qEnd (l : List UInt8) (j : Nat) : Nat := match ql (l.drop j) with
  | some k => j + k
  | none => l.length
theorem qEnd_none (l : List UInt8) (j : Nat) (h : l.length ≤ j) : qEnd l j = l.length := by
  unfold qEnd
  rw [List.drop_eq_nil_of_le h]
  rfl
theorem drop_at (l : List UInt8) (j : Nat) (h : j < l.length) : l.drop j = l[j] :: l.drop (j + 1) := List.drop_eq_getElem_cons h
theorem qEnd_two (l : List UInt8) (j : Nat) (h : Lib.hasPrefix (l.drop j) [39, 39] = true) : qEnd l j = qEnd l (j + 2) ∧ j + 2 ≤ l.length := by
  unfold Lib.hasPrefix at h
  obtain ⟨r, hr⟩ := List.isPrefixOf_iff_prefix.1 h
  have h2 : l.drop (j + 2) = r := by rw [← List.drop_drop, ← hr]; rfl
  have hlen : (l.drop j).length = 2 + r.length := by rw [← hr]; simp; omega
  rw [List.length_drop] at hlen
  refine ⟨?_, by omega⟩
  unfold qEnd
  rw [h2, ← hr]
  show (match (if (39 : UInt8) = 39 then (if (39 : UInt8) = 39 then (ql r).map (· + 2) else some 1) else (ql (39 :: r)).map (· + 1)) with | some k => j + k | none => l.length) = _
  rw [if_pos rfl, if_pos rfl]
  cases ql r with
  | none => rfl
  | some k => show j + (k + 2) = j + 2 + k; omega
theorem qEnd_stop (l : List UInt8) (j : Nat) (hj : j < l.length) (h : Lib.hasPrefix (l.drop j) [39, 39] = false) (h1 : l[j] = 39) : qEnd l j = j + 1 := by
  unfold qEnd
  rw [drop_at l j hj, h1] at h
  rw [drop_at l j hj, h1]
  cases hr : l.drop (j + 1) with
  | nil => rfl
  | cons d r =>
    rw [hr] at h
    have hd : ¬ d = 39 := by
      rintro rfl
      simp [Lib.hasPrefix, List.isPrefixOf] at h
    show (match (if (39 : UInt8) = 39 then (if d = 39 then (ql r).map (· + 2) else some 1) else (ql (d :: r)).map (· + 1)) with | some k => j + k | none => l.length) = _
    rw [if_pos rfl, if_neg hd]
theorem ql_step (c : UInt8) (r : List UInt8) (h : ¬ c = 39) : ql (c :: r) = (ql r).map (· + 1) := by
  cases r with
  | nil => simp [ql, h]
  | cons d q => rw [ql, if_neg h]
theorem qEnd_next (l : List UInt8) (j : Nat) (hj : j < l.length) (h1 : ¬ l[j] = 39) : qEnd l j = qEnd l (j + 1) := by
  unfold qEnd
  rw [drop_at l j hj, ql_step _ _ h1]
  cases ql (l.drop (j + 1)) with
  | none => rfl
  | some k => show j + (k + 1) = j + 1 + k; omega
set_option maxRecDepth 100000 in
set_option maxHeartbeats 2000000 in
theorem leadText_any (c : UInt8) (r : List UInt8) (hl : (c :: r).length ≤ 1000) (w : World) : Calls Tryz.prog 101 #[.string (bs (c :: r))] w fun e w' => e = .returned (.int .i64 (tl (c :: r) : Nat)) ∧ w = w' := by
  have hE : tl (c :: r) = if c = 39 then qEnd (c :: r) 1 else 0 := by
    show (if c = 39 then (match ql r with | some k => k + 1 | none => r.length + 1) else 0) = if c = 39 then (match ql r with | some k => 1 + k | none => r.length + 1) else 0
    cases ql r with
    | none => rfl
    | some k =>
      show (if c = 39 then k + 1 else 0) = if c = 39 then 1 + k else 0
      rw [Nat.add_comm]
  have hs1 : ∀ wx, (Instr.slice 9 (.string (bs (c :: r))) none (some (.int .i64 1)) none).run Tryz.prog wx = .ok (.string (bs [c])) wx := fun wx => sl_to (c :: r) 1 (by simp) wx
  have HSF := Lib.hid (sl_from (c :: r))
  have HSM := Lib.hid (sl_mid (c :: r))
  have h1le : 1 ≤ (c :: r).length := by simp
  obtain ⟨l, hl0⟩ : ∃ l, c :: r = l := ⟨_, rfl⟩
  rw [hl0] at hl hE hs1 HSF HSM h1le ⊢
  rw [hE]
  have hsz : (bs l).size = l.length := bs_size l
  have HG := Lib.hid (bs_get l)
  have HT := Lib.hid (qEnd_two l)
  have HST := Lib.hid (qEnd_stop l)
  have HN := Lib.hid (qEnd_next l)
  have HNO := Lib.hid (qEnd_none l)
  obtain ⟨s, hs⟩ : ∃ s, bs l = s := ⟨_, rfl⟩
  rw [hs] at hs1 HSF HSM hsz ⊢
  have hml : s.size ≤ maxLen := by show s.size ≤ 9223372036854775807; omega
  clear hl0 hE
  by_cases hc : c = 39
  · subst hc
    rw [if_pos rfl]
    have hq : ((bs [39]).toList == [39]) = true := by rw [ByteArray.toList_eq, bs_toList]; rfl
    generalize hb1 : bs [39] = b1 at hs1 hq
    clear hb1
    go_enter Tryz.func101, Tryz.ntmps101
    go_wp2_with (fail)
    go_loopw [3] (fun i wr => ∃ j : Nat, j ≤ l.length ∧ i = .int .i64 j ∧ Hid (qEnd l j = qEnd l 1) ∧ wr = w) (fun i _ => l.length - (intOf i).toNat)
    case atStart => exact ⟨1, h1le, rfl, Lib.hid rfl, rfl⟩
    case round =>
      obtain ⟨j, hj, rfl, HQ, rfl⟩ := hrel
      by_cases hlt : j < l.length
      · have hsj : ∀ wx, (Instr.slice 9 (.string s) (some (.int .i64 (j : Int))) none none).run Tryz.prog wx = .ok (.string (bs (l.drop j))) wx := fun wx => HSF.out j (by omega) wx
        have hst : ∀ wx, (Instr.slice 9 (.string s) (some (.int .i64 (j : Int))) (some (.int .i64 ((j : Int) + 1))) none).run Tryz.prog wx = .ok (.string (bs [l[j]])) wx := fun wx => by
          have h := HSM.out j (j + 1) (by omega) (by omega) wx
          rw [drop_at l j hlt, Nat.add_sub_cancel_left] at h
          exact h
        have hP := fun wx => Tryz.strings_HasPrefix (bs (l.drop j)) ⟨#[39, 39]⟩ wx
        rw [bs_toList] at hP
        have hP : ∀ wx, Calls Tryz.prog 81 #[.string (bs (l.drop j)), .string ⟨#[39, 39]⟩] wx fun e w' => e = .returned (.bool (Lib.hasPrefix (l.drop j) [39, 39])) ∧ w' = wx := hP
        have ht := HT.out j
        have hstop := HST.out j hlt
        obtain ⟨pb, hpb⟩ : ∃ pb, Lib.hasPrefix (l.drop j) [39, 39] = pb := ⟨_, rfl⟩
        rw [hpb] at hP ht hstop
        obtain ⟨X, hX⟩ : ∃ X, bs (l.drop j) = X := ⟨_, rfl⟩
        rw [hX] at hP hsj
        clear hX hpb
        have HP := Lib.hid hP
        clear hP
        cases pb with
        | true =>
          obtain ⟨e1, e2⟩ := ht rfl
          have HE := Lib.hid (e1.symm.trans HQ.out)
          clear ht hstop e1 hst
          go_wp2_with (go_at_call 81; refine (HP.out _).mono ?_; rintro e w1 ⟨rfl, rfl⟩)
          go_roundw
          case rel => exact ⟨j + 2, by omega, by go_num, HE, by first | rfl | trivial⟩
          case measure => simp [intOf]; omega
        | false =>
          by_cases h39 : l[j] = 39
          · have HE := Lib.hid ((hstop rfl h39).symm.trans HQ.out)
            rw [h39] at hst
            have hq2 : ((bs [39]).toList == [39]) = true := by rw [ByteArray.toList_eq, bs_toList]; rfl
            generalize hb2 : bs [39] = b2 at hst hq2
            clear hb2 ht hstop h39
            go_wp2_with (go_at_call 81; refine (HP.out _).mono ?_; rintro e w1 ⟨rfl, rfl⟩)
            go_ret
            exact ⟨by rw [← HE.out]; go_num, rfl⟩
          · have HE := Lib.hid ((HN.out j hlt h39).symm.trans HQ.out)
            have hq2 : ((bs [l[j]]).toList == [39]) = false := by
              rw [ByteArray.toList_eq, bs_toList]
              exact list_ne _ _ (fun h => h39 (by injection h))
            generalize hb2 : bs [l[j]] = b2 at hst hq2
            clear hb2 ht hstop h39
            go_wp2_with (go_at_call 81; refine (HP.out _).mono ?_; rintro e w1 ⟨rfl, rfl⟩)
            go_roundw
            case rel => exact ⟨j + 1, by omega, by go_num, HE, by first | rfl | trivial⟩
            case measure => simp [intOf]; omega
      · have HE := Lib.hid ((HNO.out j (by omega)).symm.trans HQ.out)
        go_wp2_with (fail)
        go_ret
        exact ⟨by rw [← HE.out]; rfl, rfl⟩
  · rw [if_neg hc]
    have hq : (!((bs [c]).toList == [39])) = true := by
      rw [ByteArray.toList_eq, bs_toList, list_ne _ _ (fun h => hc (by injection h))]; rfl
    have hq2 : ((bs [c]).toList == [39]) = false := by
      rw [ByteArray.toList_eq, bs_toList, list_ne _ _ (fun h => hc (by injection h))]
    generalize hb1 : bs [c] = b1 at hs1 hq hq2
    clear hb1 hc
    go_enter Tryz.func101, Tryz.ntmps101
    go_wp2_with (fail)
    go_ret
    exact ⟨rfl, rfl⟩
theorem find_at {α : Type} (p : α → Bool) : ∀ (L : List α) (j : Nat) (hj : j < L.length), (∀ i (hi : i < j), p (L[i]'(by omega)) = false) → p L[j] = true → L.find? p = some L[j]
  | a :: r, 0, hj, h, hp => List.find?_cons_of_pos hp
  | a :: r, j + 1, hj, h, hp => by
    rw [List.find?_cons_of_neg (by have := h 0 (by omega); simpa using this)]
    exact find_at p r j (by simpa using hj) (fun i hi => h (i + 1) (by omega)) hp
theorem find_no {α : Type} (p : α → Bool) (L : List α) (h : ∀ i (hi : i < L.length), p L[i] = false) : L.find? p = none := by
  rw [List.find?_eq_none]
  intro x hx
  obtain ⟨i, hi, rfl⟩ := List.getElem_of_mem hx
  rw [h i hi]; decide
def signAt (i : Nat) : List UInt8 := signs.getD i []
theorem signAt_get (i : Nat) (h : i < signs.length) : signs[i] = signAt i := by
  unfold signAt; rw [List.getD_eq_getElem?_getD, List.getElem?_eq_getElem h]; rfl
theorem sl_hit (l : List UInt8) (j : Nat) (hj : j < 12) (h : ∀ i, i < j → Lib.hasPrefix l (signAt i) = false) (hp : Lib.hasPrefix l (signAt j) = true) : sl l = (signAt j).length := by
  have h2 := find_at (fun x => x.isPrefixOf l) signs j hj (fun i hi => by rw [signAt_get i (Nat.lt_trans hi hj)]; exact h i hi) (by rw [signAt_get j hj]; exact hp)
  unfold sl
  rw [h2, signAt_get j hj]
theorem sl_miss (l : List UInt8) (h : ∀ i, i < 12 → Lib.hasPrefix l (signAt i) = false) : sl l = 0 := by
  have h2 := find_no (fun x => x.isPrefixOf l) signs (fun i hi => by rw [signAt_get i hi]; exact h i hi)
  unfold sl
  rw [h2]
def signsObj : Obj := .cells #[.string ⟨#[60, 62]⟩, .string ⟨#[60, 61]⟩, .string ⟨#[62, 61]⟩, .string ⟨#[61]⟩, .string ⟨#[60]⟩, .string ⟨#[62]⟩, .string ⟨#[40]⟩, .string ⟨#[41]⟩, .string ⟨#[46]⟩, .string ⟨#[91]⟩, .string ⟨#[93]⟩, .string ⟨#[45]⟩] 9
theorem sign_cell (w : World) : ∀ i, i < 12 → (w.alloc signsObj).cell? ⟨w.heap.size, i, none⟩ = some (.string (bs (signAt i))) := by
  intro i hi
  have h := alloc_at w signsObj
  match i, hi with
  | 0, _ => exact cell_at h rfl
  | 1, _ => exact cell_at h rfl
  | 2, _ => exact cell_at h rfl
  | 3, _ => exact cell_at h rfl
  | 4, _ => exact cell_at h rfl
  | 5, _ => exact cell_at h rfl
  | 6, _ => exact cell_at h rfl
  | 7, _ => exact cell_at h rfl
  | 8, _ => exact cell_at h rfl
  | 9, _ => exact cell_at h rfl
  | 10, _ => exact cell_at h rfl
  | 11, _ => exact cell_at h rfl
theorem signAt_len : ∀ i : Nat, (signAt i).length ≤ 2 := by
  intro i
  by_cases h : i < 12
  · match i, h with
    | 0, _ => decide
    | 1, _ => decide
    | 2, _ => decide
    | 3, _ => decide
    | 4, _ => decide
    | 5, _ => decide
    | 6, _ => decide
    | 7, _ => decide
    | 8, _ => decide
    | 9, _ => decide
    | 10, _ => decide
    | 11, _ => decide
  · have : signAt i = [] := by
      unfold signAt; rw [List.getD_eq_getElem?_getD, List.getElem?_eq_none (show signs.length ≤ i from Nat.le_of_not_lt h)]; rfl
    rw [this]; decide
set_option maxRecDepth 100000 in
set_option maxHeartbeats 2000000 in
theorem leadSign_any (l : List UInt8) (hl : l.length ≤ 1000) (w : World) : Calls Tryz.prog 105 #[.string (bs l)] w fun e w' => e = .returned (.int .i64 (sl l : Nat)) ∧ Below w.heap.size w w' := by
  have HC := Lib.hid (sign_cell w)
  have HW := Lib.hid ((Below.refl w.heap.size w).alloc (Nat.le_refl _) signsObj)
  have HP := Lib.hid (fun (j : Nat) (wx : World) => show Calls Tryz.prog 81 #[.string (bs l), .string (bs (signAt j))] wx fun e w' => e = .returned (.bool (Lib.hasPrefix l (signAt j))) ∧ w' = wx by
    have h := Tryz.strings_HasPrefix (bs l) (bs (signAt j)) wx
    rwa [bs_toList, bs_toList] at h)
  have HH := Lib.hid (sl_hit l)
  have HM := Lib.hid (sl_miss l)
  have HZ := Lib.hid (fun j => show (bs (signAt j)).size = (signAt j).length ∧ (signAt j).length ≤ 2 from ⟨bs_size _, signAt_len j⟩)
  obtain ⟨s, hs⟩ : ∃ s, bs l = s := ⟨_, rfl⟩
  rw [hs] at HP ⊢
  obtain ⟨O, hO⟩ : ∃ O, signsObj = O := ⟨_, rfl⟩
  have HO := Lib.hid hO
  rw [hO] at HC HW
  clear hO
  go_enter Tryz.func105, Tryz.ntmps105
  go_wp2
  rw [show Obj.cells #[.string ⟨#[60, 62]⟩, .string ⟨#[60, 61]⟩, .string ⟨#[62, 61]⟩, .string ⟨#[61]⟩, .string ⟨#[60]⟩, .string ⟨#[62]⟩, .string ⟨#[40]⟩, .string ⟨#[41]⟩, .string ⟨#[46]⟩, .string ⟨#[91]⟩, .string ⟨#[93]⟩, .string ⟨#[45]⟩] 9 = O from HO.out]
  go_loopw [7] (fun i wr => ∃ j : Nat, j ≤ 12 ∧ i = .int .i64 j ∧ Hid (∀ i, i < j → Lib.hasPrefix l (signAt i) = false) ∧ wr = w.alloc O) (fun i _ => 12 - (intOf i).toNat)
  case atStart => exact ⟨0, Nat.zero_le _, rfl, Lib.hid (fun i hi => absurd hi (Nat.not_lt_zero _)), rfl⟩
  case round =>
    obtain ⟨j, hj, rfl, HR, hwr⟩ := hrel
    have HWR := Lib.hid hwr
    by_cases hlt : j < 12
    · have hc := HC.out j hlt
      rw [← hwr] at hc
      have hp := HP.out j
      obtain ⟨hz, hz2⟩ := HZ.out j
      clear hwr
      obtain ⟨x, hx⟩ : ∃ x, bs (signAt j) = x := ⟨_, rfl⟩
      rw [hx] at hc hp hz
      obtain ⟨m, hm⟩ : ∃ m, (signAt j).length = m := ⟨_, rfl⟩
      rw [hm] at hz hz2
      have hml : x.size ≤ maxLen := by show x.size ≤ 9223372036854775807; omega
      cases hq : Lib.hasPrefix l (signAt j) with
      | true =>
        rw [hq] at hp
        have HPX := Lib.hid hp
        have HS := Lib.hid ((HH.out j hlt HR.out hq).trans hm)
        clear hp hq hx hm
        go_wp2_with (go_at_call 81; refine (HPX.out _).mono ?_; rintro e w1 ⟨rfl, rfl⟩)
        go_ret
        exact ⟨by rw [HS.out]; rfl, by rw [HWR.out]; exact HW.out⟩
      | false =>
        rw [hq] at hp
        have HPX := Lib.hid hp
        have HN := Lib.hid (none_next HR.out hq)
        clear hp hq hx hm
        go_wp2_with (go_at_call 81; refine (HPX.out _).mono ?_; rintro e w1 ⟨rfl, rfl⟩)
        go_roundw
        case rel => exact ⟨j + 1, by omega, by go_num, HN, HWR.out⟩
        case measure => simp [intOf]; omega
    · have HS := Lib.hid (HM.out (fun i hi => HR.out i (by omega)))
      clear hwr
      go_wp2_with (fail)
      go_ret
      exact ⟨by rw [HS.out]; rfl, by rw [HWR.out]; exact HW.out⟩
end Go.Proofs.YtjgdkiikkgdbaaaGreatDoor
