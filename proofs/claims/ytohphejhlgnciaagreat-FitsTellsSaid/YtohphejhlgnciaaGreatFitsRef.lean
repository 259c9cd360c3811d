/- Contracts of chapter 9's reference: number, zero, Parts. -/
import Derived.Test.YtohphejhlgnciaaGreatFitsTop
namespace Go.Proofs.YtohphejhlgnciaaGreat
open Go.RowKit
set_option linter.unusedVariables false
theorem zeroIn_yes {s : ByteArray} {k : Nat} (hk : k < s.size) (h : (s[k]'hk).toNat = 0) : zeroIn s = true := by
  unfold zeroIn
  have hg := Lib.indexByte_ge s.data.toList 0
  refine decide_eq_true ?_
  refine Classical.byContradiction fun hn => ?_
  have h1 : Lib.indexByte s.data.toList 0 = -1 := by omega
  refine Lib.indexByte_none h1 k ?_
  have hk' : k < s.data.size := hk
  have e : s[k]'hk = s.data[k] := rfl
  rw [e] at h
  have h0 : s.data[k] = 0 := UInt8.toNat_inj.1 (by simpa using h)
  simp only [Array.getElem?_toList]
  rw [Array.getElem?_eq_getElem hk', h0]
theorem zeroIn_no {s : ByteArray} (h : ∀ k (hk : k < s.size), (s[k]'hk).toNat ≠ 0) : zeroIn s = false := by
  unfold zeroIn
  refine decide_eq_false fun hn => ?_
  obtain ⟨o, ho⟩ := Int.eq_ofNat_of_zero_le hn
  obtain ⟨h1, _⟩ := Lib.indexByte_some ho
  have hl := (List.getElem?_eq_some_iff.1 h1).1
  have hk : o < s.size := by simpa using hl
  refine h o hk ?_
  have hk' : o < s.data.size := hk
  have e : s[o]'hk = s.data[o] := rfl
  rw [Array.getElem?_toList, Array.getElem?_eq_getElem hk'] at h1
  rw [e, Option.some.inj h1]; rfl
set_option maxHeartbeats 1000000 in
theorem refNum9_any (ao : Option Addr) (len cap : Nat) (L : Nat → TypeV) (hlen : len ≤ 1000000) (t : Nat) (ht : t < len) (n : Int) (hn : (Lit.int .u64 n).wf = true) (w : World) (H : ∀ i, i < len → TypeAt w ao i (L i)) :
    Calls Tryz.prog 34 #[.slice ao len cap, .int .i64 t, .int .u64 n] w fun e w' => e = .returned (.bool (numOk L t n)) ∧ Below w.heap.size w w' := by
  have hv := refValue_any ao len cap L t n (by omega) w H
  have e1 : valueL L len (t : Nat) n = valueZ (L t) n := by unfold valueL; rw [inL_yes ht]; rfl
  rw [e1] at hv
  obtain ⟨z, hz⟩ : ∃ z, valueZ (L t) n = z := ⟨_, rfl⟩
  have HM := Lib.hid (refKMay_any (L t).kind n hn)
  obtain ⟨b, off, rfl, c0, c1, c2, c3, c4, c5, wf, hi⟩ := H t ht
  obtain ⟨k, hk⟩ : ∃ k, (L t).kind = k := ⟨_, rfl⟩
  rw [hz] at hv
  have HV := Lib.hid hv
  unfold numOk
  rw [hk, hz]
  rw [hk] at c0 HM
  clear hv e1 hz H hi wf c1 c2 c3 c4 c5 hk
  by_cases h9 : k = 9
  · have h9' : (k == 9) = true := by simpa using h9
    rw [if_pos h9]
    obtain ⟨o, ho⟩ : ∃ o, okZ z = o := ⟨_, rfl⟩
    have ho' : decide (0 ≤ z) = o := ho
    rw [ho]
    clear h9 ho HM
    cases o
    all_goals
      go_enter Tryz.func34, Tryz.ntmps34
      go_wp2_with (go_at_call 56; refine (HV.out).mono ?_; rintro e w1 ⟨rfl, rfl⟩)
      go_ret
      exact ⟨ret_bool (by first | rfl | exact ho' | simp_all), Below.refl _ _⟩
  · have h9' : (k == 9) = false := by simpa using h9
    rw [if_neg h9]
    clear h9 HV
    go_enter Tryz.func34, Tryz.ntmps34
    go_wp2_with (go_at_call 57; refine (HM.out _).mono ?_; rintro e w1 ⟨rfl, m, rfl⟩)
    go_ret
    exact ⟨rfl, drewN_below (Below.refl _ _) m⟩
set_option maxHeartbeats 1000000 in
theorem refZero9_any (T : VT) (h1 : 1 ≤ T.kind) (h2 : T.kind ≤ 14) (hl : T.len ≤ 2513169434843) (w : World) : Calls Tryz.prog 33 #[.agg #[.int .i64 T.kind, .int .u64 T.num, .string T.text, .slice T.ia T.len T.cap]] w fun e w' => e = .returned (.bool (formT T)) ∧ Below w.heap.size w w' := by
  have hc : T.kind < 10 ∨ T.kind = 10 ∨ (11 ≤ T.kind ∧ T.kind ≤ 13) ∨ T.kind = 14 := by omega
  obtain ⟨k, hk⟩ : ∃ k, T.kind = k := ⟨_, rfl⟩
  obtain ⟨r, hr⟩ : ∃ r, formT T = r := ⟨_, rfl⟩
  have HR := Lib.hid hr
  unfold formT at HR
  rw [hr]
  rw [hk] at HR hc h1 h2 ⊢
  clear hr hk
  rcases hc with hc | hc | hc | hc
  · have hn : numK k = true := by unfold numK; simp; omega
    have a1 : decide (10 ≤ k) = false := by simp; omega
    have a2 : (k == 10) = false := by simp; omega
    have a3 : (k != 10) = true := by simp; omega
    have a4 : decide (11 ≤ k) = false := by simp; omega
    have a5 : (k == 14) = false := by simp; omega
    have a6 : decide (k ≤ 13) = true := by simp; omega
    rw [hn, a2, a5] at HR
    clear hn h1 h2 hc
    go_enter Tryz.func33, Tryz.ntmps33
    go_wp2
    all_goals
      go_ret
      refine ⟨ret_bool ?_, (Below.refl _ _).alloc (Nat.le_refl _) _⟩
      rw [← HR.out]
      simp [*] <;> omega
  · have hn : numK k = false := by unfold numK; simp; omega
    have a1 : decide (10 ≤ k) = true := by simp; omega
    have a2 : (k == 10) = true := by simp; omega
    have a3 : (k != 10) = false := by simp; omega
    have a4 : decide (11 ≤ k) = false := by simp; omega
    have a5 : (k == 14) = false := by simp; omega
    have a6 : decide (k ≤ 13) = true := by simp; omega
    rw [hn, a2, a5] at HR
    clear hn h1 h2 hc
    go_enter Tryz.func33, Tryz.ntmps33
    go_wp2
    all_goals
      go_ret
      refine ⟨ret_bool ?_, (Below.refl _ _).alloc (Nat.le_refl _) _⟩
      rw [← HR.out]
      simp [*] <;> omega
  · have hn : numK k = false := by unfold numK; simp; omega
    have a1 : decide (10 ≤ k) = true := by simp; omega
    have a2 : (k == 10) = false := by simp; omega
    have a3 : (k != 10) = true := by simp; omega
    have a4 : decide (11 ≤ k) = true := by simp; omega
    have a5 : (k == 14) = false := by simp; omega
    have a6 : decide (k ≤ 13) = true := by simp; omega
    rw [hn, a2, a5] at HR
    clear hn h1 h2 hc
    go_enter Tryz.func33, Tryz.ntmps33
    go_wp2
    all_goals
      go_ret
      refine ⟨ret_bool ?_, (Below.refl _ _).alloc (Nat.le_refl _) _⟩
      rw [← HR.out]
      simp [*] <;> omega
  · have hn : numK k = false := by unfold numK; simp; omega
    have a1 : decide (10 ≤ k) = true := by simp; omega
    have a2 : (k == 10) = false := by simp; omega
    have a3 : (k != 10) = true := by simp; omega
    have a4 : decide (11 ≤ k) = true := by simp; omega
    have a5 : (k == 14) = true := by simp; omega
    have a6 : decide (k ≤ 13) = false := by simp; omega
    rw [hn, a2, a5] at HR
    clear hn h1 h2 hc
    go_enter Tryz.func33, Tryz.ntmps33
    go_wp2
    all_goals
      go_ret
      refine ⟨ret_bool ?_, (Below.refl _ _).alloc (Nat.le_refl _) _⟩
      rw [← HR.out]
      simp [*] <;> omega
/-- the type that an Item must have -/
def partF (X : TypeV) (n : Int) (i : Nat) : Int := if X.kind = 13 then (X.items i).type else if X.kind = 14 then (X.items ((branchZ X n).toNat + i)).type else X.of
/-- how many Items there must be; of a TSeq: there are m -/
def partN (X : TypeV) (n : Int) (m : Nat) : Nat := if X.kind = 11 then m else if X.kind = 12 then X.bound.toNat else if X.kind = 13 then X.ilen else if X.kind = 14 then brN X n else 0
def listF (X : TypeV) (n : Int) (j : Nat) : List Int := (List.range j).map (partF X n)
theorem listF_len (X : TypeV) (n : Int) (j : Nat) : (listF X n j).length = j := by unfold listF; simp
theorem listF_next (X : TypeV) (n : Int) (j : Nat) : listF X n (j + 1) = listF X n j ++ [partF X n j] := by unfold listF; rw [List.range_succ, List.map_append]; rfl
theorem listF_get (X : TypeV) (n : Int) {i j : Nat} (h : i < j) : (listF X n j).getD i 0 = partF X n i := by unfold listF; simp [h]
def okP (X : TypeV) (m : Nat) : Bool := if X.kind = 11 then decide ((m : Int) ≤ X.bound) else true
/-- what Parts leaves -/
def PartsTo (X : TypeV) (T : VT) (w : World) (e : Ending) (w' : World) : Prop :=
  ∃ v, e = .returned (.tuple #[v, .bool (okP X T.len)]) ∧ w'.ownsRow w.heap.size 3 1 v (partN X T.num T.len) ((listF X T.num (partN X T.num T.len)).map (Value.int .i64)) ∧ Below w.heap.size w w'
theorem PSt.parts {X : TypeV} {T : VT} {w w' : World} {o : Obj} {v : Value} {N : Nat} (h : PSt (w.heap.size + 1) X (w.alloc o) v (listF X T.num N) w') (hN : partN X T.num T.len = N) :
    w'.ownsRow w.heap.size 3 1 v (partN X T.num T.len) ((listF X T.num (partN X T.num T.len)).map (Value.int .i64)) ∧ Below w.heap.size w w' := by
  obtain ⟨h1, h2⟩ := h.out (by simp)
  rw [listF_len] at h1
  rw [hN]
  exact ⟨Joins.ownsRow_le h1 (by simp), below_step8' ((Below.refl _ _).alloc (Nat.le_refl _) o) h2⟩
theorem PSt.first (X : TypeV) (w : World) (o : Obj) : PSt (w.heap.size + 1) X (w.alloc o) (.slice none 0 0) [] ((w.alloc o).alloc (typO X)) := by
  have h := PSt.start X (w.alloc o)
  rwa [show (w.alloc o).heap.size = w.heap.size + 1 by simp] at h
end Go.Proofs.YtohphejhlgnciaaGreat
