/- Chapter 9 in plain words: what is wrong first with a value of a type. -/
import Derived.Test.YtinmdkhafamibaaGreatBoundsMath2
import Derived.Test.YtinmdkhafamibaaGreatValSame
import Derived.Lib.Bytealg
import Derived.Lib.IndexLaws
import Derived.Shelf.Abstract
import Derived.Deep.RegionHeld3
import Derived.BigGuardPart
import Derived.Laws.Externs
namespace Go.Proofs.YtinmdkhafamibaaGreat
open Go.RowKit
set_option linter.unusedVariables false
/-- what a kind has not is its zero value -/
def formT (T : VT) : Bool := ((numK T.kind || T.kind == 14) || T.num == 0) && ((T.kind == 10 || T.text.toList.isEmpty) && ((!numK T.kind && !(T.kind == 10)) || (T.len : Int) == 0))
/-- a byte 0 in a text -/
def zeroIn (s : ByteArray) : Bool := decide (0 ≤ Lib.indexByte s.data.toList 0)
/-- a number that a type of numbers has -/
def numOk (L : Nat → TypeV) (t : Nat) (n : Int) : Bool := if (L t).kind = 9 then okZ (valueZ (L t) n) else mayK (L t).kind n
def textE (s : ByteArray) (bound : Int) : Int := if bound < s.size then 3 else if zeroIn s then 10 else 0
def numE9 (L : Nat → TypeV) (t : Nat) (n : Int) : Int := if numOk L t n then 0 else 7
/-- how many Items a TUnion's value has -/
def brN (T : TypeV) (n : Int) : Nat := if okZ (branchZ T n) then 1 else 0
/-- what is wrong with a value itself -/
def headE (L : Nat → TypeV) (t : Nat) (T : VT) : Int :=
  if T.kind ≠ (L t).kind then 4 else if formT T = false then 1
  else if (L t).kind = 10 then textE T.text (L t).bound
  else if (L t).kind = 11 then (if (L t).bound < T.len then 3 else 0)
  else if (L t).kind = 12 then (if (T.len : Int) ≠ (L t).bound then 18 else 0)
  else if (L t).kind = 13 then (if T.len ≠ (L t).ilen then 18 else 0)
  else if (L t).kind = 14 then (if numE9 L (L t).tag.toNat T.num ≠ 0 then numE9 L (L t).tag.toNat T.num else if T.len ≠ brN (L t) T.num then 18 else 0)
  else numE9 L t T.num
/-- the type of an Item -/
def partT (L : Nat → TypeV) (t : Nat) (n : Int) (i : Nat) : Nat :=
  if (L t).kind = 13 then ((L t).items i).type.toNat else if (L t).kind = 14 then ((L t).items ((branchZ (L t) n).toNat + i)).type.toNat else (L t).of.toNat
/-- what is wrong first with a value -/
def fitsT (L : Nat → TypeV) : VT → Nat → Int
  | .nil, t => headE L t .nil
  | .node k n s a l c f, t => if headE L t (.node k n s a l c f) ≠ 0 then headE L t (.node k n s a l c f) else firstE (fun i => fitsT L (f i) (partT L t n i)) l
theorem fitsT_eq (L : Nat → TypeV) (T : VT) (t : Nat) : fitsT L T t = if headE L t T ≠ 0 then headE L t T else firstE (fun i => fitsT L (T.kid i) (partT L t T.num i)) T.len := by
  cases T with
  | nil =>
    have : firstE (fun i => fitsT L (VT.nil.kid i) (partT L t VT.nil.num i)) VT.nil.len = 0 := firstE_none (fun i hi => absurd hi (Nat.not_lt_zero i))
    rw [this]
    show headE L t .nil = _
    by_cases h : headE L t .nil ≠ 0
    · rw [if_pos h]
    · rw [if_neg h]; exact Classical.not_not.1 h
  | node => rfl
theorem fits_head {L : Nat → TypeV} {T : VT} {t : Nat} (h : headE L t T ≠ 0) : fitsT L T t = headE L t T := by rw [fitsT_eq, if_pos h]
theorem fits_kids {L : Nat → TypeV} {T : VT} {t : Nat} (h : headE L t T = 0) : fitsT L T t = firstE (fun i => fitsT L (T.kid i) (partT L t T.num i)) T.len := by rw [fitsT_eq, if_neg (by rw [h]; decide)]
/-- the parts of a type that may be: ahead of it, and less deep -/
theorem part_ok {L : Nat → TypeV} {t : Nat} {T : VT} (h : OkT L t) (h0 : headE L t T = 0) {i : Nat} (hi : i < T.len) : partT L t T.num i < t ∧ deepN L (partT L t T.num i) + 1 ≤ deepN L t := by
  unfold headE at h0
  split at h0; · cases h0
  rename_i hk
  have hk : T.kind = (L t).kind := Classical.not_not.1 hk
  split at h0; · cases h0
  rename_i hf
  have hf : formT T = true := by simpa using hf
  unfold formT at hf
  simp only [Bool.and_eq_true, Bool.or_eq_true, Bool.not_eq_true', beq_iff_eq, beq_eq_false_iff_ne] at hf
  obtain ⟨_, _, hl⟩ := hf
  have hl : numK T.kind = false ∧ T.kind ≠ 10 := by
    rcases hl with h | h
    · exact h
    · omega
  unfold partT
  split at h0
  · rename_i h10; exact absurd (hk.trans h10) hl.2
  rename_i n10
  split at h0
  · rename_i h11
    rw [if_neg (by omega), if_neg (by omega)]
    have := h.of (.inl h11)
    omega
  rename_i n11
  split at h0
  · rename_i h12
    rw [if_neg (by omega), if_neg (by omega)]
    have := h.of (.inr h12)
    omega
  rename_i n12
  split at h0
  · rename_i h13
    rw [if_pos h13]
    split at h0; · cases h0
    rename_i hn
    have := h.items (.inl h13) i (by omega)
    omega
  rename_i n13
  split at h0
  · rename_i h14
    rw [if_neg n13, if_pos h14]
    split at h0; · rename_i hne; exact absurd h0 hne
    split at h0; · cases h0
    rename_i hn
    have hn : T.len = brN (L t) T.num := Classical.not_not.1 hn
    unfold brN at hn
    by_cases hb : okZ (branchZ (L t) T.num) = true
    · rw [if_pos hb] at hn
      have hz : 0 ≤ branchZ (L t) T.num := by unfold okZ at hb; simpa using hb
      have hz2 : branchZ (L t) T.num < (L t).ilen := by
        have e : branchZ (L t) T.num = branchZ (L t) T.num := rfl
        have hlt : ∀ p, 0 ≤ firstZ p (L t).ilen → firstZ p (L t).ilen < (L t).ilen := fun p hp => by
          rcases firstZ_cases p (L t).ilen with ⟨k, hk, e, _, _⟩ | ⟨e, _⟩ <;> omega
        unfold branchZ at hz ⊢
        rw [if_pos h14] at hz ⊢
        split
        · rename_i hc; omega
        · rename_i hc; rw [if_neg hc] at hz; exact hlt _ hz
      have := h.items (.inr h14) ((branchZ (L t) T.num).toNat + i) (by omega)
      omega
    · rw [if_neg hb] at hn; omega
  rename_i n14
  exfalso
  have := h.kind
  have : numK (L t).kind = true := by unfold numK; simp; omega
  rw [hk, this] at hl
  exact absurd hl.1 (by decide)
/-- what is of a type is no deeper than it -/
theorem fits_deep {L : Nat → TypeV} {len : Nat} (hv : ∀ i, i < len → OkT L i) : ∀ (T : VT) (t : Nat), t < len → fitsT L T t = 0 → deepT T ≤ deepN L t := by
  refine VT.ind fun T ih t ht h => ?_
  have hh : headE L t T = 0 := by
    by_cases c : headE L t T = 0
    · exact c
    · rw [fits_head c] at h; exact h
  rw [fits_kids hh] at h
  have hz : ∀ i, i < T.len → fitsT L (T.kid i) (partT L t T.num i) = 0 := by
    obtain ⟨h1, h2, h3⟩ := firstN_is (fun j => fitsT L (T.kid j) (partT L t T.num j) != 0) T.len
    by_cases c : firstN (fun j => fitsT L (T.kid j) (partT L t T.num j) != 0) T.len < T.len
    · rw [firstE_at (e := fun j => fitsT L (T.kid j) (partT L t T.num j)) h2 c (h3 c)] at h
      have h4 := h3 c
      simp only at h h4
      rw [h] at h4; cases h4
    · intro i hi
      have := h2 i (by omega)
      simpa using this
  rw [deepT_eq]
  have hd := (hv t ht).deep
  have := maxTo_le (f := fun i => deepT (T.kid i)) (m := deepN L t - 1) T.len (fun i hi => by
    have hp := part_ok (hv t ht) hh hi
    have := ih i hi _ (by omega) (hz i hi)
    show deepT (T.kid i) ≤ _
    omega)
  omega
theorem fits_zero {L : Nat → TypeV} {T : VT} {t : Nat} (h : fitsT L T t = 0) : headE L t T = 0 ∧ ∀ i, i < T.len → fitsT L (T.kid i) (partT L t T.num i) = 0 := by
  have hh : headE L t T = 0 := by
    by_cases c : headE L t T = 0
    · exact c
    · rw [fits_head c] at h; exact h
  refine ⟨hh, ?_⟩
  rw [fits_kids hh] at h
  obtain ⟨h1, h2, h3⟩ := firstN_is (fun j => fitsT L (T.kid j) (partT L t T.num j) != 0) T.len
  by_cases c : firstN (fun j => fitsT L (T.kid j) (partT L t T.num j) != 0) T.len < T.len
  · rw [firstE_at (e := fun j => fitsT L (T.kid j) (partT L t T.num j)) h2 c (h3 c)] at h
    have h4 := h3 c
    simp only at h h4
    rw [h] at h4; cases h4
  · intro i hi
    have := h2 i (by omega)
    simpa using this
/-- the answer of Fits -/
def fitsA (L : Nat → TypeV) (len : Nat) (t : Int) (T : VT) : Int := if hasT L len t then fitsT L T t.toNat else 8
end Go.Proofs.YtinmdkhafamibaaGreat
namespace Go.Proofs.YtinmdkhafamibaaGreat
open Go.RowKit
set_option linter.unusedVariables false
theorem fault_zero9 (E A : Int) (w : World) : (binOp .eql 49 (.agg #[.int .i64 E, .int .i64 A]) (.agg #[.int .i64 0, .int .i64 0])).run Tryz.prog w = .ok (.bool ((E == 0) && (A == 0))) w := fault_eql E A 0 0 w
theorem has9_any (ao : Option Addr) (len cap : Nat) (L : Nat → TypeV) (t : Int) (hlen : len ≤ 1000000) (hcap : len ≤ cap) (w : World) (H : ∀ i, i < len → TypeAt w ao i (L i)) :
    Calls Tryz.prog 28 #[.slice ao len cap, .int .i64 t] w fun e w' => e = .returned (.bool (hasT L len t)) ∧ Below w.heap.size w w' := by
  by_cases ht : 0 ≤ t ∧ t < len
  · obtain ⟨h0, h1⟩ := ht
    have hT : hasT L len t = ((fErr (oneR L len) len == 0) && (fAt (oneR L len) len == 0)) := by unfold hasT inL; rw [decide_eq_true h0, decide_eq_true h1]; rfl
    rw [hT]
    have hc := check6_any ao len cap L hlen hcap w H
    rw [fault_same] at hc
    unfold faultV at hc
    obtain ⟨E, hE⟩ : ∃ E, fErr (oneR L len) len = E := ⟨_, rfl⟩
    obtain ⟨A, hA⟩ : ∃ A, fAt (oneR L len) len = A := ⟨_, rfl⟩
    rw [hE, hA] at hc ⊢
    have hfe := fun w => fault_zero9 E A w
    obtain ⟨q, hq⟩ : ∃ q, ((E == 0) && (A == 0)) = q := ⟨_, rfl⟩
    rw [hq] at hfe ⊢
    have HC := Lib.hid hc
    clear hc hE hA hT hq H
    go_enter Tryz.func28, Tryz.ntmps28
    go_wp2_with (go_at_call 25; refine HC.out.mono ?_; rintro e w1 ⟨rfl, hb1⟩; have HB1 := Lib.hid hb1; clear hb1)
    go_ret
    exact ⟨rfl, HB1.out⟩
  · have hT : hasT L len t = false := by unfold hasT; rw [inL_no ht]; rfl
    rw [hT]
    clear hT H
    by_cases h0 : 0 ≤ t
    · have h1 : ¬ t < len := fun h => ht ⟨h0, h⟩
      clear ht
      go_enter Tryz.func28, Tryz.ntmps28
      go_wp2
      go_ret
      exact ⟨rfl, Below.refl _ _⟩
    · clear ht
      go_enter Tryz.func28, Tryz.ntmps28
      go_wp2
      go_ret
      exact ⟨rfl, Below.refl _ _⟩
set_option maxRecDepth 100000 in
theorem lite_IndexByte (s : ByteArray) (w : World) : Calls Tryz.prog 100 #[.string s, .int .u8 0] w fun e w' => e = .returned (.int .i64 (Lib.indexByte s.data.toList 0)) ∧ w = w' := by
  go_enter Tryz.func100, Tryz.ntmps100
  go_wp2
  rw [run_callFunc_extern Tryz.func114 (by kernel_rfl) (by kernel_rfl) (by kernel_rfl) (e := Extern.BytealgIndexByte.indexByte) (by kernel_rfl), Lib.run_indexByteString]
  simp only [Result.andThen]
  rw [Oper.upon_value]
  go_wp2
  go_ret
  exact ⟨rfl, rfl⟩
set_option maxRecDepth 100000 in
theorem str_IndexByte (s : ByteArray) (w : World) : Calls Tryz.prog 75 #[.string s, .int .u8 0] w fun e w' => e = .returned (.int .i64 (Lib.indexByte s.data.toList 0)) ∧ w = w' := by
  go_enter Tryz.func75, Tryz.ntmps75
  go_wp2_with (go_at_call 100; refine (lite_IndexByte s _).mono ?_; rintro e w' ⟨rfl, rfl⟩)
  go_ret
  exact ⟨rfl, rfl⟩
theorem text9_any (s : ByteArray) (bound : Int) (hs : s.size ≤ 140737488351232) (w : World) : Calls Tryz.prog 46 #[.string s, .int .i64 bound] w fun e w' => e = .returned (.int .i64 (textE s bound)) ∧ w = w' := by
  have hm : s.size ≤ maxLen := by unfold maxLen; omega
  by_cases h1 : bound < s.size
  · have e : textE s bound = 3 := by unfold textE; rw [if_pos h1]
    rw [e]
    go_enter Tryz.func46, Tryz.ntmps46
    go_wp2
    go_ret
    exact ⟨rfl, rfl⟩
  · have HI := Lib.hid (fun w => str_IndexByte s w)
    obtain ⟨z, hz⟩ : ∃ z, Lib.indexByte s.data.toList 0 = z := ⟨_, rfl⟩
    have e : textE s bound = if 0 ≤ z then 10 else 0 := by unfold textE zeroIn; rw [if_neg h1, hz]; simp
    rw [e]
    rw [hz] at HI
    clear e hz
    by_cases h2 : 0 ≤ z
    · rw [if_pos h2]
      go_enter Tryz.func46, Tryz.ntmps46
      go_wp2_with (go_at_call 75; refine (HI.out _).mono ?_; rintro e w' ⟨rfl, rfl⟩)
      go_ret
      exact ⟨rfl, rfl⟩
    · rw [if_neg h2]
      go_enter Tryz.func46, Tryz.ntmps46
      go_wp2_with (go_at_call 75; refine (HI.out _).mono ?_; rintro e w' ⟨rfl, rfl⟩)
      go_ret
      exact ⟨rfl, rfl⟩
set_option maxHeartbeats 1000000 in
theorem form9_any (T : VT) (hl : T.len ≤ 2513169434843) (w : World) : Calls Tryz.prog 45 #[.agg #[.int .i64 T.kind, .int .u64 T.num, .string T.text, .slice T.ia T.len T.cap]] w fun e w' => e = .returned (.bool (formT T)) ∧ Below w.heap.size w w' := by
  obtain ⟨k, hk⟩ : ∃ k, T.kind = k := ⟨_, rfl⟩
  obtain ⟨r, hr⟩ : ∃ r, formT T = r := ⟨_, rfl⟩
  have HN := Lib.hid (number_any k)
  have HB := Lib.hid ((Below.refl w.heap.size w).alloc (Nat.le_refl _) (.cells #[.int .i64 k, .int .u64 T.num, .string T.text, .slice T.ia T.len T.cap] 26))
  have HQ := Lib.hid (alloc_at w (.cells #[.int .i64 k, .int .u64 T.num, .string T.text, .slice T.ia T.len T.cap] 26))
  have HR := Lib.hid hr
  rw [hr, hk]
  unfold formT at HR
  rw [hk] at HR
  obtain ⟨c, hc⟩ : ∃ c, numK k = c := ⟨_, rfl⟩
  rw [hc] at HR HN
  clear hk hr hc
  go_enter Tryz.func45, Tryz.ntmps45
  cases c
  all_goals
    go_wp2_with (go_at_call 70; refine (HN.out _).mono ?_; rintro e w1 ⟨rfl, hb1⟩; have HB := Lib.hid (below_step8' HB.out hb1); have HQ := Lib.hid (box_keep HQ.out hb1); clear hb1; have d0 : w1.cell? ⟨w.heap.size, 0, none⟩ = some (.int .i64 k) := cell_at HQ.out rfl; have d1 : w1.cell? ⟨w.heap.size, 1, none⟩ = some (.int .u64 T.num) := cell_at HQ.out rfl; have d2 : w1.cell? ⟨w.heap.size, 2, none⟩ = some (.string T.text) := cell_at HQ.out rfl; have d3 : w1.cell? ⟨w.heap.size, 3, none⟩ = some (.slice T.ia T.len T.cap) := cell_at HQ.out rfl)
    all_goals
      go_ret
      refine ⟨ret_bool ?_, HB.out⟩
      rw [← HR.out]
      simp [*]
theorem branchZ_lt {T : TypeV} {n : Int} (hz : 0 ≤ branchZ T n) : branchZ T n < T.ilen := by
  have hlt : ∀ p, 0 ≤ firstZ p T.ilen → firstZ p T.ilen < T.ilen := fun p hp => by
    rcases firstZ_cases p T.ilen with ⟨k, hk, e, _, _⟩ | ⟨e, _⟩ <;> omega
  unfold branchZ at hz ⊢
  split at hz
  · rename_i h14
    rw [if_pos h14]
    split
    · rename_i hc; omega
    · rename_i hc; rw [if_neg hc] at hz; exact hlt _ hz
  · exact absurd hz (by decide)
set_option maxHeartbeats 1000000 in
theorem num9_any (ao : Option Addr) (len cap : Nat) (L : Nat → TypeV) (hlen : len ≤ 1000000) (t : Nat) (ht : t < len) (n : Int) (hn : (Lit.int .u64 n).wf = true) (w : World) (H : ∀ i, i < len → TypeAt w ao i (L i)) :
    Calls Tryz.prog 52 #[.slice ao len cap, .int .i64 t, .int .u64 n] w fun e w' => e = .returned (.int .i64 (numE9 L t n)) ∧ Below w.heap.size w w' := by
  have hv := fun wx (hb : Below w.heap.size w wx) => value6_any ao len cap L t n (by omega) wx (hold H hb)
  have e1 : valueL L len (t : Nat) n = valueZ (L t) n := by unfold valueL; rw [inL_yes ht]; rfl
  rw [e1] at hv
  obtain ⟨z, hz⟩ : ∃ z, valueZ (L t) n = z := ⟨_, rfl⟩
  rw [hz] at hv
  unfold foundV at hv
  have HV := Lib.hid hv
  have hm := may_any (L t).kind n hn
  obtain ⟨m, hmk⟩ : ∃ m, mayK (L t).kind n = m := ⟨_, rfl⟩
  rw [hmk] at hm
  have HM := Lib.hid hm
  obtain ⟨b, off, rfl, c0, c1, c2, c3, c4, c5, wf, hi⟩ := H t ht
  obtain ⟨k, hk⟩ : ∃ k, (L t).kind = k := ⟨_, rfl⟩
  obtain ⟨r, hr⟩ : ∃ r, numE9 L t n = r := ⟨_, rfl⟩
  rw [hr]
  unfold numE9 numOk at hr
  rw [hk, hz, ← hk, hmk, hk] at hr
  rw [hk] at c0 HM
  have HR := Lib.hid hr
  clear hv hm e1 hz hmk hk hr H hi wf c1 c2 c3 c4 c5
  by_cases h9 : k = 9
  · have h9' : (k == 9) = true := by simpa using h9
    obtain ⟨o, ho⟩ : ∃ o, okZ z = o := ⟨_, rfl⟩
    have hr := HR.out
    rw [if_pos h9, ho] at hr
    rw [ho] at HV
    clear HR ho h9
    cases o
    all_goals
      have HR := Lib.hid hr
      clear hr
      go_enter Tryz.func52, Tryz.ntmps52
      go_wp2_with (first
        | (go_at_call 80; refine (HM.out _).mono ?_; rintro e w1 ⟨rfl, hb1⟩; have HB1 := Lib.hid hb1; have c0 := keep hb1 (by exact c0); clear hb1)
        | (go_at_call 81; refine (HV.out _ HB1.out).mono ?_; rintro e w2 ⟨rfl, hb2⟩; have HB2 := Lib.hid (below_step8' HB1.out hb2); clear hb2))
      go_ret
      exact ⟨ret_i (by rw [← HR.out]; rfl), HB2.out⟩
  · have h9' : (k == 9) = false := by simpa using h9
    have hr := HR.out
    rw [if_neg h9] at hr
    clear HR h9
    cases m
    all_goals
      have HR := Lib.hid hr
      clear hr
      go_enter Tryz.func52, Tryz.ntmps52
      go_wp2_with (first
        | (go_at_call 80; refine (HM.out _).mono ?_; rintro e w1 ⟨rfl, hb1⟩; have HB1 := Lib.hid hb1; have c0 := keep hb1 (by exact c0); clear hb1))
      go_ret
      exact ⟨ret_i (by rw [← HR.out]; rfl), HB1.out⟩
theorem itemAt_shift {w : World} {ib io k : Nat} {x : ItemV} (h : ItemAt w (some ⟨ib, io, none⟩) k x) : ItemAt w (some ⟨ib, io + k * 5, none⟩) 0 x := by
  obtain ⟨b, off, e, h0, h1, h2, h3, h4, r⟩ := h
  cases e
  exact ⟨ib, io + k * 5, rfl, by simpa using h0, by simpa using h1, by simpa using h2, by simpa using h3, by simpa using h4, r⟩
set_option maxHeartbeats 1000000 in
/-- the one branch that a TUnion has for a number, or none -/
theorem branch9_any (ao : Option Addr) (len cap : Nat) (L : Nat → TypeV) (hlen : len ≤ 1000000) (t : Nat) (ht : t < len) (n : Int) (hcp : (L t).ilen ≤ (L t).icap) (w : World) (H : ∀ i, i < len → TypeAt w ao i (L i)) :
    Calls Tryz.prog 79 #[.slice ao len cap, .int .i64 t, .int .u64 n] w fun e w' =>
      ∃ a c, e = .returned (.slice a (brN (L t) n) c) ∧ (∀ i, i < brN (L t) n → ItemAt w' a i ((L t).items ((branchZ (L t) n).toNat + i))) ∧ Below w.heap.size w w' := by
  have hv := fun wx (hb : Below w.heap.size w wx) => branch6_any ao len cap L t n (by omega) wx (hold H hb)
  have e1 : branchL L len (t : Nat) n = branchZ (L t) n := by unfold branchL; rw [inL_yes ht]; rfl
  rw [e1] at hv
  have hlt := branchZ_lt (T := L t) (n := n)
  obtain ⟨b, off, rfl, c0, c1, c2, c3, c4, c5, wf, hi⟩ := H t ht
  have HI := Lib.hid hi
  obtain ⟨T, hT⟩ : ∃ T, L t = T := ⟨_, rfl⟩
  rw [hT] at hv hlt c5 HI hcp ⊢
  obtain ⟨z, hz⟩ : ∃ z, branchZ T n = z := ⟨_, rfl⟩
  have HN := Lib.hid (show brN T n = if okZ z then 1 else 0 by unfold brN; rw [hz])
  rw [hz] at hv hlt ⊢
  unfold foundV at hv
  have hil := hi.1
  clear hi H wf c0 c1 c2 c3 c4 e1 hT hz
  by_cases h0 : 0 ≤ z
  · have ho : okZ z = true := by unfold okZ; simpa using h0
    have hp : posZ z = z := by unfold posZ; rw [if_neg (by omega)]
    have e : brN T n = 1 := by rw [HN.out, ho]; rfl
    rw [e]
    rw [ho, hp] at hv
    obtain ⟨k, rfl⟩ := Int.eq_ofNat_of_zero_le h0
    have hk : k < T.ilen := by have := hlt h0; omega
    obtain ⟨ib, io, hia, i0, i1, i2, i3, i4, iw⟩ := HI.out.2 k hk
    have HX := Lib.hid (show ItemAt w T.ia k (T.items k) from HI.out.2 k hk)
    rw [hia] at c5
    have HA := Lib.hid hia
    have HV := Lib.hid hv
    have hk1 : k + 1 ≤ T.icap := by omega
    have hil : T.ilen ≤ 3518437208780 := HI.out.1
    clear hv ho hp e HN hlt h0 i0 i1 i2 i3 i4 hia
    go_enter Tryz.func79, Tryz.ntmps79
    go_wp2_with (go_at_call 101; refine (HV.out _ (Below.refl _ _)).mono ?_; rintro e w2 ⟨rfl, hb2⟩; have HB2 := Lib.hid hb2; have c5 := keep hb2 (by exact c5); clear hb2)
    go_ret
    refine ⟨some ⟨ib, io + k * 5, none⟩, T.icap - k, rfl, fun i hi => ?_, HB2.out⟩
    obtain rfl : i = 0 := by omega
    rw [Int.toNat_natCast, Nat.add_zero]
    have hx := HX.out.held HB2.out
    rw [HA.out] at hx
    exact itemAt_shift hx
  · have ho : okZ z = false := by unfold okZ; simpa using h0
    have e : brN T n = 0 := by rw [HN.out, ho]; rfl
    rw [e]
    rw [ho] at hv
    have HV := Lib.hid hv
    clear hv ho e HN hlt h0
    go_enter Tryz.func79, Tryz.ntmps79
    go_wp2_with (go_at_call 101; refine (HV.out _ (Below.refl _ _)).mono ?_; rintro e w2 ⟨rfl, hb2⟩; have HB2 := Lib.hid hb2; clear hb2)
    go_ret
    exact ⟨none, 0, rfl, fun i hi => absurd hi (Nat.not_lt_zero i), HB2.out⟩
end Go.Proofs.YtinmdkhafamibaaGreat
namespace Go.Proofs.YtinmdkhafamibaaGreat
open Go.RowKit
set_option linter.unusedVariables false
theorem elem9_any (ao : Option Addr) (len cap : Nat) (x : Int) (w : World) : Calls Tryz.prog 48 #[.slice ao len cap, .int .i64 x] w fun e w' =>
    ∃ g1 g2, e = .returned (.func (.func 77) #[] #[.pointer (some ⟨g1, 0, none⟩), .pointer (some ⟨g2, 0, none⟩)]) ∧ w'.cell? ⟨g1, 0, none⟩ = some (.slice ao len cap) ∧ w'.cell? ⟨g2, 0, none⟩ = some (.int .i64 x) ∧ Below w.heap.size w w' := by
  have hmf' := hmf
  go_enter Tryz.func48, Tryz.ntmps48
  go_wp2
  go_ret
  refine ⟨_, _, rfl, ?_, ?_, (((Below.refl _ _).alloc (Nat.le_refl _) _).alloc (by simp) _)⟩
  · simp
  · simp
theorem memb9_any (ao : Option Addr) (len cap : Nat) (ia : Option Addr) (n c : Nat) (w : World) : Calls Tryz.prog 50 #[.slice ao len cap, .slice ia n c] w fun e w' =>
    ∃ g1 g2, e = .returned (.func (.func 78) #[] #[.pointer (some ⟨g1, 0, none⟩), .pointer (some ⟨g2, 0, none⟩)]) ∧ w'.cell? ⟨g1, 0, none⟩ = some (.slice ao len cap) ∧ w'.cell? ⟨g2, 0, none⟩ = some (.slice ia n c) ∧ Below w.heap.size w w' := by
  have hmf' := hmf
  go_enter Tryz.func50, Tryz.ntmps50
  go_wp2
  go_ret
  refine ⟨_, _, rfl, ?_, ?_, (((Below.refl _ _).alloc (Nat.le_refl _) _).alloc (by simp) _)⟩
  · simp
  · simp
theorem eElem9 : Enters 77 := enters_of Tryz.func77 (by kernel_rfl) rfl
theorem eMemb9 : Enters 78 := enters_of Tryz.func78 (by kernel_rfl) rfl
theorem elemF9_any (ao : Option Addr) (len cap : Nat) (p i : Int) (T : VT) (g1 g2 : Nat) (x : Int) (w : World) (h1 : w.cell? ⟨g1, 0, none⟩ = some (.slice ao len cap)) (h2 : w.cell? ⟨g2, 0, none⟩ = some (.int .i64 p))
    (hf : ∀ wx, Below w.heap.size w wx → Calls Tryz.prog 29 #[.slice ao len cap, .int .i64 p, .agg #[.int .i64 T.kind, .int .u64 T.num, .string T.text, .slice T.ia T.len T.cap]] wx fun e w' => e = .returned (.int .i64 x) ∧ Below wx.heap.size wx w') :
    Calls Tryz.prog 77 #[.int .i64 i, .agg #[.int .i64 T.kind, .int .u64 T.num, .string T.text, .slice T.ia T.len T.cap], .pointer (some ⟨g1, 0, none⟩), .pointer (some ⟨g2, 0, none⟩)] w fun e w' => e = .returned (.int .i64 x) ∧ Below w.heap.size w w' := by
  have HB := Lib.hid ((Below.refl w.heap.size w).alloc (Nat.le_refl _) (.cells #[.int .i64 T.kind, .int .u64 T.num, .string T.text, .slice T.ia T.len T.cap] 26))
  have HF := Lib.hid hf
  have hl1 := World.block_lt_of_cell? w _ h1
  have hl2 := World.block_lt_of_cell? w _ h2
  have hn1 : ¬ g1 = w.heap.size := by simp at hl1; omega
  have hn2 : ¬ g2 = w.heap.size := by simp at hl2; omega
  clear hf
  go_enter Tryz.func77, Tryz.ntmps77
  go_wp2_with (go_at_call 29; refine (HF.out _ HB.out).mono ?_; rintro e w1 ⟨rfl, hb1⟩; have HB1 := Lib.hid (below_step8' HB.out hb1); clear hb1)
  go_ret
  exact ⟨rfl, HB1.out⟩
set_option maxHeartbeats 1000000 in
theorem membF9_any (ao : Option Addr) (len cap : Nat) (ia : Option Addr) (n c i : Nat) (X : ItemV) (T : VT) (g1 g2 : Nat) (x : Int) (hn : n ≤ 3518437208780) (hi : i < n) (w : World) (h1 : w.cell? ⟨g1, 0, none⟩ = some (.slice ao len cap)) (h2 : w.cell? ⟨g2, 0, none⟩ = some (.slice ia n c)) (hX : ItemAt w ia i X)
    (hf : ∀ wx, Below w.heap.size w wx → Calls Tryz.prog 29 #[.slice ao len cap, .int .i64 X.type, .agg #[.int .i64 T.kind, .int .u64 T.num, .string T.text, .slice T.ia T.len T.cap]] wx fun e w' => e = .returned (.int .i64 x) ∧ Below wx.heap.size wx w') :
    Calls Tryz.prog 78 #[.int .i64 i, .agg #[.int .i64 T.kind, .int .u64 T.num, .string T.text, .slice T.ia T.len T.cap], .pointer (some ⟨g1, 0, none⟩), .pointer (some ⟨g2, 0, none⟩)] w fun e w' => e = .returned (.int .i64 x) ∧ Below w.heap.size w w' := by
  have HB := Lib.hid ((Below.refl w.heap.size w).alloc (Nat.le_refl _) (.cells #[.int .i64 T.kind, .int .u64 T.num, .string T.text, .slice T.ia T.len T.cap] 26))
  have HQ := Lib.hid (alloc_at w (.cells #[.int .i64 T.kind, .int .u64 T.num, .string T.text, .slice T.ia T.len T.cap] 26))
  have HF := Lib.hid hf
  obtain ⟨b, off, rfl, c0, c1, c2, c3, c4, wi⟩ := hX
  have k1 := keep HB.out h1
  have k2 := keep HB.out h2
  have k3 := keep HB.out c2
  have hl1 := World.block_lt_of_cell? w _ h1
  have hl2 := World.block_lt_of_cell? w _ h2
  have hl3 := World.block_lt_of_cell? w _ c2
  have hn1 : ¬ g1 = w.heap.size := by simp at hl1; omega
  have hn2 : ¬ g2 = w.heap.size := by simp at hl2; omega
  have hn3 : ¬ b = w.heap.size := by simp at hl3; omega
  clear hf c0 c1 c3 c4 wi
  go_enter Tryz.func78, Tryz.ntmps78
  go_wp2_with fail
  generalize w.alloc (.cells #[.int .i64 T.kind, .int .u64 T.num, .string T.text, .slice T.ia T.len T.cap] 26) = W0 at *
  have d0 : W0.cell? ⟨w.heap.size, 0, none⟩ = some (.int .i64 T.kind) := cell_at HQ.out rfl
  have d1 : W0.cell? ⟨w.heap.size, 1, none⟩ = some (.int .u64 T.num) := cell_at HQ.out rfl
  have d2 : W0.cell? ⟨w.heap.size, 2, none⟩ = some (.string T.text) := cell_at HQ.out rfl
  have d3 : W0.cell? ⟨w.heap.size, 3, none⟩ = some (.slice T.ia T.len T.cap) := cell_at HQ.out rfl
  go_region_held3 (fun w' => w'.cell? ⟨g1, 0, none⟩ = some (.slice ao len cap) ∧ w'.cell? ⟨g2, 0, none⟩ = some (.slice (some ⟨b, off, none⟩) n c) ∧ w'.cell? ⟨b, off + i * 5 + 2, none⟩ = some (.int .i64 X.type) ∧ w'.cell? ⟨w.heap.size, 0, none⟩ = some (.int .i64 T.kind) ∧ w'.cell? ⟨w.heap.size, 1, none⟩ = some (.int .u64 T.num) ∧ w'.cell? ⟨w.heap.size, 2, none⟩ = some (.string T.text) ∧ w'.cell? ⟨w.heap.size, 3, none⟩ = some (.slice T.ia T.len T.cap))
    (first | exact ⟨k1, k2, k3, d0, d1, d2, d3⟩ | exact ⟨keep hb1 (by exact k1), keep hb1 (by exact k2), keep hb1 (by exact k3), keep hb1 (by exact d0), keep hb1 (by exact d1), keep hb1 (by exact d2), keep hb1 (by exact d3)⟩ | fail)
    (first | (go_at_call 29; refine (HF.out _ (by first | exact HB.out | exact HB.out.drew)).mono ?_; rintro e w1 ⟨rfl, hb1⟩; have HB1 := Lib.hid (below_step8' (by first | exact HB.out | exact HB.out.drew) hb1)))
  go_wp2
  go_ret
  exact ⟨rfl, HB1.out⟩
set_option maxHeartbeats 2000000 in
theorem each9_any (ia : Option Addr) (n cap : Nat) (K : Nat → VT) (S : Nat → Prop) (g : Nat) (lb : Array Value) (e : Nat → Int) (hn : n ≤ 2513169434843) (w : World) (hC : ∀ i, i < n → ∀ wx, Below w.heap.size w wx → CellsAt wx S ia i (K i)) (eg : Enters g)
    (hp : ∀ i, i < n → ∀ W, Below w.heap.size w W → Calls Tryz.prog g (#[.int .i64 i, .agg #[.int .i64 (K i).kind, .int .u64 (K i).num, .string (K i).text, .slice (K i).ia (K i).len (K i).cap]] ++ lb) W fun r W' => r = .returned (.int .i64 (e i)) ∧ Below W.heap.size W W') :
    Calls Tryz.prog 76 #[.slice ia n cap, .func (.func g) #[] lb] w fun r w' => r = .returned (.int .i64 (firstE e n)) ∧ Below w.heap.size w w' := by
  have HC := Lib.hid hC
  have HP := Lib.hid hp
  clear hC hp
  unfold Enters at eg
  go_enter Tryz.func76, Tryz.ntmps76
  go_wp2
  go_loopw [10] (fun i wr => ∃ j : Nat, j ≤ n ∧ i = .int .i64 j ∧ Hid (∀ m, m < j → (e m != 0) = false) ∧ Hid (Below w.heap.size w wr)) (fun i _ => n - (intOf i).toNat)
  case atStart => exact ⟨0, Nat.zero_le _, rfl, Lib.hid (fun m hm => absurd hm (Nat.not_lt_zero _)), Lib.hid (Below.refl _ _)⟩
  case round =>
    obtain ⟨j, hj, rfl, HF, HB⟩ := hrel
    by_cases hlt : j < n
    · obtain ⟨b, off, rfl, _, _, c0, c1, c2, c3⟩ := HC.out j hlt wr HB.out
      obtain ⟨M, hM⟩ : ∃ M, K j = M := ⟨_, rfl⟩
      have hcall := fun W (hb : Below w.heap.size w W) => HP.out j hlt W hb
      rw [hM] at hcall c0 c1 c2 c3
      have HW := Lib.hid (show Below w.heap.size w _ from HB.out.alloc HB.out.size (.cells #[.int .i64 M.kind, .int .u64 M.num, .string M.text, .slice M.ia M.len M.cap] 26))
      obtain ⟨q, hq⟩ : ∃ q, e j = q := ⟨_, rfl⟩
      rw [hq] at hcall
      have HD := Lib.hid hcall
      clear hcall hM
      cases hz : (q != 0) with
      | true =>
        have HT := Lib.hid (firstE_at (e := e) HF.out hlt (by rw [hq]; exact hz))
        have HQ := Lib.hid hq
        clear hq
        go_wp2_with (go_at_fn g; refine (HD.out _ HW.out).mono ?_; rintro r w2 ⟨rfl, hb2⟩; have HB2 := Lib.hid (below_step8' HW.out hb2); clear hb2)
        go_ret
        exact ⟨ret_i (by rw [HT.out, HQ.out]), HB2.out⟩
      | false =>
        have HF2 := Lib.hid (none_next (p := fun m => e m != 0) HF.out (by rw [hq]; exact hz))
        clear hq
        go_wp2_with (go_at_fn g; refine (HD.out _ HW.out).mono ?_; rintro r w2 ⟨rfl, hb2⟩; have HB2 := Lib.hid (below_step8' HW.out hb2); clear hb2)
        go_roundw
        case rel => exact ⟨j + 1, by omega, by go_num, HF2, HB2⟩
        case measure => simp [intOf]; omega
    · obtain rfl : j = n := by omega
      have HT := Lib.hid (firstE_none (e := e) HF.out)
      go_wp2
      go_ret
      exact ⟨ret_i (by rw [HT.out]), HB.out⟩
theorem upTo9_any (most : Int) (ia : Option Addr) (n cap : Nat) (hn : n ≤ 2513169434843) (g : Nat) (lb : Array Value) (x : Int) (w : World)
    (h : Calls Tryz.prog 76 #[.slice ia n cap, .func (.func g) #[] lb] w fun r w' => r = .returned (.int .i64 x) ∧ Below w.heap.size w w') :
    Calls Tryz.prog 47 #[.int .i64 most, .slice ia n cap, .func (.func g) #[] lb] w fun r w' => r = .returned (.int .i64 (if most < n then 3 else x)) ∧ Below w.heap.size w w' := by
  have HE := Lib.hid h
  clear h
  by_cases hm : most < n
  · rw [if_pos hm]
    go_enter Tryz.func47, Tryz.ntmps47
    go_wp2
    go_ret
    exact ⟨rfl, Below.refl _ _⟩
  · rw [if_neg hm]
    go_enter Tryz.func47, Tryz.ntmps47
    go_wp2_with (go_at_call 76; refine (HE.out).mono ?_; rintro e w2 ⟨rfl, hb2⟩; have HB2 := Lib.hid hb2; clear hb2)
    go_ret
    exact ⟨rfl, HB2.out⟩
theorem all9_any (count : Int) (ia : Option Addr) (n cap : Nat) (hn : n ≤ 2513169434843) (g : Nat) (lb : Array Value) (x : Int) (w : World)
    (h : n = count → Calls Tryz.prog 76 #[.slice ia n cap, .func (.func g) #[] lb] w fun r w' => r = .returned (.int .i64 x) ∧ Below w.heap.size w w') :
    Calls Tryz.prog 49 #[.int .i64 count, .slice ia n cap, .func (.func g) #[] lb] w fun r w' => r = .returned (.int .i64 (if (n : Int) ≠ count then 18 else x)) ∧ Below w.heap.size w w' := by
  by_cases hm : (n : Int) = count
  · have HE := Lib.hid (h hm)
    have hm' : ((n : Int) != count) = false := by simpa using hm
    rw [if_neg (by simpa using hm)]
    clear h hm
    go_enter Tryz.func49, Tryz.ntmps49
    go_wp2_with (go_at_call 76; refine (HE.out).mono ?_; rintro e w2 ⟨rfl, hb2⟩; have HB2 := Lib.hid hb2; clear hb2)
    go_ret
    exact ⟨rfl, HB2.out⟩
  · have hm' : ((n : Int) != count) = true := by simpa using hm
    rw [if_pos hm]
    clear h
    go_enter Tryz.func49, Tryz.ntmps49
    go_wp2
    go_ret
    exact ⟨rfl, Below.refl _ _⟩
end Go.Proofs.YtinmdkhafamibaaGreat
namespace Go.Proofs.YtinmdkhafamibaaGreat
open Go.RowKit
set_option linter.unusedVariables false
set_option maxHeartbeats 1000000 in
theorem chk_kind (ao : Option Addr) (len cap t : Nat) (T : VT) (X : TypeV) (hlen : len ≤ 1000000) (ht : t < len) (hl : T.len ≤ 2513169434843) (w : World) (HX : TypeAt w ao t X) (hk : T.kind ≠ X.kind) :
    Calls Tryz.prog 29 #[.slice ao len cap, .int .i64 t, .agg #[.int .i64 T.kind, .int .u64 T.num, .string T.text, .slice T.ia T.len T.cap]] w fun e w' => e = .returned (.int .i64 4) ∧ Below w.heap.size w w' := by
  have hk' : (T.kind != X.kind) = true := by simpa using hk
  obtain ⟨b, off, rfl, c0, c1, c2, c3, c4, c5, wf, hi⟩ := HX
  have hbl : b < w.heap.size := World.block_lt_of_cell? w _ c0
  have hne : ¬ b = w.heap.size := by omega
  have HB := Lib.hid (((Below.refl w.heap.size w).alloc (Nat.le_refl _) (.cells #[.int .i64 T.kind, .int .u64 T.num, .string T.text, .slice T.ia T.len T.cap] 26)).alloc (by simp) (.cells #[.int .i64 X.kind, .string X.name, .int .i64 X.bound, .int .i64 X.of, .int .i64 X.tag, .slice X.ia X.ilen X.icap] 42))
  have HQ1 := Lib.hid (show ((w.alloc (.cells #[.int .i64 T.kind, .int .u64 T.num, .string T.text, .slice T.ia T.len T.cap] 26)).alloc (.cells #[.int .i64 X.kind, .string X.name, .int .i64 X.bound, .int .i64 X.of, .int .i64 X.tag, .slice X.ia X.ilen X.icap] 42)).heap[w.heap.size]? = some (.cells #[.int .i64 T.kind, .int .u64 T.num, .string T.text, .slice T.ia T.len T.cap] 26) from alloc_old (alloc_at w _))
  have HQ2 := Lib.hid (show ((w.alloc (.cells #[.int .i64 T.kind, .int .u64 T.num, .string T.text, .slice T.ia T.len T.cap] 26)).alloc (.cells #[.int .i64 X.kind, .string X.name, .int .i64 X.bound, .int .i64 X.of, .int .i64 X.tag, .slice X.ia X.ilen X.icap] 42)).heap[w.heap.size + 1]? = some (.cells #[.int .i64 X.kind, .string X.name, .int .i64 X.bound, .int .i64 X.of, .int .i64 X.tag, .slice X.ia X.ilen X.icap] 42) by have := alloc_at (w.alloc (.cells #[.int .i64 T.kind, .int .u64 T.num, .string T.text, .slice T.ia T.len T.cap] 26)) (.cells #[.int .i64 X.kind, .string X.name, .int .i64 X.bound, .int .i64 X.of, .int .i64 X.tag, .slice X.ia X.ilen X.icap] 42); simpa using this)
  clear hi
  go_enter Tryz.func29, Tryz.ntmps29
  go_upto_region 2 with (fail)
  clear c0 c1 c2 c3 c4 c5 hbl hne
  generalize (w.alloc (.cells #[.int .i64 T.kind, .int .u64 T.num, .string T.text, .slice T.ia T.len T.cap] 26)).alloc (.cells #[.int .i64 X.kind, .string X.name, .int .i64 X.bound, .int .i64 X.of, .int .i64 X.tag, .slice X.ia X.ilen X.icap] 42) = W0 at *
  have d0 : W0.cell? ⟨w.heap.size, 0, none⟩ = some (.int .i64 T.kind) := cell_at HQ1.out rfl
  have d1 : W0.cell? ⟨w.heap.size, 1, none⟩ = some (.int .u64 T.num) := cell_at HQ1.out rfl
  have d2 : W0.cell? ⟨w.heap.size, 2, none⟩ = some (.string T.text) := cell_at HQ1.out rfl
  have d3 : W0.cell? ⟨w.heap.size, 3, none⟩ = some (.slice T.ia T.len T.cap) := cell_at HQ1.out rfl
  have x0 : W0.cell? ⟨w.heap.size + 1, 0, none⟩ = some (.int .i64 X.kind) := cell_at HQ2.out rfl
  have x2 : W0.cell? ⟨w.heap.size + 1, 2, none⟩ = some (.int .i64 X.bound) := cell_at HQ2.out rfl
  have x3 : W0.cell? ⟨w.heap.size + 1, 3, none⟩ = some (.int .i64 X.of) := cell_at HQ2.out rfl
  have x5 : W0.cell? ⟨w.heap.size + 1, 5, none⟩ = some (.slice X.ia X.ilen X.icap) := cell_at HQ2.out rfl
  go_wp2
  go_ret
  exact ⟨rfl, HB.out⟩
set_option maxHeartbeats 1000000 in
theorem chk_form (ao : Option Addr) (len cap t : Nat) (T : VT) (X : TypeV) (hlen : len ≤ 1000000) (ht : t < len) (hl : T.len ≤ 2513169434843) (w : World) (HX : TypeAt w ao t X) (hk : T.kind = X.kind) (hf : formT T = false) :
    Calls Tryz.prog 29 #[.slice ao len cap, .int .i64 t, .agg #[.int .i64 T.kind, .int .u64 T.num, .string T.text, .slice T.ia T.len T.cap]] w fun e w' => e = .returned (.int .i64 1) ∧ Below w.heap.size w w' := by
  have hk' : (T.kind != X.kind) = false := by simpa using hk
  have hfm := form9_any T hl
  rw [hf] at hfm
  have HF := Lib.hid hfm
  clear hk hf hfm
  obtain ⟨b, off, rfl, c0, c1, c2, c3, c4, c5, wf, hi⟩ := HX
  have hbl : b < w.heap.size := World.block_lt_of_cell? w _ c0
  have hne : ¬ b = w.heap.size := by omega
  have HB := Lib.hid (((Below.refl w.heap.size w).alloc (Nat.le_refl _) (.cells #[.int .i64 T.kind, .int .u64 T.num, .string T.text, .slice T.ia T.len T.cap] 26)).alloc (by simp) (.cells #[.int .i64 X.kind, .string X.name, .int .i64 X.bound, .int .i64 X.of, .int .i64 X.tag, .slice X.ia X.ilen X.icap] 42))
  have HQ1 := Lib.hid (show ((w.alloc (.cells #[.int .i64 T.kind, .int .u64 T.num, .string T.text, .slice T.ia T.len T.cap] 26)).alloc (.cells #[.int .i64 X.kind, .string X.name, .int .i64 X.bound, .int .i64 X.of, .int .i64 X.tag, .slice X.ia X.ilen X.icap] 42)).heap[w.heap.size]? = some (.cells #[.int .i64 T.kind, .int .u64 T.num, .string T.text, .slice T.ia T.len T.cap] 26) from alloc_old (alloc_at w _))
  have HQ2 := Lib.hid (show ((w.alloc (.cells #[.int .i64 T.kind, .int .u64 T.num, .string T.text, .slice T.ia T.len T.cap] 26)).alloc (.cells #[.int .i64 X.kind, .string X.name, .int .i64 X.bound, .int .i64 X.of, .int .i64 X.tag, .slice X.ia X.ilen X.icap] 42)).heap[w.heap.size + 1]? = some (.cells #[.int .i64 X.kind, .string X.name, .int .i64 X.bound, .int .i64 X.of, .int .i64 X.tag, .slice X.ia X.ilen X.icap] 42) by have := alloc_at (w.alloc (.cells #[.int .i64 T.kind, .int .u64 T.num, .string T.text, .slice T.ia T.len T.cap] 26)) (.cells #[.int .i64 X.kind, .string X.name, .int .i64 X.bound, .int .i64 X.of, .int .i64 X.tag, .slice X.ia X.ilen X.icap] 42); simpa using this)
  clear hi
  go_enter Tryz.func29, Tryz.ntmps29
  go_upto_region 2 with (fail)
  clear c0 c1 c2 c3 c4 c5 hbl hne
  generalize (w.alloc (.cells #[.int .i64 T.kind, .int .u64 T.num, .string T.text, .slice T.ia T.len T.cap] 26)).alloc (.cells #[.int .i64 X.kind, .string X.name, .int .i64 X.bound, .int .i64 X.of, .int .i64 X.tag, .slice X.ia X.ilen X.icap] 42) = W0 at *
  have d0 : W0.cell? ⟨w.heap.size, 0, none⟩ = some (.int .i64 T.kind) := cell_at HQ1.out rfl
  have d1 : W0.cell? ⟨w.heap.size, 1, none⟩ = some (.int .u64 T.num) := cell_at HQ1.out rfl
  have d2 : W0.cell? ⟨w.heap.size, 2, none⟩ = some (.string T.text) := cell_at HQ1.out rfl
  have d3 : W0.cell? ⟨w.heap.size, 3, none⟩ = some (.slice T.ia T.len T.cap) := cell_at HQ1.out rfl
  have x0 : W0.cell? ⟨w.heap.size + 1, 0, none⟩ = some (.int .i64 X.kind) := cell_at HQ2.out rfl
  have x2 : W0.cell? ⟨w.heap.size + 1, 2, none⟩ = some (.int .i64 X.bound) := cell_at HQ2.out rfl
  have x3 : W0.cell? ⟨w.heap.size + 1, 3, none⟩ = some (.int .i64 X.of) := cell_at HQ2.out rfl
  have x5 : W0.cell? ⟨w.heap.size + 1, 5, none⟩ = some (.slice X.ia X.ilen X.icap) := cell_at HQ2.out rfl
  go_wp2_with (go_at_call 45; refine (HF.out _).mono ?_; rintro e w1 ⟨rfl, hb1⟩; have HB1 := Lib.hid (below_step8' HB.out hb1); have d0 := keep hb1 (by exact d0); have d1 := keep hb1 (by exact d1); have d2 := keep hb1 (by exact d2); have d3 := keep hb1 (by exact d3); have x0 := keep hb1 (by exact x0); have x2 := keep hb1 (by exact x2); have x3 := keep hb1 (by exact x3); have x5 := keep hb1 (by exact x5); clear hb1)
  go_ret
  exact ⟨rfl, HB1.out⟩
set_option maxHeartbeats 1000000 in
theorem chk_text (ao : Option Addr) (len cap t : Nat) (T : VT) (X : TypeV) (hlen : len ≤ 1000000) (ht : t < len) (hl : T.len ≤ 2513169434843) (w : World) (HX : TypeAt w ao t X) (hk : T.kind = X.kind) (hf : formT T = true) (hK : X.kind = 10) (x : Int)
    (hU : ∀ wx, Below w.heap.size w wx → Calls Tryz.prog 46 #[.string T.text, .int .i64 X.bound] wx fun e w' => e = .returned (.int .i64 x) ∧ Below wx.heap.size wx w') :
    Calls Tryz.prog 29 #[.slice ao len cap, .int .i64 t, .agg #[.int .i64 T.kind, .int .u64 T.num, .string T.text, .slice T.ia T.len T.cap]] w fun e w' => e = .returned (.int .i64 x) ∧ Below w.heap.size w w' := by
  have hk' : (T.kind != X.kind) = false := by simpa using hk
  have hfm := form9_any T hl
  rw [hf] at hfm
  have HF := Lib.hid hfm
  have k10 : (X.kind == 10) = true := by rw [hK]; rfl
  have HU := Lib.hid hU
  clear hk hf hfm hK hU
  obtain ⟨b, off, rfl, c0, c1, c2, c3, c4, c5, wf, hi⟩ := HX
  have hbl : b < w.heap.size := World.block_lt_of_cell? w _ c0
  have hne : ¬ b = w.heap.size := by omega
  have HB := Lib.hid (((Below.refl w.heap.size w).alloc (Nat.le_refl _) (.cells #[.int .i64 T.kind, .int .u64 T.num, .string T.text, .slice T.ia T.len T.cap] 26)).alloc (by simp) (.cells #[.int .i64 X.kind, .string X.name, .int .i64 X.bound, .int .i64 X.of, .int .i64 X.tag, .slice X.ia X.ilen X.icap] 42))
  have HQ1 := Lib.hid (show ((w.alloc (.cells #[.int .i64 T.kind, .int .u64 T.num, .string T.text, .slice T.ia T.len T.cap] 26)).alloc (.cells #[.int .i64 X.kind, .string X.name, .int .i64 X.bound, .int .i64 X.of, .int .i64 X.tag, .slice X.ia X.ilen X.icap] 42)).heap[w.heap.size]? = some (.cells #[.int .i64 T.kind, .int .u64 T.num, .string T.text, .slice T.ia T.len T.cap] 26) from alloc_old (alloc_at w _))
  have HQ2 := Lib.hid (show ((w.alloc (.cells #[.int .i64 T.kind, .int .u64 T.num, .string T.text, .slice T.ia T.len T.cap] 26)).alloc (.cells #[.int .i64 X.kind, .string X.name, .int .i64 X.bound, .int .i64 X.of, .int .i64 X.tag, .slice X.ia X.ilen X.icap] 42)).heap[w.heap.size + 1]? = some (.cells #[.int .i64 X.kind, .string X.name, .int .i64 X.bound, .int .i64 X.of, .int .i64 X.tag, .slice X.ia X.ilen X.icap] 42) by have := alloc_at (w.alloc (.cells #[.int .i64 T.kind, .int .u64 T.num, .string T.text, .slice T.ia T.len T.cap] 26)) (.cells #[.int .i64 X.kind, .string X.name, .int .i64 X.bound, .int .i64 X.of, .int .i64 X.tag, .slice X.ia X.ilen X.icap] 42); simpa using this)
  clear hi
  go_enter Tryz.func29, Tryz.ntmps29
  go_upto_region 2 with (fail)
  clear c0 c1 c2 c3 c4 c5 hbl hne
  generalize (w.alloc (.cells #[.int .i64 T.kind, .int .u64 T.num, .string T.text, .slice T.ia T.len T.cap] 26)).alloc (.cells #[.int .i64 X.kind, .string X.name, .int .i64 X.bound, .int .i64 X.of, .int .i64 X.tag, .slice X.ia X.ilen X.icap] 42) = W0 at *
  have d0 : W0.cell? ⟨w.heap.size, 0, none⟩ = some (.int .i64 T.kind) := cell_at HQ1.out rfl
  have d1 : W0.cell? ⟨w.heap.size, 1, none⟩ = some (.int .u64 T.num) := cell_at HQ1.out rfl
  have d2 : W0.cell? ⟨w.heap.size, 2, none⟩ = some (.string T.text) := cell_at HQ1.out rfl
  have d3 : W0.cell? ⟨w.heap.size, 3, none⟩ = some (.slice T.ia T.len T.cap) := cell_at HQ1.out rfl
  have x0 : W0.cell? ⟨w.heap.size + 1, 0, none⟩ = some (.int .i64 X.kind) := cell_at HQ2.out rfl
  have x2 : W0.cell? ⟨w.heap.size + 1, 2, none⟩ = some (.int .i64 X.bound) := cell_at HQ2.out rfl
  have x3 : W0.cell? ⟨w.heap.size + 1, 3, none⟩ = some (.int .i64 X.of) := cell_at HQ2.out rfl
  have x5 : W0.cell? ⟨w.heap.size + 1, 5, none⟩ = some (.slice X.ia X.ilen X.icap) := cell_at HQ2.out rfl
  go_wp2_with (first
    | (go_at_call 45; refine (HF.out _).mono ?_; rintro e w1 ⟨rfl, hb1⟩; have HB1 := Lib.hid (below_step8' HB.out hb1); have d0 := keep hb1 (by exact d0); have d1 := keep hb1 (by exact d1); have d2 := keep hb1 (by exact d2); have d3 := keep hb1 (by exact d3); have x0 := keep hb1 (by exact x0); have x2 := keep hb1 (by exact x2); have x3 := keep hb1 (by exact x3); have x5 := keep hb1 (by exact x5); clear hb1)
    | (go_at_call 46; refine (HU.out _ HB1.out).mono ?_; rintro e w2 ⟨rfl, hb2⟩; have HB2 := Lib.hid (below_step8' HB1.out hb2); clear hb2))
  go_ret
  exact ⟨rfl, HB2.out⟩
set_option maxHeartbeats 1000000 in
theorem chk_union (ao : Option Addr) (len cap t : Nat) (T : VT) (X : TypeV) (hlen : len ≤ 1000000) (ht : t < len) (hl : T.len ≤ 2513169434843) (w : World) (HX : TypeAt w ao t X) (hk : T.kind = X.kind) (hf : formT T = true) (hK : X.kind = 14) (x : Int)
    (hU : ∀ wx, Below w.heap.size w wx → Calls Tryz.prog 51 #[.slice ao len cap, .int .i64 t, .agg #[.int .i64 T.kind, .int .u64 T.num, .string T.text, .slice T.ia T.len T.cap]] wx fun e w' => e = .returned (.int .i64 x) ∧ Below wx.heap.size wx w') :
    Calls Tryz.prog 29 #[.slice ao len cap, .int .i64 t, .agg #[.int .i64 T.kind, .int .u64 T.num, .string T.text, .slice T.ia T.len T.cap]] w fun e w' => e = .returned (.int .i64 x) ∧ Below w.heap.size w w' := by
  have hk' : (T.kind != X.kind) = false := by simpa using hk
  have hfm := form9_any T hl
  rw [hf] at hfm
  have HF := Lib.hid hfm
  have k10 : (X.kind == 10) = false := by rw [hK]; rfl
  have k11 : (X.kind == 11) = false := by rw [hK]; rfl
  have k12 : (X.kind == 12) = false := by rw [hK]; rfl
  have k13 : (X.kind == 13) = false := by rw [hK]; rfl
  have k14 : (X.kind == 14) = true := by rw [hK]; rfl
  have HU := Lib.hid hU
  clear hk hf hfm hK hU
  obtain ⟨b, off, rfl, c0, c1, c2, c3, c4, c5, wf, hi⟩ := HX
  have hbl : b < w.heap.size := World.block_lt_of_cell? w _ c0
  have hne : ¬ b = w.heap.size := by omega
  have HB := Lib.hid (((Below.refl w.heap.size w).alloc (Nat.le_refl _) (.cells #[.int .i64 T.kind, .int .u64 T.num, .string T.text, .slice T.ia T.len T.cap] 26)).alloc (by simp) (.cells #[.int .i64 X.kind, .string X.name, .int .i64 X.bound, .int .i64 X.of, .int .i64 X.tag, .slice X.ia X.ilen X.icap] 42))
  have HQ1 := Lib.hid (show ((w.alloc (.cells #[.int .i64 T.kind, .int .u64 T.num, .string T.text, .slice T.ia T.len T.cap] 26)).alloc (.cells #[.int .i64 X.kind, .string X.name, .int .i64 X.bound, .int .i64 X.of, .int .i64 X.tag, .slice X.ia X.ilen X.icap] 42)).heap[w.heap.size]? = some (.cells #[.int .i64 T.kind, .int .u64 T.num, .string T.text, .slice T.ia T.len T.cap] 26) from alloc_old (alloc_at w _))
  have HQ2 := Lib.hid (show ((w.alloc (.cells #[.int .i64 T.kind, .int .u64 T.num, .string T.text, .slice T.ia T.len T.cap] 26)).alloc (.cells #[.int .i64 X.kind, .string X.name, .int .i64 X.bound, .int .i64 X.of, .int .i64 X.tag, .slice X.ia X.ilen X.icap] 42)).heap[w.heap.size + 1]? = some (.cells #[.int .i64 X.kind, .string X.name, .int .i64 X.bound, .int .i64 X.of, .int .i64 X.tag, .slice X.ia X.ilen X.icap] 42) by have := alloc_at (w.alloc (.cells #[.int .i64 T.kind, .int .u64 T.num, .string T.text, .slice T.ia T.len T.cap] 26)) (.cells #[.int .i64 X.kind, .string X.name, .int .i64 X.bound, .int .i64 X.of, .int .i64 X.tag, .slice X.ia X.ilen X.icap] 42); simpa using this)
  clear hi
  go_enter Tryz.func29, Tryz.ntmps29
  go_upto_region 2 with (fail)
  clear c0 c1 c2 c3 c4 c5 hbl hne
  generalize (w.alloc (.cells #[.int .i64 T.kind, .int .u64 T.num, .string T.text, .slice T.ia T.len T.cap] 26)).alloc (.cells #[.int .i64 X.kind, .string X.name, .int .i64 X.bound, .int .i64 X.of, .int .i64 X.tag, .slice X.ia X.ilen X.icap] 42) = W0 at *
  have d0 : W0.cell? ⟨w.heap.size, 0, none⟩ = some (.int .i64 T.kind) := cell_at HQ1.out rfl
  have d1 : W0.cell? ⟨w.heap.size, 1, none⟩ = some (.int .u64 T.num) := cell_at HQ1.out rfl
  have d2 : W0.cell? ⟨w.heap.size, 2, none⟩ = some (.string T.text) := cell_at HQ1.out rfl
  have d3 : W0.cell? ⟨w.heap.size, 3, none⟩ = some (.slice T.ia T.len T.cap) := cell_at HQ1.out rfl
  have x0 : W0.cell? ⟨w.heap.size + 1, 0, none⟩ = some (.int .i64 X.kind) := cell_at HQ2.out rfl
  have x2 : W0.cell? ⟨w.heap.size + 1, 2, none⟩ = some (.int .i64 X.bound) := cell_at HQ2.out rfl
  have x3 : W0.cell? ⟨w.heap.size + 1, 3, none⟩ = some (.int .i64 X.of) := cell_at HQ2.out rfl
  have x5 : W0.cell? ⟨w.heap.size + 1, 5, none⟩ = some (.slice X.ia X.ilen X.icap) := cell_at HQ2.out rfl
  go_wp2_with (first
    | (go_at_call 45; refine (HF.out _).mono ?_; rintro e w1 ⟨rfl, hb1⟩; have HB1 := Lib.hid (below_step8' HB.out hb1); have d0 := keep hb1 (by exact d0); have d1 := keep hb1 (by exact d1); have d2 := keep hb1 (by exact d2); have d3 := keep hb1 (by exact d3); have x0 := keep hb1 (by exact x0); have x2 := keep hb1 (by exact x2); have x3 := keep hb1 (by exact x3); have x5 := keep hb1 (by exact x5); clear hb1)
    | (go_at_call 51; refine (HU.out _ HB1.out).mono ?_; rintro e w2 ⟨rfl, hb2⟩; have HB2 := Lib.hid (below_step8' HB1.out hb2); clear hb2))
  go_ret
  exact ⟨rfl, HB2.out⟩
set_option maxHeartbeats 1000000 in
theorem chk_num (ao : Option Addr) (len cap t : Nat) (T : VT) (X : TypeV) (hlen : len ≤ 1000000) (ht : t < len) (hl : T.len ≤ 2513169434843) (w : World) (HX : TypeAt w ao t X) (hk : T.kind = X.kind) (hf : formT T = true) (hK : X.kind < 10) (x : Int)
    (hU : ∀ wx, Below w.heap.size w wx → Calls Tryz.prog 52 #[.slice ao len cap, .int .i64 t, .int .u64 T.num] wx fun e w' => e = .returned (.int .i64 x) ∧ Below wx.heap.size wx w') :
    Calls Tryz.prog 29 #[.slice ao len cap, .int .i64 t, .agg #[.int .i64 T.kind, .int .u64 T.num, .string T.text, .slice T.ia T.len T.cap]] w fun e w' => e = .returned (.int .i64 x) ∧ Below w.heap.size w w' := by
  have hk' : (T.kind != X.kind) = false := by simpa using hk
  have hfm := form9_any T hl
  rw [hf] at hfm
  have HF := Lib.hid hfm
  have k10 : (X.kind == 10) = false := by simp; omega
  have k11 : (X.kind == 11) = false := by simp; omega
  have k12 : (X.kind == 12) = false := by simp; omega
  have k13 : (X.kind == 13) = false := by simp; omega
  have k14 : (X.kind == 14) = false := by simp; omega
  have HU := Lib.hid hU
  clear hk hf hfm hK hU
  obtain ⟨b, off, rfl, c0, c1, c2, c3, c4, c5, wf, hi⟩ := HX
  have hbl : b < w.heap.size := World.block_lt_of_cell? w _ c0
  have hne : ¬ b = w.heap.size := by omega
  have HB := Lib.hid (((Below.refl w.heap.size w).alloc (Nat.le_refl _) (.cells #[.int .i64 T.kind, .int .u64 T.num, .string T.text, .slice T.ia T.len T.cap] 26)).alloc (by simp) (.cells #[.int .i64 X.kind, .string X.name, .int .i64 X.bound, .int .i64 X.of, .int .i64 X.tag, .slice X.ia X.ilen X.icap] 42))
  have HQ1 := Lib.hid (show ((w.alloc (.cells #[.int .i64 T.kind, .int .u64 T.num, .string T.text, .slice T.ia T.len T.cap] 26)).alloc (.cells #[.int .i64 X.kind, .string X.name, .int .i64 X.bound, .int .i64 X.of, .int .i64 X.tag, .slice X.ia X.ilen X.icap] 42)).heap[w.heap.size]? = some (.cells #[.int .i64 T.kind, .int .u64 T.num, .string T.text, .slice T.ia T.len T.cap] 26) from alloc_old (alloc_at w _))
  have HQ2 := Lib.hid (show ((w.alloc (.cells #[.int .i64 T.kind, .int .u64 T.num, .string T.text, .slice T.ia T.len T.cap] 26)).alloc (.cells #[.int .i64 X.kind, .string X.name, .int .i64 X.bound, .int .i64 X.of, .int .i64 X.tag, .slice X.ia X.ilen X.icap] 42)).heap[w.heap.size + 1]? = some (.cells #[.int .i64 X.kind, .string X.name, .int .i64 X.bound, .int .i64 X.of, .int .i64 X.tag, .slice X.ia X.ilen X.icap] 42) by have := alloc_at (w.alloc (.cells #[.int .i64 T.kind, .int .u64 T.num, .string T.text, .slice T.ia T.len T.cap] 26)) (.cells #[.int .i64 X.kind, .string X.name, .int .i64 X.bound, .int .i64 X.of, .int .i64 X.tag, .slice X.ia X.ilen X.icap] 42); simpa using this)
  clear hi
  go_enter Tryz.func29, Tryz.ntmps29
  go_upto_region 2 with (fail)
  clear c0 c1 c2 c3 c4 c5 hbl hne
  generalize (w.alloc (.cells #[.int .i64 T.kind, .int .u64 T.num, .string T.text, .slice T.ia T.len T.cap] 26)).alloc (.cells #[.int .i64 X.kind, .string X.name, .int .i64 X.bound, .int .i64 X.of, .int .i64 X.tag, .slice X.ia X.ilen X.icap] 42) = W0 at *
  have d0 : W0.cell? ⟨w.heap.size, 0, none⟩ = some (.int .i64 T.kind) := cell_at HQ1.out rfl
  have d1 : W0.cell? ⟨w.heap.size, 1, none⟩ = some (.int .u64 T.num) := cell_at HQ1.out rfl
  have d2 : W0.cell? ⟨w.heap.size, 2, none⟩ = some (.string T.text) := cell_at HQ1.out rfl
  have d3 : W0.cell? ⟨w.heap.size, 3, none⟩ = some (.slice T.ia T.len T.cap) := cell_at HQ1.out rfl
  have x0 : W0.cell? ⟨w.heap.size + 1, 0, none⟩ = some (.int .i64 X.kind) := cell_at HQ2.out rfl
  have x2 : W0.cell? ⟨w.heap.size + 1, 2, none⟩ = some (.int .i64 X.bound) := cell_at HQ2.out rfl
  have x3 : W0.cell? ⟨w.heap.size + 1, 3, none⟩ = some (.int .i64 X.of) := cell_at HQ2.out rfl
  have x5 : W0.cell? ⟨w.heap.size + 1, 5, none⟩ = some (.slice X.ia X.ilen X.icap) := cell_at HQ2.out rfl
  go_wp2_with (first
    | (go_at_call 45; refine (HF.out _).mono ?_; rintro e w1 ⟨rfl, hb1⟩; have HB1 := Lib.hid (below_step8' HB.out hb1); have d0 := keep hb1 (by exact d0); have d1 := keep hb1 (by exact d1); have d2 := keep hb1 (by exact d2); have d3 := keep hb1 (by exact d3); have x0 := keep hb1 (by exact x0); have x2 := keep hb1 (by exact x2); have x3 := keep hb1 (by exact x3); have x5 := keep hb1 (by exact x5); clear hb1)
    | (go_at_call 52; refine (HU.out _ HB1.out).mono ?_; rintro e w2 ⟨rfl, hb2⟩; have HB2 := Lib.hid (below_step8' HB1.out hb2); clear hb2))
  go_ret
  exact ⟨rfl, HB2.out⟩
set_option maxHeartbeats 1000000 in
theorem chk_seq (ao : Option Addr) (len cap t : Nat) (T : VT) (X : TypeV) (hlen : len ≤ 1000000) (ht : t < len) (hl : T.len ≤ 2513169434843) (w : World) (HX : TypeAt w ao t X) (hk : T.kind = X.kind) (hf : formT T = true) (hK : X.kind = 11) (hxl : X.ilen ≤ 3518437208780) (x : Int)
    (hU : ∀ g1 g2 wx, Below w.heap.size w wx → wx.cell? ⟨g1, 0, none⟩ = some (.slice ao len cap) → wx.cell? ⟨g2, 0, none⟩ = some (.int .i64 X.of) → Calls Tryz.prog 47 #[.int .i64 X.bound, .slice T.ia T.len T.cap, .func (.func 77) #[] #[.pointer (some ⟨g1, 0, none⟩), .pointer (some ⟨g2, 0, none⟩)]] wx fun e w' => e = .returned (.int .i64 x) ∧ Below wx.heap.size wx w') :
    Calls Tryz.prog 29 #[.slice ao len cap, .int .i64 t, .agg #[.int .i64 T.kind, .int .u64 T.num, .string T.text, .slice T.ia T.len T.cap]] w fun e w' => e = .returned (.int .i64 x) ∧ Below w.heap.size w w' := by
  have hk' : (T.kind != X.kind) = false := by simpa using hk
  have hfm := form9_any T hl
  rw [hf] at hfm
  have HF := Lib.hid hfm
  have k10 : (X.kind == 10) = false := by rw [hK]; rfl
  have k11 : (X.kind == 11) = true := by rw [hK]; rfl
  have HU := Lib.hid hU
  have HM := Lib.hid (elem9_any ao len cap X.of)
  clear hk hf hfm hK hU
  obtain ⟨b, off, rfl, c0, c1, c2, c3, c4, c5, wf, hi⟩ := HX
  have hbl : b < w.heap.size := World.block_lt_of_cell? w _ c0
  have hne : ¬ b = w.heap.size := by omega
  have HB := Lib.hid (((Below.refl w.heap.size w).alloc (Nat.le_refl _) (.cells #[.int .i64 T.kind, .int .u64 T.num, .string T.text, .slice T.ia T.len T.cap] 26)).alloc (by simp) (.cells #[.int .i64 X.kind, .string X.name, .int .i64 X.bound, .int .i64 X.of, .int .i64 X.tag, .slice X.ia X.ilen X.icap] 42))
  have HQ1 := Lib.hid (show ((w.alloc (.cells #[.int .i64 T.kind, .int .u64 T.num, .string T.text, .slice T.ia T.len T.cap] 26)).alloc (.cells #[.int .i64 X.kind, .string X.name, .int .i64 X.bound, .int .i64 X.of, .int .i64 X.tag, .slice X.ia X.ilen X.icap] 42)).heap[w.heap.size]? = some (.cells #[.int .i64 T.kind, .int .u64 T.num, .string T.text, .slice T.ia T.len T.cap] 26) from alloc_old (alloc_at w _))
  have HQ2 := Lib.hid (show ((w.alloc (.cells #[.int .i64 T.kind, .int .u64 T.num, .string T.text, .slice T.ia T.len T.cap] 26)).alloc (.cells #[.int .i64 X.kind, .string X.name, .int .i64 X.bound, .int .i64 X.of, .int .i64 X.tag, .slice X.ia X.ilen X.icap] 42)).heap[w.heap.size + 1]? = some (.cells #[.int .i64 X.kind, .string X.name, .int .i64 X.bound, .int .i64 X.of, .int .i64 X.tag, .slice X.ia X.ilen X.icap] 42) by have := alloc_at (w.alloc (.cells #[.int .i64 T.kind, .int .u64 T.num, .string T.text, .slice T.ia T.len T.cap] 26)) (.cells #[.int .i64 X.kind, .string X.name, .int .i64 X.bound, .int .i64 X.of, .int .i64 X.tag, .slice X.ia X.ilen X.icap] 42); simpa using this)
  clear hi
  go_enter Tryz.func29, Tryz.ntmps29
  go_upto_region 2 with (fail)
  clear c0 c1 c2 c3 c4 c5 hbl hne
  generalize (w.alloc (.cells #[.int .i64 T.kind, .int .u64 T.num, .string T.text, .slice T.ia T.len T.cap] 26)).alloc (.cells #[.int .i64 X.kind, .string X.name, .int .i64 X.bound, .int .i64 X.of, .int .i64 X.tag, .slice X.ia X.ilen X.icap] 42) = W0 at *
  have d0 : W0.cell? ⟨w.heap.size, 0, none⟩ = some (.int .i64 T.kind) := cell_at HQ1.out rfl
  have d1 : W0.cell? ⟨w.heap.size, 1, none⟩ = some (.int .u64 T.num) := cell_at HQ1.out rfl
  have d2 : W0.cell? ⟨w.heap.size, 2, none⟩ = some (.string T.text) := cell_at HQ1.out rfl
  have d3 : W0.cell? ⟨w.heap.size, 3, none⟩ = some (.slice T.ia T.len T.cap) := cell_at HQ1.out rfl
  have x0 : W0.cell? ⟨w.heap.size + 1, 0, none⟩ = some (.int .i64 X.kind) := cell_at HQ2.out rfl
  have x2 : W0.cell? ⟨w.heap.size + 1, 2, none⟩ = some (.int .i64 X.bound) := cell_at HQ2.out rfl
  have x3 : W0.cell? ⟨w.heap.size + 1, 3, none⟩ = some (.int .i64 X.of) := cell_at HQ2.out rfl
  have x5 : W0.cell? ⟨w.heap.size + 1, 5, none⟩ = some (.slice X.ia X.ilen X.icap) := cell_at HQ2.out rfl
  go_upto_region 10 with (go_at_call 45; refine (HF.out _).mono ?_; rintro e w1 ⟨rfl, hb1⟩; have HB1 := Lib.hid (below_step8' HB.out hb1); have d0 := keep hb1 (by exact d0); have d1 := keep hb1 (by exact d1); have d2 := keep hb1 (by exact d2); have d3 := keep hb1 (by exact d3); have x0 := keep hb1 (by exact x0); have x2 := keep hb1 (by exact x2); have x3 := keep hb1 (by exact x3); have x5 := keep hb1 (by exact x5); clear hb1)
  go_wp2_with fail
  go_region_held3 (fun w' => w'.cell? ⟨w.heap.size + 1, 2, none⟩ = some (.int .i64 X.bound) ∧ w'.cell? ⟨w.heap.size, 3, none⟩ = some (.slice T.ia T.len T.cap) ∧ w'.cell? ⟨w.heap.size + 1, 3, none⟩ = some (.int .i64 X.of))
    (first | exact ⟨x2, d3, x3⟩ | fail)
    (first
      | (go_at_call 48; refine (HM.out _).mono ?_; rintro e w3 ⟨g1, g2, rfl, q1, q2, hb3⟩; have HB3 := Lib.hid (below_step8' (by first | exact HB1.out | exact HB1.out.drew) hb3); have x2 := keep hb3 (by exact x2); have d3 := keep hb3 (by exact d3); have x3 := keep hb3 (by exact x3))
      | (go_at_call 47; refine (HU.out _ _ _ (by first | exact HB3.out | exact HB3.out.drew) (by first | exact q1 | (rw [World.cell?_drew]; exact q1)) (by first | exact q2 | (rw [World.cell?_drew]; exact q2))).mono ?_; rintro e w4 ⟨rfl, hb4⟩; have HB4 := Lib.hid (below_step8' (by first | exact HB3.out | exact HB3.out.drew) hb4); have x2 := keep hb4 (by exact x2); have d3 := keep hb4 (by exact d3); have x3 := keep hb4 (by exact x3)))
  go_wp2
  go_ret
  exact ⟨rfl, HB4.out⟩
set_option maxHeartbeats 1000000 in
theorem chk_array (ao : Option Addr) (len cap t : Nat) (T : VT) (X : TypeV) (hlen : len ≤ 1000000) (ht : t < len) (hl : T.len ≤ 2513169434843) (w : World) (HX : TypeAt w ao t X) (hk : T.kind = X.kind) (hf : formT T = true) (hK : X.kind = 12) (hxl : X.ilen ≤ 3518437208780) (x : Int)
    (hU : ∀ g1 g2 wx, Below w.heap.size w wx → wx.cell? ⟨g1, 0, none⟩ = some (.slice ao len cap) → wx.cell? ⟨g2, 0, none⟩ = some (.int .i64 X.of) → Calls Tryz.prog 49 #[.int .i64 X.bound, .slice T.ia T.len T.cap, .func (.func 77) #[] #[.pointer (some ⟨g1, 0, none⟩), .pointer (some ⟨g2, 0, none⟩)]] wx fun e w' => e = .returned (.int .i64 x) ∧ Below wx.heap.size wx w') :
    Calls Tryz.prog 29 #[.slice ao len cap, .int .i64 t, .agg #[.int .i64 T.kind, .int .u64 T.num, .string T.text, .slice T.ia T.len T.cap]] w fun e w' => e = .returned (.int .i64 x) ∧ Below w.heap.size w w' := by
  have hk' : (T.kind != X.kind) = false := by simpa using hk
  have hfm := form9_any T hl
  rw [hf] at hfm
  have HF := Lib.hid hfm
  have k10 : (X.kind == 10) = false := by rw [hK]; rfl
  have k11 : (X.kind == 11) = false := by rw [hK]; rfl
  have k12 : (X.kind == 12) = true := by rw [hK]; rfl
  have HU := Lib.hid hU
  have HM := Lib.hid (elem9_any ao len cap X.of)
  clear hk hf hfm hK hU
  obtain ⟨b, off, rfl, c0, c1, c2, c3, c4, c5, wf, hi⟩ := HX
  have hbl : b < w.heap.size := World.block_lt_of_cell? w _ c0
  have hne : ¬ b = w.heap.size := by omega
  have HB := Lib.hid (((Below.refl w.heap.size w).alloc (Nat.le_refl _) (.cells #[.int .i64 T.kind, .int .u64 T.num, .string T.text, .slice T.ia T.len T.cap] 26)).alloc (by simp) (.cells #[.int .i64 X.kind, .string X.name, .int .i64 X.bound, .int .i64 X.of, .int .i64 X.tag, .slice X.ia X.ilen X.icap] 42))
  have HQ1 := Lib.hid (show ((w.alloc (.cells #[.int .i64 T.kind, .int .u64 T.num, .string T.text, .slice T.ia T.len T.cap] 26)).alloc (.cells #[.int .i64 X.kind, .string X.name, .int .i64 X.bound, .int .i64 X.of, .int .i64 X.tag, .slice X.ia X.ilen X.icap] 42)).heap[w.heap.size]? = some (.cells #[.int .i64 T.kind, .int .u64 T.num, .string T.text, .slice T.ia T.len T.cap] 26) from alloc_old (alloc_at w _))
  have HQ2 := Lib.hid (show ((w.alloc (.cells #[.int .i64 T.kind, .int .u64 T.num, .string T.text, .slice T.ia T.len T.cap] 26)).alloc (.cells #[.int .i64 X.kind, .string X.name, .int .i64 X.bound, .int .i64 X.of, .int .i64 X.tag, .slice X.ia X.ilen X.icap] 42)).heap[w.heap.size + 1]? = some (.cells #[.int .i64 X.kind, .string X.name, .int .i64 X.bound, .int .i64 X.of, .int .i64 X.tag, .slice X.ia X.ilen X.icap] 42) by have := alloc_at (w.alloc (.cells #[.int .i64 T.kind, .int .u64 T.num, .string T.text, .slice T.ia T.len T.cap] 26)) (.cells #[.int .i64 X.kind, .string X.name, .int .i64 X.bound, .int .i64 X.of, .int .i64 X.tag, .slice X.ia X.ilen X.icap] 42); simpa using this)
  clear hi
  go_enter Tryz.func29, Tryz.ntmps29
  go_upto_region 2 with (fail)
  clear c0 c1 c2 c3 c4 c5 hbl hne
  generalize (w.alloc (.cells #[.int .i64 T.kind, .int .u64 T.num, .string T.text, .slice T.ia T.len T.cap] 26)).alloc (.cells #[.int .i64 X.kind, .string X.name, .int .i64 X.bound, .int .i64 X.of, .int .i64 X.tag, .slice X.ia X.ilen X.icap] 42) = W0 at *
  have d0 : W0.cell? ⟨w.heap.size, 0, none⟩ = some (.int .i64 T.kind) := cell_at HQ1.out rfl
  have d1 : W0.cell? ⟨w.heap.size, 1, none⟩ = some (.int .u64 T.num) := cell_at HQ1.out rfl
  have d2 : W0.cell? ⟨w.heap.size, 2, none⟩ = some (.string T.text) := cell_at HQ1.out rfl
  have d3 : W0.cell? ⟨w.heap.size, 3, none⟩ = some (.slice T.ia T.len T.cap) := cell_at HQ1.out rfl
  have x0 : W0.cell? ⟨w.heap.size + 1, 0, none⟩ = some (.int .i64 X.kind) := cell_at HQ2.out rfl
  have x2 : W0.cell? ⟨w.heap.size + 1, 2, none⟩ = some (.int .i64 X.bound) := cell_at HQ2.out rfl
  have x3 : W0.cell? ⟨w.heap.size + 1, 3, none⟩ = some (.int .i64 X.of) := cell_at HQ2.out rfl
  have x5 : W0.cell? ⟨w.heap.size + 1, 5, none⟩ = some (.slice X.ia X.ilen X.icap) := cell_at HQ2.out rfl
  go_upto_region 12 with (go_at_call 45; refine (HF.out _).mono ?_; rintro e w1 ⟨rfl, hb1⟩; have HB1 := Lib.hid (below_step8' HB.out hb1); have d0 := keep hb1 (by exact d0); have d1 := keep hb1 (by exact d1); have d2 := keep hb1 (by exact d2); have d3 := keep hb1 (by exact d3); have x0 := keep hb1 (by exact x0); have x2 := keep hb1 (by exact x2); have x3 := keep hb1 (by exact x3); have x5 := keep hb1 (by exact x5); clear hb1)
  go_wp2_with fail
  go_region_held3 (fun w' => w'.cell? ⟨w.heap.size + 1, 2, none⟩ = some (.int .i64 X.bound) ∧ w'.cell? ⟨w.heap.size, 3, none⟩ = some (.slice T.ia T.len T.cap) ∧ w'.cell? ⟨w.heap.size + 1, 3, none⟩ = some (.int .i64 X.of))
    (first | exact ⟨x2, d3, x3⟩ | fail)
    (first
      | (go_at_call 48; refine (HM.out _).mono ?_; rintro e w3 ⟨g1, g2, rfl, q1, q2, hb3⟩; have HB3 := Lib.hid (below_step8' (by first | exact HB1.out | exact HB1.out.drew) hb3); have x2 := keep hb3 (by exact x2); have d3 := keep hb3 (by exact d3); have x3 := keep hb3 (by exact x3))
      | (go_at_call 49; refine (HU.out _ _ _ (by first | exact HB3.out | exact HB3.out.drew) (by first | exact q1 | (rw [World.cell?_drew]; exact q1)) (by first | exact q2 | (rw [World.cell?_drew]; exact q2))).mono ?_; rintro e w4 ⟨rfl, hb4⟩; have HB4 := Lib.hid (below_step8' (by first | exact HB3.out | exact HB3.out.drew) hb4); have x2 := keep hb4 (by exact x2); have d3 := keep hb4 (by exact d3); have x3 := keep hb4 (by exact x3)))
  go_wp2
  go_ret
  exact ⟨rfl, HB4.out⟩
set_option maxHeartbeats 1000000 in
theorem chk_struct (ao : Option Addr) (len cap t : Nat) (T : VT) (X : TypeV) (hlen : len ≤ 1000000) (ht : t < len) (hl : T.len ≤ 2513169434843) (w : World) (HX : TypeAt w ao t X) (hk : T.kind = X.kind) (hf : formT T = true) (hK : X.kind = 13) (hxl : X.ilen ≤ 3518437208780) (x : Int)
    (hU : ∀ g1 g2 wx, Below w.heap.size w wx → wx.cell? ⟨g1, 0, none⟩ = some (.slice ao len cap) → wx.cell? ⟨g2, 0, none⟩ = some (.slice X.ia X.ilen X.icap) → Calls Tryz.prog 49 #[.int .i64 X.ilen, .slice T.ia T.len T.cap, .func (.func 78) #[] #[.pointer (some ⟨g1, 0, none⟩), .pointer (some ⟨g2, 0, none⟩)]] wx fun e w' => e = .returned (.int .i64 x) ∧ Below wx.heap.size wx w') :
    Calls Tryz.prog 29 #[.slice ao len cap, .int .i64 t, .agg #[.int .i64 T.kind, .int .u64 T.num, .string T.text, .slice T.ia T.len T.cap]] w fun e w' => e = .returned (.int .i64 x) ∧ Below w.heap.size w w' := by
  have hk' : (T.kind != X.kind) = false := by simpa using hk
  have hfm := form9_any T hl
  rw [hf] at hfm
  have HF := Lib.hid hfm
  have k10 : (X.kind == 10) = false := by rw [hK]; rfl
  have k11 : (X.kind == 11) = false := by rw [hK]; rfl
  have k12 : (X.kind == 12) = false := by rw [hK]; rfl
  have k13 : (X.kind == 13) = true := by rw [hK]; rfl
  have HU := Lib.hid hU
  have HM := Lib.hid (memb9_any ao len cap X.ia X.ilen X.icap)
  clear hk hf hfm hK hU
  obtain ⟨b, off, rfl, c0, c1, c2, c3, c4, c5, wf, hi⟩ := HX
  have hbl : b < w.heap.size := World.block_lt_of_cell? w _ c0
  have hne : ¬ b = w.heap.size := by omega
  have HB := Lib.hid (((Below.refl w.heap.size w).alloc (Nat.le_refl _) (.cells #[.int .i64 T.kind, .int .u64 T.num, .string T.text, .slice T.ia T.len T.cap] 26)).alloc (by simp) (.cells #[.int .i64 X.kind, .string X.name, .int .i64 X.bound, .int .i64 X.of, .int .i64 X.tag, .slice X.ia X.ilen X.icap] 42))
  have HQ1 := Lib.hid (show ((w.alloc (.cells #[.int .i64 T.kind, .int .u64 T.num, .string T.text, .slice T.ia T.len T.cap] 26)).alloc (.cells #[.int .i64 X.kind, .string X.name, .int .i64 X.bound, .int .i64 X.of, .int .i64 X.tag, .slice X.ia X.ilen X.icap] 42)).heap[w.heap.size]? = some (.cells #[.int .i64 T.kind, .int .u64 T.num, .string T.text, .slice T.ia T.len T.cap] 26) from alloc_old (alloc_at w _))
  have HQ2 := Lib.hid (show ((w.alloc (.cells #[.int .i64 T.kind, .int .u64 T.num, .string T.text, .slice T.ia T.len T.cap] 26)).alloc (.cells #[.int .i64 X.kind, .string X.name, .int .i64 X.bound, .int .i64 X.of, .int .i64 X.tag, .slice X.ia X.ilen X.icap] 42)).heap[w.heap.size + 1]? = some (.cells #[.int .i64 X.kind, .string X.name, .int .i64 X.bound, .int .i64 X.of, .int .i64 X.tag, .slice X.ia X.ilen X.icap] 42) by have := alloc_at (w.alloc (.cells #[.int .i64 T.kind, .int .u64 T.num, .string T.text, .slice T.ia T.len T.cap] 26)) (.cells #[.int .i64 X.kind, .string X.name, .int .i64 X.bound, .int .i64 X.of, .int .i64 X.tag, .slice X.ia X.ilen X.icap] 42); simpa using this)
  clear hi
  go_enter Tryz.func29, Tryz.ntmps29
  go_upto_region 2 with (fail)
  clear c0 c1 c2 c3 c4 c5 hbl hne
  generalize (w.alloc (.cells #[.int .i64 T.kind, .int .u64 T.num, .string T.text, .slice T.ia T.len T.cap] 26)).alloc (.cells #[.int .i64 X.kind, .string X.name, .int .i64 X.bound, .int .i64 X.of, .int .i64 X.tag, .slice X.ia X.ilen X.icap] 42) = W0 at *
  have d0 : W0.cell? ⟨w.heap.size, 0, none⟩ = some (.int .i64 T.kind) := cell_at HQ1.out rfl
  have d1 : W0.cell? ⟨w.heap.size, 1, none⟩ = some (.int .u64 T.num) := cell_at HQ1.out rfl
  have d2 : W0.cell? ⟨w.heap.size, 2, none⟩ = some (.string T.text) := cell_at HQ1.out rfl
  have d3 : W0.cell? ⟨w.heap.size, 3, none⟩ = some (.slice T.ia T.len T.cap) := cell_at HQ1.out rfl
  have x0 : W0.cell? ⟨w.heap.size + 1, 0, none⟩ = some (.int .i64 X.kind) := cell_at HQ2.out rfl
  have x2 : W0.cell? ⟨w.heap.size + 1, 2, none⟩ = some (.int .i64 X.bound) := cell_at HQ2.out rfl
  have x3 : W0.cell? ⟨w.heap.size + 1, 3, none⟩ = some (.int .i64 X.of) := cell_at HQ2.out rfl
  have x5 : W0.cell? ⟨w.heap.size + 1, 5, none⟩ = some (.slice X.ia X.ilen X.icap) := cell_at HQ2.out rfl
  go_upto_region 14 with (go_at_call 45; refine (HF.out _).mono ?_; rintro e w1 ⟨rfl, hb1⟩; have HB1 := Lib.hid (below_step8' HB.out hb1); have d0 := keep hb1 (by exact d0); have d1 := keep hb1 (by exact d1); have d2 := keep hb1 (by exact d2); have d3 := keep hb1 (by exact d3); have x0 := keep hb1 (by exact x0); have x2 := keep hb1 (by exact x2); have x3 := keep hb1 (by exact x3); have x5 := keep hb1 (by exact x5); clear hb1)
  go_wp2_with fail
  go_region_held3 (fun w' => w'.cell? ⟨w.heap.size + 1, 5, none⟩ = some (.slice X.ia X.ilen X.icap) ∧ w'.cell? ⟨w.heap.size, 3, none⟩ = some (.slice T.ia T.len T.cap))
    (first | exact ⟨x5, d3⟩ | fail)
    (first
      | (go_at_call 50; refine (HM.out _).mono ?_; rintro e w3 ⟨g1, g2, rfl, q1, q2, hb3⟩; have HB3 := Lib.hid (below_step8' (by first | exact HB1.out | exact HB1.out.drew) hb3); have x5 := keep hb3 (by exact x5); have d3 := keep hb3 (by exact d3))
      | (go_at_call 49; refine (HU.out _ _ _ (by first | exact HB3.out | exact HB3.out.drew) (by first | exact q1 | (rw [World.cell?_drew]; exact q1)) (by first | exact q2 | (rw [World.cell?_drew]; exact q2))).mono ?_; rintro e w4 ⟨rfl, hb4⟩; have HB4 := Lib.hid (below_step8' (by first | exact HB3.out | exact HB3.out.drew) hb4); have x5 := keep hb4 (by exact x5); have d3 := keep hb4 (by exact d3)))
  go_wp2
  go_ret
  exact ⟨rfl, HB4.out⟩
end Go.Proofs.YtinmdkhafamibaaGreat
namespace Go.Proofs.YtinmdkhafamibaaGreat
open Go.RowKit
set_option linter.unusedVariables false
set_option maxHeartbeats 1000000 in
theorem union9_any (ao : Option Addr) (len cap : Nat) (L : Nat → TypeV) (hlen : len ≤ 1000000) (t : Nat) (ht : t < len) (T : VT) (hl : T.len ≤ 2513169434843) (hn : (Lit.int .u64 T.num).wf = true) (hcp : (L t).ilen ≤ (L t).icap) (k : Nat) (htg : (L t).tag = k) (hk : k < len) (x : Int) (w : World) (H : ∀ i, i < len → TypeAt w ao i (L i))
    (hA : ∀ a c g1 g2 wx, Below w.heap.size w wx → wx.cell? ⟨g1, 0, none⟩ = some (.slice ao len cap) → wx.cell? ⟨g2, 0, none⟩ = some (.slice a (brN (L t) T.num) c) → (∀ i, i < brN (L t) T.num → ItemAt wx a i ((L t).items ((branchZ (L t) T.num).toNat + i))) →
      Calls Tryz.prog 49 #[.int .i64 (brN (L t) T.num : Nat), .slice T.ia T.len T.cap, .func (.func 78) #[] #[.pointer (some ⟨g1, 0, none⟩), .pointer (some ⟨g2, 0, none⟩)]] wx fun e w' => e = .returned (.int .i64 x) ∧ Below wx.heap.size wx w') :
    Calls Tryz.prog 51 #[.slice ao len cap, .int .i64 t, .agg #[.int .i64 T.kind, .int .u64 T.num, .string T.text, .slice T.ia T.len T.cap]] w fun e w' => e = .returned (.int .i64 (if numE9 L k T.num ≠ 0 then numE9 L k T.num else x)) ∧ Below w.heap.size w w' := by
  have HN := Lib.hid (fun wx (hb : Below w.heap.size w wx) => num9_any ao len cap L hlen k hk T.num hn wx (hold H hb))
  have HBR := Lib.hid (fun wx (hb : Below w.heap.size w wx) => branch9_any ao len cap L hlen t ht T.num hcp wx (hold H hb))
  have HA := Lib.hid hA
  obtain ⟨b, off, rfl, c0, c1, c2, c3, c4, c5, wf, hi⟩ := H t ht
  rw [htg] at c4
  have hbl : b < w.heap.size := World.block_lt_of_cell? w _ c0
  have hne : ¬ b = w.heap.size := by omega
  obtain ⟨N, hN⟩ : ∃ N, numE9 L k T.num = N := ⟨_, rfl⟩
  rw [hN] at HN ⊢
  obtain ⟨R, hR⟩ : ∃ R, (if N ≠ 0 then N else x) = R := ⟨_, rfl⟩
  rw [hR]
  have HR := Lib.hid hR
  clear hR
  obtain ⟨m, hm⟩ : ∃ m, brN (L t) T.num = m := ⟨_, rfl⟩
  rw [hm] at HBR HA
  obtain ⟨I, hI⟩ : ∃ I : Nat → ItemV, (fun i => (L t).items ((branchZ (L t) T.num).toNat + i)) = I := ⟨_, rfl⟩
  have HBR2 := Lib.hid (show ∀ wx, Below w.heap.size w wx → Calls Tryz.prog 79 #[.slice (some ⟨b, off, none⟩) len cap, .int .i64 t, .int .u64 T.num] wx fun e w' => ∃ a c, e = .returned (.slice a m c) ∧ Hid (∀ i, i < m → ItemAt w' a i (I i)) ∧ Below wx.heap.size wx w' from fun wx hb => (HBR.out wx hb).mono fun _ _ ⟨a, c, h1, h2, h3⟩ => ⟨a, c, h1, Lib.hid (by subst hI; exact h2), h3⟩)
  have hml : m ≤ 1 := by rw [← hm]; unfold brN; split <;> omega
  have HA2 := Lib.hid (show ∀ a c g1 g2 wx, Below w.heap.size w wx → wx.cell? ⟨g1, 0, none⟩ = some (.slice (some ⟨b, off, none⟩) len cap) → wx.cell? ⟨g2, 0, none⟩ = some (.slice a m c) → (∀ i, i < m → ItemAt wx a i (I i)) → Calls Tryz.prog 49 #[.int .i64 m, .slice T.ia T.len T.cap, .func (.func 78) #[] #[.pointer (some ⟨g1, 0, none⟩), .pointer (some ⟨g2, 0, none⟩)]] wx fun e w' => e = .returned (.int .i64 x) ∧ Below wx.heap.size wx w' from fun a c g1 g2 wx h1 h2 h3 h4 => HA.out a c g1 g2 wx h1 h2 h3 (by subst hI; exact h4))
  clear HBR HA hI hm hN hi wf c1 c2 c3 c5 H hA hn hcp htg
  have HB := Lib.hid ((Below.refl w.heap.size w).alloc (Nat.le_refl _) (.cells #[.int .i64 T.kind, .int .u64 T.num, .string T.text, .slice T.ia T.len T.cap] 26))
  have HQ := Lib.hid (alloc_at w (.cells #[.int .i64 T.kind, .int .u64 T.num, .string T.text, .slice T.ia T.len T.cap] 26))
  have c4 := keep HB.out c4
  go_enter Tryz.func51, Tryz.ntmps51
  go_wp2_with fail
  generalize w.alloc (.cells #[.int .i64 T.kind, .int .u64 T.num, .string T.text, .slice T.ia T.len T.cap] 26) = W0 at *
  have d1 : W0.cell? ⟨w.heap.size, 1, none⟩ = some (.int .u64 T.num) := cell_at HQ.out rfl
  have d3 : W0.cell? ⟨w.heap.size, 3, none⟩ = some (.slice T.ia T.len T.cap) := cell_at HQ.out rfl
  go_region_held3 (fun w' => w'.cell? ⟨b, off + t * 6 + 4, none⟩ = some (.int .i64 k) ∧ w'.cell? ⟨w.heap.size, 1, none⟩ = some (.int .u64 T.num) ∧ w'.cell? ⟨w.heap.size, 3, none⟩ = some (.slice T.ia T.len T.cap))
    (first | exact ⟨c4, d1, d3⟩ | fail)
    (first | (go_at_call 52; refine (HN.out _ (by first | exact HB.out | exact HB.out.drew)).mono ?_; rintro e w1 ⟨rfl, hb1⟩; have HB1 := Lib.hid (below_step8' (by first | exact HB.out | exact HB.out.drew) hb1); have c4 := keep hb1 (by exact c4); have d1 := keep hb1 (by exact d1); have d3 := keep hb1 (by exact d3)))
  by_cases hN0 : N = 0
  · have hN0' : (N != 0) = false := by simpa using hN0
    have HF := Lib.hid (show x = R by rw [← HR.out, if_neg (by simpa using hN0)])
    clear hN0 HR
    go_wp2_with (go_at_call 79; refine (HBR2.out _ (by first | exact HB1.out | exact HB1.out.drew)).mono ?_; rintro e w2 ⟨a, c, rfl, HIT, hb2⟩; have HB2 := Lib.hid (below_step8' (by first | exact HB1.out | exact HB1.out.drew) hb2); have d3 := keep hb2 (by exact d3); clear hb2)
    have HM := Lib.hid (memb9_any (some ⟨b, off, none⟩) len cap a m c)
    go_region_held3 (fun w' => w'.cell? ⟨w.heap.size, 3, none⟩ = some (.slice T.ia T.len T.cap))
      (first | exact d3 | fail)
      (first
        | (go_at_call 50; refine (HM.out _).mono ?_; rintro e w3 ⟨g1, g2, rfl, q1, q2, hb3⟩; have HI3 := Lib.hid (show ∀ i, i < m → ItemAt w3 a i (I i) from fun i hi => (HIT.out i hi).held (by first | exact hb3 | exact (Below.refl _ _).drew.trans (hb3.mono (by simp)))); have HB3 := Lib.hid (below_step8' (by first | exact HB2.out | exact HB2.out.drew) hb3); have d3 := keep hb3 (by exact d3))
        | (go_at_call 49; refine (HA2.out _ _ _ _ _ (by first | exact HB3.out | exact HB3.out.drew) (by first | exact q1 | (rw [World.cell?_drew]; exact q1)) (by first | exact q2 | (rw [World.cell?_drew]; exact q2)) (by first | exact HI3.out | exact fun i hi => (HI3.out i hi).held (Below.refl _ _).drew)).mono ?_; rintro e w4 ⟨rfl, hb4⟩; have HB4 := Lib.hid (below_step8' (by first | exact HB3.out | exact HB3.out.drew) hb4); have d3 := keep hb4 (by exact d3)))
    go_wp2
    go_ret
    exact ⟨ret_i HF.out, HB4.out⟩
  · have hN0' : (N != 0) = true := by simpa using hN0
    have HF := Lib.hid (show N = R by rw [← HR.out, if_pos hN0])
    clear hN0 HR
    go_wp2
    go_ret
    exact ⟨ret_i HF.out, HB1.out⟩
def CFitTo (L : Nat → TypeV) (ao : Option Addr) (len cap : Nat) (T : VT) (t : Nat) (w : World) : Prop :=
  Calls Tryz.prog 29 #[.slice ao len cap, .int .i64 t, .agg #[.int .i64 T.kind, .int .u64 T.num, .string T.text, .slice T.ia T.len T.cap]] w fun e w' => e = .returned (.int .i64 (fitsT L T t)) ∧ Below w.heap.size w w'
theorem fits_leaf {L : Nat → TypeV} {T : VT} {t : Nat} (h : T.len = 0) : fitsT L T t = headE L t T := by
  rw [fitsT_eq, h, firstE_zero]
  by_cases c : headE L t T ≠ 0
  · rw [if_pos c]
  · rw [if_neg c]; exact (Classical.not_not.1 c).symm
theorem form_len {T : VT} (hf : formT T = true) (h : T.kind = 10 ∨ (1 ≤ T.kind ∧ T.kind < 10)) : T.len = 0 := by
  unfold formT at hf
  simp only [Bool.and_eq_true, Bool.or_eq_true, Bool.not_eq_true', beq_iff_eq, beq_eq_false_iff_ne] at hf
  obtain ⟨_, _, hl⟩ := hf
  rcases hl with ⟨h1, h2⟩ | h3
  · rcases h with h | h
    · exact absurd h h2
    · have : numK T.kind = true := by unfold numK; simp; omega
      rw [this] at h1; cases h1
  · omega
/-- a closure's calls, Item by Item -/
theorem elems9 {L : Nat → TypeV} {ao : Option Addr} {len cap : Nat} {S : Nat → Prop} {T : VT} {t p : Nat} {w : World} (HV : ValAt w S T) (HI : ∀ i, i < T.len → ∀ p, p < len → ∀ wx, Below w.heap.size w wx → CFitTo L ao len cap (T.kid i) p wx) (hp : p < len) (hpt : ∀ i, i < T.len → partT L t T.num i = p)
    {g1 g2 : Nat} {wx : World} (hb : Below w.heap.size w wx) (h1 : wx.cell? ⟨g1, 0, none⟩ = some (.slice ao len cap)) (h2 : wx.cell? ⟨g2, 0, none⟩ = some (.int .i64 p)) :
    Calls Tryz.prog 76 #[.slice T.ia T.len T.cap, .func (.func 77) #[] #[.pointer (some ⟨g1, 0, none⟩), .pointer (some ⟨g2, 0, none⟩)]] wx fun r w' => r = .returned (.int .i64 (firstE (fun i => fitsT L (T.kid i) (partT L t T.num i)) T.len)) ∧ Below wx.heap.size wx w' := by
  refine each9_any T.ia T.len T.cap T.kid S _ _ _ (val_len HV) wx (fun i hi wy hy => (kids_at HV (below_step8' hb hy) hi).1) eElem9 (fun i hi W hW => ?_)
  refine elemF9_any ao len cap p i (T.kid i) g1 g2 _ W (keep hW h1) (keep hW h2) (fun wy hy => ?_)
  rw [hpt i hi]
  exact HI i hi p hp wy (below_step8' (below_step8' hb hW) hy)
theorem membs9 {L : Nat → TypeV} {ao : Option Addr} {len cap : Nat} {S : Nat → Prop} {T : VT} {t : Nat} {w : World} (HV : ValAt w S T) (HI : ∀ i, i < T.len → ∀ p, p < len → ∀ wx, Below w.heap.size w wx → CFitTo L ao len cap (T.kid i) p wx)
    {ia : Option Addr} {n c : Nat} {I : Nat → ItemV} (hn : n ≤ 3518437208780) (hln : T.len = n) (hpt : ∀ i, i < T.len → (I i).type = (partT L t T.num i : Nat) ∧ partT L t T.num i < len)
    {g1 g2 : Nat} {wx : World} (hb : Below w.heap.size w wx) (hIt : ∀ i, i < n → ItemAt wx ia i (I i)) (h1 : wx.cell? ⟨g1, 0, none⟩ = some (.slice ao len cap)) (h2 : wx.cell? ⟨g2, 0, none⟩ = some (.slice ia n c)) :
    Calls Tryz.prog 76 #[.slice T.ia T.len T.cap, .func (.func 78) #[] #[.pointer (some ⟨g1, 0, none⟩), .pointer (some ⟨g2, 0, none⟩)]] wx fun r w' => r = .returned (.int .i64 (firstE (fun i => fitsT L (T.kid i) (partT L t T.num i)) T.len)) ∧ Below wx.heap.size wx w' := by
  refine each9_any T.ia T.len T.cap T.kid S _ _ _ (val_len HV) wx (fun i hi wy hy => (kids_at HV (below_step8' hb hy) hi).1) eMemb9 (fun i hi W hW => ?_)
  refine membF9_any ao len cap ia n c i (I i) (T.kid i) g1 g2 _ hn (by omega) W (keep hW h1) (keep hW h2) ((hIt i (by omega)).held hW) (fun wy hy => ?_)
  rw [(hpt i hi).1]
  exact HI i hi _ (hpt i hi).2 wy (below_step8' (below_step8' hb hW) hy)
theorem head_unf {L : Nat → TypeV} {T : VT} {t : Nat} (hk : T.kind = (L t).kind) (hf : formT T = true) : headE L t T = (if (L t).kind = 10 then textE T.text (L t).bound
  else if (L t).kind = 11 then (if (L t).bound < T.len then 3 else 0)
  else if (L t).kind = 12 then (if (T.len : Int) ≠ (L t).bound then 18 else 0)
  else if (L t).kind = 13 then (if T.len ≠ (L t).ilen then 18 else 0)
  else if (L t).kind = 14 then (if numE9 L (L t).tag.toNat T.num ≠ 0 then numE9 L (L t).tag.toNat T.num else if T.len ≠ brN (L t) T.num then 18 else 0)
  else numE9 L t T.num) := by
  unfold headE
  rw [if_neg (by simpa using hk), if_neg (by rw [hf]; decide)]
theorem check9_any (ao : Option Addr) (len cap : Nat) (L : Nat → TypeV) (hlen : len ≤ 1000000) (hv : ∀ i, i < len → OkT L i) (hcp : ∀ i, i < len → (L i).ilen ≤ (L i).icap) (S : Nat → Prop) :
    ∀ (T : VT) (t : Nat) (w : World), ValAt w S T → (∀ i, i < len → TypeAt w ao i (L i)) → t < len → CFitTo L ao len cap T t w := by
  refine VT.ind fun T ih t w HV H ht => ?_
  have HI := fun i (hi : i < T.len) p (hp : p < len) wx (hb : Below w.heap.size w wx) => ih i hi p wx (kids_at HV hb hi).2 (hold H hb) hp
  have hX := H t ht
  have hl := val_len HV
  have hwf := ((valAt_iff T).1 HV).1
  have okt := hv t ht
  obtain ⟨bX, offX, haoX, _, _, _, _, _, _, wfX, hiX⟩ := H t ht
  unfold CFitTo
  by_cases hk : T.kind = (L t).kind
  case neg =>
    have e : headE L t T = 4 := by unfold headE; rw [if_pos hk]
    rw [fits_head (by rw [e]; decide), e]
    exact chk_kind ao len cap t T (L t) hlen ht hl w hX hk
  cases hf : formT T with
  | false =>
    have e : headE L t T = 1 := by unfold headE; rw [if_neg (by simpa using hk), if_pos hf]
    rw [fits_head (by rw [e]; decide), e]
    exact chk_form ao len cap t T (L t) hlen ht hl w hX hk hf
  | true =>
    have eh := head_unf (L := L) (t := t) hk hf
    by_cases h10 : (L t).kind = 10
    · rw [if_pos h10] at eh
      rw [fits_leaf (form_len hf (.inl (hk.trans h10))), eh]
      exact chk_text ao len cap t T (L t) hlen ht hl w hX hk hf h10 _ (fun wx hb => (text9_any T.text (L t).bound hwf.2.2.1 wx).mono fun _ _ ⟨h1, h2⟩ => ⟨h1, h2 ▸ Below.refl _ _⟩)
    rw [if_neg h10] at eh
    by_cases h11 : (L t).kind = 11
    · rw [if_pos h11] at eh
      have ho := okt.of (.inl h11)
      obtain ⟨p, hp⟩ := Int.eq_ofNat_of_zero_le ho.1
      have hpt : ∀ i, i < T.len → partT L t T.num i = p := fun i _ => by unfold partT; rw [if_neg (by omega), if_neg (by omega), hp]; rfl
      have e : fitsT L T t = if (L t).bound < T.len then 3 else firstE (fun i => fitsT L (T.kid i) (partT L t T.num i)) T.len := by
        rw [fitsT_eq]
        by_cases c : (L t).bound < T.len
        · rw [if_pos c] at eh; rw [eh, if_pos (by decide), if_pos c]
        · rw [if_neg c] at eh; rw [eh, if_neg (by decide), if_neg c]
      rw [e]
      refine chk_seq ao len cap t T (L t) hlen ht hl w hX hk hf h11 hiX.1 _ (fun g1 g2 wx hb q1 q2 => ?_)
      exact upTo9_any _ T.ia T.len T.cap hl _ _ _ wx (elems9 HV HI (by omega) hpt hb q1 (by rw [q2, hp]))
    rw [if_neg h11] at eh
    by_cases h12 : (L t).kind = 12
    · rw [if_pos h12] at eh
      have ho := okt.of (.inr h12)
      obtain ⟨p, hp⟩ := Int.eq_ofNat_of_zero_le ho.1
      have hpt : ∀ i, i < T.len → partT L t T.num i = p := fun i _ => by unfold partT; rw [if_neg (by omega), if_neg (by omega), hp]; rfl
      have e : fitsT L T t = if (T.len : Int) ≠ (L t).bound then 18 else firstE (fun i => fitsT L (T.kid i) (partT L t T.num i)) T.len := by
        rw [fitsT_eq]
        by_cases c : (T.len : Int) ≠ (L t).bound
        · rw [if_pos c] at eh; rw [eh, if_pos (by decide), if_pos c]
        · rw [if_neg c] at eh; rw [eh, if_neg (by decide), if_neg c]
      rw [e]
      refine chk_array ao len cap t T (L t) hlen ht hl w hX hk hf h12 hiX.1 _ (fun g1 g2 wx hb q1 q2 => ?_)
      exact all9_any _ T.ia T.len T.cap hl _ _ _ wx (fun _ => elems9 HV HI (by omega) hpt hb q1 (by rw [q2, hp]))
    rw [if_neg h12] at eh
    by_cases h13 : (L t).kind = 13
    · rw [if_pos h13] at eh
      have e : fitsT L T t = if (T.len : Int) ≠ ((L t).ilen : Nat) then 18 else firstE (fun i => fitsT L (T.kid i) (partT L t T.num i)) T.len := by
        rw [fitsT_eq]
        by_cases c : T.len ≠ (L t).ilen
        · rw [if_pos c] at eh; rw [eh, if_pos (by decide), if_pos (by omega)]
        · rw [if_neg c] at eh; rw [eh, if_neg (by decide), if_neg (by omega)]
      rw [e]
      refine chk_struct ao len cap t T (L t) hlen ht hl w hX hk hf h13 hiX.1 _ (fun g1 g2 wx hb q1 q2 => ?_)
      refine all9_any _ T.ia T.len T.cap hl _ _ _ wx (fun hln => ?_)
      refine membs9 HV HI (I := (L t).items) hiX.1 (by omega) (fun i hi => ?_) hb (hiX.held hb).2 q1 q2
      have h2 := okt.items (.inl h13) i (by omega)
      unfold partT
      rw [if_pos h13]
      omega
    rw [if_neg h13] at eh
    by_cases h14 : (L t).kind = 14
    · rw [if_pos h14] at eh
      have htg := okt.tag h14
      obtain ⟨k, hkt⟩ := Int.eq_ofNat_of_zero_le htg.1
      rw [hkt, Int.toNat_natCast] at eh
      have e : fitsT L T t = if numE9 L k T.num ≠ 0 then numE9 L k T.num else if (T.len : Int) ≠ (brN (L t) T.num : Nat) then 18 else firstE (fun i => fitsT L (T.kid i) (partT L t T.num i)) T.len := by
        rw [fitsT_eq]
        by_cases c : numE9 L k T.num ≠ 0
        · rw [if_pos c] at eh; rw [eh, if_pos c, if_pos c]
        · rw [if_neg c] at eh
          rw [if_neg c]
          by_cases c : T.len ≠ brN (L t) T.num
          · rw [if_pos c] at eh; rw [eh, if_pos (by decide), if_pos (by omega)]
          · rw [if_neg c] at eh; rw [eh, if_neg (by decide), if_neg (by omega)]
      rw [e]
      refine chk_union ao len cap t T (L t) hlen ht hl w hX hk hf h14 _ (fun wx hb => ?_)
      refine union9_any ao len cap L hlen t ht T hl hwf.2.1 (hcp t ht) k hkt (by omega) _ wx (hold H hb) (fun a c g1 g2 wy hy q1 q2 hit => ?_)
      refine all9_any _ T.ia T.len T.cap hl _ _ _ wy (fun hln => ?_)
      have hbr : brN (L t) T.num ≤ 1 := by unfold brN; split <;> omega
      refine membs9 HV HI (I := fun i => (L t).items ((branchZ (L t) T.num).toNat + i)) (by omega) (by omega) (fun i hi => ?_) (below_step8' hb hy) hit q1 q2
      have hz : 0 ≤ branchZ (L t) T.num := by
        unfold brN at hln
        split at hln
        · rename_i ho; unfold okZ at ho; simpa using ho
        · omega
      have hz2 := branchZ_lt hz
      have h2 := okt.items (.inr h14) ((branchZ (L t) T.num).toNat + i) (by omega)
      unfold partT
      rw [if_neg h13, if_pos h14]
      omega
    rw [if_neg h14] at eh
    have hk14 := okt.kind
    rw [fits_leaf (form_len hf (.inr (by omega))), eh]
    exact chk_num ao len cap t T (L t) hlen ht hl w hX hk hf (by omega) _ (fun wx hb => num9_any ao len cap L hlen t ht T.num hwf.2.1 wx (hold H hb))
theorem fits9_any (ao : Option Addr) (len cap : Nat) (L : Nat → TypeV) (hlen : len ≤ 1000000) (hcap : len ≤ cap) (hcp : ∀ i, i < len → (L i).ilen ≤ (L i).icap) (S : Nat → Prop) (t : Int) (T : VT) (w : World) (HV : ValAt w S T) (H : ∀ i, i < len → TypeAt w ao i (L i)) :
    Calls Tryz.prog 17 #[.slice ao len cap, .int .i64 t, .agg #[.int .i64 T.kind, .int .u64 T.num, .string T.text, .slice T.ia T.len T.cap]] w fun e w' => e = .returned (.int .i64 (fitsA L len t T)) ∧ Below w.heap.size w w' := by
  have HH := Lib.hid (fun wx (hb : Below w.heap.size w wx) => has9_any ao len cap L t hlen hcap wx (hold H hb))
  have HB := Lib.hid ((Below.refl w.heap.size w).alloc (Nat.le_refl _) (.cells #[.int .i64 T.kind, .int .u64 T.num, .string T.text, .slice T.ia T.len T.cap] 26))
  have HQ := Lib.hid (alloc_at w (.cells #[.int .i64 T.kind, .int .u64 T.num, .string T.text, .slice T.ia T.len T.cap] 26))
  unfold fitsA
  cases hT : hasT L len t with
  | true =>
    obtain ⟨k, rfl, hk, hok⟩ := hasT_in hT
    rw [if_pos rfl, Int.toNat_natCast]
    rw [hT] at HH
    have hv := ok_all hok
    have HC := Lib.hid (fun wx (hb : Below w.heap.size w wx) => check9_any ao len cap L hlen hv hcp S T k wx (HV.next hb) (hold H hb) hk)
    unfold CFitTo at HC
    obtain ⟨x, hx⟩ : ∃ x, fitsT L T k = x := ⟨_, rfl⟩
    rw [hx] at HC ⊢
    clear hx hT hok hv HV H
    go_enter Tryz.func17, Tryz.ntmps17
    go_wp2_with (first
      | (go_at_call 28; refine (HH.out _ HB.out).mono ?_; rintro e w1 ⟨rfl, hb1⟩; have HB1 := Lib.hid (below_step8' HB.out hb1); have HQ1 := Lib.hid (box_keep HQ.out hb1); have d0 : w1.cell? ⟨w.heap.size, 0, none⟩ = some (.int .i64 T.kind) := cell_at HQ1.out rfl; have d1 : w1.cell? ⟨w.heap.size, 1, none⟩ = some (.int .u64 T.num) := cell_at HQ1.out rfl; have d2 : w1.cell? ⟨w.heap.size, 2, none⟩ = some (.string T.text) := cell_at HQ1.out rfl; have d3 : w1.cell? ⟨w.heap.size, 3, none⟩ = some (.slice T.ia T.len T.cap) := cell_at HQ1.out rfl; clear hb1)
      | (go_at_call 29; refine (HC.out _ HB1.out).mono ?_; rintro e w2 ⟨rfl, hb2⟩; have HB2 := Lib.hid (below_step8' HB1.out hb2); clear hb2))
    go_ret
    exact ⟨rfl, HB2.out⟩
  | false =>
    rw [if_neg (by decide)]
    rw [hT] at HH
    clear hT HV H
    go_enter Tryz.func17, Tryz.ntmps17
    go_wp2_with (go_at_call 28; refine (HH.out _ HB.out).mono ?_; rintro e w1 ⟨rfl, hb1⟩; have HB1 := Lib.hid (below_step8' HB.out hb1); clear hb1)
    go_ret
    exact ⟨rfl, HB1.out⟩
end Go.Proofs.YtinmdkhafamibaaGreat
namespace Go.Proofs.YtinmdkhafamibaaGreat
open Go.ChangeShapes Go.WideShapes Go.ChangeAt Go.RowKit
set_option linter.unusedVariables false
section
variable {H : Type} {enc : TypeId × Value → H} {w : World}
theorem items_of2 {v : Value} (h : [v] = [.slice none 0 0] ∨ ∃ (a : Addr) (len cap : Nat), [v] = [.slice (some a) len cap] ∧ len ≤ cap ∧ cap ≤ maxLen ∧ cap * Tryz.prog.bytesOf 45 ≤ 140737488351232 ∧
      ∀ i, i < cap → ∃ c : List Value, w.cells? 0 (a.add (i * 5)) 5 = some c ∧ Rdg enc Tryz.prog w 45 c) :
    ∃ (ao : Option Addr) (len cap : Nat) (L : Nat → ItemV), v = .slice ao len cap ∧ len ≤ cap ∧ len ≤ 3518437208780 ∧ ∀ i, i < len → ItemAt w ao i (L i) := by
  obtain ⟨ao, len, cap, L, e, hm, H⟩ := items_of h
  rcases h with h | ⟨a, len', cap', h, hl, hc, _⟩
  · obtain rfl : v = .slice none 0 0 := by simpa using h
    injection e with e1 e2 e3; subst e2 e3; exact ⟨ao, 0, 0, L, by rw [e1], Nat.le_refl _, hm, H⟩
  · obtain rfl : v = .slice (some a) len' cap' := by simpa using h
    injection e with e1 e2 e3; subst e1 e2 e3; exact ⟨some a, len', cap', L, rfl, hl, hm, H⟩
/-- a list of types, each with room for its items -/
theorem types_of3 {v : Value} (h : v = .slice none 0 0 ∨ ∃ (a : Addr) (len cap : Nat), v = .slice (some a) len cap ∧ len ≤ cap ∧ cap ≤ maxLen ∧ cap * Tryz.prog.bytesOf 42 ≤ 140737488351232 ∧
      ∀ i, i < cap → ∃ c : List Value, w.cells? 0 (a.add (i * 6)) 6 = some c ∧ Rdg enc Tryz.prog w 42 c) :
    ∃ (ao : Option Addr) (len cap : Nat) (L : Nat → TypeV), v = .slice ao len cap ∧ len ≤ cap ∧ len ≤ 140737488351232 ∧ (∀ i, i < len → (L i).ilen ≤ (L i).icap) ∧ ∀ i, i < len → TypeAt w ao i (L i) := by
  rcases h with rfl | ⟨a, len, cap, rfl, hl, hm, hby, hx⟩
  · exact ⟨none, 0, 0, default, rfl, Nat.le_refl _, Nat.zero_le _, fun i hi => by omega, fun i hi => by omega⟩
  · have hq : ∀ i, i < len → ∃ p : TypeV, p.ilen ≤ p.icap ∧ TypeAt w (some a) i p := by
      intro i hi
      obtain ⟨b, off, rfl, hc⟩ := slice_at (by omega) (by omega) hx
      obtain ⟨c, hcl, hat, hr⟩ := hc i (by omega)
      obtain ⟨x0, e0, w0⟩ := rdg_int Tryz.underlying3 (rdg_field Tryz.underlying42 hr 0 3 0 1 rfl (by kernel_rfl))
      obtain ⟨x1, e1, w1⟩ := rdg_string Tryz.underlying9 (rdg_field Tryz.underlying42 hr 1 9 1 1 rfl (by kernel_rfl))
      obtain ⟨x2, e2, w2⟩ := rdg_int Tryz.underlying3 (rdg_field Tryz.underlying42 hr 2 3 2 1 rfl (by kernel_rfl))
      obtain ⟨x3, e3, w3⟩ := rdg_int Tryz.underlying3 (rdg_field Tryz.underlying42 hr 3 3 3 1 rfl (by kernel_rfl))
      obtain ⟨x4, e4, w4⟩ := rdg_int Tryz.underlying3 (rdg_field Tryz.underlying42 hr 4 3 4 1 rfl (by kernel_rfl))
      have hf := rdg_field Tryz.underlying42 hr 5 40 5 1 rfl (by kernel_rfl)
      match c, hcl with
      | [c0, c1, c2, c3, c4, c5], _ =>
        simp at e0 e1 e2 e3 e4
        subst e0 e1 e2 e3 e4
        obtain ⟨ia, il, ic, Li, rfl, hic, hil, hiat⟩ := items_of2 (rdg_slice 5 Tryz.underlying40 (by kernel_rfl) hf)
        exact ⟨⟨x0, x1, x2, x3, x4, ia, il, ic, Li⟩, hic, b, off, rfl, hat 0 (by omega), hat 1 (by omega), hat 2 (by omega), hat 3 (by omega), hat 4 (by omega), hat 5 (by omega), ⟨w0, w2, w3, w4, w1⟩, hil, hiat⟩
    obtain ⟨L, hL⟩ := skolem hq
    refine ⟨some a, len, cap, L, rfl, hl, ?_, fun i hi => (hL i hi).1, fun i hi => (hL i hi).2⟩
    have hz : Tryz.prog.bytesOf 42 = 72 := by kernel_rfl
    rw [hz] at hby
    omega
end
def ex9I : Nat → ItemV := fun i => if i = 0 then ⟨⟨#[97]⟩, 0, 0, false, false⟩ else ⟨⟨#[98]⟩, 1, 0, false, false⟩
def ex9 (g : Nat) : Nat → TypeV := fun _ => ⟨9, ⟨#[69]⟩, 0, 0, 0, some ⟨g, 0, none⟩, 2, 2, ex9I⟩
def ex9IO : Obj := .cells #[.string ⟨#[97]⟩, .int .u64 0, .int .i64 0, .bool false, .bool false, .string ⟨#[98]⟩, .int .u64 1, .int .i64 0, .bool false, .bool false] 45
def ex9TO (g : Nat) : Obj := .cells #[.int .i64 9, .string ⟨#[69]⟩, .int .i64 0, .int .i64 0, .int .i64 0, .slice (some ⟨g, 0, none⟩) 2 2] 42
def ex9V (n : Int) : VT := .node 9 n ⟨#[]⟩ none 0 0 (fun _ => .nil)
theorem ex9_at (w : World) : ∀ i, i < 1 → TypeAt ((w.alloc ex9IO).alloc (ex9TO w.heap.size)) (some ⟨w.heap.size + 1, 0, none⟩) i (ex9 w.heap.size i) := by
  intro i hi
  obtain rfl : i = 0 := by omega
  have hq := alloc_at (w.alloc ex9IO) (ex9TO w.heap.size)
  rw [show (w.alloc ex9IO).heap.size = w.heap.size + 1 by simp] at hq
  have hb : ((w.alloc ex9IO).alloc (ex9TO w.heap.size)).heap[w.heap.size]? = some ex9IO := alloc_old (alloc_at w ex9IO)
  refine ⟨_, 0, rfl, cell_at hq rfl, cell_at hq rfl, cell_at hq rfl, cell_at hq rfl, cell_at hq rfl, cell_at hq rfl, by unfold TypeWf ex9; dsimp only; decide, ?_⟩
  refine ⟨by unfold ex9; dsimp only; decide, fun j hj => ?_⟩
  have hj2 : j = 0 ∨ j = 1 := by unfold ex9 at hj; simp at hj; omega
  rcases hj2 with rfl | rfl
  · exact ⟨_, 0, rfl, cell_at hb rfl, cell_at hb rfl, cell_at hb rfl, cell_at hb rfl, cell_at hb rfl, by unfold ItemWf ex9 ex9I; dsimp only; decide⟩
  · exact ⟨_, 0, rfl, cell_at hb rfl, cell_at hb rfl, cell_at hb rfl, cell_at hb rfl, cell_at hb rfl, by unfold ItemWf ex9 ex9I; dsimp only; decide⟩
theorem ex9_has (g : Nat) : hasT (ex9 g) 1 0 = true := by
  have h1 : fErr (oneR (ex9 0) 1) 1 = 0 := by decide +kernel
  have h3 : fErr (oneR (ex9 g) 1) 1 = fErr (oneR (ex9 0) 1) 1 := rfl
  exact hasT_yes (k := 0) (by decide) (h3.trans h1)
theorem ex9_fits (g : Nat) : fitsA (ex9 g) 1 0 (ex9V 2) = 7 ∧ fitsA (ex9 g) 1 0 (ex9V 1) = 0 := by
  unfold fitsA
  rw [ex9_has, if_pos rfl, if_pos rfl]
  rw [fits_leaf rfl, fits_leaf rfl]
  have h1 : headE (ex9 0) 0 (ex9V 2) = 7 := by decide +kernel
  have h2 : headE (ex9 0) 0 (ex9V 1) = 0 := by decide +kernel
  exact ⟨h1, h2⟩
theorem ex9V_at (w : World) (n : Int) (hn : (Lit.int .u64 n).wf = true) : ValAt w (fun _ => False) (ex9V n) :=
  (valAt_iff _).2 ⟨⟨by kernel_rfl, hn, by show (⟨#[]⟩ : ByteArray).size ≤ _; decide, by show 0 ≤ _; decide⟩, fun i hi => absurd hi (Nat.not_lt_zero i)⟩
end Go.Proofs.YtinmdkhafamibaaGreat
