/- Chapter 9 in plain words: what is wrong first with a value of a type. -/
import Derived.Test.YtficmdomnilhnaaGreatBoundsMath2
import Derived.Test.YtficmdomnilhnaaGreatValSame
import Derived.Lib.Bytealg
import Derived.Lib.IndexLaws
import Derived.Shelf.Abstract
import Derived.Deep.RegionHeld3
import Derived.BigGuardPart
import Derived.Laws.Externs
namespace Go.Proofs.YtficmdomnilhnaaGreat
open Go.RowKit
set_option linter.unusedVariables false
/-- what a kind has not is its zero value -/
def formT (T : VT) : Bool := ((numK T.kind || T.kind == 14) || T.num == 0) && ((T.kind == 10 || T.text.toList.isEmpty) && ((!numK T.kind && !(T.kind == 10)) || (T.len : Int) == 0))
/-- a byte 0 in a text -/
def zeroIn (s : ByteArray) : Bool := decide (0 ≤ Lib.indexByte s.data.toList 0)
/-- a number that a type of numbers has -/
def numOk (L : Nat → TypeV) (t : Nat) (n : Int) : Bool := if (L t).kind = 9 then okZ (valueZ (L t) n) else mayK (L t).kind n
def textE (s : ByteArray) (bound : Int) : Int := if bound < s.size then 3 else if zeroIn s then 10 else 0
def numE9 (L : Nat → TypeV) (t : Nat) (n : Int) : Int := if numOk L t n then 0 else 7
/-- how many Items a TUnion's value has -/
def brN (T : TypeV) (n : Int) : Nat := if okZ (branchZ T n) then 1 else 0
/-- what is wrong with a value itself -/
def headE (L : Nat → TypeV) (t : Nat) (T : VT) : Int :=
  if T.kind ≠ (L t).kind then 4 else if formT T = false then 1
  else if (L t).kind = 10 then textE T.text (L t).bound
  else if (L t).kind = 11 then (if (L t).bound < T.len then 3 else 0)
  else if (L t).kind = 12 then (if (T.len : Int) ≠ (L t).bound then 18 else 0)
  else if (L t).kind = 13 then (if T.len ≠ (L t).ilen then 18 else 0)
  else if (L t).kind = 14 then (if numE9 L (L t).tag.toNat T.num ≠ 0 then numE9 L (L t).tag.toNat T.num else if T.len ≠ brN (L t) T.num then 18 else 0)
  else numE9 L t T.num
/-- the type of an Item -/
def partT (L : Nat → TypeV) (t : Nat) (n : Int) (i : Nat) : Nat :=
  if (L t).kind = 13 then ((L t).items i).type.toNat else if (L t).kind = 14 then ((L t).items ((branchZ (L t) n).toNat + i)).type.toNat else (L t).of.toNat
/-- what is wrong first with a value -/
def fitsT (L : Nat → TypeV) : VT → Nat → Int
  | .nil, t => headE L t .nil
  | .node k n s a l c f, t => if headE L t (.node k n s a l c f) ≠ 0 then headE L t (.node k n s a l c f) else firstE (fun i => fitsT L (f i) (partT L t n i)) l
theorem fitsT_eq (L : Nat → TypeV) (T : VT) (t : Nat) : fitsT L T t = if headE L t T ≠ 0 then headE L t T else firstE (fun i => fitsT L (T.kid i) (partT L t T.num i)) T.len := by
  cases T with
  | nil =>
    have : firstE (fun i => fitsT L (VT.nil.kid i) (partT L t VT.nil.num i)) VT.nil.len = 0 := firstE_none (fun i hi => absurd hi (Nat.not_lt_zero i))
    rw [this]
    show headE L t .nil = _
    by_cases h : headE L t .nil ≠ 0
    · rw [if_pos h]
    · rw [if_neg h]; exact Classical.not_not.1 h
  | node => rfl
theorem fits_head {L : Nat → TypeV} {T : VT} {t : Nat} (h : headE L t T ≠ 0) : fitsT L T t = headE L t T := by rw [fitsT_eq, if_pos h]
theorem fits_kids {L : Nat → TypeV} {T : VT} {t : Nat} (h : headE L t T = 0) : fitsT L T t = firstE (fun i => fitsT L (T.kid i) (partT L t T.num i)) T.len := by rw [fitsT_eq, if_neg (by rw [h]; decide)]
/-- the parts of a type that may be: ahead of it, and less deep -/
theorem part_ok {L : Nat → TypeV} {t : Nat} {T : VT} (h : OkT L t) (h0 : headE L t T = 0) {i : Nat} (hi : i < T.len) : partT L t T.num i < t ∧ deepN L (partT L t T.num i) + 1 ≤ deepN L t := by
  unfold headE at h0
  split at h0; · cases h0
  rename_i hk
  have hk : T.kind = (L t).kind := Classical.not_not.1 hk
  split at h0; · cases h0
  rename_i hf
  have hf : formT T = true := by simpa using hf
  unfold formT at hf
  simp only [Bool.and_eq_true, Bool.or_eq_true, Bool.not_eq_true', beq_iff_eq, beq_eq_false_iff_ne] at hf
  obtain ⟨_, _, hl⟩ := hf
  have hl : numK T.kind = false ∧ T.kind ≠ 10 := by
    rcases hl with h | h
    · exact h
    · omega
  unfold partT
  split at h0
  · rename_i h10; exact absurd (hk.trans h10) hl.2
  rename_i n10
  split at h0
  · rename_i h11
    rw [if_neg (by omega), if_neg (by omega)]
    have := h.of (.inl h11)
    omega
  rename_i n11
  split at h0
  · rename_i h12
    rw [if_neg (by omega), if_neg (by omega)]
    have := h.of (.inr h12)
    omega
  rename_i n12
  split at h0
  · rename_i h13
    rw [if_pos h13]
    split at h0; · cases h0
    rename_i hn
    have := h.items (.inl h13) i (by omega)
    omega
  rename_i n13
  split at h0
  · rename_i h14
    rw [if_neg n13, if_pos h14]
    split at h0; · rename_i hne; exact absurd h0 hne
    split at h0; · cases h0
    rename_i hn
    have hn : T.len = brN (L t) T.num := Classical.not_not.1 hn
    unfold brN at hn
    by_cases hb : okZ (branchZ (L t) T.num) = true
    · rw [if_pos hb] at hn
      have hz : 0 ≤ branchZ (L t) T.num := by unfold okZ at hb; simpa using hb
      have hz2 : branchZ (L t) T.num < (L t).ilen := by
        have e : branchZ (L t) T.num = branchZ (L t) T.num := rfl
        have hlt : ∀ p, 0 ≤ firstZ p (L t).ilen → firstZ p (L t).ilen < (L t).ilen := fun p hp => by
          rcases firstZ_cases p (L t).ilen with ⟨k, hk, e, _, _⟩ | ⟨e, _⟩ <;> omega
        unfold branchZ at hz ⊢
        rw [if_pos h14] at hz ⊢
        split
        · rename_i hc; omega
        · rename_i hc; rw [if_neg hc] at hz; exact hlt _ hz
      have := h.items (.inr h14) ((branchZ (L t) T.num).toNat + i) (by omega)
      omega
    · rw [if_neg hb] at hn; omega
  rename_i n14
  exfalso
  have := h.kind
  have : numK (L t).kind = true := by unfold numK; simp; omega
  rw [hk, this] at hl
  exact absurd hl.1 (by decide)
/-- what is of a type is no deeper than it -/
theorem fits_deep {L : Nat → TypeV} {len : Nat} (hv : ∀ i, i < len → OkT L i) : ∀ (T : VT) (t : Nat), t < len → fitsT L T t = 0 → deepT T ≤ deepN L t := by
  refine VT.ind fun T ih t ht h => ?_
  have hh : headE L t T = 0 := by
    by_cases c : headE L t T = 0
    · exact c
    · rw [fits_head c] at h; exact h
  rw [fits_kids hh] at h
  have hz : ∀ i, i < T.len → fitsT L (T.kid i) (partT L t T.num i) = 0 := by
    obtain ⟨h1, h2, h3⟩ := firstN_is (fun j => fitsT L (T.kid j) (partT L t T.num j) != 0) T.len
    by_cases c : firstN (fun j => fitsT L (T.kid j) (partT L t T.num j) != 0) T.len < T.len
    · rw [firstE_at (e := fun j => fitsT L (T.kid j) (partT L t T.num j)) h2 c (h3 c)] at h
      have h4 := h3 c
      simp only at h h4
      rw [h] at h4; cases h4
    · intro i hi
      have := h2 i (by omega)
      simpa using this
  rw [deepT_eq]
  have hd := (hv t ht).deep
  have := maxTo_le (f := fun i => deepT (T.kid i)) (m := deepN L t - 1) T.len (fun i hi => by
    have hp := part_ok (hv t ht) hh hi
    have := ih i hi _ (by omega) (hz i hi)
    show deepT (T.kid i) ≤ _
    omega)
  omega
theorem fits_zero {L : Nat → TypeV} {T : VT} {t : Nat} (h : fitsT L T t = 0) : headE L t T = 0 ∧ ∀ i, i < T.len → fitsT L (T.kid i) (partT L t T.num i) = 0 := by
  have hh : headE L t T = 0 := by
    by_cases c : headE L t T = 0
    · exact c
    · rw [fits_head c] at h; exact h
  refine ⟨hh, ?_⟩
  rw [fits_kids hh] at h
  obtain ⟨h1, h2, h3⟩ := firstN_is (fun j => fitsT L (T.kid j) (partT L t T.num j) != 0) T.len
  by_cases c : firstN (fun j => fitsT L (T.kid j) (partT L t T.num j) != 0) T.len < T.len
  · rw [firstE_at (e := fun j => fitsT L (T.kid j) (partT L t T.num j)) h2 c (h3 c)] at h
    have h4 := h3 c
    simp only at h h4
    rw [h] at h4; cases h4
  · intro i hi
    have := h2 i (by omega)
    simpa using this
/-- the answer of Fits -/
def fitsA (L : Nat → TypeV) (len : Nat) (t : Int) (T : VT) : Int := if hasT L len t then fitsT L T t.toNat else 8
end Go.Proofs.YtficmdomnilhnaaGreat
namespace Go.Proofs.YtficmdomnilhnaaGreat
open Go.RowKit
set_option linter.unusedVariables false
theorem fault_zero9 (E A : Int) (w : World) : (binOp .eql 81 (.agg #[.int .i64 E, .int .i64 A]) (.agg #[.int .i64 0, .int .i64 0])).run Tryz.prog w = .ok (.bool ((E == 0) && (A == 0))) w := fault_eql E A 0 0 w
theorem has9_any (ao : Option Addr) (len cap : Nat) (L : Nat → TypeV) (t : Int) (hlen : len ≤ 1000000) (hcap : len ≤ cap) (w : World) (H : ∀ i, i < len → TypeAt w ao i (L i)) :
    Calls Tryz.prog 24 #[.slice ao len cap, .int .i64 t] w fun e w' => e = .returned (.bool (hasT L len t)) ∧ Below w.heap.size w w' := by
  by_cases ht : 0 ≤ t ∧ t < len
  · obtain ⟨h0, h1⟩ := ht
    have hT : hasT L len t = ((fErr (oneR L len) len == 0) && (fAt (oneR L len) len == 0)) := by unfold hasT inL; rw [decide_eq_true h0, decide_eq_true h1]; rfl
    rw [hT]
    have hc := check6_any ao len cap L hlen hcap w H
    rw [fault_same] at hc
    unfold faultV at hc
    obtain ⟨E, hE⟩ : ∃ E, fErr (oneR L len) len = E := ⟨_, rfl⟩
    obtain ⟨A, hA⟩ : ∃ A, fAt (oneR L len) len = A := ⟨_, rfl⟩
    rw [hE, hA] at hc ⊢
    have hfe := fun w => fault_zero9 E A w
    obtain ⟨q, hq⟩ : ∃ q, ((E == 0) && (A == 0)) = q := ⟨_, rfl⟩
    rw [hq] at hfe ⊢
    have HC := Lib.hid hc
    clear hc hE hA hT hq H
    go_enter Tryz.func24, Tryz.ntmps24
    go_wp2_with (go_at_call 38; refine HC.out.mono ?_; rintro e w1 ⟨rfl, hb1⟩; have HB1 := Lib.hid hb1; clear hb1)
    go_ret
    exact ⟨rfl, HB1.out⟩
  · have hT : hasT L len t = false := by unfold hasT; rw [inL_no ht]; rfl
    rw [hT]
    clear hT H
    by_cases h0 : 0 ≤ t
    · have h1 : ¬ t < len := fun h => ht ⟨h0, h⟩
      clear ht
      go_enter Tryz.func24, Tryz.ntmps24
      go_wp2
      go_ret
      exact ⟨rfl, Below.refl _ _⟩
    · clear ht
      go_enter Tryz.func24, Tryz.ntmps24
      go_wp2
      go_ret
      exact ⟨rfl, Below.refl _ _⟩
set_option maxRecDepth 100000 in
theorem lite_IndexByte (s : ByteArray) (w : World) : Calls Tryz.prog 98 #[.string s, .int .u8 0] w fun e w' => e = .returned (.int .i64 (Lib.indexByte s.data.toList 0)) ∧ w = w' := by
  go_enter Tryz.func98, Tryz.ntmps98
  go_wp2
  rw [run_callFunc_extern Tryz.func132 (by kernel_rfl) (by kernel_rfl) (by kernel_rfl) (e := Extern.BytealgIndexByte.indexByte) (by kernel_rfl), Lib.run_indexByteString]
  simp only [Result.andThen]
  rw [Oper.upon_value]
  go_wp2
  go_ret
  exact ⟨rfl, rfl⟩
set_option maxRecDepth 100000 in
theorem str_IndexByte (s : ByteArray) (w : World) : Calls Tryz.prog 67 #[.string s, .int .u8 0] w fun e w' => e = .returned (.int .i64 (Lib.indexByte s.data.toList 0)) ∧ w = w' := by
  go_enter Tryz.func67, Tryz.ntmps67
  go_wp2_with (go_at_call 98; refine (lite_IndexByte s _).mono ?_; rintro e w' ⟨rfl, rfl⟩)
  go_ret
  exact ⟨rfl, rfl⟩
theorem text9_any (s : ByteArray) (bound : Int) (hs : s.size ≤ 140737488351232) (w : World) : Calls Tryz.prog 40 #[.string s, .int .i64 bound] w fun e w' => e = .returned (.int .i64 (textE s bound)) ∧ w = w' := by
  have hm : s.size ≤ maxLen := by unfold maxLen; omega
  by_cases h1 : bound < s.size
  · have e : textE s bound = 3 := by unfold textE; rw [if_pos h1]
    rw [e]
    go_enter Tryz.func40, Tryz.ntmps40
    go_wp2
    go_ret
    exact ⟨rfl, rfl⟩
  · have HI := Lib.hid (fun w => str_IndexByte s w)
    obtain ⟨z, hz⟩ : ∃ z, Lib.indexByte s.data.toList 0 = z := ⟨_, rfl⟩
    have e : textE s bound = if 0 ≤ z then 10 else 0 := by unfold textE zeroIn; rw [if_neg h1, hz]; simp
    rw [e]
    rw [hz] at HI
    clear e hz
    by_cases h2 : 0 ≤ z
    · rw [if_pos h2]
      go_enter Tryz.func40, Tryz.ntmps40
      go_wp2_with (go_at_call 67; refine (HI.out _).mono ?_; rintro e w' ⟨rfl, rfl⟩)
      go_ret
      exact ⟨rfl, rfl⟩
    · rw [if_neg h2]
      go_enter Tryz.func40, Tryz.ntmps40
      go_wp2_with (go_at_call 67; refine (HI.out _).mono ?_; rintro e w' ⟨rfl, rfl⟩)
      go_ret
      exact ⟨rfl, rfl⟩
set_option maxHeartbeats 1000000 in
theorem form9_any (T : VT) (hl : T.len ≤ 2513169434843) (w : World) : Calls Tryz.prog 39 #[.agg #[.int .i64 T.kind, .int .u64 T.num, .string T.text, .slice T.ia T.len T.cap]] w fun e w' => e = .returned (.bool (formT T)) ∧ Below w.heap.size w w' := by
  obtain ⟨k, hk⟩ : ∃ k, T.kind = k := ⟨_, rfl⟩
  obtain ⟨r, hr⟩ : ∃ r, formT T = r := ⟨_, rfl⟩
  have HN := Lib.hid (number_any k)
  have HB := Lib.hid ((Below.refl w.heap.size w).alloc (Nat.le_refl _) (.cells #[.int .i64 k, .int .u64 T.num, .string T.text, .slice T.ia T.len T.cap] 26))
  have HQ := Lib.hid (alloc_at w (.cells #[.int .i64 k, .int .u64 T.num, .string T.text, .slice T.ia T.len T.cap] 26))
  have HR := Lib.hid hr
  rw [hr, hk]
  unfold formT at HR
  rw [hk] at HR
  obtain ⟨c, hc⟩ : ∃ c, numK k = c := ⟨_, rfl⟩
  rw [hc] at HR HN
  clear hk hr hc
  go_enter Tryz.func39, Tryz.ntmps39
  cases c
  all_goals
    go_wp2_with (go_at_call 66; refine (HN.out _).mono ?_; rintro e w1 ⟨rfl, hb1⟩; have HB := Lib.hid (below_step8' HB.out hb1); have HQ := Lib.hid (box_keep HQ.out hb1); clear hb1; have d0 : w1.cell? ⟨w.heap.size, 0, none⟩ = some (.int .i64 k) := cell_at HQ.out rfl; have d1 : w1.cell? ⟨w.heap.size, 1, none⟩ = some (.int .u64 T.num) := cell_at HQ.out rfl; have d2 : w1.cell? ⟨w.heap.size, 2, none⟩ = some (.string T.text) := cell_at HQ.out rfl; have d3 : w1.cell? ⟨w.heap.size, 3, none⟩ = some (.slice T.ia T.len T.cap) := cell_at HQ.out rfl)
    all_goals
      go_ret
      refine ⟨ret_bool ?_, HB.out⟩
      rw [← HR.out]
      simp [*]
theorem branchZ_lt {T : TypeV} {n : Int} (hz : 0 ≤ branchZ T n) : branchZ T n < T.ilen := by
  have hlt : ∀ p, 0 ≤ firstZ p T.ilen → firstZ p T.ilen < T.ilen := fun p hp => by
    rcases firstZ_cases p T.ilen with ⟨k, hk, e, _, _⟩ | ⟨e, _⟩ <;> omega
  unfold branchZ at hz ⊢
  split at hz
  · rename_i h14
    rw [if_pos h14]
    split
    · rename_i hc; omega
    · rename_i hc; rw [if_neg hc] at hz; exact hlt _ hz
  · exact absurd hz (by decide)
set_option maxHeartbeats 1000000 in
theorem num9_any (ao : Option Addr) (len cap : Nat) (L : Nat → TypeV) (hlen : len ≤ 1000000) (t : Nat) (ht : t < len) (n : Int) (hn : (Lit.int .u64 n).wf = true) (w : World) (H : ∀ i, i < len → TypeAt w ao i (L i)) :
    Calls Tryz.prog 46 #[.slice ao len cap, .int .i64 t, .int .u64 n] w fun e w' => e = .returned (.int .i64 (numE9 L t n)) ∧ Below w.heap.size w w' := by
  have hv := fun wx (hb : Below w.heap.size w wx) => value6_any ao len cap L t n (by omega) wx (hold H hb)
  have e1 : valueL L len (t : Nat) n = valueZ (L t) n := by unfold valueL; rw [inL_yes ht]; rfl
  rw [e1] at hv
  obtain ⟨z, hz⟩ : ∃ z, valueZ (L t) n = z := ⟨_, rfl⟩
  rw [hz] at hv
  unfold foundV at hv
  have HV := Lib.hid hv
  have hm := may_any (L t).kind n hn
  obtain ⟨m, hmk⟩ : ∃ m, mayK (L t).kind n = m := ⟨_, rfl⟩
  rw [hmk] at hm
  have HM := Lib.hid hm
  obtain ⟨b, off, rfl, c0, c1, c2, c3, c4, c5, wf, hi⟩ := H t ht
  obtain ⟨k, hk⟩ : ∃ k, (L t).kind = k := ⟨_, rfl⟩
  obtain ⟨r, hr⟩ : ∃ r, numE9 L t n = r := ⟨_, rfl⟩
  rw [hr]
  unfold numE9 numOk at hr
  rw [hk, hz, ← hk, hmk, hk] at hr
  rw [hk] at c0 HM
  have HR := Lib.hid hr
  clear hv hm e1 hz hmk hk hr H hi wf c1 c2 c3 c4 c5
  by_cases h9 : k = 9
  · have h9' : (k == 9) = true := by simpa using h9
    obtain ⟨o, ho⟩ : ∃ o, okZ z = o := ⟨_, rfl⟩
    have hr := HR.out
    rw [if_pos h9, ho] at hr
    rw [ho] at HV
    clear HR ho h9
    cases o
    all_goals
      have HR := Lib.hid hr
      clear hr
      go_enter Tryz.func46, Tryz.ntmps46
      go_wp2_with (first
        | (go_at_call 72; refine (HM.out _).mono ?_; rintro e w1 ⟨rfl, hb1⟩; have HB1 := Lib.hid hb1; have c0 := keep hb1 (by exact c0); clear hb1)
        | (go_at_call 73; refine (HV.out _ HB1.out).mono ?_; rintro e w2 ⟨rfl, hb2⟩; have HB2 := Lib.hid (below_step8' HB1.out hb2); clear hb2))
      go_ret
      exact ⟨ret_i (by rw [← HR.out]; rfl), HB2.out⟩
  · have h9' : (k == 9) = false := by simpa using h9
    have hr := HR.out
    rw [if_neg h9] at hr
    clear HR h9
    cases m
    all_goals
      have HR := Lib.hid hr
      clear hr
      go_enter Tryz.func46, Tryz.ntmps46
      go_wp2_with (first
        | (go_at_call 72; refine (HM.out _).mono ?_; rintro e w1 ⟨rfl, hb1⟩; have HB1 := Lib.hid hb1; have c0 := keep hb1 (by exact c0); clear hb1))
      go_ret
      exact ⟨ret_i (by rw [← HR.out]; rfl), HB1.out⟩
theorem itemAt_shift {w : World} {ib io k : Nat} {x : ItemV} (h : ItemAt w (some ⟨ib, io, none⟩) k x) : ItemAt w (some ⟨ib, io + k * 5, none⟩) 0 x := by
  obtain ⟨b, off, e, h0, h1, h2, h3, h4, r⟩ := h
  cases e
  exact ⟨ib, io + k * 5, rfl, by simpa using h0, by simpa using h1, by simpa using h2, by simpa using h3, by simpa using h4, r⟩
set_option maxHeartbeats 1000000 in
/-- the one branch that a TUnion has for a number, or none -/
theorem branch9_any (ao : Option Addr) (len cap : Nat) (L : Nat → TypeV) (hlen : len ≤ 1000000) (t : Nat) (ht : t < len) (n : Int) (hcp : (L t).ilen ≤ (L t).icap) (w : World) (H : ∀ i, i < len → TypeAt w ao i (L i)) :
    Calls Tryz.prog 71 #[.slice ao len cap, .int .i64 t, .int .u64 n] w fun e w' =>
      ∃ a c, e = .returned (.slice a (brN (L t) n) c) ∧ (∀ i, i < brN (L t) n → ItemAt w' a i ((L t).items ((branchZ (L t) n).toNat + i))) ∧ Below w.heap.size w w' := by
  have hv := fun wx (hb : Below w.heap.size w wx) => branch6_any ao len cap L t n (by omega) wx (hold H hb)
  have e1 : branchL L len (t : Nat) n = branchZ (L t) n := by unfold branchL; rw [inL_yes ht]; rfl
  rw [e1] at hv
  have hlt := branchZ_lt (T := L t) (n := n)
  obtain ⟨b, off, rfl, c0, c1, c2, c3, c4, c5, wf, hi⟩ := H t ht
  have HI := Lib.hid hi
  obtain ⟨T, hT⟩ : ∃ T, L t = T := ⟨_, rfl⟩
  rw [hT] at hv hlt c5 HI hcp ⊢
  obtain ⟨z, hz⟩ : ∃ z, branchZ T n = z := ⟨_, rfl⟩
  have HN := Lib.hid (show brN T n = if okZ z then 1 else 0 by unfold brN; rw [hz])
  rw [hz] at hv hlt ⊢
  unfold foundV at hv
  have hil := hi.1
  clear hi H wf c0 c1 c2 c3 c4 e1 hT hz
  by_cases h0 : 0 ≤ z
  · have ho : okZ z = true := by unfold okZ; simpa using h0
    have hp : posZ z = z := by unfold posZ; rw [if_neg (by omega)]
    have e : brN T n = 1 := by rw [HN.out, ho]; rfl
    rw [e]
    rw [ho, hp] at hv
    obtain ⟨k, rfl⟩ := Int.eq_ofNat_of_zero_le h0
    have hk : k < T.ilen := by have := hlt h0; omega
    obtain ⟨ib, io, hia, i0, i1, i2, i3, i4, iw⟩ := HI.out.2 k hk
    have HX := Lib.hid (show ItemAt w T.ia k (T.items k) from HI.out.2 k hk)
    rw [hia] at c5
    have HA := Lib.hid hia
    have HV := Lib.hid hv
    have hk1 : k + 1 ≤ T.icap := by omega
    have hil : T.ilen ≤ 3518437208780 := HI.out.1
    clear hv ho hp e HN hlt h0 i0 i1 i2 i3 i4 hia
    go_enter Tryz.func71, Tryz.ntmps71
    go_wp2_with (go_at_call 99; refine (HV.out _ (Below.refl _ _)).mono ?_; rintro e w2 ⟨rfl, hb2⟩; have HB2 := Lib.hid hb2; have c5 := keep hb2 (by exact c5); clear hb2)
    go_ret
    refine ⟨some ⟨ib, io + k * 5, none⟩, T.icap - k, rfl, fun i hi => ?_, HB2.out⟩
    obtain rfl : i = 0 := by omega
    rw [Int.toNat_natCast, Nat.add_zero]
    have hx := HX.out.held HB2.out
    rw [HA.out] at hx
    exact itemAt_shift hx
  · have ho : okZ z = false := by unfold okZ; simpa using h0
    have e : brN T n = 0 := by rw [HN.out, ho]; rfl
    rw [e]
    rw [ho] at hv
    have HV := Lib.hid hv
    clear hv ho e HN hlt h0
    go_enter Tryz.func71, Tryz.ntmps71
    go_wp2_with (go_at_call 99; refine (HV.out _ (Below.refl _ _)).mono ?_; rintro e w2 ⟨rfl, hb2⟩; have HB2 := Lib.hid hb2; clear hb2)
    go_ret
    exact ⟨none, 0, rfl, fun i hi => absurd hi (Nat.not_lt_zero i), HB2.out⟩
end Go.Proofs.YtficmdomnilhnaaGreat
namespace Go.Proofs.YtficmdomnilhnaaGreat
open Go.RowKit
set_option linter.unusedVariables false
theorem elem9_any (ao : Option Addr) (len cap : Nat) (x : Int) (w : World) : Calls Tryz.prog 42 #[.slice ao len cap, .int .i64 x] w fun e w' =>
    ∃ g1 g2, e = .returned (.func (.func 69) #[] #[.pointer (some ⟨g1, 0, none⟩), .pointer (some ⟨g2, 0, none⟩)]) ∧ w'.cell? ⟨g1, 0, none⟩ = some (.slice ao len cap) ∧ w'.cell? ⟨g2, 0, none⟩ = some (.int .i64 x) ∧ Below w.heap.size w w' := by
  have hmf' := hmf
  go_enter Tryz.func42, Tryz.ntmps42
  go_wp2
  go_ret
  refine ⟨_, _, rfl, ?_, ?_, (((Below.refl _ _).alloc (Nat.le_refl _) _).alloc (by simp) _)⟩
  · simp
  · simp
theorem memb9_any (ao : Option Addr) (len cap : Nat) (ia : Option Addr) (n c : Nat) (w : World) : Calls Tryz.prog 44 #[.slice ao len cap, .slice ia n c] w fun e w' =>
    ∃ g1 g2, e = .returned (.func (.func 70) #[] #[.pointer (some ⟨g1, 0, none⟩), .pointer (some ⟨g2, 0, none⟩)]) ∧ w'.cell? ⟨g1, 0, none⟩ = some (.slice ao len cap) ∧ w'.cell? ⟨g2, 0, none⟩ = some (.slice ia n c) ∧ Below w.heap.size w w' := by
  have hmf' := hmf
  go_enter Tryz.func44, Tryz.ntmps44
  go_wp2
  go_ret
  refine ⟨_, _, rfl, ?_, ?_, (((Below.refl _ _).alloc (Nat.le_refl _) _).alloc (by simp) _)⟩
  · simp
  · simp
theorem eElem9 : Enters 69 := enters_of Tryz.func69 (by kernel_rfl) rfl
theorem eMemb9 : Enters 70 := enters_of Tryz.func70 (by kernel_rfl) rfl
theorem elemF9_any (ao : Option Addr) (len cap : Nat) (p i : Int) (T : VT) (g1 g2 : Nat) (x : Int) (w : World) (h1 : w.cell? ⟨g1, 0, none⟩ = some (.slice ao len cap)) (h2 : w.cell? ⟨g2, 0, none⟩ = some (.int .i64 p))
    (hf : ∀ wx, Below w.heap.size w wx → Calls Tryz.prog 25 #[.slice ao len cap, .int .i64 p, .agg #[.int .i64 T.kind, .int .u64 T.num, .string T.text, .slice T.ia T.len T.cap]] wx fun e w' => e = .returned (.int .i64 x) ∧ Below wx.heap.size wx w') :
    Calls Tryz.prog 69 #[.int .i64 i, .agg #[.int .i64 T.kind, .int .u64 T.num, .string T.text, .slice T.ia T.len T.cap], .pointer (some ⟨g1, 0, none⟩), .pointer (some ⟨g2, 0, none⟩)] w fun e w' => e = .returned (.int .i64 x) ∧ Below w.heap.size w w' := by
  have HB := Lib.hid ((Below.refl w.heap.size w).alloc (Nat.le_refl _) (.cells #[.int .i64 T.kind, .int .u64 T.num, .string T.text, .slice T.ia T.len T.cap] 26))
  have HF := Lib.hid hf
  have hl1 := World.block_lt_of_cell? w _ h1
  have hl2 := World.block_lt_of_cell? w _ h2
  have hn1 : ¬ g1 = w.heap.size := by simp at hl1; omega
  have hn2 : ¬ g2 = w.heap.size := by simp at hl2; omega
  clear hf
  go_enter Tryz.func69, Tryz.ntmps69
  go_wp2_with (go_at_call 25; refine (HF.out _ HB.out).mono ?_; rintro e w1 ⟨rfl, hb1⟩; have HB1 := Lib.hid (below_step8' HB.out hb1); clear hb1)
  go_ret
  exact ⟨rfl, HB1.out⟩
set_option maxHeartbeats 1000000 in
theorem membF9_any (ao : Option Addr) (len cap : Nat) (ia : Option Addr) (n c i : Nat) (X : ItemV) (T : VT) (g1 g2 : Nat) (x : Int) (hn : n ≤ 3518437208780) (hi : i < n) (w : World) (h1 : w.cell? ⟨g1, 0, none⟩ = some (.slice ao len cap)) (h2 : w.cell? ⟨g2, 0, none⟩ = some (.slice ia n c)) (hX : ItemAt w ia i X)
    (hf : ∀ wx, Below w.heap.size w wx → Calls Tryz.prog 25 #[.slice ao len cap, .int .i64 X.type, .agg #[.int .i64 T.kind, .int .u64 T.num, .string T.text, .slice T.ia T.len T.cap]] wx fun e w' => e = .returned (.int .i64 x) ∧ Below wx.heap.size wx w') :
    Calls Tryz.prog 70 #[.int .i64 i, .agg #[.int .i64 T.kind, .int .u64 T.num, .string T.text, .slice T.ia T.len T.cap], .pointer (some ⟨g1, 0, none⟩), .pointer (some ⟨g2, 0, none⟩)] w fun e w' => e = .returned (.int .i64 x) ∧ Below w.heap.size w w' := by
  have HB := Lib.hid ((Below.refl w.heap.size w).alloc (Nat.le_refl _) (.cells #[.int .i64 T.kind, .int .u64 T.num, .string T.text, .slice T.ia T.len T.cap] 26))
  have HQ := Lib.hid (alloc_at w (.cells #[.int .i64 T.kind, .int .u64 T.num, .string T.text, .slice T.ia T.len T.cap] 26))
  have HF := Lib.hid hf
  obtain ⟨b, off, rfl, c0, c1, c2, c3, c4, wi⟩ := hX
  have k1 := keep HB.out h1
  have k2 := keep HB.out h2
  have k3 := keep HB.out c2
  have hl1 := World.block_lt_of_cell? w _ h1
  have hl2 := World.block_lt_of_cell? w _ h2
  have hl3 := World.block_lt_of_cell? w _ c2
  have hn1 : ¬ g1 = w.heap.size := by simp at hl1; omega
  have hn2 : ¬ g2 = w.heap.size := by simp at hl2; omega
  have hn3 : ¬ b = w.heap.size := by simp at hl3; omega
  clear hf c0 c1 c3 c4 wi
  go_enter Tryz.func70, Tryz.ntmps70
  go_wp2_with fail
  generalize w.alloc (.cells #[.int .i64 T.kind, .int .u64 T.num, .string T.text, .slice T.ia T.len T.cap] 26) = W0 at *
  have d0 : W0.cell? ⟨w.heap.size, 0, none⟩ = some (.int .i64 T.kind) := cell_at HQ.out rfl
  have d1 : W0.cell? ⟨w.heap.size, 1, none⟩ = some (.int .u64 T.num) := cell_at HQ.out rfl
  have d2 : W0.cell? ⟨w.heap.size, 2, none⟩ = some (.string T.text) := cell_at HQ.out rfl
  have d3 : W0.cell? ⟨w.heap.size, 3, none⟩ = some (.slice T.ia T.len T.cap) := cell_at HQ.out rfl
  go_region_held3 (fun w' => w'.cell? ⟨g1, 0, none⟩ = some (.slice ao len cap) ∧ w'.cell? ⟨g2, 0, none⟩ = some (.slice (some ⟨b, off, none⟩) n c) ∧ w'.cell? ⟨b, off + i * 5 + 2, none⟩ = some (.int .i64 X.type) ∧ w'.cell? ⟨w.heap.size, 0, none⟩ = some (.int .i64 T.kind) ∧ w'.cell? ⟨w.heap.size, 1, none⟩ = some (.int .u64 T.num) ∧ w'.cell? ⟨w.heap.size, 2, none⟩ = some (.string T.text) ∧ w'.cell? ⟨w.heap.size, 3, none⟩ = some (.slice T.ia T.len T.cap))
    (first | exact ⟨k1, k2, k3, d0, d1, d2, d3⟩ | exact ⟨keep hb1 (by exact k1), keep hb1 (by exact k2), keep hb1 (by exact k3), keep hb1 (by exact d0), keep hb1 (by exact d1), keep hb1 (by exact d2), keep hb1 (by exact d3)⟩ | fail)
    (first | (go_at_call 25; refine (HF.out _ (by first | exact HB.out | exact HB.out.drew)).mono ?_; rintro e w1 ⟨rfl, hb1⟩; have HB1 := Lib.hid (below_step8' (by first | exact HB.out | exact HB.out.drew) hb1)))
  go_wp2
  go_ret
  exact ⟨rfl, HB1.out⟩
set_option maxHeartbeats 2000000 in
theorem each9_any (ia : Option Addr) (n cap : Nat) (K : Nat → VT) (S : Nat → Prop) (g : Nat) (lb : Array Value) (e : Nat → Int) (hn : n ≤ 2513169434843) (w : World) (hC : ∀ i, i < n → ∀ wx, Below w.heap.size w wx → CellsAt wx S ia i (K i)) (eg : Enters g)
    (hp : ∀ i, i < n → ∀ W, Below w.heap.size w W → Calls Tryz.prog g (#[.int .i64 i, .agg #[.int .i64 (K i).kind, .int .u64 (K i).num, .string (K i).text, .slice (K i).ia (K i).len (K i).cap]] ++ lb) W fun r W' => r = .returned (.int .i64 (e i)) ∧ Below W.heap.size W W') :
    Calls Tryz.prog 68 #[.slice ia n cap, .func (.func g) #[] lb] w fun r w' => r = .returned (.int .i64 (firstE e n)) ∧ Below w.heap.size w w' := by
  have HC := Lib.hid hC
  have HP := Lib.hid hp
  clear hC hp
  unfold Enters at eg
  go_enter Tryz.func68, Tryz.ntmps68
  go_wp2
  go_loopw [10] (fun i wr => ∃ j : Nat, j ≤ n ∧ i = .int .i64 j ∧ Hid (∀ m, m < j → (e m != 0) = false) ∧ Hid (Below w.heap.size w wr)) (fun i _ => n - (intOf i).toNat)
  case atStart => exact ⟨0, Nat.zero_le _, rfl, Lib.hid (fun m hm => absurd hm (Nat.not_lt_zero _)), Lib.hid (Below.refl _ _)⟩
  case round =>
    obtain ⟨j, hj, rfl, HF, HB⟩ := hrel
    by_cases hlt : j < n
    · obtain ⟨b, off, rfl, _, _, c0, c1, c2, c3⟩ := HC.out j hlt wr HB.out
      obtain ⟨M, hM⟩ : ∃ M, K j = M := ⟨_, rfl⟩
      have hcall := fun W (hb : Below w.heap.size w W) => HP.out j hlt W hb
      rw [hM] at hcall c0 c1 c2 c3
      have HW := Lib.hid (show Below w.heap.size w _ from HB.out.alloc HB.out.size (.cells #[.int .i64 M.kind, .int .u64 M.num, .string M.text, .slice M.ia M.len M.cap] 26))
      obtain ⟨q, hq⟩ : ∃ q, e j = q := ⟨_, rfl⟩
      rw [hq] at hcall
      have HD := Lib.hid hcall
      clear hcall hM
      cases hz : (q != 0) with
      | true =>
        have HT := Lib.hid (firstE_at (e := e) HF.out hlt (by rw [hq]; exact hz))
        have HQ := Lib.hid hq
        clear hq
        go_wp2_with (go_at_fn g; refine (HD.out _ HW.out).mono ?_; rintro r w2 ⟨rfl, hb2⟩; have HB2 := Lib.hid (below_step8' HW.out hb2); clear hb2)
        go_ret
        exact ⟨ret_i (by rw [HT.out, HQ.out]), HB2.out⟩
      | false =>
        have HF2 := Lib.hid (none_next (p := fun m => e m != 0) HF.out (by rw [hq]; exact hz))
        clear hq
        go_wp2_with (go_at_fn g; refine (HD.out _ HW.out).mono ?_; rintro r w2 ⟨rfl, hb2⟩; have HB2 := Lib.hid (below_step8' HW.out hb2); clear hb2)
        go_roundw
        case rel => exact ⟨j + 1, by omega, by go_num, HF2, HB2⟩
        case measure => simp [intOf]; omega
    · obtain rfl : j = n := by omega
      have HT := Lib.hid (firstE_none (e := e) HF.out)
      go_wp2
      go_ret
      exact ⟨ret_i (by rw [HT.out]), HB.out⟩
theorem upTo9_any (most : Int) (ia : Option Addr) (n cap : Nat) (hn : n ≤ 2513169434843) (g : Nat) (lb : Array Value) (x : Int) (w : World)
    (h : Calls Tryz.prog 68 #[.slice ia n cap, .func (.func g) #[] lb] w fun r w' => r = .returned (.int .i64 x) ∧ Below w.heap.size w w') :
    Calls Tryz.prog 41 #[.int .i64 most, .slice ia n cap, .func (.func g) #[] lb] w fun r w' => r = .returned (.int .i64 (if most < n then 3 else x)) ∧ Below w.heap.size w w' := by
  have HE := Lib.hid h
  clear h
  by_cases hm : most < n
  · rw [if_pos hm]
    go_enter Tryz.func41, Tryz.ntmps41
    go_wp2
    go_ret
    exact ⟨rfl, Below.refl _ _⟩
  · rw [if_neg hm]
    go_enter Tryz.func41, Tryz.ntmps41
    go_wp2_with (go_at_call 68; refine (HE.out).mono ?_; rintro e w2 ⟨rfl, hb2⟩; have HB2 := Lib.hid hb2; clear hb2)
    go_ret
    exact ⟨rfl, HB2.out⟩
theorem all9_any (count : Int) (ia : Option Addr) (n cap : Nat) (hn : n ≤ 2513169434843) (g : Nat) (lb : Array Value) (x : Int) (w : World)
    (h : n = count → Calls Tryz.prog 68 #[.slice ia n cap, .func (.func g) #[] lb] w fun r w' => r = .returned (.int .i64 x) ∧ Below w.heap.size w w') :
    Calls Tryz.prog 43 #[.int .i64 count, .slice ia n cap, .func (.func g) #[] lb] w fun r w' => r = .returned (.int .i64 (if (n : Int) ≠ count then 18 else x)) ∧ Below w.heap.size w w' := by
  by_cases hm : (n : Int) = count
  · have HE := Lib.hid (h hm)
    have hm' : ((n : Int) != count) = false := by simpa using hm
    rw [if_neg (by simpa using hm)]
    clear h hm
    go_enter Tryz.func43, Tryz.ntmps43
    go_wp2_with (go_at_call 68; refine (HE.out).mono ?_; rintro e w2 ⟨rfl, hb2⟩; have HB2 := Lib.hid hb2; clear hb2)
    go_ret
    exact ⟨rfl, HB2.out⟩
  · have hm' : ((n : Int) != count) = true := by simpa using hm
    rw [if_pos hm]
    clear h
    go_enter Tryz.func43, Tryz.ntmps43
    go_wp2
    go_ret
    exact ⟨rfl, Below.refl _ _⟩
end Go.Proofs.YtficmdomnilhnaaGreat
