/- The least value of a type, in plain words. -/
import Derived.Test.YtohphejhlgnciaaGreatFitsRTop
import Derived.OwnWalk
namespace Go.Proofs.YtohphejhlgnciaaGreat
open Go.RowKit
set_option linter.unusedVariables false
theorem enum_len {L : Nat → TypeV} {len i : Nat} (h : oneR L len i = 0) (h9 : (L i).kind = 9) : 1 ≤ (L i).ilen := by
  unfold oneR oneT at h
  split at h; · cases h
  split at h; · cases h
  split at h; · cases h
  split at h; · cases h
  split at h; · cases h
  split at h; · cases h
  split at h; · cases h
  split at h; · cases h
  rename_i hc
  have hn : namedK (L i).kind = true := by unfold namedK; rw [h9]; rfl
  rw [hn] at hc
  simp at hc
  omega
/-- a list that may be -/
structure OkL (L : Nat → TypeV) (len : Nat) : Prop where
  ok : ∀ i, i < len → OkT L i
  enum : ∀ i, i < len → (L i).kind = 9 → 1 ≤ (L i).ilen
theorem okL_of {L : Nat → TypeV} {len : Nat} (h : fErr (oneR L len) len = 0) : OkL L len := ⟨ok_all h, fun i hi => enum_len ((valid_all h).2 i hi)⟩
/-- the Num of the least value -/
def numL (L : Nat → TypeV) (t : Nat) : Int :=
  if (L t).kind = 9 then ((L t).items 0).num else if (L t).kind = 14 then (if (L (L t).tag.toNat).kind = 9 then ((L (L t).tag.toNat).items 0).num else 0) else 0
def cntL (L : Nat → TypeV) (t : Nat) : Nat := partN (L t) (numL L t) 0
def typL (L : Nat → TypeV) (t i : Nat) : Nat := (partF (L t) (numL L t) i).toNat
theorem cntL_le {L : Nat → TypeV} {t : Nat} (h : OkT L t) : cntL L t ≤ 64 := by
  unfold cntL partN
  split; · omega
  split; · rename_i h12; have := h.bound (.inr (.inr h12)); omega
  split; · rename_i h13; have := h.count (.inl h13); omega
  split
  · unfold brN; split <;> omega
  · omega
theorem typL_ok {L : Nat → TypeV} {t i : Nat} (h : OkT L t) (hi : i < cntL L t) : partF (L t) (numL L t) i = (typL L t i : Nat) ∧ typL L t i < t := by
  unfold typL
  unfold cntL partN at hi
  unfold partF
  split at hi; · omega
  rename_i n11
  split at hi
  · rename_i h12
    rw [if_neg (by omega), if_neg (by omega)]
    have := h.of (.inr h12)
    omega
  rename_i n12
  split at hi
  · rename_i h13
    rw [if_pos h13]
    have := h.items (.inl h13) i hi
    omega
  rename_i n13
  split at hi
  · rename_i h14
    rw [if_neg n13, if_pos h14]
    unfold brN at hi
    split at hi
    · rename_i hz
      have hz' : 0 ≤ branchZ (L t) (numL L t) := by unfold okZ at hz; simpa using hz
      have hz2 := branchZ_lt hz'
      have := h.items (.inr h14) ((branchZ (L t) (numL L t)).toNat + i) (by omega)
      omega
    · omega
  · omega
def sizeF (L : Nat → TypeV) : Nat → Nat → Nat
  | 0, _ => 1
  | f + 1, t => 1 + sumTo (fun i => sizeF L f (typL L t i)) (cntL L t)
theorem sizeF_eq {L : Nat → TypeV} {len : Nat} (hv : ∀ i, i < len → OkT L i) : ∀ (k t f g : Nat), t < k → t < len → t < f → t < g → sizeF L f t = sizeF L g t
  | 0, t, f, g, hk, _, _, _ => by omega
  | k + 1, t, f + 1, g + 1, hk, ht, hf, hg => by
    rw [sizeF, sizeF, sumTo_congr _ (fun i hi => ?_)]
    have := (typL_ok (hv t ht) hi).2
    exact sizeF_eq hv k _ f g (by omega) (by omega) (by omega) (by omega)
def sizeN (L : Nat → TypeV) (t : Nat) : Nat := sizeF L (t + 1) t
theorem sizeN_eq {L : Nat → TypeV} {len : Nat} (hv : ∀ i, i < len → OkT L i) {t : Nat} (ht : t < len) : sizeN L t = 1 + sumTo (fun i => sizeN L (typL L t i)) (cntL L t) := by
  unfold sizeN
  rw [sizeF, sumTo_congr _ (fun i hi => ?_)]
  have := (typL_ok (hv t ht) hi).2
  exact sizeF_eq hv (t + 1) _ _ _ (by omega) (by omega) (by omega) (by omega)
def headBl (L : Nat → TypeV) (t : Nat) (T : VT) : Prop := T.kind = (L t).kind ∧ T.num = numL L t ∧ T.text = ⟨#[]⟩ ∧ T.len = cntL L t
/-- a least value of a type -/
def isBl (L : Nat → TypeV) : VT → Nat → Prop
  | .nil, t => headBl L t .nil
  | .node k n s a l c f, t => headBl L t (.node k n s a l c f) ∧ ∀ i, i < l → isBl L (f i) (typL L t i)
theorem isBl_iff (L : Nat → TypeV) (T : VT) (t : Nat) : isBl L T t ↔ headBl L t T ∧ ∀ i, i < T.len → isBl L (T.kid i) (typL L t i) := by
  cases T with
  | nil => exact ⟨fun h => ⟨h, fun i hi => absurd hi (Nat.not_lt_zero i)⟩, fun h => h.1⟩
  | node => exact Iff.rfl
theorem bl_same {L : Nat → TypeV} : ∀ (T U : VT) (t : Nat), isBl L T t → isBl L U t → sameT T U = true := by
  refine VT.ind fun T ih U t h k => ?_
  obtain ⟨⟨a1, a2, a3, a4⟩, a5⟩ := (isBl_iff L T t).1 h
  obtain ⟨⟨b1, b2, b3, b4⟩, b5⟩ := (isBl_iff L U t).1 k
  exact sameT_iff.2 ⟨a1.trans b1.symm, a2.trans b2.symm, a3.trans b3.symm, a4.trans b4.symm, fun i hi => ih i hi _ _ (a5 i hi) (b5 i (by omega))⟩
theorem bl_great {L : Nat → TypeV} {len : Nat} (hv : ∀ i, i < len → OkT L i) : ∀ (T : VT) (t : Nat), t < len → isBl L T t → greatT T = sizeN L t := by
  refine VT.ind fun T ih t ht h => ?_
  obtain ⟨⟨a1, a2, a3, a4⟩, a5⟩ := (isBl_iff L T t).1 h
  rw [greatT_eq, sizeN_eq hv ht, a3, sumTo_congr T.len (fun i hi => ih i hi _ (by have := (typL_ok (hv t ht) (i := i) (by omega)).2; omega) (a5 i hi)), a4]
  rfl
theorem may_zero {k : Int} (h1 : 1 ≤ k) (h9 : k ≤ 9) : mayK k 0 = true := by
  have hk : k = 1 ∨ k = 2 ∨ k = 3 ∨ k = 4 ∨ k = 5 ∨ k = 6 ∨ k = 7 ∨ k = 8 ∨ k = 9 := by omega
  rcases hk with rfl | rfl | rfl | rfl | rfl | rfl | rfl | rfl | rfl <;> decide +kernel
theorem num_first {X : TypeV} (h9 : X.kind = 9) (h1 : 1 ≤ X.ilen) : okZ (valueZ X (X.items 0).num) = true := by
  unfold valueZ
  rw [if_pos h9]
  rcases firstZ_cases (fun j => (X.items j).num == (X.items 0).num) X.ilen with ⟨k, hk, e, _⟩ | ⟨e, h2⟩
  · rw [e]; unfold okZ; simp
  · have := h2 0 (by omega)
    simp at this
theorem numOk_least {L : Nat → TypeV} {t : Nat} (hk : 1 ≤ (L t).kind ∧ (L t).kind ≤ 9) (he : (L t).kind = 9 → 1 ≤ (L t).ilen) : numOk L t (if (L t).kind = 9 then ((L t).items 0).num else 0) = true := by
  unfold numOk
  by_cases h9 : (L t).kind = 9
  · rw [if_pos h9, if_pos h9]; exact num_first h9 (he h9)
  · rw [if_neg h9, if_neg h9]; exact may_zero hk.1 hk.2
theorem zeroIn_nil : zeroIn ⟨#[]⟩ = false := zeroIn_empty (by decide +kernel)
theorem partT_F (L : Nat → TypeV) (t : Nat) (n : Int) (i : Nat) : partT L t n i = (partF (L t) n i).toNat := by
  unfold partT partF
  split
  · rfl
  · split <;> rfl
theorem bl_head {L : Nat → TypeV} {len : Nat} (hv : OkL L len) {t : Nat} (ht : t < len) {T : VT} (h : headBl L t T) : headE L t T = 0 := by
  obtain ⟨a1, a2, a3, a4⟩ := h
  have okt := hv.ok t ht
  have hk1 := okt.kind
  have hcnt : cntL L t = partN (L t) (numL L t) 0 := rfl
  have hf : formT T = true := by
    unfold formT
    rw [a1, a2, a3, a4]
    have e1 : (⟨#[]⟩ : ByteArray).toList.isEmpty = true := by decide +kernel
    rw [e1]
    have c1 : (numK (L t).kind || (L t).kind == 14 || numL L t == 0) = true := by
      by_cases h14 : (L t).kind = 14
      · simp [h14]
      · by_cases h9 : (L t).kind ≤ 9
        · have : numK (L t).kind = true := by unfold numK; simp; omega
          simp [this]
        · have : numL L t = 0 := by unfold numL; rw [if_neg (by omega), if_neg h14]
          simp [this]
    have c2 : (!numK (L t).kind && !(L t).kind == 10 || ((cntL L t : Nat) : Int) == 0) = true := by
      by_cases h10 : (L t).kind ≤ 10
      · have : cntL L t = 0 := by rw [hcnt]; unfold partN; rw [if_neg (by omega), if_neg (by omega), if_neg (by omega), if_neg (by omega)]
        simp [this]
      · have h1 : numK (L t).kind = false := by unfold numK; simp; omega
        have h2 : ((L t).kind == 10) = false := by simp; omega
        simp [h1, h2]
    rw [c1, c2]; simp
  rw [head_ref okt a1 hf]
  have e6 : c6R L t T = false := by
    unfold c6R
    rw [a2]
    by_cases h9 : (L t).kind ≤ 9
    · have h14 : ((L t).kind == 14) = false := by simp; omega
      have hn := numOk_least (L := L) (t := t) ⟨hk1.1, h9⟩ (hv.enum t ht)
      have e : numL L t = if (L t).kind = 9 then ((L t).items 0).num else 0 := by unfold numL; rw [if_neg (show ¬ (L t).kind = 14 by omega)]
      rw [e, hn, h14]; simp
    · have h9' : decide ((L t).kind ≤ 9) = false := by simpa using h9
      by_cases h14 : (L t).kind = 14
      · have htg := okt.tag h14
        have hnk := htg.2.2.2
        unfold numK at hnk
        simp at hnk
        have hn := numOk_least (L := L) (t := (L t).tag.toNat) ⟨hnk.1, hnk.2⟩ (hv.enum _ (by omega))
        have e : numL L t = if (L (L t).tag.toNat).kind = 9 then ((L (L t).tag.toNat).items 0).num else 0 := by unfold numL; rw [if_neg (by omega), if_pos h14]
        rw [e, hn, h9']; simp
      · have h14' : ((L t).kind == 14) = false := by simpa using h14
        rw [h9', h14']; simp
  have e8 : c8R L t T = false := by
    unfold c8R
    rw [a3]
    by_cases h10 : (L t).kind = 10
    · have := okt.bound (.inl h10)
      have hs : (⟨#[]⟩ : ByteArray).size = 0 := rfl
      rw [hs]
      have : decide ((L t).bound < ((0 : Nat) : Int)) = false := by simp; omega
      rw [this]; rfl
    · have h10' : ((L t).kind == 10) = false := by simpa using h10
      rw [h10', Bool.and_false]
  have en : partN (L t) T.num T.len = T.len := by
    rw [a2, a4, hcnt]
    unfold partN
    by_cases h11 : (L t).kind = 11
    · rw [if_pos h11]
    · rw [if_neg h11, if_neg h11]
  have eo : okP (L t) T.len = true := by
    unfold okP
    by_cases h11 : (L t).kind = 11
    · have hb := okt.bound (.inr (.inl h11))
      have : cntL L t = 0 := by rw [hcnt]; unfold partN; rw [if_pos h11]
      rw [if_pos h11, a4, this]; simp; omega
    · rw [if_neg h11]
  rw [e6, e8, a3, zeroIn_nil, eo, en]; simp
theorem bl_fits {L : Nat → TypeV} {len : Nat} (hv : OkL L len) : ∀ (T : VT) (t : Nat), t < len → isBl L T t → fitsT L T t = 0 := by
  refine VT.ind fun T ih t ht h => ?_
  obtain ⟨a1, a5⟩ := (isBl_iff L T t).1 h
  rw [fits_kids (bl_head hv ht a1)]
  refine firstE_none fun i hi => ?_
  have e : partT L t T.num i = typL L t i := by rw [partT_F, a1.2.1]; rfl
  have hlt := (typL_ok (hv.ok t ht) (i := i) (by have := a1.2.2.2; omega)).2
  show (fitsT L (T.kid i) (partT L t T.num i) != 0) = false
  rw [e, ih i hi _ (by omega) (a5 i hi)]; rfl
/-- sums that stop at 2001 -/
theorem sum_cap {F G : Nat → Nat} : ∀ n, (∀ i, i < n → G i = min (F i) 2001) → min (1 + sumTo G n) 2001 = min (1 + sumTo F n) 2001
  | 0, _ => rfl
  | n + 1, h => by
    have ih := sum_cap n (fun i hi => h i (by omega))
    rw [sumTo, sumTo, h n (by omega)]
    omega
def capR (n : Nat) : Nat := if 2000 < n then 3000 else n
theorem sum_capR {F G : Nat → Nat} : ∀ n, (∀ i, i < n → G i = capR (F i)) → (2000 < 1 + sumTo G n ↔ 2000 < 1 + sumTo F n) ∧ (1 + sumTo F n ≤ 2000 → sumTo G n = sumTo F n)
  | 0, _ => ⟨Iff.rfl, fun _ => rfl⟩
  | n + 1, h => by
    obtain ⟨h1, h2⟩ := sum_capR n (fun i hi => h i (by omega))
    rw [sumTo, sumTo, h n (by omega)]
    unfold capR
    by_cases c : 2000 < F n
    · rw [if_pos c]; exact ⟨⟨fun _ => by omega, fun _ => by omega⟩, fun _ => by omega⟩
    · rw [if_neg c]
      by_cases d : 1 + sumTo F n ≤ 2000
      · have := h2 d
        exact ⟨⟨fun _ => by omega, fun _ => by omega⟩, fun _ => by omega⟩
      · have : 2000 < 1 + sumTo G n := h1.2 (by omega)
        exact ⟨⟨fun _ => by omega, fun _ => by omega⟩, fun _ => by omega⟩
theorem capR_sum {F G : Nat → Nat} {n : Nat} (h : ∀ i, i < n → G i = capR (F i)) : (if 2000 < 1 + sumTo G n then 3000 else 1 + sumTo G n) = capR (1 + sumTo F n) := by
  obtain ⟨h1, h2⟩ := sum_capR n h
  unfold capR
  by_cases c : 2000 < 1 + sumTo F n
  · rw [if_pos c, if_pos (h1.2 c)]
  · rw [if_neg c, if_neg (fun d => c (h1.1 d)), h2 (by omega)]
theorem sum_bound {F : Nat → Nat} {m : Nat} : ∀ n, (∀ i, i < n → F i ≤ m) → sumTo F n ≤ n * m
  | 0, _ => by simp [sumTo]
  | n + 1, h => by
    have := sum_bound n (fun i hi => h i (by omega))
    have := h n (by omega)
    rw [sumTo, Nat.succ_mul]; omega
end Go.Proofs.YtohphejhlgnciaaGreat
namespace Go.Proofs.YtohphejhlgnciaaGreat
open Go.RowKit
set_option linter.unusedVariables false
def ISt (w0 : World) (v : Value) (l : List Int) (w : World) : Prop := w.ownsRow w0.heap.size 3 1 v l.length (l.map (Value.int .i64)) ∧ Below w0.heap.size w0 w
theorem ISt.next {w0 : World} {v v2 : Value} {l : List Int} {x : Int} {o : Obj} {w w2 : World} (h : ISt w0 v l w) (h2 : w2.ownsRow w0.heap.size 3 1 v2 (l.length + 1) (l.map (Value.int .i64) ++ [.int .i64 x])) (hg : (w.alloc o).grownBy w2 v.ownBlock) : ISt w0 v2 (l ++ [x]) w2 :=
  ⟨by simpa using h2, (h.2.alloc h.2.size o).grown hg (by have := h.2.size; simp; omega) (fun k hk => (h.1.lt k hk).1)⟩
theorem ISt.alloc {w0 : World} {v : Value} {l : List Int} {w : World} (h : ISt w0 v l w) (o : Obj) : ISt w0 v l (w.alloc o) := ⟨h.1.alloc o, h.2.alloc h.2.size o⟩
theorem ISt.start (w : World) : ISt w (.slice none 0 0) [] w := ⟨World.ownsRow_nil _ _ _ _, Below.refl _ _⟩
set_option maxHeartbeats 1000000 in
theorem leastNum9_one (ao : Option Addr) (len cap : Nat) (L : Nat → TypeV) (hlen : len ≤ 1000000) (t : Nat) (ht : t < len) (hk : (L t).kind ≠ 14) (he : (L t).kind = 9 → 1 ≤ (L t).ilen) (w : World) (H : ∀ i, i < len → TypeAt w ao i (L i)) :
    Calls Tryz.prog 37 #[.slice ao len cap, .int .i64 t] w fun e w' => e = .returned (.int .u64 (numL L t)) ∧ w = w' := by
  obtain ⟨b, off, rfl, c0, c1, c2, c3, c4, c5, wf, hi⟩ := H t ht
  obtain ⟨X, hX⟩ : ∃ X, L t = X := ⟨_, rfl⟩
  rw [hX] at c0 c5 hi hk he
  have k14 : (X.kind == 14) = false := by simpa using hk
  by_cases h9 : X.kind = 9
  · have e : numL L t = (X.items 0).num := by unfold numL; rw [hX, if_pos h9]
    rw [e]
    have hl1 := he h9
    obtain ⟨ib, io, hia, i0, i1, i2, i3, i4, iw⟩ := hi.2 0 (by omega)
    rw [hia] at c5
    rw [Nat.zero_mul, Nat.add_zero] at i1
    have k9 : (X.kind == 9) = true := by simpa using h9
    have hl0 : 0 < X.ilen := by omega
    have hl00 : ¬ X.ilen = 0 := by omega
    have hl01 : (0 : Int) < (X.ilen : Int) := by omega
    have hil := hi.1
    clear hX hia i0 i2 i3 i4 iw hi he hk h9 H wf c1 c2 c3 c4 e
    go_enter Tryz.func37, Tryz.ntmps37
    go_wp2
    go_ret
    exact ⟨rfl, rfl⟩
  · have e : numL L t = 0 := by unfold numL; rw [hX, if_neg h9, if_neg hk]
    rw [e]
    have k9 : (X.kind == 9) = false := by simpa using h9
    clear hX hi he hk h9 H wf c1 c2 c3 c4 c5 e
    go_enter Tryz.func37, Tryz.ntmps37
    go_wp2
    go_ret
    exact ⟨rfl, rfl⟩
set_option maxHeartbeats 1000000 in
theorem leastNum9_any (ao : Option Addr) (len cap : Nat) (L : Nat → TypeV) (hlen : len ≤ 1000000) (hv : OkL L len) (t : Nat) (ht : t < len) (w : World) (H : ∀ i, i < len → TypeAt w ao i (L i)) :
    Calls Tryz.prog 37 #[.slice ao len cap, .int .i64 t] w fun e w' => e = .returned (.int .u64 (numL L t)) ∧ w = w' := by
  by_cases h14 : (L t).kind = 14
  · have htg := (hv.ok t ht).tag h14
    obtain ⟨k, hk⟩ := Int.eq_ofNat_of_zero_le htg.1
    have hnk := htg.2.2.2
    unfold numK at hnk
    simp at hnk
    rw [hk, Int.toNat_natCast] at hnk
    have hc := leastNum9_one ao len cap L hlen k (by omega) (by omega) (hv.enum k (by omega)) w H
    have e : numL L t = numL L k := by
      unfold numL
      rw [if_neg (by omega), if_pos h14, hk, Int.toNat_natCast]
      by_cases h9 : (L k).kind = 9
      · rw [if_pos h9, if_pos h9]
      · rw [if_neg h9, if_neg h9, if_neg (by omega)]
    rw [e]
    obtain ⟨n, hn⟩ : ∃ n, numL L k = n := ⟨_, rfl⟩
    rw [hn] at hc ⊢
    have HC := Lib.hid hc
    obtain ⟨b, off, rfl, c0, c1, c2, c3, c4, c5, wf, hi⟩ := H t ht
    rw [hk] at c4
    have k9 : ((L t).kind == 9) = false := by simp; omega
    have k14 : ((L t).kind == 14) = true := by simpa using h14
    clear hc hn e hnk htg hk h14 hi wf c1 c2 c3 c5 H
    go_enter Tryz.func37, Tryz.ntmps37
    go_wp2_with (go_at_call 37; refine (HC.out).mono ?_; rintro e w1 ⟨rfl, rfl⟩)
    go_ret
    exact ⟨rfl, rfl⟩
  · exact leastNum9_one ao len cap L hlen t ht h14 (hv.enum t ht) w H
set_option maxRecDepth 20000 in
set_option maxHeartbeats 2000000 in
theorem typesOf9_any (ia : Option Addr) (n c : Nat) (I : Nat → ItemV) (hn : n ≤ 3518437208780) (w : World) (H : ∀ i, i < n → ItemAt w ia i (I i)) :
    Calls Tryz.prog 59 #[.slice ia n c] w fun e w' => ∃ v, e = .returned v ∧ w'.ownsRow w.heap.size 3 1 v n (((List.range n).map fun i => (I i).type).map (Value.int .i64)) ∧ Below w.heap.size w w' := by
  obtain ⟨i0, hi0, hz0, hz1, hz2⟩ := info_parts infoInt
  have HH := Lib.hid H
  have HS := Lib.hid (ISt.start w)
  clear H
  go_enter Tryz.func59, Tryz.ntmps59
  go_wp2
  go_loopw [3, 8] (fun v i wr => ∃ j : Nat, j ≤ n ∧ i = .int .i64 j ∧ Hid (ISt w v ((List.range j).map fun m => (I m).type) wr)) (fun _ i _ => n - (intOf i).toNat)
  case atStart => exact ⟨0, Nat.zero_le _, rfl, HS⟩
  case round =>
    obtain ⟨j, hj, rfl, HP⟩ := hrel
    by_cases hlt : j < n
    · obtain ⟨b, off, rfl, d0, d1, d2, d3, d4, wi⟩ := (HH.out j hlt).held (w1 := wr) HP.out.2
      obtain ⟨X, hX⟩ : ∃ X, I j = X := ⟨_, rfl⟩
      rw [hX] at d0 d1 d2 d3 d4
      have hln : ((List.range j).map fun m => (I m).type).length ≤ 3518437208782 := by simp; omega
      have HT := Lib.hid (show (List.range (j + 1)).map (fun m => (I m).type) = (List.range j).map (fun m => (I m).type) ++ [X.type] by rw [List.range_succ, List.map_append, ← hX]; rfl)
      have HA := Lib.hid (HP.out.alloc (.cells #[.string X.name, .int .u64 X.num, .int .i64 X.type, .bool X.key, .bool X.rest] 42))
      have hsz := HP.out.2.size
      clear hX wi
      obtain ⟨wo, rfl⟩ : ∃ wo : World, wo = wr := ⟨_, rfl⟩
      go_wp2_with (at_builtin; refine wpList_append_at rfl (.tmp 12) (.tmp 15) 50 rfl w.heap.size 3 i0 (.int .i64 0) 1 8 Tryz.underlying50 hi0 hz0 hz1 hz2 rfl (by decide) _ _ _ rfl (HA.out.1.alloc _) ⟨_, 0, none⟩ 1 1 [.int .i64 X.type] rfl rfl (fun j u hj => by match j, hj with | 0, hj => (simp at hj; subst hj; simp [Addr.add])) (fun u hu => by (simp at hu; subst hu; rfl)) (by unfold maxLen; omega) (by omega) (by simp <;> omega) ?_; intro v2 w2 hown2 hg2 hf2; have HQ2 := Lib.hid (HA.out.next (x := X.type) (by simpa using hown2) hg2); clear hown2 hg2 hf2)
      go_wp2
      go_roundw
      case rel => exact ⟨j + 1, by omega, by go_num, (by rw [HT.out]; exact HQ2)⟩
      case measure => simp [intOf]; omega
    · obtain rfl : j = n := by omega
      have ho := HP.out.1
      have hbb := HP.out.2
      rw [show ((List.range j).map fun m => (I m).type).length = j by simp] at ho
      have HO := Lib.hid ho
      clear ho
      go_wp2
      go_ret
      exact ⟨_, rfl, HO.out, HP.out.2⟩
def LItemsTo (L : Nat → TypeV) (t : Nat) (w : World) (e : Ending) (w' : World) : Prop :=
  ∃ v, e = .returned v ∧ w'.ownsRow w.heap.size 3 1 v (cntL L t) ((listF (L t) (numL L t) (cntL L t)).map (Value.int .i64)) ∧ Below w.heap.size w w'
set_option maxRecDepth 20000 in
set_option maxHeartbeats 2000000 in
theorem leastItems9_any (ao : Option Addr) (len cap : Nat) (L : Nat → TypeV) (hlen : len ≤ 1000000) (hv : OkL L len) (hcp : ∀ i, i < len → (L i).ilen ≤ (L i).icap) (t : Nat) (ht : t < len) (w : World) (H : ∀ i, i < len → TypeAt w ao i (L i)) :
    Calls Tryz.prog 36 #[.slice ao len cap, .int .i64 t] w (LItemsTo L t w) := by
  have okt := hv.ok t ht
  have HN := Lib.hid (leastNum9_any ao len cap L hlen hv t ht w H)
  have HBR := Lib.hid (branch9_any ao len cap L hlen t ht (numL L t) (hcp t ht) w H)
  have HH := Lib.hid (fun wx (hb : Below w.heap.size w wx) => hold H hb t ht)
  obtain ⟨b, off, rfl, c0, c1, c2, c3, c4, c5, wf, hi⟩ := H t ht
  have hil := hi.1
  have HTY := Lib.hid (typesOf9_any (L t).ia (L t).ilen (L t).icap (L t).items hi.1 w hi.2)
  have hcnt : cntL L t = partN (L t) (numL L t) 0 := rfl
  obtain ⟨n, hn⟩ : ∃ n, numL L t = n := ⟨_, rfl⟩
  unfold LItemsTo
  rw [hcnt, hn]
  rw [hn] at HN HBR
  obtain ⟨X, hX⟩ : ∃ X, L t = X := ⟨_, rfl⟩
  rw [hX] at HBR HH c0 c2 c3 c5 hil HTY ⊢
  have hk := okt.kind
  have hbd := okt.bound
  rw [hX] at hk hbd
  clear hi wf c1 c4 H hcnt hn okt hv hcp hX
  by_cases h12 : X.kind = 12
  · obtain ⟨i0, hi0, hz0, hz1, hz2⟩ := info_parts infoInt
    have HS := Lib.hid (ISt.start w)
    have hb := hbd (.inr (.inr h12))
    obtain ⟨m, hm⟩ := Int.eq_ofNat_of_zero_le hb.1
    have hm2 : m ≤ 64 := by omega
    have HM := Lib.hid hm
    have hN : partN X n 0 = m := by unfold partN; rw [if_neg (by omega), if_pos h12, hm]; rfl
    have HPF := Lib.hid (show ∀ i, partF X n i = X.of from fun i => by unfold partF; rw [if_neg (by omega), if_neg (by omega)])
    rw [hN]
    have k12 : (X.kind == 12) = true := by simpa using h12
    rw [hm] at c2
    clear hb hm hN h12 hbd hk c5 HTY HBR HN
    go_enter Tryz.func36, Tryz.ntmps36
    go_wp2
    clear c0 c2 c3
    go_loopw [5, 18] (fun v i wr => ∃ j : Nat, j ≤ m ∧ i = .int .i64 j ∧ Hid (ISt w v (listF X n j) wr)) (fun _ i _ => m - (intOf i).toNat)
    case atStart => exact ⟨0, Nat.zero_le _, rfl, HS⟩
    case round =>
      obtain ⟨j, hj, rfl, HP⟩ := hrel
      by_cases hlt : j < m
      · have c3 : wr.cell? ⟨b, off + t * 6 + 3, none⟩ = some (.int .i64 X.of) := by
          obtain ⟨b', off', e, _, _, _, x3, _⟩ := HH.out wr HP.out.2
          cases e
          exact x3
        have hln : (listF X n j).length ≤ 3518437208782 := by rw [listF_len]; omega
        have HT := Lib.hid (show listF X n (j + 1) = listF X n j ++ [X.of] by rw [listF_next, HPF.out])
        have hsz := HP.out.2.size
        obtain ⟨wo, rfl⟩ : ∃ wo : World, wo = wr := ⟨_, rfl⟩
        go_wp2_with (at_builtin; refine wpList_append_at rfl (.tmp 20) (.tmp 26) 50 rfl w.heap.size 3 i0 (.int .i64 0) 1 8 Tryz.underlying50 hi0 hz0 hz1 hz2 rfl (by decide) _ _ _ rfl (HP.out.1.alloc _) ⟨_, 0, none⟩ 1 1 [.int .i64 X.of] rfl rfl (fun j u hj => by match j, hj with | 0, hj => (simp at hj; subst hj; simp [Addr.add])) (fun u hu => by (simp at hu; subst hu; rfl)) (by unfold maxLen; omega) (by omega) (by simp <;> omega) ?_; intro v2 w2 hown2 hg2 hf2; have HQ2 := Lib.hid (HP.out.next (x := X.of) (by simpa using hown2) hg2); clear hown2 hg2 hf2)
        go_wp2
        go_roundw
        case rel => exact ⟨j + 1, by omega, by go_num, (by rw [HT.out]; exact HQ2)⟩
        case measure => simp [intOf]; omega
      · obtain rfl : j = m := by omega
        have ho := HP.out.1
        rw [listF_len] at ho
        have HO := Lib.hid ho
        clear ho
        go_wp2
        go_ret
        exact ⟨_, rfl, HO.out, HP.out.2⟩
  have k12 : (X.kind == 12) = false := by simpa using h12
  by_cases h13 : X.kind = 13
  · have hN : partN X n 0 = X.ilen := by unfold partN; rw [if_neg (by omega), if_neg h12, if_pos h13]
    have hl : listF X n X.ilen = (List.range X.ilen).map fun i => (X.items i).type := by
      unfold listF
      refine List.map_congr_left fun i _ => ?_
      unfold partF; rw [if_pos h13]
    rw [hN, hl]
    have k13 : (X.kind == 13) = true := by simpa using h13
    clear hN hl h12 h13 hbd hk HBR HN HH
    go_enter Tryz.func36, Tryz.ntmps36
    go_wp2_with (go_at_call 59; refine (HTY.out).mono ?_; rintro e w1 ⟨v, rfl, ho, hb1⟩; have HO := Lib.hid ho; have HB1 := Lib.hid hb1; clear ho hb1)
    go_ret
    exact ⟨_, rfl, HO.out, HB1.out⟩
  have k13 : (X.kind == 13) = false := by simpa using h13
  by_cases h14 : X.kind = 14
  · have hN : partN X n 0 = brN X n := by unfold partN; rw [if_neg (by omega), if_neg h12, if_neg h13, if_pos h14]
    have hbr : brN X n ≤ 1 := by unfold brN; split <;> omega
    have hl : listF X n (brN X n) = (List.range (brN X n)).map fun i => (X.items ((branchZ X n).toNat + i)).type := by
      unfold listF
      refine List.map_congr_left fun i _ => ?_
      unfold partF; rw [if_neg h13, if_pos h14]
    rw [hN, hl]
    have HT2 := Lib.hid (fun a c wx (hb : Below w.heap.size w wx) (hit : ∀ i, i < brN X n → ItemAt wx a i (X.items ((branchZ X n).toNat + i))) => typesOf9_any a (brN X n) c (fun i => X.items ((branchZ X n).toNat + i)) (by omega) wx hit)
    have k14 : (X.kind == 14) = true := by simpa using h14
    have HBR2 := Lib.hid (HBR.out.mono fun e w' (h : ∃ a c, e = .returned (.slice a (brN X n) c) ∧ (∀ i, i < brN X n → ItemAt w' a i (X.items ((branchZ X n).toNat + i))) ∧ Below w.heap.size w w') => show ∃ a c, e = .returned (.slice a (brN X n) c) ∧ Hid (∀ i, i < brN X n → ItemAt w' a i (X.items ((branchZ X n).toNat + i))) ∧ Below w.heap.size w w' from (let ⟨a, c, h1, h2, h3⟩ := h; ⟨a, c, h1, Lib.hid h2, h3⟩))
    obtain ⟨m, hm⟩ : ∃ m, brN X n = m := ⟨_, rfl⟩
    rw [hm] at HBR2 HT2 hbr ⊢
    clear hN hl h12 h13 h14 hbd hk HTY HH HBR hm
    go_enter Tryz.func36, Tryz.ntmps36
    go_wp2_with (first
      | (go_at_call 37; refine (HN.out).mono ?_; rintro e w1 ⟨rfl, rfl⟩)
      | (go_at_call 46; refine (HBR2.out).mono ?_; rintro e w1 ⟨a, c, rfl, HIT, hb1⟩; have HB1 := Lib.hid hb1; clear hb1)
      | (go_at_call 59; refine (HT2.out _ _ _ HB1.out HIT.out).mono ?_; rintro e w2 ⟨v, rfl, ho, hb2⟩; have HO := Lib.hid (Joins.ownsRow_le ho HB1.out.size); have HB2 := Lib.hid (below_step8' HB1.out hb2); clear ho hb2))
    go_ret
    exact ⟨_, rfl, HO.out, HB2.out⟩
  have k14 : (X.kind == 14) = false := by simpa using h14
  have hN : partN X n 0 = 0 := by
    unfold partN
    by_cases h11 : X.kind = 11
    · rw [if_pos h11]
    · rw [if_neg h11, if_neg h12, if_neg h13, if_neg h14]
  rw [hN]
  clear hN h12 h13 h14 hbd hk HTY HH HBR HN
  go_enter Tryz.func36, Tryz.ntmps36
  go_wp2
  go_ret
  exact ⟨_, rfl, World.ownsRow_nil _ _ _ _, Below.refl _ _⟩
end Go.Proofs.YtohphejhlgnciaaGreat
namespace Go.Proofs.YtohphejhlgnciaaGreat
open Go.RowKit
set_option linter.unusedVariables false
def capN (L : Nat → TypeV) (k : Nat) : Nat := min (sizeN L k) 2001
set_option maxRecDepth 20000 in
set_option maxHeartbeats 4000000 in
theorem leastSize9_any (ao : Option Addr) (len cap : Nat) (L : Nat → TypeV) (hlen : len ≤ 1000000) (hv : OkL L len) (hcp : ∀ i, i < len → (L i).ilen ≤ (L i).icap) (T : Nat) (hT : T < len) (w : World) (H : ∀ i, i < len → TypeAt w ao i (L i)) :
    Calls Tryz.prog 19 #[.slice ao len cap, .int .i64 T] w fun e w' => e = .returned (.int .i64 (capN L T : Nat)) ∧ Below w.heap.size w w' := by
  have HLI := Lib.hid (fun k (hk : k < len) wx (hb : Below w.heap.size w wx) => leastItems9_any ao len cap L hlen hv hcp k hk wx (hold H hb))
  have HTY := Lib.hid (fun k (hk : k < len) i (hi : i < cntL L k) => typL_ok (hv.ok k hk) hi)
  have HC64 := Lib.hid (fun k (hk : k < len) => cntL_le (hv.ok k hk))
  have HSZ := Lib.hid (fun k (hk : k < len) => sizeN_eq hv.ok hk)
  obtain ⟨i0, hi, hz0, hz1, hz2⟩ := info_parts infoInt
  obtain ⟨n, hn⟩ : ∃ n, T + 1 = n := ⟨_, rfl⟩
  clear hv hcp H
  go_enter Tryz.func19, Tryz.ntmps19
  go_wp2_with (refine wpList_make_full _ rfl (.tmp 11) (.tmp 11) 50 rfl w.heap.size 3 i0 (.int .i64 0) 1 Tryz.underlying50 hi hz0 hz1 .i64 .i64 _ _ n rfl rfl (by omega) (by omega) (by rw [hz2]; omega) (by unfold maxLen; omega) (Nat.le_refl _) ?_)
  intro w1 hown hg
  have hown' : w1.ownsRow w.heap.size 3 1 (.slice (some ⟨w.heap.size, 0, none⟩) n n) n ((depL (capN L) n 0).map (Value.int .i64)) := by
    rw [depL_zero]
    have e : (madeCells #[Value.int .i64 0] n).toList = List.replicate n (.int .i64 0) := toList_madeCells_one _ _
    rw [← e]; simpa using hown
  have HB := Lib.hid ((Below.refl w.heap.size w).grown hg (Nat.le_refl _) (fun k hk => by cases hk))
  have HO := Lib.hid hown'
  clear hown hg hown'
  go_wp2
  go_loopw [15] (fun i wr => ∃ k : Nat, k ≤ n ∧ i = .int .i64 k ∧ Hid (wr.ownsRow w.heap.size 3 1 (.slice (some ⟨w.heap.size, 0, none⟩) n n) n ((depL (capN L) n k).map (Value.int .i64))) ∧ Hid (Below w.heap.size w wr)) (fun i _ => n - (intOf i).toNat)
  case atStart => exact ⟨0, Nat.zero_le _, rfl, HO, HB⟩
  case round =>
    obtain ⟨k, hk, rfl, HR, HBr⟩ := hrel
    by_cases hlt : k < n
    · have hkl : k < len := by omega
      have hcall := HLI.out k hkl wr HBr.out
      unfold LItemsTo at hcall
      have HTk := Lib.hid (HTY.out k hkl)
      have hc64 := HC64.out k hkl
      have HS1 := Lib.hid (HSZ.out k hkl)
      obtain ⟨m, hm⟩ : ∃ m, cntL L k = m := ⟨_, rfl⟩
      rw [hm] at hcall HTk hc64 HS1
      have HC := Lib.hid hcall
      clear hcall hm
      obtain ⟨wo, rfl⟩ : ∃ wo : World, wo = wr := ⟨_, rfl⟩
      go_upto_region 7 with (go_at_call 36; refine (HC.out).mono ?_; rintro e w2 ⟨v, rfl, hown, hb2⟩; obtain ⟨va, vc, rfl, hva⟩ := row_form hown; have HR2 := Lib.hid (row_keep HR.out hb2); have HB2 := Lib.hid (HBr.out.trans (hb2.mono HBr.out.size)); have HV := Lib.hid hva; have HO2 := Lib.hid hown; clear hown hva hb2)
      go_loopw [7, 22] (fun q i wr => ∃ (j s : Nat), j ≤ m ∧ i = .int .i64 j ∧ q = .int .i64 s ∧ Hid (1 + sumTo (fun i => capN L (typL L k i)) j = s) ∧ wr = w2) (fun _ i _ => m - (intOf i).toNat)
      case atStart => exact ⟨0, 1, Nat.zero_le _, rfl, rfl, Lib.hid rfl, rfl⟩
      case round =>
        obtain ⟨j, s, hj, rfl, rfl, HM, rfl⟩ := hrel
        by_cases hjl : j < m
        · obtain ⟨g', rfl⟩ := HV.out (by omega)
          have c := cell_int HO2.out j hjl
          rw [listF_get _ _ hjl, (HTk.out j hjl).1] at c
          have hyk := (HTk.out j hjl).2
          obtain ⟨y, hy⟩ : ∃ y, typL L k j = y := ⟨_, rfl⟩
          rw [hy] at c hyk
          have cy := cell_int HR2.out y (by omega)
          rw [depL_get (by omega) hyk] at cy
          have hs1 : s ≤ 1 + j * 2001 := by
            have := sum_bound (F := fun i => capN L (typL L k i)) (m := 2001) j (fun i _ => by show min _ _ ≤ _; omega)
            have := HM.out
            omega
          obtain ⟨d, hd⟩ : ∃ d, capN L y = d := ⟨_, rfl⟩
          have hd1 : d ≤ 2001 := by rw [← hd]; show min _ _ ≤ _; omega
          rw [hd] at cy
          have HN := Lib.hid (show 1 + sumTo (fun i => capN L (typL L k i)) (j + 1) = s + d by rw [sumTo, ← HM.out, ← hd, ← hy]; omega)
          have tn : y < n := by omega
          clear hy hd
          go_wp2
          go_roundw
          case rel => exact ⟨j + 1, s + d, by omega, by go_num, by go_num, HN, by first | rfl | trivial⟩
          case measure => simp [intOf]; omega
        · obtain rfl : j = m := by omega
          have hcp2 := sum_cap (F := fun i => sizeN L (typL L k i)) (G := fun i => capN L (typL L k i)) j (fun i _ => rfl)
          rw [HM.out, ← HS1.out] at hcp2
          have HD := Lib.hid (show capN L k = min s 2001 from hcp2.symm)
          obtain ⟨x, hx⟩ : ∃ x, min s 2001 = x := ⟨_, rfl⟩
          have hxi : min (s : Int) 2001 = (x : Nat) := by omega
          have f0 := HR2.out.frozenAt k
          have HS := Lib.hid (store_int HR2.out k (x : Nat))
          have HS2 := Lib.hid (show (depL (capN L) n k).set k (x : Nat) = depL (capN L) n (k + 1) by rw [← depL_set, HD.out, hx])
          have ck := cell_int HR2.out k hlt
          clear hcp2
          by_cases hs : s ≤ 2001
          · obtain rfl : s = x := by omega
            clear hx
            go_wp2
            all_goals
              go_roundw
              case rel => exact ⟨k + 1, by omega, by go_num, Lib.hid (by rw [← HS2.out]; exact HS.out), Lib.hid (HB2.out.setCell (Nat.le_refl _) _)⟩
              case measure => simp [intOf]; omega
          · obtain rfl : x = 2001 := by omega
            clear hx
            go_wp2
            all_goals
              go_roundw
              case rel => exact ⟨k + 1, by omega, by go_num, Lib.hid (by rw [← HS2.out]; exact HS.out), Lib.hid (HB2.out.setCell (Nat.le_refl _) _)⟩
              case measure => simp [intOf]; omega
    · obtain rfl : k = n := by omega
      have cT := cell_int HR.out T (by omega)
      rw [depL_get (by omega) (by omega)] at cT
      go_wp2
      go_ret
      exact ⟨rfl, HBr.out⟩
end Go.Proofs.YtohphejhlgnciaaGreat
namespace Go.Proofs.YtohphejhlgnciaaGreat
open Go.RowKit
set_option linter.unusedVariables false
theorem item_num {w : World} {ia : Option Addr} {x : ItemV} (h : ItemAt w ia 0 x) : ∃ ib io, ia = some ⟨ib, io, none⟩ ∧ w.cell? ⟨ib, io + 1, none⟩ = some (.int .u64 x.num) ∧ ib < w.heap.size := by
  obtain ⟨b, off, e, h0, h1, _⟩ := h
  rw [Nat.zero_mul, Nat.add_zero] at h1
  exact ⟨b, off, e, h1, World.block_lt_of_cell? w _ h1⟩
set_option maxRecDepth 20000 in
set_option maxHeartbeats 4000000 in
theorem start9_any (ao : Option Addr) (len cap : Nat) (L : Nat → TypeV) (hlen : len ≤ 1000000) (hv : OkL L len) (t : Nat) (ht : t < len) (w : World) (H : ∀ i, i < len → TypeAt w ao i (L i)) :
    Calls Tryz.prog 38 #[.slice ao len cap, .int .i64 t] w fun e w' => e = .returned (.agg #[.int .i64 (L t).kind, .int .u64 (numL L t), .string ⟨#[]⟩, .slice none 0 0]) ∧ Below w.heap.size w w' := by
  have htag := (hv.ok t ht).tag
  have hen := hv.enum t ht
  obtain ⟨b, off, rfl, c0, c1, c2, c3, c4, c5, wf, hi⟩ := H t ht
  have hbl : b < w.heap.size := World.block_lt_of_cell? w _ c0
  have n0 : ¬ b = w.heap.size := by omega
  have n1 : ¬ b = w.heap.size + 1 := by omega
  have n2 : ¬ b = w.heap.size + 2 := by omega
  have n3 : ¬ b = w.heap.size + 1 + 1 := by omega
  have hil := hi.1
  obtain ⟨X, hX⟩ : ∃ X, L t = X := ⟨_, rfl⟩
  obtain ⟨n, hn⟩ : ∃ n, numL L t = n := ⟨_, rfl⟩
  rw [hn]
  unfold numL at hn
  rw [hX] at c0 c1 c2 c3 c4 c5 htag hen hi hil hn ⊢
  have HB := Lib.hid ((((Below.refl w.heap.size w).alloc (Nat.le_refl _) (.cells #[.int .i64 0, .int .u64 0, .string ⟨#[]⟩, .slice none 0 0] 26)).alloc (by simp) (.cells #[.int .i64 X.kind, .string X.name, .int .i64 X.bound, .int .i64 X.of, .int .i64 X.tag, .slice X.ia X.ilen X.icap] 40)).alloc (by simp <;> omega) (.cells #[.int .i64 X.kind, .int .u64 0, .string ⟨#[]⟩, .slice none 0 0] 26))
  have HQ0 := Lib.hid (show (((w.alloc (.cells #[.int .i64 0, .int .u64 0, .string ⟨#[]⟩, .slice none 0 0] 26)).alloc (.cells #[.int .i64 X.kind, .string X.name, .int .i64 X.bound, .int .i64 X.of, .int .i64 X.tag, .slice X.ia X.ilen X.icap] 40)).alloc (.cells #[.int .i64 X.kind, .int .u64 0, .string ⟨#[]⟩, .slice none 0 0] 26)).heap[w.heap.size]? = some (.cells #[.int .i64 0, .int .u64 0, .string ⟨#[]⟩, .slice none 0 0] 26) from alloc_old (alloc_old (alloc_at w _)))
  have HQ1 := Lib.hid (show (((w.alloc (.cells #[.int .i64 0, .int .u64 0, .string ⟨#[]⟩, .slice none 0 0] 26)).alloc (.cells #[.int .i64 X.kind, .string X.name, .int .i64 X.bound, .int .i64 X.of, .int .i64 X.tag, .slice X.ia X.ilen X.icap] 40)).alloc (.cells #[.int .i64 X.kind, .int .u64 0, .string ⟨#[]⟩, .slice none 0 0] 26)).heap[w.heap.size + 1]? = some (.cells #[.int .i64 X.kind, .string X.name, .int .i64 X.bound, .int .i64 X.of, .int .i64 X.tag, .slice X.ia X.ilen X.icap] 40) from alloc_old (by have := alloc_at (w.alloc (.cells #[.int .i64 0, .int .u64 0, .string ⟨#[]⟩, .slice none 0 0] 26)) (.cells #[.int .i64 X.kind, .string X.name, .int .i64 X.bound, .int .i64 X.of, .int .i64 X.tag, .slice X.ia X.ilen X.icap] 40); simpa using this))
  have HQ2 := Lib.hid (show (((w.alloc (.cells #[.int .i64 0, .int .u64 0, .string ⟨#[]⟩, .slice none 0 0] 26)).alloc (.cells #[.int .i64 X.kind, .string X.name, .int .i64 X.bound, .int .i64 X.of, .int .i64 X.tag, .slice X.ia X.ilen X.icap] 40)).alloc (.cells #[.int .i64 X.kind, .int .u64 0, .string ⟨#[]⟩, .slice none 0 0] 26)).heap[w.heap.size + 1 + 1]? = some (.cells #[.int .i64 X.kind, .int .u64 0, .string ⟨#[]⟩, .slice none 0 0] 26) by have := alloc_at ((w.alloc (.cells #[.int .i64 0, .int .u64 0, .string ⟨#[]⟩, .slice none 0 0] 26)).alloc (.cells #[.int .i64 X.kind, .string X.name, .int .i64 X.bound, .int .i64 X.of, .int .i64 X.tag, .slice X.ia X.ilen X.icap] 40)) (.cells #[.int .i64 X.kind, .int .u64 0, .string ⟨#[]⟩, .slice none 0 0] 26); simpa using this)
  by_cases h9 : X.kind = 9
  · have hl1 := hen h9
    obtain ⟨ib, io, hia, i1, hib⟩ := item_num (hi.2 0 (by omega))
    rw [if_pos h9] at hn
    rw [hn] at i1
    have HIA := Lib.hid hia
    have k9 : (X.kind == 9) = true := by simpa using h9
    have k14 : (X.kind == 14) = false := by simp; omega
    have hl0 : 0 < X.ilen := by omega
    have hl00 : ¬ X.ilen = 0 := by omega
    have hl01 : (0 : Int) < (X.ilen : Int) := by omega
    have hne2 : ¬ ib = w.heap.size + 1 + 1 := by omega
    have k9' := k9
    have k14' := k14
    clear h9 hn hia hX hi htag hen H wf hl1
    go_enter Tryz.func38, Tryz.ntmps38
    go_upto_region 3 with (fail)
    clear c0 c1 c2 c3 c4 c5 n0 n1 n2 n3
    generalize (((w.alloc (.cells #[.int .i64 0, .int .u64 0, .string ⟨#[]⟩, .slice none 0 0] 26)).alloc (.cells #[.int .i64 X.kind, .string X.name, .int .i64 X.bound, .int .i64 X.of, .int .i64 X.tag, .slice X.ia X.ilen X.icap] 40)).alloc (.cells #[.int .i64 X.kind, .int .u64 0, .string ⟨#[]⟩, .slice none 0 0] 26)) = W0 at *
    have i1 := keep HB.out i1
    have x0 : W0.cell? ⟨w.heap.size + 1, 0, none⟩ = some (.int .i64 X.kind) := cell_at HQ1.out rfl
    have x4 : W0.cell? ⟨w.heap.size + 1, 4, none⟩ = some (.int .i64 X.tag) := cell_at HQ1.out rfl
    have x5 : W0.cell? ⟨w.heap.size + 1, 5, none⟩ = some (.slice X.ia X.ilen X.icap) := cell_at HQ1.out rfl
    have v0 : W0.cell? ⟨w.heap.size + 1 + 1, 0, none⟩ = some (.int .i64 X.kind) := cell_at HQ2.out rfl
    have v1 : W0.cell? ⟨w.heap.size + 1 + 1, 1, none⟩ = some (.int .u64 0) := cell_at HQ2.out rfl
    have v2 : W0.cell? ⟨w.heap.size + 1 + 1, 2, none⟩ = some (.string ⟨#[]⟩) := cell_at HQ2.out rfl
    have v3 : W0.cell? ⟨w.heap.size + 1 + 1, 3, none⟩ = some (.slice none 0 0) := cell_at HQ2.out rfl
    have f1 : W0.frozen? ⟨w.heap.size + 1 + 1, 1, none⟩ = false := free_at HQ2.out
    rw [HIA.out] at x5
    have HZ := Lib.hid (show (W0.setCell ⟨w.heap.size + 1 + 1, 1, none⟩ (.int .u64 n)).heap[w.heap.size]? = some (.cells #[.int .i64 0, .int .u64 0, .string ⟨#[]⟩, .slice none 0 0] 26 (0, 0)) from (set_other (by simp; omega)).trans HQ0.out)
    have HBZ := Lib.hid (HB.out.setCell (show w.heap.size ≤ (⟨w.heap.size + 1 + 1, 1, none⟩ : Addr).block by simp; omega) (.int .u64 n))
    go_wp2_with (refine wpList_store_rowTo rfl 26 _ _ rfl rfl w.heap.size #[.int .i64 X.kind, .int .u64 n, .string ⟨#[]⟩, .slice none 0 0] rfl rfl _ _ HZ.out (by kernel_rfl) (by kernel_rfl) (by kernel_rfl) ?_)
    refine bodyPost_ret (v := .agg #[.int .i64 X.kind, .int .u64 n, .string ⟨#[]⟩, .slice none 0 0]) ?_ rfl ⟨rfl, below_setRow HBZ.out (Nat.le_refl _) _⟩
    have hl := run_loadVar_row (P := Tryz.prog) _ w.heap.size _ 26 _ _ _ (setRow_heap _ _ _ #[.int .i64 X.kind, .int .u64 n, .string ⟨#[]⟩, .slice none 0 0] _ _ HZ.out) Tryz.underlying26 rfl (by kernel_rfl)
    simp [results, Tryz.results38, asAddr, hl]
  have k9 : (X.kind == 9) = false := by simpa using h9
  rw [if_neg h9] at hn
  by_cases h14 : X.kind = 14
  · have k14 : (X.kind == 14) = true := by simpa using h14
    rw [if_pos h14] at hn
    obtain ⟨k, hk⟩ := Int.eq_ofNat_of_zero_le (htag h14).1
    have hkl : k < len := by have := (htag h14).2.1; omega
    obtain ⟨b', off', e', y0, y1, y2, y3, y4, y5, wf', hi'⟩ := H k hkl
    cases e'
    have hil' := hi'.1
    rw [hk, Int.toNat_natCast] at hn
    obtain ⟨Y, hY⟩ : ∃ Y, L k = Y := ⟨_, rfl⟩
    have hen2 := hv.enum k hkl
    rw [hY] at y0 y1 y2 y3 y4 y5 hi' hil' hn hen2
    by_cases j9 : Y.kind = 9
    · rw [if_pos j9] at hn
      have hl1 := hen2 j9
      obtain ⟨ib, io, hia, i1, hib⟩ := item_num (hi'.2 0 (by omega))
      rw [hn] at i1
      have HIA := Lib.hid hia
      have l9 : (Y.kind == 9) = true := by simpa using j9
      have hl0 : 0 < Y.ilen := by omega
      have hl00 : ¬ Y.ilen = 0 := by omega
      have hl01 : (0 : Int) < (Y.ilen : Int) := by omega
      have hne2 : ¬ ib = w.heap.size + 1 + 1 := by omega
      have HKT := Lib.hid hk
      have k9' := k9
      have k14' := k14
      clear h9 h14 j9 hn hia hX hY hi hi' htag hen hen2 H hv wf wf' hl1 hk y1 y2 y3 y4
      go_enter Tryz.func38, Tryz.ntmps38
      go_upto_region 3 with (fail)
      clear c0 c1 c2 c3 c4 c5 n0 n1 n2 n3
      generalize (((w.alloc (.cells #[.int .i64 0, .int .u64 0, .string ⟨#[]⟩, .slice none 0 0] 26)).alloc (.cells #[.int .i64 X.kind, .string X.name, .int .i64 X.bound, .int .i64 X.of, .int .i64 X.tag, .slice X.ia X.ilen X.icap] 40)).alloc (.cells #[.int .i64 X.kind, .int .u64 0, .string ⟨#[]⟩, .slice none 0 0] 26)) = W0 at *
      have i1 := keep HB.out i1
      have y0 := keep HB.out y0
      have y5 := keep HB.out y5
      have x0 : W0.cell? ⟨w.heap.size + 1, 0, none⟩ = some (.int .i64 X.kind) := cell_at HQ1.out rfl
      have x4 : W0.cell? ⟨w.heap.size + 1, 4, none⟩ = some (.int .i64 X.tag) := cell_at HQ1.out rfl
      rw [HKT.out] at x4
      have x5 : W0.cell? ⟨w.heap.size + 1, 5, none⟩ = some (.slice X.ia X.ilen X.icap) := cell_at HQ1.out rfl
      have v0 : W0.cell? ⟨w.heap.size + 1 + 1, 0, none⟩ = some (.int .i64 X.kind) := cell_at HQ2.out rfl
      have v1 : W0.cell? ⟨w.heap.size + 1 + 1, 1, none⟩ = some (.int .u64 0) := cell_at HQ2.out rfl
      have v2 : W0.cell? ⟨w.heap.size + 1 + 1, 2, none⟩ = some (.string ⟨#[]⟩) := cell_at HQ2.out rfl
      have v3 : W0.cell? ⟨w.heap.size + 1 + 1, 3, none⟩ = some (.slice none 0 0) := cell_at HQ2.out rfl
      have f1 : W0.frozen? ⟨w.heap.size + 1 + 1, 1, none⟩ = false := free_at HQ2.out
      rw [HIA.out] at y5
      have HZ := Lib.hid (show (W0.setCell ⟨w.heap.size + 1 + 1, 1, none⟩ (.int .u64 n)).heap[w.heap.size]? = some (.cells #[.int .i64 0, .int .u64 0, .string ⟨#[]⟩, .slice none 0 0] 26 (0, 0)) from (set_other (by simp; omega)).trans HQ0.out)
      have HBZ := Lib.hid (HB.out.setCell (show w.heap.size ≤ (⟨w.heap.size + 1 + 1, 1, none⟩ : Addr).block by simp; omega) (.int .u64 n))
      go_wp2_with (refine wpList_store_rowTo rfl 26 _ _ rfl rfl w.heap.size #[.int .i64 X.kind, .int .u64 n, .string ⟨#[]⟩, .slice none 0 0] rfl rfl _ _ HZ.out (by kernel_rfl) (by kernel_rfl) (by kernel_rfl) ?_)
      refine bodyPost_ret (v := .agg #[.int .i64 X.kind, .int .u64 n, .string ⟨#[]⟩, .slice none 0 0]) ?_ rfl ⟨rfl, below_setRow HBZ.out (Nat.le_refl _) _⟩
      have hl := run_loadVar_row (P := Tryz.prog) _ w.heap.size _ 26 _ _ _ (setRow_heap _ _ _ #[.int .i64 X.kind, .int .u64 n, .string ⟨#[]⟩, .slice none 0 0] _ _ HZ.out) Tryz.underlying26 rfl (by kernel_rfl)
      simp [results, Tryz.results38, asAddr, hl]
    · rw [if_neg j9] at hn
      subst hn
      have l9 : (Y.kind == 9) = false := by simpa using j9
      have HKT := Lib.hid hk
      have k9' := k9
      have k14' := k14
      clear h9 h14 j9 hX hY hi hi' htag hen hen2 H hv wf wf' hk y1 y2 y3 y4 y5
      go_enter Tryz.func38, Tryz.ntmps38
      go_upto_region 3 with (fail)
      clear c0 c1 c2 c3 c4 c5 n0 n1 n2 n3
      generalize (((w.alloc (.cells #[.int .i64 0, .int .u64 0, .string ⟨#[]⟩, .slice none 0 0] 26)).alloc (.cells #[.int .i64 X.kind, .string X.name, .int .i64 X.bound, .int .i64 X.of, .int .i64 X.tag, .slice X.ia X.ilen X.icap] 40)).alloc (.cells #[.int .i64 X.kind, .int .u64 0, .string ⟨#[]⟩, .slice none 0 0] 26)) = W0 at *
      have y0 := keep HB.out y0
      have x0 : W0.cell? ⟨w.heap.size + 1, 0, none⟩ = some (.int .i64 X.kind) := cell_at HQ1.out rfl
      have x4 : W0.cell? ⟨w.heap.size + 1, 4, none⟩ = some (.int .i64 X.tag) := cell_at HQ1.out rfl
      rw [HKT.out] at x4
      have x5 : W0.cell? ⟨w.heap.size + 1, 5, none⟩ = some (.slice X.ia X.ilen X.icap) := cell_at HQ1.out rfl
      have v0 : W0.cell? ⟨w.heap.size + 1 + 1, 0, none⟩ = some (.int .i64 X.kind) := cell_at HQ2.out rfl
      have v1 : W0.cell? ⟨w.heap.size + 1 + 1, 1, none⟩ = some (.int .u64 0) := cell_at HQ2.out rfl
      have v2 : W0.cell? ⟨w.heap.size + 1 + 1, 2, none⟩ = some (.string ⟨#[]⟩) := cell_at HQ2.out rfl
      have v3 : W0.cell? ⟨w.heap.size + 1 + 1, 3, none⟩ = some (.slice none 0 0) := cell_at HQ2.out rfl
      have f1 : W0.frozen? ⟨w.heap.size + 1 + 1, 1, none⟩ = false := free_at HQ2.out
      have HZ := HQ0
      have HBZ := HB
      go_wp2_with (refine wpList_store_rowTo rfl 26 _ _ rfl rfl w.heap.size #[.int .i64 X.kind, .int .u64 0, .string ⟨#[]⟩, .slice none 0 0] rfl rfl _ _ HZ.out (by kernel_rfl) (by kernel_rfl) (by kernel_rfl) ?_)
      refine bodyPost_ret (v := .agg #[.int .i64 X.kind, .int .u64 0, .string ⟨#[]⟩, .slice none 0 0]) ?_ rfl ⟨rfl, below_setRow HBZ.out (Nat.le_refl _) _⟩
      have hl := run_loadVar_row (P := Tryz.prog) _ w.heap.size _ 26 _ _ _ (setRow_heap _ _ _ #[.int .i64 X.kind, .int .u64 0, .string ⟨#[]⟩, .slice none 0 0] _ _ HZ.out) Tryz.underlying26 rfl (by kernel_rfl)
      simp [results, Tryz.results38, asAddr, hl]
  · have k14 : (X.kind == 14) = false := by simpa using h14
    rw [if_neg h14] at hn
    subst hn
    have k9' := k9
    have k14' := k14
    clear h9 h14 hX hi htag hen H hv wf
    go_enter Tryz.func38, Tryz.ntmps38
    go_upto_region 3 with (fail)
    clear c0 c1 c2 c3 c4 c5 n0 n1 n2 n3
    generalize (((w.alloc (.cells #[.int .i64 0, .int .u64 0, .string ⟨#[]⟩, .slice none 0 0] 26)).alloc (.cells #[.int .i64 X.kind, .string X.name, .int .i64 X.bound, .int .i64 X.of, .int .i64 X.tag, .slice X.ia X.ilen X.icap] 40)).alloc (.cells #[.int .i64 X.kind, .int .u64 0, .string ⟨#[]⟩, .slice none 0 0] 26)) = W0 at *
    have x0 : W0.cell? ⟨w.heap.size + 1, 0, none⟩ = some (.int .i64 X.kind) := cell_at HQ1.out rfl
    have x4 : W0.cell? ⟨w.heap.size + 1, 4, none⟩ = some (.int .i64 X.tag) := cell_at HQ1.out rfl
    have x5 : W0.cell? ⟨w.heap.size + 1, 5, none⟩ = some (.slice X.ia X.ilen X.icap) := cell_at HQ1.out rfl
    have v0 : W0.cell? ⟨w.heap.size + 1 + 1, 0, none⟩ = some (.int .i64 X.kind) := cell_at HQ2.out rfl
    have v1 : W0.cell? ⟨w.heap.size + 1 + 1, 1, none⟩ = some (.int .u64 0) := cell_at HQ2.out rfl
    have v2 : W0.cell? ⟨w.heap.size + 1 + 1, 2, none⟩ = some (.string ⟨#[]⟩) := cell_at HQ2.out rfl
    have v3 : W0.cell? ⟨w.heap.size + 1 + 1, 3, none⟩ = some (.slice none 0 0) := cell_at HQ2.out rfl
    have f1 : W0.frozen? ⟨w.heap.size + 1 + 1, 1, none⟩ = false := free_at HQ2.out
    have HZ := HQ0
    have HBZ := HB
    go_wp2_with (refine wpList_store_rowTo rfl 26 _ _ rfl rfl w.heap.size #[.int .i64 X.kind, .int .u64 0, .string ⟨#[]⟩, .slice none 0 0] rfl rfl _ _ HZ.out (by kernel_rfl) (by kernel_rfl) (by kernel_rfl) ?_)
    refine bodyPost_ret (v := .agg #[.int .i64 X.kind, .int .u64 0, .string ⟨#[]⟩, .slice none 0 0]) ?_ rfl ⟨rfl, below_setRow HBZ.out (Nat.le_refl _) _⟩
    have hl := run_loadVar_row (P := Tryz.prog) _ w.heap.size _ 26 _ _ _ (setRow_heap _ _ _ #[.int .i64 X.kind, .int .u64 0, .string ⟨#[]⟩, .slice none 0 0] _ _ HZ.out) Tryz.underlying26 rfl (by kernel_rfl)
    simp [results, Tryz.results38, asAddr, hl]
def startT (L : Nat → TypeV) (t : Nat) : VT := .node (L t).kind (numL L t) ⟨#[]⟩ none 0 0 (fun _ => .nil)
/-- the types of a least value's Items -/
theorem parts_start (ao : Option Addr) (len cap : Nat) (L : Nat → TypeV) (hlen : len ≤ 1000000) (hv : OkL L len) (t : Nat) (ht : t < len) (w : World) (H : ∀ i, i < len → TypeAt w ao i (L i)) :
    Calls Tryz.prog 35 #[.slice ao len cap, .int .i64 t, .agg #[.int .i64 (L t).kind, .int .u64 (numL L t), .string ⟨#[]⟩, .slice none 0 0]] w fun e w' => ∃ v q, e = .returned (.tuple #[v, .bool q]) ∧ w'.ownsRow w.heap.size 3 1 v (cntL L t) ((listF (L t) (numL L t) (cntL L t)).map (Value.int .i64)) ∧ Below w.heap.size w w' :=
  (refParts9_any ao len cap L hlen t ht (hv.ok t ht) (startT L t) (by show 0 ≤ _; omega) w H).mono fun e w' ⟨v, h1, h2, h3⟩ => ⟨v, _, h1, h2, h3⟩
def capL (L : Nat → TypeV) (j : Nat) : List Int := (List.range j).map fun k => (capR (sizeN L k) : Int)
theorem capL_len (L : Nat → TypeV) (j : Nat) : (capL L j).length = j := by unfold capL; simp
theorem capL_next (L : Nat → TypeV) (j : Nat) : capL L (j + 1) = capL L j ++ [(capR (sizeN L j) : Int)] := by unfold capL; rw [List.range_succ, List.map_append]; rfl
theorem capL_get (L : Nat → TypeV) {i j : Nat} (h : i < j) : (capL L j).getD i 0 = (capR (sizeN L i) : Int) := by unfold capL; simp [h]
theorem capR_le (n : Nat) : capR n ≤ 3000 := by unfold capR; split <;> omega
set_option maxRecDepth 20000 in
set_option maxHeartbeats 4000000 in
theorem great9_any (ao : Option Addr) (len cap : Nat) (L : Nat → TypeV) (hlen : len ≤ 1000000) (hv : OkL L len) (T : Nat) (hT : T < len) (w : World) (H : ∀ i, i < len → TypeAt w ao i (L i)) :
    Calls Tryz.prog 21 #[.slice ao len cap, .int .i64 T] w fun e w' => ∃ g c, e = .returned (.slice (some ⟨g, 0, none⟩) (T + 1) c) ∧ w'.cell? ⟨g, T, none⟩ = some (.int .i64 (capR (sizeN L T) : Nat)) ∧ Below w.heap.size w w' := by
  have HST := Lib.hid (fun k (hk : k < len) wx (hb : Below w.heap.size w wx) => start9_any ao len cap L hlen hv k hk wx (hold H hb))
  have HPS := Lib.hid (fun k (hk : k < len) wx (hb : Below w.heap.size w wx) => parts_start ao len cap L hlen hv k hk wx (hold H hb))
  have HTY := Lib.hid (fun k (hk : k < len) i (hi : i < cntL L k) => typL_ok (hv.ok k hk) hi)
  have HC64 := Lib.hid (fun k (hk : k < len) => cntL_le (hv.ok k hk))
  have HSZ := Lib.hid (fun k (hk : k < len) => sizeN_eq hv.ok hk)
  obtain ⟨i0, hi0, hz0, hz1, hz2⟩ := info_parts infoInt
  have HS := Lib.hid (ISt.start w)
  clear hv H
  go_enter Tryz.func21, Tryz.ntmps21
  go_wp2
  go_loopw [5, 6] (fun v i wr => ∃ k : Nat, k ≤ T + 1 ∧ i = .int .i64 k ∧ Hid (ISt w v (capL L k) wr)) (fun _ i _ => T + 1 - (intOf i).toNat)
  case atStart => exact ⟨0, Nat.zero_le _, rfl, HS⟩
  case round =>
    obtain ⟨k, hk, rfl, HP⟩ := hrel
    by_cases hlt : k ≤ T
    · have hkl : k < len := by omega
      have hst := HST.out k hkl wr HP.out.2
      have hps := fun wx hb => HPS.out k hkl wx hb
      have HTk := Lib.hid (HTY.out k hkl)
      have hc64 := HC64.out k hkl
      have HS1 := Lib.hid (HSZ.out k hkl)
      obtain ⟨m, hm⟩ : ∃ m, cntL L k = m := ⟨_, rfl⟩
      rw [hm] at hps HTk hc64 HS1
      obtain ⟨kd, hkd⟩ : ∃ x, (L k).kind = x := ⟨_, rfl⟩
      obtain ⟨nm, hnm⟩ : ∃ x, numL L k = x := ⟨_, rfl⟩
      obtain ⟨P, hPL⟩ : ∃ P, listF (L k) (numL L k) m = P := ⟨_, rfl⟩
      have HPG := Lib.hid (show ∀ i, i < m → P.getD i 0 = (typL L k i : Nat) from fun i hi => by rw [← hPL, listF_get _ _ hi, (HTk.out i hi).1])
      rw [hkd, hnm] at hst
      rw [hPL, hkd, hnm] at hps
      have HC := Lib.hid hst
      have HD := Lib.hid hps
      clear hst hps hm hkd hnm hPL
      have hln : (capL L k).length ≤ 3518437208782 := by rw [capL_len]; omega
      have ho := HP.out.1
      rw [capL_len] at ho
      obtain ⟨oa, oc, hoe, hoa⟩ := row_form ho
      subst hoe
      have HOW := Lib.hid ho
      have HOA := Lib.hid hoa
      clear ho hoa
      obtain ⟨wo, rfl⟩ : ∃ wo : World, wo = wr := ⟨_, rfl⟩
      go_upto_region 8 with (first
        | (go_at_call 38; refine (HC.out).mono ?_; rintro e w1 ⟨rfl, hb1⟩; have HB1 := Lib.hid (below_step8' HP.out.2 hb1); have HO1 := Lib.hid (row_keep HOW.out hb1); clear hb1)
        | (go_at_call 35; refine (HD.out _ HB1.out).mono ?_; rintro e w2 ⟨v, q, rfl, hown, hb2⟩; obtain ⟨va, vc, rfl, hva⟩ := row_form hown; have HR2 := Lib.hid (row_keep HO1.out hb2); have HB2 := Lib.hid (below_step8' HB1.out hb2); have HV := Lib.hid hva; have HO2 := Lib.hid hown; clear hown hva hb2))
      go_loopw [7, 10] (fun q i wr => ∃ (j s : Nat), j ≤ m ∧ i = .int .i64 j ∧ q = .int .i64 s ∧ Hid (1 + sumTo (fun i => capR (sizeN L (typL L k i))) j = s) ∧ wr = w2) (fun _ i _ => m - (intOf i).toNat)
      case atStart => exact ⟨0, 1, Nat.zero_le _, rfl, rfl, Lib.hid rfl, rfl⟩
      case round =>
        obtain ⟨j, s, hj, rfl, rfl, HM, rfl⟩ := hrel
        by_cases hjl : j < m
        · obtain ⟨g', rfl⟩ := HV.out (by omega)
          have c := cell_int HO2.out j hjl
          rw [HPG.out j hjl] at c
          have hyk := (HTk.out j hjl).2
          obtain ⟨y, hy⟩ : ∃ y, typL L k j = y := ⟨_, rfl⟩
          rw [hy] at c hyk
          obtain ⟨go, rfl⟩ := HOA.out (by omega)
          have cy := cell_int HR2.out y (by omega)
          rw [capL_get L hyk] at cy
          have hs1 : s ≤ 1 + j * 3000 := by
            have := sum_bound (F := fun i => capR (sizeN L (typL L k i))) (m := 3000) j (fun i _ => capR_le _)
            have := HM.out
            omega
          obtain ⟨d, hd⟩ : ∃ d, capR (sizeN L y) = d := ⟨_, rfl⟩
          have hd1 : d ≤ 3000 := by rw [← hd]; exact capR_le _
          rw [hd] at cy
          have HN := Lib.hid (show 1 + sumTo (fun i => capR (sizeN L (typL L k i))) (j + 1) = s + d by rw [sumTo, ← HM.out, ← hd, ← hy]; omega)
          clear hy hd
          go_wp2
          go_roundw
          case rel => exact ⟨j + 1, s + d, by omega, by go_num, by go_num, HN, by first | rfl | trivial⟩
          case measure => simp [intOf]; omega
        · obtain rfl : j = m := by omega
          have hcp2 := capR_sum (F := fun i => sizeN L (typL L k i)) (G := fun i => capR (sizeN L (typL L k i))) (n := j) (fun i _ => rfl)
          rw [HM.out, ← HS1.out] at hcp2
          have hon := HR2.out
          have HR3 := Lib.hid (show ISt w (.slice oa k oc) (capL L k) wr from ⟨by rw [capL_len]; exact hon, HB2.out⟩)
          have hsz := HB2.out.size
          clear hon
          by_cases hs : 2000 < s
          · rw [if_pos hs] at hcp2
            have HT := Lib.hid (show capL L (k + 1) = capL L k ++ [(3000 : Int)] by rw [capL_next, ← hcp2]; rfl)
            clear hcp2
            obtain ⟨wz, rfl⟩ : ∃ wz : World, wz = wr := ⟨_, rfl⟩
            go_wp2_with (at_builtin; refine wpList_append_at rfl (.tmp 42) (.tmp 44) 50 rfl w.heap.size 3 i0 (.int .i64 0) 1 8 Tryz.underlying50 hi0 hz0 hz1 hz2 rfl (by decide) _ _ _ rfl (HR3.out.1.alloc _) ⟨_, 0, none⟩ 1 1 [.int .i64 3000] rfl rfl (fun j u hj => by match j, hj with | 0, hj => (simp at hj; subst hj; simp [Addr.add])) (fun u hu => by (simp at hu; subst hu; rfl)) (by unfold maxLen; omega) (by omega) (by simp <;> omega) ?_; intro v2 w2 hown2 hg2 hf2; have HQ2 := Lib.hid (HR3.out.next (x := 3000) (by simpa using hown2) hg2); clear hown2 hg2 hf2)
            go_wp2
            go_roundw
            case rel => exact ⟨k + 1, by omega, by go_num, (by rw [HT.out]; exact HQ2)⟩
            case measure => simp [intOf]; omega
          · rw [if_neg hs] at hcp2
            have HT := Lib.hid (show capL L (k + 1) = capL L k ++ [(s : Int)] by rw [capL_next, ← hcp2])
            clear hcp2
            obtain ⟨wz, rfl⟩ : ∃ wz : World, wz = wr := ⟨_, rfl⟩
            go_wp2_with (at_builtin; refine wpList_append_at rfl (.tmp 42) (.tmp 44) 50 rfl w.heap.size 3 i0 (.int .i64 0) 1 8 Tryz.underlying50 hi0 hz0 hz1 hz2 rfl (by decide) _ _ _ rfl (HR3.out.1.alloc _) ⟨_, 0, none⟩ 1 1 [.int .i64 (s : Nat)] rfl rfl (fun j u hj => by match j, hj with | 0, hj => (simp at hj; subst hj; simp [Addr.add])) (fun u hu => by (simp at hu; subst hu; rfl)) (by unfold maxLen; omega) (by omega) (by simp <;> omega) ?_; intro v2 w2 hown2 hg2 hf2; have HQ2 := Lib.hid (HR3.out.next (x := (s : Nat)) (by simpa using hown2) hg2); clear hown2 hg2 hf2)
            go_wp2
            go_roundw
            case rel => exact ⟨k + 1, by omega, by go_num, (by rw [HT.out]; exact HQ2)⟩
            case measure => simp [intOf]; omega
    · obtain rfl : k = T + 1 := by omega
      have ho := HP.out.1
      rw [capL_len] at ho
      obtain ⟨oa, oc, hoe, hoa⟩ := row_form ho
      subst hoe
      obtain ⟨go, rfl⟩ := hoa (by omega)
      have cT := cell_int ho T (by omega)
      rw [capL_get L (by omega)] at cT
      have HCT := Lib.hid cT
      clear ho hoa cT
      go_wp2
      go_ret
      exact ⟨_, _, rfl, HCT.out, HP.out.2⟩
end Go.Proofs.YtohphejhlgnciaaGreat
