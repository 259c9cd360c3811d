/- Contract of chapter 6's reference: one. -/
import Derived.Test.YtcojomkpogikiaaGreatDoorA18
import Derived.Test.YtcojomkpogikiaaGreatDoorA22
namespace Go.Proofs.YtcojomkpogikiaaGreatDoor.Pa
open Go.RowKit
set_option linter.unusedVariables false
def kindBad (T : TypeV) : Bool := decide (T.kind < 1) || decide (14 < T.kind)
def bndR (T : TypeV) : Bool := (T.kind == 10 && decide (T.bound < 0)) || ((T.kind == 11 || T.kind == 12) && decide (T.bound < 1)) || decide (64 < T.bound)
def partOut (at' : Nat) (p : Int) : Bool := decide (p < 0) || decide ((at' : Int) ≤ p)
def orderR (T : TypeV) (at' : Nat) : Bool := hasB (fun j => partOut at' ((partsL T).getD j 0)) (partsL T).length
def tagR (L : Nat → TypeV) (T : TypeV) : Bool := T.kind == 14 && !numK (L T.tag.toNat).kind
def oneT (L : Nat → TypeV) (len at' : Nat) (T : TypeV) : Int :=
  if kindBad T then 4 else if moreB T then 1 else if namedK T.kind && !nameS T.name then 5 else if namedK T.kind && nameTw L T at' then 6 else if bndR T then 7 else if orderR T at' then 14
  else if tagR L T then 8 else if namedK T.kind && decide (T.ilen = 0) then 18 else if 16 < T.ilen then 3 else if firstE (itemE L T) T.ilen ≠ 0 then firstE (itemE L T) T.ilen else if 6 < deepL L len (at' : Nat) then 9 else 0
def oneR (L : Nat → TypeV) (len at' : Nat) : Int := oneT L len at' (L at')
theorem order_in {T : TypeV} {at' : Nat} (h : orderR T at' = false) (p : Int) (hp : p ∈ partsL T) : 0 ≤ p ∧ p < at' := by
  obtain ⟨j, hj, he⟩ := List.getElem_of_mem hp
  cases hq : partOut at' ((partsL T).getD j 0) with
  | true =>
    have := hasB_some (p := fun j => partOut at' ((partsL T).getD j 0)) hj hq
    unfold orderR at h
    rw [h] at this; cases this
  | false =>
    rw [List.getD_eq_getElem?_getD, List.getElem?_eq_getElem hj] at hq
    simp only [Option.getD_some] at hq
    rw [he] at hq
    unfold partOut at hq
    simp at hq
    omega
theorem tag_in {T : TypeV} {at' : Nat} (h : orderR T at' = false) (hk : (T.kind == 14) = true) : 0 ≤ T.tag ∧ T.tag < at' :=
  order_in h T.tag (by rw [partsL_union (by simpa using hk)]; exact List.mem_cons_self)
theorem type_in {T : TypeV} {at' : Nat} (h : orderR T at' = false) (hk : T.kind = 13 ∨ T.kind = 14) {j : Nat} (hj : j < T.ilen) : 0 ≤ (T.items j).type ∧ (T.items j).type < at' := by
  refine order_in h _ ?_
  have hm : (T.items j).type ∈ (List.range T.ilen).map fun j => (T.items j).type := List.mem_map.2 ⟨j, List.mem_range.2 hj, rfl⟩
  rcases hk with hk | hk
  · rw [partsL_struct hk]; exact hm
  · rw [partsL_union hk]; exact List.mem_cons_of_mem _ hm
theorem named_of {T : TypeV} (h : moreB T = false) {j : Nat} (hj : j < T.ilen) : namedK T.kind = true := by
  unfold moreB c1B at h
  rw [Bool.or_eq_false_iff, Bool.or_eq_false_iff, Bool.or_eq_false_iff] at h
  have h2 := h.1.1.2
  rw [decide_eq_true (show 0 < T.ilen by omega)] at h2
  simpa using h2
theorem named_cases {k : Int} (h : namedK k = true) : k = 9 ∨ k = 13 ∨ k = 14 := by
  unfold namedK at h; simp at h; omega
end Go.Proofs.YtcojomkpogikiaaGreatDoor.Pa
namespace Go.Proofs.YtcojomkpogikiaaGreatDoor.Pa
open Go.RowKit
set_option linter.unusedVariables false
end Go.Proofs.YtcojomkpogikiaaGreatDoor.Pa
namespace Go.Proofs.YtcojomkpogikiaaGreatDoor.Pa
open Go.RowKit
set_option linter.unusedVariables false
theorem firstE_cons (e : Nat → Int) (n : Nat) : firstE e (n + 1) = if e 0 ≠ 0 then e 0 else firstE (fun j => e (j + 1)) n := by
  by_cases h : e 0 ≠ 0
  · rw [if_pos h]; exact firstE_at (fun i hi => absurd hi (Nat.not_lt_zero _)) (Nat.succ_pos _) (by simpa using h)
  · rw [if_neg h]
    have h0 : e 0 = 0 := by simpa using h
    obtain ⟨h1, h2, h3⟩ := firstN_is (fun j => e (j + 1) != 0) n
    by_cases c : firstN (fun j => e (j + 1) != 0) n < n
    · rw [firstE_at (e := fun j => e (j + 1)) h2 c (h3 c)]
      refine firstE_at (fun i hi => ?_) (by omega) (h3 c)
      rcases i with _ | i
      · simp [h0]
      · exact h2 i (by omega)
    · rw [firstE_none (e := fun j => e (j + 1)) (fun i hi => h2 i (by omega))]
      refine firstE_none (fun i hi => ?_)
      rcases i with _ | i
      · simp [h0]
      · exact h2 i (by omega)
theorem firstE_zero (e : Nat → Int) : firstE e 0 = 0 := firstE_none (fun i hi => absurd hi (Nat.not_lt_zero _))
theorem firstE_congr {e f : Nat → Int} {n : Nat} (h : ∀ i, i < n → e i = f i) : firstE e n = firstE f n := by
  induction n generalizing e f with
  | zero => rw [firstE_zero, firstE_zero]
  | succ n ih => rw [firstE_cons, firstE_cons, h 0 (by omega), ih (fun i hi => h (i + 1) (by omega))]
theorem hasB_congr {p q : Nat → Bool} {n : Nat} (h : ∀ i, i < n → p i = q i) : hasB p n = hasB q n := by
  induction n with
  | zero => rw [hasB_zero, hasB_zero]
  | succ n ih => rw [hasB_next, hasB_next, ih (fun i hi => h i (by omega)), h n (by omega)]
theorem hasB_firstN (p : Nat → Bool) (n : Nat) : decide (firstN p n < n) = hasB p n := rfl
/-- the form -/
theorem name_eq_self (s : ByteArray) : (s.toList == s.toList) = true := by simp
theorem item_same {k : Int} (h : namedK k = true) (x : ItemV) : itemBad k x = itemMore k x := by
  have hs := name_eq_self x.name
  rcases named_cases h with rfl | rfl | rfl
  · have e : ownI 9 x = ⟨x.name, x.num, 0, false, false⟩ := by simp [ownI, tysK]
    unfold itemBad itemMore sameI
    rw [e]
    dsimp only
    rw [hs]
    cases x.key <;> cases x.rest <;> simp [bne]
  · have e : ownI 13 x = ⟨x.name, 0, x.type, x.key, false⟩ := by simp [ownI, tysK]
    unfold itemBad itemMore sameI
    rw [e]
    dsimp only
    rw [hs]
    cases x.key <;> cases x.rest <;> simp [bne]
  · cases hr : x.rest with
    | false =>
      have e : ownI 14 x = ⟨x.name, x.num, x.type, false, false⟩ := by simp [ownI, tysK, hr]
      unfold itemBad itemMore sameI
      rw [e]
      dsimp only
      rw [hs, hr]
      cases x.key <;> simp [bne]
    | true =>
      have e : ownI 14 x = ⟨x.name, 0, x.type, false, true⟩ := by simp [ownI, tysK, hr]
      unfold itemBad itemMore sameI
      rw [e]
      dsimp only
      rw [hs, hr]
      cases x.key <;> simp [bne]
theorem form_same {T : TypeV} (h1 : 1 ≤ T.kind) (h2 : T.kind ≤ 14) : formB T = moreB T := by
  have hk : c3B T = (f2B T || f3B T || f4B T) := by
    unfold c3B f2B f3B f4B
    have e1 : (decide (T.kind < 10) || decide (12 < T.kind)) = !boundK T.kind := by
      unfold boundK ofK; rw [Bool.eq_iff_iff]; simp; omega
    have e2 : (T.kind != 11 && T.kind != 12) = !ofK T.kind := by
      unfold ofK; rw [Bool.eq_iff_iff]; simp
    have e3 : (T.kind != 14) = !(T.kind == 14) := rfl
    rw [e1, e2, e3]
  have hc : c1B T = (f1B T || f5B T) := rfl
  unfold formB moreB
  rw [hc, hk, hasB_firstN]
  cases hf5 : f5B T with
  | true => cases f1B T <;> cases f2B T <;> cases f3B T <;> cases f4B T <;> rfl
  | false =>
    have hh : hasB (fun j => itemBad T.kind (T.items j)) T.ilen = hasB (fun j => itemMore T.kind (T.items j)) T.ilen := by
      refine hasB_congr fun i hi => item_same ?_ _
      unfold f5B at hf5
      rw [decide_eq_true (show 0 < T.ilen by omega)] at hf5
      simpa using hf5
    rw [hh]
    cases f1B T <;> cases f2B T <;> cases f3B T <;> cases f4B T <;> rfl
theorem bound_same {T : TypeV} (h : moreB T = false) : boundBad T = bndR T := by
  have h3 : c3B T = false := by
    unfold moreB at h
    rw [Bool.or_eq_false_iff, Bool.or_eq_false_iff] at h
    exact h.1.2
  unfold c3B at h3
  rw [Bool.or_eq_false_iff, Bool.or_eq_false_iff] at h3
  have hb := h3.1.1
  unfold boundBad bndR boundK ofK
  by_cases h10 : T.kind = 10
  · rw [h10]; simp
  · by_cases h11 : T.kind = 11
    · rw [h11]; simp
    · by_cases h12 : T.kind = 12
      · rw [h12]; simp
      · have hz : T.bound = 0 := by
          simp at hb
          by_cases z : T.bound = 0
          · exact z
          · have := hb z; omega
        rw [hz]; simp [h10, h11, h12]
theorem order_same (T : TypeV) (at' : Nat) : orderBad T at' = orderR T at' := by
  unfold orderBad orderR
  refine hasB_congr fun j _ => ?_
  unfold inL partOut
  rw [Bool.eq_iff_iff]; simp <;> omega
theorem kindL_in {L : Nat → TypeV} {len : Nat} {t : Int} (h0 : 0 ≤ t) (h1 : t < len) : kindL L len t = (L t.toNat).kind := by
  unfold kindL inL
  rw [decide_eq_true h0, decide_eq_true h1]; rfl
theorem tag_same {L : Nat → TypeV} {len at' : Nat} {T : TypeV} (hat : at' < len) (h : orderR T at' = false) : (T.kind == 14 && !numK (kindL L len T.tag)) = tagR L T := by
  unfold tagR
  cases hk : (T.kind == 14) with
  | false => rfl
  | true =>
    obtain ⟨h0, h1⟩ := tag_in h hk
    rw [kindL_in h0 (by omega)]
/-- what is found of an item at its own place -/
theorem first_lt {p : Nat → Bool} {n i : Nat} (hi : i < n) (hp : p i = true) : decide (posZ (firstZ p n) < i) = hasB p i := by
  rcases firstZ_cases p n with ⟨k, hk, e, h1, h2⟩ | ⟨e, h1⟩
  · rw [e]
    have e2 : posZ (k : Nat) = k := by unfold posZ; rw [if_neg (by omega)]
    rw [e2]
    rcases Nat.lt_or_ge k i with c | c
    · rw [hasB_some c h1, decide_eq_true (by omega)]
    · rw [hasB_none (fun j hj => h2 j (by omega)), decide_eq_false (by omega)]
  · rw [h1 i hi] at hp; cases hp
theorem ite_dec {p : Prop} [Decidable p] {b : Bool} {x y : Int} (h : decide p = b) : (if p then x else y) = if b then x else y := by
  subst h; by_cases c : p <;> simp [c]
theorem itemL_own {L : Nat → TypeV} {len at' : Nat} {T : TypeV} (hat : at' < len) (hT : L at' = T) (hn : namedK T.kind = true) (s : ByteArray) : itemL L len (at' : Nat) s = firstZ (fun j => (T.items j).name.toList == s.toList) T.ilen := by
  unfold itemL itemZ
  rw [inL_yes hat, if_pos rfl, Int.toNat_natCast, hT, hn, if_pos rfl]
theorem valueL_own {L : Nat → TypeV} {len at' : Nat} {T : TypeV} (hat : at' < len) (hT : L at' = T) (h9 : T.kind = 9) (n : Int) : valueL L len (at' : Nat) n = firstZ (fun j => (T.items j).num == n) T.ilen := by
  unfold valueL valueZ
  rw [inL_yes hat, if_pos rfl, Int.toNat_natCast, hT, if_pos h9]
theorem branchL_own {L : Nat → TypeV} {len at' : Nat} {T : TypeV} (hat : at' < len) (hT : L at' = T) (n : Int) : branchL L len (at' : Nat) n = branchZ T n := by
  unfold branchL
  rw [inL_yes hat, if_pos rfl, Int.toNat_natCast, hT]
/-- ahead of an item no branch is the rest: an item by item reckoning -/
theorem branch_lt {T : TypeV} {n : Int} {i : Nat} (h14 : T.kind = 14) (hi : i < T.ilen) (hp : tagB T n i = true) (hr : ∀ m, m < i → (T.items m).rest = false) : decide (posZ (branchZ T n) < i) = hasB (fun k => (T.items k).num == n) i := by
  have hfirst : okZ (firstZ (tagB T n) T.ilen) = true := by
    rcases firstZ_cases (tagB T n) T.ilen with ⟨k, hk, e, h1, h2⟩ | ⟨e, h1⟩
    · rw [e]; unfold okZ; rw [decide_eq_true (by omega)]
    · rw [h1 i hi] at hp; cases hp
  rw [(branchZ_hit h14 hfirst).1, first_lt hi hp]
  refine hasB_congr fun m hm => ?_
  unfold tagB
  rw [hr m hm]; rfl
theorem isTag_same {L : Nat → TypeV} {len at' : Nat} {T : TypeV} (hat : at' < len) (h14 : T.kind = 14) (ho : orderR T at' = false) (n : Int) : isTagB L len T n = numberB L T n := by
  obtain ⟨h0, h1⟩ := tag_in ho (by simpa using h14)
  unfold isTagB numberB
  rw [kindL_in h0 (by omega), if_neg (show ¬ T.kind = 9 by omega)]
  by_cases h9 : (L T.tag.toNat).kind = 9
  · rw [if_pos h9, if_pos h9]
    unfold okZ valueL inL
    rw [decide_eq_true h0, decide_eq_true (show T.tag < (len : Int) by omega)]
    rfl
  · rw [if_neg h9, if_neg h9]
theorem more_item {T : TypeV} (h : moreB T = false) {i : Nat} (hi : i < T.ilen) : itemMore T.kind (T.items i) = false := by
  cases hq : itemMore T.kind (T.items i) with
  | false => rfl
  | true =>
    have := hasB_some (p := fun j => itemMore T.kind (T.items j)) hi hq
    unfold moreB at h
    rw [Bool.or_eq_false_iff] at h
    have h2 : hasB (fun j => itemMore T.kind (T.items j)) T.ilen = false := h.2
    rw [h2] at this; cases this
/-- an item ahead of which none is wrong -/
theorem item_e_same {L : Nat → TypeV} {len at' : Nat} {T : TypeV} (hat : at' < len) (hT : L at' = T) (hm : moreB T = false) (ho : orderR T at' = false) {i : Nat} (hi : i < T.ilen) (hp : ∀ m, m < i → itemE L T m = 0) : ckItem L len at' T i = itemE L T i := by
  have hn := named_of hm hi
  have hmi := more_item hm hi
  unfold ckItem itemE
  by_cases hs : nameS (T.items i).name = false
  · rw [if_pos hs, if_pos hs]
  · rw [if_neg hs, if_neg hs]
    rw [ite_dec (show decide (posZ (itemL L len (at' : Nat) (T.items i).name) < i) = hasB (nameEq T (T.items i)) i by
      rw [itemL_own hat hT hn]; exact first_lt (p := nameEq T (T.items i)) hi (by unfold nameEq; simp))]
    cases hnm : hasB (nameEq T (T.items i)) i with
    | true => rfl
    | false =>
      simp only [Bool.false_eq_true, if_false]
      rcases named_cases hn with h9 | h13 | h14
      · rw [if_pos h9, if_neg (show ¬ T.kind = 13 by omega)]
        have hr : (T.items i).rest = false := by
          unfold itemMore at hmi
          rw [h9] at hmi
          simp at hmi
          exact hmi.2
        rw [hr]
        simp only [Bool.false_eq_true, if_false]
        unfold ckValue
        have e1 : numberB L T (T.items i).num = mayK 9 (T.items i).num := by unfold numberB; rw [if_pos h9]
        rw [e1]
        by_cases hy : mayK 9 (T.items i).num = false
        · rw [if_pos hy, if_pos hy]
        · rw [if_neg hy, if_neg hy]
          rw [ite_dec (show decide (posZ (valueL L len (at' : Nat) (T.items i).num) < i) = hasB (numEq T (T.items i)) i by
            rw [valueL_own hat hT h9]; exact first_lt (p := numEq T (T.items i)) hi (by unfold numEq; simp))]
      · rw [if_neg (show ¬ T.kind = 9 by omega), if_pos h13, if_pos h13]
        obtain ⟨t0, t1⟩ := type_in ho (.inl h13) hi
        unfold ckField
        rw [kindL_in t0 (by omega)]
      · rw [if_neg (show ¬ T.kind = 9 by omega), if_neg (show ¬ T.kind = 13 by omega), if_neg (show ¬ T.kind = 13 by omega)]
        unfold ckBranch
        cases hr : (T.items i).rest with
        | true => rfl
        | false =>
          simp only [Bool.false_eq_true, if_false]
          rw [isTag_same hat h14 ho]
          by_cases hy : numberB L T (T.items i).num = false
          · rw [if_pos hy, if_pos hy]
          · rw [if_neg hy, if_neg hy]
            have hrm : ∀ m, m < i → (T.items m).rest = false := by
              intro m hmi'
              cases hq : (T.items m).rest with
              | false => rfl
              | true =>
                have h0 := hp m hmi'
                unfold itemE at h0
                rw [if_neg (show ¬ T.kind = 13 by omega), hq] at h0
                simp only [if_true] at h0
                rw [if_pos (show m + 1 < T.ilen by omega)] at h0
                split at h0
                · cases h0
                · split at h0
                  · cases h0
                  · cases h0
            rw [ite_dec (show decide (posZ (branchL L len (at' : Nat) (T.items i).num) < i) = hasB (numEq T (T.items i)) i by
              rw [branchL_own hat hT]; exact branch_lt h14 hi (by unfold tagB; rw [hr]; simp) hrm)]
theorem items_same {L : Nat → TypeV} {len at' : Nat} {T : TypeV} (hat : at' < len) (hT : L at' = T) (hm : moreB T = false) (ho : orderR T at' = false) : ckItems L len at' T = firstE (itemE L T) T.ilen := by
  unfold ckItems
  obtain ⟨h1, h2, h3⟩ := firstN_is (fun j => itemE L T j != 0) T.ilen
  have hz : ∀ i, i < firstN (fun j => itemE L T j != 0) T.ilen → itemE L T i = 0 := fun i hi => by have := h2 i hi; simpa using this
  have hz2 : ∀ i, i < firstN (fun j => itemE L T j != 0) T.ilen → ckItem L len at' T i = 0 := fun i hi => by
    rw [item_e_same hat hT hm ho (by omega) (fun m hm' => hz m (by omega))]; exact hz i hi
  by_cases c : firstN (fun j => itemE L T j != 0) T.ilen < T.ilen
  · rw [firstE_at h2 c (h3 c)]
    have e := item_e_same hat hT hm ho c hz
    rw [← e]
    refine firstE_at (fun i hi => by rw [hz2 i hi]; rfl) c ?_
    rw [e]; exact h3 c
  · rw [firstE_none (fun i hi => h2 i (by omega))]
    exact firstE_none (fun i hi => by rw [hz2 i (by omega)]; rfl)
theorem if_chain {b : Bool} {c x : Int} (hc : c ≠ 0) : (if (if b = true then c else 0) ≠ 0 then (if b = true then c else 0) else x) = if b = true then c else x := by
  cases b <;> simp [hc]
theorem one_same {L : Nat → TypeV} {len at' : Nat} (hat : at' < len) : oneC L len at' = oneR L len at' := by
  unfold oneC oneR
  obtain ⟨T, hT⟩ : ∃ T, L at' = T := ⟨_, rfl⟩
  rw [hT]
  have e : firstE (ckAt L len at') 9 = (if ckKind T ≠ 0 then ckKind T else if ckForm T ≠ 0 then ckForm T else if ckName L T at' ≠ 0 then ckName L T at' else if ckBound T ≠ 0 then ckBound T else if ckOrder T at' ≠ 0 then ckOrder T at' else
      if ckTag L len T ≠ 0 then ckTag L len T else if ckCount T ≠ 0 then ckCount T else if ckItems L len at' T ≠ 0 then ckItems L len at' T else if ckDepth L len at' ≠ 0 then ckDepth L len at' else 0) := by
    rw [← hT]
    simp only [firstE_cons, firstE_zero]
    rfl
  rw [e]
  clear e
  unfold oneT
  have e1 : ckKind T = if kindBad T = true then 4 else 0 := by unfold ckKind kindBad; by_cases h : T.kind < 1 <;> by_cases h' : 14 < T.kind <;> simp [h, h']
  rw [e1, if_chain (by decide)]
  cases hkb : kindBad T with
  | true => rfl
  | false =>
    simp only [Bool.false_eq_true, if_false]
    have hk : 1 ≤ T.kind ∧ T.kind ≤ 14 := by unfold kindBad at hkb; simp at hkb; omega
    have e2 : ckForm T = if moreB T = true then 1 else 0 := by unfold ckForm; rw [form_same hk.1 hk.2]
    rw [e2, if_chain (by decide)]
    cases hm : moreB T with
    | true => rfl
    | false =>
      simp only [Bool.false_eq_true, if_false]
      have e3 : ckName L T at' = if (namedK T.kind && !nameS T.name) = true then 5 else if (namedK T.kind && nameTw L T at') = true then 6 else 0 := by
        unfold ckName
        cases namedK T.kind <;> cases nameS T.name <;> cases nameTw L T at' <;> rfl
      rw [e3]
      cases hn1 : (namedK T.kind && !nameS T.name) with
      | true => rfl
      | false =>
        simp only [Bool.false_eq_true, if_false]
        rw [if_chain (by decide)]
        cases hn2 : (namedK T.kind && nameTw L T at') with
        | true => rfl
        | false =>
          simp only [Bool.false_eq_true, if_false]
          have e4 : ckBound T = if bndR T = true then 7 else 0 := by unfold ckBound; rw [bound_same hm]
          rw [e4, if_chain (by decide)]
          cases hb : bndR T with
          | true => rfl
          | false =>
            simp only [Bool.false_eq_true, if_false]
            have e5 : ckOrder T at' = if orderR T at' = true then 14 else 0 := by unfold ckOrder; rw [order_same]
            rw [e5, if_chain (by decide)]
            cases ho : orderR T at' with
            | true => rfl
            | false =>
              simp only [Bool.false_eq_true, if_false]
              have e6 : ckTag L len T = if tagR L T = true then 8 else 0 := by unfold ckTag; rw [tag_same hat ho]
              rw [e6, if_chain (by decide)]
              cases ht : tagR L T with
              | true => rfl
              | false =>
                simp only [Bool.false_eq_true, if_false]
                have e7 : ckCount T = if (namedK T.kind && decide (T.ilen = 0)) = true then 18 else if 16 < T.ilen then 3 else 0 := by
                  unfold ckCount
                  cases hn : namedK T.kind with
                  | true => by_cases h : T.ilen = 0 <;> simp [h]
                  | false =>
                    have : ¬ 16 < T.ilen := fun h => by
                      have := named_of hm (j := 0) (by omega)
                      rw [hn] at this; cases this
                    simp [this]
                rw [e7]
                cases hc : (namedK T.kind && decide (T.ilen = 0)) with
                | true => rfl
                | false =>
                  simp only [Bool.false_eq_true, if_false]
                  by_cases h16 : 16 < T.ilen
                  · rw [if_pos h16, if_pos h16]; rfl
                  · rw [if_neg h16, if_neg h16, if_neg (by simp), items_same hat hT hm ho]
                    split
                    · rfl
                    · unfold ckDepth
                      by_cases h6 : 6 < deepL L len (at' : Nat) <;> simp [h6]
theorem fault_same (L : Nat → TypeV) (len : Nat) : faultV (oneC L len) len = faultV (oneR L len) len := by
  unfold faultV fErr fAt
  rw [firstE_congr (e := oneC L len) (f := oneR L len) (fun i hi => one_same hi)]
  have h : ∀ n, n ≤ len → firstN (fun i => oneC L len i != 0) n = firstN (fun i => oneR L len i != 0) n := by
    intro n hn
    obtain ⟨h1, h2, h3⟩ := firstN_is (fun i => oneR L len i != 0) n
    by_cases c : firstN (fun i => oneR L len i != 0) n < n
    · exact first_at (fun i hi => by show (oneC L len i != 0) = false; rw [one_same (by omega)]; exact h2 i hi) c (by show (oneC L len _ != 0) = true; rw [one_same (by omega)]; exact h3 c)
    · have e : firstN (fun i => oneR L len i != 0) n = n := by omega
      rw [e]
      exact first_none (fun i hi => by show (oneC L len i != 0) = false; rw [one_same (by omega)]; exact h2 i (by omega))
  rw [h len (Nat.le_refl _)]
end Go.Proofs.YtcojomkpogikiaaGreatDoor.Pa
namespace Go.Proofs.YtcojomkpogikiaaGreatDoor.Pa
open Go.ChangeShapes Go.WideShapes Go.ChangeAt Go.RowKit
set_option linter.unusedVariables false
theorem fault_eql (a b c d : Int) (w : World) : (binOp .eql 57 (.agg #[.int .i64 a, .int .i64 b]) (.agg #[.int .i64 c, .int .i64 d])).run Tryz.prog w = .ok (.bool ((a == c) && (b == d))) w := by
  have hu := Tryz.underlying57
  have hi := Tryz.underlying3
  have he := Tryz.underlying30
  have p0 := fun a c w => run_equalIn_int (P := Tryz.prog) w 9998 3 .i64 .i64 a c hi
  have p1 := fun a c w => run_equalIn_int (P := Tryz.prog) w 9998 30 .i64 .i64 a c he
  rw [run_eql_struct, run_equalIn_agg _ 9999 _ _ _ (by kernel_rfl) (by kernel_rfl)]
  simp only [Program.fieldsOf, hu]
  simp [Op.eqFields, go_sem, p0, p1]
  (repeat' split) <;> simp_all
def noneT (k b o : Int) : TypeV := ⟨k, ⟨#[]⟩, b, o, 0, none, 0, 0, default⟩
end Go.Proofs.YtcojomkpogikiaaGreatDoor.Pa
namespace Go.Proofs.YtcojomkpogikiaaGreatDoor.Pa
open Go.ChangeShapes Go.WideShapes Go.ChangeAt Go.RowKit
set_option linter.unusedVariables false
theorem great_lt {L : Nat → TypeV} {len : Nat} (h : greatB L len = false) : len ≤ 100 := by
  unfold greatB at h; simp at h; omega
theorem deepL_in {L : Nat → TypeV} {len i : Nat} (h : i < len) : deepL L len (i : Nat) = (deepN L i : Nat) := by unfold deepL; rw [inL_yes h]; rfl
/-- a list that may be: so may its beginning -/
theorem valid_all {L : Nat → TypeV} {len : Nat} (h : fErr (oneR L len) len = 0) : len ≤ 32 ∧ ∀ i, i < len → oneR L len i = 0 := by
  unfold fErr at h
  by_cases h32 : 32 < len
  · rw [if_pos h32] at h; cases h
  · rw [if_neg h32] at h
    refine ⟨by omega, fun i hi => ?_⟩
    obtain ⟨h1, h2, h3⟩ := firstN_is (fun j => oneR L len j != 0) len
    by_cases c : firstN (fun j => oneR L len j != 0) len < len
    · rw [firstE_at h2 c (h3 c)] at h
      have h4 : (oneR L len (firstN (fun j => oneR L len j != 0) len) != 0) = true := h3 c
      rw [h] at h4; cases h4
    · have := h2 i (by omega); simpa using this
theorem fold_has {D : Nat → Nat} {t : Nat} {p : Int} (h0 : 0 ≤ p) (h1 : p < t) : ∀ (l : List Int) (a : Nat), p ∈ l → D p.toNat + 1 ≤ l.foldl (deepStep D t) a
  | q :: l, a, h => by
    rw [List.foldl_cons]
    rcases List.mem_cons.1 h with rfl | h
    · refine Nat.le_trans ?_ (fold_ge l _)
      unfold deepStep
      rw [if_pos ⟨h0, h1⟩]
      omega
    · exact fold_has h0 h1 l _ h
/-- a type that may be is no deeper than may be, and deeper than its parts -/
theorem valid_deep {L : Nat → TypeV} {len i : Nat} (h : oneR L len i = 0) (hi : i < len) : 1 ≤ deepN L i ∧ deepN L i ≤ 6 ∧ (11 ≤ (L i).kind → 2 ≤ deepN L i) := by
  obtain ⟨T, hT⟩ : ∃ T, L i = T := ⟨_, rfl⟩
  unfold oneR oneT at h
  rw [hT] at h
  have hp := deepN_pos L i
  split at h; · cases h
  rename_i hkb
  split at h; · cases h
  rename_i hm
  split at h; · cases h
  split at h; · cases h
  split at h; · cases h
  split at h; · cases h
  rename_i ho
  split at h; · cases h
  split at h; · cases h
  rename_i hc
  split at h; · cases h
  split at h; · rename_i hne; exact absurd h hne
  split at h; · cases h
  rename_i hd
  rw [deepL_in hi] at hd
  refine ⟨hp, by omega, fun hk => ?_⟩
  rw [hT] at hk
  have hk14 : T.kind ≤ 14 := by unfold kindBad at hkb; simp at hkb; omega
  have ho' : orderR T i = false := by simpa using ho
  have key : ∀ p, p ∈ partsL T → 2 ≤ deepN L i := fun p hp => by
    obtain ⟨h0, h1⟩ := order_in ho' p hp
    rw [deepN_eq]
    have := fold_has (D := deepN L) h0 h1 (partsL (L i)) 1 (by rw [hT]; exact hp)
    have := deepN_pos L p.toNat
    omega
  have hk4 : (T.kind = 11 ∨ T.kind = 12) ∨ T.kind = 13 ∨ T.kind = 14 := by omega
  rcases hk4 with h1 | h1 | h1
  · exact key T.of (by rw [partsL_one h1]; exact List.mem_cons_self)
  · have hn : namedK T.kind = true := by unfold namedK; rw [h1]; rfl
    have hil : 0 < T.ilen := by
      rw [hn] at hc
      simp at hc; omega
    exact key (T.items 0).type (by rw [partsL_struct h1]; exact List.mem_map.2 ⟨0, List.mem_range.2 hil, rfl⟩)
  · exact key T.tag (by rw [partsL_union h1]; exact List.mem_cons_self)
end Go.Proofs.YtcojomkpogikiaaGreatDoor.Pa
/- Plain mathematics of chapter 7: the ends of a type's values, uncapped and capped. -/
namespace Go.Proofs.YtcojomkpogikiaaGreatDoor.Pa
open Go.RowKit
set_option linter.unusedVariables false
structure OkT (L : Nat → TypeV) (t : Nat) : Prop where
  kind : 1 ≤ (L t).kind ∧ (L t).kind ≤ 14
  of : (L t).kind = 11 ∨ (L t).kind = 12 → 0 ≤ (L t).of ∧ (L t).of < t ∧ deepN L (L t).of.toNat + 1 ≤ deepN L t
  tag : (L t).kind = 14 → 0 ≤ (L t).tag ∧ (L t).tag < t ∧ deepN L (L t).tag.toNat + 1 ≤ deepN L t ∧ numK (L (L t).tag.toNat).kind = true
  items : (L t).kind = 13 ∨ (L t).kind = 14 → ∀ j, j < (L t).ilen → 0 ≤ ((L t).items j).type ∧ ((L t).items j).type < t ∧ deepN L ((L t).items j).type.toNat + 1 ≤ deepN L t
  count : (L t).kind = 13 ∨ (L t).kind = 14 → 1 ≤ (L t).ilen ∧ (L t).ilen ≤ 16
  bound : (L t).kind = 10 ∨ (L t).kind = 11 ∨ (L t).kind = 12 → 0 ≤ (L t).bound ∧ (L t).bound ≤ 64
  least : (L t).kind = 11 ∨ (L t).kind = 12 → 1 ≤ (L t).bound
  deep : 1 ≤ deepN L t ∧ deepN L t ≤ 6
end Go.Proofs.YtcojomkpogikiaaGreatDoor.Pa
namespace Go.Proofs.YtcojomkpogikiaaGreatDoor.Pa
open Go.RowKit
set_option linter.unusedVariables false
theorem part_deep {L : Nat → TypeV} {t : Nat} {p : Int} (hp : p ∈ partsL (L t)) (h0 : 0 ≤ p) (h1 : p < t) : deepN L p.toNat + 1 ≤ deepN L t := by
  rw [deepN_eq L t]; exact fold_has h0 h1 _ _ hp
theorem ok_of {L : Nat → TypeV} {len i : Nat} (h : oneR L len i = 0) (hi : i < len) : OkT L i := by
  have hdp := valid_deep h hi
  unfold oneR oneT at h
  split at h; · cases h
  rename_i hkb
  split at h; · cases h
  rename_i hm
  split at h; · cases h
  split at h; · cases h
  split at h; · cases h
  rename_i hb
  split at h; · cases h
  rename_i ho
  split at h; · cases h
  rename_i htg
  split at h; · cases h
  rename_i hc
  split at h; · cases h
  rename_i hc16
  have ho' : orderR (L i) i = false := by simpa using ho
  have hin := fun p (hp : p ∈ partsL (L i)) => order_in ho' p hp
  have hk14 : 1 ≤ (L i).kind ∧ (L i).kind ≤ 14 := by unfold kindBad at hkb; simp at hkb; omega
  have hbd : bndR (L i) = false := by simpa using hb
  unfold bndR at hbd
  simp at hbd
  have pof : (L i).kind = 11 ∨ (L i).kind = 12 → (L i).of ∈ partsL (L i) := fun h => by rw [partsL_one h]; exact List.mem_cons_self
  have ptg : (L i).kind = 14 → (L i).tag ∈ partsL (L i) := fun h => by rw [partsL_union h]; exact List.mem_cons_self
  have pit : (L i).kind = 13 ∨ (L i).kind = 14 → ∀ j, j < (L i).ilen → ((L i).items j).type ∈ partsL (L i) := fun h j hj => by
    have hmm : ((L i).items j).type ∈ (List.range (L i).ilen).map fun j => ((L i).items j).type := List.mem_map.2 ⟨j, List.mem_range.2 hj, rfl⟩
    rcases h with h | h
    · rw [partsL_struct h]; exact hmm
    · rw [partsL_union h]; exact List.mem_cons_of_mem _ hmm
  refine ⟨hk14, fun hk => ?_, fun hk => ?_, fun hk j hj => ?_, fun hk => ?_, fun hk => ?_, fun hk => ?_, ⟨hdp.1, hdp.2.1⟩⟩
  · have h2 := hin _ (pof hk)
    exact ⟨h2.1, h2.2, part_deep (pof hk) h2.1 h2.2⟩
  · have h2 := hin _ (ptg hk)
    refine ⟨h2.1, h2.2, part_deep (ptg hk) h2.1 h2.2, ?_⟩
    unfold tagR at htg
    rw [hk] at htg
    simpa using htg
  · have h2 := hin _ (pit hk j hj)
    exact ⟨h2.1, h2.2, part_deep (pit hk j hj) h2.1 h2.2⟩
  · have hn : namedK (L i).kind = true := by unfold namedK; rcases hk with hk | hk <;> rw [hk] <;> rfl
    rw [hn] at hc
    simp at hc
    omega
  · obtain ⟨⟨h1, h2⟩, h3⟩ := hbd
    rcases hk with hk | hk | hk
    · exact ⟨h1 hk, by omega⟩
    · exact ⟨by have := h2 (.inl hk); omega, by omega⟩
    · exact ⟨by have := h2 (.inr hk); omega, by omega⟩
  · obtain ⟨⟨h1, h2⟩, h3⟩ := hbd
    exact h2 hk
theorem ok_all {L : Nat → TypeV} {len : Nat} (h : fErr (oneR L len) len = 0) : ∀ i, i < len → OkT L i := fun i hi => ok_of ((valid_all h).2 i hi) hi
/-- whether a list is valid and has a type -/
def hasT (L : Nat → TypeV) (len : Nat) (t : Int) : Bool := inL len t && (fErr (oneR L len) len == 0 && fAt (oneR L len) len == 0)
theorem hasT_in {L : Nat → TypeV} {len : Nat} {t : Int} (h : hasT L len t = true) : ∃ k : Nat, t = k ∧ k < len ∧ fErr (oneR L len) len = 0 := by
  unfold hasT inL at h
  simp at h
  exact ⟨t.toNat, by omega, by omega, h.2.1⟩
end Go.Proofs.YtcojomkpogikiaaGreatDoor.Pa
