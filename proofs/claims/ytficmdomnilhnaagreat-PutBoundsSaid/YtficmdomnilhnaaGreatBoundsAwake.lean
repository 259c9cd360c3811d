/- Contracts of package bounds: has, bound, Most, Least, Open. -/
import Derived.Test.YtficmdomnilhnaaGreatBoundsLearn
import Derived.Test.YtficmdomnilhnaaGreatTypesLawMath
namespace Go.Proofs.YtficmdomnilhnaaGreat
open Go.RowKit
set_option linter.unusedVariables false
theorem fault_zero (E A : Int) (w : World) : (binOp .eql 81 (.agg #[.int .i64 E, .int .i64 A]) (.agg #[.int .i64 0, .int .i64 0])).run Tryz.prog w = .ok (.bool ((E == 0) && (A == 0))) w := fault_eql E A 0 0 w
theorem has_any (ao : Option Addr) (len cap : Nat) (L : Nat → TypeV) (t : Int) (hlen : len ≤ 1000000) (hcap : len ≤ cap) (w : World) (H : ∀ i, i < len → TypeAt w ao i (L i)) :
    Calls Tryz.prog 50 #[.slice ao len cap, .int .i64 t] w fun e w' => e = .returned (.bool (hasT L len t)) ∧ Below w.heap.size w w' := by
  by_cases ht : 0 ≤ t ∧ t < len
  · obtain ⟨h0, h1⟩ := ht
    have hT : hasT L len t = ((fErr (oneR L len) len == 0) && (fAt (oneR L len) len == 0)) := by unfold hasT inL; rw [decide_eq_true h0, decide_eq_true h1]; rfl
    rw [hT]
    have hc := check6_any ao len cap L hlen hcap w H
    rw [fault_same] at hc
    unfold faultV at hc
    obtain ⟨E, hE⟩ : ∃ E, fErr (oneR L len) len = E := ⟨_, rfl⟩
    obtain ⟨A, hA⟩ : ∃ A, fAt (oneR L len) len = A := ⟨_, rfl⟩
    rw [hE, hA] at hc ⊢
    have hfe := fun w => fault_zero E A w
    obtain ⟨q, hq⟩ : ∃ q, ((E == 0) && (A == 0)) = q := ⟨_, rfl⟩
    rw [hq] at hfe ⊢
    have HC := Lib.hid hc
    clear hc hE hA hT hq H
    go_enter Tryz.func50, Tryz.ntmps50
    go_wp2_with (go_at_call 38; refine HC.out.mono ?_; rintro e w1 ⟨rfl, hb1⟩; have HB1 := Lib.hid hb1; clear hb1)
    go_ret
    exact ⟨rfl, HB1.out⟩
  · have hT : hasT L len t = false := by unfold hasT; rw [inL_no ht]; rfl
    rw [hT]
    clear hT H
    by_cases h0 : 0 ≤ t
    · have h1 : ¬ t < len := fun h => ht ⟨h0, h⟩
      clear ht
      go_enter Tryz.func50, Tryz.ntmps50
      go_wp2
      go_ret
      exact ⟨rfl, Below.refl _ _⟩
    · clear ht
      go_enter Tryz.func50, Tryz.ntmps50
      go_wp2
      go_ret
      exact ⟨rfl, Below.refl _ _⟩
theorem seqE_cap {F : Nat → Nat → Nat} : ∀ (n a : Nat), (∀ j, j < n → ∀ a, F j a ≤ 513) → a ≤ 513 → seqE F n a ≤ 513
  | 0, a, h, ha => ha
  | n + 1, a, h, ha => h n (Nat.lt_succ_self n) _
theorem step_cap {L : Nat → TypeV} {op : Nat → Bool} {most : Bool} {F : Nat → Nat → Nat} {t a : Nat} (h : OkT L t) (hF : ∀ p, p < t → ∀ a, F p a ≤ 513) (ha : a ≤ 7) : stepE L op most F t a ≤ 4000 := by
  have g4 := numE4_le a
  unfold stepE
  split
  · rename_i hk
    have hb := h.bound (.inl hk)
    unfold cntE; split <;> omega
  split
  · rename_i hk
    have ho := h.of (.inl hk)
    exact Nat.le_trans (seqE_cap _ _ (fun j hj => hF _ (by omega)) (by omega)) (by decide)
  split
  · rename_i hk
    have ho := h.of (.inr hk)
    exact Nat.le_trans (seqE_cap _ _ (fun j hj => hF _ (by omega)) (by omega)) (by decide)
  split
  · rename_i hk
    have hi := h.items (.inl hk)
    exact Nat.le_trans (seqE_cap _ _ (fun j hj => hF _ (by have := hi j hj; omega)) (by omega)) (by decide)
  split
  · rename_i hk
    have hcn := h.count (.inr hk)
    have htg := h.tag hk
    have hi := h.items (.inr hk)
    refine Nat.le_trans (pick_hi (c := 513) _ (unX_all (P := fun x => x ≤ 513) hcn.1 (hF _ (by omega) _) fun j hj => ?_)) (by decide)
    exact hF _ (by have := hi j hj; omega) _
  · rename_i h10 h11 h12 h13 h14
    have hk := h.kind
    have hn : numK (L t).kind = true := by unfold numK; simp; omega
    have := numE_le (szN_of hn).1 a
    omega
/-- what learn knows -/
def kncE (L : Nat → TypeV) (len : Nat) (most : Bool) (p r : Nat) : Nat := stepE L (openT L len) most (endC L (openT L len) most) p r
theorem endK_end {L : Nat → TypeV} {len p : Nat} {most : Bool} (h : OkT L p) (a : Nat) : endK (kncE L len most) p a = endC L (openT L len) most p a := by
  rw [endC_eq h]; rfl
theorem knc_step {L : Nat → TypeV} {len : Nat} {most : Bool} (hok : ∀ i, i < len → OkT L i) (i : Nat) (hi : i < len) (r : Nat) : stepE L (openT L len) most (endK (kncE L len most)) i r = kncE L len most i r :=
  stepE_local (hok i hi) _ _ (fun p hp => funext fun a => endK_end (hok p (by omega)) a) r
theorem knc_le {L : Nat → TypeV} {len : Nat} {most : Bool} (hok : ∀ i, i < len → OkT L i) (i : Nat) (hi : i < len) (r : Nat) (hr : r < 8) : kncE L len most i r ≤ 4000 :=
  step_cap (hok i hi) (fun p hp a => endC_le hok (by omega) a) (by omega)
set_option maxRecDepth 20000 in
set_option maxHeartbeats 1000000 in
theorem bound_yes (ao : Option Addr) (len cap : Nat) (L : Nat → TypeV) (k : Nat) (at' : Int) (least : Bool) (hk : k < len) (hv : fErr (oneR L len) len = 0) (hlen : len ≤ 1000000) (hcap : len ≤ cap) (w : World) (H : ∀ i, i < len → TypeAt w ao i (L i)) :
    Calls Tryz.prog 33 #[.slice ao len cap, .int .i64 (k : Nat), .int .i64 at', .bool least] w fun e w' => e = .returned (.int .i64 (min (endE L (openT L len) (!least) k (placeN at')) 513 : Nat)) ∧ Below w.heap.size w w' := by
  have hok := ok_all hv
  have hh := has_any ao len cap L (k : Nat) hlen hcap w H
  rw [hasT_yes hk hv] at hh
  have HHS := Lib.hid hh
  have hend : endK (kncE L len (!least)) k (placeN at') = min (endE L (openT L len) (!least) k (placeN at')) 513 := by rw [endK_end (hok k hk), endC_min hok hk]
  rw [← hend]
  have hp : placeN at' ≤ 513 := by unfold placeN; omega
  have hlearn := fun (w1 : World) (hb1 : Below w.heap.size w w1) => learn_any w1.heap.size ao len cap L least (kncE L len (!least)) k hlen hk hok (fun i hi r hr => knc_step hok i hi r) (fun i hi r hr => knc_le hok i hi r hr) w (w1.alloc (.cells #[.slice ao len cap, .bool least, .slice none 0 0] 97)) hb1.size H ⟨alloc_at w1 _, World.ownsRow_nil _ _ _ _, hb1.alloc hb1.size _⟩
  have HL := Lib.hid hlearn
  have hpl : (at' < 0 ∧ placeN at' = 0) ∨ (0 ≤ at' ∧ at' ≤ 513 ∧ at' = (placeN at' : Nat)) ∨ (513 < at' ∧ placeN at' = 513) := by unfold placeN; omega
  obtain ⟨a, ha⟩ : ∃ a, placeN at' = a := ⟨_, rfl⟩
  rw [ha] at hp hpl ⊢
  have hcall := fun (b : Nat) (w1 : World) (hr : Rd b ao len cap least (k + 1) (kncE L len (!least)) w1) => endR_any b ao len cap least (k + 1) (kncE L len (!least)) k a (by omega) (by omega) w1 hr
  clear hh hend hlearn H hok hv ha
  rcases hpl with ⟨h1, rfl⟩ | ⟨h1, h2, rfl⟩ | ⟨h1, rfl⟩
  · have h00 : ((0 : Nat) : Int) = 0 := rfl
    rw [h00] at hcall
    have HC := Lib.hid hcall
    clear hcall
    go_enter Tryz.func33, Tryz.ntmps33
    go_wp2_with (first
      | (go_at_call 50; refine HHS.out.mono ?_; rintro e w1 ⟨rfl, hb1⟩; have HB1 := Lib.hid hb1; clear hb1)
      | (go_at_call 51; refine (HL.out _ HB1.out).mono ?_; rintro e w2 ⟨rfl, hb2, hr2⟩; have HB2 := Lib.hid hb2; have HR2 := Lib.hid hr2; clear hb2 hr2)
      | (go_at_call 52; refine (HC.out _ _ HR2.out).mono ?_; rintro e w3 ⟨rfl, rfl⟩))
    go_ret
    exact ⟨rfl, HB2.out⟩
  · have HC := Lib.hid hcall
    clear hcall
    go_enter Tryz.func33, Tryz.ntmps33
    go_wp2_with (first
      | (go_at_call 50; refine HHS.out.mono ?_; rintro e w1 ⟨rfl, hb1⟩; have HB1 := Lib.hid hb1; clear hb1)
      | (go_at_call 51; refine (HL.out _ HB1.out).mono ?_; rintro e w2 ⟨rfl, hb2, hr2⟩; have HB2 := Lib.hid hb2; have HR2 := Lib.hid hr2; clear hb2 hr2)
      | (go_at_call 52; refine (HC.out _ _ HR2.out).mono ?_; rintro e w3 ⟨rfl, rfl⟩))
    go_ret
    exact ⟨rfl, HB2.out⟩
  · have h00 : ((513 : Nat) : Int) = 513 := rfl
    rw [h00] at hcall
    have HC := Lib.hid hcall
    clear hcall
    go_enter Tryz.func33, Tryz.ntmps33
    go_wp2_with (first
      | (go_at_call 50; refine HHS.out.mono ?_; rintro e w1 ⟨rfl, hb1⟩; have HB1 := Lib.hid hb1; clear hb1)
      | (go_at_call 51; refine (HL.out _ HB1.out).mono ?_; rintro e w2 ⟨rfl, hb2, hr2⟩; have HB2 := Lib.hid hb2; have HR2 := Lib.hid hr2; clear hb2 hr2)
      | (go_at_call 52; refine (HC.out _ _ HR2.out).mono ?_; rintro e w3 ⟨rfl, rfl⟩))
    go_ret
    exact ⟨rfl, HB2.out⟩
theorem bound_any (ao : Option Addr) (len cap : Nat) (L : Nat → TypeV) (t at' : Int) (least : Bool) (hlen : len ≤ 1000000) (hcap : len ≤ cap) (w : World) (H : ∀ i, i < len → TypeAt w ao i (L i)) :
    Calls Tryz.prog 33 #[.slice ao len cap, .int .i64 t, .int .i64 at', .bool least] w fun e w' => e = .returned (.int .i64 (boundA L (openT L len) len t at' (!least))) ∧ Below w.heap.size w w' := by
  have hh := has_any ao len cap L t hlen hcap w H
  cases hT : hasT L len t with
  | true =>
    obtain ⟨k, rfl, hk, hv⟩ := hasT_in hT
    have h := bound_yes ao len cap L k at' least hk hv hlen hcap w H
    have e : boundA L (openT L len) len (k : Nat) at' (!least) = (min (endE L (openT L len) (!least) k (placeN at')) 513 : Nat) := by unfold boundA; rw [hT]; rfl
    rw [e]; exact h
  | false =>
    have e : boundA L (openT L len) len t at' (!least) = -1 := by unfold boundA; rw [hT]; rfl
    rw [e]
    rw [hT] at hh
    have HHS := Lib.hid hh
    clear hh e hT H
    go_enter Tryz.func33, Tryz.ntmps33
    go_wp2_with (go_at_call 50; refine HHS.out.mono ?_; rintro e w1 ⟨rfl, hb1⟩; have HB1 := Lib.hid hb1; clear hb1)
    go_ret
    exact ⟨rfl, HB1.out⟩
theorem most_any (ao : Option Addr) (len cap : Nat) (L : Nat → TypeV) (t at' : Int) (hlen : len ≤ 1000000) (hcap : len ≤ cap) (w : World) (H : ∀ i, i < len → TypeAt w ao i (L i)) :
    Calls Tryz.prog 17 #[.slice ao len cap, .int .i64 t, .int .i64 at'] w fun e w' => e = .returned (.int .i64 (boundA L (openT L len) len t at' true)) ∧ Below w.heap.size w w' := by
  have HC := Lib.hid (bound_any ao len cap L t at' false hlen hcap w H)
  obtain ⟨x, hx⟩ : ∃ x, boundA L (openT L len) len t at' true = x := ⟨_, rfl⟩
  have hc := HC.out
  rw [show (!false) = true from rfl, hx] at hc
  rw [hx]
  have HD := Lib.hid hc
  clear hc HC hx H
  go_enter Tryz.func17, Tryz.ntmps17
  go_wp2_with (go_at_call 33; refine HD.out.mono ?_; rintro e w1 ⟨rfl, hb1⟩; have HB1 := Lib.hid hb1; clear hb1)
  go_ret
  exact ⟨rfl, HB1.out⟩
theorem least_any (ao : Option Addr) (len cap : Nat) (L : Nat → TypeV) (t at' : Int) (hlen : len ≤ 1000000) (hcap : len ≤ cap) (w : World) (H : ∀ i, i < len → TypeAt w ao i (L i)) :
    Calls Tryz.prog 16 #[.slice ao len cap, .int .i64 t, .int .i64 at'] w fun e w' => e = .returned (.int .i64 (boundA L (openT L len) len t at' false)) ∧ Below w.heap.size w w' := by
  have HC := Lib.hid (bound_any ao len cap L t at' true hlen hcap w H)
  obtain ⟨x, hx⟩ : ∃ x, boundA L (openT L len) len t at' false = x := ⟨_, rfl⟩
  have hc := HC.out
  rw [show (!true) = false from rfl, hx] at hc
  rw [hx]
  have HD := Lib.hid hc
  clear hc HC hx H
  go_enter Tryz.func16, Tryz.ntmps16
  go_wp2_with (go_at_call 33; refine HD.out.mono ?_; rintro e w1 ⟨rfl, hb1⟩; have HB1 := Lib.hid hb1; clear hb1)
  go_ret
  exact ⟨rfl, HB1.out⟩
end Go.Proofs.YtficmdomnilhnaaGreat
namespace Go.Proofs.YtficmdomnilhnaaGreat
open Go.ChangeShapes Go.WideShapes Go.ChangeAt Go.RowKit
set_option linter.unusedVariables false
def exS : Nat → TypeV := fun _ => noneT 10 3 0
def exSO : Obj := .cells #[.int .i64 10, .string ⟨#[]⟩, .int .i64 3, .int .i64 0, .int .i64 0, .slice none 0 0] 47
theorem exS_at (w : World) : ∀ i, i < 1 → TypeAt (w.alloc exSO) (some ⟨w.heap.size, 0, none⟩) i (exS i) := by
  intro i hi
  have hb := alloc_at w exSO
  obtain rfl : i = 0 := by omega
  have hit : ItemsAt (w.alloc exSO) (noneT 10 3 0) := ⟨by simp [noneT], fun j hj => by simp [noneT] at hj⟩
  exact ⟨_, 0, rfl, cell_at hb rfl, cell_at hb rfl, cell_at hb rfl, cell_at hb rfl, cell_at hb rfl, cell_at hb rfl, by unfold TypeWf; decide, hit⟩
theorem exS_ok : fErr (oneR exS 1) 1 = 0 := by decide +kernel
theorem exS_end (op : Nat → Bool) (most : Bool) : boundA exS op 1 0 1 most = if most then 12 else 9 := by
  unfold boundA
  have hT : hasT exS 1 0 = true := hasT_yes (k := 0) (by decide) exS_ok
  rw [hT, if_pos rfl]
  have hp : placeN 1 = 1 := by decide
  have he : endE exS op most 0 1 = if most then 12 else 9 := by
    rw [endE_eq (ok_all exS_ok 0 (by decide)), step10 rfl]
    cases most <;> rfl
  rw [hp, show (0 : Int).toNat = 0 from rfl, he]
  cases most <;> rfl
end Go.Proofs.YtficmdomnilhnaaGreat
