/- Contracts of package types: the checks of an item. -/
import Derived.Test.YtkaddjmngfpcfaaTypesName
namespace Go.Proofs.Ytkaddjmngfpcfaa
open Go.RowKit
set_option linter.unusedVariables false
def isTagB (L : Nat → TypeV) (len : Nat) (T : TypeV) (n : Int) : Bool := if kindL L len T.tag = 9 then okZ (valueL L len T.tag n) else mayK (kindL L len T.tag) n
def ckValue (L : Nat → TypeV) (len at' : Nat) (T : TypeV) (i : Nat) : Int := if mayK 9 (T.items i).num = false then 7 else if posZ (valueL L len (at' : Nat) (T.items i).num) < i then 6 else 0
def ckField (L : Nat → TypeV) (len : Nat) (T : TypeV) (i : Nat) : Int := if (T.items i).key && !numK (kindL L len (T.items i).type) && kindL L len (T.items i).type != 10 then 17 else 0
def ckBranch (L : Nat → TypeV) (len at' : Nat) (T : TypeV) (i : Nat) : Int :=
  if (T.items i).rest then (if i + 1 < T.ilen then 14 else 0) else if isTagB L len T (T.items i).num = false then 7 else if posZ (branchL L len (at' : Nat) (T.items i).num) < i then 6 else 0
def ckItem (L : Nat → TypeV) (len at' : Nat) (T : TypeV) (i : Nat) : Int :=
  if nameS (T.items i).name = false then 5 else if posZ (itemL L len (at' : Nat) (T.items i).name) < i then 6 else if T.kind = 9 then ckValue L len at' T i else if T.kind = 13 then ckField L len T i else ckBranch L len at' T i
set_option maxHeartbeats 1000000 in
theorem isTag_any (T : TypeV) (n : Int) (ao : Option Addr) (len cap at' : Nat) (L : Nat → TypeV) (hlen : len ≤ 1000000) (hn : (Lit.int .u64 n).wf = true) (w : World) (H : ∀ i, i < len → TypeAt w ao i (L i)) :
    Calls Try.prog 68 #[subV T ao len cap at', .int .u64 n] w fun e w' => e = .returned (.bool (isTagB L len T n)) ∧ Below w.heap.size w w' := by
  have hst := BoxS.start T ao len cap at' w
  unfold subO at hst
  have HS := Lib.hid hst
  clear hst
  have hk := fun wx (hb : Below w.heap.size w wx) => kindOf_any ao len cap L (by omega) T.tag wx (hold H hb)
  have hv := fun wx (hb : Below w.heap.size w wx) => value6_any ao len cap L T.tag n (by omega) wx (hold H hb)
  have hm := fun wx => may_any (kindL L len T.tag) n hn wx
  have hE : isTagB L len T n = if kindL L len T.tag = 9 then okZ (valueL L len T.tag n) else mayK (kindL L len T.tag) n := rfl
  obtain ⟨kd, hkd⟩ : ∃ kd, kindL L len T.tag = kd := ⟨_, rfl⟩
  unfold foundV at hv
  obtain ⟨z, hz⟩ : ∃ z, valueL L len T.tag n = z := ⟨_, rfl⟩
  rw [hkd] at hk hm hE
  rw [hz] at hv hE
  have HK := Lib.hid hk
  have HV := Lib.hid hv
  have HM := Lib.hid hm
  clear hk hv hm hkd hz H
  unfold subV
  by_cases h9 : kd = 9
  · rw [if_pos h9] at hE
    have HE := Lib.hid hE
    have k9 : (kd == 9) = true := by simpa using h9
    clear hE h9
    go_enter Try.func68, Try.ntmps68
    go_wp2_with (first
      | (go_at_call 22; refine (HK.out _ HS.out.2).mono ?_; rintro e w' ⟨rfl, rfl⟩)
      | (go_at_call 11; refine (HV.out _ HS.out.2).mono ?_; rintro e w2 ⟨rfl, hb2⟩; have HB2 := Lib.hid (HS.out.2.trans (hb2.mono (by simp))); clear hb2))
    go_ret
    exact ⟨ret_b (by rw [HE.out]), HB2.out⟩
  · rw [if_neg h9] at hE
    have HE := Lib.hid hE
    have k9 : (kd == 9) = false := by simpa using h9
    clear hE h9
    go_enter Try.func68, Try.ntmps68
    go_wp2_with (first
      | (go_at_call 22; refine (HK.out _ HS.out.2).mono ?_; rintro e w' ⟨rfl, rfl⟩)
      | (go_at_call 67; refine (HM.out _).mono ?_; rintro e w2 ⟨rfl, hb2⟩; have HB2 := Lib.hid (HS.out.2.trans (hb2.mono (by simp))); clear hb2))
    go_ret
    exact ⟨ret_b (by rw [HE.out]), HB2.out⟩
set_option maxHeartbeats 1000000 in
theorem checkValue_any (T : TypeV) (i : Nat) (ao : Option Addr) (len cap at' : Nat) (L : Nat → TypeV) (hlen : len ≤ 1000000) (hi : i < T.ilen) (w : World) (HT : ItemsAt w T) (H : ∀ i, i < len → TypeAt w ao i (L i)) :
    Calls Try.prog 59 #[subV T ao len cap at', .int .i64 i] w fun e w' => e = .returned (.int .i64 (ckValue L len at' T i)) ∧ Below w.heap.size w w' := by
  obtain ⟨hil, hit⟩ := HT
  obtain ⟨b, off, hia, x0, x1, x2, x3, x4, wi⟩ := hit i hi
  have hbl : b < w.heap.size := World.block_lt_of_cell? w _ x0
  have hne : ¬ b = w.heap.size := by omega
  clear hit
  have hst := BoxS.start T ao len cap at' w
  unfold subO at hst
  rw [hia] at hst
  have HS := Lib.hid hst
  have hv := fun wx (hb : Below w.heap.size w wx) => value6_any ao len cap L (at' : Nat) (T.items i).num (by omega) wx (hold H hb)
  unfold foundV at hv
  have hm := fun wx => may_any 9 (T.items i).num wi.1 wx
  have hE : ckValue L len at' T i = if mayK 9 (T.items i).num = false then 7 else if posZ (valueL L len (at' : Nat) (T.items i).num) < i then 6 else 0 := rfl
  obtain ⟨z, hz⟩ : ∃ z, valueL L len (at' : Nat) (T.items i).num = z := ⟨_, rfl⟩
  rw [hz] at hv hE
  obtain ⟨y, hy⟩ : ∃ y, posZ z = y := ⟨_, rfl⟩
  rw [hy] at hv hE
  obtain ⟨q, hq⟩ : ∃ q, mayK 9 (T.items i).num = q := ⟨_, rfl⟩
  rw [hq] at hm hE
  have HV := Lib.hid hv
  have HM := Lib.hid hm
  have HE := Lib.hid hE
  unfold subV
  rw [hia]
  clear hst hv hm hz hy hq hE H hia
  cases q with
  | false =>
    go_enter Try.func59, Try.ntmps59
    go_wp2_with (go_at_call 67; refine (HM.out _).mono ?_; rintro e w2 ⟨rfl, hb2⟩; have HB2 := Lib.hid (HS.out.keep hb2); clear hb2)
    go_ret
    exact ⟨ret_i (by rw [HE.out]; rfl), HB2.out.2⟩
  | true =>
    by_cases hlt : y < i
    all_goals
      go_enter Try.func59, Try.ntmps59
      go_wp2_with (first
        | (go_at_call 67; refine (HM.out _).mono ?_; rintro e w2 ⟨rfl, hb2⟩; have HB2 := Lib.hid (HS.out.keep hb2); obtain ⟨c0, c1, c2, c3, c4, c5, c6, c7⟩ := HB2.out.cells; clear hb2)
        | (go_at_call 11; refine (HV.out _ HB2.out.2).mono ?_; rintro e w3 ⟨rfl, hb3⟩; have HB3 := Lib.hid (HB2.out.2.trans (hb3.mono HB2.out.2.size)); clear hb3))
      go_ret
      exact ⟨ret_i (by rw [HE.out]; simp [hlt]), HB3.out⟩
set_option maxHeartbeats 1000000 in
theorem checkField_any (T : TypeV) (i : Nat) (ao : Option Addr) (len cap at' : Nat) (L : Nat → TypeV) (hlen : len ≤ 1000000) (hi : i < T.ilen) (w : World) (HT : ItemsAt w T) (H : ∀ i, i < len → TypeAt w ao i (L i)) :
    Calls Try.prog 60 #[subV T ao len cap at', .int .i64 i] w fun e w' => e = .returned (.int .i64 (ckField L len T i)) ∧ Below w.heap.size w w' := by
  obtain ⟨hil, hit⟩ := HT
  obtain ⟨b, off, hia, x0, x1, x2, x3, x4, wi⟩ := hit i hi
  have hbl : b < w.heap.size := World.block_lt_of_cell? w _ x0
  have hne : ¬ b = w.heap.size := by omega
  clear hit
  have hk := fun wx (hb : Below w.heap.size w wx) => kindOf_any ao len cap L (by omega) (T.items i).type wx (hold H hb)
  have hE : ckField L len T i = if (T.items i).key && !numK (kindL L len (T.items i).type) && kindL L len (T.items i).type != 10 then 17 else 0 := rfl
  obtain ⟨kd, hkd⟩ : ∃ kd, kindL L len (T.items i).type = kd := ⟨_, rfl⟩
  rw [hkd] at hk hE
  obtain ⟨b1, h1⟩ : ∃ b, (T.items i).key = b := ⟨_, rfl⟩
  obtain ⟨b2, h2⟩ : ∃ b, numK kd = b := ⟨_, rfl⟩
  obtain ⟨b3, h3⟩ : ∃ b, (kd != 10) = b := ⟨_, rfl⟩
  rw [h1, h2, h3] at hE
  rw [h1] at x3
  have HK := Lib.hid hk
  have HE := Lib.hid hE
  unfold subV
  rw [hia]
  clear hk hkd hE H hia h1
  go_enter Try.func60, Try.ntmps60
  go_wp2_with (first
    | (go_at_call 22; refine (HK.out _ (((Below.refl _ _).alloc (Nat.le_refl _) _).alloc (by simp) _)).mono ?_; rintro e w' ⟨rfl, rfl⟩)
    | (go_at_call 52; refine (number_same _ _).mono ?_; rintro e w' ⟨rfl, rfl⟩))
  all_goals
    go_ret
    exact ⟨ret_i (by rw [HE.out]; simp_all), (((Below.refl _ _).alloc (Nat.le_refl _) _).alloc (by simp) _)⟩
end Go.Proofs.Ytkaddjmngfpcfaa
