/- Contracts of package types: the checks of a type, the small ones. -/
import Derived.Test.YtohphejhlgnciaaGreatTypesCDeep
import Derived.Test.YtohphejhlgnciaaGreatPrimSmall
namespace Go.Proofs.YtohphejhlgnciaaGreat
open Go.RowKit
set_option linter.unusedVariables false
/-- a type that is checked, by value -/
def subV (T : TypeV) (ao : Option Addr) (len cap : Nat) (at' : Nat) : Value := .agg #[.int .i64 T.kind, .string T.name, .int .i64 T.bound, .int .i64 T.of, .int .i64 T.tag, .slice T.ia T.ilen T.icap, .slice ao len cap, .int .i64 at']
def subO (T : TypeV) (ao : Option Addr) (len cap : Nat) (at' : Nat) : Obj := .cells #[.int .i64 T.kind, .string T.name, .int .i64 T.bound, .int .i64 T.of, .int .i64 T.tag, .slice T.ia T.ilen T.icap, .slice ao len cap, .int .i64 at'] 69
def ckKind (T : TypeV) : Int := if T.kind < 1 ∨ 14 < T.kind then 4 else 0
def boundBad (T : TypeV) : Bool := boundK T.kind && (decide (T.bound < if T.kind = 10 then 0 else 1) || decide (64 < T.bound))
def ckBound (T : TypeV) : Int := if boundBad T then 7 else 0
def ckTag (L : Nat → TypeV) (len : Nat) (T : TypeV) : Int := if T.kind == 14 && !numK (kindL L len T.tag) then 8 else 0
def ckCount (T : TypeV) : Int := if namedK T.kind = false then 0 else if T.ilen = 0 then 18 else if 16 < T.ilen then 3 else 0
def ckDepth (L : Nat → TypeV) (len at' : Nat) : Int := if 6 < deepL L len (at' : Nat) then 9 else 0
theorem checkKind_any (T : TypeV) (ao : Option Addr) (len cap at' : Nat) (w : World) : Calls Tryz.prog 60 #[subV T ao len cap at'] w fun e w' => e = .returned (.int .i64 (ckKind T)) ∧ Below w.heap.size w w' := by
  unfold subV
  by_cases h1 : T.kind < 1
  · have e : ckKind T = 4 := by unfold ckKind; rw [if_pos (.inl h1)]
    rw [e]
    clear e
    go_enter Tryz.func60, Tryz.ntmps60
    go_wp2
    go_ret
    exact ⟨rfl, (Below.refl _ _).alloc (Nat.le_refl _) _⟩
  · by_cases h2 : 14 < T.kind
    · have e : ckKind T = 4 := by unfold ckKind; rw [if_pos (.inr h2)]
      rw [e]
      clear e
      go_enter Tryz.func60, Tryz.ntmps60
      go_wp2
      go_ret
      exact ⟨rfl, (Below.refl _ _).alloc (Nat.le_refl _) _⟩
    · have e : ckKind T = 0 := by unfold ckKind; rw [if_neg (by omega)]
      rw [e]
      clear e
      go_enter Tryz.func60, Tryz.ntmps60
      go_wp2
      go_ret
      exact ⟨rfl, (Below.refl _ _).alloc (Nat.le_refl _) _⟩
set_option maxHeartbeats 1000000 in
theorem checkBound_any (T : TypeV) (ao : Option Addr) (len cap at' : Nat) (w : World) : Calls Tryz.prog 63 #[subV T ao len cap at'] w fun e w' => e = .returned (.int .i64 (ckBound T)) ∧ Below w.heap.size w w' := by
  unfold subV
  have hE : ckBound T = if boundK T.kind && (decide (T.bound < if T.kind = 10 then 0 else 1) || decide (64 < T.bound)) then 7 else 0 := rfl
  obtain ⟨b0, hb0⟩ : ∃ b, boundK T.kind = b := ⟨_, rfl⟩
  rw [hb0] at hE
  by_cases h10 : T.kind = 10
  · have k10 : (T.kind == 10) = true := by simpa using h10
    rw [if_pos h10] at hE
    have HE := Lib.hid hE
    clear hE h10
    cases b0
    all_goals
      go_enter Tryz.func63, Tryz.ntmps63
      go_wp2_with (go_at_call 83; refine (hasBound_any _ _).mono ?_; rintro e w' ⟨rfl, rfl⟩)
      all_goals
        go_ret
        exact ⟨ret_i (by rw [HE.out]; simp_all), (Below.refl _ _).alloc (Nat.le_refl _) _⟩
  · have k10 : (T.kind == 10) = false := by simpa using h10
    rw [if_neg h10] at hE
    have HE := Lib.hid hE
    clear hE h10
    cases b0
    all_goals
      go_enter Tryz.func63, Tryz.ntmps63
      go_wp2_with (go_at_call 83; refine (hasBound_any _ _).mono ?_; rintro e w' ⟨rfl, rfl⟩)
      all_goals
        go_ret
        exact ⟨ret_i (by rw [HE.out]; simp_all), (Below.refl _ _).alloc (Nat.le_refl _) _⟩
theorem checkCount_any (T : TypeV) (ao : Option Addr) (len cap at' : Nat) (hil : T.ilen ≤ 3518437208780) (w : World) : Calls Tryz.prog 66 #[subV T ao len cap at'] w fun e w' => e = .returned (.int .i64 (ckCount T)) ∧ Below w.heap.size w w' := by
  unfold subV
  have hE : ckCount T = if namedK T.kind = false then 0 else if T.ilen = 0 then 18 else if 16 < T.ilen then 3 else 0 := rfl
  obtain ⟨b0, hb0⟩ : ∃ b, namedK T.kind = b := ⟨_, rfl⟩
  rw [hb0] at hE
  have HE := Lib.hid hE
  clear hE
  cases b0
  all_goals
    go_enter Tryz.func66, Tryz.ntmps66
    go_wp2_with (go_at_call 82; refine (hasItems_any _ _).mono ?_; rintro e w' ⟨rfl, rfl⟩)
    all_goals
      go_ret
      exact ⟨ret_i (by rw [HE.out]; simp_all <;> omega), (Below.refl _ _).alloc (Nat.le_refl _) _⟩
set_option maxHeartbeats 1000000 in
theorem checkTag_any (T : TypeV) (ao : Option Addr) (len cap at' : Nat) (L : Nat → TypeV) (hlen : len ≤ 1000000) (w : World) (H : ∀ i, i < len → TypeAt w ao i (L i)) : Calls Tryz.prog 65 #[subV T ao len cap at'] w fun e w' => e = .returned (.int .i64 (ckTag L len T)) ∧ Below w.heap.size w w' := by
  unfold subV
  have hE : ckTag L len T = if T.kind == 14 && !numK (kindL L len T.tag) then 8 else 0 := rfl
  have HK := Lib.hid (fun wx (hb : Below w.heap.size w wx) => kindOf_any ao len cap L (by omega) T.tag wx (hold H hb))
  obtain ⟨b0, hb0⟩ : ∃ b, (T.kind == 14) = b := ⟨_, rfl⟩
  obtain ⟨b1, hb1⟩ : ∃ b, numK (kindL L len T.tag) = b := ⟨_, rfl⟩
  rw [hb0, hb1] at hE
  have HE := Lib.hid hE
  clear hE H
  cases b0 <;> cases b1
  all_goals
    go_enter Tryz.func65, Tryz.ntmps65
    go_wp2_with (first
      | (go_at_call 85; refine (hasTag_any _ _).mono ?_; rintro e w' ⟨rfl, rfl⟩)
      | (go_at_call 72; refine (HK.out _ ((Below.refl _ _).alloc (Nat.le_refl _) _)).mono ?_; rintro e w' ⟨rfl, rfl⟩)
      | (go_at_call 41; refine (number_same _ _).mono ?_; rintro e w' ⟨rfl, rfl⟩))
    go_ret
    exact ⟨ret_i (by rw [HE.out]; rfl), (Below.refl _ _).alloc (Nat.le_refl _) _⟩
set_option maxHeartbeats 1000000 in
theorem checkDepth_any (T : TypeV) (ao : Option Addr) (len cap at' : Nat) (L : Nat → TypeV) (hlen : len ≤ 1000000) (hat : at' < len) (w : World) (H : ∀ i, i < len → TypeAt w ao i (L i)) : Calls Tryz.prog 68 #[subV T ao len cap at'] w fun e w' => e = .returned (.int .i64 (ckDepth L len at')) ∧ Below w.heap.size w w' := by
  unfold subV
  have hE : ckDepth L len at' = if 6 < deepL L len (at' : Nat) then 9 else 0 := rfl
  have HD := Lib.hid (fun wx (hb : Below w.heap.size w wx) => deep6_any ao len cap L hlen (at' : Nat) wx (hold H hb))
  obtain ⟨d, hd⟩ : ∃ d, deepL L len (at' : Nat) = d := ⟨_, rfl⟩
  rw [hd] at hE HD
  have HE := Lib.hid hE
  clear hE H hd
  go_enter Tryz.func68, Tryz.ntmps68
  go_wp2_with (go_at_call 91; refine (HD.out _ ((Below.refl _ _).alloc (Nat.le_refl _) _)).mono ?_; rintro e w2 ⟨rfl, hb2⟩; have HB2 := Lib.hid (((Below.refl _ _).alloc (Nat.le_refl _) _).trans (hb2.mono (by simp))); clear hb2)
  all_goals
    go_ret
    exact ⟨ret_i (by rw [HE.out]; simp_all), HB2.out⟩
end Go.Proofs.YtohphejhlgnciaaGreat
