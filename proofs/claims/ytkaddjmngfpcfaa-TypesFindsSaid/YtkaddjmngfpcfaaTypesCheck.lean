/- Contracts of package types: checks, firstError, Check. -/
import Derived.Test.YtkaddjmngfpcfaaTypesItems2
import Derived.Great.BuildSlice
namespace Go.Proofs.Ytkaddjmngfpcfaa
open Go.RowKit
set_option linter.unusedVariables false
def fnv (f : Nat) (S : Value) : Value := .func (.func f) #[S] #[]
/-- the checks' numbers, in their order -/
def ckG : Nat → Nat
  | 0 => 32
  | 1 => 33
  | 2 => 34
  | 3 => 35
  | 4 => 36
  | 5 => 37
  | 6 => 38
  | 7 => 39
  | _ => 40
def ckAt (L : Nat → TypeV) (len at' : Nat) : Nat → Int
  | 0 => ckKind (L at')
  | 1 => ckForm (L at')
  | 2 => ckName L (L at') at'
  | 3 => ckBound (L at')
  | 4 => ckOrder (L at') at'
  | 5 => ckTag L len (L at')
  | 6 => ckCount (L at')
  | 7 => ckItems L len at' (L at')
  | _ => ckDepth L len at'
theorem lt9 {j : Nat} (h : j < 9) : j = 0 ∨ j = 1 ∨ j = 2 ∨ j = 3 ∨ j = 4 ∨ j = 5 ∨ j = 6 ∨ j = 7 ∨ j = 8 := by omega
set_option maxHeartbeats 1000000 in
theorem checks_any (T : TypeV) (ao : Option Addr) (len cap at' : Nat) (w : World) : Calls Try.prog 19 #[subV T ao len cap at'] w fun e w' =>
    ∃ g, e = .returned (.slice (some ⟨g, 0, none⟩) 9 9) ∧ (∀ j, j < 9 → w'.cell? ⟨g, j, none⟩ = some (fnv (ckG j) (subV T ao len cap at'))) ∧ Below w.heap.size w w' := by
  have hmf' := hmf
  unfold subV
  go_enter Try.func19, Try.ntmps19
  go_wp2
  go_ret
  refine ⟨_, rfl, ?_, (((Below.refl _ _).alloc (Nat.le_refl _) _).alloc (by simp) _)⟩
  intro j hj
  rcases lt9 hj with rfl | rfl | rfl | rfl | rfl | rfl | rfl | rfl | rfl
  all_goals first | exact cell_at (alloc_at _ _) rfl | simp [fnv, ckG]
set_option maxHeartbeats 1000000 in
theorem firstError_any (g n : Nat) (G : Nat → Nat) (S : Value) (e : Nat → Int) (hn : n ≤ 100) (w : World) (hc : ∀ j, j < n → w.cell? ⟨g, j, none⟩ = some (fnv (G j) S)) (eg : ∀ j, j < n → Enters (G j))
    (hp : ∀ j, j < n → (∀ i, i < j → e i = 0) → ∀ W, Below w.heap.size w W → Calls Try.prog (G j) #[S] W fun r W' => r = .returned (.int .i64 (e j)) ∧ Below W.heap.size W W') :
    Calls Try.prog 18 #[.slice (some ⟨g, 0, none⟩) n n] w fun r w' => r = .returned (.int .i64 (firstE e n)) ∧ Below w.heap.size w w' := by
  have HC := Lib.hid hc
  have HG := Lib.hid eg
  have HP := Lib.hid hp
  clear hc eg hp
  go_enter Try.func18, Try.ntmps18
  go_wp2
  go_loopw [8] (fun i wr => ∃ j : Nat, j ≤ n ∧ i = .int .i64 j ∧ Hid (∀ m, m < j → (e m != 0) = false) ∧ Hid (Below w.heap.size w wr)) (fun i _ => n - (intOf i).toNat)
  case atStart => exact ⟨0, Nat.zero_le _, rfl, Lib.hid (fun m hm => absurd hm (Nat.not_lt_zero _)), Lib.hid (Below.refl _ _)⟩
  case round =>
    obtain ⟨j, hj, rfl, HF, HB⟩ := hrel
    by_cases hlt : j < n
    · have c := keep6 HB.out (HC.out j hlt)
      unfold fnv at c
      have hent := HG.out j hlt
      have hcall := HP.out j hlt (fun i hi => by have := HF.out i hi; simpa using this) wr HB.out
      obtain ⟨f, hf⟩ : ∃ f, G j = f := ⟨_, rfl⟩
      rw [hf] at c hent hcall
      unfold Enters at hent
      obtain ⟨q, hq⟩ : ∃ q, e j = q := ⟨_, rfl⟩
      rw [hq] at hcall
      have HD := Lib.hid hcall
      clear hcall hf
      cases hz : (q != 0) with
      | true =>
        have HT := Lib.hid (firstE_at (e := e) HF.out hlt (by rw [hq]; exact hz))
        have HQ := Lib.hid hq
        clear hq
        go_wp2_with (go_at_fn f; refine (HD.out).mono ?_; rintro r w2 ⟨rfl, hb2⟩; have HB2 := Lib.hid (HB.out.trans (hb2.mono HB.out.size)); clear hb2)
        go_ret
        exact ⟨ret_i (by rw [HT.out, HQ.out]), HB2.out⟩
      | false =>
        have HF2 := Lib.hid (none_next (p := fun m => e m != 0) HF.out (by rw [hq]; exact hz))
        clear hq
        go_wp2_with (go_at_fn f; refine (HD.out).mono ?_; rintro r w2 ⟨rfl, hb2⟩; have HB2 := Lib.hid (HB.out.trans (hb2.mono HB.out.size)); clear hb2)
        go_roundw
        case rel => exact ⟨j + 1, by omega, by go_num, HF2, HB2⟩
        case measure => simp [intOf]; omega
    · obtain rfl : j = n := by omega
      have HT := Lib.hid (firstE_none (e := e) HF.out)
      go_wp2
      go_ret
      exact ⟨ret_i (by rw [HT.out]), HB.out⟩
end Go.Proofs.Ytkaddjmngfpcfaa
