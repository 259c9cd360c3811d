/- Contracts of package types: checks, firstError, Check. -/
import Derived.Test.YtohphejhlgnciaaGreatTypesItems2
import Derived.Great.BuildSlice
import Derived.Deep.WholeRow
namespace Go.Proofs.YtohphejhlgnciaaGreat
open Go.RowKit
set_option linter.unusedVariables false
def fnv (f : Nat) (S : Value) : Value := .func (.func f) #[S] #[]
/-- the checks' numbers, in their order -/
def ckG : Nat → Nat
  | 0 => 60
  | 1 => 61
  | 2 => 62
  | 3 => 63
  | 4 => 64
  | 5 => 65
  | 6 => 66
  | 7 => 67
  | _ => 68
def ckAt (L : Nat → TypeV) (len at' : Nat) : Nat → Int
  | 0 => ckKind (L at')
  | 1 => ckForm (L at')
  | 2 => ckName L (L at') at'
  | 3 => ckBound (L at')
  | 4 => ckOrder (L at') at'
  | 5 => ckTag L len (L at')
  | 6 => ckCount (L at')
  | 7 => ckItems L len at' (L at')
  | _ => ckDepth L len at'
theorem lt9 {j : Nat} (h : j < 9) : j = 0 ∨ j = 1 ∨ j = 2 ∨ j = 3 ∨ j = 4 ∨ j = 5 ∨ j = 6 ∨ j = 7 ∨ j = 8 := by omega
set_option maxHeartbeats 1000000 in
theorem checks_any (T : TypeV) (ao : Option Addr) (len cap at' : Nat) (w : World) : Calls Tryz.prog 40 #[subV T ao len cap at'] w fun e w' =>
    ∃ g, e = .returned (.slice (some ⟨g, 0, none⟩) 9 9) ∧ (∀ j, j < 9 → w'.cell? ⟨g, j, none⟩ = some (fnv (ckG j) (subV T ao len cap at'))) ∧ Below w.heap.size w w' := by
  have hmf' := hmf
  unfold subV
  go_enter Tryz.func40, Tryz.ntmps40
  go_wp2
  go_ret
  refine ⟨_, rfl, ?_, (((Below.refl _ _).alloc (Nat.le_refl _) _).alloc (by simp) _)⟩
  intro j hj
  rcases lt9 hj with rfl | rfl | rfl | rfl | rfl | rfl | rfl | rfl | rfl
  all_goals first | exact cell_at (alloc_at _ _) rfl | simp [fnv, ckG]
set_option maxHeartbeats 1000000 in
theorem firstError_any (g n : Nat) (G : Nat → Nat) (S : Value) (e : Nat → Int) (hn : n ≤ 100) (w : World) (hc : ∀ j, j < n → w.cell? ⟨g, j, none⟩ = some (fnv (G j) S)) (eg : ∀ j, j < n → Enters (G j))
    (hp : ∀ j, j < n → (∀ i, i < j → e i = 0) → ∀ W, Below w.heap.size w W → Calls Tryz.prog (G j) #[S] W fun r W' => r = .returned (.int .i64 (e j)) ∧ Below W.heap.size W W') :
    Calls Tryz.prog 39 #[.slice (some ⟨g, 0, none⟩) n n] w fun r w' => r = .returned (.int .i64 (firstE e n)) ∧ Below w.heap.size w w' := by
  have HC := Lib.hid hc
  have HG := Lib.hid eg
  have HP := Lib.hid hp
  clear hc eg hp
  go_enter Tryz.func39, Tryz.ntmps39
  go_wp2
  go_loopw [8] (fun i wr => ∃ j : Nat, j ≤ n ∧ i = .int .i64 j ∧ Hid (∀ m, m < j → (e m != 0) = false) ∧ Hid (Below w.heap.size w wr)) (fun i _ => n - (intOf i).toNat)
  case atStart => exact ⟨0, Nat.zero_le _, rfl, Lib.hid (fun m hm => absurd hm (Nat.not_lt_zero _)), Lib.hid (Below.refl _ _)⟩
  case round =>
    obtain ⟨j, hj, rfl, HF, HB⟩ := hrel
    by_cases hlt : j < n
    · have c := keep6 HB.out (HC.out j hlt)
      unfold fnv at c
      have hent := HG.out j hlt
      have hcall := HP.out j hlt (fun i hi => by have := HF.out i hi; simpa using this) wr HB.out
      obtain ⟨f, hf⟩ : ∃ f, G j = f := ⟨_, rfl⟩
      rw [hf] at c hent hcall
      unfold Enters at hent
      obtain ⟨q, hq⟩ : ∃ q, e j = q := ⟨_, rfl⟩
      rw [hq] at hcall
      have HD := Lib.hid hcall
      clear hcall hf
      cases hz : (q != 0) with
      | true =>
        have HT := Lib.hid (firstE_at (e := e) HF.out hlt (by rw [hq]; exact hz))
        have HQ := Lib.hid hq
        clear hq
        go_wp2_with (go_at_fn f; refine (HD.out).mono ?_; rintro r w2 ⟨rfl, hb2⟩; have HB2 := Lib.hid (HB.out.trans (hb2.mono HB.out.size)); clear hb2)
        go_ret
        exact ⟨ret_i (by rw [HT.out, HQ.out]), HB2.out⟩
      | false =>
        have HF2 := Lib.hid (none_next (p := fun m => e m != 0) HF.out (by rw [hq]; exact hz))
        clear hq
        go_wp2_with (go_at_fn f; refine (HD.out).mono ?_; rintro r w2 ⟨rfl, hb2⟩; have HB2 := Lib.hid (HB.out.trans (hb2.mono HB.out.size)); clear hb2)
        go_roundw
        case rel => exact ⟨j + 1, by omega, by go_num, HF2, HB2⟩
        case measure => simp [intOf]; omega
    · obtain rfl : j = n := by omega
      have HT := Lib.hid (firstE_none (e := e) HF.out)
      go_wp2
      go_ret
      exact ⟨ret_i (by rw [HT.out]), HB.out⟩
end Go.Proofs.YtohphejhlgnciaaGreat
namespace Go.Proofs.YtohphejhlgnciaaGreat
open Go.RowKit
set_option linter.unusedVariables false
theorem ck_enters (j : Nat) (hj : j < 9) : Enters (ckG j) := by
  rcases lt9 hj with rfl | rfl | rfl | rfl | rfl | rfl | rfl | rfl | rfl
  · exact enters_of Tryz.func60 (by kernel_rfl) rfl
  · exact enters_of Tryz.func61 (by kernel_rfl) rfl
  · exact enters_of Tryz.func62 (by kernel_rfl) rfl
  · exact enters_of Tryz.func63 (by kernel_rfl) rfl
  · exact enters_of Tryz.func64 (by kernel_rfl) rfl
  · exact enters_of Tryz.func65 (by kernel_rfl) rfl
  · exact enters_of Tryz.func66 (by kernel_rfl) rfl
  · exact enters_of Tryz.func67 (by kernel_rfl) rfl
  · exact enters_of Tryz.func68 (by kernel_rfl) rfl
theorem ck_call (ao : Option Addr) (len cap at' : Nat) (L : Nat → TypeV) (hlen : len ≤ 1000000) (hcap : len ≤ cap) (hat : at' < len) (w : World) (H : ∀ i, i < len → TypeAt w ao i (L i)) (j : Nat) (hj : j < 9) :
    Calls Tryz.prog (ckG j) #[subV (L at') ao len cap at'] w fun e w' => e = .returned (.int .i64 (ckAt L len at' j)) ∧ Below w.heap.size w w' := by
  have hT := H at' hat
  obtain ⟨b, off, hao, c0, c1, c2, c3, c4, c5, wf, hi⟩ := hT
  rcases lt9 hj with rfl | rfl | rfl | rfl | rfl | rfl | rfl | rfl | rfl
  · exact checkKind_any (L at') ao len cap at' w
  · exact checkForm_any (L at') ao len cap at' w hi
  · exact checkName_any (L at') ao len cap at' L hlen hcap hat wf.2.2.2.2 w H
  · exact checkBound_any (L at') ao len cap at' w
  · exact checkOrder_any (L at') ao len cap at' hlen hcap hat ⟨_, hao⟩ w hi
  · exact checkTag_any (L at') ao len cap at' L hlen w H
  · exact checkCount_any (L at') ao len cap at' hi.1 w
  · exact checkItems_any (L at') ao len cap at' L hlen w hi H
  · exact checkDepth_any (L at') ao len cap at' L hlen hat w H
/-- what is wrong with a type, by the program's order of checks -/
def oneC (L : Nat → TypeV) (len at' : Nat) : Int := firstE (ckAt L len at') 9
/-- the first type with which something is wrong -/
def fErr (one : Nat → Int) (len : Nat) : Int := if 32 < len then 3 else firstE one len
def fAt (one : Nat → Int) (len : Nat) : Int := if 32 < len then 32 else if firstN (fun i => one i != 0) len < len then (firstN (fun i => one i != 0) len : Nat) else 0
def faultV (one : Nat → Int) (len : Nat) : Value := .agg #[.int .i64 (fErr one len), .int .i64 (fAt one len)]
theorem fault_long {one : Nat → Int} {len : Nat} (h : 32 < len) : faultV one len = .agg #[.int .i64 3, .int .i64 32] := by unfold faultV fErr fAt; rw [if_pos h, if_pos h]
theorem fault_at {one : Nat → Int} {len k : Nat} (h : len ≤ 32) (hf : ∀ i, i < k → (one i != 0) = false) (hk : k < len) (hp : (one k != 0) = true) : faultV one len = .agg #[.int .i64 (one k), .int .i64 (k : Nat)] := by
  unfold faultV fErr fAt; rw [if_neg (by omega), if_neg (by omega), firstE_at hf hk hp, first_at hf hk hp, if_pos hk]
theorem fault_none {one : Nat → Int} {len : Nat} (h : len ≤ 32) (hf : ∀ i, i < len → (one i != 0) = false) : faultV one len = .agg #[.int .i64 0, .int .i64 0] := by
  unfold faultV fErr fAt; rw [if_neg (by omega), if_neg (by omega), firstE_none hf, first_none hf, if_neg (Nat.lt_irrefl _)]
set_option maxHeartbeats 2000000 in
theorem check6_any (ao : Option Addr) (len cap : Nat) (L : Nat → TypeV) (hlen : len ≤ 1000000) (hcap : len ≤ cap) (w : World) (H : ∀ i, i < len → TypeAt w ao i (L i)) :
    Calls Tryz.prog 23 #[.slice ao len cap] w fun e w' => e = .returned (faultV (oneC L len) len) ∧ Below w.heap.size w w' := by
  have HH := Lib.hid H
  clear H
  by_cases h32 : 32 < len
  · rw [fault_long h32]
    go_enter Tryz.func23, Tryz.ntmps23
    go_wp2
    go_returns
    exact ⟨rfl, by go_grown⟩
  · have h32' : len ≤ 32 := by omega
    have HQ := Lib.hid (alloc_at w (.cells #[.int .i64 0, .int .i64 0] 46))
    have HB := Lib.hid ((Below.refl w.heap.size w).alloc (Nat.le_refl _) (.cells #[.int .i64 0, .int .i64 0] 46))
    obtain ⟨R, hR⟩ : ∃ R, faultV (oneC L len) len = R := ⟨_, rfl⟩
    rw [hR]
    have HR := Lib.hid hR
    clear hR
    go_enter Tryz.func23, Tryz.ntmps23
    go_wp2
    go_loopw [12] (fun i wr => ∃ k : Nat, k ≤ len ∧ i = .int .i64 k ∧ Hid (∀ m, m < k → (oneC L len m != 0) = false) ∧ Hid (wr.heap[w.heap.size]? = some (.cells #[.int .i64 0, .int .i64 0] 46 (0, 0))) ∧ Hid (Below w.heap.size w wr)) (fun i _ => len - (intOf i).toNat)
    case atStart => exact ⟨0, Nat.zero_le _, rfl, Lib.hid (fun m hm => absurd hm (Nat.not_lt_zero _)), HQ, HB⟩
    case round =>
      obtain ⟨k, hk, rfl, HF, HQr, HBr⟩ := hrel
      by_cases hlt : k < len
      · have HT := Lib.hid (hold HH.out HBr.out)
        obtain ⟨b, off, hao, c0, c1, c2, c3, c4, c5, wf, _⟩ := HT.out k hlt
        subst hao
        have hbl : b < wr.heap.size := World.block_lt_of_cell? wr _ c0
        have hne : ¬ b = wr.heap.size := by omega
        have hck := fun wx => checks_any (L k) (some ⟨b, off, none⟩) len cap k wx
        have hfe := fun (g : Nat) (w2 : World) (hb : Below wr.heap.size wr w2) (hc : ∀ j, j < 9 → w2.cell? ⟨g, j, none⟩ = some (fnv (ckG j) (subV (L k) (some ⟨b, off, none⟩) len cap k))) =>
          firstError_any g 9 ckG (subV (L k) (some ⟨b, off, none⟩) len cap k) (ckAt L len k) (by decide) w2 hc ck_enters (fun j hj _ W hW => ck_call (some ⟨b, off, none⟩) len cap k L hlen hcap hlt W (hold HT.out (hb.trans (hW.mono hb.size))) j hj)
        obtain ⟨q, hq⟩ : ∃ q, oneC L len k = q := ⟨_, rfl⟩
        have hq' : firstE (ckAt L len k) 9 = q := hq
        rw [hq'] at hfe
        have HFE := Lib.hid hfe
        unfold subV at hck
        have hck2 : ∀ wx, Calls Tryz.prog 40 #[.agg #[.int .i64 (L k).kind, .string (L k).name, .int .i64 (L k).bound, .int .i64 (L k).of, .int .i64 (L k).tag, .slice (L k).ia (L k).ilen (L k).icap, .slice (some ⟨b, off, none⟩) len cap, .int .i64 k]] wx fun e w' =>
            ∃ g, e = .returned (.slice (some ⟨g, 0, none⟩) 9 9) ∧ Hid (∀ j, j < 9 → w'.cell? ⟨g, j, none⟩ = some (fnv (ckG j) (subV (L k) (some ⟨b, off, none⟩) len cap k))) ∧ Below wx.heap.size wx w' := fun wx => (hck wx).mono fun _ _ ⟨g, h1, h2, h3⟩ => ⟨g, h1, Lib.hid h2, h3⟩
        have HCK := Lib.hid hck2
        clear hfe hck hck2 hq'
        cases hz : (q != 0) with
        | true =>
          have HA := Lib.hid (fault_at (one := oneC L len) h32' HF.out hlt (by rw [hq]; exact hz))
          have HQ1 := Lib.hid hq
          clear hq
          go_wp2_with (first
            | (go_at_call 40; refine (HCK.out _).mono ?_; rintro r w2 ⟨g, rfl, HC2, hb2⟩; have HB2 := Lib.hid (((Below.refl wr.heap.size wr).alloc (Nat.le_refl _) _).trans (hb2.mono (by simp))); clear hb2)
            | (go_at_call 39; refine (HFE.out _ _ HB2.out HC2.out).mono ?_; rintro r w3 ⟨rfl, hb3⟩; have HB3 := Lib.hid (HB2.out.trans (hb3.mono HB2.out.size)); have HQ3 := Lib.hid (rblk_keep HQr.out HB3.out); have HW3 := Lib.hid (HBr.out.trans (HB3.out.mono HBr.out.size)); clear hb3)
            | (refine wpList_store_rowTo rfl 46 _ _ rfl rfl w.heap.size #[.int .i64 q, .int .i64 k] rfl rfl _ _ HQ3.out (by kernel_rfl) (by kernel_rfl) (by kernel_rfl) ?_))
          refine bodyPost_ret (v := .agg #[.int .i64 q, .int .i64 k]) ?_ rfl ⟨by rw [← HR.out, HA.out, HQ1.out], below_setRow HW3.out (Nat.le_refl _) _⟩
          have hl := run_loadVar_row (P := Tryz.prog) _ w.heap.size _ 46 _ _ _ (setRow_heap _ _ _ #[.int .i64 q, .int .i64 k] _ _ HQ3.out) Tryz.underlying46 rfl (by kernel_rfl)
          simp [results, Tryz.results23, asAddr]
          exact hl
        | false =>
          have HF2 := Lib.hid (none_next (p := fun m => oneC L len m != 0) HF.out (by rw [hq]; exact hz))
          clear hq
          go_wp2_with (first
            | (go_at_call 40; refine (HCK.out _).mono ?_; rintro r w2 ⟨g, rfl, HC2, hb2⟩; have HB2 := Lib.hid (((Below.refl wr.heap.size wr).alloc (Nat.le_refl _) _).trans (hb2.mono (by simp))); clear hb2)
            | (go_at_call 39; refine (HFE.out _ _ HB2.out HC2.out).mono ?_; rintro r w3 ⟨rfl, hb3⟩; have HB3 := Lib.hid (HB2.out.trans (hb3.mono HB2.out.size)); have HQ3 := Lib.hid (rblk_keep HQr.out HB3.out); have HW3 := Lib.hid (HBr.out.trans (HB3.out.mono HBr.out.size)); clear hb3))
          go_roundw
          case rel => exact ⟨k + 1, by omega, by go_num, HF2, HQ3, HW3⟩
          case measure => simp [intOf]; omega
      · obtain rfl : k = len := by omega
        have HA := Lib.hid (fault_none (one := oneC L k) h32' HF.out)
        go_wp2_with (refine wpList_store_rowTo rfl 46 _ _ rfl rfl w.heap.size #[.int .i64 0, .int .i64 0] rfl rfl _ _ HQr.out (by kernel_rfl) (by kernel_rfl) (by kernel_rfl) ?_)
        refine bodyPost_ret (v := .agg #[.int .i64 0, .int .i64 0]) ?_ rfl ⟨by rw [← HR.out, HA.out], below_setRow HBr.out (Nat.le_refl _) _⟩
        have hl := run_loadVar_row (P := Tryz.prog) _ w.heap.size _ 46 _ _ _ (setRow_heap _ _ _ #[.int .i64 0, .int .i64 0] _ _ HQr.out) Tryz.underlying46 rfl (by kernel_rfl)
        simp [results, Tryz.results23, asAddr]
        exact hl
end Go.Proofs.YtohphejhlgnciaaGreat
