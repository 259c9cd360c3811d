/- Contracts of package types: checkName, checkOrder. -/
import Derived.Test.YtohphejhlgnciaaGreatTypesForm
import Derived.Test.YtohphejhlgnciaaGreatNameCode
namespace Go.Proofs.YtohphejhlgnciaaGreat
open Go.RowKit
set_option linter.unusedVariables false
def nameTw (L : Nat → TypeV) (T : TypeV) (at' : Nat) : Bool := hasB (fun i => (L i).name.toList == T.name.toList) at'
def ckName (L : Nat → TypeV) (T : TypeV) (at' : Nat) : Int := if namedK T.kind = false then 0 else if nameS T.name = false then 5 else if nameTw L T at' then 6 else 0
def orderBad (T : TypeV) (at' : Nat) : Bool := hasB (fun j => !inL at' ((partsL T).getD j 0)) (partsL T).length
def ckOrder (T : TypeV) (at' : Nat) : Int := if orderBad T at' then 14 else 0
set_option maxHeartbeats 2000000 in
theorem checkName_any (T : TypeV) (ao : Option Addr) (len cap at' : Nat) (L : Nat → TypeV) (hlen : len ≤ 1000000) (hcap : len ≤ cap) (hat : at' < len) (hns : T.name.size ≤ 140737488351232) (w : World) (H : ∀ i, i < len → TypeAt w ao i (L i)) : Calls Tryz.prog 62 #[subV T ao len cap at'] w fun e w' => e = .returned (.int .i64 (ckName L T at')) ∧ Below w.heap.size w w' := by
  have HH := Lib.hid H
  clear H
  cases hn : namedK T.kind with
  | false =>
    have e : ckName L T at' = 0 := by unfold ckName; rw [hn]; rfl
    rw [e]
    clear e
    unfold subV
    go_enter Tryz.func62, Tryz.ntmps62
    go_wp2_with (go_at_call 82; refine (hasItems_any _ _).mono ?_; rintro e w' ⟨rfl, rfl⟩)
    go_ret
    exact ⟨rfl, (Below.refl _ _).alloc (Nat.le_refl _) _⟩
  | true =>
    cases hs : nameS T.name with
    | false =>
      have e : ckName L T at' = 5 := by unfold ckName; rw [hn, hs]; rfl
      rw [e]
      clear e
      have HN := Lib.hid (fun w => hs ▸ name_any T.name (Nat.le_trans hns (by decide)) w)
      clear hs
      unfold subV
      go_enter Tryz.func62, Tryz.ntmps62
      go_wp2_with (first
        | (go_at_call 82; refine (hasItems_any _ _).mono ?_; rintro e w' ⟨rfl, rfl⟩)
        | (go_at_call 87; refine (HN.out _).mono ?_; rintro e w2 ⟨rfl, hb2⟩; have HB2 := Lib.hid (((Below.refl _ _).alloc (Nat.le_refl _) _).trans (hb2.mono (by simp))); clear hb2))
      go_ret
      exact ⟨rfl, HB2.out⟩
    | true =>
      have HE := Lib.hid (show ckName L T at' = if nameTw L T at' then 6 else 0 by unfold ckName; rw [hn, hs]; rfl)
      have HN := Lib.hid (fun w => hs ▸ name_any T.name (Nat.le_trans hns (by decide)) w)
      clear hs
      have HS := Lib.hid (BoxS.start T ao len cap at' w)
      obtain ⟨a, rfl⟩ : ∃ a, ao = some a := by obtain ⟨b, off, e, _⟩ := HH.out at' hat; exact ⟨_, e⟩
      unfold subV
      go_enter Tryz.func62, Tryz.ntmps62
      go_wp2_with (first
        | (go_at_call 82; refine (hasItems_any _ _).mono ?_; rintro e w' ⟨rfl, rfl⟩)
        | (go_at_call 87; refine (HN.out _).mono ?_; rintro e w2 ⟨rfl, hb2⟩; have HB2 := Lib.hid (HS.out.keep hb2); obtain ⟨c0, c1, c2, c3, c4, c5, c6, c7⟩ := HB2.out.cells; clear hb2))
      clear c0 c1 c2 c3 c4 c5 c6 c7
      go_loopw [21] (fun i wr => ∃ j : Nat, j ≤ at' ∧ i = .int .i64 j ∧ Hid (∀ m, m < j → ((L m).name.toList == T.name.toList) = false) ∧ Hid (BoxS w.heap.size T (some a) len cap at' w wr)) (fun i _ => at' - (intOf i).toNat)
      case atStart => exact ⟨0, Nat.zero_le _, rfl, Lib.hid (fun m hm => absurd hm (Nat.not_lt_zero _)), HB2⟩
      case round =>
        obtain ⟨j, hj, rfl, HF, HB⟩ := hrel
        by_cases hlt : j < at'
        · obtain ⟨b, off, ha, x0, x1, x2, x3, x4, x5, wf, _⟩ := (HH.out j (by omega)).held (w1 := wr) HB.out.2
          cases ha
          obtain ⟨c0, c1, c2, c3, c4, c5, c6, c7⟩ := HB.out.cells
          have hgl := lt_of_block HB.out.1
          have hne : ¬ w.heap.size = wr.heap.size := by omega
          have HB3 := Lib.hid (fun o => HB.out.keep ((Below.refl wr.heap.size wr).alloc (Nat.le_refl _) o))
          cases hq : ((L j).name.toList == T.name.toList) with
          | true =>
            have HT := Lib.hid (show nameTw L T at' = true from hasB_some (p := fun i => (L i).name.toList == T.name.toList) hlt hq)
            go_wp2
            go_ret
            exact ⟨ret_i (by rw [HE.out, HT.out]; rfl), (HB3.out _).2⟩
          | false =>
            have HF2 := Lib.hid (none_next (p := fun i => (L i).name.toList == T.name.toList) HF.out hq)
            go_wp2
            go_roundw
            case rel => exact ⟨j + 1, by omega, by go_num, HF2, Lib.hid (HB3.out _)⟩
            case measure => simp [intOf]; omega
        · obtain rfl : j = at' := by omega
          have HT := Lib.hid (show nameTw L T j = false from hasB_none (p := fun i => (L i).name.toList == T.name.toList) HF.out)
          go_wp2
          go_ret
          exact ⟨ret_i (by rw [HE.out, HT.out]; rfl), HB.out.2⟩
set_option maxHeartbeats 2000000 in
theorem checkOrder_any (T : TypeV) (ao : Option Addr) (len cap at' : Nat) (hlen : len ≤ 1000000) (hcap : len ≤ cap) (hat : at' < len) (hao : ∃ a, ao = some a) (w : World) (HT : ItemsAt w T) : Calls Tryz.prog 64 #[subV T ao len cap at'] w fun e w' => e = .returned (.int .i64 (ckOrder T at')) ∧ Below w.heap.size w w' := by
  have HS := Lib.hid (BoxS.start T ao len cap at' w)
  have hll := partsL_len HT.1
  have HI := Lib.hid (fun p => isIn_any ao at' cap (by omega) p)
  have hcall := fun wx (hb : Below w.heap.size w wx) => parts6_any T wx (HT.held hb)
  obtain ⟨l, hl⟩ : ∃ l, partsL T = l := ⟨_, rfl⟩
  have HE := Lib.hid (show ckOrder T at' = if hasB (fun j => !inL at' (l.getD j 0)) l.length then 14 else 0 by unfold ckOrder orderBad; rw [hl])
  rw [hl] at hcall hll
  unfold typV at hcall
  have HC := Lib.hid hcall
  clear hcall hl HT
  obtain ⟨a, rfl⟩ := hao
  unfold subV
  go_enter Tryz.func64, Tryz.ntmps64
  go_wp2_with (go_at_call 88; refine (HC.out _ ((Below.refl _ _).alloc (Nat.le_refl _) _)).mono ?_; rintro e w2 ⟨v, rfl, hown, hb2⟩; obtain ⟨va, vc, rfl, hva⟩ := row_form hown; have HV := Lib.hid hva; have HO2 := Lib.hid hown; have HB2 := Lib.hid (HS.out.keep hb2); obtain ⟨c0, c1, c2, c3, c4, c5, c6, c7⟩ := HB2.out.cells; clear hown hva hb2)
  go_loopw [9] (fun i wr => ∃ j : Nat, j ≤ l.length ∧ i = .int .i64 j ∧ Hid (∀ m, m < j → (!inL at' (l.getD m 0)) = false) ∧ wr = w2) (fun i _ => l.length - (intOf i).toNat)
  case atStart => exact ⟨0, Nat.zero_le _, rfl, Lib.hid (fun m hm => absurd hm (Nat.not_lt_zero _)), rfl⟩
  case round =>
    obtain ⟨j, hj, rfl, HF, rfl⟩ := hrel
    by_cases hjl : j < l.length
    · obtain ⟨g', rfl⟩ := HV.out (by omega)
      have c := cell_int HO2.out j hjl
      obtain ⟨p, hp⟩ : ∃ p, l.getD j 0 = p := ⟨_, rfl⟩
      rw [hp] at c
      obtain ⟨q, hq⟩ : ∃ q, inL at' p = q := ⟨_, rfl⟩
      have hi := HI.out p
      rw [hq] at hi
      have HI2 := Lib.hid hi
      clear hi
      cases q with
      | false =>
        have HT := Lib.hid (hasB_some (p := fun j => !inL at' (l.getD j 0)) hjl (by show (!inL at' (l.getD j 0)) = true; rw [hp, hq]; rfl))
        clear hp hq
        go_wp2_with (go_at_call 89; refine (HI2.out _).mono ?_; rintro e w' ⟨rfl, rfl⟩)
        go_ret
        exact ⟨ret_i (by rw [HE.out, HT.out]; rfl), HB2.out.2⟩
      | true =>
        have HF2 := Lib.hid (none_next (p := fun j => !inL at' (l.getD j 0)) HF.out (by show (!inL at' (l.getD j 0)) = false; rw [hp, hq]; rfl))
        clear hp hq
        go_wp2_with (go_at_call 89; refine (HI2.out _).mono ?_; rintro e w' ⟨rfl, rfl⟩)
        go_roundw
        case rel => exact ⟨j + 1, by omega, by go_num, HF2, by first | rfl | trivial⟩
        case measure => simp [intOf]; omega
    · obtain rfl : j = l.length := by omega
      have HT := Lib.hid (hasB_none (p := fun j => !inL at' (l.getD j 0)) HF.out)
      go_wp2
      go_ret
      exact ⟨ret_i (by rw [HE.out, HT.out]; rfl), HB2.out.2⟩
end Go.Proofs.YtohphejhlgnciaaGreat
