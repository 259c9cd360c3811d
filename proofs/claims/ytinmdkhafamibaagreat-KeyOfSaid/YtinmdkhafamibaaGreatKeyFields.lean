/- Contracts of package key: has, longest, Fields; what they answer in plain words. -/
import Derived.Test.YtinmdkhafamibaaGreatKeySame
import Derived.Test.YtinmdkhafamibaaGreatKeyBuild
import Derived.Test.YtinmdkhafamibaaGreatFitsAwake
import Derived.Deep.RegionHeld3
namespace Go.Proofs.YtinmdkhafamibaaGreat
open Go.RowKit
set_option linter.unusedVariables false
/-- how many bytes a key field of a type has at most -/
def lonK (X : TypeV) : Int := if X.kind = 10 then X.bound + 1 else szK X.kind
/-- the places of the key fields among the first n -/
def keyF (T : TypeV) (n : Nat) : List Nat := (List.range n).filter fun i => (T.items i).key
def keyN (L : Nat → TypeV) (T : TypeV) : Nat → Int
  | 0 => 0
  | n + 1 => keyN L T n + (if (T.items n).key = true then lonK (L (T.items n).type.toNat) else 0)
theorem keyF_succ (T : TypeV) (n : Nat) : keyF T (n + 1) = keyF T n ++ (if (T.items n).key = true then [n] else []) := by
  unfold keyF
  rw [List.range_succ, List.filter_append]
  congr 1
  by_cases h : (T.items n).key = true
  · rw [if_pos h]; simp only [List.filter_cons, h, if_true, List.filter_nil]
  · rw [if_neg h]; simp only [List.filter_cons, if_neg h, List.filter_nil]
theorem keyF_len (T : TypeV) (n : Nat) : (keyF T n).length ≤ n := by
  have := List.length_filter_le (fun i => (T.items i).key) (List.range n)
  rw [List.length_range] at this; exact this
theorem szK_le (k : Int) : 0 ≤ szK k ∧ szK k ≤ 8 := by unfold szK; split <;> (try split) <;> (try split) <;> (try split) <;> omega
theorem lonK_le {X : TypeV} (h : X.kind = 10 → 0 ≤ X.bound ∧ X.bound ≤ 64) : 0 ≤ lonK X ∧ lonK X ≤ 65 := by
  unfold lonK
  split
  · rename_i c; have := h c; omega
  · have := szK_le X.kind; omega
theorem keyN_le {L : Nat → TypeV} {T : TypeV} : ∀ n : Nat, (∀ j, j < n → 0 ≤ lonK (L (T.items j).type.toNat) ∧ lonK (L (T.items j).type.toNat) ≤ 65) → 0 ≤ keyN L T n ∧ keyN L T n ≤ 65 * n
  | 0, _ => by simp [keyN]
  | n + 1, h => by
    have h1 := keyN_le (L := L) (T := T) n (fun j hj => h j (by omega))
    have h2 := h n (by omega)
    unfold keyN
    split <;> omega
/-- the error of Fields, and what it answers -/
def fldE (L : Nat → TypeV) (len : Nat) (t : Int) : Int := if hasT L len t = false then 8 else if (L t.toNat).kind ≠ 13 then 4 else if 16 < keyN L (L t.toNat) (L t.toNat).ilen then 17 else 0
def fldL (L : Nat → TypeV) (len : Nat) (t : Int) : List Nat := if fldE L len t = 0 then keyF (L t.toNat) (L t.toNat).ilen else []
theorem fld_zero {L : Nat → TypeV} {len : Nat} {t : Int} (h : fldE L len t = 0) : ∃ k : Nat, t = k ∧ k < len ∧ fErr (oneR L len) len = 0 ∧ (L k).kind = 13 ∧ keyN L (L k) (L k).ilen ≤ 16 ∧ fldL L len t = keyF (L k) (L k).ilen := by
  have h' := h
  unfold fldE at h
  split at h; · cases h
  rename_i hT
  have hT : hasT L len t = true := by simpa using hT
  obtain ⟨k, rfl, hk, hok⟩ := hasT_in hT
  rw [Int.toNat_natCast] at h
  split at h; · cases h
  rename_i hk13
  split at h; · cases h
  rename_i h16
  refine ⟨k, rfl, hk, hok, Classical.not_not.1 hk13, by omega, ?_⟩
  unfold fldL; rw [if_pos h', Int.toNat_natCast]
set_option maxRecDepth 100000 in
set_option maxHeartbeats 4000000 in
theorem has13_any (ao : Option Addr) (len cap : Nat) (L : Nat → TypeV) (t : Int) (hlen : len ≤ 1000000) (hcap : len ≤ cap) (w : World) (H : ∀ i, i < len → TypeAt w ao i (L i)) :
    Calls Tryz.prog 13 #[.slice ao len cap, .int .i64 t] w fun e w' => e = .returned (.bool (hasT L len t)) ∧ Below w.heap.size w w' := by
  by_cases ht : 0 ≤ t ∧ t < len
  · obtain ⟨h0, h1⟩ := ht
    have hT : hasT L len t = ((fErr (oneR L len) len == 0) && (fAt (oneR L len) len == 0)) := by unfold hasT inL; rw [decide_eq_true h0, decide_eq_true h1]; rfl
    rw [hT]
    have hc := check6_any ao len cap L hlen hcap w H
    rw [fault_same] at hc
    unfold faultV at hc
    obtain ⟨E, hE⟩ : ∃ E, fErr (oneR L len) len = E := ⟨_, rfl⟩
    obtain ⟨A, hA⟩ : ∃ A, fAt (oneR L len) len = A := ⟨_, rfl⟩
    rw [hE, hA] at hc ⊢
    have hfe := fun w => fault_zero9 E A w
    obtain ⟨q, hq⟩ : ∃ q, ((E == 0) && (A == 0)) = q := ⟨_, rfl⟩
    rw [hq] at hfe ⊢
    have HC := Lib.hid hc
    clear hc hE hA hT hq H
    go_enter Tryz.func13, Tryz.ntmps13
    go_wp2_with (go_at_call 25; refine HC.out.mono ?_; rintro e w1 ⟨rfl, hb1⟩; have HB1 := Lib.hid hb1; clear hb1)
    go_ret
    exact ⟨rfl, HB1.out⟩
  · have hT : hasT L len t = false := by unfold hasT; rw [inL_no ht]; rfl
    rw [hT]
    clear hT H
    by_cases h0 : 0 ≤ t
    · have h1 : ¬ t < len := fun h => ht ⟨h0, h⟩
      clear ht
      go_enter Tryz.func13, Tryz.ntmps13
      go_wp2
      go_ret
      exact ⟨rfl, Below.refl _ _⟩
    · clear ht
      go_enter Tryz.func13, Tryz.ntmps13
      go_wp2
      go_ret
      exact ⟨rfl, Below.refl _ _⟩
set_option maxHeartbeats 1000000 in
theorem longest13_any (X : TypeV) (hb : X.kind = 10 → 0 ≤ X.bound ∧ X.bound ≤ 64) (w : World) : Calls Tryz.prog 14 #[.agg #[.int .i64 X.kind, .string X.name, .int .i64 X.bound, .int .i64 X.of, .int .i64 X.tag, .slice X.ia X.ilen X.icap]] w fun e w' => e = .returned (.int .i64 (lonK X)) ∧ Below w.heap.size w w' := by
  have HB := Lib.hid ((Below.refl w.heap.size w).alloc (Nat.le_refl _) (.cells #[.int .i64 X.kind, .string X.name, .int .i64 X.bound, .int .i64 X.of, .int .i64 X.tag, .slice X.ia X.ilen X.icap] 42))
  by_cases h : X.kind = 10
  · obtain ⟨h0, h1⟩ := hb h
    have hk : (X.kind == 10) = true := by simpa using h
    rw [show lonK X = X.bound + 1 from if_pos h]
    clear h hb
    go_enter Tryz.func14, Tryz.ntmps14
    go_wp2
    go_ret
    exact ⟨rfl, HB.out⟩
  · have hk : (X.kind == 10) = false := by simpa using h
    rw [show lonK X = szK X.kind from if_neg h]
    clear h hb
    go_enter Tryz.func14, Tryz.ntmps14
    go_wp2_with (go_at_call 26; refine (size_any _ _).mono ?_; rintro e w1 ⟨rfl, hb1⟩; have HB1 := Lib.hid (below_step8' HB.out hb1); clear hb1)
    go_ret
    exact ⟨rfl, HB1.out⟩
theorem boxK_grown {w w' : World} {B n c : Nat} {v : Value} {e t : TypeId} {xs : List Value} {cs : Array Value} (h : w.heap[c]? = some (.cells cs t (0, 0))) (hr : w.ownsRow B e 1 v n xs) (hg : w.grownBy w' v.ownBlock) (hne : t ≠ e) : w'.heap[c]? = some (.cells cs t (0, 0)) := by
  refine (hg.block c (lt_of_block h) (fun e2 => ?_)).trans h
  rcases hr.2 with ⟨rfl, _⟩ | ⟨g', cap, cur, rfl, _, hgg, _⟩
  · cases e2
  · have : c = g' := by simpa [Value.ownBlock] using e2
    subst this
    rw [h] at hgg
    injection hgg with h3
    injection h3 with _ h4
    exact hne h4
theorem infoIntF : (Tryz.prog.info? 3).map (fun i => (i.zero, i.size, i.bytes)) = some (some (.int .i64 0), 1, 8) := by kernel_rfl
/-- what Fields answers -/
def FldTo (L : Nat → TypeV) (len : Nat) (t : Int) (w : World) (e : Ending) (w' : World) : Prop := (∃ v, e = .returned (.tuple #[v, .int .i64 (fldE L len t)]) ∧ IntsAt w' v (fldL L len t)) ∧ Below w.heap.size w w'
set_option maxRecDepth 100000 in
set_option maxHeartbeats 8000000 in
theorem fields13_any (ao : Option Addr) (len cap : Nat) (L : Nat → TypeV) (t : Int) (hlen : len ≤ 1000000) (hcap : len ≤ cap) (w : World) (H : ∀ i, i < len → TypeAt w ao i (L i)) :
    Calls Tryz.prog 7 #[.slice ao len cap, .int .i64 t] w (FldTo L len t w) := by
  have hhas := fun wx (hb : Below w.heap.size w wx) => has13_any ao len cap L t hlen hcap wx (hold H hb)
  cases hT : hasT L len t with
  | false =>
    have hE : fldE L len t = 8 := by unfold fldE; rw [if_pos hT]
    have hL : fldL L len t = [] := by unfold fldL; rw [if_neg (by rw [hE]; decide)]
    unfold FldTo
    rw [hE, hL]
    rw [hT] at hhas
    have HH := Lib.hid hhas
    clear hT hE hL hhas H
    go_enter Tryz.func7, Tryz.ntmps7
    go_wp2_with (go_at_call 13; refine (HH.out _ (Below.refl _ _)).mono ?_; rintro e w1 ⟨rfl, hb1⟩; have HB1 := Lib.hid hb1; clear hb1)
    go_ret2
    exact ⟨⟨_, rfl, IntsAt.nil _⟩, HB1.out⟩
  | true =>
    obtain ⟨k, rfl, hk, hok⟩ := hasT_in hT
    have hv := ok_all hok
    rw [hT] at hhas
    have HHS := Lib.hid hhas
    have HH := Lib.hid (fun i (hi : i < len) wx (hb : Below w.heap.size w wx) => hold H hb i hi)
    obtain ⟨b, off, rfl, x0, x1, x2, x3, x4, x5, wf, hit⟩ := H k hk
    have hbl : b < w.heap.size := World.block_lt_of_cell? w _ x0
    clear H hhas
    by_cases h13 : (L k).kind = 13
    · have hm := hv k hk
      have hcnt := hm.count (.inl h13)
      have hty := fun j hj => hm.items (.inl h13) j hj
      have hlon : ∀ j, j < (L k).ilen → 0 ≤ lonK (L ((L k).items j).type.toNat) ∧ lonK (L ((L k).items j).type.toNat) ≤ 65 := fun j hj => lonK_le (fun h10 => (hv _ (by have := hty j hj; omega)).bound (.inl h10))
      have hE : fldE L len (k : Nat) = if 16 < keyN L (L k) (L k).ilen then 17 else 0 := by unfold fldE; rw [if_neg (by rw [hT]; decide), Int.toNat_natCast, if_neg (by rw [h13]; decide)]
      have hL : fldL L len (k : Nat) = if fldE L len (k : Nat) = 0 then keyF (L k) (L k).ilen else [] := by unfold fldL; rw [Int.toNat_natCast]
      have hLG := fun j (hj : j < (L k).ilen) wx => longest13_any (L ((L k).items j).type.toNat) (fun h10 => (hv _ (by have := hty j hj; omega)).bound (.inl h10)) wx
      have hKN := fun j => keyN_le (L := L) (T := L k) j
      obtain ⟨T, hTk⟩ : ∃ T, L k = T := ⟨_, rfl⟩
      have hne : (T.kind != 13) = false := by rw [← hTk, h13]; decide
      rw [hTk] at hE hL hcnt hty hlon hLG hKN x0 x5 hit
      have hKN2 := fun j (hj : j ≤ T.ilen) => hKN j (fun i hi => hlon i (by omega))
      obtain ⟨ia, hia⟩ : ∃ ia, T.ia = ia := ⟨_, rfl⟩
      have hit2 := fun j (hj : j < T.ilen) wx (hb : Below w.heap.size w wx) => (hit.2 j hj).held hb
      rw [hia] at x5 hit2
      have HIT := Lib.hid hit2
      have HTY := Lib.hid hty
      have HLON := Lib.hid hlon
      have HLG := Lib.hid hLG
      have HKN := Lib.hid hKN2
      have HKF := Lib.hid (fun j => keyF_succ T j)
      have HKS := Lib.hid (show ∀ j, keyN L T (j + 1) = keyN L T j + (if (T.items j).key = true then lonK (L (T.items j).type.toNat) else 0) from fun j => rfl)
      have HKL := Lib.hid (fun j => keyF_len T j)
      have HK0 := Lib.hid (show keyN L T 0 = 0 from rfl)
      obtain ⟨i0, hi0, hz0, hz1, hz2⟩ : ∃ i, Tryz.prog.info? 3 = some i ∧ i.zero = some (.int .i64 0) ∧ i.size = 1 ∧ i.bytes = 8 := by
        have h := infoIntF
        cases hq : Tryz.prog.info? 3 with
        | none => rw [hq] at h; cases h
        | some i => rw [hq] at h; simp at h; exact ⟨i, rfl, h.1, h.2.1, h.2.2⟩
      unfold FldTo
      obtain ⟨E, hEE⟩ : ∃ E, fldE L len (k : Nat) = E := ⟨_, rfl⟩
      obtain ⟨Q, hQQ⟩ : ∃ Q, fldL L len (k : Nat) = Q := ⟨_, rfl⟩
      rw [hEE, hQQ] at hL
      rw [hEE] at hE
      rw [hEE, hQQ]
      have HE := Lib.hid hE
      have HL := Lib.hid hL
      obtain ⟨hc1, hc16⟩ := hcnt
      obtain ⟨m, hm'⟩ : ∃ m, T.ilen = m := ⟨_, rfl⟩
      rw [hm'] at x5 HIT HTY HLON HLG HKN HE HL hc1 hc16
      clear hm hty hlon hLG hKN hKN2 hit hit2 hia hE hL hEE hQQ hv hok hT h13 hTk x1 x2 x3 x4 wf hm'
      have hle := hcap
      go_enter Tryz.func7, Tryz.ntmps7
      go_wp2_with (go_at_call 13; refine (HHS.out _ (Below.refl _ _)).mono ?_; rintro e w1 ⟨rfl, hb1⟩; have HB1 := Lib.hid hb1; have y0 := keep hb1 x0; have y5 := keep hb1 x5; clear hb1)
      go_loopw [6, 7, 28] (fun f n i wr => ∃ j : Nat, j ≤ m ∧ i = .int .i64 j ∧ n = .int .i64 (keyN L T j) ∧ Hid (wr.ownsRow w.heap.size 3 1 f (keyF T j).length (ivs (keyF T j))) ∧ Hid (Below w.heap.size w wr)) (fun _ _ i _ => m - (intOf i).toNat)
      case atStart => exact ⟨0, Nat.zero_le _, rfl, by rw [HK0.out], Lib.hid (World.ownsRow_nil _ _ _ _), HB1⟩
      case round =>
        obtain ⟨j, hj, rfl, rfl, HR, HB⟩ := hrel
        have hs0 := HB.out.size
        obtain ⟨hN0, hN1⟩ := HKN.out j hj
        by_cases hlt : j < m
        · obtain ⟨ib, io, rfl, z0, z1, z2, z3, z4, wi⟩ := HIT.out j hlt wr HB.out
          obtain ⟨p, hp⟩ : ∃ p : Nat, (T.items j).type = p := ⟨(T.items j).type.toNat, by have := (HTY.out j hlt).1; omega⟩
          have hpl : p < len := by have := (HTY.out j hlt).2.1; omega
          have HS := Lib.hid (HKS.out j)
          have HF := Lib.hid (HKF.out j)
          have hfl := HKL.out j
          obtain ⟨hM0, hM1⟩ := HLON.out j hlt
          have HG := Lib.hid (HLG.out j hlt)
          rw [hp] at z2 HS HG hM0 hM1
          rw [Int.toNat_natCast] at HS HG hM0 hM1
          obtain ⟨nm, hnm⟩ : ∃ x, (T.items j).name = x := ⟨_, rfl⟩
          obtain ⟨nu, hnu⟩ : ∃ x, (T.items j).num = x := ⟨_, rfl⟩
          obtain ⟨re, hre⟩ : ∃ x, (T.items j).rest = x := ⟨_, rfl⟩
          obtain ⟨ke, hke⟩ : ∃ x, (T.items j).key = x := ⟨_, rfl⟩
          rw [hnm] at z0
          rw [hnu] at z1
          rw [hre] at z4
          rw [hke] at z3 HS HF
          obtain ⟨N, hN⟩ : ∃ N, keyN L T j = N := ⟨_, rfl⟩
          rw [hN] at HS hN0 hN1 ⊢
          obtain ⟨M, hM⟩ : ∃ M, lonK (L p) = M := ⟨_, rfl⟩
          rw [hM] at HS HG hM0 hM1
          obtain ⟨l, hl⟩ : ∃ l, keyF T j = l := ⟨_, rfl⟩
          rw [hl] at HR HF hfl
          have HB5 := Lib.hid (HB.out.alloc hs0 (.cells #[.string nm, .int .u64 nu, .int .i64 (p : Nat), .bool ke, .bool re] 45))
          clear hnm hnu hre hke hN hM hl hp wi
          cases ke with
          | true =>
            rw [if_pos rfl] at HS HF
            go_wp2_with (first
              | (at_builtin; refine wpList_append_at rfl _ _ 30 rfl w.heap.size 3 i0 (.int .i64 0) 1 8 Tryz.underlying30 hi0 hz0 hz1 hz2 rfl (by decide) u6 l.length (ivs l) rfl ((World.ownsRow.alloc (w := wr) HR.out _).alloc _) ⟨_, 0, none⟩ 1 1 [.int .i64 (j : Nat)] rfl rfl (fun jj u hj => by match jj, hj with | 0, hj => (simp at hj; subst hj; rw [add_plain]; exact cell_at (heap_alloc2_new wr (.cells #[.string nm, .int .u64 nu, .int .i64 (p : Nat), .bool true, .bool re] 45) (.cells #[.int .i64 (j : Nat)] 3)) rfl)) (fun u hu => by (simp at hu; subst hu; rfl)) (by unfold maxLen; omega) (by omega) (by simp; omega) ?_; intro v2 w2 hown2 hg2 hf2; have hbx := boxK_grown (alloc_old (alloc_at wr (.cells #[.string nm, .int .u64 nu, .int .i64 (p : Nat), .bool true, .bool re] 45))) ((World.ownsRow.alloc (w := wr) HR.out _).alloc _) hg2 (by decide); have d2 : w2.cell? ⟨wr.heap.size, 2, none⟩ = some (.int .i64 (p : Nat)) := cell_at hbx rfl; have HR2 := Lib.hid hown2; have HB2 := Lib.hid ((HB5.out.alloc HB5.out.size _).grown hg2 (by have := HB5.out.size; simp; omega) (fun q hq => (HR.out.lt q hq).1)); obtain ⟨b2, off2, hbb, y0', y1', y2', y3', y4', y5', _, _⟩ := HH.out p hpl w2 HB2.out; cases hbb; clear hown2 hg2 hf2 hbx)
              | (go_at_call 14; refine (HG.out _).mono ?_; rintro e w3 ⟨rfl, hb3⟩; have HB3 := Lib.hid (below_step8' HB2.out hb3); have HR3 := Lib.hid (row_keep HR2.out hb3); clear hb3))
            go_roundw
            case rel => exact ⟨j + 1, by omega, by go_num, by rw [HS.out], Lib.hid (by rw [HF.out, List.length_append, ← ivs_snoc]; exact HR3.out), HB3⟩
            case measure => simp [intOf]; omega
          | false =>
            rw [if_neg (by decide), Int.add_zero] at HS
            rw [if_neg (by decide), List.append_nil] at HF
            go_wp2
            go_roundw
            case rel => exact ⟨j + 1, by omega, by go_num, by rw [HS.out], Lib.hid (by rw [HF.out]; exact HR.out.alloc _), HB5⟩
            case measure => simp [intOf]; omega
        · obtain rfl : j = m := by omega
          obtain ⟨N, hN⟩ : ∃ N, keyN L T j = N := ⟨_, rfl⟩
          rw [hN] at HE ⊢
          by_cases h16 : 16 < N
          · have e17 : E = 17 := by rw [HE.out, if_pos h16]
            have eQ : Q = [] := by rw [HL.out, e17, if_neg (by decide)]
            subst e17 eQ
            go_wp2
            go_ret2
            exact ⟨⟨_, rfl, IntsAt.nil _⟩, HB.out⟩
          · have e0 : E = 0 := by rw [HE.out, if_neg h16]
            have eQ : Q = keyF T j := by rw [HL.out, e0, if_pos rfl]
            have HQA := Lib.hid (IntsAt.of_row HR.out)
            subst e0 eQ
            go_wp2
            go_ret2
            exact ⟨⟨u6, rfl, HQA.out⟩, HB.out⟩
    · have hE : fldE L len (k : Nat) = 4 := by unfold fldE; rw [if_neg (by rw [hT]; decide), Int.toNat_natCast, if_pos h13]
      have hL : fldL L len (k : Nat) = [] := by unfold fldL; rw [if_neg (by rw [hE]; decide)]
      have hne : ((L k).kind != 13) = true := by simpa using h13
      unfold FldTo
      rw [hE, hL]
      clear hT hE hL hv hok h13 x1 x2 x3 x4 x5 hit wf
      go_enter Tryz.func7, Tryz.ntmps7
      go_wp2_with (go_at_call 13; refine (HHS.out _ (Below.refl _ _)).mono ?_; rintro e w1 ⟨rfl, hb1⟩; have HB1 := Lib.hid hb1; have x0 := keep hb1 x0; clear hb1)
      go_ret2
      exact ⟨⟨_, rfl, IntsAt.nil _⟩, HB1.out⟩
end Go.Proofs.YtinmdkhafamibaaGreat
