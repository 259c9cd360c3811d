/- What the bytes of a token say: the code's readers. -/
import Derived.Deep.WholeRow
import Derived.Great.BuildSlice
import Derived.Laws.CopyOwn
import Derived.OrdersHeld
import Derived.RowKit
import Derived.Test.YtjgdkiikkgdbaaaGreatDoorQ05
namespace Go.Proofs.YtjgdkiikkgdbaaaGreatDoor
open Go.RowKit
set_option linter.unusedVariables false
/-- a reader's answer -/
def rdVal (g : Got) : Value := match g with
  | .err e a => .tuple #[.string ⟨#[]⟩, .int .u64 0, .agg #[.int .i64 (e : Nat), .int .i64 (a : Nat)]]
  | .tok _ t n _ => .tuple #[.string (bs t), .int .u64 (n : Nat), .agg #[.int .i64 0, .int .i64 0]]
theorem newRow {w w1 : World} {o : Obj} (hb : Below (w.alloc o).heap.size (w.alloc o) w1) : w1.heap[w.heap.size]? = some o := rowKeep hb (alloc_at w o)
theorem newBelow {w w1 : World} {o : Obj} (hb : Below (w.alloc o).heap.size (w.alloc o) w1) : Below w.heap.size w w1 := ((Below.refl w.heap.size w).alloc (Nat.le_refl _) o).trans (hb.mono (by simp))
theorem onBelow {B : Nat} {w w1 w2 : World} (h : Below B w w1) (hB : B ≤ w.heap.size) (k : Below w1.heap.size w1 w2) : Below B w w2 := h.trans (k.mono (Nat.le_trans hB h.size))
set_option maxRecDepth 100000 in
theorem wrong_any (e a : Int) (w : World) : Calls Tryz.prog 132 #[.int .i64 e, .int .i64 a] w fun x w' => x = .returned (.tuple #[.string ⟨#[]⟩, .int .u64 0, .agg #[.int .i64 e, .int .i64 a]]) ∧ w' = w.alloc (.cells #[.int .i64 e, .int .i64 a] 38) := by
  go_enter Tryz.func132, Tryz.ntmps132
  go_wp2
  go_returns
  exact ⟨rfl, rfl⟩
set_option maxRecDepth 100000 in
theorem readPlain_any (l : List UInt8) (w : World) : Calls Tryz.prog 98 #[.string (bs l)] w fun x w' => x = .returned (.tuple #[.string (bs l), .int .u64 0, .agg #[.int .i64 0, .int .i64 0]]) ∧ Below w.heap.size w w' := by
  go_enter Tryz.func98, Tryz.ntmps98
  go_wp2
  go_returns
  exact ⟨rfl, by go_grown⟩
/-- ParseUint of digits: the number, or an error -/
theorem parse_ok (l : List UInt8) (h0 : l ≠ []) (h : l.all dig = true) (hl : l.length ≤ 1000) (hn : nval l < 18446744073709551616) (w : World) : Calls Tryz.prog 133 #[.string (bs l), .int .i64 10, .int .i64 64] w fun e w' =>
    e = .returned (.tuple #[.int .u64 (nval l : Nat), .nilIface]) ∧ Below w.heap.size w w' := by
  have hp := parse_digits l h0 h
  rw [if_pos hn] at hp
  refine (Tryz.strconv_ParseUint_10_at64_ok (bs l) (by rw [bs_size]; omega) (nval l) (by rw [bs_toList]; exact hp) w).mono ?_
  rintro e w' ⟨rfl, h | h⟩
  · subst h; exact ⟨rfl, Below.refl _ _⟩
  · subst h; exact ⟨rfl, Lib.bytesWorld_below _ _ _⟩
theorem parse_no (l : List UInt8) (h0 : l ≠ []) (h : l.all dig = true) (hl : l.length ≤ 1000) (hn : ¬ nval l < 18446744073709551616) (w : World) (hV : LibAt w) : Calls Tryz.prog 133 #[.string (bs l), .int .i64 10, .int .i64 64] w fun e w' =>
    (∃ t p, e = .returned (.tuple #[.int .u64 18446744073709551615, .iface t p])) ∧ Below w.heap.size w w' := by
  have hp := parse_digits l h0 h
  rw [if_neg hn] at hp
  obtain ⟨ev, hv, hev⟩ := hV.er
  refine (Tryz.strconv_ParseUint_10_at64_range (bs l) (by rw [bs_size]; omega) (by rw [bs_toList]; exact hp) ev w hv hev).mono ?_
  rintro e w' ⟨N, rfl, _, _, hb⟩
  exact ⟨⟨_, _, rfl⟩, hb⟩
set_option maxRecDepth 100000 in
set_option maxHeartbeats 2000000 in
theorem readNumber_any (c : UInt8) (r : List UInt8) (h : (c :: r).all dig = true) (hl : (c :: r).length ≤ 1000) (w : World) (hV : LibAt w) : Calls Tryz.prog 100 #[.string (bs (c :: r))] w fun x w' => x = .returned (rdVal (rdNum (c :: r))) ∧ Below w.heap.size w w' := by
  have hpo := parse_ok (c :: r) (by simp) h hl
  have hpn := fun hn wx hb => parse_no (c :: r) (by simp) h hl hn wx (hV.held hb)
  have hsz : (bs (c :: r)).size = r.length + 1 := bs_size _
  have hl' : r.length ≤ 999 := by simpa using hl
  have hlp : 0 < (bs (c :: r)).size := by omega
  have hml : (bs (c :: r)).size ≤ maxLen := by show (bs (c :: r)).size ≤ 9223372036854775807; omega
  have hg : ∀ h : 0 < (bs (c :: r)).size, (bs (c :: r))[0]'h = c := fun h => bs_get _ 0 h (by simp)
  clear hlp
  have hc : c.toNat < 256 := UInt8.toNat_lt c
  have h48 : (c :: r)[0]? = some 48 ↔ (c.toNat : Int) = 48 := by
    constructor
    · intro h
      have : c = 48 := by simpa using h
      rw [this]; rfl
    · intro h
      have : c = 48 := UInt8.toNat_inj.1 (by exact_mod_cast h)
      rw [this]; rfl
  have h1l : 1 < (c :: r).length ↔ (1 : Int) < ((r.length : Int) + 1) := by simp; omega
  have hv : rdNum (c :: r) = if 1 < (c :: r).length ∧ (c :: r)[0]? = some 48 then .err 1 0 else if nval (c :: r) < 18446744073709551616 then .tok 2 (c :: r) (nval (c :: r)) (c :: r).length else .err 7 0 := rfl
  rw [hv]
  clear hv
  obtain ⟨N, hN⟩ : ∃ N, nval (c :: r) = N := ⟨_, rfl⟩
  rw [hN] at hpo hpn ⊢
  obtain ⟨L, hL⟩ : ∃ L, c :: r = L := ⟨_, rfl⟩
  have hrv : rdVal (.tok 2 L N L.length) = .tuple #[.string (bs L), .int .u64 (N : Nat), .agg #[.int .i64 0, .int .i64 0]] := rfl
  rw [hL] at hpo hpn hsz hml hg h48 h1l ⊢
  obtain ⟨s, hs⟩ : ∃ s, bs L = s := ⟨_, rfl⟩
  rw [hs] at hpo hpn hrv hsz hml hg ⊢
  have hlp : 0 < s.size := by omega
  have hg := hg hlp
  clear hs hL hN
  have HPO := Lib.hid hpo
  have HPN := Lib.hid hpn
  clear hpo hpn hV h
  by_cases hA : 1 < L.length ∧ L[0]? = some 48
  · rw [if_pos hA]
    have h1' := h1l.1 hA.1
    have h2' := h48.1 hA.2
    clear h48 h1l hA hrv
    go_enter Tryz.func100, Tryz.ntmps100
    go_wp2_with (go_at_call 132; refine (wrong_any _ _ _).mono ?_; rintro e w1 ⟨rfl, rfl⟩)
    go_returns
    exact ⟨rfl, by go_grown⟩
  · rw [if_neg hA]
    have hcase : ¬ (1 : Int) < ((r.length : Int) + 1) ∨ ((1 : Int) < ((r.length : Int) + 1) ∧ ((c.toNat : Int) == 48) = false) := by
      by_cases h1 : (1 : Int) < ((r.length : Int) + 1)
      · exact .inr ⟨h1, beq_eq_false_iff_ne.2 (fun h2 => hA ⟨h1l.2 h1, h48.2 h2⟩)⟩
      · exact .inl h1
    clear h48 h1l hA
    by_cases hn : N < 18446744073709551616
    · rw [if_pos hn, hrv]
      have HP := Lib.hid (HPO.out hn)
      clear HPO HPN hrv
      rcases hcase with h1 | ⟨h1, h2⟩
      all_goals
        go_enter Tryz.func100, Tryz.ntmps100
        go_wp2_with (first
          | (go_at_call 133; refine (HP.out _).mono ?_; rintro e w1 ⟨rfl, hb1⟩; have HQ := Lib.hid (newRow hb1); have HR := Lib.hid (newBelow hb1); clear hb1)
          | (refine wpList_store_rowTo rfl 38 _ _ rfl rfl w.heap.size #[.int .i64 0, .int .i64 0] rfl rfl _ _ HQ.out (by kernel_rfl) (by kernel_rfl) (by kernel_rfl) ?_))
        refine bodyPost_ret (v := .tuple #[.string s, .int .u64 (N : Nat), .agg #[.int .i64 0, .int .i64 0]]) ?_ rfl ⟨rfl, below_setRow HR.out (Nat.le_refl _) _⟩
        have hl := run_loadVar_row (P := Tryz.prog) _ w.heap.size _ 38 _ _ _ (setRow_heap _ _ _ #[.int .i64 0, .int .i64 0] _ _ HQ.out) Tryz.underlying38 rfl (by kernel_rfl)
        simp [results, Tryz.results100, asAddr, hl]
    · rw [if_neg hn]
      have HP := Lib.hid (fun wx => HPN.out hn wx)
      clear HPO HPN hrv
      rcases hcase with h1 | ⟨h1, h2⟩
      all_goals
        go_enter Tryz.func100, Tryz.ntmps100
        go_wp2_with (first
          | (go_at_call 133; refine (HP.out _ ((Below.refl w.heap.size w).alloc (Nat.le_refl _) _)).mono ?_; rintro e w1 ⟨⟨te, pe, rfl⟩, hb1⟩; have HQ := Lib.hid (newRow hb1); have HR := Lib.hid (newBelow hb1); clear hb1)
          | (go_at_call 132; refine (wrong_any _ _ _).mono ?_; rintro e w2 ⟨rfl, rfl⟩; have HQ2 := Lib.hid (alloc_old HQ.out (o := (.cells #[.int .i64 7, .int .i64 0] 38))); have HR2 := Lib.hid (HR.out.alloc HR.out.size (.cells #[.int .i64 7, .int .i64 0] 38)))
          | (refine wpList_store_rowTo rfl 38 _ _ rfl rfl w.heap.size #[.int .i64 7, .int .i64 0] rfl rfl _ _ HQ2.out (by kernel_rfl) (by kernel_rfl) (by kernel_rfl) ?_))
        refine bodyPost_ret (v := .tuple #[.string ⟨#[]⟩, .int .u64 0, .agg #[.int .i64 7, .int .i64 0]]) ?_ rfl ⟨rfl, below_setRow HR2.out (Nat.le_refl _) _⟩
        have hl := run_loadVar_row (P := Tryz.prog) _ w.heap.size _ 38 _ _ _ (setRow_heap _ _ _ #[.int .i64 7, .int .i64 0] _ _ HQ2.out) Tryz.underlying38 rfl (by kernel_rfl)
        simp [results, Tryz.results100, asAddr, hl]
theorem findIdx_hit (p : UInt8 → Bool) : ∀ (l : List UInt8) (j : Nat), (∀ i, i < j → p (l.getD i 0) = false) → j < l.length → p (l.getD j 0) = true → l.findIdx? p = some j
  | [], j, _, hj, _ => by simp at hj
  | c :: r, 0, _, _, hp => by
    have hp' : p c = true := hp
    simp [List.findIdx?_cons, hp']
  | c :: r, j + 1, h, hj, hp => by
    have h0 : p c = false := h 0 (by omega)
    have := findIdx_hit p r j (fun i hi => h (i + 1) (by omega)) (by simpa using hj) hp
    simp [List.findIdx?_cons, h0, this]
theorem findIdx_miss (p : UInt8 → Bool) : ∀ (l : List UInt8), (∀ i, i < l.length → p (l.getD i 0) = false) → l.findIdx? p = none
  | [], _ => rfl
  | c :: r, h => by
    have h0 : p c = false := h 0 (by simp)
    have := findIdx_miss p r (fun i hi => h (i + 1) (by simpa using hi))
    simp [List.findIdx?_cons, h0, this]
theorem replace_unq_any (l : List UInt8) (hl : l.length ≤ 1000) (w : World) (hV : LibAt w) : Calls Tryz.prog 61 #[.string (bs l), .string ⟨#[39, 39]⟩, .string ⟨#[39]⟩] w fun e w' => e = .returned (.string (bs (unq l))) ∧ Below w.heap.size w w' := by
  obtain ⟨m, hm⟩ := hV.mx
  have hz := bs_size l
  have hc := Lib.countB_mul_le ⟨#[39, 39]⟩ (by decide) (bs l).size (bs l) (Nat.le_refl _)
  have h2 : (⟨#[39, 39]⟩ : ByteArray).size = 2 := rfl
  have h1 : (⟨#[39]⟩ : ByteArray).size = 1 := rfl
  rw [h2] at hc
  refine (Tryz.strings_ReplaceAll (bs l) ⟨#[39, 39]⟩ ⟨#[39]⟩ m w (by omega) hm (by decide) (by rw [h1]; omega)).mono fun e w' ⟨he, hb⟩ => ⟨?_, hb⟩
  rw [he, bs_toList, replace_unq]
  rfl
set_option maxRecDepth 100000 in
set_option maxHeartbeats 2000000 in
theorem readText_any (l : List UInt8) (h2 : l.count 39 % 2 = 0 → 2 ≤ l.length) (hl : l.length ≤ 1000) (w : World) (hV : LibAt w) : Calls Tryz.prog 102 #[.string (bs l)] w fun x w' => x = .returned (rdVal (rdText l)) ∧ Below w.heap.size w w' := by
  have HHIT := Lib.hid (findIdx_hit badB l)
  have HMISS := Lib.hid (findIdx_miss badB l)
  have HR := Lib.hid (fun (hlen : 2 ≤ l.length) (wx : World) (hb : Below w.heap.size w wx) => replace_unq_any ((l.drop 1).take (l.length - 2)) (by rw [List.length_take, List.length_drop]; omega) wx (hV.held hb))
  have HSM := Lib.hid (fun (hlen : 2 ≤ l.length) => sl_mid l 1 (l.length - 1) (by omega) (by omega))
  have HC := Lib.hid (fun wx => show Calls Tryz.prog 125 #[.string (bs l), .string ⟨#[39]⟩] wx fun e w' => e = .returned (.int .i64 (l.count 39 : Nat)) ∧ w' = wx by
    have h := Tryz.strings_Count_one (bs l) 39 wx
    rw [bs_toList] at h
    exact h)
  have HG := Lib.hid (bs_get l)
  have hsz : (bs l).size = l.length := bs_size l
  have hml : (bs l).size ≤ maxLen := by show (bs l).size ≤ 9223372036854775807; omega
  have hrd : rdText l = match l.findIdx? badB with
    | some i => .err 10 i
    | none => if l.count 39 % 2 ≠ 0 then .err 2 0 else .tok 3 (unq ((l.drop 1).take (l.length - 2))) 0 l.length := rfl
  obtain ⟨s, hs⟩ : ∃ s, bs l = s := ⟨_, rfl⟩
  rw [hs] at HSM HC hsz hml HG ⊢
  obtain ⟨R, hR⟩ : ∃ R, rdText l = R := ⟨_, rfl⟩
  rw [hR] at hrd ⊢
  have HRD := Lib.hid hrd
  have H2 := Lib.hid h2
  clear hs hR hrd h2 hV
  go_enter Tryz.func102, Tryz.ntmps102
  go_wp2_with (fail)
  go_loopw [8] (fun i wr => ∃ j : Nat, j ≤ l.length ∧ i = .int .i64 j ∧ Hid (∀ i, i < j → badB (l.getD i 0) = false) ∧ wr = w.alloc (.cells #[.int .i64 0, .int .i64 0] 38)) (fun i _ => l.length - (intOf i).toNat)
  case atStart => exact ⟨0, Nat.zero_le _, rfl, Lib.hid (fun i hi => absurd hi (Nat.not_lt_zero _)), rfl⟩
  case round =>
    obtain ⟨j, hj, rfl, HB, hwr⟩ := hrel
    by_cases hlt : j < l.length
    · have hlt2 : j < s.size := by omega
      have hg := HG.out j hlt2 hlt
      have hgd : l.getD j 0 = l[j] := by rw [List.getD_eq_getElem?_getD, List.getElem?_eq_getElem hlt]; rfl
      have hhit := HHIT.out j HB.out hlt
      have hnx := none_next (p := fun i => badB (l.getD i 0)) HB.out
      rw [hgd] at hhit hnx
      obtain ⟨x, hx⟩ : ∃ x, l[j] = x := ⟨_, rfl⟩
      rw [hx] at hg hhit hnx
      have hc : x.toNat < 256 := UInt8.toNat_lt x
      clear hgd hx
      by_cases hbad : (x.toNat : Int) < 32 ∨ (126 : Int) < (x.toNat : Int)
      · have hb : badB x = true := by unfold badB; rw [Bool.or_eq_true, decide_eq_true_iff, decide_eq_true_iff]; omega
        have hf := hhit hb
        have HE := Lib.hid (show R = .err 10 j by rw [HRD.out, hf])
        clear hhit hnx hf hb
        subst hwr
        rcases hbad with h | h
        · go_wp2_with (go_at_call 132; refine (wrong_any _ _ _).mono ?_; rintro e w1 ⟨rfl, rfl⟩)
          go_returns
          exact ⟨by rw [HE.out]; rfl, by go_grown⟩
        · have h32 : ¬ (x.toNat : Int) < 32 := by omega
          go_wp2_with (go_at_call 132; refine (wrong_any _ _ _).mono ?_; rintro e w1 ⟨rfl, rfl⟩)
          go_returns
          exact ⟨by rw [HE.out]; rfl, by go_grown⟩
      · have hb : badB x = false := by unfold badB; rw [Bool.or_eq_false_iff, decide_eq_false_iff_not, decide_eq_false_iff_not]; omega
        have HN := Lib.hid (hnx hb)
        have h1 : ¬ (x.toNat : Int) < 32 := by omega
        have h2 : ¬ (126 : Int) < (x.toNat : Int) := by omega
        clear hhit hnx hb hbad
        go_wp2_with (fail)
        go_roundw
        case rel => exact ⟨j + 1, by omega, by go_num, HN, by first | exact hwr | trivial⟩
        case measure => simp [intOf]; omega
    · have hf := HMISS.out (fun i hi => HB.out i (by omega))
      subst hwr
      obtain ⟨n, hn⟩ : ∃ n, l.count 39 = n := ⟨_, rfl⟩
      rw [hn] at HC H2 HRD
      clear hn
      by_cases ho : n % 2 = 0
      · have hlen := H2.out ho
        have HE := Lib.hid (show R = .tok 3 (unq ((l.drop 1).take (l.length - 2))) 0 l.length by rw [HRD.out, hf]; simp [ho])
        have HRR := Lib.hid (HR.out hlen)
        have hsl := HSM.out hlen
        rw [show l.length - 1 - 1 = l.length - 2 by omega, show (((l.length - 1 : Nat)) : Int) = (l.length : Int) - 1 by omega, show ((1 : Nat) : Int) = 1 from rfl] at hsl
        obtain ⟨M, hM⟩ : ∃ M, (l.drop 1).take (l.length - 2) = M := ⟨_, rfl⟩
        rw [hM] at HE HRR hsl
        have hrem : (n : Int).tmod 2 = 0 := by rw [Int.tmod_eq_emod_of_nonneg (by omega)]; omega
        clear hf hM ho H2 HR HSM HHIT HMISS HB
        go_wp2_with (first
          | (go_at_call 125; refine (HC.out _).mono ?_; rintro e w1 ⟨rfl, rfl⟩)
          | (go_at_call 61; refine (HRR.out _ ((Below.refl w.heap.size w).alloc (Nat.le_refl _) _)).mono ?_; rintro e w2 ⟨rfl, hb2⟩; have HQ := Lib.hid (newRow hb2); have HRB := Lib.hid (newBelow hb2); clear hb2)
          | (refine wpList_store_rowTo rfl 38 _ _ rfl rfl w.heap.size #[.int .i64 0, .int .i64 0] rfl rfl _ _ HQ.out (by kernel_rfl) (by kernel_rfl) (by kernel_rfl) ?_))
        refine bodyPost_ret (v := .tuple #[.string (bs (unq M)), .int .u64 0, .agg #[.int .i64 0, .int .i64 0]]) ?_ rfl ⟨by rw [HE.out]; rfl, below_setRow HRB.out (Nat.le_refl _) _⟩
        have hl := run_loadVar_row (P := Tryz.prog) _ w.heap.size _ 38 _ _ _ (setRow_heap _ _ _ #[.int .i64 0, .int .i64 0] _ _ HQ.out) Tryz.underlying38 rfl (by kernel_rfl)
        simp [results, Tryz.results102, asAddr, hl]
      · have HE := Lib.hid (show R = .err 2 0 by rw [HRD.out, hf]; simp [ho])
        have hrem : (n : Int).tmod 2 = 1 := by rw [Int.tmod_eq_emod_of_nonneg (by omega)]; omega
        clear hf ho H2 HR HSM HHIT HMISS HB
        go_wp2_with (first
          | (go_at_call 125; refine (HC.out _).mono ?_; rintro e w1 ⟨rfl, rfl⟩)
          | (go_at_call 132; refine (wrong_any _ _ _).mono ?_; rintro e w1 ⟨rfl, rfl⟩))
        go_returns
        exact ⟨by rw [HE.out]; rfl, by go_grown⟩
set_option maxRecDepth 100000 in
set_option maxHeartbeats 2000000 in
theorem readParam_any (c d : UInt8) (hd : dig d = true) (w : World) : Calls Tryz.prog 104 #[.string (bs [c, d])] w fun x w' => x = .returned (rdVal (rdPar [c, d])) ∧ Below w.heap.size w w' := by
  have hd' : 48 ≤ d.toNat ∧ d.toNat ≤ 57 := by simpa [dig, isD] using hd
  have hsz : (bs [c, d]).size = 2 := bs_size _
  have hlt : 1 < (bs [c, d]).size := by omega
  have hg : (bs [c, d])[1]'hlt = d := bs_get _ 1 hlt (by simp)
  have hrv : rdVal (rdPar [c, d]) = .tuple #[.string (bs [c, d]), .int .u64 ((d.toNat - 48 : Nat) : Int), .agg #[.int .i64 0, .int .i64 0]] := rfl
  rw [hrv]
  clear hrv hd
  have hnn : ((d.toNat - 48 : Nat) : Int) = (d.toNat : Int) - 48 := by omega
  rw [hnn]
  clear hnn
  have hd1 : (48 : Int) ≤ (d.toNat : Int) := by omega
  have hd2 : (d.toNat : Int) ≤ 57 := by omega
  have hu8 : IntKind.u8.wrap ((d.toNat : Int) - 48) = (d.toNat : Int) - 48 := by rw [IntKind.wrap_u8]; omega
  have hu64 : IntKind.u64.wrap ((d.toNat : Int) - 48) = (d.toNat : Int) - 48 := by rw [IntKind.wrap_u64]; omega
  generalize bs [c, d] = s at *
  go_enter Tryz.func104, Tryz.ntmps104
  go_wp2_with (fail)
  go_region
  all_goals
    go_wp2_with (fail)
    go_returns
    exact ⟨rfl, by go_grown⟩
end Go.Proofs.YtjgdkiikkgdbaaaGreatDoor
/- A region that draws its order of evaluation, whatever the order: its first N operations only lay new blocks and leave values that are told; all others wait for all of them. General: no dump is imported. -/
namespace Go.Proofs.YtjgdkiikkgdbaaaGreatDoor
open Go Go.RowKit
set_option linter.unusedVariables false
section
variable {P : Program} {ops : Array Oper} {Q : Exit → Act → World → Prop}
/-- how many have not come up -/
def restL (l : List Bool) : Nat := (l.filter (!·)).length
def restN (l : Array Bool) : Nat := restL l.toList
theorem restL_set : ∀ (l : List Bool) (i : Nat), l.getD i true = false → restL (l.set i true) + 1 = restL l
  | [], i, h => by simp at h
  | b :: l, 0, h => by
    have : b = false := by simpa using h
    subst this; simp [restL]
  | b :: l, i + 1, h => by
    have ih := restL_set l i (by simpa using h)
    unfold restL at *
    rw [List.set_cons_succ]
    cases b <;> simp_all <;> omega
theorem getD_list (l : Array Bool) (i : Nat) (d : Bool) : l.getD i d = l.toList.getD i d := by
  rw [List.getD_eq_getElem?_getD, ← Array.getElem?_toList.symm, Array.getD_eq_getD_getElem?]
theorem restN_set (l : Array Bool) (i : Nat) (h : l.getD i true = false) : restN (l.setIfInBounds i true) + 1 = restN l := by
  rw [getD_list] at h
  have := restL_set l.toList i h
  unfold restN
  rw [Array.toList_setIfInBounds]; exact this
theorem restN_pos (l : Array Bool) (i : Nat) (h : l.getD i true = false) : 0 < restN l := by have := restN_set l i h; omega
/-- by what holds of what has come up -/
theorem wpAny_inv {md : Region.Mode} {I : Array Bool → Act → World → Prop} {D : Array Bool → Prop}
    (hstep : ∀ l a w, I l a w → ¬ D l → (∃ i, i ∈ Region.ready md ops l) ∧ ∀ i ∈ Region.ready md ops l, wpOp P ops Q i (I (l.setIfInBounds i true)) a w)
    (hend : ∀ l a w, I l a w → D l → wpAny P md ops Q (restN l) l a w) : ∀ n l a w, restN l = n → I l a w → wpAny P md ops Q n l a w
  | 0, l, a, w, hn, h => by
    by_cases d : D l
    · have := hend l a w h d; rwa [hn] at this
    · obtain ⟨⟨i, hi⟩, _⟩ := hstep l a w h d
      have := restN_pos l i (mem_ready.1 hi).1
      omega
  | n + 1, l, a, w, hn, h => by
    by_cases d : D l
    · have := hend l a w h d; rwa [hn] at this
    · obtain ⟨⟨i0, hi0⟩, hs⟩ := hstep l a w h d
      refine ⟨fun h0 => absurd hi0 (by rw [h0]; simp), fun i hi => ?_⟩
      have hr := restN_set l i (mem_ready.1 hi).1
      exact wpOp_mono (fun a' w' h' => wpAny_inv hstep hend n _ a' w' (by omega) h') (hs i hi)
/-- what an operation waits for -/
def depsOf (ops : Array Oper) (j : Nat) : List Nat := ((ops[j]?).map fun o => (o.after.toList.filter fun e => Region.binds .any e).map (·.on)).getD []
/-- .. and what these wait for -/
def more (ops : Array Oper) (N : Nat) (c : List Nat) : List Nat := c ++ (c.filter fun k => decide (k < N)).flatMap (depsOf ops)
/-- the first N wait for earlier ones alone, all others for all of them (at some hand) or for one of these others -/
def preB (ops : Array Oper) (N : Nat) : Bool := (List.range ops.size).all fun j => if j < N then (depsOf ops j).all fun k => decide (k < j) else ((depsOf ops j).any fun k => decide (N ≤ k)) || (List.range N).all fun k => (more ops N (more ops N (more ops N (more ops N (depsOf ops j))))).contains k
theorem more_in {N : Nat} {c : List Nat} {L : Nat → Prop} (h : ∀ k ∈ c, L k) (hc : ∀ j, j < N → L j → ∀ k ∈ depsOf ops j, L k) : ∀ k ∈ more ops N c, L k := by
  intro k hk
  unfold more at hk
  rcases List.mem_append.1 hk with h1 | h1
  · exact h k h1
  · obtain ⟨m, hm, hkm⟩ := List.mem_flatMap.1 h1
    rw [List.mem_filter] at hm
    exact hc m (by simpa using hm.2) (h m hm.1) k hkm
def upd (v : Nat → Value) (j : Nat) (x : Value) : Nat → Value := fun k => if k = j then x else v k
/-- what a slot holds: a value that is told (al j = none), or a pointer to a block of the call's own -/
def Okay (base : Nat) (al : Nat → Option Obj) (c : Nat → Value) (k : Nat) (x : Value) (w : World) : Prop :=
  match al k with
  | none => x = c k
  | some o => ∃ p, x = .pointer (some ⟨p, 0, none⟩) ∧ w.heap[p]? = some o ∧ base ≤ p
theorem blk_lt {w : World} {b : Nat} {o : Obj} (h : w.heap[b]? = some o) : b < w.heap.size := by
  rcases Nat.lt_or_ge b w.heap.size with c | c
  · exact c
  · rw [Array.getElem?_eq_none c] at h; cases h
theorem Okay.keep {base : Nat} {al : Nat → Option Obj} {c : Nat → Value} {k : Nat} {x : Value} {w w1 : World} (h : Okay base al c k x w) (hb : Below w.heap.size w w1) : Okay base al c k x w1 := by
  unfold Okay at *
  split
  · rename_i e; rw [e] at h; exact h
  · rename_i o e
    rw [e] at h
    obtain ⟨p, h1, h2, h3⟩ := h
    exact ⟨p, h1, (hb.block p (blk_lt h2)).trans h2, h3⟩
def listN (N M : Nat) : Array Bool := (List.replicate N true ++ List.replicate (M - N) false).toArray
theorem listN_of {l : Array Bool} {N M : Nat} (hs : l.size = M) (hN : N ≤ M) (h1 : ∀ j, j < N → l.getD j false = true) (h2 : ∀ j, N ≤ j → j < M → l.getD j false = false) : l = listN N M := by
  unfold listN
  apply Array.ext
  · simp; omega
  · intro i hi hi2
    have hg : l.getD i false = l[i] := by simp [Array.getD, hi]
    rw [← hg]
    simp only [List.getElem_toArray]
    by_cases c : i < N
    · rw [h1 i c, List.getElem_append_left (by simpa using c)]; simp
    · rw [h2 i (by omega) (by omega), List.getElem_append_right (by simpa using c)]; simp
theorem restN_listN (N M : Nat) : restN (listN N M) = M - N := by
  unfold restN restL listN
  simp
/-- the region's first N operations, in whatever order -/
theorem wp_region_ext {id : Nat} {w : World} (hm : P.follows .mixedOrders = true) (N : Nat) (frame : (Nat → Value) → Array Value) (v0 : Nat → Value) (al : Nat → Option Obj) (c : Nat → Value) (B : World → Prop)
    (hN : N ≤ ops.size) (hpre : preB ops N = true) (hB : ∀ w w', B w → Below w.heap.size w w' → B w') (hB0 : B w)
    (hop : ∀ j, j < N → ∀ (v : Nat → Value) (w1 : World), B w1 → w.heap.size ≤ w1.heap.size → (∀ k, k ∈ depsOf ops j → Okay w.heap.size al c k (v k) w1) →
      wpOp P ops Q j (fun a' w' => ∃ x, a' = ⟨frame (upd v j x), []⟩ ∧ Below w1.heap.size w1 w' ∧ (al j = none → x = c j) ∧ (∀ o, al j = some o → x = .pointer (some ⟨w1.heap.size, 0, none⟩) ∧ w'.heap[w1.heap.size]? = some o)) ⟨frame v, []⟩ w1)
    (hend : ∀ v w', (∀ j, j < N → Okay w.heap.size al c j (v j) w') → (∀ j k, j < N → k < N → j ≠ k → al j ≠ none → al k ≠ none → v j ≠ v k) → B w' → Below w.heap.size w w' → wpAny P .any ops Q (ops.size - N) (listN N ops.size) ⟨frame v, []⟩ w') :
    (Code.region id ops true).wp P Q ⟨frame v0, []⟩ w := by
  refine wp_region_any hm ?_
  have hpre2 : ∀ j, j < ops.size → if j < N then ∀ k ∈ depsOf ops j, k < j else (∃ m, m ∈ depsOf ops j ∧ N ≤ m) ∨ ∀ k, k < N → k ∈ more ops N (more ops N (more ops N (more ops N (depsOf ops j)))) := by
    intro j hj
    have h := List.all_eq_true.1 hpre j (List.mem_range.2 hj)
    split
    · rename_i hc
      rw [if_pos hc] at h
      intro k hk
      simpa using List.all_eq_true.1 h k hk
    · rename_i hc
      rw [if_neg hc, Bool.or_eq_true] at h
      rcases h with h | h
      · obtain ⟨m, hm, hmN⟩ := List.any_eq_true.1 h
        exact .inl ⟨m, hm, by simpa using hmN⟩
      · exact .inr fun k hk => by simpa using List.all_eq_true.1 h k (List.mem_range.2 hk)
  have hdeps : ∀ {j : Nat} {o : Oper} {l : Array Bool}, ops[j]? = some o → (∀ e ∈ o.after, Region.binds .any e = true → l.getD e.on false = true) → ∀ k ∈ depsOf ops j, l.getD k false = true := by
    intro j o l ho h k hk
    unfold depsOf at hk
    rw [ho] at hk
    simp only [Option.map_some, Option.getD_some, List.mem_map, List.mem_filter] at hk
    obtain ⟨e, ⟨he, hb⟩, rfl⟩ := hk
    exact h e (Array.mem_toList_iff.1 he) hb
  have hconv : ∀ {j : Nat} {l : Array Bool}, j < ops.size → (∀ k ∈ depsOf ops j, l.getD k false = true) → ∃ o, ops[j]? = some o ∧ ∀ e ∈ o.after, Region.binds .any e = true → l.getD e.on false = true := by
    intro j l hj h
    refine ⟨ops[j], Array.getElem?_eq_getElem hj, fun e he hb => h _ ?_⟩
    unfold depsOf
    rw [Array.getElem?_eq_getElem hj]
    simp only [Option.map_some, Option.getD_some, List.mem_map, List.mem_filter]
    exact ⟨e, ⟨Array.mem_toList_iff.2 he, hb⟩, rfl⟩
  have hdt : ∀ {l : Array Bool} {j : Nat}, l.size = ops.size → j < ops.size → (l.getD j true = l.getD j false) := by
    intro l j hl hj
    have : j < l.size := by omega
    simp [Array.getD, this]
  refine wpAny_inv
    (I := fun l a w' => l.size = ops.size ∧ (∀ j, j < N → l.getD j false = true → ∀ k ∈ depsOf ops j, l.getD k false = true) ∧ (∀ j, N ≤ j → j < ops.size → l.getD j false = false) ∧ ∃ v, a = ⟨frame v, []⟩ ∧ (∀ j, j < N → l.getD j false = true → Okay w.heap.size al c j (v j) w') ∧
      (∀ j k, j < N → k < N → j ≠ k → l.getD j false = true → l.getD k false = true → al j ≠ none → al k ≠ none → v j ≠ v k) ∧ B w' ∧ Below w.heap.size w w')
    (D := fun l => ∀ j, j < N → l.getD j false = true) ?_ ?_ ops.size _ _ _ ?_ ?_
  · rintro l a w1 ⟨hl, hcl, hlo, v, rfl, hv, hd, hb1, hbw⟩ hD
    constructor
    · -- the least that has not come up
      have hex : ∃ j, j < N ∧ l.getD j false = false := by
        apply Classical.byContradiction
        intro hno
        refine hD fun j hj => ?_
        cases hc : l.getD j false with
        | true => rfl
        | false => exact absurd ⟨j, hj, hc⟩ hno
      have hleast : ∀ n, (∃ j, j < n ∧ j < N ∧ l.getD j false = false) → ∃ j, j < N ∧ l.getD j false = false ∧ ∀ k, k < j → l.getD k false = true := by
        intro n
        induction n with
        | zero => rintro ⟨j, h, _⟩; omega
        | succ n ih =>
          rintro ⟨j, h, hjN, hj⟩
          by_cases c : ∃ k, k < n ∧ k < N ∧ l.getD k false = false
          · exact ih c
          · refine ⟨j, hjN, hj, fun k hk => ?_⟩
            cases hc : l.getD k false with
            | true => rfl
            | false => exact absurd ⟨k, by omega, by omega, hc⟩ c
      obtain ⟨j, hjN, hj⟩ := hex
      obtain ⟨j, hjN, hj, hall⟩ := hleast (j + 1) ⟨j, by omega, hjN, hj⟩
      have hjs : j < ops.size := by omega
      refine ⟨j, mem_ready.2 ⟨by rw [hdt hl hjs]; exact hj, hconv hjs fun k hk => ?_⟩⟩
      have h2 := hpre2 j hjs
      rw [if_pos hjN] at h2
      exact hall k (h2 k hk)
    · intro i hi
      obtain ⟨hun, o, ho, haft⟩ := mem_ready.1 hi
      have his : i < ops.size := (Array.getElem?_eq_some_iff.1 ho).1
      have hdp := hdeps ho haft
      have h2 := hpre2 i his
      by_cases hiN : i < N
      · rw [if_pos hiN] at h2
        refine wpOp_mono ?_ (hop i hiN v w1 hb1 hbw.size (fun k hk => hv k (by have := h2 k hk; omega) (hdp k hk)))
        rintro a' w' ⟨x, rfl, hbx, hx1, hx2⟩
        have hsame : ∀ j, j ≠ i → (l.setIfInBounds i true).getD j false = l.getD j false := fun j hj => by
          simp [Array.getD_eq_getD_getElem?, Ne.symm hj]
        have hmono : ∀ k, l.getD k false = true → (l.setIfInBounds i true).getD k false = true := fun k hk => by
          by_cases e : k = i
          · subst e
            have : k < l.size := by omega
            simp [Array.getD, this]
          · rw [hsame k e]; exact hk
        have hcl2 : ∀ j, j < N → (l.setIfInBounds i true).getD j false = true → ∀ k ∈ depsOf ops j, (l.setIfInBounds i true).getD k false = true := fun j hj hlj k hk => by
          by_cases e : j = i
          · subst e; exact hmono k (hdp k hk)
          · rw [hsame j e] at hlj; exact hmono k (hcl j hj hlj k hk)
        refine ⟨by simp [hl], hcl2, fun j hj hjs => by rw [hsame j (by omega)]; exact hlo j hj hjs, upd v i x, rfl, ?_, ?_, hB _ _ hb1 hbx, hbw.trans (hbx.mono hbw.size)⟩
        · intro j hj hlj
          by_cases e : j = i
          · subst e
            show Okay _ al c j (if j = j then x else v j) w'
            rw [if_pos rfl]
            unfold Okay
            split
            · rename_i e2; exact hx1 e2
            · rename_i o2 e2
              obtain ⟨hp, hq⟩ := hx2 o2 e2
              exact ⟨_, hp, hq, hbw.size⟩
          · rw [hsame j e] at hlj
            show Okay _ al c j (if j = i then x else v j) w'
            rw [if_neg e]
            exact (hv j hj hlj).keep hbx
        · have hnew : ∀ k, k < N → k ≠ i → l.getD k false = true → al i ≠ none → al k ≠ none → x ≠ v k := by
            intro k hk hki hlk ha hak
            cases ha1 : al i with
            | none => exact absurd ha1 ha
            | some oi =>
              obtain ⟨hp, _⟩ := hx2 oi ha1
              have hok := hv k hk hlk
              unfold Okay at hok
              cases ha2 : al k with
              | none => exact absurd ha2 hak
              | some ok =>
                rw [ha2] at hok
                obtain ⟨p, hp2, hq2, _⟩ := hok
                have := blk_lt hq2
                rw [hp, hp2]
                intro e
                injection e with e
                injection e with e
                injection e with e
                omega
          intro j k hj hk hjk hlj hlk haj hak
          show (if j = i then x else v j) ≠ (if k = i then x else v k)
          by_cases e : j = i
          · subst e
            have e2 : k ≠ j := Ne.symm hjk
            rw [if_pos rfl, if_neg e2]
            rw [hsame k e2] at hlk
            exact hnew k hk e2 hlk haj hak
          · rw [if_neg e]
            rw [hsame j e] at hlj
            by_cases e2 : k = i
            · subst e2
              rw [if_pos rfl]
              exact Ne.symm (hnew j hj e hlj hak haj)
            · rw [if_neg e2]
              rw [hsame k e2] at hlk
              exact hd j k hj hk hjk hlj hlk haj hak
      · rw [if_neg hiN] at h2
        rcases h2 with ⟨m, hm, hmN⟩ | h2
        · have hm1 := hdp m hm
          by_cases c : m < ops.size
          · rw [hlo m hmN c] at hm1; cases hm1
          · have : ¬ m < l.size := by omega
            simp [Array.getD, this] at hm1
        · have L1 := more_in (L := fun k => l.getD k false = true) hdp hcl
          have L2 := more_in (L := fun k => l.getD k false = true) L1 hcl
          have L3 := more_in (L := fun k => l.getD k false = true) L2 hcl
          have L4 := more_in (L := fun k => l.getD k false = true) L3 hcl
          exact absurd (fun j hj => L4 j (h2 j hj)) hD
  · rintro l a w1 ⟨hl, hcl, hlo, v, rfl, hv, hd, hb1, hbw⟩ hD
    have e := listN_of hl hN hD hlo
    rw [e, restN_listN]
    exact hend v w1 (fun j hj => hv j hj (hD j hj)) (fun j k hj hk hjk haj hak => hd j k hj hk hjk (hD j hj) (hD k hk) haj hak) hb1 hbw
  · unfold restN restL; simp
  · have hrep : ∀ j, (Array.replicate ops.size false).getD j false = false := fun j => by simp [Array.getD]
    refine ⟨by simp, fun j _ h => absurd h (by rw [hrep j]; decide), fun j _ _ => hrep j, v0, rfl, fun j _ h => ?_, fun j k _ _ _ h => ?_, hB _ _ hB0 (Below.refl _ _).drew, (Below.refl _ _).drew⟩
    · rw [hrep j] at h; cases h
    · rw [hrep j] at h; cases h
end
end Go.Proofs.YtjgdkiikkgdbaaaGreatDoor
namespace Go.Proofs.YtjgdkiikkgdbaaaGreatDoor
open Go Go.RowKit
set_option linter.unusedVariables false
end Go.Proofs.YtjgdkiikkgdbaaaGreatDoor
namespace Go.Proofs.YtjgdkiikkgdbaaaGreatDoor
open Go Go.RowKit
set_option linter.unusedVariables false
end Go.Proofs.YtjgdkiikkgdbaaaGreatDoor
