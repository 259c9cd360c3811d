/- Contracts of package bounds: slices.Min and Max; union. -/
import Derived.Test.YtficmdomnilhnaaGreatBoundsOpen
namespace Go.Proofs.YtficmdomnilhnaaGreat
open Go.RowKit
set_option linter.unusedVariables false
theorem pick_le {x : Nat → Nat} {c : Nat} {m : Bool} (h : ∀ i, x i ≤ c) (n : Nat) : pickN m x n ≤ c := pick_hi n (fun i _ => h i)
set_option maxRecDepth 20000 in
set_option maxHeartbeats 400000 in
theorem min_any (g n cap : Nat) (X : Nat → Nat) (hn : 1 ≤ n) (hn2 : n ≤ 1000) (w : World) (hc : ∀ j, j < n → w.cell? ⟨g, j, none⟩ = some (.int .i64 (X j : Nat))) :
    Calls Tryz.prog 138 #[.slice (some ⟨g, 0, none⟩) n cap] w fun e w' => e = .returned (.int .i64 (pickN false X (n - 1) : Nat)) ∧ w = w' := by
  obtain ⟨S, hS0, hSn, hSl⟩ : ∃ S : Nat → Nat, S 0 = X 0 ∧ (∀ j, S (j + 1) = min (S j) (X (j + 1))) ∧ ∀ j, S j = pickN false X j := ⟨fun j => pickN false X j, rfl, fun _ => rfl, fun _ => rfl⟩
  rw [← hSl]
  have HC := Lib.hid hc
  have HS0 := Lib.hid hS0
  have HSN := Lib.hid hSn
  have c0 := hc 0 (by omega)
  clear hS0 hSn hSl hc
  go_enter Tryz.func138, Tryz.ntmps138
  go_wp2
  go_loopw [3, 4] (fun m i wr => ∃ k : Nat, k + 1 ≤ n ∧ i = .int .i64 ((k : Nat) + 1) ∧ m = .int .i64 (S k : Nat) ∧ w = wr) (fun _ i _ => n - (intOf i).toNat)
  case atStart => exact ⟨0, by omega, by go_num, by rw [HS0.out], rfl⟩
  case round =>
    obtain ⟨k, hk, rfl, rfl, rfl⟩ := hrel
    by_cases hlt : k + 1 < n
    · have c1 := HC.out (k + 1) hlt
      have hN := HSN.out k
      obtain ⟨s, hs⟩ : ∃ s, S k = s := ⟨_, rfl⟩
      obtain ⟨x, hx⟩ : ∃ x, X (k + 1) = x := ⟨_, rfl⟩
      rw [hs, hx] at hN
      rw [hs]
      rw [hx] at c1
      have HN := Lib.hid hN
      clear hN hs hx
      go_wp2
      all_goals
        go_roundw
        case rel => exact ⟨k + 1, by omega, by go_num, by (rw [HN.out]; congr 1; omega), by first | rfl | trivial⟩
        case measure => simp [intOf]; omega
    · obtain rfl : n = k + 1 := by omega
      go_wp2
      go_ret
      exact ⟨rfl, rfl⟩
set_option maxRecDepth 20000 in
set_option maxHeartbeats 400000 in
theorem max_any (g n cap : Nat) (X : Nat → Nat) (hn : 1 ≤ n) (hn2 : n ≤ 1000) (w : World) (hc : ∀ j, j < n → w.cell? ⟨g, j, none⟩ = some (.int .i64 (X j : Nat))) :
    Calls Tryz.prog 139 #[.slice (some ⟨g, 0, none⟩) n cap] w fun e w' => e = .returned (.int .i64 (pickN true X (n - 1) : Nat)) ∧ w = w' := by
  obtain ⟨S, hS0, hSn, hSl⟩ : ∃ S : Nat → Nat, S 0 = X 0 ∧ (∀ j, S (j + 1) = max (S j) (X (j + 1))) ∧ ∀ j, S j = pickN true X j := ⟨fun j => pickN true X j, rfl, fun _ => rfl, fun _ => rfl⟩
  rw [← hSl]
  have HC := Lib.hid hc
  have HS0 := Lib.hid hS0
  have HSN := Lib.hid hSn
  have c0 := hc 0 (by omega)
  clear hS0 hSn hSl hc
  go_enter Tryz.func139, Tryz.ntmps139
  go_wp2
  go_loopw [3, 4] (fun m i wr => ∃ k : Nat, k + 1 ≤ n ∧ i = .int .i64 ((k : Nat) + 1) ∧ m = .int .i64 (S k : Nat) ∧ w = wr) (fun _ i _ => n - (intOf i).toNat)
  case atStart => exact ⟨0, by omega, by go_num, by rw [HS0.out], rfl⟩
  case round =>
    obtain ⟨k, hk, rfl, rfl, rfl⟩ := hrel
    by_cases hlt : k + 1 < n
    · have c1 := HC.out (k + 1) hlt
      have hN := HSN.out k
      obtain ⟨s, hs⟩ : ∃ s, S k = s := ⟨_, rfl⟩
      obtain ⟨x, hx⟩ : ∃ x, X (k + 1) = x := ⟨_, rfl⟩
      rw [hs, hx] at hN
      rw [hs]
      rw [hx] at c1
      have HN := Lib.hid hN
      clear hN hs hx
      go_wp2
      all_goals
        go_roundw
        case rel => exact ⟨k + 1, by omega, by go_num, by (rw [HN.out]; congr 1; omega), by first | rfl | trivial⟩
        case measure => simp [intOf]; omega
    · obtain rfl : n = k + 1 := by omega
      go_wp2
      go_ret
      exact ⟨rfl, rfl⟩
/-- the ends behind a tag, as a list -/
def unL (op : Bool) (a : Nat) (y : Nat → Nat) (j : Nat) : List Int := (List.range (j + (if op then 1 else 0))).map fun i => ((unX op a y i : Nat) : Int)
theorem unL_next (op : Bool) (a : Nat) (y : Nat → Nat) (j : Nat) : unL op a y (j + 1) = unL op a y j ++ [((y j : Nat) : Int)] := by
  unfold unL
  cases op with
  | true =>
    simp only [if_true]
    rw [List.range_succ (n := j + 1), List.map_append]
    simp [unX]
  | false =>
    simp only [Bool.false_eq_true, if_false, Nat.add_zero]
    rw [List.range_succ, List.map_append]
    simp [unX]
theorem unL_len (op : Bool) (a : Nat) (y : Nat → Nat) (j : Nat) : (unL op a y j).length = j + (if op then 1 else 0) := by unfold unL; simp
theorem unL_get {op : Bool} {a : Nat} {y : Nat → Nat} {j i : Nat} (h : i < j + (if op then 1 else 0)) : (unL op a y j).getD i 0 = ((unX op a y i : Nat) : Int) := by
  unfold unL
  rw [List.getD_eq_getElem?_getD, List.getElem?_map, List.getElem?_range h]; rfl
/-- the row of ends that is being made -/
def ISt (w0 : World) (v : Value) (l : List Int) (w : World) : Prop := w.ownsRow w0.heap.size 3 1 v l.length (l.map (Value.int .i64)) ∧ Below w0.heap.size w0 w
theorem ISt.start (w : World) : ISt w (.slice none 0 0) [] w := ⟨World.ownsRow_nil _ _ _ _, Below.refl _ _⟩
theorem ISt.keep {w0 : World} {v : Value} {l : List Int} {w w1 : World} (h : ISt w0 v l w) (hb : Below w.heap.size w w1) : ISt w0 v l w1 := ⟨row_keep h.1 hb, h.2.trans (hb.mono h.2.size)⟩
theorem ISt.next {w0 : World} {v v2 : Value} {l : List Int} {x : Int} {o : Obj} {w w2 : World} (h : ISt w0 v l w) (h2 : w2.ownsRow w0.heap.size 3 1 v2 (l.length + 1) (l.map (Value.int .i64) ++ [.int .i64 x])) (hg : (w.alloc o).grownBy w2 v.ownBlock) : ISt w0 v2 (l ++ [x]) w2 :=
  ⟨by simpa using h2, (h.2.alloc h.2.size o).grown hg (by have := h.2.size; simp; omega) (fun k hk => (h.1.lt k hk).1)⟩
theorem rowI_of {w : World} {base n : Nat} {v : Value} {l : List Int} (h : w.ownsRow base 3 1 v n (l.map (Value.int .i64))) (hn : 0 < n) : ∃ g cap, v = .slice (some ⟨g, 0, none⟩) n cap ∧ ∀ j, j < n → w.cell? ⟨g, j, none⟩ = some (.int .i64 (l.getD j 0)) := by
  obtain ⟨a, cap, rfl, hg⟩ := row_form h
  obtain ⟨g, rfl⟩ := hg hn
  exact ⟨g, cap, rfl, fun j hj => cell_int h j hj⟩
set_option maxRecDepth 20000 in
set_option maxHeartbeats 2000000 in
theorem union_any (br : Nat) (ao : Option Addr) (len cap : Nat) (L : Nat → TypeV) (least : Bool) (n : Nat) (K : Nat → Nat → Nat) (t : Nat) (P : Nat → Nat) (a : Nat) (hlen : len ≤ 1000000) (ht : t < len) (hP : ∀ j, j < (L t).ilen → ((L t).items j).type = (P j : Nat) ∧ P j < n) (ha : a ≤ 4000)
    (hn1 : 1 ≤ (L t).ilen) (hn2 : (L t).ilen ≤ 16) (hp : 0 ≤ (L t).tag ∧ (L t).tag < len) (w : World) (HL : ∀ i, i < len → TypeAt w ao i (L i)) (H : Rd br ao len cap least n K w) :
    Calls Tryz.prog 108 #[.pointer (some ⟨br, 0, none⟩), .int .i64 (t : Nat), .int .i64 (a : Nat)] w fun e w' => e = .returned (.int .i64 (unionE (!least) (openT L len t) a (fun j => endK K (P j) a) (L t).ilen : Nat)) ∧ Below w.heap.size w w' := by
  obtain ⟨i0, hi, hz0, hz1, hz2⟩ := info_parts infoInt
  have hopen := fun wx (hb : Below w.heap.size w wx) => isOpen_any ao len cap L t ht hp hlen wx (hold HL hb)
  have HT := Lib.hid (HL t ht)
  clear HL hp
  obtain ⟨T, hT⟩ : ∃ T, L t = T := ⟨_, rfl⟩
  rw [hT] at HT hP hn1 hn2 ⊢
  clear hT
  obtain ⟨op, hop⟩ : ∃ op, openT L len t = op := ⟨_, rfl⟩
  rw [hop] at hopen ⊢
  clear hop
  have HP := Lib.hid hP
  have HR := Lib.hid H
  have HO := Lib.hid hopen
  clear hP H hopen
  obtain ⟨ka, kc, hrch, _⟩ := HR.out
  have c0 := cell_at (j := 0) hrch rfl
  have HS0 := Lib.hid (ISt.start w)
  clear hrch
  cases op with
  | true =>
    obtain ⟨b, off, rfl, t0, t1, t2, t3, t4, t5, twf, til, tit⟩ := HT.out
    obtain ⟨ia, hia⟩ : ∃ ia, T.ia = ia := ⟨_, rfl⟩
    rw [hia] at t5 tit
    have HI := Lib.hid tit
    clear tit hia t0 t1 t2 t3 t4 twf
    have hopn := HO.out w (Below.refl _ _)
    have HOP := Lib.hid hopn
    have hU1 : unL true a (fun j => endK K (P j) a) 0 = [((a : Nat) : Int)] := rfl
    have HU1 := Lib.hid hU1
    clear hopn hU1
    go_enter Tryz.func108, Tryz.ntmps108
    go_upto_region 4 with (first
      | (go_at_call 137; refine HOP.out.mono ?_; rintro e w1 ⟨rfl, hb1⟩; have HSa := Lib.hid (HS0.out.keep hb1); have hszw := hb1.size; clear hb1)
      | (at_builtin; refine wpList_append_at rfl (.tmp 16) (.tmp 18) 66 rfl w.heap.size 3 i0 (.int .i64 0) 1 8 Tryz.underlying66 hi hz0 hz1 hz2 rfl (by decide) _ 0 _ rfl (HSa.out.1.alloc _) ⟨_, 0, none⟩ 1 1 [.int .i64 (a : Nat)] rfl rfl (fun j u hj => by match j, hj with | 0, hj => (simp at hj; subst hj; simp [Addr.add])) (fun u hu => by (simp at hu; subst hu; rfl)) (by unfold maxLen; omega) (by omega) (by simp at hszw ⊢ <;> omega) ?_; intro v2 w2 hown2 hg2 hf2; have HSb := Lib.hid (HSa.out.next hown2 hg2); clear hown2 hg2 hf2))
    have HS1 := Lib.hid (by rw [HU1.out]; exact HSb.out : ISt w v2 (unL true a (fun j => endK K (P j) a) 0) w2)
    have t5b := keep6 HS1.out.2 t5
    have c0b := keep6 HS1.out.2 c0
    clear t5 c0
    have t5 := t5b
    have c0 := c0b
    clear t5b c0b
    go_wp2
    clear c0 t5
    go_loopw [7, 29] (fun v i wr => ∃ j : Nat, j ≤ T.ilen ∧ i = .int .i64 j ∧ Hid (ISt w v (unL true a (fun j => endK K (P j) a) j) wr)) (fun _ i _ => T.ilen - (intOf i).toNat)
    case atStart => exact ⟨0, Nat.zero_le _, rfl, HS1⟩
    case round =>
      obtain ⟨j, hj, rfl, HQ⟩ := hrel
      by_cases hlt : j < T.ilen
      · obtain ⟨hp1, hp2⟩ := HP.out j hlt
        obtain ⟨b2, off2, rfl, e0, e1, e2, e3, e4, wi⟩ := (HI.out j hlt).held (w1 := wr) HQ.out.2
        have hal := (Below.refl wr.heap.size wr).alloc (Nat.le_refl _) (itmO (T.items j))
        have HQ3 := Lib.hid (HQ.out.keep hal)
        have he := endR_any br _ len cap least n K (P j) a hp2 ha _ (HR.out.held HQ3.out.2)
        rw [← hp1] at he
        have hNx := unL_next true a (fun j => endK K (P j) a) j
        have hle := endK_le K (P j) a
        have hln : (unL true a (fun j => endK K (P j) a) j).length ≤ 17 := by rw [unL_len]; simp; omega
        unfold itmO at HQ3 he
        obtain ⟨x, hx⟩ : ∃ x, endK K (P j) a = x := ⟨_, rfl⟩
        rw [hx] at he hNx hle
        have hszw := HQ3.out.2.size
        have HE := Lib.hid he
        have HN := Lib.hid hNx
        clear he hNx hal hp1 hx
        obtain ⟨wo, rfl⟩ : ∃ wo : World, wo = wr := ⟨_, rfl⟩
        go_wp2_with (first
          | (go_at_call 52; refine HE.out.mono ?_; rintro e w1 ⟨rfl, rfl⟩)
          | (at_builtin; refine wpList_append_at rfl (.tmp 33) (.tmp 39) 66 rfl w.heap.size 3 i0 (.int .i64 0) 1 8 Tryz.underlying66 hi hz0 hz1 hz2 rfl (by decide) _ _ _ rfl (HQ3.out.1.alloc _) ⟨_, 0, none⟩ 1 1 [.int .i64 (x : Nat)] rfl rfl (fun j u hj => by match j, hj with | 0, hj => (simp at hj; subst hj; simp [Addr.add])) (fun u hu => by (simp at hu; subst hu; rfl)) (by unfold maxLen; omega) (by omega) (by simp at hszw ⊢ <;> omega) ?_; intro v2 w2 hown2 hg2 hf2; have HQ4 := Lib.hid (HQ3.out.next (x := (x : Nat)) (by simpa using hown2) hg2); clear hown2 hg2 hf2))
        go_roundw
        case rel => exact ⟨j + 1, by omega, by go_num, by (rw [HN.out]; exact HQ4)⟩
        case measure => simp [intOf]; omega
      · obtain rfl : j = T.ilen := by omega
        have hrow := HQ.out.1
        rw [unL_len] at hrow
        obtain ⟨g, vc, rfl, hcs⟩ := rowI_of hrow (by omega)
        have hcs2 : ∀ i, i < T.ilen + (if true then 1 else 0) → wr.cell? ⟨g, i, none⟩ = some (.int .i64 (unX true a (fun j => endK K (P j) a) i : Nat)) := fun i hi => by rw [hcs i hi, unL_get hi]
        obtain ⟨ka, kc, hrch, _⟩ := HR.out.held HQ.out.2
        have c1 := cell_at (j := 1) hrch rfl
        have hfin : T.ilen + (if true then 1 else 0) - 1 = unN true T.ilen := by unfold unN; simp
        clear hrow hcs hrch
        cases least with
        | true =>
          have hm := min_any g _ vc _ (by omega) (by simp; omega) wr hcs2
          rw [hfin] at hm
          have HM := Lib.hid hm
          have HF := Lib.hid (show unionE (!true) true a (fun j => endK K (P j) a) T.ilen = pickN false (unX true a (fun j => endK K (P j) a)) (unN true T.ilen) from rfl)
          clear hm hcs2 hfin
          go_wp2_with (go_at_call 138; refine HM.out.mono ?_; rintro e w1 ⟨rfl, rfl⟩)
          go_ret
          exact ⟨by rw [HF.out]; rfl, HQ.out.2⟩
        | false =>
          have hm := max_any g _ vc _ (by omega) (by simp; omega) wr hcs2
          rw [hfin] at hm
          have HM := Lib.hid hm
          have HF := Lib.hid (show unionE (!false) true a (fun j => endK K (P j) a) T.ilen = pickN true (unX true a (fun j => endK K (P j) a)) (unN true T.ilen) from rfl)
          clear hm hcs2 hfin
          go_wp2_with (go_at_call 139; refine HM.out.mono ?_; rintro e w1 ⟨rfl, rfl⟩)
          go_ret
          exact ⟨by rw [HF.out]; rfl, HQ.out.2⟩
  | false =>
    obtain ⟨b, off, rfl, t0, t1, t2, t3, t4, t5, twf, til, tit⟩ := HT.out
    obtain ⟨ia, hia⟩ : ∃ ia, T.ia = ia := ⟨_, rfl⟩
    rw [hia] at t5 tit
    have HI := Lib.hid tit
    clear tit hia t0 t1 t2 t3 t4 twf
    have hopn := HO.out w (Below.refl _ _)
    have HOP := Lib.hid hopn
    clear hopn
    go_enter Tryz.func108, Tryz.ntmps108
    go_upto_region 4 with (go_at_call 137; refine HOP.out.mono ?_; rintro e w1 ⟨rfl, hb1⟩; have HS1 := Lib.hid (HS0.out.keep hb1); clear hb1)
    have t5b := keep6 HS1.out.2 t5
    have c0b := keep6 HS1.out.2 c0
    clear t5 c0
    have t5 := t5b
    have c0 := c0b
    clear t5b c0b
    go_wp2
    clear c0 t5
    go_loopw [7, 29] (fun v i wr => ∃ j : Nat, j ≤ T.ilen ∧ i = .int .i64 j ∧ Hid (ISt w v (unL false a (fun j => endK K (P j) a) j) wr)) (fun _ i _ => T.ilen - (intOf i).toNat)
    case atStart => exact ⟨0, Nat.zero_le _, rfl, HS1⟩
    case round =>
      obtain ⟨j, hj, rfl, HQ⟩ := hrel
      by_cases hlt : j < T.ilen
      · obtain ⟨hp1, hp2⟩ := HP.out j hlt
        obtain ⟨b2, off2, rfl, e0, e1, e2, e3, e4, wi⟩ := (HI.out j hlt).held (w1 := wr) HQ.out.2
        have hal := (Below.refl wr.heap.size wr).alloc (Nat.le_refl _) (itmO (T.items j))
        have HQ3 := Lib.hid (HQ.out.keep hal)
        have he := endR_any br _ len cap least n K (P j) a hp2 ha _ (HR.out.held HQ3.out.2)
        rw [← hp1] at he
        have hNx := unL_next false a (fun j => endK K (P j) a) j
        have hle := endK_le K (P j) a
        have hln : (unL false a (fun j => endK K (P j) a) j).length ≤ 17 := by rw [unL_len]; simp; omega
        unfold itmO at HQ3 he
        obtain ⟨x, hx⟩ : ∃ x, endK K (P j) a = x := ⟨_, rfl⟩
        rw [hx] at he hNx hle
        have hszw := HQ3.out.2.size
        have HE := Lib.hid he
        have HN := Lib.hid hNx
        clear he hNx hal hp1 hx
        obtain ⟨wo, rfl⟩ : ∃ wo : World, wo = wr := ⟨_, rfl⟩
        go_wp2_with (first
          | (go_at_call 52; refine HE.out.mono ?_; rintro e w1 ⟨rfl, rfl⟩)
          | (at_builtin; refine wpList_append_at rfl (.tmp 33) (.tmp 39) 66 rfl w.heap.size 3 i0 (.int .i64 0) 1 8 Tryz.underlying66 hi hz0 hz1 hz2 rfl (by decide) _ _ _ rfl (HQ3.out.1.alloc _) ⟨_, 0, none⟩ 1 1 [.int .i64 (x : Nat)] rfl rfl (fun j u hj => by match j, hj with | 0, hj => (simp at hj; subst hj; simp [Addr.add])) (fun u hu => by (simp at hu; subst hu; rfl)) (by unfold maxLen; omega) (by omega) (by simp at hszw ⊢ <;> omega) ?_; intro v2 w2 hown2 hg2 hf2; have HQ4 := Lib.hid (HQ3.out.next (x := (x : Nat)) (by simpa using hown2) hg2); clear hown2 hg2 hf2))
        go_roundw
        case rel => exact ⟨j + 1, by omega, by go_num, by (rw [HN.out]; exact HQ4)⟩
        case measure => simp [intOf]; omega
      · obtain rfl : j = T.ilen := by omega
        have hrow := HQ.out.1
        rw [unL_len] at hrow
        obtain ⟨g, vc, rfl, hcs⟩ := rowI_of hrow (by omega)
        have hcs2 : ∀ i, i < T.ilen + (if false then 1 else 0) → wr.cell? ⟨g, i, none⟩ = some (.int .i64 (unX false a (fun j => endK K (P j) a) i : Nat)) := fun i hi => by rw [hcs i hi, unL_get hi]
        obtain ⟨ka, kc, hrch, _⟩ := HR.out.held HQ.out.2
        have c1 := cell_at (j := 1) hrch rfl
        have hfin : T.ilen + (if false then 1 else 0) - 1 = unN false T.ilen := by unfold unN; simp
        clear hrow hcs hrch
        cases least with
        | true =>
          have hm := min_any g _ vc _ (by omega) (by simp; omega) wr hcs2
          rw [hfin] at hm
          have HM := Lib.hid hm
          have HF := Lib.hid (show unionE (!true) false a (fun j => endK K (P j) a) T.ilen = pickN false (unX false a (fun j => endK K (P j) a)) (unN false T.ilen) from rfl)
          clear hm hcs2 hfin
          go_wp2_with (go_at_call 138; refine HM.out.mono ?_; rintro e w1 ⟨rfl, rfl⟩)
          go_ret
          exact ⟨by rw [HF.out]; rfl, HQ.out.2⟩
        | false =>
          have hm := max_any g _ vc _ (by omega) (by simp; omega) wr hcs2
          rw [hfin] at hm
          have HM := Lib.hid hm
          have HF := Lib.hid (show unionE (!false) false a (fun j => endK K (P j) a) T.ilen = pickN true (unX false a (fun j => endK K (P j) a)) (unN false T.ilen) from rfl)
          clear hm hcs2 hfin
          go_wp2_with (go_at_call 139; refine HM.out.mono ?_; rintro e w1 ⟨rfl, rfl⟩)
          go_ret
          exact ⟨by rw [HF.out]; rfl, HQ.out.2⟩
end Go.Proofs.YtficmdomnilhnaaGreat
namespace Go.Proofs.YtficmdomnilhnaaGreat
open Go.RowKit
set_option linter.unusedVariables false
theorem BoxT.drew {g : Nat} {T : TypeV} {w0 w : World} (h : BoxT g T w0 w) : BoxT g T w0 w.drew := ⟨h.1, h.2.drew⟩
theorem step10 {L : Nat → TypeV} {op : Nat → Bool} {most : Bool} {E : Nat → Nat → Nat} {t a : Nat} (h : (L t).kind = 10) : stepE L op most E t a = numE 4 a + cntE most (L t) + 1 := by unfold stepE; rw [if_pos h]
theorem step11 {L : Nat → TypeV} {op : Nat → Bool} {most : Bool} {E : Nat → Nat → Nat} {t a : Nat} (h : (L t).kind = 11) : stepE L op most E t a = seqE (fun _ => E (L t).of.toNat) (cntE most (L t)) (numE 4 a) := by unfold stepE; rw [if_neg (by omega), if_pos h]
theorem step12 {L : Nat → TypeV} {op : Nat → Bool} {most : Bool} {E : Nat → Nat → Nat} {t a : Nat} (h : (L t).kind = 12) : stepE L op most E t a = seqE (fun _ => E (L t).of.toNat) (L t).bound.toNat a := by unfold stepE; rw [if_neg (by omega), if_neg (by omega), if_pos h]
theorem step13 {L : Nat → TypeV} {op : Nat → Bool} {most : Bool} {E : Nat → Nat → Nat} {t a : Nat} (h : (L t).kind = 13) : stepE L op most E t a = seqE (ptE E (L t)) (L t).ilen a := by unfold stepE; rw [if_neg (by omega), if_neg (by omega), if_neg (by omega), if_pos h]
theorem step14 {L : Nat → TypeV} {op : Nat → Bool} {most : Bool} {E : Nat → Nat → Nat} {t a : Nat} (h : (L t).kind = 14) : stepE L op most E t a = unionE most (op t) (E (L t).tag.toNat a) (fun j => ptE E (L t) j (E (L t).tag.toNat a)) (L t).ilen := by
  unfold stepE; rw [if_neg (by omega), if_neg (by omega), if_neg (by omega), if_neg (by omega), if_pos h]
theorem stepN {L : Nat → TypeV} {op : Nat → Bool} {most : Bool} {E : Nat → Nat → Nat} {t a : Nat} (h : (L t).kind < 10 ∨ 14 < (L t).kind) : stepE L op most E t a = numE (szK (L t).kind).toNat a := by
  unfold stepE; rw [if_neg (by omega), if_neg (by omega), if_neg (by omega), if_neg (by omega), if_neg (by omega)]
theorem cnt_some {least : Bool} {T : TypeV} (h : T.kind ≠ 12) (hb : 0 ≤ T.bound ∧ T.bound ≤ 64) : cntC least T = (cntE (!least) T : Nat) ∧ cntE (!least) T ≤ 64 := by
  have hk : (T.kind != 12) = true := by simp; exact h
  unfold cntC cntE
  rw [hk]
  cases least
  · simp; omega
  · simp
theorem cnt_all {least : Bool} {T : TypeV} (h : T.kind = 12) (hb : 0 ≤ T.bound ∧ T.bound ≤ 64) : cntC least T = (T.bound.toNat : Nat) ∧ T.bound.toNat ≤ 64 := by
  have hk : (T.kind != 12) = false := by simp; exact h
  unfold cntC
  rw [hk]
  cases least <;> simp <;> omega
set_option maxRecDepth 20000 in
set_option maxHeartbeats 1000000 in
theorem measure_10 (br : Nat) (ao : Option Addr) (len cap : Nat) (L : Nat → TypeV) (least : Bool) (K : Nat → Nat → Nat) (t a : Nat) (hlen : len ≤ 1000000) (ht : t < len) (hok : OkT L t) (hk : (L t).kind = 10) (ha : a ≤ 7) (w : World)
    (HL : ∀ i, i < len → TypeAt w ao i (L i)) (H : Rd br ao len cap least t K w) :
    Calls Tryz.prog 75 #[.pointer (some ⟨br, 0, none⟩), .int .i64 (t : Nat), .int .i64 (a : Nat)] w fun e w' => e = .returned (.int .i64 (stepE L (openT L len) (!least) (endK K) t a : Nat)) ∧ Below w.heap.size w w' := by
  rw [step10 hk]
  have hcn := cnt_some (least := least) (T := L t) (by omega) (hok.bound (.inl hk))
  obtain ⟨hcn1, hcn2⟩ := hcn
  obtain ⟨c, hc⟩ : ∃ c, cntE (!least) (L t) = c := ⟨_, rfl⟩
  rw [hc] at hcn1 hcn2 ⊢
  have hcall := fun wx (hb : Below w.heap.size w wx) => count_any br ao len cap least t K (L t) wx (H.held hb)
  rw [hcn1] at hcall
  have h4 := numE4_le a
  have hbh := fun wx => behind_any a 4 (by unfold SzN; omega) (by omega) wx
  obtain ⟨m, hm⟩ : ∃ m, numE 4 a = m := ⟨_, rfl⟩
  rw [hm] at h4 hbh ⊢
  clear hcn1 hc hm
  obtain ⟨b, off, rfl, t0, t1, t2, t3, t4, t5, twf, tis⟩ := HL t ht
  obtain ⟨ka, kc, hrch, _⟩ := H
  have c0 := cell_at (j := 0) hrch rfl
  obtain ⟨T, hT⟩ : ∃ T, L t = T := ⟨_, rfl⟩
  rw [hT] at t0 t1 t2 t3 t4 t5 hk hcall
  have hst := BoxT.start T w
  have hcl := (BoxT.start T w).cells
  obtain ⟨d0, d1, d2, d3, d4, d5⟩ := hcl
  unfold typO at hst d0 d1 d2 d3 d4 d5
  have HX := Lib.hid hst
  have hbl : b < w.heap.size := World.block_lt_of_cell? w _ t0
  clear hst hT hok hrch HL twf tis
  have k10 : (T.kind == 10) = true := by simp; omega
  clear hk
  go_enter Tryz.func75, Tryz.ntmps75
  go_upto_region 2 with (fail)
  generalize (w.alloc (.cells #[.int .i64 T.kind, .string T.name, .int .i64 T.bound, .int .i64 T.of, .int .i64 T.tag, .slice T.ia T.ilen T.icap] 47)) = wb at *
  clear t0 t1 t2 t3 t4 t5 c0
  unfold typV at hcall
  have HC := Lib.hid hcall
  have HB := Lib.hid hbh
  clear hcall hbh
  go_wp2_with fail
  go_region_held3 (fun w' => w'.cell? ⟨w.heap.size, 0, none⟩ = some (.int .i64 T.kind) ∧ w'.cell? ⟨w.heap.size, 1, none⟩ = some (.string T.name) ∧ w'.cell? ⟨w.heap.size, 2, none⟩ = some (.int .i64 T.bound) ∧ w'.cell? ⟨w.heap.size, 3, none⟩ = some (.int .i64 T.of) ∧ w'.cell? ⟨w.heap.size, 4, none⟩ = some (.int .i64 T.tag) ∧ w'.cell? ⟨w.heap.size, 5, none⟩ = some (.slice T.ia T.ilen T.icap) ∧ Hid (BoxT w.heap.size T w w'))
    (first | exact ⟨d0, d1, d2, d3, d4, d5, HX⟩ | exact ⟨d0, d1, d2, d3, d4, d5, Lib.hid HX.out.drew⟩ | fail)
    (first
      | (go_at_call 104; refine (HB.out _).mono ?_; rintro e w3 ⟨rfl, rfl⟩)
      | (go_at_call 105; refine (HC.out _ (by first | exact HX.out.2 | exact HX.out.2.drew)).mono ?_; rintro e w3 ⟨rfl, hb3⟩; have HX := Lib.hid (BoxT.keep (by first | exact HX.out | exact HX.out.drew) hb3); obtain ⟨d0, d1, d2, d3, d4, d5⟩ := HX.out.cells; clear hb3))
  go_wp2
  go_ret
  have hw1 : IntKind.i64.wrap ((m : Nat) + (c : Nat) : Int) = (m : Nat) + (c : Nat) := IntWalk.i64_in _ (by omega)
  have hw2 : IntKind.i64.wrap ((m : Nat) + (c : Nat) + 1 : Int) = (m : Nat) + (c : Nat) + 1 := IntWalk.i64_in _ (by omega)
  exact ⟨ret_i (by rw [hw1, hw2]; omega), by first | exact HX.out.2 | exact HX.out.2.drew⟩
set_option maxRecDepth 20000 in
set_option maxHeartbeats 1000000 in
theorem measure_11 (br : Nat) (ao : Option Addr) (len cap : Nat) (L : Nat → TypeV) (least : Bool) (K : Nat → Nat → Nat) (t a : Nat) (hlen : len ≤ 1000000) (ht : t < len) (hok : OkT L t) (hk : (L t).kind = 11) (ha : a ≤ 7) (w : World)
    (HL : ∀ i, i < len → TypeAt w ao i (L i)) (H : Rd br ao len cap least t K w) :
    Calls Tryz.prog 75 #[.pointer (some ⟨br, 0, none⟩), .int .i64 (t : Nat), .int .i64 (a : Nat)] w fun e w' => e = .returned (.int .i64 (stepE L (openT L len) (!least) (endK K) t a : Nat)) ∧ Below w.heap.size w w' := by
  rw [step11 hk]
  have hcn := cnt_some (least := least) (T := L t) (by omega) (hok.bound (.inr (.inl hk)))
  obtain ⟨hcn1, hcn2⟩ := hcn
  obtain ⟨c, hc⟩ : ∃ c, cntE (!least) (L t) = c := ⟨_, rfl⟩
  rw [hc] at hcn1 hcn2 ⊢
  have h4 := numE4_le a
  have hbh := fun wx => behind_any a 4 (by unfold SzN; omega) (by omega) wx
  obtain ⟨m, hm⟩ : ∃ m, numE 4 a = m := ⟨_, rfl⟩
  rw [hm] at h4 hbh ⊢
  have ho := hok.of (.inl hk)
  have hcall := fun wx (hb : Below w.heap.size w wx) => elements_any br ao len cap least t K (L t) (L t).of.toNat c m (by omega) (by omega) hcn1 hcn2 (by omega) wx (H.held hb)
  obtain ⟨q, hq⟩ : ∃ q, seqE (fun _ => endK K (L t).of.toNat) c m = q := ⟨_, rfl⟩
  rw [hq] at hcall ⊢
  clear hcn1 hc hm hq ho
  obtain ⟨b, off, rfl, t0, t1, t2, t3, t4, t5, twf, tis⟩ := HL t ht
  obtain ⟨ka, kc, hrch, _⟩ := H
  have c0 := cell_at (j := 0) hrch rfl
  obtain ⟨T, hT⟩ : ∃ T, L t = T := ⟨_, rfl⟩
  rw [hT] at t0 t1 t2 t3 t4 t5 hk hcall
  have hst := BoxT.start T w
  have hcl := (BoxT.start T w).cells
  obtain ⟨d0, d1, d2, d3, d4, d5⟩ := hcl
  unfold typO at hst d0 d1 d2 d3 d4 d5
  have HX := Lib.hid hst
  have hbl : b < w.heap.size := World.block_lt_of_cell? w _ t0
  clear hst hT hok hrch HL twf tis
  have k10 : (T.kind == 10) = false := by simp; omega
  have k11 : (T.kind == 11) = true := by simp; omega
  clear hk
  go_enter Tryz.func75, Tryz.ntmps75
  go_upto_region 2 with (fail)
  generalize (w.alloc (.cells #[.int .i64 T.kind, .string T.name, .int .i64 T.bound, .int .i64 T.of, .int .i64 T.tag, .slice T.ia T.ilen T.icap] 47)) = wb at *
  clear t0 t1 t2 t3 t4 t5 c0
  unfold typV at hcall
  have HC := Lib.hid hcall
  have HB := Lib.hid hbh
  clear hcall hbh
  go_wp2_with fail
  go_region_held3 (fun w' => w'.cell? ⟨w.heap.size, 0, none⟩ = some (.int .i64 T.kind) ∧ w'.cell? ⟨w.heap.size, 1, none⟩ = some (.string T.name) ∧ w'.cell? ⟨w.heap.size, 2, none⟩ = some (.int .i64 T.bound) ∧ w'.cell? ⟨w.heap.size, 3, none⟩ = some (.int .i64 T.of) ∧ w'.cell? ⟨w.heap.size, 4, none⟩ = some (.int .i64 T.tag) ∧ w'.cell? ⟨w.heap.size, 5, none⟩ = some (.slice T.ia T.ilen T.icap) ∧ Hid (BoxT w.heap.size T w w'))
    (first | exact ⟨d0, d1, d2, d3, d4, d5, HX⟩ | exact ⟨d0, d1, d2, d3, d4, d5, Lib.hid HX.out.drew⟩ | fail)
    (first
      | (go_at_call 104; refine (HB.out _).mono ?_; rintro e w3 ⟨rfl, rfl⟩)
      | (go_at_call 106; refine (HC.out _ (by first | exact HX.out.2 | exact HX.out.2.drew)).mono ?_; rintro e w3 ⟨rfl, hb3⟩; have HX := Lib.hid (BoxT.keep (by first | exact HX.out | exact HX.out.drew) hb3); obtain ⟨d0, d1, d2, d3, d4, d5⟩ := HX.out.cells; clear hb3))
  go_wp2
  go_ret
  exact ⟨rfl, by first | exact HX.out.2 | exact HX.out.2.drew⟩
set_option maxRecDepth 20000 in
set_option maxHeartbeats 1000000 in
theorem measure_12 (br : Nat) (ao : Option Addr) (len cap : Nat) (L : Nat → TypeV) (least : Bool) (K : Nat → Nat → Nat) (t a : Nat) (hlen : len ≤ 1000000) (ht : t < len) (hok : OkT L t) (hk : (L t).kind = 12) (ha : a ≤ 7) (w : World)
    (HL : ∀ i, i < len → TypeAt w ao i (L i)) (H : Rd br ao len cap least t K w) :
    Calls Tryz.prog 75 #[.pointer (some ⟨br, 0, none⟩), .int .i64 (t : Nat), .int .i64 (a : Nat)] w fun e w' => e = .returned (.int .i64 (stepE L (openT L len) (!least) (endK K) t a : Nat)) ∧ Below w.heap.size w w' := by
  rw [step12 hk]
  have hcn := cnt_all (least := least) (T := L t) hk (hok.bound (.inr (.inr hk)))
  obtain ⟨hcn1, hcn2⟩ := hcn
  have ho := hok.of (.inr hk)
  have hcall := fun wx (hb : Below w.heap.size w wx) => elements_any br ao len cap least t K (L t) (L t).of.toNat (L t).bound.toNat a (by omega) (by omega) hcn1 hcn2 (by omega) wx (H.held hb)
  obtain ⟨q, hq⟩ : ∃ q, seqE (fun _ => endK K (L t).of.toNat) (L t).bound.toNat a = q := ⟨_, rfl⟩
  rw [hq] at hcall ⊢
  clear hcn1 hcn2 hq ho
  obtain ⟨b, off, rfl, t0, t1, t2, t3, t4, t5, twf, tis⟩ := HL t ht
  obtain ⟨ka, kc, hrch, _⟩ := H
  have c0 := cell_at (j := 0) hrch rfl
  obtain ⟨T, hT⟩ : ∃ T, L t = T := ⟨_, rfl⟩
  rw [hT] at t0 t1 t2 t3 t4 t5 hk hcall
  have hst := BoxT.start T w
  have hcl := (BoxT.start T w).cells
  obtain ⟨d0, d1, d2, d3, d4, d5⟩ := hcl
  unfold typO at hst d0 d1 d2 d3 d4 d5
  have HX := Lib.hid hst
  have hbl : b < w.heap.size := World.block_lt_of_cell? w _ t0
  clear hst hT hok hrch HL twf tis
  have k10 : (T.kind == 10) = false := by simp; omega
  have k11 : (T.kind == 11) = false := by simp; omega
  have k12 : (T.kind == 12) = true := by simp; omega
  clear hk
  go_enter Tryz.func75, Tryz.ntmps75
  go_upto_region 2 with (fail)
  generalize (w.alloc (.cells #[.int .i64 T.kind, .string T.name, .int .i64 T.bound, .int .i64 T.of, .int .i64 T.tag, .slice T.ia T.ilen T.icap] 47)) = wb at *
  clear t0 t1 t2 t3 t4 t5 c0
  unfold typV at hcall
  have HC := Lib.hid hcall
  clear hcall
  go_wp2_with (go_at_call 106; refine (HC.out _ HX.out.2).mono ?_; rintro e w3 ⟨rfl, hb3⟩; have HX := Lib.hid (HX.out.keep hb3); clear hb3)
  go_ret
  exact ⟨rfl, HX.out.2⟩
set_option maxRecDepth 20000 in
set_option maxHeartbeats 1000000 in
theorem measure_13 (br : Nat) (ao : Option Addr) (len cap : Nat) (L : Nat → TypeV) (least : Bool) (K : Nat → Nat → Nat) (t a : Nat) (hlen : len ≤ 1000000) (ht : t < len) (hok : OkT L t) (hk : (L t).kind = 13) (ha : a ≤ 7) (w : World)
    (HL : ∀ i, i < len → TypeAt w ao i (L i)) (H : Rd br ao len cap least t K w) :
    Calls Tryz.prog 75 #[.pointer (some ⟨br, 0, none⟩), .int .i64 (t : Nat), .int .i64 (a : Nat)] w fun e w' => e = .returned (.int .i64 (stepE L (openT L len) (!least) (endK K) t a : Nat)) ∧ Below w.heap.size w w' := by
  rw [step13 hk]
  have hit := hok.items (.inl hk)
  have hIs : ItemsAt w (L t) := by obtain ⟨_, _, _, _, _, _, _, _, _, _, hIs⟩ := HL t ht; exact hIs
  have hcall := fun wx (hb : Below w.heap.size w wx) => fields_any br ao len cap least t K (L t) (fun j => ((L t).items j).type.toNat) a (fun j hj => by have := hit j hj; omega) (by omega) wx (hIs.held hb) (H.held hb)
  have hq0 : seqE (ptE (endK K) (L t)) (L t).ilen a = seqE (fun j => endK K ((L t).items j).type.toNat) (L t).ilen a := rfl
  rw [hq0]
  obtain ⟨q, hq⟩ : ∃ q, seqE (fun j => endK K ((L t).items j).type.toNat) (L t).ilen a = q := ⟨_, rfl⟩
  rw [hq] at hcall ⊢
  clear hq hit hIs hq0
  obtain ⟨b, off, rfl, t0, t1, t2, t3, t4, t5, twf, tis⟩ := HL t ht
  obtain ⟨ka, kc, hrch, _⟩ := H
  have c0 := cell_at (j := 0) hrch rfl
  obtain ⟨T, hT⟩ : ∃ T, L t = T := ⟨_, rfl⟩
  rw [hT] at t0 t1 t2 t3 t4 t5 hk hcall
  have hst := BoxT.start T w
  have hcl := (BoxT.start T w).cells
  obtain ⟨d0, d1, d2, d3, d4, d5⟩ := hcl
  unfold typO at hst d0 d1 d2 d3 d4 d5
  have HX := Lib.hid hst
  have hbl : b < w.heap.size := World.block_lt_of_cell? w _ t0
  clear hst hT hok hrch HL twf tis
  have k10 : (T.kind == 10) = false := by simp; omega
  have k11 : (T.kind == 11) = false := by simp; omega
  have k12 : (T.kind == 12) = false := by simp; omega
  have k13 : (T.kind == 13) = true := by simp; omega
  clear hk
  go_enter Tryz.func75, Tryz.ntmps75
  go_upto_region 2 with (fail)
  generalize (w.alloc (.cells #[.int .i64 T.kind, .string T.name, .int .i64 T.bound, .int .i64 T.of, .int .i64 T.tag, .slice T.ia T.ilen T.icap] 47)) = wb at *
  clear t0 t1 t2 t3 t4 t5 c0
  unfold typV at hcall
  have HC := Lib.hid hcall
  clear hcall
  go_wp2_with (go_at_call 107; refine (HC.out _ HX.out.2).mono ?_; rintro e w3 ⟨rfl, hb3⟩; have HX := Lib.hid (HX.out.keep hb3); clear hb3)
  go_ret
  exact ⟨rfl, HX.out.2⟩
set_option maxRecDepth 20000 in
set_option maxHeartbeats 1000000 in
theorem measure_14 (br : Nat) (ao : Option Addr) (len cap : Nat) (L : Nat → TypeV) (least : Bool) (K : Nat → Nat → Nat) (t a : Nat) (hlen : len ≤ 1000000) (ht : t < len) (hok : OkT L t) (hk : (L t).kind = 14) (ha : a ≤ 7) (w : World)
    (HL : ∀ i, i < len → TypeAt w ao i (L i)) (H : Rd br ao len cap least t K w) :
    Calls Tryz.prog 75 #[.pointer (some ⟨br, 0, none⟩), .int .i64 (t : Nat), .int .i64 (a : Nat)] w fun e w' => e = .returned (.int .i64 (stepE L (openT L len) (!least) (endK K) t a : Nat)) ∧ Below w.heap.size w w' := by
  rw [step14 hk]
  have hit := hok.items (.inr hk)
  have htg := hok.tag hk
  have hcn := hok.count (.inr hk)
  have hend := fun wx (hb : Below w.heap.size w wx) => endR_any br ao len cap least t K (L t).tag.toNat a (by omega) (by omega) wx (H.held hb)
  have hle := endK_le K (L t).tag.toNat a
  have htt : (((L t).tag.toNat : Nat) : Int) = (L t).tag := by omega
  rw [htt] at hend
  obtain ⟨m, hm⟩ : ∃ m, endK K (L t).tag.toNat a = m := ⟨_, rfl⟩
  rw [hm] at hle hend ⊢
  have hcall := fun wx (hb : Below w.heap.size w wx) => union_any br ao len cap L least t K t (fun j => ((L t).items j).type.toNat) m hlen ht (fun j hj => by have := hit j hj; omega) (by omega) hcn.1 hcn.2 (by omega) wx (hold HL hb) (H.held hb)
  have hq0 : unionE (!least) (openT L len t) m (fun j => ptE (endK K) (L t) j m) (L t).ilen = unionE (!least) (openT L len t) m (fun j => endK K ((L t).items j).type.toNat m) (L t).ilen := rfl
  rw [hq0]
  obtain ⟨q, hq⟩ : ∃ q, unionE (!least) (openT L len t) m (fun j => endK K ((L t).items j).type.toNat m) (L t).ilen = q := ⟨_, rfl⟩
  rw [hq] at hcall ⊢
  clear hq hit htg hcn hq0 hm htt
  obtain ⟨b, off, rfl, t0, t1, t2, t3, t4, t5, twf, tis⟩ := HL t ht
  obtain ⟨ka, kc, hrch, _⟩ := H
  have c0 := cell_at (j := 0) hrch rfl
  obtain ⟨T, hT⟩ : ∃ T, L t = T := ⟨_, rfl⟩
  rw [hT] at t0 t1 t2 t3 t4 t5 hk hend
  have hst := BoxT.start T w
  have hcl := (BoxT.start T w).cells
  obtain ⟨d0, d1, d2, d3, d4, d5⟩ := hcl
  unfold typO at hst d0 d1 d2 d3 d4 d5
  have HX := Lib.hid hst
  have hbl : b < w.heap.size := World.block_lt_of_cell? w _ t0
  clear hst hT hok hrch HL twf tis
  have k10 : (T.kind == 10) = false := by simp; omega
  have k11 : (T.kind == 11) = false := by simp; omega
  have k12 : (T.kind == 12) = false := by simp; omega
  have k13 : (T.kind == 13) = false := by simp; omega
  have k14 : (T.kind == 14) = true := by simp; omega
  clear hk
  go_enter Tryz.func75, Tryz.ntmps75
  go_upto_region 2 with (fail)
  generalize (w.alloc (.cells #[.int .i64 T.kind, .string T.name, .int .i64 T.bound, .int .i64 T.of, .int .i64 T.tag, .slice T.ia T.ilen T.icap] 47)) = wb at *
  clear t0 t1 t2 t3 t4 t5 c0
  have HC := Lib.hid hcall
  have HE := Lib.hid hend
  clear hcall hend
  go_wp2_with (first
    | (go_at_call 52; refine (HE.out _ HX.out.2).mono ?_; rintro e w3 ⟨rfl, rfl⟩)
    | (go_at_call 108; refine (HC.out _ HX.out.2).mono ?_; rintro e w3 ⟨rfl, hb3⟩; have HX := Lib.hid (HX.out.keep hb3); clear hb3))
  go_ret
  exact ⟨rfl, HX.out.2⟩
set_option maxRecDepth 20000 in
set_option maxHeartbeats 1000000 in
theorem measure_num (br : Nat) (ao : Option Addr) (len cap : Nat) (L : Nat → TypeV) (least : Bool) (K : Nat → Nat → Nat) (t a : Nat) (hlen : len ≤ 1000000) (ht : t < len) (hok : OkT L t) (hk : (L t).kind < 10 ∨ 14 < (L t).kind) (ha : a ≤ 7) (w : World)
    (HL : ∀ i, i < len → TypeAt w ao i (L i)) (H : Rd br ao len cap least t K w) :
    Calls Tryz.prog 75 #[.pointer (some ⟨br, 0, none⟩), .int .i64 (t : Nat), .int .i64 (a : Nat)] w fun e w' => e = .returned (.int .i64 (stepE L (openT L len) (!least) (endK K) t a : Nat)) ∧ Below w.heap.size w w' := by
  rw [stepN hk]
  have hkk := hok.kind
  have hn : numK (L t).kind = true := by unfold numK; simp; omega
  obtain ⟨hs, hs0⟩ := szN_of hn
  have hbh := fun wx => behind_any a (szK (L t).kind).toNat hs (by omega) wx
  have htt : (((szK (L t).kind).toNat : Nat) : Int) = szK (L t).kind := by omega
  rw [htt] at hbh
  obtain ⟨q, hq⟩ : ∃ q, numE (szK (L t).kind).toNat a = q := ⟨_, rfl⟩
  rw [hq] at hbh ⊢
  clear hq htt hs hs0 hn hkk
  obtain ⟨b, off, rfl, t0, t1, t2, t3, t4, t5, twf, tis⟩ := HL t ht
  obtain ⟨ka, kc, hrch, _⟩ := H
  have c0 := cell_at (j := 0) hrch rfl
  obtain ⟨T, hT⟩ : ∃ T, L t = T := ⟨_, rfl⟩
  rw [hT] at t0 t1 t2 t3 t4 t5 hk hbh
  have hst := BoxT.start T w
  have hcl := (BoxT.start T w).cells
  obtain ⟨d0, d1, d2, d3, d4, d5⟩ := hcl
  unfold typO at hst d0 d1 d2 d3 d4 d5
  have HX := Lib.hid hst
  have hbl : b < w.heap.size := World.block_lt_of_cell? w _ t0
  clear hst hT hok hrch HL twf tis
  have k10 : (T.kind == 10) = false := by simp; omega
  have k11 : (T.kind == 11) = false := by simp; omega
  have k12 : (T.kind == 12) = false := by simp; omega
  have k13 : (T.kind == 13) = false := by simp; omega
  have k14 : (T.kind == 14) = false := by simp; omega
  clear hk
  go_enter Tryz.func75, Tryz.ntmps75
  go_upto_region 2 with (fail)
  generalize (w.alloc (.cells #[.int .i64 T.kind, .string T.name, .int .i64 T.bound, .int .i64 T.of, .int .i64 T.tag, .slice T.ia T.ilen T.icap] 47)) = wb at *
  clear t0 t1 t2 t3 t4 t5 c0
  have HB := Lib.hid hbh
  clear hbh
  go_wp2_with (first
    | (go_at_call 80; refine (size_any _ _).mono ?_; rintro e w3 ⟨rfl, hb3⟩; have HX := Lib.hid (HX.out.keep hb3); clear hb3)
    | (go_at_call 104; refine (HB.out _).mono ?_; rintro e w3 ⟨rfl, rfl⟩))
  go_ret
  exact ⟨rfl, HX.out.2⟩
theorem measure_any (br : Nat) (ao : Option Addr) (len cap : Nat) (L : Nat → TypeV) (least : Bool) (K : Nat → Nat → Nat) (t a : Nat) (hlen : len ≤ 1000000) (ht : t < len) (hok : OkT L t) (ha : a ≤ 7) (w : World)
    (HL : ∀ i, i < len → TypeAt w ao i (L i)) (H : Rd br ao len cap least t K w) :
    Calls Tryz.prog 75 #[.pointer (some ⟨br, 0, none⟩), .int .i64 (t : Nat), .int .i64 (a : Nat)] w fun e w' => e = .returned (.int .i64 (stepE L (openT L len) (!least) (endK K) t a : Nat)) ∧ Below w.heap.size w w' := by
  by_cases h10 : (L t).kind = 10
  · exact measure_10 br ao len cap L least K t a hlen ht hok h10 ha w HL H
  by_cases h11 : (L t).kind = 11
  · exact measure_11 br ao len cap L least K t a hlen ht hok h11 ha w HL H
  by_cases h12 : (L t).kind = 12
  · exact measure_12 br ao len cap L least K t a hlen ht hok h12 ha w HL H
  by_cases h13 : (L t).kind = 13
  · exact measure_13 br ao len cap L least K t a hlen ht hok h13 ha w HL H
  by_cases h14 : (L t).kind = 14
  · exact measure_14 br ao len cap L least K t a hlen ht hok h14 ha w HL H
  · exact measure_num br ao len cap L least K t a hlen ht hok (by omega) ha w HL H
end Go.Proofs.YtficmdomnilhnaaGreat
