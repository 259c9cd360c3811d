/- Contract of package bounds: learn. -/
import Derived.Test.YtficmdomnilhnaaGreatBoundsMeas
import Derived.Deep.AppendLies
import Derived.Test.YtficmdomnilhnaaGreatRegionPre
namespace Go.Proofs.YtficmdomnilhnaaGreat
open Go.RowKit
set_option linter.unusedVariables false
theorem infoEnds : (Tryz.prog.info? 116).map (fun i => (i.zero, i.size, i.bytes)) = some (some (.agg #[.int .i64 0, .int .i64 0, .int .i64 0, .int .i64 0, .int .i64 0, .int .i64 0, .int .i64 0, .int .i64 0]), 8, 64) := by kernel_rfl
def endXs (K : Nat → Nat → Nat) (i : Nat) : List Value := (List.range 8).map fun r => .int .i64 (K i r : Nat)
def knownXs (K : Nat → Nat → Nat) (n : Nat) : List Value := (List.range (n * 8)).map fun i => .int .i64 (K (i / 8) (i % 8) : Nat)
theorem knownXs_next (K : Nat → Nat → Nat) (n : Nat) : knownXs K (n + 1) = knownXs K n ++ endXs K n := by
  unfold knownXs endXs
  rw [Nat.succ_mul, List.range_add, List.map_append, List.map_map]
  congr 1
  refine List.map_congr_left fun r hr => ?_
  have := List.mem_range.1 hr
  show Value.int .i64 ((K ((n * 8 + r) / 8) ((n * 8 + r) % 8) : Nat) : Int) = _
  rw [show (n * 8 + r) / 8 = n by omega, show (n * 8 + r) % 8 = r by omega]
def eC (K : Nat → Nat → Nat) (i k r : Nat) : Int := if r < k then (K i r : Nat) else 0
def eCells (K : Nat → Nat → Nat) (i k : Nat) : Array Value := #[.int .i64 (eC K i k 0), .int .i64 (eC K i k 1), .int .i64 (eC K i k 2), .int .i64 (eC K i k 3), .int .i64 (eC K i k 4), .int .i64 (eC K i k 5), .int .i64 (eC K i k 6), .int .i64 (eC K i k 7)]
theorem lt8 {k : Nat} (h : k < 8) : k = 0 ∨ k = 1 ∨ k = 2 ∨ k = 3 ∨ k = 4 ∨ k = 5 ∨ k = 6 ∨ k = 7 := by omega
theorem eCells_get {K : Nat → Nat → Nat} {i k j : Nat} (h : j < 8) : (eCells K i k)[j]? = some (.int .i64 (eC K i k j)) := by
  rcases lt8 h with rfl | rfl | rfl | rfl | rfl | rfl | rfl | rfl <;> rfl
theorem eCells_set {K : Nat → Nat → Nat} {i k : Nat} (h : k < 8) : (eCells K i k).setIfInBounds k (.int .i64 (K i k : Nat)) = eCells K i (k + 1) := by
  rcases lt8 h with rfl | rfl | rfl | rfl | rfl | rfl | rfl | rfl <;> simp [eCells, eC]
theorem eCells_zero (K : Nat → Nat → Nat) (i : Nat) : eCells K i 0 = #[.int .i64 0, .int .i64 0, .int .i64 0, .int .i64 0, .int .i64 0, .int .i64 0, .int .i64 0, .int .i64 0] := by simp [eCells, eC]
theorem eCells_full (K : Nat → Nat → Nat) (i : Nat) : eCells K i 8 = #[.int .i64 (K i 0 : Nat), .int .i64 (K i 1 : Nat), .int .i64 (K i 2 : Nat), .int .i64 (K i 3 : Nat), .int .i64 (K i 4 : Nat), .int .i64 (K i 5 : Nat), .int .i64 (K i 6 : Nat), .int .i64 (K i 7 : Nat)] := by simp [eCells, eC]
/-- in the midst of learn: the ends of the first n types are known -/
def LSt (w0 : World) (br : Nat) (ao : Option Addr) (len cap : Nat) (least : Bool) (K : Nat → Nat → Nat) (n : Nat) (v : Value) (w : World) : Prop :=
  RchAt br ao len cap least v w ∧ w.ownsRow (br + 1) 116 8 v n (knownXs K n) ∧ Below w0.heap.size w0 w
theorem LSt.keep {w0 : World} {br : Nat} {ao : Option Addr} {len cap : Nat} {least : Bool} {K : Nat → Nat → Nat} {n : Nat} {v : Value} {w w1 : World} (h : LSt w0 br ao len cap least K n v w) (hb : Below w.heap.size w w1) : LSt w0 br ao len cap least K n v w1 :=
  ⟨(hb.block br (lt_of_block h.1)).trans h.1, row_keep h.2.1 hb, h.2.2.trans (hb.mono h.2.2.size)⟩
theorem LSt.set {w0 : World} {br : Nat} {ao : Option Addr} {len cap : Nat} {least : Bool} {K : Nat → Nat → Nat} {n : Nat} {v : Value} {w : World} (h : LSt w0 br ao len cap least K n v w) {be j : Nat} {u : Value} (h0 : w0.heap.size ≤ be) (h1 : br ≠ be) (h2 : ∀ k, v.ownBlock = some k → k ≠ be) : LSt w0 br ao len cap least K n v (w.setCell ⟨be, j, none⟩ u) :=
  ⟨(set_other h1).trans h.1, ((Only.refl (fun k => k = be) w).setCell (.inl rfl) u).row h.2.1 h2, h.2.2.setCell h0 u⟩
theorem LSt.rd {w0 : World} {br : Nat} {ao : Option Addr} {len cap : Nat} {least : Bool} {K : Nat → Nat → Nat} {n : Nat} {v : Value} {w : World} (h : LSt w0 br ao len cap least K n v w) (hK : ∀ p, p < n → ∀ r, r < 8 → K p r ≤ 4000) : Rd br ao len cap least n K w := by
  obtain ⟨h1, h2, h3⟩ := h
  obtain ⟨a, kc, rfl, hg⟩ := row_form h2
  refine ⟨a, kc, h1, fun p hp => ?_⟩
  obtain ⟨g, rfl⟩ := hg (by omega)
  refine ⟨g, rfl, fun r hr => ⟨?_, hK p hp r hr⟩⟩
  have hl : (knownXs K n).length = n * 8 := by unfold knownXs; simp
  rw [h2.cellAt (p * 8 + r) (by omega)]
  unfold knownXs
  rw [List.getElem?_map, List.getElem?_range (by omega)]
  show some (Value.int .i64 ((K ((p * 8 + r) / 8) ((p * 8 + r) % 8) : Nat) : Int)) = _
  rw [show (p * 8 + r) / 8 = p by omega, show (p * 8 + r) % 8 = r by omega]
theorem LSt.next {w0 : World} {br : Nat} {ao : Option Addr} {len cap : Nat} {least : Bool} {K : Nat → Nat → Nat} {n : Nat} {v v2 : Value} {w1 : World} (h1 : RchAt br ao len cap least v w1) (h2 : w1.ownsRow (br + 1) 116 8 v2 (n + 1) (knownXs K n ++ endXs K n)) (h3 : Below w0.heap.size w0 w1) (h0 : w0.heap.size ≤ br) :
    LSt w0 br ao len cap least K (n + 1) v2 (w1.setCell ⟨br, 2, none⟩ v2) := by
  refine ⟨?_, ?_, h3.setCell h0 v2⟩
  · have := set_at (j := 2) (u := v2) h1
    simpa [RchAt] using this
  · rw [knownXs_next]; exact ownsRow_setCell_below h2 (by simp) _
theorem fr_eqL {a b : List Value} (h : a = b) : (⟨a.toArray, []⟩ : Act) = ⟨b.toArray, []⟩ := by rw [h]
/-- what is known of the values of the append's operations -/
def LOk (xs : List Value) (ns : List Value) (ws br n : Nat) (cs : Nat → Value) (j : Nat) (x : Value) (w : World) : Prop :=
  if j = 6 then ∃ p, x = .slice (some ⟨p, 0, none⟩) 1 1 ∧ w.heap[p]? = some (.cells ns.toArray 116 (0, 0)) ∧ ws ≤ p
  else if j = 7 then ∃ g cap, x = .slice (some ⟨g, 0, none⟩) (n + 1) cap ∧ w.ownsRow (br + 1) 116 8 x (n + 1) (xs ++ ns)
  else x = cs j
def LB (w0 : World) (br be ws : Nat) (ao : Option Addr) (len cap : Nat) (least : Bool) (v : Value) (ns : List Value) (w : World) : Prop :=
  RchAt br ao len cap least v w ∧ w.heap[be]? = some (.cells ns.toArray 116 (0, 0)) ∧ Below w0.heap.size w0 w ∧ ws ≤ w.heap.size
theorem LB.cells {w0 : World} {br be ws : Nat} {ao : Option Addr} {len cap : Nat} {least : Bool} {v : Value} {ns : List Value} {w : World} (h : LB w0 br be ws ao len cap least v ns w) : w.cell? ⟨br, 2, none⟩ = some v ∧ w.frozen? ⟨br, 2, none⟩ = false := ⟨cell_at (j := 2) h.1 rfl, free_at (j := 2) h.1⟩
theorem LOk.six {xs ns : List Value} {ws br n : Nat} {cs : Nat → Value} {x : Value} {w : World} (h : ∃ p, x = .slice (some ⟨p, 0, none⟩) 1 1 ∧ w.heap[p]? = some (.cells ns.toArray 116 (0, 0)) ∧ ws ≤ p) : LOk xs ns ws br n cs 6 x w := by
  unfold LOk; rw [if_pos rfl]; exact h
theorem LOk.seven {xs ns : List Value} {ws br n : Nat} {cs : Nat → Value} {x : Value} {w : World} (h : ∃ g cap, x = .slice (some ⟨g, 0, none⟩) (n + 1) cap ∧ w.ownsRow (br + 1) 116 8 x (n + 1) (xs ++ ns)) : LOk xs ns ws br n cs 7 x w := by
  unfold LOk; rw [if_neg (by decide), if_pos rfl]; exact h
theorem LOk.alloc {xs ns : List Value} {ws br n k : Nat} {cs : Nat → Value} {x : Value} {w : World} (h : LOk xs ns ws br n cs k x w) (o : Obj) : LOk xs ns ws br n cs k x (w.alloc o) := by
  unfold LOk at *
  split
  · rename_i e
    rw [if_pos e] at h
    obtain ⟨p, h1, h2, h3⟩ := h
    exact ⟨p, h1, alloc_old h2, h3⟩
  · rename_i e
    rw [if_neg e] at h
    split
    · rename_i e2
      rw [if_pos e2] at h
      obtain ⟨g, cap, h1, h2⟩ := h
      exact ⟨g, cap, h1, h2.alloc _⟩
    · rename_i e2
      rw [if_neg e2] at h
      exact h
theorem LOk.grow {xs ns : List Value} {ws br n k : Nat} {cs : Nat → Value} {x : Value} {w w1 : World} {row : Option Nat} (h : LOk xs ns ws br n cs k x w) (hk : k ≠ 7) (hg : w.grownBy w1 row) (hr : ∀ p, row = some p → p < ws) : LOk xs ns ws br n cs k x w1 := by
  unfold LOk at *
  split
  · rename_i e
    rw [if_pos e] at h
    obtain ⟨p, h1, h2, h3⟩ := h
    exact ⟨p, h1, (hg.block p (lt_of_block h2) (fun e => by have := hr p e.symm; omega)).trans h2, h3⟩
  · rename_i e
    rw [if_neg e, if_neg hk] at h
    first | exact h | (rw [if_neg hk]; exact h)
theorem LB.alloc {w0 : World} {br be ws : Nat} {ao : Option Addr} {len cap : Nat} {least : Bool} {v : Value} {ns : List Value} {w : World} (h : LB w0 br be ws ao len cap least v ns w) (o : Obj) : LB w0 br be ws ao len cap least v ns (w.alloc o) :=
  ⟨alloc_old h.1, alloc_old h.2.1, h.2.2.1.alloc h.2.2.1.size o, by have := h.2.2.2; simp; omega⟩
theorem LB.grow {w0 : World} {br be ws : Nat} {ao : Option Addr} {len cap : Nat} {least : Bool} {v : Value} {ns : List Value} {w w1 : World} (h : LB w0 br be ws ao len cap least v ns w) (hg : w.grownBy w1 v.ownBlock) (h0 : w0.heap.size ≤ br) (hr : ∀ k, v.ownBlock = some k → br + 1 ≤ k) (he : ∀ k, v.ownBlock = some k → k ≠ be) : LB w0 br be ws ao len cap least v ns w1 :=
  ⟨(hg.block br (lt_of_block h.1) (fun e => by have := hr br e.symm; omega)).trans h.1, (hg.block be (lt_of_block h.2.1) (fun e => he be e.symm rfl)).trans h.2.1, h.2.2.1.grown hg h.2.2.1.size (fun k hk => by have := hr k hk; omega), by have := hg.size; have := h.2.2.2; omega⟩
set_option maxRecDepth 20000 in
set_option maxHeartbeats 2000000 in
theorem learn_any (br : Nat) (ao : Option Addr) (len cap : Nat) (L : Nat → TypeV) (least : Bool) (K : Nat → Nat → Nat) (t : Nat) (hlen : len ≤ 1000000) (ht : t < len) (hok : ∀ i, i < len → OkT L i)
    (hKm : ∀ i, i < len → ∀ r, r < 8 → stepE L (openT L len) (!least) (endK K) i r = K i r) (hKb : ∀ i, i < len → ∀ r, r < 8 → K i r ≤ 4000)
    (w0 w : World) (h0 : w0.heap.size ≤ br) (HL : ∀ i, i < len → TypeAt w0 ao i (L i)) (H : LSt w0 br ao len cap least K 0 (.slice none 0 0) w) :
    Calls Tryz.prog 51 #[.pointer (some ⟨br, 0, none⟩), .int .i64 (t : Nat)] w fun e w' => e = .returned (.tuple #[]) ∧ Below w0.heap.size w0 w' ∧ Rd br ao len cap least (t + 1) K w' := by
  obtain ⟨i0, hi, hz0, hz1, hz2⟩ := info_parts infoEnds
  have HH := Lib.hid HL
  have HOK := Lib.hid hok
  have HKM := Lib.hid hKm
  have HKB := Lib.hid hKb
  have HS := Lib.hid H
  clear HL hok hKm hKb H
  go_enter Tryz.func51, Tryz.ntmps51
  go_wp2
  go_loopw [9] (fun i wr => ∃ n : Nat, n ≤ t + 1 ∧ i = .int .i64 n ∧ ∃ v, Hid (LSt w0 br ao len cap least K n v wr)) (fun i _ => t + 1 - (intOf i).toNat)
  case atStart => exact ⟨0, Nat.zero_le _, rfl, _, HS⟩
  case round =>
    obtain ⟨n, hn, rfl, v, HQ⟩ := hrel
    by_cases hlt : n < t + 1
    · have hnl : n < len := by omega
      have hd : decide ((n : Int) < (t : Int) + 1) = true := by simp; omega
      have hal := (Below.refl wr.heap.size wr).alloc (Nat.le_refl _) (.cells #[.int .i64 0, .int .i64 0, .int .i64 0, .int .i64 0, .int .i64 0, .int .i64 0, .int .i64 0, .int .i64 0] 116)
      have HQ1 := Lib.hid (HQ.out.keep hal)
      obtain ⟨be, hbe⟩ : ∃ be, wr.heap.size = be := ⟨_, rfl⟩
      have hE : (wr.alloc (.cells #[.int .i64 0, .int .i64 0, .int .i64 0, .int .i64 0, .int .i64 0, .int .i64 0, .int .i64 0, .int .i64 0] 116)).heap[be]? = some (.cells (eCells K n 0) 116 (0, 0)) := by rw [eCells_zero, ← hbe]; exact alloc_at wr _
      have HE1 := Lib.hid hE
      have hg1 : ∀ k, v.ownBlock = some k → k ≠ be := fun k hk => by have := (HQ.out.2.1.lt k hk).2; omega
      have HG1 := Lib.hid hg1
      have hbr1 : br ≠ be := by have := lt_of_block HQ.out.1; omega
      have hsz : w0.heap.size ≤ be := by have := HQ.out.2.2.size; omega
      clear hal hE hg1
      go_upto_region 5 with (fail)
      generalize (wr.alloc (.cells #[.int .i64 0, .int .i64 0, .int .i64 0, .int .i64 0, .int .i64 0, .int .i64 0, .int .i64 0, .int .i64 0] 116)) = wb at *
      clear hbe HQ
      go_loopw [12] (fun k wi => ∃ j : Nat, j ≤ 8 ∧ k = .int .i64 j ∧ Hid (LSt w0 br ao len cap least K n v wi) ∧ Hid (wi.heap[be]? = some (.cells (eCells K n j) 116 (0, 0)))) (fun k _ => 8 - (intOf k).toNat)
      case atStart => exact ⟨0, by omega, rfl, HQ1, HE1⟩
      case round =>
        obtain ⟨j, hj, rfl, HQ2, HE2⟩ := hrel
        by_cases hlt8 : j < 8
        · have hm := measure_any br ao len cap L least K n j hlen hnl (HOK.out n hnl) (by omega) _ (hold HH.out HQ2.out.2.2) (HQ2.out.rd (fun p hp => HKB.out p (by omega)))
          rw [HKM.out n hnl j hlt8] at hm
          have HM := Lib.hid hm
          clear hm
          go_wp2_with (go_at_call 75; refine HM.out.mono ?_; rintro e w1 ⟨rfl, hb1⟩; have HQ3 := Lib.hid (HQ2.out.keep hb1); have hE3 := (hb1.block be (lt_of_block HE2.out)).trans HE2.out; have cc := cell_at hE3 (eCells_get hlt8); have ff := free_at (j := j) hE3; have HE3 := Lib.hid hE3; clear hE3 hb1)
          go_roundw
          case rel => exact ⟨j + 1, by omega, by go_num, Lib.hid (HQ3.out.set hsz hbr1 HG1.out), Lib.hid (by rw [← eCells_set hlt8]; exact set_at HE3.out)⟩
          case measure => simp [intOf]; omega
        · obtain rfl : j = 8 := by omega
          have hE4 := HE2.out
          rw [eCells_full] at hE4
          have hR4 := HQ2.out.1
          unfold RchAt at hR4
          have c2 := cell_at (j := 2) hR4 rfl
          have f2 := free_at (j := 2) hR4
          have e0 : wr.cell? ⟨be, 0, none⟩ = some (.int .i64 (K n 0 : Nat)) := cell_at hE4 rfl
          have e1 : wr.cell? ⟨be, 1, none⟩ = some (.int .i64 (K n 1 : Nat)) := cell_at hE4 rfl
          have e2 : wr.cell? ⟨be, 2, none⟩ = some (.int .i64 (K n 2 : Nat)) := cell_at hE4 rfl
          have e3 : wr.cell? ⟨be, 3, none⟩ = some (.int .i64 (K n 3 : Nat)) := cell_at hE4 rfl
          have e4 : wr.cell? ⟨be, 4, none⟩ = some (.int .i64 (K n 4 : Nat)) := cell_at hE4 rfl
          have e5 : wr.cell? ⟨be, 5, none⟩ = some (.int .i64 (K n 5 : Nat)) := cell_at hE4 rfl
          have e6 : wr.cell? ⟨be, 6, none⟩ = some (.int .i64 (K n 6 : Nat)) := cell_at hE4 rfl
          have e7 : wr.cell? ⟨be, 7, none⟩ = some (.int .i64 (K n 7 : Nat)) := cell_at hE4 rfl
          have hX : endXs K n = [.int .i64 (K n 0 : Nat), .int .i64 (K n 1 : Nat), .int .i64 (K n 2 : Nat), .int .i64 (K n 3 : Nat), .int .i64 (K n 4 : Nat), .int .i64 (K n 5 : Nat), .int .i64 (K n 6 : Nat), .int .i64 (K n 7 : Nat)] := rfl
          have hown0 := HQ2.out.2.1
          have hB0 := HQ2.out.2.2
          have hlb := lt_of_block hR4
          have hle := lt_of_block hE4
          have hra : ∀ k, v.ownBlock = some k → br + 1 ≤ k := fun k hk => (hown0.lt k hk).1
          have HRA := Lib.hid hra
          have HR4 := Lib.hid hR4
          have HE4 := Lib.hid hE4
          have HX := Lib.hid hX
          have HOW := Lib.hid hown0
          have HB0 := Lib.hid hB0
          clear hra hR4 hE4 hX hown0 hB0
          have hbr0 := h0
          clear h0
          obtain ⟨va, vcap, rfl⟩ : ∃ a c, v = .slice a n c := by obtain ⟨a, c, e, _⟩ := row_form HOW.out; exact ⟨a, c, e⟩
          have HU : ∀ u ∈ ([.int .i64 (K n 0 : Nat), .int .i64 (K n 1 : Nat), .int .i64 (K n 2 : Nat), .int .i64 (K n 3 : Nat), .int .i64 (K n 4 : Nat), .int .i64 (K n 5 : Nat), .int .i64 (K n 6 : Nat), .int .i64 (K n 7 : Nat)] : List Value), u.oneCell' = true := by intro u hu; simp only [List.mem_cons, List.not_mem_nil, or_false] at hu; rcases hu with rfl | rfl | rfl | rfl | rfl | rfl | rfl | rfl <;> rfl
          have HU := Lib.hid HU
          have hva : ∀ k, (Value.slice va n vcap).ownBlock = some k → k < wr.heap.size := fun k hk => (HOW.out.lt k hk).2
          have HVA := Lib.hid hva
          obtain ⟨ws, hws⟩ : ∃ ws, wr.heap.size = ws := ⟨_, rfl⟩
          have HLB := Lib.hid (show LB w0 br be ws ao len cap least (.slice va n vcap) [.int .i64 (K n 0 : Nat), .int .i64 (K n 1 : Nat), .int .i64 (K n 2 : Nat), .int .i64 (K n 3 : Nat), .int .i64 (K n 4 : Nat), .int .i64 (K n 5 : Nat), .int .i64 (K n 6 : Nat), .int .i64 (K n 7 : Nat)] wr.drew from ⟨HR4.out, HE4.out, HB0.out.drew, by simp; omega⟩)
          have HPR := Lib.hid (show wr.drew.ownsRow (br + 1) 116 8 (.slice va n vcap) n (knownXs K n) from HOW.out.drew)
          rw [hws] at hlb hle
          have HVA2 := Lib.hid (show ∀ k, (Value.slice va n vcap).ownBlock = some k → k < ws by rw [← hws]; exact HVA.out)
          clear c2 f2 e0 e1 e2 e3 e4 e5 e6 e7 hva HVA HR4 HE4 HOW HB0 hws
          go_wp2_with fail
          refine wp_region_pre (by kernel_rfl) 8 7 (fun v => ((.pointer (some ⟨br, 0, none⟩) : Value) :: (.int .i64 (t : Nat) : Value) :: undef :: undef :: (.int .i64 (n : Nat) : Value) :: (.pointer (some ⟨be, 0, none⟩) : Value) :: u6 :: (.int .i64 (t : Nat) : Value) :: (.int .i64 ((t : Nat) + 1) : Value) :: (.int .i64 (n : Nat) : Value) :: (.bool true : Value) :: (.int .i64 (n : Nat) : Value) :: (.int .i64 8 : Value) :: (.bool false : Value) :: u14 :: u15 :: u16 :: u17 :: u18 :: u19 :: u20 :: u21 :: v 0 :: v 1 :: v 2 :: v 3 :: v 4 :: v 5 :: v 6 :: v 7 :: u30 :: u31 :: u32 :: []).toArray) (fun j => [u22, u23, u24, u25, u26, u27, u28, u29].getD j undef) (LOk (knownXs K n) [.int .i64 (K n 0 : Nat), .int .i64 (K n 1 : Nat), .int .i64 (K n 2 : Nat), .int .i64 (K n 3 : Nat), .int .i64 (K n 4 : Nat), .int .i64 (K n 5 : Nat), .int .i64 (K n 6 : Nat), .int .i64 (K n 7 : Nat)] ws br n (fun j => [.pointer (some ⟨br, 0, none⟩), .pointer (some ⟨br, 0, none⟩), .pointer (some ⟨br, 0, none⟩), .pointer (some ⟨br, 2, none⟩), .slice va n vcap, .agg #[.int .i64 (K n 0 : Nat), .int .i64 (K n 1 : Nat), .int .i64 (K n 2 : Nat), .int .i64 (K n 3 : Nat), .int .i64 (K n 4 : Nat), .int .i64 (K n 5 : Nat), .int .i64 (K n 6 : Nat), .int .i64 (K n 7 : Nat)]].getD j undef))
            (LB w0 br be ws ao len cap least (.slice va n vcap) [.int .i64 (K n 0 : Nat), .int .i64 (K n 1 : Nat), .int .i64 (K n 2 : Nat), .int .i64 (K n 3 : Nat), .int .i64 (K n 4 : Nat), .int .i64 (K n 5 : Nat), .int .i64 (K n 6 : Nat), .int .i64 (K n 7 : Nat)]) (fun w' => w'.ownsRow (br + 1) 116 8 (.slice va n vcap) n (knownXs K n)) (Nat.le_of_ble_eq_true (by kernel_rfl)) (by kernel_rfl) HLB.out HPR.out (fun j hj v w1 hBx hPx hd => ?_) (fun v w1 hv hBx => ?_)
          · obtain ⟨c2, f2⟩ := hBx.cells
            obtain ⟨y0, y1, y2, y3, y4, y5, y6, y7⟩ : w1.cell? ⟨be, 0, none⟩ = some (.int .i64 (K n 0 : Nat)) ∧ w1.cell? ⟨be, 1, none⟩ = some (.int .i64 (K n 1 : Nat)) ∧ w1.cell? ⟨be, 2, none⟩ = some (.int .i64 (K n 2 : Nat)) ∧ w1.cell? ⟨be, 3, none⟩ = some (.int .i64 (K n 3 : Nat)) ∧ w1.cell? ⟨be, 4, none⟩ = some (.int .i64 (K n 4 : Nat)) ∧ w1.cell? ⟨be, 5, none⟩ = some (.int .i64 (K n 5 : Nat)) ∧ w1.cell? ⟨be, 6, none⟩ = some (.int .i64 (K n 6 : Nat)) ∧ w1.cell? ⟨be, 7, none⟩ = some (.int .i64 (K n 7 : Nat)) := ⟨cell_at hBx.2.1 rfl, cell_at hBx.2.1 rfl, cell_at hBx.2.1 rfl, cell_at hBx.2.1 rfl, cell_at hBx.2.1 rfl, cell_at hBx.2.1 rfl, cell_at hBx.2.1 rfl, cell_at hBx.2.1 rfl⟩
            rcases lt8 hj with rfl | rfl | rfl | rfl | rfl | rfl | rfl | rfl
            · skip
              refine wpOp_step (o := _) rfl (fun K' hK => ?_)
              go_simp
              exact hK _ _ ⟨.pointer (some ⟨br, 0, none⟩), rfl, rfl, hBx, fun _ h => h, fun k y _ h => h⟩
            · skip
              refine wpOp_step (o := _) rfl (fun K' hK => ?_)
              go_simp
              exact hK _ _ ⟨.pointer (some ⟨br, 0, none⟩), rfl, rfl, hBx, fun _ h => h, fun k y _ h => h⟩
            · have e1 : v 1 = .pointer (some ⟨br, 0, none⟩) := hd 1 (List.contains_iff_mem.1 (by kernel_rfl))
              refine wpOp_step (o := _) rfl (fun K' hK => ?_)
              go_simp
              exact hK _ _ ⟨.pointer (some ⟨br, 0, none⟩), fr_eqL (by simp [upd, e1]), rfl, hBx, fun _ h => h, fun k y _ h => h⟩
            · have e2 : v 2 = .pointer (some ⟨br, 0, none⟩) := hd 2 (List.contains_iff_mem.1 (by kernel_rfl))
              refine wpOp_step (o := _) rfl (fun K' hK => ?_)
              go_simp
              exact hK _ _ ⟨.pointer (some ⟨br, 2, none⟩), fr_eqL (by simp [upd, e2]), rfl, hBx, fun _ h => h, fun k y _ h => h⟩
            · have e3 : v 3 = .pointer (some ⟨br, 2, none⟩) := hd 3 (List.contains_iff_mem.1 (by kernel_rfl))
              refine wpOp_step (o := _) rfl (fun K' hK => ?_)
              go_simp
              exact hK _ _ ⟨.slice va n vcap, fr_eqL (by simp [upd, e3]), rfl, hBx, fun _ h => h, fun k y _ h => h⟩
            · skip
              refine wpOp_step (o := _) rfl (fun K' hK => ?_)
              go_simp
              exact hK _ _ ⟨.agg #[.int .i64 (K n 0 : Nat), .int .i64 (K n 1 : Nat), .int .i64 (K n 2 : Nat), .int .i64 (K n 3 : Nat), .int .i64 (K n 4 : Nat), .int .i64 (K n 5 : Nat), .int .i64 (K n 6 : Nat), .int .i64 (K n 7 : Nat)], rfl, rfl, hBx, fun _ h => h, fun k y _ h => h⟩
            · have e5 : v 5 = .agg #[.int .i64 (K n 0 : Nat), .int .i64 (K n 1 : Nat), .int .i64 (K n 2 : Nat), .int .i64 (K n 3 : Nat), .int .i64 (K n 4 : Nat), .int .i64 (K n 5 : Nat), .int .i64 (K n 6 : Nat), .int .i64 (K n 7 : Nat)] := hd 5 (List.contains_iff_mem.1 (by kernel_rfl))
              refine wpOp_step (o := _) rfl (fun K' hK => ?_)
              go_simp
              exact hK _ _ ⟨.slice (some ⟨w1.heap.size, 0, none⟩) 1 1, fr_eqL (by simp [upd, e5]), LOk.six ⟨_, rfl, alloc_at _ _, hBx.2.2.2⟩, hBx.alloc _, fun _ h => h.alloc _, fun k y _ h => h.alloc _⟩
            · have e4 : v 4 = .slice va n vcap := hd 4 (List.contains_iff_mem.1 (by kernel_rfl))
              obtain ⟨p, e6, hp6, hwp⟩ : ∃ p, v 6 = .slice (some ⟨p, 0, none⟩) 1 1 ∧ w1.heap[p]? = some (.cells #[.int .i64 (K n 0 : Nat), .int .i64 (K n 1 : Nat), .int .i64 (K n 2 : Nat), .int .i64 (K n 3 : Nat), .int .i64 (K n 4 : Nat), .int .i64 (K n 5 : Nat), .int .i64 (K n 6 : Nat), .int .i64 (K n 7 : Nat)] 116 (0, 0)) ∧ ws ≤ p := hd 6 (List.contains_iff_mem.1 (by kernel_rfl))
              have hpre7 := hPx rfl
              refine wpOp_step (o := _) rfl (fun K' hK => ?_)
              refine step_append_lies _ (by rfl) (.tmp 26) (.tmp 28) 95 (by rfl) (br + 1) 116 i0 (.agg #[.int .i64 0, .int .i64 0, .int .i64 0, .int .i64 0, .int .i64 0, .int .i64 0, .int .i64 0, .int .i64 0]) 8 64 Tryz.underlying95 hi hz0 hz1 hz2 (by rfl) (by decide) (.slice va n vcap) n (knownXs K n) (by exact e4) hpre7 ⟨p, 0, none⟩ 1 1 [.int .i64 (K n 0 : Nat), .int .i64 (K n 1 : Nat), .int .i64 (K n 2 : Nat), .int .i64 (K n 3 : Nat), .int .i64 (K n 4 : Nat), .int .i64 (K n 5 : Nat), .int .i64 (K n 6 : Nat), .int .i64 (K n 7 : Nat)] (by exact e6) (by rfl) (World.news_of_block hp6) HU.out (by decide) (by unfold maxLen; omega) (by omega) (by have := hBx.2.2.2; omega) w1.heap.size rfl ?_
              intro g cap w2 hown2 hgrow hat hlt2
              exact hK _ _ ⟨_, rfl, LOk.seven ⟨g, cap, rfl, hown2⟩, hBx.grow hgrow hbr0 HRA.out HG1.out, fun h => absurd rfl h, fun k y hk h => h.grow hk hgrow HVA2.out⟩
          · have e0 : v 0 = .pointer (some ⟨br, 0, none⟩) := hv 0 (by decide)
            have e1 : v 1 = .pointer (some ⟨br, 0, none⟩) := hv 1 (by decide)
            have e2 : v 2 = .pointer (some ⟨br, 0, none⟩) := hv 2 (by decide)
            have e3 : v 3 = .pointer (some ⟨br, 2, none⟩) := hv 3 (by decide)
            have e4 : v 4 = .slice va n vcap := hv 4 (by decide)
            have e5 : v 5 = .agg #[.int .i64 (K n 0 : Nat), .int .i64 (K n 1 : Nat), .int .i64 (K n 2 : Nat), .int .i64 (K n 3 : Nat), .int .i64 (K n 4 : Nat), .int .i64 (K n 5 : Nat), .int .i64 (K n 6 : Nat), .int .i64 (K n 7 : Nat)] := hv 5 (by decide)
            obtain ⟨p, e6, _, _⟩ : ∃ p, v 6 = .slice (some ⟨p, 0, none⟩) 1 1 ∧ w1.heap[p]? = some (.cells #[.int .i64 (K n 0 : Nat), .int .i64 (K n 1 : Nat), .int .i64 (K n 2 : Nat), .int .i64 (K n 3 : Nat), .int .i64 (K n 4 : Nat), .int .i64 (K n 5 : Nat), .int .i64 (K n 6 : Nat), .int .i64 (K n 7 : Nat)] 116 (0, 0)) ∧ ws ≤ p := hv 6 (by decide)
            obtain ⟨g, gcap, e7, hown7⟩ : ∃ g cap, v 7 = .slice (some ⟨g, 0, none⟩) (n + 1) cap ∧ w1.ownsRow (br + 1) 116 8 (v 7) (n + 1) (knownXs K n ++ ([.int .i64 (K n 0 : Nat), .int .i64 (K n 1 : Nat), .int .i64 (K n 2 : Nat), .int .i64 (K n 3 : Nat), .int .i64 (K n 4 : Nat), .int .i64 (K n 5 : Nat), .int .i64 (K n 6 : Nat), .int .i64 (K n 7 : Nat)] : List Value)) := hv 7 (by decide)
            rw [e7] at hown7
            have HO7 := Lib.hid hown7
            have HB7 := Lib.hid hBx
            obtain ⟨c2, f2⟩ := hBx.cells
            clear hv hown7 hBx
            refine wpAny_of_held (S := fun _ => True) _ _ _ _ ?_
            simp only [e0, e1, e2, e3, e4, e5, e6, e7]
            clear e0 e1 e2 e3 e4 e5 e6 e7
            refine wpAnyH_ready (fuel := 2) (rs := [8]) (by kernel_rfl) (by simp) ?_
            refine AllReadyH.cons (o := _) rfl (fun K hK => ?_) AllReadyH.nil
            go_simp
            refine hK.out _ _ trivial (fun _ => ?_)
            clear hK K
            refine wpAnyH_ready (fuel := 1) (rs := [9]) (by kernel_rfl) (by simp) ?_
            refine AllReadyH.cons (o := _) rfl (fun K hK => ?_) AllReadyH.nil
            go_simp
            refine hK.out _ _ trivial (fun _ => ?_)
            clear hK K
            refine wpAnyH_ready (fuel := 0) (rs := [10]) (by kernel_rfl) (by simp) ?_
            refine AllReadyH.cons (o := _) rfl (fun K hK => ?_) AllReadyH.nil
            go_simp
            refine hK.out _ _ trivial (fun _ => ?_)
            clear hK K
            refine wpAnyH_done (by kernel_rfl) ?_ _
            go_wp2
            go_roundw
            case rel => exact ⟨n + 1, by omega, by go_num, _, Lib.hid (LSt.next HB7.out.1 (by rw [HX.out]; exact HO7.out) HB7.out.2.2.1 hbr0)⟩
            case measure => simp [intOf]; omega
    · obtain rfl : n = t + 1 := by omega
      go_wp2
      go_returns
      exact ⟨rfl, HQ.out.2.2, HQ.out.rd (fun p hp => HKB.out p (by omega))⟩
end Go.Proofs.YtficmdomnilhnaaGreat
