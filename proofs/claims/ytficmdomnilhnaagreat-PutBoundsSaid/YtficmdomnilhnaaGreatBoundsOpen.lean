/- Contract of package bounds: tags. -/
import Derived.Test.YtficmdomnilhnaaGreatBoundsSeq
import Derived.Test.YtficmdomnilhnaaGreatTypesCDeep
import Derived.Shelf.Abstract
namespace Go.Proofs.YtficmdomnilhnaaGreat
open Go.RowKit
set_option linter.unusedVariables false
theorem info64 : (Tryz.prog.info? 23).map (fun i => (i.zero, i.size, i.bytes)) = some (some (.int .u64 0), 1, 8) := by kernel_rfl
def numsL (T : TypeV) (n : Nat) : List Int := (List.range n).map fun j => (T.items j).num
def mayL (k : Int) : Nat → List Int
  | 0 => []
  | n + 1 => if mayK k (n : Nat) then mayL k n ++ [((n : Nat) : Int)] else mayL k n
def tagsT (T : TypeV) : List Int := if T.kind = 9 then numsL T T.ilen else mayL T.kind 17
theorem numsL_next (T : TypeV) (n : Nat) : numsL T (n + 1) = numsL T n ++ [(T.items n).num] := by unfold numsL; rw [List.range_succ, List.map_append]; rfl
theorem mayL_len (k : Int) : ∀ n, (mayL k n).length ≤ n
  | 0 => Nat.le_refl _
  | n + 1 => by
    have := mayL_len k n
    unfold mayL; split
    · simp; omega
    · omega
theorem tagsT_len {T : TypeV} (h : T.ilen ≤ 3518437208780) : (tagsT T).length ≤ 3518437208782 := by
  unfold tagsT
  split
  · unfold numsL; simp; omega
  · have := mayL_len T.kind 17; omega
/-- the row that is being made, beside the tag's type -/
def USt (g : Nat) (T : TypeV) (w0 : World) (v : Value) (l : List Int) (w : World) : Prop := w.ownsRow (g + 1) 23 1 v l.length (l.map (Value.int .u64)) ∧ w.heap[g]? = some (typO T) ∧ Below g w0 w
theorem USt.cells {g : Nat} {T : TypeV} {w0 : World} {v : Value} {l : List Int} {w : World} (h : USt g T w0 v l w) : w.cell? ⟨g, 0, none⟩ = some (.int .i64 T.kind) ∧ w.cell? ⟨g, 5, none⟩ = some (.slice T.ia T.ilen T.icap) ∧ g < w.heap.size :=
  ⟨cell_at h.2.1 rfl, cell_at h.2.1 rfl, lt_of_block h.2.1⟩
theorem USt.next {g : Nat} {T : TypeV} {w0 : World} {v v2 : Value} {l : List Int} {x : Int} {o : Obj} {w w2 : World} (h : USt g T w0 v l w) (h2 : w2.ownsRow (g + 1) 23 1 v2 (l.length + 1) (l.map (Value.int .u64) ++ [.int .u64 x])) (hg : (w.alloc o).grownBy w2 v.ownBlock) : USt g T w0 v2 (l ++ [x]) w2 := by
  have hlt := lt_of_block h.2.1
  have hb : Below g w0 w2 := (h.2.2.alloc (Nat.le_of_lt hlt) o).grown hg (by simp; omega) (fun k hk => by have := (h.1.lt k hk).1; omega)
  refine ⟨by simpa using h2, ?_, hb⟩
  have h3 := alloc_old (o := o) h.2.1
  exact (hg.block g (lt_of_block h3) (fun e => by have := (h.1.lt g e.symm).1; omega)).trans h3
theorem USt.out {g : Nat} {T : TypeV} {w0 : World} {v : Value} {l : List Int} {w : World} (h : USt g T w0 v l w) (hg : w0.heap.size = g) : w.ownsRow w0.heap.size 23 1 v l.length (l.map (Value.int .u64)) ∧ Below w0.heap.size w0 w := by
  subst hg
  exact ⟨Joins.ownsRow_le h.1 (Nat.le_succ _), h.2.2⟩
theorem USt.start (T : TypeV) (w : World) : USt w.heap.size T w (.slice none 0 0) [] (w.alloc (typO T)) := ⟨World.ownsRow_nil _ _ _ _, alloc_at w _, (Below.refl _ _).alloc (Nat.le_refl _) _⟩
theorem USt.keep {g : Nat} {T : TypeV} {w0 : World} {v : Value} {l : List Int} {w w1 : World} (h : USt g T w0 v l w) (hb : Below w.heap.size w w1) : USt g T w0 v l w1 :=
  ⟨row_keep h.1 hb, (hb.block g (lt_of_block h.2.1)).trans h.2.1, h.2.2.trans (hb.mono (Nat.le_of_lt (lt_of_block h.2.1)))⟩
set_option maxRecDepth 20000 in
set_option maxHeartbeats 1000000 in
theorem tags_enum (ao : Option Addr) (len cap : Nat) (L : Nat → TypeV) (t p : Nat) (ht : t < len) (hp : p < len) (hlen : len ≤ 1000000) (htag : (L t).tag = (p : Nat)) (h9 : (L p).kind = 9) (w : World) (H : ∀ i, i < len → TypeAt w ao i (L i)) :
    Calls Tryz.prog 159 #[.slice ao len cap, .int .i64 (t : Nat)] w fun e w' => ∃ v, e = .returned v ∧ w'.ownsRow w.heap.size 23 1 v (tagsT (L p)).length ((tagsT (L p)).map (Value.int .u64)) ∧ Below w.heap.size w w' := by
  obtain ⟨i0, hi, hz0, hz1, hz2⟩ := info_parts info64
  have hT := show tagsT (L p) = numsL (L p) (L p).ilen by unfold tagsT; rw [if_pos h9]
  rw [hT]
  clear hT
  obtain ⟨b, off, rfl, _, _, _, _, ct, _, _, _⟩ := H t ht
  rw [htag] at ct
  have hTp := H p hp
  obtain ⟨T, hT⟩ : ∃ T, L p = T := ⟨_, rfl⟩
  rw [hT] at hTp h9 ⊢
  obtain ⟨b', off', e, c0, c1, c2, c3, c4, c5, wf, hil, hit⟩ := hTp
  injection e with e; injection e with e1 e2; subst e1 e2
  have hbl : b < w.heap.size := World.block_lt_of_cell? w _ c0
  have hst := USt.start T w
  obtain ⟨ia, hia⟩ : ∃ ia, T.ia = ia := ⟨_, rfl⟩
  unfold typO at hst
  rw [hia] at hst hit c5
  have HI := Lib.hid hit
  have HS := Lib.hid hst
  have HIA := Lib.hid hia
  have k9 : (T.kind == 9) = true := by simp; omega
  clear hit hst H hT hia h9
  go_enter Tryz.func159, Tryz.ntmps159
  go_upto_region 3 with (fail)
  generalize (w.alloc (.cells #[.int .i64 T.kind, .string T.name, .int .i64 T.bound, .int .i64 T.of, .int .i64 T.tag, .slice ia T.ilen T.icap] 47)) = wb at *
  clear ct c0 c1 c2 c3 c4 c5
  obtain ⟨c0, c5, hlt⟩ := HS.out.cells
  rw [HIA.out] at c5
  go_wp2
  go_loopw [5, 24] (fun v i wr => ∃ j : Nat, j ≤ T.ilen ∧ i = .int .i64 j ∧ Hid (USt w.heap.size T w v (numsL T j) wr)) (fun _ i _ => T.ilen - (intOf i).toNat)
  case atStart => exact ⟨0, Nat.zero_le _, rfl, HS⟩
  case round =>
    obtain ⟨j, hj, rfl, HP⟩ := hrel
    have hlt3 := lt_of_block HP.out.2.1
    by_cases hlt2 : j < T.ilen
    · have hln : (numsL T j).length ≤ 3518437208782 := by unfold numsL; simp; omega
      have hiat := (HI.out j hlt2).held (w1 := wr) HP.out.2.2
      obtain ⟨b, off, rfl, d0, d1, d2, d3, d4, wi⟩ := hiat
      have HT := Lib.hid (numsL_next T j)
      have HP2 := Lib.hid (HP.out.keep ((Below.refl _ _).alloc (Nat.le_refl _) (itmO (T.items j))))
      unfold itmO at HP2
      obtain ⟨wo, rfl⟩ : ∃ wo : World, wo = wr := ⟨_, rfl⟩
      go_wp2_with (at_builtin; refine wpList_append_at rfl (.tmp 28) (.tmp 31) 150 rfl (w.heap.size + 1) 23 i0 (.int .u64 0) 1 8 Tryz.underlying150 hi hz0 hz1 hz2 rfl (by decide) _ _ _ rfl (HP2.out.1.alloc _) ⟨_, 0, none⟩ 1 1 [.int .u64 (T.items j).num] rfl rfl (fun j u hj => by match j, hj with | 0, hj => (simp at hj; subst hj; simp [Addr.add])) (fun u hu => by (simp at hu; subst hu; rfl)) (by unfold maxLen; omega) (by omega) (by simp <;> omega) ?_; intro v2 w2 hown2 hg2 hf2; have HQ := Lib.hid (HP2.out.next (x := (T.items j).num) (by simpa using hown2) hg2); clear hown2 hg2 hf2)
      go_wp2
      go_roundw
      case rel => exact ⟨j + 1, by omega, by go_num, (by rw [HT.out]; exact HQ)⟩
      case measure => simp [intOf]; omega
    · obtain rfl : j = T.ilen := by omega
      go_wp2
      go_ret
      exact ⟨_, rfl, HP.out.out rfl⟩
set_option maxRecDepth 20000 in
set_option maxHeartbeats 1000000 in
theorem tags_may (ao : Option Addr) (len cap : Nat) (L : Nat → TypeV) (t p : Nat) (ht : t < len) (hp : p < len) (hlen : len ≤ 1000000) (htag : (L t).tag = (p : Nat)) (h9 : ¬ (L p).kind = 9) (w : World) (H : ∀ i, i < len → TypeAt w ao i (L i)) :
    Calls Tryz.prog 159 #[.slice ao len cap, .int .i64 (t : Nat)] w fun e w' => ∃ v, e = .returned v ∧ w'.ownsRow w.heap.size 23 1 v (tagsT (L p)).length ((tagsT (L p)).map (Value.int .u64)) ∧ Below w.heap.size w w' := by
  obtain ⟨i0, hi, hz0, hz1, hz2⟩ := info_parts info64
  have hT := show tagsT (L p) = mayL (L p).kind 17 by unfold tagsT; rw [if_neg h9]
  rw [hT]
  clear hT
  obtain ⟨N, hN⟩ : ∃ N : Nat, N = 17 := ⟨_, rfl⟩
  rw [← hN]
  have HN := Lib.hid hN
  clear hN
  obtain ⟨b, off, rfl, _, _, _, _, ct, _, _, _⟩ := H t ht
  rw [htag] at ct
  have hTp := H p hp
  obtain ⟨T, hT⟩ : ∃ T, L p = T := ⟨_, rfl⟩
  rw [hT] at hTp h9 ⊢
  obtain ⟨b', off', e, c0, c1, c2, c3, c4, c5, wf, hil, hit⟩ := hTp
  injection e with e; injection e with e1 e2; subst e1 e2
  have hbl : b < w.heap.size := World.block_lt_of_cell? w _ c0
  have hst := USt.start T w
  unfold typO at hst
  have HS := Lib.hid hst
  have k9 : (T.kind == 9) = false := by simp; omega
  clear hit hst H hT h9
  go_enter Tryz.func159, Tryz.ntmps159
  go_upto_region 3 with (fail)
  generalize (w.alloc (.cells #[.int .i64 T.kind, .string T.name, .int .i64 T.bound, .int .i64 T.of, .int .i64 T.tag, .slice T.ia T.ilen T.icap] 47)) = wb at *
  clear ct c0 c1 c2 c3 c4 c5
  obtain ⟨c0, c5, hlt⟩ := HS.out.cells
  go_wp2
  go_loopw [5, 35] (fun v i wr => ∃ j : Nat, j ≤ N ∧ i = .int .u64 j ∧ Hid (USt w.heap.size T w v (mayL T.kind j) wr)) (fun _ i _ => N - (intOf i).toNat)
  case atStart => exact ⟨0, Nat.zero_le _, rfl, HS⟩
  case round =>
    obtain ⟨j, hj, rfl, HP⟩ := hrel
    have hN := HN.out
    by_cases hlt2 : j < N
    · have hln : (mayL T.kind j).length ≤ 17 := by have := mayL_len T.kind j; omega
      obtain ⟨d0, d5, hlt3⟩ := HP.out.cells
      have hm := fun w => may_any T.kind (j : Nat) (WalkArith.wf_u64 (by omega)) w
      cases hq : mayK T.kind (j : Nat) with
      | true =>
        have HT := Lib.hid (show mayL T.kind (j + 1) = mayL T.kind j ++ [((j : Nat) : Int)] by rw [mayL, if_pos hq])
        rw [hq] at hm
        have HM := Lib.hid hm
        obtain ⟨wo, rfl⟩ : ∃ wo : World, wo = wr := ⟨_, rfl⟩
        go_wp2_with (first
          | (go_at_call 72; refine (HM.out _).mono ?_; rintro e w1 ⟨rfl, hb1⟩; have HP2 := Lib.hid (HP.out.keep hb1); have hlt4 := lt_of_block HP2.out.2.1; clear hb1)
          | (at_builtin; refine wpList_append_at rfl (.tmp 42) (.tmp 44) 150 rfl (w.heap.size + 1) 23 i0 (.int .u64 0) 1 8 Tryz.underlying150 hi hz0 hz1 hz2 rfl (by decide) _ _ _ rfl (HP2.out.1.alloc _) ⟨_, 0, none⟩ 1 1 [.int .u64 (j : Nat)] rfl rfl (fun j u hj => by match j, hj with | 0, hj => (simp at hj; subst hj; simp [Addr.add])) (fun u hu => by (simp at hu; subst hu; rfl)) (by unfold maxLen; omega) (by omega) (by simp <;> omega) ?_; intro v2 w2 hown2 hg2 hf2; have HQ := Lib.hid (HP2.out.next (x := (j : Nat)) (by simpa using hown2) hg2); clear hown2 hg2 hf2))
        go_roundw
        case rel => exact ⟨j + 1, by omega, by go_num, (by rw [HT.out]; exact HQ)⟩
        case measure => simp [intOf]; omega
      | false =>
        have HT := Lib.hid (show mayL T.kind (j + 1) = mayL T.kind j by rw [mayL, hq]; rfl)
        rw [hq] at hm
        have HM := Lib.hid hm
        go_wp2_with (go_at_call 72; refine (HM.out _).mono ?_; rintro e w1 ⟨rfl, hb1⟩; have HP2 := Lib.hid (HP.out.keep hb1); clear hb1)
        go_roundw
        case rel => exact ⟨j + 1, by omega, by go_num, (by rw [HT.out]; exact HP2)⟩
        case measure => simp [intOf]; omega
    · obtain rfl : j = N := by omega
      go_wp2
      go_ret
      exact ⟨_, rfl, HP.out.out rfl⟩
theorem tags_any (ao : Option Addr) (len cap : Nat) (L : Nat → TypeV) (t p : Nat) (ht : t < len) (hp : p < len) (hlen : len ≤ 1000000) (htag : (L t).tag = (p : Nat)) (w : World) (H : ∀ i, i < len → TypeAt w ao i (L i)) :
    Calls Tryz.prog 159 #[.slice ao len cap, .int .i64 (t : Nat)] w fun e w' => ∃ v, e = .returned v ∧ w'.ownsRow w.heap.size 23 1 v (tagsT (L p)).length ((tagsT (L p)).map (Value.int .u64)) ∧ Below w.heap.size w w' := by
  by_cases h9 : (L p).kind = 9
  · exact tags_enum ao len cap L t p ht hp hlen htag h9 w H
  · exact tags_may ao len cap L t p ht hp hlen htag h9 w H
end Go.Proofs.YtficmdomnilhnaaGreat
namespace Go.Proofs.YtficmdomnilhnaaGreat
open Go.RowKit
set_option linter.unusedVariables false
/-- a predicate on numbers, as a function value -/
def PaysU (g : Nat) (lb : Array Value) (p : Int → Bool) (w : World) : Prop :=
  ∀ (W : World) (n : Int), Below w.heap.size w W → Calls Tryz.prog g (#[.int .u64 n] ++ lb) W fun e w' => e = .returned (.bool (p n)) ∧ Below W.heap.size W w'
theorem PaysU.keep {g : Nat} {lb : Array Value} {p : Int → Bool} {w w1 : World} (h : PaysU g lb p w) (hb : Below w.heap.size w w1) : PaysU g lb p w1 := fun W n hW => h W n (hb.trans (hW.mono hb.size))
def RowU (w : World) (ao : Option Addr) (len : Nat) (X : Nat → Int) : Prop := ∀ j, j < len → ∃ g, ao = some ⟨g, 0, none⟩ ∧ w.cell? ⟨g, j, none⟩ = some (.int .u64 (X j))
theorem RowU.held {w w1 : World} {ao : Option Addr} {len : Nat} {X : Nat → Int} (h : RowU w ao len X) (hb : Below w.heap.size w w1) : RowU w1 ao len X := fun j hj => by
  obtain ⟨g, e, c⟩ := h j hj
  exact ⟨g, e, keep6 hb c⟩
set_option maxHeartbeats 2000000 in
theorem idxU_any (ao : Option Addr) (len cap : Nat) (X : Nat → Int) (g : Nat) (lb : Array Value) (p : Int → Bool) (hlen : len ≤ 3518437208782) (w : World) (eg : Enters g) (hp : PaysU g lb p w) (H : RowU w ao len X) :
    Calls Tryz.prog 164 #[.slice ao len cap, .func (.func g) #[] lb] w fun e w' => e = .returned (.int .i64 (firstZ (fun j => p (X j)) len)) ∧ Below w.heap.size w w' := by
  have HH := Lib.hid H
  have HP := Lib.hid hp
  clear H hp
  unfold Enters at eg
  go_enter Tryz.func164, Tryz.ntmps164
  go_wp2
  go_loopw [8] (fun i wr => ∃ j : Nat, j ≤ len ∧ i = .int .i64 j ∧ Hid (∀ m, m < j → p (X m) = false) ∧ Hid (Below w.heap.size w wr)) (fun i _ => len - (intOf i).toNat)
  case atStart => exact ⟨0, by omega, rfl, Lib.hid fun m hm => by omega, Lib.hid (Below.refl _ _)⟩
  case round =>
    obtain ⟨j, hj, rfl, H, HB⟩ := hrel
    by_cases hlt : j < len
    · obtain ⟨g', rfl, d0⟩ := (HH.out.held HB.out) j hlt
      have hcall := HP.out wr (X j) HB.out
      cases hq : p (X j) with
      | false =>
        rw [hq] at hcall
        have HC := Lib.hid hcall
        have HN := Lib.hid (none_next (p := fun m => p (X m)) H.out hq)
        clear hcall
        go_wp2_with (go_at_fn g; refine (HC.out).mono ?_; rintro e w2 ⟨rfl, hb2⟩; have HB2 := Lib.hid (HB.out.trans (hb2.mono HB.out.size)); clear hb2)
        go_roundw
        case measure => simp [intOf]; omega
        case rel => exact ⟨j + 1, by omega, by go_num, HN, HB2⟩
      | true =>
        rw [hq] at hcall
        have HC := Lib.hid hcall
        have HN := Lib.hid (firstZ_at (p := fun m => p (X m)) H.out hlt hq)
        clear hcall
        go_wp2_with (go_at_fn g; refine (HC.out).mono ?_; rintro e w2 ⟨rfl, hb2⟩; have HB2 := Lib.hid (HB.out.trans (hb2.mono HB.out.size)); clear hb2)
        go_ret
        exact ⟨ret_i HN.out.symm, HB2.out⟩
    · have HN := Lib.hid (firstZ_none (p := fun m => p (X m)) (n := len) (fun m hm => H.out m (by omega)))
      go_wp2
      go_ret
      exact ⟨ret_i HN.out.symm, HB.out⟩
theorem containsU_any (ao : Option Addr) (len cap : Nat) (X : Nat → Int) (g : Nat) (lb : Array Value) (p : Int → Bool) (hlen : len ≤ 3518437208782) (w : World) (eg : Enters g) (hp : PaysU g lb p w) (H : RowU w ao len X) :
    Calls Tryz.prog 158 #[.slice ao len cap, .func (.func g) #[] lb] w fun e w' => e = .returned (.bool (okZ (firstZ (fun j => p (X j)) len))) ∧ Below w.heap.size w w' := by
  have hc := idxU_any ao len cap X g lb p hlen w eg hp H
  obtain ⟨z, hz⟩ : ∃ z, firstZ (fun j => p (X j)) len = z := ⟨_, rfl⟩
  rw [hz] at hc ⊢
  have HC := Lib.hid hc
  clear hc hz eg hp H
  go_enter Tryz.func158, Tryz.ntmps158
  go_wp2_with (go_at_call 164; refine HC.out.mono ?_; rintro e w1 ⟨rfl, hb1⟩; have HB1 := Lib.hid hb1; clear hb1)
  go_ret
  exact ⟨rfl, HB1.out⟩
theorem any_first {q : Int → Bool} (l : List Int) : okZ (firstZ (fun j => q (l.getD j 0)) l.length) = l.any q := by
  rcases firstZ_cases (fun j => q (l.getD j 0)) l.length with ⟨k, hk, e, h1, h2⟩ | ⟨e, h1⟩
  · rw [e]
    have : l.any q = true := by
      rw [List.any_eq_true]
      refine ⟨l.getD k 0, ?_, by first | exact h1 | exact h2⟩
      rw [List.getD_eq_getElem?_getD, List.getElem?_eq_getElem hk]
      exact List.getElem_mem hk
    rw [this]; unfold okZ; simp
  · rw [e]
    have : l.any q = false := by
      rw [List.any_eq_false]
      intro x hx
      obtain ⟨j, hj, rfl⟩ := List.getElem_of_mem hx
      have := h1 j hj
      rw [List.getD_eq_getElem?_getD, List.getElem?_eq_getElem hj] at this
      simpa using this
    rw [this]; rfl
/-- whether some tag of a union has no branch -/
def openT (L : Nat → TypeV) (len t : Nat) : Bool := (tagsT (L (L t).tag.toNat)).any (fun n => decide (branchL L len (t : Nat) n < 0))
theorem eOpen : Enters 160 := enters_of Tryz.func160 (by kernel_rfl) rfl
theorem openF_any (ao : Option Addr) (len cap : Nat) (L : Nat → TypeV) (t : Nat) (hlen : len ≤ 1000000) (b1 b2 : Nat) (n : Int) (w : World) (c1 : w.cell? ⟨b1, 0, none⟩ = some (.slice ao len cap)) (c2 : w.cell? ⟨b2, 0, none⟩ = some (.int .i64 (t : Nat))) (H : ∀ i, i < len → TypeAt w ao i (L i)) :
    Calls Tryz.prog 160 #[.int .u64 n, .pointer (some ⟨b1, 0, none⟩), .pointer (some ⟨b2, 0, none⟩)] w fun e w' => e = .returned (.bool (decide (branchL L len (t : Nat) n < 0))) ∧ Below w.heap.size w w' := by
  have hc := branch6_any ao len cap L (t : Nat) n (by omega) w H
  obtain ⟨z, hz⟩ : ∃ z, branchL L len (t : Nat) n = z := ⟨_, rfl⟩
  rw [hz] at hc ⊢
  unfold foundV okZ at hc
  have hd : decide (0 ≤ z) = !decide (z < 0) := by
    by_cases h : z < 0
    · rw [decide_eq_true h, decide_eq_false (by omega)]; rfl
    · rw [decide_eq_false h, decide_eq_true (by omega)]; rfl
  rw [hd] at hc
  obtain ⟨q, hq⟩ : ∃ q, decide (z < 0) = q := ⟨_, rfl⟩
  rw [hq] at hc ⊢
  have HC := Lib.hid hc
  clear hc hz hd hq H
  go_enter Tryz.func160, Tryz.ntmps160
  go_wp2_with (go_at_call 99; refine HC.out.mono ?_; rintro e w1 ⟨rfl, hb1⟩; have HB1 := Lib.hid hb1; clear hb1)
  go_ret
  exact ⟨ret_b (by simp), HB1.out⟩
theorem cell_u {w : World} {base g n cap : Nat} {l : List Int} (h : w.ownsRow base 23 1 (.slice (some ⟨g, 0, none⟩) n cap) n (l.map (Value.int .u64))) (j : Nat) (hj : j < n) : w.cell? ⟨g, j, none⟩ = some (.int .u64 (l.getD j 0)) := by
  have hl : l.length = n := by have := h.1; simpa using this
  rw [h.cellAt j (by omega), List.getElem?_map, List.getElem?_eq_getElem (by omega), List.getD_eq_getElem?_getD, List.getElem?_eq_getElem (by omega)]
  rfl
theorem rowU_of {w : World} {base n : Nat} {v : Value} {l : List Int} (h : w.ownsRow base 23 1 v n (l.map (Value.int .u64))) : ∃ a cap, v = .slice a n cap ∧ RowU w a n (fun j => l.getD j 0) := by
  obtain ⟨a, cap, rfl, hg⟩ := row_form h
  refine ⟨a, cap, rfl, fun j hj => ?_⟩
  obtain ⟨g, rfl⟩ := hg (by omega)
  exact ⟨g, rfl, cell_u h j hj⟩
set_option maxHeartbeats 1000000 in
theorem isOpen_any (ao : Option Addr) (len cap : Nat) (L : Nat → TypeV) (t : Nat) (ht : t < len) (hp : 0 ≤ (L t).tag ∧ (L t).tag < len) (hlen : len ≤ 1000000) (w : World) (H : ∀ i, i < len → TypeAt w ao i (L i)) :
    Calls Tryz.prog 137 #[.slice ao len cap, .int .i64 (t : Nat)] w fun e w' => e = .returned (.bool (openT L len t)) ∧ Below w.heap.size w w' := by
  have hb := ((Below.refl w.heap.size w).alloc (Nat.le_refl _) (.cells #[.slice ao len cap] 22)).alloc (by simp) (.cells #[.int .i64 (t : Nat)] 3)
  have h1 := alloc_old (o := .cells #[.int .i64 (t : Nat)] 3) (alloc_at w (.cells #[.slice ao len cap] 22))
  have h2 := alloc_at (w.alloc (.cells #[.slice ao len cap] 22)) (.cells #[.int .i64 (t : Nat)] 3)
  have e1 : (w.alloc (.cells #[.slice ao len cap] 22)).heap.size = w.heap.size + 1 := by simp
  rw [e1] at h2
  have hpay : PaysU 160 #[.pointer (some ⟨w.heap.size, 0, none⟩), .pointer (some ⟨w.heap.size + 1, 0, none⟩)] (fun n => decide (branchL L len (t : Nat) n < 0)) ((w.alloc (.cells #[.slice ao len cap] 22)).alloc (.cells #[.int .i64 (t : Nat)] 3)) := fun W n hW =>
    openF_any ao len cap L t hlen _ _ n W (keep6 hW (cell_at h1 rfl)) (keep6 hW (cell_at h2 rfl)) (hold (hold H hb) hW)
  obtain ⟨p, hpp⟩ := Int.eq_ofNat_of_zero_le hp.1
  have hpl : p < len := by omega
  have htg := tags_any ao len cap L t p ht hpl hlen hpp _ (hold H hb)
  have hT : openT L len t = okZ (firstZ (fun j => decide (branchL L len (t : Nat) ((tagsT (L p)).getD j 0) < 0)) (tagsT (L p)).length) := by
    rw [any_first (q := fun n => decide (branchL L len (t : Nat) n < 0))]; unfold openT; rw [hpp]; rfl
  have hll : (tagsT (L p)).length ≤ 3518437208782 := by
    obtain ⟨_, _, _, _, _, _, _, _, _, _, hi⟩ := H p hpl
    exact tagsT_len hi.1
  rw [hT]
  have hmf' := hmf
  have c1 := cell_at (j := 0) h1 rfl
  have c2 := cell_at (j := 0) h2 rfl
  have HB := Lib.hid hb
  have HP := Lib.hid hpay
  have HT := Lib.hid htg
  clear hb hpay htg hT h1 h2 H hpp hp
  go_enter Tryz.func137, Tryz.ntmps137
  go_upto_region 1 with (fail)
  generalize ((w.alloc (.cells #[.slice ao len cap] 22)).alloc (.cells #[.int .i64 (t : Nat)] 3)) = wb at *
  go_wp2_with (first
    | (go_at_call 159; refine HT.out.mono ?_; rintro e w1 ⟨v, rfl, hown, hb1⟩; obtain ⟨va, vc, rfl, hru⟩ := rowU_of hown; have HC := Lib.hid (containsU_any va _ vc _ _ _ _ hll w1 eOpen (HP.out.keep hb1) hru); have HB1 := Lib.hid (HB.out.trans (hb1.mono HB.out.size)); clear hown hb1 hru)
    | (go_at_call 158; refine HC.out.mono ?_; rintro e w2 ⟨rfl, hb2⟩; have HB2 := Lib.hid (HB1.out.trans (hb2.mono HB1.out.size)); clear hb2))
  go_ret
  exact ⟨rfl, HB2.out⟩
end Go.Proofs.YtficmdomnilhnaaGreat
