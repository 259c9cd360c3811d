/- Contract of chapter 6's reference: Parts. -/
import Derived.Test.YtohphejhlgnciaaGreatTypesRef2
import Derived.Laws.OwnMore
import Derived.Lib.Hide
import Derived.Lib.SmallJoins
import Derived.BigGuardPart
import Derived.LoopN
namespace Go.Proofs.YtohphejhlgnciaaGreat
open Go.RowKit
set_option linter.unusedVariables false
theorem infoInt : (Tryz.prog.info? 3).map (fun i => (i.zero, i.size, i.bytes)) = some (some (.int .i64 0), 1, 8) := by kernel_rfl
/-- the parts of a type, in order -/
def partsL (T : TypeV) : List Int :=
  (if T.kind = 11 ∨ T.kind = 12 then [T.of] else []) ++ (if T.kind = 14 then [T.tag] else []) ++ (if T.kind = 13 ∨ T.kind = 14 then (List.range T.ilen).map fun j => (T.items j).type else [])
theorem partsL_one {T : TypeV} (h : T.kind = 11 ∨ T.kind = 12) : partsL T = [T.of] := by
  unfold partsL; rw [if_pos h, if_neg (by omega), if_neg (by omega)]; simp
theorem partsL_struct {T : TypeV} (h : T.kind = 13) : partsL T = (List.range T.ilen).map fun j => (T.items j).type := by
  unfold partsL; rw [if_neg (by omega), if_neg (by omega), if_pos (by omega)]; simp
theorem partsL_union {T : TypeV} (h : T.kind = 14) : partsL T = T.tag :: (List.range T.ilen).map fun j => (T.items j).type := by
  unfold partsL; rw [if_neg (by omega), if_pos h, if_pos (by omega)]; simp
theorem partsL_none {T : TypeV} (h1 : ¬ (T.kind = 11 ∨ T.kind = 12)) (h2 : T.kind ≠ 13) (h3 : T.kind ≠ 14) : partsL T = [] := by
  unfold partsL; rw [if_neg h1, if_neg h3, if_neg (by omega)]; simp
def typO (T : TypeV) : Obj := .cells #[.int .i64 T.kind, .string T.name, .int .i64 T.bound, .int .i64 T.of, .int .i64 T.tag, .slice T.ia T.ilen T.icap] 40
/-- the row that is being made, beside the type's box -/
def PSt (g : Nat) (T : TypeV) (w0 : World) (v : Value) (l : List Int) (w : World) : Prop := w.ownsRow (g + 1) 3 1 v l.length (l.map (Value.int .i64)) ∧ w.heap[g]? = some (typO T) ∧ Below g w0 w
theorem PSt.cells {g : Nat} {T : TypeV} {w0 : World} {v : Value} {l : List Int} {w : World} (h : PSt g T w0 v l w) : w.cell? ⟨g, 0, none⟩ = some (.int .i64 T.kind) ∧ w.cell? ⟨g, 3, none⟩ = some (.int .i64 T.of) ∧ w.cell? ⟨g, 4, none⟩ = some (.int .i64 T.tag) ∧ w.cell? ⟨g, 5, none⟩ = some (.slice T.ia T.ilen T.icap) ∧ g < w.heap.size :=
  ⟨cell_at h.2.1 rfl, cell_at h.2.1 rfl, cell_at h.2.1 rfl, cell_at h.2.1 rfl, lt_of_block h.2.1⟩
theorem PSt.next {g : Nat} {T : TypeV} {w0 : World} {v v2 : Value} {l : List Int} {x : Int} {o : Obj} {w w2 : World} (h : PSt g T w0 v l w) (h2 : w2.ownsRow (g + 1) 3 1 v2 (l.length + 1) (l.map (Value.int .i64) ++ [.int .i64 x])) (hg : (w.alloc o).grownBy w2 v.ownBlock) : PSt g T w0 v2 (l ++ [x]) w2 := by
  have hlt := lt_of_block h.2.1
  have hb : Below g w0 w2 := (h.2.2.alloc (Nat.le_of_lt hlt) o).grown hg (by simp; omega) (fun k hk => by have := (h.1.lt k hk).1; omega)
  refine ⟨by simpa using h2, ?_, hb⟩
  have h3 := alloc_old (o := o) h.2.1
  exact (hg.block g (lt_of_block h3) (fun e => by have := (h.1.lt g e.symm).1; omega)).trans h3
theorem PSt.out {g : Nat} {T : TypeV} {w0 : World} {v : Value} {l : List Int} {w : World} (h : PSt g T w0 v l w) (hg : w0.heap.size = g) : w.ownsRow w0.heap.size 3 1 v l.length (l.map (Value.int .i64)) ∧ Below w0.heap.size w0 w := by
  subst hg
  exact ⟨Joins.ownsRow_le h.1 (Nat.le_succ _), h.2.2⟩
theorem PSt.start (T : TypeV) (w : World) : PSt w.heap.size T w (.slice none 0 0) [] (w.alloc (typO T)) := ⟨World.ownsRow_nil _ _ _ _, alloc_at w _, (Below.refl _ _).alloc (Nat.le_refl _) _⟩
theorem items_take (T : TypeV) (k : Nat) : (List.range (k + 1)).map (fun j => (T.items j).type) = (List.range k).map (fun j => (T.items j).type) ++ [(T.items k).type] := by rw [List.range_succ, List.map_append]; rfl
set_option maxRecDepth 20000 in
set_option maxHeartbeats 1000000 in
theorem refParts_one (T : TypeV) (w : World) (hil : T.ilen ≤ 3518437208780) (hk : T.kind = 11 ∨ T.kind = 12) :
    Calls Tryz.prog 52 #[typV T] w fun e w' => ∃ v, e = .returned v ∧ w'.ownsRow w.heap.size 3 1 v (partsL T).length ((partsL T).map (Value.int .i64)) ∧ Below w.heap.size w w' := by
  rw [partsL_one hk]
  obtain ⟨i0, hi, hz0, hz1, hz2⟩ := info_parts infoInt
  have HS := Lib.hid (PSt.start T w)
  have k14 : (T.kind == 14) = false := by simp; omega
  have k13 : decide (13 ≤ T.kind) = false := by simp; omega
  unfold typV
  cases k11 : (T.kind == 11) with
  | true =>
    go_enter Tryz.func52, Tryz.ntmps52
    go_wp2_with (at_builtin; refine wpList_append_at rfl (.tmp 13) (.tmp 16) 50 rfl (w.heap.size + 1) 3 i0 (.int .i64 0) 1 8 Tryz.underlying50 hi hz0 hz1 hz2 rfl (by decide) _ 0 _ rfl (HS.out.1.alloc _) ⟨_, 0, none⟩ 1 1 [.int .i64 T.of] rfl rfl (fun j u hj => by match j, hj with | 0, hj => (simp at hj; subst hj; simp [Addr.add])) (fun u hu => by (simp at hu; subst hu; rfl)) (by unfold maxLen; omega) (by omega) (by simp <;> omega) ?_; intro v2 w2 hown2 hg2 hf2; have HS2 := Lib.hid (HS.out.next hown2 hg2); obtain ⟨c0, c3, c4, c5, hlt⟩ := HS2.out.cells; clear hown2 hg2 hf2)
    refine wp_loop_rounds 1 ?_
    rw [rounds_succ]
    go_wp2
    all_goals
      go_ret
      exact ⟨_, rfl, HS2.out.out rfl⟩
  | false =>
    have k12 : (T.kind == 12) = true := by simp at k11 ⊢; omega
    go_enter Tryz.func52, Tryz.ntmps52
    go_wp2_with (at_builtin; refine wpList_append_at rfl (.tmp 13) (.tmp 16) 50 rfl (w.heap.size + 1) 3 i0 (.int .i64 0) 1 8 Tryz.underlying50 hi hz0 hz1 hz2 rfl (by decide) _ 0 _ rfl (HS.out.1.alloc _) ⟨_, 0, none⟩ 1 1 [.int .i64 T.of] rfl rfl (fun j u hj => by match j, hj with | 0, hj => (simp at hj; subst hj; simp [Addr.add])) (fun u hu => by (simp at hu; subst hu; rfl)) (by unfold maxLen; omega) (by omega) (by simp <;> omega) ?_; intro v2 w2 hown2 hg2 hf2; have HS2 := Lib.hid (HS.out.next hown2 hg2); obtain ⟨c0, c3, c4, c5, hlt⟩ := HS2.out.cells; clear hown2 hg2 hf2)
    refine wp_loop_rounds 1 ?_
    rw [rounds_succ]
    go_wp2
    all_goals
      go_ret
      exact ⟨_, rfl, HS2.out.out rfl⟩
set_option maxHeartbeats 1000000 in
theorem refParts_none (T : TypeV) (w : World) (hil : T.ilen ≤ 3518437208780) (h1 : ¬ (T.kind = 11 ∨ T.kind = 12)) (h2 : T.kind ≠ 13) (h3 : T.kind ≠ 14) :
    Calls Tryz.prog 52 #[typV T] w fun e w' => ∃ v, e = .returned v ∧ w'.ownsRow w.heap.size 3 1 v (partsL T).length ((partsL T).map (Value.int .i64)) ∧ Below w.heap.size w w' := by
  rw [partsL_none h1 h2 h3]
  have HS := Lib.hid (PSt.start T w)
  have k11 : (T.kind == 11) = false := by simp; omega
  have k12 : (T.kind == 12) = false := by simp; omega
  have k14 : (T.kind == 14) = false := by simp; omega
  unfold typV
  by_cases h13 : 13 ≤ T.kind
  · have k13 : decide (13 ≤ T.kind) = true := by simpa using h13
    have l14 : decide (T.kind ≤ 14) = false := by simp; omega
    clear h1 h2 h3
    go_enter Tryz.func52, Tryz.ntmps52
    go_wp2
    refine wp_loop_rounds 1 ?_
    rw [rounds_succ]
    go_wp2
    all_goals
      go_ret
      exact ⟨_, rfl, HS.out.out rfl⟩
  · have k13 : decide (13 ≤ T.kind) = false := by simpa using h13
    clear h1 h2 h3
    go_enter Tryz.func52, Tryz.ntmps52
    go_wp2
    refine wp_loop_rounds 1 ?_
    rw [rounds_succ]
    go_wp2
    all_goals
      go_ret
      exact ⟨_, rfl, HS.out.out rfl⟩
set_option maxHeartbeats 1000000 in
theorem refParts_struct (T : TypeV) (w : World) (H : ItemsAt w T) (h13 : T.kind = 13) :
    Calls Tryz.prog 52 #[typV T] w fun e w' => ∃ v, e = .returned v ∧ w'.ownsRow w.heap.size 3 1 v (partsL T).length ((partsL T).map (Value.int .i64)) ∧ Below w.heap.size w w' := by
  rw [partsL_struct h13]
  obtain ⟨hil, hit⟩ := H
  have HI := Lib.hid hit
  clear hit
  obtain ⟨i0, hi, hz0, hz1, hz2⟩ := info_parts infoInt
  have HS := Lib.hid (PSt.start T w)
  have k11 : (T.kind == 11) = false := by simp; omega
  have k12 : (T.kind == 12) = false := by simp; omega
  have k14 : (T.kind == 14) = false := by simp; omega
  have k13 : decide (13 ≤ T.kind) = true := by simp; omega
  have l14 : decide (T.kind ≤ 14) = true := by simp; omega
  clear h13
  unfold typV
  · go_enter Tryz.func52, Tryz.ntmps52
    go_wp2
    go_loopw [3, 4] (fun v i wr => ∃ j : Nat, j ≤ T.ilen ∧ i = .int .i64 j ∧ Hid (PSt w.heap.size T w v ((List.range j).map fun m => (T.items m).type) wr)) (fun _ i _ => T.ilen - (intOf i).toNat)
    case atStart => exact ⟨0, Nat.zero_le _, rfl, HS⟩
    case round =>
      obtain ⟨j, hj, rfl, HP⟩ := hrel
      obtain ⟨c0, c3, c4, c5, hlt⟩ := HP.out.cells
      by_cases hlt2 : j < T.ilen
      · have hln : ((List.range j).map fun m => (T.items m).type).length ≤ 3518437208782 := by simp; omega
        have hiat := (HI.out j hlt2).held (w1 := wr) HP.out.2.2
        obtain ⟨b, off, hia, d0, d1, d2, d3, d4, wi⟩ := hiat
        have HT := Lib.hid (items_take T j)
        rw [hia] at c5
        clear hia
        obtain ⟨wo, rfl⟩ : ∃ wo : World, wo = wr := ⟨_, rfl⟩
        go_wp2_with (at_builtin; refine wpList_append_at rfl (.tmp 43) (.tmp 50) 50 rfl (w.heap.size + 1) 3 i0 (.int .i64 0) 1 8 Tryz.underlying50 hi hz0 hz1 hz2 rfl (by decide) _ _ _ rfl (HP.out.1.alloc _) ⟨_, 0, none⟩ 1 1 [.int .i64 (T.items j).type] rfl rfl (fun j u hj => by match j, hj with | 0, hj => (simp at hj; subst hj; simp [Addr.add])) (fun u hu => by (simp at hu; subst hu; rfl)) (by unfold maxLen; omega) (by omega) (by simp <;> omega) ?_; intro v2 w2 hown2 hg2 hf2; have HQ := Lib.hid (HP.out.next (x := (T.items j).type) (by simpa using hown2) hg2); clear hown2 hg2 hf2)
        go_wp2
        go_roundw
        case rel => exact ⟨j + 1, by omega, by go_num, (by rw [HT.out]; exact HQ)⟩
        case measure => simp [intOf]; omega
      · obtain rfl : j = T.ilen := by omega
        go_wp2
        go_ret
        exact ⟨_, rfl, HP.out.out rfl⟩
set_option maxHeartbeats 1000000 in
theorem refParts_union (T : TypeV) (w : World) (H : ItemsAt w T) (h14 : T.kind = 14) :
    Calls Tryz.prog 52 #[typV T] w fun e w' => ∃ v, e = .returned v ∧ w'.ownsRow w.heap.size 3 1 v (partsL T).length ((partsL T).map (Value.int .i64)) ∧ Below w.heap.size w w' := by
  rw [partsL_union h14]
  obtain ⟨hil, hit⟩ := H
  have HI := Lib.hid hit
  clear hit
  obtain ⟨i0, hi, hz0, hz1, hz2⟩ := info_parts infoInt
  have HS := Lib.hid (PSt.start T w)
  have k11 : (T.kind == 11) = false := by simp; omega
  have k12 : (T.kind == 12) = false := by simp; omega
  have k14 : (T.kind == 14) = true := by simp; omega
  have k13 : decide (13 ≤ T.kind) = true := by simp; omega
  have l14 : decide (T.kind ≤ 14) = true := by simp; omega
  clear h14
  unfold typV
  · go_enter Tryz.func52, Tryz.ntmps52
    go_wp2_with (at_builtin; refine wpList_append_at rfl (.tmp 21) (.tmp 24) 50 rfl (w.heap.size + 1) 3 i0 (.int .i64 0) 1 8 Tryz.underlying50 hi hz0 hz1 hz2 rfl (by decide) _ 0 _ rfl (HS.out.1.alloc _) ⟨_, 0, none⟩ 1 1 [.int .i64 T.tag] rfl rfl (fun j u hj => by match j, hj with | 0, hj => (simp at hj; subst hj; simp [Addr.add])) (fun u hu => by (simp at hu; subst hu; rfl)) (by unfold maxLen; omega) (by omega) (by simp <;> omega) ?_; intro v2 w2 hown2 hg2 hf2; have HS2 := Lib.hid (HS.out.next hown2 hg2); obtain ⟨c0, c3, c4, c5, hlt⟩ := HS2.out.cells; clear hown2 hg2 hf2)
    go_loopw [3, 4] (fun v i wr => ∃ j : Nat, j ≤ T.ilen ∧ i = .int .i64 j ∧ Hid (PSt w.heap.size T w v (T.tag :: (List.range j).map fun m => (T.items m).type) wr)) (fun _ i _ => T.ilen - (intOf i).toNat)
    case atStart => exact ⟨0, Nat.zero_le _, rfl, HS2⟩
    case round =>
      obtain ⟨j, hj, rfl, HP⟩ := hrel
      obtain ⟨c0, c3, c4, c5, hlt⟩ := HP.out.cells
      by_cases hlt2 : j < T.ilen
      · have hln : (T.tag :: (List.range j).map fun m => (T.items m).type).length ≤ 3518437208782 := by simp; omega
        have hiat := (HI.out j hlt2).held (w1 := wr) HP.out.2.2
        obtain ⟨b, off, hia, d0, d1, d2, d3, d4, wi⟩ := hiat
        have HT := Lib.hid (items_take T j)
        rw [hia] at c5
        clear hia
        obtain ⟨wo, rfl⟩ : ∃ wo : World, wo = wr := ⟨_, rfl⟩
        go_wp2_with (at_builtin; refine wpList_append_at rfl (.tmp 43) (.tmp 50) 50 rfl (w.heap.size + 1) 3 i0 (.int .i64 0) 1 8 Tryz.underlying50 hi hz0 hz1 hz2 rfl (by decide) _ _ _ rfl (HP.out.1.alloc _) ⟨_, 0, none⟩ 1 1 [.int .i64 (T.items j).type] rfl rfl (fun j u hj => by match j, hj with | 0, hj => (simp at hj; subst hj; simp [Addr.add])) (fun u hu => by (simp at hu; subst hu; rfl)) (by unfold maxLen; omega) (by omega) (by simp <;> omega) ?_; intro v2 w2 hown2 hg2 hf2; have HQ := Lib.hid (HP.out.next (x := (T.items j).type) (by simpa using hown2) hg2); clear hown2 hg2 hf2)
        go_wp2
        go_roundw
        case rel => exact ⟨j + 1, by omega, by go_num, (by rw [HT.out]; exact HQ)⟩
        case measure => simp [intOf]; omega
      · obtain rfl : j = T.ilen := by omega
        go_wp2
        go_ret
        exact ⟨_, rfl, HP.out.out rfl⟩
theorem refParts_any (T : TypeV) (w : World) (H : ItemsAt w T) :
    Calls Tryz.prog 52 #[typV T] w fun e w' => ∃ v, e = .returned v ∧ w'.ownsRow w.heap.size 3 1 v (partsL T).length ((partsL T).map (Value.int .i64)) ∧ Below w.heap.size w w' := by
  by_cases h1 : T.kind = 11 ∨ T.kind = 12
  · exact refParts_one T w H.1 h1
  · by_cases h3 : T.kind = 13
    · exact refParts_struct T w H h3
    · by_cases h4 : T.kind = 14
      · exact refParts_union T w H h4
      · exact refParts_none T w H.1 h1 h3 h4
end Go.Proofs.YtohphejhlgnciaaGreat
