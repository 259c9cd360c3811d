/- Contract of package types: parts. -/
import Derived.Test.YtohphejhlgnciaaGreatTypesFind2
import Derived.Test.YtohphejhlgnciaaGreatTypesItem
namespace Go.Proofs.YtohphejhlgnciaaGreat
open Go.RowKit
set_option linter.unusedVariables false
theorem PSt.keep {g : Nat} {T : TypeV} {w0 : World} {v : Value} {l : List Int} {w w1 : World} (h : PSt g T w0 v l w) (hb : Below w.heap.size w w1) : PSt g T w0 v l w1 :=
  ⟨row_keep h.1 hb, (hb.block g (lt_of_block h.2.1)).trans h.2.1, h.2.2.trans (hb.mono (Nat.le_of_lt (lt_of_block h.2.1)))⟩
set_option maxHeartbeats 1000000 in
theorem parts6_one (T : TypeV) (w : World) (H : ItemsAt w T) (hk : T.kind = 11 ∨ T.kind = 12) :
    Calls Tryz.prog 88 #[typV T] w fun e w' => ∃ v, e = .returned v ∧ w'.ownsRow w.heap.size 3 1 v (partsL T).length ((partsL T).map (Value.int .i64)) ∧ Below w.heap.size w w' := by
  rw [partsL_one hk]
  obtain ⟨hil, hit⟩ := H
  obtain ⟨i0, hi, hz0, hz1, hz2⟩ := info_parts infoInt
  obtain ⟨ia, hia⟩ : ∃ ia, T.ia = ia := ⟨_, rfl⟩
  rw [hia] at hit
  have HI := Lib.hid hit
  have hst := PSt.start T w
  unfold typO at hst
  rw [hia] at hst
  have HS := Lib.hid hst
  clear hit hst
  unfold typV
  rw [hia]
  have HIA := Lib.hid hia
  clear hia
  have k1 : ofK T.kind = true := by simp [ofK]; omega
  have k2 : (T.kind == 14) = false := by simp; omega
  have k3 : tysK T.kind = false := by simp [tysK]; omega
  clear hk
  go_enter Tryz.func88, Tryz.ntmps88
  go_upto_region 1 with (fail)
  generalize (w.alloc (.cells #[.int .i64 T.kind, .string T.name, .int .i64 T.bound, .int .i64 T.of, .int .i64 T.tag, .slice ia T.ilen T.icap] 40)) = wb at *
  obtain ⟨c0, c3, c4, c5, hlt⟩ := HS.out.cells
  rw [HIA.out] at c5
  go_wp2_with (first
        | (go_at_call 84; refine (hasOf_any _ _).mono ?_; rintro e w' ⟨rfl, rfl⟩)
        | (go_at_call 85; refine (hasTag_any _ _).mono ?_; rintro e w' ⟨rfl, rfl⟩)
        | (go_at_call 106; refine (hasTypes_any _ _).mono ?_; rintro e w' ⟨rfl, rfl⟩)
        | (at_builtin; refine wpList_append_at rfl (.tmp 9) (.tmp 12) 50 rfl (w.heap.size + 1) 3 i0 (.int .i64 0) 1 8 Tryz.underlying50 hi hz0 hz1 hz2 rfl (by decide) _ 0 _ rfl (HS.out.1.alloc _) ⟨_, 0, none⟩ 1 1 [.int .i64 T.of] rfl rfl (fun j u hj => by match j, hj with | 0, hj => (simp at hj; subst hj; simp [Addr.add])) (fun u hu => by (simp at hu; subst hu; rfl)) (by unfold maxLen; omega) (by omega) (by simp <;> omega) ?_; intro v2 w2 hown2 hg2 hf2; have HS2 := Lib.hid (HS.out.next hown2 hg2); obtain ⟨e0, e3, e4, e5, hlt'⟩ := HS2.out.cells; clear hown2 hg2 hf2))
  go_ret
  exact ⟨_, rfl, HS2.out.out rfl⟩
set_option maxHeartbeats 1000000 in
theorem parts6_none (T : TypeV) (w : World) (H : ItemsAt w T) (h1 : ¬ (T.kind = 11 ∨ T.kind = 12)) (h2 : T.kind ≠ 13) (h3 : T.kind ≠ 14) :
    Calls Tryz.prog 88 #[typV T] w fun e w' => ∃ v, e = .returned v ∧ w'.ownsRow w.heap.size 3 1 v (partsL T).length ((partsL T).map (Value.int .i64)) ∧ Below w.heap.size w w' := by
  rw [partsL_none h1 h2 h3]
  obtain ⟨hil, hit⟩ := H
  obtain ⟨i0, hi, hz0, hz1, hz2⟩ := info_parts infoInt
  obtain ⟨ia, hia⟩ : ∃ ia, T.ia = ia := ⟨_, rfl⟩
  rw [hia] at hit
  have HI := Lib.hid hit
  have hst := PSt.start T w
  unfold typO at hst
  rw [hia] at hst
  have HS := Lib.hid hst
  clear hit hst
  unfold typV
  rw [hia]
  have HIA := Lib.hid hia
  clear hia
  have k1 : ofK T.kind = false := by simp [ofK]; omega
  have k2 : (T.kind == 14) = false := by simp; omega
  have k3 : tysK T.kind = false := by simp [tysK]; omega
  clear h1 h2 h3
  go_enter Tryz.func88, Tryz.ntmps88
  go_upto_region 1 with (fail)
  generalize (w.alloc (.cells #[.int .i64 T.kind, .string T.name, .int .i64 T.bound, .int .i64 T.of, .int .i64 T.tag, .slice ia T.ilen T.icap] 40)) = wb at *
  obtain ⟨c0, c3, c4, c5, hlt⟩ := HS.out.cells
  rw [HIA.out] at c5
  go_wp2_with (first
        | (go_at_call 84; refine (hasOf_any _ _).mono ?_; rintro e w' ⟨rfl, rfl⟩)
        | (go_at_call 85; refine (hasTag_any _ _).mono ?_; rintro e w' ⟨rfl, rfl⟩)
        | (go_at_call 106; refine (hasTypes_any _ _).mono ?_; rintro e w' ⟨rfl, rfl⟩))
  go_ret
  exact ⟨_, rfl, HS.out.out rfl⟩
set_option maxHeartbeats 1000000 in
theorem parts6_struct (T : TypeV) (w : World) (H : ItemsAt w T) (h13 : T.kind = 13) :
    Calls Tryz.prog 88 #[typV T] w fun e w' => ∃ v, e = .returned v ∧ w'.ownsRow w.heap.size 3 1 v (partsL T).length ((partsL T).map (Value.int .i64)) ∧ Below w.heap.size w w' := by
  rw [partsL_struct h13]
  obtain ⟨hil, hit⟩ := H
  obtain ⟨i0, hi, hz0, hz1, hz2⟩ := info_parts infoInt
  obtain ⟨ia, hia⟩ : ∃ ia, T.ia = ia := ⟨_, rfl⟩
  rw [hia] at hit
  have HI := Lib.hid hit
  have hst := PSt.start T w
  unfold typO at hst
  rw [hia] at hst
  have HS := Lib.hid hst
  clear hit hst
  unfold typV
  rw [hia]
  have HIA := Lib.hid hia
  clear hia
  have k1 : ofK T.kind = false := by simp [ofK]; omega
  have k2 : (T.kind == 14) = false := by simp; omega
  have k3 : tysK T.kind = true := by simp [tysK]; omega
  clear h13
  go_enter Tryz.func88, Tryz.ntmps88
  go_upto_region 1 with (fail)
  generalize (w.alloc (.cells #[.int .i64 T.kind, .string T.name, .int .i64 T.bound, .int .i64 T.of, .int .i64 T.tag, .slice ia T.ilen T.icap] 40)) = wb at *
  obtain ⟨c0, c3, c4, c5, hlt⟩ := HS.out.cells
  rw [HIA.out] at c5
  go_wp2_with (first
        | (go_at_call 84; refine (hasOf_any _ _).mono ?_; rintro e w' ⟨rfl, rfl⟩)
        | (go_at_call 85; refine (hasTag_any _ _).mono ?_; rintro e w' ⟨rfl, rfl⟩)
        | (go_at_call 106; refine (hasTypes_any _ _).mono ?_; rintro e w' ⟨rfl, rfl⟩))
  go_loopw [3, 28] (fun v i wr => ∃ j : Nat, j ≤ T.ilen ∧ i = .int .i64 j ∧ Hid (PSt w.heap.size T w v ((List.range j).map fun m => (T.items m).type) wr)) (fun _ i _ => T.ilen - (intOf i).toNat)
  case atStart => exact ⟨0, Nat.zero_le _, rfl, HS⟩
  case round =>
    obtain ⟨j, hj, rfl, HP⟩ := hrel
    have hlt3 := lt_of_block HP.out.2.1
    by_cases hlt2 : j < T.ilen
    · have hln : ((List.range j).map fun m => (T.items m).type).length ≤ 3518437208782 := by simp; omega
      have hiat := (HI.out j hlt2).held (w1 := wr) HP.out.2.2
      obtain ⟨b, off, rfl, d0, d1, d2, d3, d4, wi⟩ := hiat
      have HT := Lib.hid (items_take T j)
      have HP2 := Lib.hid (HP.out.keep ((Below.refl _ _).alloc (Nat.le_refl _) (itmO (T.items j))))
      unfold itmO at HP2
      obtain ⟨wo, rfl⟩ : ∃ wo : World, wo = wr := ⟨_, rfl⟩
      go_wp2_with (at_builtin; refine wpList_append_at rfl (.tmp 32) (.tmp 35) 50 rfl (w.heap.size + 1) 3 i0 (.int .i64 0) 1 8 Tryz.underlying50 hi hz0 hz1 hz2 rfl (by decide) _ _ _ rfl (HP2.out.1.alloc _) ⟨_, 0, none⟩ 1 1 [.int .i64 (T.items j).type] rfl rfl (fun j u hj => by match j, hj with | 0, hj => (simp at hj; subst hj; simp [Addr.add])) (fun u hu => by (simp at hu; subst hu; rfl)) (by unfold maxLen; omega) (by omega) (by simp <;> omega) ?_; intro v2 w2 hown2 hg2 hf2; have HQ := Lib.hid (HP2.out.next (x := (T.items j).type) (by simpa using hown2) hg2); clear hown2 hg2 hf2)
      go_wp2
      go_roundw
      case rel => exact ⟨j + 1, by omega, by go_num, (by rw [HT.out]; exact HQ)⟩
      case measure => simp [intOf]; omega
    · obtain rfl : j = T.ilen := by omega
      go_wp2
      go_ret
      exact ⟨_, rfl, HP.out.out rfl⟩
set_option maxHeartbeats 1000000 in
theorem parts6_union (T : TypeV) (w : World) (H : ItemsAt w T) (h14 : T.kind = 14) :
    Calls Tryz.prog 88 #[typV T] w fun e w' => ∃ v, e = .returned v ∧ w'.ownsRow w.heap.size 3 1 v (partsL T).length ((partsL T).map (Value.int .i64)) ∧ Below w.heap.size w w' := by
  rw [partsL_union h14]
  obtain ⟨hil, hit⟩ := H
  obtain ⟨i0, hi, hz0, hz1, hz2⟩ := info_parts infoInt
  obtain ⟨ia, hia⟩ : ∃ ia, T.ia = ia := ⟨_, rfl⟩
  rw [hia] at hit
  have HI := Lib.hid hit
  have hst := PSt.start T w
  unfold typO at hst
  rw [hia] at hst
  have HS := Lib.hid hst
  clear hit hst
  unfold typV
  rw [hia]
  have HIA := Lib.hid hia
  clear hia
  have k1 : ofK T.kind = false := by simp [ofK]; omega
  have k2 : (T.kind == 14) = true := by simp; omega
  have k3 : tysK T.kind = true := by simp [tysK]; omega
  clear h14
  go_enter Tryz.func88, Tryz.ntmps88
  go_upto_region 1 with (fail)
  generalize (w.alloc (.cells #[.int .i64 T.kind, .string T.name, .int .i64 T.bound, .int .i64 T.of, .int .i64 T.tag, .slice ia T.ilen T.icap] 40)) = wb at *
  obtain ⟨c0, c3, c4, c5, hlt⟩ := HS.out.cells
  rw [HIA.out] at c5
  go_wp2_with (first
        | (go_at_call 84; refine (hasOf_any _ _).mono ?_; rintro e w' ⟨rfl, rfl⟩)
        | (go_at_call 85; refine (hasTag_any _ _).mono ?_; rintro e w' ⟨rfl, rfl⟩)
        | (go_at_call 106; refine (hasTypes_any _ _).mono ?_; rintro e w' ⟨rfl, rfl⟩)
        | (at_builtin; refine wpList_append_at rfl (.tmp 17) (.tmp 20) 50 rfl (w.heap.size + 1) 3 i0 (.int .i64 0) 1 8 Tryz.underlying50 hi hz0 hz1 hz2 rfl (by decide) _ 0 _ rfl (HS.out.1.alloc _) ⟨_, 0, none⟩ 1 1 [.int .i64 T.tag] rfl rfl (fun j u hj => by match j, hj with | 0, hj => (simp at hj; subst hj; simp [Addr.add])) (fun u hu => by (simp at hu; subst hu; rfl)) (by unfold maxLen; omega) (by omega) (by simp <;> omega) ?_; intro v2 w2 hown2 hg2 hf2; have HS2 := Lib.hid (HS.out.next hown2 hg2); obtain ⟨e0, e3, e4, e5, hlt'⟩ := HS2.out.cells; rw [HIA.out] at e5; clear hown2 hg2 hf2))
  go_loopw [3, 28] (fun v i wr => ∃ j : Nat, j ≤ T.ilen ∧ i = .int .i64 j ∧ Hid (PSt w.heap.size T w v (T.tag :: (List.range j).map fun m => (T.items m).type) wr)) (fun _ i _ => T.ilen - (intOf i).toNat)
  case atStart => exact ⟨0, Nat.zero_le _, rfl, HS2⟩
  case round =>
    obtain ⟨j, hj, rfl, HP⟩ := hrel
    have hlt3 := lt_of_block HP.out.2.1
    by_cases hlt2 : j < T.ilen
    · have hln : (T.tag :: (List.range j).map fun m => (T.items m).type).length ≤ 3518437208782 := by simp; omega
      have hiat := (HI.out j hlt2).held (w1 := wr) HP.out.2.2
      obtain ⟨b, off, rfl, d0, d1, d2, d3, d4, wi⟩ := hiat
      have HT := Lib.hid (items_take T j)
      have HP2 := Lib.hid (HP.out.keep ((Below.refl _ _).alloc (Nat.le_refl _) (itmO (T.items j))))
      unfold itmO at HP2
      obtain ⟨wo, rfl⟩ : ∃ wo : World, wo = wr := ⟨_, rfl⟩
      go_wp2_with (at_builtin; refine wpList_append_at rfl (.tmp 32) (.tmp 35) 50 rfl (w.heap.size + 1) 3 i0 (.int .i64 0) 1 8 Tryz.underlying50 hi hz0 hz1 hz2 rfl (by decide) _ _ _ rfl (HP2.out.1.alloc _) ⟨_, 0, none⟩ 1 1 [.int .i64 (T.items j).type] rfl rfl (fun j u hj => by match j, hj with | 0, hj => (simp at hj; subst hj; simp [Addr.add])) (fun u hu => by (simp at hu; subst hu; rfl)) (by unfold maxLen; omega) (by omega) (by simp <;> omega) ?_; intro v2 w2 hown2 hg2 hf2; have HQ := Lib.hid (HP2.out.next (x := (T.items j).type) (by simpa using hown2) hg2); clear hown2 hg2 hf2)
      go_wp2
      go_roundw
      case rel => exact ⟨j + 1, by omega, by go_num, (by rw [HT.out]; exact HQ)⟩
      case measure => simp [intOf]; omega
    · obtain rfl : j = T.ilen := by omega
      go_wp2
      go_ret
      exact ⟨_, rfl, HP.out.out rfl⟩
theorem parts6_any (T : TypeV) (w : World) (H : ItemsAt w T) :
    Calls Tryz.prog 88 #[typV T] w fun e w' => ∃ v, e = .returned v ∧ w'.ownsRow w.heap.size 3 1 v (partsL T).length ((partsL T).map (Value.int .i64)) ∧ Below w.heap.size w w' := by
  by_cases h1 : T.kind = 11 ∨ T.kind = 12
  · exact parts6_one T w H h1
  · by_cases h3 : T.kind = 13
    · exact parts6_struct T w H h3
    · by_cases h4 : T.kind = 14
      · exact parts6_union T w H h4
      · exact parts6_none T w H h1 h3 h4
end Go.Proofs.YtohphejhlgnciaaGreat
