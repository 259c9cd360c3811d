/- Contract of chapter 9's reference: Parts. -/
import Derived.Test.YtohphejhlgnciaaGreatFitsRef
import Derived.BigQuiet
namespace Go.Proofs.YtohphejhlgnciaaGreat
open Go.RowKit
set_option linter.unusedVariables false
theorem TypeAt.items {w : World} {ao : Option Addr} {i : Nat} {T : TypeV} (h : TypeAt w ao i T) : ItemsAt w T := by
  obtain ⟨_, _, _, _, _, _, _, _, _, _, hi⟩ := h
  exact hi
theorem PSt.bound {g : Nat} {T : TypeV} {w0 : World} {v : Value} {l : List Int} {w : World} (h : PSt g T w0 v l w) : w.cell? ⟨g, 2, none⟩ = some (.int .i64 T.bound) := cell_at h.2.1 rfl
theorem PSt.box {T : TypeV} {w w' : World} {o : Obj} {v : Value} {l : List Int} (h : PSt (w.heap.size + 1) T (w.alloc o) v l w') : w'.heap[w.heap.size]? = some o := (h.2.2.block w.heap.size (Nat.lt_succ_self _)).trans (alloc_at w o)
theorem okP_not {X : TypeV} {m : Nat} (h : X.kind ≠ 11) : okP X m = true := by unfold okP; rw [if_neg h]
theorem PSt.belowW {T : TypeV} {w w' : World} {o : Obj} {v : Value} {l : List Int} (h : PSt (w.heap.size + 1) T (w.alloc o) v l w') : Below w.heap.size w w' := ((Below.refl _ _).alloc (Nat.le_refl _) o).trans (h.2.2.mono (by simp))
set_option maxRecDepth 20000 in
set_option maxHeartbeats 2000000 in
theorem refParts9_none (ao : Option Addr) (len cap : Nat) (t : Nat) (X : TypeV) (T : VT) (hlen : len ≤ 1000000) (ht : t < len) (hl : T.len ≤ 2513169434843) (w : World) (HX : TypeAt w ao t X) (hk : X.kind < 11) :
    Calls Tryz.prog 35 #[.slice ao len cap, .int .i64 t, .agg #[.int .i64 T.kind, .int .u64 T.num, .string T.text, .slice T.ia T.len T.cap]] w (PartsTo X T w) := by
  obtain ⟨i0, hi0, hz0, hz1, hz2⟩ := info_parts infoInt
  have HS := Lib.hid (PSt.first X w (.cells #[.int .i64 T.kind, .int .u64 T.num, .string T.text, .slice T.ia T.len T.cap] 26))
  unfold typO at HS
  have HQ := Lib.hid (show ((w.alloc (.cells #[.int .i64 T.kind, .int .u64 T.num, .string T.text, .slice T.ia T.len T.cap] 26)).alloc (.cells #[.int .i64 X.kind, .string X.name, .int .i64 X.bound, .int .i64 X.of, .int .i64 X.tag, .slice X.ia X.ilen X.icap] 40)).heap[w.heap.size]? = some (.cells #[.int .i64 T.kind, .int .u64 T.num, .string T.text, .slice T.ia T.len T.cap] 26) from alloc_old (alloc_at w _))
  have HIT := Lib.hid (fun wx (hb : Below w.heap.size w wx) => HX.held hb)
  obtain ⟨b, off, rfl, c0, c1, c2, c3, c4, c5, wf, hit⟩ := HX
  have hbl : b < w.heap.size := World.block_lt_of_cell? w _ c0
  have hne : ¬ b = w.heap.size := by omega
  have hil := hit.1
  clear hit wf
  have hN : partN X T.num T.len = 0 := by unfold partN; rw [if_neg (by omega), if_neg (by omega), if_neg (by omega), if_neg (by omega)]
  have hok := okP_not (X := X) (m := T.len) (by omega)
  have k11 : (X.kind == 11) = false := by simp; omega
  have k12 : (X.kind == 12) = false := by simp; omega
  have k13 : (X.kind == 13) = false := by simp; omega
  have k14 : (X.kind == 14) = false := by simp; omega
  unfold PartsTo
  rw [hok]
  have HF := Lib.hid (fun v wr (h : PSt (w.heap.size + 1) X (w.alloc (.cells #[.int .i64 T.kind, .int .u64 T.num, .string T.text, .slice T.ia T.len T.cap] 26)) v [] wr) => PSt.parts (T := T) (N := 0) h hN)
  clear hk hN hok
  go_enter Tryz.func35, Tryz.ntmps35
  go_upto_region 3 with (fail)
  clear c0 c1 c2 c3 c4 c5 hbl hne
  generalize (w.alloc (.cells #[.int .i64 T.kind, .int .u64 T.num, .string T.text, .slice T.ia T.len T.cap] 26)).alloc (.cells #[.int .i64 X.kind, .string X.name, .int .i64 X.bound, .int .i64 X.of, .int .i64 X.tag, .slice X.ia X.ilen X.icap] 40) = W0 at *
  obtain ⟨x0, x3, x4, x5, hlt0⟩ := HS.out.cells
  have x2 := HS.out.bound
  have d1 : W0.cell? ⟨w.heap.size, 1, none⟩ = some (.int .u64 T.num) := cell_at HQ.out rfl
  have d3 : W0.cell? ⟨w.heap.size, 3, none⟩ = some (.slice T.ia T.len T.cap) := cell_at HQ.out rfl
  go_wp2
  go_ret2
  exact ⟨_, rfl, HF.out _ _ HS.out⟩
set_option maxRecDepth 20000 in
set_option maxHeartbeats 2000000 in
theorem refParts9_seq (ao : Option Addr) (len cap : Nat) (t : Nat) (X : TypeV) (T : VT) (hlen : len ≤ 1000000) (ht : t < len) (hl : T.len ≤ 2513169434843) (w : World) (HX : TypeAt w ao t X) (hK : X.kind = 11) :
    Calls Tryz.prog 35 #[.slice ao len cap, .int .i64 t, .agg #[.int .i64 T.kind, .int .u64 T.num, .string T.text, .slice T.ia T.len T.cap]] w (PartsTo X T w) := by
  obtain ⟨i0, hi0, hz0, hz1, hz2⟩ := info_parts infoInt
  have HS := Lib.hid (PSt.first X w (.cells #[.int .i64 T.kind, .int .u64 T.num, .string T.text, .slice T.ia T.len T.cap] 26))
  unfold typO at HS
  have HQ := Lib.hid (show ((w.alloc (.cells #[.int .i64 T.kind, .int .u64 T.num, .string T.text, .slice T.ia T.len T.cap] 26)).alloc (.cells #[.int .i64 X.kind, .string X.name, .int .i64 X.bound, .int .i64 X.of, .int .i64 X.tag, .slice X.ia X.ilen X.icap] 40)).heap[w.heap.size]? = some (.cells #[.int .i64 T.kind, .int .u64 T.num, .string T.text, .slice T.ia T.len T.cap] 26) from alloc_old (alloc_at w _))
  have HIT := Lib.hid (fun wx (hb : Below w.heap.size w wx) => HX.held hb)
  obtain ⟨b, off, rfl, c0, c1, c2, c3, c4, c5, wf, hit⟩ := HX
  have hbl : b < w.heap.size := World.block_lt_of_cell? w _ c0
  have hne : ¬ b = w.heap.size := by omega
  have hil := hit.1
  clear hit wf
  have hN : partN X T.num T.len = T.len := by unfold partN; rw [if_pos hK]
  have hpf : ∀ i, partF X T.num i = X.of := fun i => by unfold partF; rw [if_neg (by omega), if_neg (by omega)]
  have k11 : (X.kind == 11) = true := by simp; omega
  unfold PartsTo
  obtain ⟨okb, hokb⟩ : ∃ q, decide ((T.len : Int) ≤ X.bound) = q := ⟨_, rfl⟩
  have hok : okP X T.len = okb := by unfold okP; rw [if_pos hK, hokb]
  rw [hok]
  have HF := Lib.hid (fun v wr (h : PSt (w.heap.size + 1) X (w.alloc (.cells #[.int .i64 T.kind, .int .u64 T.num, .string T.text, .slice T.ia T.len T.cap] 26)) v (listF X T.num (T.len)) wr) => PSt.parts (T := T) h hN)
  have HPF := Lib.hid hpf
  clear hK hN hok hpf
  go_enter Tryz.func35, Tryz.ntmps35
  go_upto_region 3 with (fail)
  clear c0 c1 c2 c3 c4 c5 hbl hne
  generalize (w.alloc (.cells #[.int .i64 T.kind, .int .u64 T.num, .string T.text, .slice T.ia T.len T.cap] 26)).alloc (.cells #[.int .i64 X.kind, .string X.name, .int .i64 X.bound, .int .i64 X.of, .int .i64 X.tag, .slice X.ia X.ilen X.icap] 40) = W0 at *
  obtain ⟨x0, x3, x4, x5, hlt0⟩ := HS.out.cells
  have x2 := HS.out.bound
  have d1 : W0.cell? ⟨w.heap.size, 1, none⟩ = some (.int .u64 T.num) := cell_at HQ.out rfl
  have d3 : W0.cell? ⟨w.heap.size, 3, none⟩ = some (.slice T.ia T.len T.cap) := cell_at HQ.out rfl
  go_wp2
  go_loopw [9, 10] (fun v i wr => ∃ j : Nat, j ≤ T.len ∧ i = .int .i64 j ∧ Hid (PSt (w.heap.size + 1) X (w.alloc (.cells #[.int .i64 T.kind, .int .u64 T.num, .string T.text, .slice T.ia T.len T.cap] 26)) v (listF X T.num j) wr)) (fun _ i _ => T.len - (intOf i).toNat)
  case atStart => exact ⟨0, Nat.zero_le _, rfl, HS⟩
  case round =>
    clear x0 x2 x3 x4 x5 d1 d3 hlt0
    obtain ⟨j, hj, rfl, HP⟩ := hrel
    obtain ⟨x0, x3, x4, x5, hlt0⟩ := HP.out.cells
    have x2 := HP.out.bound
    have d3 : wr.cell? ⟨w.heap.size, 3, none⟩ = some (.slice T.ia T.len T.cap) := cell_at HP.out.box rfl
    by_cases hlt : j < T.len
    · have hln : (listF X T.num j).length ≤ 3518437208782 := by rw [listF_len]; omega
      have HT := Lib.hid (show listF X T.num (j + 1) = listF X T.num j ++ [X.of] by rw [listF_next, HPF.out])
      obtain ⟨wo, rfl⟩ : ∃ wo : World, wo = wr := ⟨_, rfl⟩
      go_wp2_with (at_builtin; refine wpList_append_at rfl (.tmp 29) (.tmp 32) 50 rfl (w.heap.size + 1 + 1) 3 i0 (.int .i64 0) 1 8 Tryz.underlying50 hi0 hz0 hz1 hz2 rfl (by decide) _ _ _ rfl (HP.out.1.alloc _) ⟨_, 0, none⟩ 1 1 [.int .i64 X.of] rfl rfl (fun j u hj => by match j, hj with | 0, hj => (simp at hj; subst hj; simp [Addr.add])) (fun u hu => by (simp at hu; subst hu; rfl)) (by unfold maxLen; omega) (by omega) (by simp <;> omega) ?_; intro v2 w2 hown2 hg2 hf2; have HQ2 := Lib.hid (HP.out.next (x := X.of) (by simpa using hown2) hg2); clear hown2 hg2 hf2)
      go_wp2
      go_roundw
      case rel => exact ⟨j + 1, by omega, by go_num, (by rw [HT.out]; exact HQ2)⟩
      case measure => simp [intOf]; omega
    · obtain rfl : j = T.len := by omega
      have HG := HF.out _ _ HP.out
      obtain ⟨a2, cp2, hv2, _⟩ := row_form HP.out.1
      rw [listF_len] at hv2
      subst hv2
      go_wp2_with fail
      go_quiet (fail)
      go_wp2
      go_ret2
      exact ⟨_, rfl, row_keep HG.1 (drewN_below (Below.refl _ _) _), drewN_below HG.2 _⟩
set_option maxRecDepth 20000 in
set_option maxHeartbeats 2000000 in
theorem refParts9_array (ao : Option Addr) (len cap : Nat) (t : Nat) (X : TypeV) (T : VT) (hlen : len ≤ 1000000) (ht : t < len) (hl : T.len ≤ 2513169434843) (w : World) (HX : TypeAt w ao t X) (hK : X.kind = 12) (m : Nat) (hm : X.bound = m) (hm2 : m ≤ 64) :
    Calls Tryz.prog 35 #[.slice ao len cap, .int .i64 t, .agg #[.int .i64 T.kind, .int .u64 T.num, .string T.text, .slice T.ia T.len T.cap]] w (PartsTo X T w) := by
  obtain ⟨i0, hi0, hz0, hz1, hz2⟩ := info_parts infoInt
  have HS := Lib.hid (PSt.first X w (.cells #[.int .i64 T.kind, .int .u64 T.num, .string T.text, .slice T.ia T.len T.cap] 26))
  unfold typO at HS
  have HQ := Lib.hid (show ((w.alloc (.cells #[.int .i64 T.kind, .int .u64 T.num, .string T.text, .slice T.ia T.len T.cap] 26)).alloc (.cells #[.int .i64 X.kind, .string X.name, .int .i64 X.bound, .int .i64 X.of, .int .i64 X.tag, .slice X.ia X.ilen X.icap] 40)).heap[w.heap.size]? = some (.cells #[.int .i64 T.kind, .int .u64 T.num, .string T.text, .slice T.ia T.len T.cap] 26) from alloc_old (alloc_at w _))
  have HIT := Lib.hid (fun wx (hb : Below w.heap.size w wx) => HX.held hb)
  obtain ⟨b, off, rfl, c0, c1, c2, c3, c4, c5, wf, hit⟩ := HX
  have hbl : b < w.heap.size := World.block_lt_of_cell? w _ c0
  have hne : ¬ b = w.heap.size := by omega
  have hil := hit.1
  clear hit wf
  have hN : partN X T.num T.len = m := by unfold partN; rw [if_neg (by omega), if_pos hK, hm]; rfl
  have hpf : ∀ i, partF X T.num i = X.of := fun i => by unfold partF; rw [if_neg (by omega), if_neg (by omega)]
  have k11 : (X.kind == 11) = false := by simp; omega
  have k12 : (X.kind == 12) = true := by simp; omega
  unfold PartsTo
  have hok := okP_not (X := X) (m := T.len) (by omega)
  rw [hok]
  have HMM := Lib.hid hm
  clear hm
  have HF := Lib.hid (fun v wr (h : PSt (w.heap.size + 1) X (w.alloc (.cells #[.int .i64 T.kind, .int .u64 T.num, .string T.text, .slice T.ia T.len T.cap] 26)) v (listF X T.num (m)) wr) => PSt.parts (T := T) h hN)
  have HPF := Lib.hid hpf
  clear hK hN hok hpf
  go_enter Tryz.func35, Tryz.ntmps35
  go_upto_region 3 with (fail)
  clear c0 c1 c2 c3 c4 c5 hbl hne
  generalize (w.alloc (.cells #[.int .i64 T.kind, .int .u64 T.num, .string T.text, .slice T.ia T.len T.cap] 26)).alloc (.cells #[.int .i64 X.kind, .string X.name, .int .i64 X.bound, .int .i64 X.of, .int .i64 X.tag, .slice X.ia X.ilen X.icap] 40) = W0 at *
  obtain ⟨x0, x3, x4, x5, hlt0⟩ := HS.out.cells
  have x2 := HS.out.bound
  have d1 : W0.cell? ⟨w.heap.size, 1, none⟩ = some (.int .u64 T.num) := cell_at HQ.out rfl
  have d3 : W0.cell? ⟨w.heap.size, 3, none⟩ = some (.slice T.ia T.len T.cap) := cell_at HQ.out rfl
  go_wp2
  go_loopw [9, 11] (fun v i wr => ∃ j : Nat, j ≤ m ∧ i = .int .i64 j ∧ Hid (PSt (w.heap.size + 1) X (w.alloc (.cells #[.int .i64 T.kind, .int .u64 T.num, .string T.text, .slice T.ia T.len T.cap] 26)) v (listF X T.num j) wr)) (fun _ i _ => m - (intOf i).toNat)
  case atStart => exact ⟨0, Nat.zero_le _, rfl, HS⟩
  case round =>
    clear x0 x2 x3 x4 x5 d1 d3 hlt0
    obtain ⟨j, hj, rfl, HP⟩ := hrel
    obtain ⟨x0, x3, x4, x5, hlt0⟩ := HP.out.cells
    have x2 := HP.out.bound
    have d3 : wr.cell? ⟨w.heap.size, 3, none⟩ = some (.slice T.ia T.len T.cap) := cell_at HP.out.box rfl
    rw [HMM.out] at x2
    by_cases hlt : j < m
    · have hln : (listF X T.num j).length ≤ 3518437208782 := by rw [listF_len]; omega
      have HT := Lib.hid (show listF X T.num (j + 1) = listF X T.num j ++ [X.of] by rw [listF_next, HPF.out])
      obtain ⟨wo, rfl⟩ : ∃ wo : World, wo = wr := ⟨_, rfl⟩
      go_wp2_with (at_builtin; refine wpList_append_at rfl (.tmp 48) (.tmp 51) 50 rfl (w.heap.size + 1 + 1) 3 i0 (.int .i64 0) 1 8 Tryz.underlying50 hi0 hz0 hz1 hz2 rfl (by decide) _ _ _ rfl (HP.out.1.alloc _) ⟨_, 0, none⟩ 1 1 [.int .i64 X.of] rfl rfl (fun j u hj => by match j, hj with | 0, hj => (simp at hj; subst hj; simp [Addr.add])) (fun u hu => by (simp at hu; subst hu; rfl)) (by unfold maxLen; omega) (by omega) (by simp <;> omega) ?_; intro v2 w2 hown2 hg2 hf2; have HQ2 := Lib.hid (HP.out.next (x := X.of) (by simpa using hown2) hg2); clear hown2 hg2 hf2)
      go_wp2
      go_roundw
      case rel => exact ⟨j + 1, by omega, by go_num, (by rw [HT.out]; exact HQ2)⟩
      case measure => simp [intOf]; omega
    · obtain rfl : j = m := by omega
      have HG := HF.out _ _ HP.out
      go_wp2
      go_ret2
      exact ⟨_, rfl, HG⟩
set_option maxRecDepth 20000 in
set_option maxHeartbeats 2000000 in
theorem refParts9_struct (ao : Option Addr) (len cap : Nat) (t : Nat) (X : TypeV) (T : VT) (hlen : len ≤ 1000000) (ht : t < len) (hl : T.len ≤ 2513169434843) (w : World) (HX : TypeAt w ao t X) (hK : X.kind = 13) :
    Calls Tryz.prog 35 #[.slice ao len cap, .int .i64 t, .agg #[.int .i64 T.kind, .int .u64 T.num, .string T.text, .slice T.ia T.len T.cap]] w (PartsTo X T w) := by
  obtain ⟨i0, hi0, hz0, hz1, hz2⟩ := info_parts infoInt
  have HS := Lib.hid (PSt.first X w (.cells #[.int .i64 T.kind, .int .u64 T.num, .string T.text, .slice T.ia T.len T.cap] 26))
  unfold typO at HS
  have HQ := Lib.hid (show ((w.alloc (.cells #[.int .i64 T.kind, .int .u64 T.num, .string T.text, .slice T.ia T.len T.cap] 26)).alloc (.cells #[.int .i64 X.kind, .string X.name, .int .i64 X.bound, .int .i64 X.of, .int .i64 X.tag, .slice X.ia X.ilen X.icap] 40)).heap[w.heap.size]? = some (.cells #[.int .i64 T.kind, .int .u64 T.num, .string T.text, .slice T.ia T.len T.cap] 26) from alloc_old (alloc_at w _))
  have HIT := Lib.hid (fun wx (hb : Below w.heap.size w wx) => HX.held hb)
  obtain ⟨b, off, rfl, c0, c1, c2, c3, c4, c5, wf, hit⟩ := HX
  have hbl : b < w.heap.size := World.block_lt_of_cell? w _ c0
  have hne : ¬ b = w.heap.size := by omega
  have hil := hit.1
  clear hit wf
  have hN : partN X T.num T.len = X.ilen := by unfold partN; rw [if_neg (by omega), if_neg (by omega), if_pos hK]
  have hpf : ∀ i, partF X T.num i = (X.items i).type := fun i => by unfold partF; rw [if_pos hK]
  have k11 : (X.kind == 11) = false := by simp; omega
  have k12 : (X.kind == 12) = false := by simp; omega
  have k13 : (X.kind == 13) = true := by simp; omega
  unfold PartsTo
  have hok := okP_not (X := X) (m := T.len) (by omega)
  rw [hok]
  have HF := Lib.hid (fun v wr (h : PSt (w.heap.size + 1) X (w.alloc (.cells #[.int .i64 T.kind, .int .u64 T.num, .string T.text, .slice T.ia T.len T.cap] 26)) v (listF X T.num (X.ilen)) wr) => PSt.parts (T := T) h hN)
  have HPF := Lib.hid hpf
  clear hK hN hok hpf
  go_enter Tryz.func35, Tryz.ntmps35
  go_upto_region 3 with (fail)
  clear c0 c1 c2 c3 c4 c5 hbl hne
  generalize (w.alloc (.cells #[.int .i64 T.kind, .int .u64 T.num, .string T.text, .slice T.ia T.len T.cap] 26)).alloc (.cells #[.int .i64 X.kind, .string X.name, .int .i64 X.bound, .int .i64 X.of, .int .i64 X.tag, .slice X.ia X.ilen X.icap] 40) = W0 at *
  obtain ⟨x0, x3, x4, x5, hlt0⟩ := HS.out.cells
  have x2 := HS.out.bound
  have d1 : W0.cell? ⟨w.heap.size, 1, none⟩ = some (.int .u64 T.num) := cell_at HQ.out rfl
  have d3 : W0.cell? ⟨w.heap.size, 3, none⟩ = some (.slice T.ia T.len T.cap) := cell_at HQ.out rfl
  go_wp2
  go_loopw [9, 12] (fun v i wr => ∃ j : Nat, j ≤ X.ilen ∧ i = .int .i64 j ∧ Hid (PSt (w.heap.size + 1) X (w.alloc (.cells #[.int .i64 T.kind, .int .u64 T.num, .string T.text, .slice T.ia T.len T.cap] 26)) v (listF X T.num j) wr)) (fun _ i _ => X.ilen - (intOf i).toNat)
  case atStart => exact ⟨0, Nat.zero_le _, rfl, HS⟩
  case round =>
    clear x0 x2 x3 x4 x5 d1 d3 hlt0
    obtain ⟨j, hj, rfl, HP⟩ := hrel
    obtain ⟨x0, x3, x4, x5, hlt0⟩ := HP.out.cells
    have x2 := HP.out.bound
    have d3 : wr.cell? ⟨w.heap.size, 3, none⟩ = some (.slice T.ia T.len T.cap) := cell_at HP.out.box rfl
    by_cases hlt : j < X.ilen
    · have hln : (listF X T.num j).length ≤ 3518437208782 := by rw [listF_len]; omega
      have hit := (HIT.out wr HP.out.belowW).items
      obtain ⟨ib, io, hia, i0', i1', i2', i3', i4', iw⟩ := hit.2 j hlt
      rw [hia] at x5
      clear hia i0' i1' i3' i4' iw hit
      have HT := Lib.hid (show listF X T.num (j + 1) = listF X T.num j ++ [(X.items j).type] by rw [listF_next, HPF.out])
      obtain ⟨wo, rfl⟩ : ∃ wo : World, wo = wr := ⟨_, rfl⟩
      go_wp2_with (at_builtin; refine wpList_append_at rfl (.tmp 62) (.tmp 69) 50 rfl (w.heap.size + 1 + 1) 3 i0 (.int .i64 0) 1 8 Tryz.underlying50 hi0 hz0 hz1 hz2 rfl (by decide) _ _ _ rfl (HP.out.1.alloc _) ⟨_, 0, none⟩ 1 1 [.int .i64 (X.items j).type] rfl rfl (fun j u hj => by match j, hj with | 0, hj => (simp at hj; subst hj; simp [Addr.add])) (fun u hu => by (simp at hu; subst hu; rfl)) (by unfold maxLen; omega) (by omega) (by simp <;> omega) ?_; intro v2 w2 hown2 hg2 hf2; have HQ2 := Lib.hid (HP.out.next (x := (X.items j).type) (by simpa using hown2) hg2); clear hown2 hg2 hf2)
      go_wp2
      go_roundw
      case rel => exact ⟨j + 1, by omega, by go_num, (by rw [HT.out]; exact HQ2)⟩
      case measure => simp [intOf]; omega
    · obtain rfl : j = X.ilen := by omega
      have HG := HF.out _ _ HP.out
      go_wp2
      go_ret2
      exact ⟨_, rfl, HG⟩
set_option maxRecDepth 20000 in
set_option maxHeartbeats 2000000 in
theorem refParts9_union (ao : Option Addr) (len cap : Nat) (t : Nat) (X : TypeV) (T : VT) (hlen : len ≤ 1000000) (ht : t < len) (hl : T.len ≤ 2513169434843) (w : World) (HX : TypeAt w ao t X) (hK : X.kind = 14)
    (HBR : ∀ wx, Below w.heap.size w wx → Calls Tryz.prog 58 #[.slice ao len cap, .int .i64 t, .int .u64 T.num] wx fun e w' => e = .returned (.int .i64 (branchZ X T.num)) ∧ wx = w') :
    Calls Tryz.prog 35 #[.slice ao len cap, .int .i64 t, .agg #[.int .i64 T.kind, .int .u64 T.num, .string T.text, .slice T.ia T.len T.cap]] w (PartsTo X T w) := by
  obtain ⟨i0, hi0, hz0, hz1, hz2⟩ := info_parts infoInt
  have HS := Lib.hid (PSt.first X w (.cells #[.int .i64 T.kind, .int .u64 T.num, .string T.text, .slice T.ia T.len T.cap] 26))
  unfold typO at HS
  have HQ := Lib.hid (show ((w.alloc (.cells #[.int .i64 T.kind, .int .u64 T.num, .string T.text, .slice T.ia T.len T.cap] 26)).alloc (.cells #[.int .i64 X.kind, .string X.name, .int .i64 X.bound, .int .i64 X.of, .int .i64 X.tag, .slice X.ia X.ilen X.icap] 40)).heap[w.heap.size]? = some (.cells #[.int .i64 T.kind, .int .u64 T.num, .string T.text, .slice T.ia T.len T.cap] 26) from alloc_old (alloc_at w _))
  have HIT := Lib.hid (fun wx (hb : Below w.heap.size w wx) => HX.held hb)
  obtain ⟨b, off, rfl, c0, c1, c2, c3, c4, c5, wf, hit⟩ := HX
  have hbl : b < w.heap.size := World.block_lt_of_cell? w _ c0
  have hne : ¬ b = w.heap.size := by omega
  have hil := hit.1
  clear hit wf
  have hN : partN X T.num T.len = brN X T.num := by unfold partN; rw [if_neg (by omega), if_neg (by omega), if_neg (by omega), if_pos hK]
  have hpf : ∀ i, partF X T.num i = (X.items ((branchZ X T.num).toNat + i)).type := fun i => by unfold partF; rw [if_neg (by omega), if_pos hK]
  have hok := okP_not (X := X) (m := T.len) (by omega)
  have hbl2 := branchZ_lt (T := X) (n := T.num)
  have k11 : (X.kind == 11) = false := by simp; omega
  have k12 : (X.kind == 12) = false := by simp; omega
  have k13 : (X.kind == 13) = false := by simp; omega
  have k14 : (X.kind == 14) = true := by simp; omega
  unfold PartsTo
  rw [hok]
  have HF := Lib.hid (fun N (hN2 : brN X T.num = N) v wr (h : PSt (w.heap.size + 1) X (w.alloc (.cells #[.int .i64 T.kind, .int .u64 T.num, .string T.text, .slice T.ia T.len T.cap] 26)) v (listF X T.num N) wr) => PSt.parts (T := T) h (hN.trans hN2))
  have HBX := Lib.hid HBR
  have HBN := Lib.hid (show brN X T.num = if okZ (branchZ X T.num) then 1 else 0 from rfl)
  have HPF := Lib.hid hpf
  obtain ⟨z, hz⟩ : ∃ z, branchZ X T.num = z := ⟨_, rfl⟩
  rw [hz] at HBX hbl2 HBN HPF
  clear hK hN hok hpf hz HBR
  go_enter Tryz.func35, Tryz.ntmps35
  go_upto_region 3 with (fail)
  clear c0 c1 c2 c3 c4 c5 hbl hne
  generalize (w.alloc (.cells #[.int .i64 T.kind, .int .u64 T.num, .string T.text, .slice T.ia T.len T.cap] 26)).alloc (.cells #[.int .i64 X.kind, .string X.name, .int .i64 X.bound, .int .i64 X.of, .int .i64 X.tag, .slice X.ia X.ilen X.icap] 40) = W0 at *
  obtain ⟨x0, x3, x4, x5, hlt0⟩ := HS.out.cells
  have x2 := HS.out.bound
  have d1 : W0.cell? ⟨w.heap.size, 1, none⟩ = some (.int .u64 T.num) := cell_at HQ.out rfl
  have d3 : W0.cell? ⟨w.heap.size, 3, none⟩ = some (.slice T.ia T.len T.cap) := cell_at HQ.out rfl
  by_cases h0 : 0 ≤ z
  · obtain ⟨k, rfl⟩ := Int.eq_ofNat_of_zero_le h0
    have hk : k < X.ilen := by have := hbl2 h0; omega
    have ho1 : okZ (k : Int) = true := by unfold okZ; simp
    have hb1 : brN X T.num = 1 := by rw [HBN.out, ho1]; rfl
    have HG := Lib.hid (HF.out 1 hb1)
    have hl1 : listF X T.num 1 = [] ++ [(X.items k).type] := by rw [listF_next, HPF.out]; simp [listF]
    have hln : ([] : List Int).length ≤ 3518437208782 := by simp
    have hit := (HIT.out W0 HS.out.belowW).items
    obtain ⟨ib, io, hia, i0', i1', i2', i3', i4', iw⟩ := hit.2 k hk
    rw [hia] at x5
    have HL1 := Lib.hid hl1
    have HBW := Lib.hid HS.out.belowW
    clear hia i0' i1' i3' i4' iw hit hbl2 HBN HPF HF hb1 hl1
    go_wp2_with (first
      | (go_at_call 58; refine (HBX.out _ HBW.out).mono ?_; rintro e w' ⟨rfl, rfl⟩)
      | (at_builtin; refine wpList_append_at rfl (.tmp 80) (.tmp 87) 50 rfl (w.heap.size + 1 + 1) 3 i0 (.int .i64 0) 1 8 Tryz.underlying50 hi0 hz0 hz1 hz2 rfl (by decide) _ _ _ rfl (HS.out.1.alloc _) ⟨_, 0, none⟩ 1 1 [.int .i64 (X.items k).type] rfl rfl (fun j u hj => by match j, hj with | 0, hj => (simp at hj; subst hj; simp [Addr.add])) (fun u hu => by (simp at hu; subst hu; rfl)) (by unfold maxLen; omega) (by omega) (by simp <;> omega) ?_; intro v2 w2 hown2 hg2 hf2; have HQ2 := Lib.hid (HS.out.next (x := (X.items k).type) (by simpa using hown2) hg2); clear hown2 hg2 hf2))
    go_ret2
    exact ⟨_, rfl, HG.out _ _ (by rw [HL1.out]; exact HQ2.out)⟩
  · have ho1 : okZ z = false := by unfold okZ; simpa using h0
    have hb1 : brN X T.num = 0 := by rw [HBN.out, ho1]; rfl
    have HG := Lib.hid (HF.out 0 hb1)
    have HBW := Lib.hid HS.out.belowW
    clear hbl2 HBN HPF HF hb1
    go_wp2_with (go_at_call 58; refine (HBX.out _ HBW.out).mono ?_; rintro e w' ⟨rfl, rfl⟩)
    go_ret2
    exact ⟨_, rfl, HG.out _ _ HS.out⟩
theorem refParts9_any (ao : Option Addr) (len cap : Nat) (L : Nat → TypeV) (hlen : len ≤ 1000000) (t : Nat) (ht : t < len) (okt : OkT L t) (T : VT) (hl : T.len ≤ 2513169434843) (w : World) (H : ∀ i, i < len → TypeAt w ao i (L i)) :
    Calls Tryz.prog 35 #[.slice ao len cap, .int .i64 t, .agg #[.int .i64 T.kind, .int .u64 T.num, .string T.text, .slice T.ia T.len T.cap]] w (PartsTo (L t) T w) := by
  have hk := okt.kind
  have hc : (L t).kind < 11 ∨ (L t).kind = 11 ∨ (L t).kind = 12 ∨ (L t).kind = 13 ∨ (L t).kind = 14 := by omega
  rcases hc with hc | hc | hc | hc | hc
  · exact refParts9_none ao len cap t (L t) T hlen ht hl w (H t ht) hc
  · exact refParts9_seq ao len cap t (L t) T hlen ht hl w (H t ht) hc
  · have hb := okt.bound (.inr (.inr hc))
    obtain ⟨m, hm⟩ := Int.eq_ofNat_of_zero_le hb.1
    exact refParts9_array ao len cap t (L t) T hlen ht hl w (H t ht) hc m hm (by omega)
  · exact refParts9_struct ao len cap t (L t) T hlen ht hl w (H t ht) hc
  · refine refParts9_union ao len cap t (L t) T hlen ht hl w (H t ht) hc (fun wx hb => ?_)
    have := refBranch_any ao len cap L t T.num (by omega) wx (hold H hb)
    rwa [show branchL L len (t : Nat) T.num = branchZ (L t) T.num by unfold branchL; rw [inL_yes ht]; rfl] at this
end Go.Proofs.YtohphejhlgnciaaGreat
