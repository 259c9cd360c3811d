/- Contracts of a cursor's methods: Read, Take, Text, At, Err, Done. -/
import Derived.Test.YtmnemddagcfjgaaGreatDoorOwn
import Derived.Test.YtmnemddagcfjgaaGreatDoorAlignBuf
import Derived.Test.YtmnemddagcfjgaaGreatDoorAlignRefPut
import Derived.Test.YtmnemddagcfjgaaGreatDoorWordTake
import Derived.Deep.QuietTactic
import Derived.BigQuiet
import Derived.Outline
namespace Go.Proofs.YtmnemddagcfjgaaGreatDoor
open Go.RowKit
set_option linter.unusedVariables false
/-- a cursor in memory -/
def CurAt (c : Nat) (s : ByteArray) (a e : Int) (w : World) : Prop :=
  w.heap[c]? = some (.cells #[.int .i64 a, .string s, .int .i64 e] 98 (0, 0))
set_option maxHeartbeats 1000000 in
theorem curgap_any (c : Nat) (s : ByteArray) (a : Nat) (z : Int) (w : World) (h : CurAt c s a 0 w) (ha : a ≤ s.size) (hs : s.size ≤ 281474976710656) :
    Calls Tryz.prog 182 #[.pointer (some ⟨c, 0, none⟩), .int .i64 z] w fun e w' => e = .returned (.int .i64 (scanE s a (gapN a z))) ∧ w' = w.setCell ⟨c, 0, none⟩ (.int .i64 ((a : Nat) + (gapN a z : Nat))) := by

  have c0 := cell_at (j := 0) h rfl
  have c1 := cell_at (j := 1) h rfl
  have f0 := free_at (j := 0) h
  have hg7 := gapN_le a z
  have HG := Lib.hid (gapN_eq a z)
  obtain ⟨g, hgg⟩ : ∃ g : Nat, gapN a z = g := ⟨_, rfl⟩
  rw [hgg] at hg7 HG
  rw [hgg]
  clear hgg h
  go_enter Tryz.func182, Tryz.ntmps182
  go_wp2_with (go_at_call 188; refine (skip_nat c g _ _ HG.out _ (by go_cell) (by go_cell) (by omega) (by omega)).mono ?_; rintro e w2 ⟨rfl, rfl⟩)
  go_loop [17] (fun i => ∃ k : Nat, k ≤ g ∧ a + k ≤ s.size ∧ i = .int .i64 k ∧ Hid (scanE s a g = scanE s (a + k) (g - k))) (fun i => g - (intOf i).toNat)
  case atStart => exact ⟨0, Nat.zero_le _, by omega, rfl, rfl⟩
  case round =>
    obtain ⟨k, hk, hak, rfl, hq⟩ := hrel
    by_cases hlt : k < g
    · by_cases hsh : s.size ≤ a + k
      · go_wp2
        go_ret
        exact ⟨ret_int (by rw [hq.out, show g - k = (g - k - 1) + 1 by omega, scan_short hsh]), rfl⟩
      · have hlt2 : a + k < s.size := by omega
        by_cases hpad : byteAt s (a + k) = 0
        · have HN := Lib.hid (show scanE s a g = scanE s (a + (k + 1)) (g - (k + 1)) by rw [hq.out, show g - k = (g - (k + 1)) + 1 by omega, scan_ok hlt2 hpad]; rfl)
          have hb : (((s[a + k].toNat : Nat) : Int) != 0) = false := by rw [byteAt_get s _ hlt2, hpad]; rfl
          clear hq hpad
          go_wp2
          go_round
          case rel => exact ⟨k + 1, by omega, by omega, by go_num, HN⟩
          case measure => simp [intOf]; omega
        · have HN := Lib.hid (show scanE s a g = 12 by rw [hq.out, show g - k = (g - (k + 1)) + 1 by omega, scan_pad hlt2 hpad])
          have hb : (((s[a + k].toNat : Nat) : Int) != 0) = true := by rw [byteAt_get s _ hlt2]; simpa using hpad
          clear hq hpad
          go_wp2
          go_ret
          exact ⟨ret_int HN.out.symm, rfl⟩
    · obtain rfl : k = g := by omega
      have HN := Lib.hid (show scanE s a k = 0 by rw [hq.out, Nat.sub_self]; rfl)
      clear hq
      go_wp2
      go_ret
      exact ⟨ret_int HN.out.symm, rfl⟩
/-- what number gives; on an error the place is anywhere -/
def nmN (s : ByteArray) (a : Nat) (z : Int) : Int := if scanE s a (gapN a z) = 0 then takeN s ((a + gapN a z : Nat) : Int) z else 0
def NumTo (c : Nat) (s : ByteArray) (a : Nat) (z : Int) (w : World) (e : Ending) (w' : World) : Prop :=
  e = .returned (.tuple #[.int .u64 (nmN s a z), .int .i64 (tkE s a z)]) ∧ Only (fun k => k = c) w w' ∧ ∃ x, CurAt c s x 0 w' ∧ (tkE s a z = 0 → x = ((a + gapN a z : Nat) : Int) + z)
theorem cur_set {c : Nat} {s : ByteArray} {a e x : Int} {w : World} (h : CurAt c s a e w) : CurAt c s x e (w.setCell ⟨c, 0, none⟩ (.int .i64 x)) := by
  have := set_at (j := 0) (u := .int .i64 x) h
  simpa [CurAt] using this
theorem cur_err {c : Nat} {s : ByteArray} {a e x : Int} {w : World} (h : CurAt c s a e w) : CurAt c s a x (w.setCell ⟨c, 2, none⟩ (.int .i64 x)) := by
  have := set_at (j := 2) (u := .int .i64 x) h
  simpa [CurAt] using this
theorem cur_only {c : Nat} {s : ByteArray} {a e : Int} {w w' : World} {S : Nat → Prop} (h : CurAt c s a e w) (ho : Only S w w') (hs : ¬ S c) : CurAt c s a e w' := ho.same h hs
theorem cur_drewN {c : Nat} {s : ByteArray} {a e : Int} {w : World} (h : CurAt c s a e w) (n : Nat) : CurAt c s a e (w.drewN n) := h
theorem pass_cur {c : Nat} {s : ByteArray} {a e : Int} (n : Int) {w : World} (h : CurAt c s a e w) : Calls Tryz.prog 155 #[.pointer (some ⟨c, 0, none⟩), .int .i64 n] w fun e w' => e = .returned (.tuple #[]) ∧ w' = w.setCell ⟨c, 0, none⟩ (.int .i64 (wrap64 (a + n))) :=
  pass_any c a n w (cell_at (j := 0) h rfl) (free_at (j := 0) h)
theorem num_end {c : Nat} {s : ByteArray} {a : Nat} {z : Int} {w : World} (h : CurAt c s a 0 w) (nq : Nat) (hq : scanE s a (gapN a z) = 0) (hle : a + gapN a z ≤ s.size) (hs : s.size ≤ 281474976710656) (r : Ending)
    (he : r = .returned (.tuple #[.int .u64 (nmN s a z), .int .i64 (tkE s a z)])) :
    NumTo c s a z w r (((w.setCell ⟨c, 0, none⟩ (.int .i64 ((a : Nat) + (gapN a z : Nat)))).drewN nq).setCell ⟨c, 0, none⟩ (.int .i64 (wrap64 ((a : Nat) + (gapN a z : Nat) + z)))) := by
  refine ⟨he, (((Only.refl (fun k => k = c) w).setCell (.inl rfl) _).drewN nq).setCell (.inl rfl) _, _, cur_set (cur_drewN (cur_set h) nq), fun h0 => ?_⟩
  unfold tkE at h0
  rw [if_pos hq] at h0
  have h3 := takeE_zero h0 hle
  rw [IntWalk.wrap64_in]
  · omega
  · rcases isSz_cases h3.1 with rfl | rfl | rfl | rfl <;> omega
theorem wtake_any' (s : ByteArray) (a z : Int) (hs : s.size ≤ maxLen) (ha : (Lit.int .i64 a).wf = true) (w : World) : Calls Tryz.prog 183 #[.string s, .int .i64 a, .int .i64 z] w fun e w' => e = .returned (.tuple #[.int .u64 (takeN s a z), .int .i64 (takeE s a z)]) ∧ w' = w :=
  (take_any s a z hs ha w).mono fun _ _ ⟨a, b⟩ => ⟨a, b.symm⟩
set_option maxHeartbeats 1000000 in
theorem curnum_any (c : Nat) (s : ByteArray) (a : Nat) (z : Int) (w : World) (h : CurAt c s a 0 w) (ha : a ≤ s.size) (hs : s.size ≤ 281474976710656) (hz : (Lit.int .i64 z).wf = true) :
    Calls Tryz.prog 158 #[.pointer (some ⟨c, 0, none⟩), .int .i64 z] w (NumTo c s a z w) := by
  have H := Lib.hid h
  have c0 := cell_at (j := 0) h rfl
  have c1 := cell_at (j := 1) h rfl
  have f0 := free_at (j := 0) h
  have hlt := lt_of_block h
  have hg7 := gapN_le a z
  have hm : s.size ≤ maxLen := by unfold maxLen; omega
  clear h
  by_cases hq : scanE s a (gapN a z) = 0
  · have hgap : ∀ w, CurAt c s a 0 w → Calls Tryz.prog 182 #[.pointer (some ⟨c, 0, none⟩), .int .i64 z] w fun e w' => e = .returned (.int .i64 0) ∧ w' = w.setCell ⟨c, 0, none⟩ (.int .i64 ((a : Nat) + (gapN a z : Nat))) := fun w h => by
      have := curgap_any c s a z w h ha hs
      rw [hq] at this
      exact this
    have HG := Lib.hid hgap
    have HE := Lib.hid (show tkE s a z = takeE s ((a + gapN a z : Nat) : Int) z by unfold tkE; rw [if_pos hq])
    have HN := Lib.hid (show nmN s a z = takeN s ((a + gapN a z : Nat) : Int) z by unfold nmN; rw [if_pos hq])
    have hle := scan_le ha hq
    have HQ := Lib.hid hq
    clear hgap hq
    go_enter Tryz.func158, Tryz.ntmps158
    go_wp2_with (go_at_call 182; refine (HG.out _ H.out).mono ?_; rintro e w2 ⟨rfl, rfl⟩)
    have hwf : (Lit.int .i64 ((a : Nat) + (gapN a z : Nat) : Int)).wf = true := WalkArith.wf_i64 (by omega)
    have HT := Lib.hid (fun w => wtake_any' s ((a : Nat) + (gapN a z : Nat)) z hm hwf w)
    clear hwf
    go_quiet ((go_at_call 183; exact Calls.quiet_of_same (P := Tryz.prog) (HT.out _)))
    go_wp2_with (go_at_call 155; refine (pass_cur z (cur_drewN (cur_set H.out) nq)).mono ?_; rintro e w3 ⟨rfl, rfl⟩)
    go_ret2
    exact num_end H.out _ HQ.out hle hs _ (ret_ui HN.out.symm HE.out.symm)
  · have hne : (scanE s a (gapN a z) != 0) = true := by simpa using hq
    have HE := Lib.hid (tk_scan hq)
    have HN := Lib.hid (show nmN s a z = 0 by unfold nmN; rw [if_neg hq])
    clear hq
    go_enter Tryz.func158, Tryz.ntmps158
    go_wp2_with (go_at_call 182; refine (curgap_any c s a z _ H.out ha hs).mono ?_; rintro e w2 ⟨rfl, rfl⟩)
    go_ret2
    exact ⟨ret_ui HN.out.symm HE.out.symm, (Only.refl (fun k => k = c) w).setCell (.inl rfl) _, _, cur_set H.out, fun h0 => by rw [HE.out] at h0; rw [h0] at hne; cases hne⟩
/-- a method of the cursor: what it gives; the cursor behind it; nothing else has turned -/
def CurTo (c : Nat) (s : ByteArray) (a' e' : Int) (r : Value) (w : World) (e : Ending) (w' : World) : Prop :=
  e = .returned r ∧ Only (fun k => k = c) w w' ∧ CurAt c s a' e' w'
theorem ctake_nil (z : Int) (w : World) : Calls Tryz.prog 120 #[.pointer none, .int .i64 z] w fun e w' => e = .returned (.int .u64 0) ∧ w = w' := by
  go_enter Tryz.func120, Tryz.ntmps120
  go_wp2
  go_ret
  exact ⟨rfl, rfl⟩
theorem ctake_err (c : Nat) (s : ByteArray) (a er z : Int) (w : World) (h : CurAt c s a er w) (he : er ≠ 0) : Calls Tryz.prog 120 #[.pointer (some ⟨c, 0, none⟩), .int .i64 z] w (CurTo c s a er (.int .u64 0) w) := by
  have c2 := cell_at (j := 2) h rfl
  have hne : (er != 0) = true := by simpa using he
  have H := Lib.hid h
  clear h he
  go_enter Tryz.func120, Tryz.ntmps120
  go_wp2
  go_ret
  exact ⟨rfl, Only.refl _ _, H.out⟩
theorem cur_alloc {c : Nat} {s : ByteArray} {a e : Int} {w : World} (h : CurAt c s a e w) (o : Obj) : CurAt c s a e (w.alloc o) := alloc_old h
theorem num_saved {c : Nat} {s : ByteArray} {a : Nat} {w w2 : World} {o : Obj} (h : CurAt c s a 0 w) (ho : Only (fun k => k = c) (w.alloc o) w2) : w2.heap[w.heap.size]? = some o :=
  ho.same (alloc_at w o) (fun e => by have := lt_of_block h; omega)
theorem ctake_end {c : Nat} {s : ByteArray} {a x er : Int} {w w2 : World} {o : Obj} (ho : Only (fun k => k = c) (w.alloc o) w2) (hc : CurAt c s x 0 w2) : CurTo c s a er (.int .u64 0) w (.returned (.int .u64 0)) ((w2.setCell ⟨c, 0, none⟩ (.int .i64 a)).setCell ⟨c, 2, none⟩ (.int .i64 er)) :=
  ⟨rfl, (((((Only.refl (fun k => k = c) w).alloc o).trans ho (fun _ _ s => s))).setCell (.inl rfl) _).setCell (.inl rfl) _, cur_err (cur_set hc)⟩
theorem ctake_bad (c : Nat) (s : ByteArray) (a : Nat) (z : Int) (w : World) (h : CurAt c s a 0 w) (ha : a ≤ s.size) (hs : s.size ≤ 281474976710656) (hz : (Lit.int .i64 z).wf = true) (he : tkE s a z ≠ 0) :
    Calls Tryz.prog 120 #[.pointer (some ⟨c, 0, none⟩), .int .i64 z] w (CurTo c s a (tkE s a z) (.int .u64 0) w) := by
  have c0 := cell_at (j := 0) h rfl
  have c2 := cell_at (j := 2) h rfl
  have hlt := lt_of_block h
  have hne : (tkE s a z != 0) = true := by simpa using he
  have H := Lib.hid h
  clear h he
  go_enter Tryz.func120, Tryz.ntmps120
  go_wp2_with (go_at_call 158; refine (curnum_any c s a z _ (cur_alloc H.out _) ha hs hz).mono ?_; rintro e w2 ⟨rfl, ho, x, hx, hx0⟩; have d0 := cell_at (j := 0) (num_saved H.out ho) rfl; have d1 := cell_at (j := 0) hx rfl; have d2 := cell_at (j := 2) hx rfl; have f0 := free_at (j := 0) hx; have f2 := free_at (j := 2) hx; have HO := Lib.hid ho; have HX := Lib.hid hx; clear ho hx hx0)
  go_ret
  exact ctake_end HO.out HX.out
theorem ctake_ok (c : Nat) (s : ByteArray) (a : Nat) (z : Int) (w : World) (h : CurAt c s a 0 w) (ha : a ≤ s.size) (hs : s.size ≤ 281474976710656) (hz : (Lit.int .i64 z).wf = true) (he : tkE s a z = 0) :
    Calls Tryz.prog 120 #[.pointer (some ⟨c, 0, none⟩), .int .i64 z] w (CurTo c s (((a + gapN a z : Nat) : Int) + z) 0 (.int .u64 (nmN s a z)) w) := by
  have c0 := cell_at (j := 0) h rfl
  have c2 := cell_at (j := 2) h rfl
  have hlt := lt_of_block h
  have H := Lib.hid h
  have HN := Lib.hid (fun w h => curnum_any c s a z w h ha hs hz)
  unfold NumTo at HN
  rw [he] at HN
  clear h he
  go_enter Tryz.func120, Tryz.ntmps120
  go_wp2_with (go_at_call 158; refine (HN.out _ (cur_alloc H.out _)).mono ?_; rintro e w2 ⟨rfl, ho, x, hx, hx0⟩; have HO := Lib.hid ho; have HX := Lib.hid hx; have HX0 := Lib.hid (hx0 rfl); clear ho hx hx0)
  go_ret
  exact ⟨rfl, ((Only.refl (fun k => k = c) w).alloc _).trans HO.out (fun _ _ s => s), HX0.out ▸ HX.out⟩
/-- Take, at a cursor without an error -/
theorem ctake_any (c : Nat) (s : ByteArray) (a : Nat) (z : Int) (w : World) (h : CurAt c s a 0 w) (ha : a ≤ s.size) (hs : s.size ≤ 281474976710656) (hz : (Lit.int .i64 z).wf = true) :
    Calls Tryz.prog 120 #[.pointer (some ⟨c, 0, none⟩), .int .i64 z] w (CurTo c s (tkA s a z : Nat) (tkE s a z) (.int .u64 (tkN s a z)) w) := by
  by_cases he : tkE s a z = 0
  · have h1 := ctake_ok c s a z w h ha hs hz he
    have e1 : nmN s a z = tkN s a z := by
      unfold tkN nmN
      rw [if_pos he]
      unfold tkE at he
      split
      · rfl
      · rename_i hq; rw [if_neg hq] at he; exact absurd he hq
    have e2 : ((tkA s a z : Nat) : Int) = ((a + gapN a z : Nat) : Int) + z := by
      unfold tkA
      rw [if_pos he]
      have hz1 : isSz z = true := by
        cases hz2 : isSz z with
        | true => rfl
        | false => rw [tk_no hz2] at he; omega
      rcases isSz_cases hz1 with rfl | rfl | rfl | rfl <;> simp
    rw [he, e2, ← e1]
    exact h1
  · rw [(tk_bad he).1, (tk_bad he).2]
    exact ctake_bad c s a z w h ha hs hz he
theorem at_nil (w : World) : Calls Tryz.prog 25 #[.pointer none] w fun e w' => e = .returned (.int .i64 0) ∧ w = w' := by
  go_enter Tryz.func25, Tryz.ntmps25
  go_wp2
  go_ret
  exact ⟨rfl, rfl⟩
theorem at_any (c : Nat) (s : ByteArray) (a er : Int) (w : World) (h : CurAt c s a er w) : Calls Tryz.prog 25 #[.pointer (some ⟨c, 0, none⟩)] w fun e w' => e = .returned (.int .i64 a) ∧ w = w' := by
  have c0 := cell_at (j := 0) h rfl
  clear h
  go_enter Tryz.func25, Tryz.ntmps25
  go_wp2
  go_ret
  exact ⟨rfl, rfl⟩
theorem err_nil (w : World) : Calls Tryz.prog 46 #[.pointer none] w fun e w' => e = .returned (.int .i64 0) ∧ w = w' := by
  go_enter Tryz.func46, Tryz.ntmps46
  go_wp2
  go_ret
  exact ⟨rfl, rfl⟩
theorem err_any (c : Nat) (s : ByteArray) (a er : Int) (w : World) (h : CurAt c s a er w) : Calls Tryz.prog 46 #[.pointer (some ⟨c, 0, none⟩)] w fun e w' => e = .returned (.int .i64 er) ∧ w = w' := by
  have c2 := cell_at (j := 2) h rfl
  clear h
  go_enter Tryz.func46, Tryz.ntmps46
  go_wp2
  go_ret
  exact ⟨rfl, rfl⟩
/-- Done: the error, or that bytes are left -/
def dnE (s : ByteArray) (a er : Int) : Int := if er = 0 then (if a < s.size then 1 else 0) else er
theorem done_nil (w : World) : Calls Tryz.prog 23 #[.pointer none] w fun e w' => e = .returned (.int .i64 0) ∧ w = w' := by
  go_enter Tryz.func23, Tryz.ntmps23
  go_wp2_with (go_at_call 46; refine (err_nil _).mono ?_; rintro e w1 ⟨rfl, rfl⟩)
  go_ret
  exact ⟨rfl, rfl⟩
theorem done_any (c : Nat) (s : ByteArray) (a er : Int) (w : World) (h : CurAt c s a er w) : Calls Tryz.prog 23 #[.pointer (some ⟨c, 0, none⟩)] w fun e w' => e = .returned (.int .i64 (dnE s a er)) ∧ ∃ m, w' = w.drewN m := by
  have c0 := cell_at (j := 0) h rfl
  have c1 := cell_at (j := 1) h rfl
  have c2 := cell_at (j := 2) h rfl
  have H := Lib.hid h
  clear h
  by_cases he : er = 0
  · subst he
    by_cases hl : a < s.size
    · have HD := Lib.hid (show dnE s a 0 = 1 by unfold dnE; rw [if_pos rfl, if_pos hl])
      go_enter Tryz.func23, Tryz.ntmps23
      go_wp2_with fail
      go_quiet (fail)
      go_wp2
      go_ret
      exact ⟨ret_int HD.out.symm, _, rfl⟩
    · have HD := Lib.hid (show dnE s a 0 = 0 by unfold dnE; rw [if_pos rfl, if_neg hl])
      go_enter Tryz.func23, Tryz.ntmps23
      go_wp2_with fail
      go_quiet (fail)
      go_wp2
      go_ret
      exact ⟨ret_int HD.out.symm, _, rfl⟩
  · have hne : (er != 0) = true := by simpa using he
    have HD := Lib.hid (show dnE s a er = er by unfold dnE; rw [if_neg he])
    clear he
    go_enter Tryz.func23, Tryz.ntmps23
    go_wp2_with (go_at_call 46; refine (err_any c s a er _ H.out).mono ?_; rintro e w1 ⟨rfl, rfl⟩)
    go_ret
    exact ⟨ret_int HD.out.symm, 0, rfl⟩
theorem read_any (s : ByteArray) (w : World) : Calls Tryz.prog 39 #[.string s] w fun e w' => e = .returned (.pointer (some ⟨w.heap.size, 0, none⟩)) ∧ w' = w.alloc (.cells #[.int .i64 0, .string s, .int .i64 0] 98 (0, 0)) := by
  go_enter Tryz.func39, Tryz.ntmps39
  go_wp2
  go_ret
  exact ⟨rfl, rfl⟩
end Go.Proofs.YtmnemddagcfjgaaGreatDoor
