/- get: what the deferred functions do: with a panic of the package's own, and without one. -/
import Derived.Test.YtmnemddagcfjgaaGreatDoorGetNew
namespace Go.Proofs.YtmnemddagcfjgaaGreatDoor
open Go.RowKit
set_option linter.unusedVariables false
/-- three variables are written -/
theorem put_at {W : World} {g : Nat} {cs : Array Value} {T : TypeId} (h : W.heap[g]? = some (.cells cs T (0, 0))) {p : Addr} {u : Value} (hp : g ≠ p.block) : (W.setCell p u).heap[g]? = some (.cells cs T (0, 0)) := (set_other hp).trans h
theorem drew_at {W : World} {g : Nat} {o : Obj} (h : W.heap[g]? = some o) : W.drew.heap[g]? = some o := h
theorem assert_yes (v : Value) (W : World) : (Instr.typeAssert (.iface 50 v) 20 50 true).run Tryz.prog W = .ok (.tuple #[v, .bool true]) W := by kernel_rfl
theorem assert_no (W : World) : (Instr.typeAssert .nilIface 20 50 true).run Tryz.prog W = .ok (.tuple #[.agg #[.int .i64 0], .bool false]) W := by kernel_rfl
set_option maxRecDepth 100000 in
set_option maxHeartbeats 2000000 in
theorem catchGet_bad (gv ge : Nat) (hve : gv ≠ ge) (v0 v1 v2 v3 : Value) (u1 : Value) (x : Int) (older : List PanicEntry) (w : World) (hv : w.heap[gv]? = some (.cells #[v0, v1, v2, v3] 28 (0, 0))) (he : w.heap[ge]? = some (.cells #[u1] 29 (0, 0))) :
    CallsD Tryz.prog 18 #[.pointer (some ⟨gv, 0, none⟩), .pointer (some ⟨ge, 0, none⟩)] (.panicking ({ v := .iface 50 (.agg #[.int .i64 x]), recovered := false } :: older)) w fun e u' w' =>
      e = .returned (.tuple #[]) ∧ u' = .panicking ({ v := .iface 50 (.agg #[.int .i64 x]), recovered := true } :: older) ∧ w'.heap[gv]? = some (va11 0 0 ⟨#[]⟩ none 0 0) ∧ w'.heap[ge]? = some (.cells #[.int .i64 x] 29 (0, 0)) ∧ Only (fun k => k = gv ∨ k = ge) w w' := by
  refine callsD_of_wpS Tryz.func18 rfl fun c₀ cs hu => ?_
  have e0 : (#[.pointer (some ⟨gv, 0, none⟩), .pointer (some ⟨ge, 0, none⟩)] : Array Value) ++ Array.replicate (Tryz.f18.ntmps - (#[.pointer (some ⟨gv, 0, none⟩), .pointer (some ⟨ge, 0, none⟩)] : Array Value).size) undef = #[.pointer (some ⟨gv, 0, none⟩), .pointer (some ⟨ge, 0, none⟩), undef, undef, undef, undef, undef, undef, undef, undef, undef, undef, undef] := by
    rw [Tryz.ntmps18]; rfl
  rw [e0]
  clear e0
  apply wpS_seq
  apply wpS_region
  simp [wpOpsS, go_sem, recoverD, hu, Exit.thenS, assert_yes]
  refine wpS_of_wp ?_
  have lv := lt_of_block hv
  have le := lt_of_block he
  have nv : ¬ gv = w.heap.size := by omega
  have ne : ¬ ge = w.heap.size := by omega
  have hv1 := alloc_old (o := (.cells #[.int .i64 x] 50 (0, 0))) hv
  have he1 := alloc_old (o := (.cells #[.int .i64 x] 50 (0, 0))) he
  have c0 := cell_at (j := 0) hv1 rfl
  have c1 := cell_at (j := 1) hv1 rfl
  have c2 := cell_at (j := 2) hv1 rfl
  have c3 := cell_at (j := 3) hv1 rfl
  have c4 := cell_at (j := 0) he1 rfl
  have f0 := free_at (j := 0) hv1
  have f1 := free_at (j := 1) hv1
  have f2 := free_at (j := 2) hv1
  have f3 := free_at (j := 3) hv1
  have f4 := free_at (j := 0) he1
  have fx := cell_at (j := 0) (alloc_at w (.cells #[.int .i64 x] 50 (0, 0))) rfl
  have HW := Lib.hid (show Below w.heap.size w _ from (Below.refl _ _).alloc (Nat.le_refl _) (.cells #[.int .i64 x] 50 (0, 0)))
  have HV := Lib.hid hv1
  have HE := Lib.hid he1
  clear hv1 he1
  go_wp2
  generalize w.alloc (.cells #[.int .i64 x] 50 (0, 0)) = W at *
  go_region
  refine ⟨rfl, _, rfl, _, results_none rfl _ _ _, rfl, rfl, ?_, ?_, ?_⟩
  · refine (set_other (show gv ≠ _ from hve)).trans ?_
    exact set_at (set_at (set_at (set_at HV.out)))
  · refine set_at ((set_other (show ge ≠ _ from Ne.symm hve)).trans ((set_other (show ge ≠ _ from Ne.symm hve)).trans ((set_other (show ge ≠ _ from Ne.symm hve)).trans ((set_other (show ge ≠ _ from Ne.symm hve)).trans HE.out))))
  · exact (((((Only.of_below HW.out).setCell (.inl (.inl rfl)) _).setCell (.inl (.inl rfl)) _).setCell (.inl (.inl rfl)) _).setCell (.inl (.inl rfl)) _).setCell (.inl (.inr rfl)) _ |>.drew
set_option maxRecDepth 100000 in
set_option maxHeartbeats 2000000 in
theorem catchGet_idle (gv ge : Nat) (w : World) :
    CallsD Tryz.prog 18 #[.pointer (some ⟨gv, 0, none⟩), .pointer (some ⟨ge, 0, none⟩)] .returning w fun e u' w' => e = .returned (.tuple #[]) ∧ u' = .returning ∧ Below w.heap.size w w' := by
  refine callsD_of_wpS Tryz.func18 rfl fun c₀ cs hu => ?_
  have e0 : (#[.pointer (some ⟨gv, 0, none⟩), .pointer (some ⟨ge, 0, none⟩)] : Array Value) ++ Array.replicate (Tryz.f18.ntmps - (#[.pointer (some ⟨gv, 0, none⟩), .pointer (some ⟨ge, 0, none⟩)] : Array Value).size) undef = #[.pointer (some ⟨gv, 0, none⟩), .pointer (some ⟨ge, 0, none⟩), undef, undef, undef, undef, undef, undef, undef, undef, undef, undef, undef] := by
    rw [Tryz.ntmps18]; rfl
  rw [e0]
  clear e0
  apply wpS_seq
  apply wpS_region
  simp [wpOpsS, go_sem, recoverD, hu, Exit.thenS, assert_no]
  refine wpS_of_wp ?_
  have HW := Lib.hid (show Below w.heap.size w _ from (Below.refl _ _).alloc (Nat.le_refl _) (.cells #[.int .i64 0] 50 (0, 0)))
  go_wp2
  refine ⟨rfl, _, (by cases c₀; simp_all), _, results_none rfl _ _ _, rfl, rfl, HW.out⟩
set_option maxRecDepth 100000 in
set_option maxHeartbeats 2000000 in
theorem catchFirst_bad (gv gn ge : Nat) (hve : gv ≠ ge) (hvn : gv ≠ gn) (hne : gn ≠ ge) (v0 v1 v2 v3 : Value) (u0 u1 : Value) (x : Int) (older : List PanicEntry) (w : World) (hv : w.heap[gv]? = some (.cells #[v0, v1, v2, v3] 28 (0, 0))) (hn : w.heap[gn]? = some (.cells #[u0] 3 (0, 0))) (he : w.heap[ge]? = some (.cells #[u1] 29 (0, 0))) :
    CallsD Tryz.prog 24 #[.pointer (some ⟨gv, 0, none⟩), .pointer (some ⟨gn, 0, none⟩), .pointer (some ⟨ge, 0, none⟩)] (.panicking ({ v := .iface 50 (.agg #[.int .i64 x]), recovered := false } :: older)) w fun e u' w' =>
      e = .returned (.tuple #[]) ∧ u' = .panicking ({ v := .iface 50 (.agg #[.int .i64 x]), recovered := true } :: older) ∧ w'.heap[gv]? = some (va11 0 0 ⟨#[]⟩ none 0 0) ∧ w'.heap[gn]? = some (.cells #[.int .i64 0] 3 (0, 0)) ∧ w'.heap[ge]? = some (.cells #[.int .i64 x] 29 (0, 0)) ∧ Only (fun k => k = gv ∨ k = gn ∨ k = ge) w w' := by
  refine callsD_of_wpS Tryz.func24 rfl fun c₀ cs hu => ?_
  have e0 : (#[.pointer (some ⟨gv, 0, none⟩), .pointer (some ⟨gn, 0, none⟩), .pointer (some ⟨ge, 0, none⟩)] : Array Value) ++ Array.replicate (Tryz.f24.ntmps - (#[.pointer (some ⟨gv, 0, none⟩), .pointer (some ⟨gn, 0, none⟩), .pointer (some ⟨ge, 0, none⟩)] : Array Value).size) undef = #[.pointer (some ⟨gv, 0, none⟩), .pointer (some ⟨gn, 0, none⟩), .pointer (some ⟨ge, 0, none⟩), undef, undef, undef, undef, undef, undef, undef, undef, undef, undef, undef] := by
    rw [Tryz.ntmps24]; rfl
  rw [e0]
  clear e0
  apply wpS_seq
  apply wpS_region
  simp [wpOpsS, go_sem, recoverD, hu, Exit.thenS, assert_yes]
  refine wpS_of_wp ?_
  have lv := lt_of_block hv
  have le := lt_of_block he
  have nv : ¬ gv = w.heap.size := by omega
  have ne : ¬ ge = w.heap.size := by omega
  have hv1 := alloc_old (o := (.cells #[.int .i64 x] 50 (0, 0))) hv
  have he1 := alloc_old (o := (.cells #[.int .i64 x] 50 (0, 0))) he
  have c0 := cell_at (j := 0) hv1 rfl
  have c1 := cell_at (j := 1) hv1 rfl
  have c2 := cell_at (j := 2) hv1 rfl
  have c3 := cell_at (j := 3) hv1 rfl
  have c4 := cell_at (j := 0) he1 rfl
  have f0 := free_at (j := 0) hv1
  have f1 := free_at (j := 1) hv1
  have f2 := free_at (j := 2) hv1
  have f3 := free_at (j := 3) hv1
  have f4 := free_at (j := 0) he1
  have fx := cell_at (j := 0) (alloc_at w (.cells #[.int .i64 x] 50 (0, 0))) rfl
  have HW := Lib.hid (show Below w.heap.size w _ from (Below.refl _ _).alloc (Nat.le_refl _) (.cells #[.int .i64 x] 50 (0, 0)))
  have HV := Lib.hid hv1
  have HE := Lib.hid he1
  have hn1 := alloc_old (o := (.cells #[.int .i64 x] 50 (0, 0))) hn
  have cn := cell_at (j := 0) hn1 rfl
  have fn := free_at (j := 0) hn1
  have HN := Lib.hid hn1
  have ln := lt_of_block hn
  have nn : ¬ gn = w.heap.size := by omega
  clear hn1
  clear hv1 he1
  go_wp2
  generalize w.alloc (.cells #[.int .i64 x] 50 (0, 0)) = W at *
  go_region
  have V0 := set_at (j := 0) (u := .int .i64 0) HV.out
  have V1 := set_at (j := 1) (u := .int .u64 0) V0
  have V2 := set_at (j := 2) (u := .string ⟨#[]⟩) V1
  have V3 := set_at (j := 3) (u := .slice none 0 0) V2
  have V4 := put_at V3 (p := ⟨gn, 0, none⟩) (u := .int .i64 0) hvn
  have V5 := put_at V4 (p := ⟨ge, 0, none⟩) (u := .int .i64 x) hve
  have N0 := put_at HN.out (p := ⟨gv, 0, none⟩) (u := .int .i64 0) (Ne.symm hvn)
  have N1 := put_at N0 (p := ⟨gv, 1, none⟩) (u := .int .u64 0) (Ne.symm hvn)
  have N2 := put_at N1 (p := ⟨gv, 2, none⟩) (u := .string ⟨#[]⟩) (Ne.symm hvn)
  have N3 := put_at N2 (p := ⟨gv, 3, none⟩) (u := .slice none 0 0) (Ne.symm hvn)
  have N4 := set_at (j := 0) (u := .int .i64 0) N3
  have N5 := put_at N4 (p := ⟨ge, 0, none⟩) (u := .int .i64 x) hne
  have E0 := put_at HE.out (p := ⟨gv, 0, none⟩) (u := .int .i64 0) (Ne.symm hve)
  have E1 := put_at E0 (p := ⟨gv, 1, none⟩) (u := .int .u64 0) (Ne.symm hve)
  have E2 := put_at E1 (p := ⟨gv, 2, none⟩) (u := .string ⟨#[]⟩) (Ne.symm hve)
  have E3 := put_at E2 (p := ⟨gv, 3, none⟩) (u := .slice none 0 0) (Ne.symm hve)
  have E4 := put_at E3 (p := ⟨gn, 0, none⟩) (u := .int .i64 0) (Ne.symm hne)
  have E5 := set_at (j := 0) (u := .int .i64 x) E4
  have O0 := (Only.of_below (S := fun k => k = gv ∨ k = gn ∨ k = ge) HW.out).setCell (p := ⟨gv, 0, none⟩) (.inl (.inl rfl)) (.int .i64 0)
  have O1 := O0.setCell (p := ⟨gv, 1, none⟩) (.inl (.inl rfl)) (.int .u64 0)
  have O2 := O1.setCell (p := ⟨gv, 2, none⟩) (.inl (.inl rfl)) (.string ⟨#[]⟩)
  have O3 := O2.setCell (p := ⟨gv, 3, none⟩) (.inl (.inl rfl)) (.slice none 0 0)
  have O4 := O3.setCell (p := ⟨gn, 0, none⟩) (.inl (.inr (.inl rfl))) (.int .i64 0)
  have O5 := (O4.setCell (p := ⟨ge, 0, none⟩) (.inl (.inr (.inr rfl))) (.int .i64 x)).drew
  exact ⟨rfl, _, rfl, _, results_none rfl _ _ _, rfl, rfl, drew_at V5, drew_at N5, drew_at E5, O5⟩
set_option maxRecDepth 100000 in
set_option maxHeartbeats 2000000 in
theorem catchFirst_idle (gv gn ge : Nat) (w : World) :
    CallsD Tryz.prog 24 #[.pointer (some ⟨gv, 0, none⟩), .pointer (some ⟨gn, 0, none⟩), .pointer (some ⟨ge, 0, none⟩)] .returning w fun e u' w' => e = .returned (.tuple #[]) ∧ u' = .returning ∧ Below w.heap.size w w' := by
  refine callsD_of_wpS Tryz.func24 rfl fun c₀ cs hu => ?_
  have e0 : (#[.pointer (some ⟨gv, 0, none⟩), .pointer (some ⟨gn, 0, none⟩), .pointer (some ⟨ge, 0, none⟩)] : Array Value) ++ Array.replicate (Tryz.f24.ntmps - (#[.pointer (some ⟨gv, 0, none⟩), .pointer (some ⟨gn, 0, none⟩), .pointer (some ⟨ge, 0, none⟩)] : Array Value).size) undef = #[.pointer (some ⟨gv, 0, none⟩), .pointer (some ⟨gn, 0, none⟩), .pointer (some ⟨ge, 0, none⟩), undef, undef, undef, undef, undef, undef, undef, undef, undef, undef, undef] := by
    rw [Tryz.ntmps24]; rfl
  rw [e0]
  clear e0
  apply wpS_seq
  apply wpS_region
  simp [wpOpsS, go_sem, recoverD, hu, Exit.thenS, assert_no]
  refine wpS_of_wp ?_
  have HW := Lib.hid (show Below w.heap.size w _ from (Below.refl _ _).alloc (Nat.le_refl _) (.cells #[.int .i64 0] 50 (0, 0)))
  go_wp2
  refine ⟨rfl, _, (by cases c₀; simp_all), _, results_none rfl _ _ _, rfl, rfl, HW.out⟩
end Go.Proofs.YtmnemddagcfjgaaGreatDoor
