/- get: a value, kind by kind. -/
import Derived.Test.YtmnemddagcfjgaaGreatDoorGetSeq
namespace Go.Proofs.YtmnemddagcfjgaaGreatDoor
open Go.RowKit
set_option linter.unusedVariables false
abbrev ty11 (kd : Int) (T : TypeV) : Obj := .cells #[.int .i64 kd, .string T.name, .int .i64 T.bound, .int .i64 T.of, .int .i64 T.tag, .slice T.ia T.ilen T.icap] 45
abbrev va11 (k n : Int) (s : ByteArray) (va : Option Addr) (m vc : Nat) : Obj := .cells #[.int .i64 k, .int .u64 n, .string s, .slice va m vc] 28
theorem four_at (w : World) (o1 o2 o3 o4 : Obj) : ((((w.alloc o1).alloc o2).alloc o3).alloc o4).heap[w.heap.size]? = some o1 ∧ ((((w.alloc o1).alloc o2).alloc o3).alloc o4).heap[w.heap.size + 1]? = some o2 ∧ ((((w.alloc o1).alloc o2).alloc o3).alloc o4).heap[w.heap.size + 1 + 1]? = some o3 ∧ ((((w.alloc o1).alloc o2).alloc o3).alloc o4).heap[w.heap.size + 1 + 1 + 1]? = some o4 ∧ ((((w.alloc o1).alloc o2).alloc o3).alloc o4).heap.size = w.heap.size + 1 + 1 + 1 + 1 := by
  have e1 : ∀ (w : World) (o : Obj), (w.alloc o).heap.size = w.heap.size + 1 := fun w o => by simp
  refine ⟨alloc_old (alloc_old (alloc_old (alloc_at w o1))), ?_, ?_, ?_, by simp only [e1]⟩
  · have h := alloc_old (o := o4) (alloc_old (o := o3) (alloc_at (w.alloc o1) o2))
    rwa [e1] at h
  · have h := alloc_old (o := o4) (alloc_at ((w.alloc o1).alloc o2) o3)
    rwa [e1, e1] at h
  · have h := alloc_at (((w.alloc o1).alloc o2).alloc o3) o4
    rwa [e1, e1, e1] at h
/-- value, behind its head: the reader's box, the result, the type, the value in the making -/
structure VSt (w0 : World) (c : Nat) (b : ByteArray) (ao : Option Addr) (len cap : Nat) (kd : Int) (T : TypeV) (a : Nat) (w : World) (bx : Array Value) (W : World) : Prop where
  now : RdNow w0 c b a w W
  q0 : W.heap[w.heap.size]? = some (rdO ao len cap c)
  q1 : W.heap[w.heap.size + 1]? = some (va11 0 0 ⟨#[]⟩ none 0 0)
  q2 : W.heap[w.heap.size + 1 + 1]? = some (ty11 kd T)
  q3 : W.heap[w.heap.size + 1 + 1 + 1]? = some (.cells bx 28 (0, 0))
  up : c < w.heap.size ∧ w.heap.size + 1 + 1 + 1 < W.heap.size
theorem VSt.start {w0 w : World} {c a : Nat} {b : ByteArray} (ao : Option Addr) (len cap : Nat) (kd : Int) (T : TypeV) (h : RdAt w0 c b a w) : VSt w0 c b ao len cap kd T a w #[.int .i64 kd, .int .u64 0, .string ⟨#[]⟩, .slice none 0 0] ((((w.alloc (rdO ao len cap c)).alloc (va11 0 0 ⟨#[]⟩ none 0 0)).alloc (ty11 kd T)).alloc (va11 kd 0 ⟨#[]⟩ none 0 0)) := by
  obtain ⟨h0, h1, h2, h3, h4⟩ := four_at w (rdO ao len cap c) (va11 0 0 ⟨#[]⟩ none 0 0) (ty11 kd T) (va11 kd 0 ⟨#[]⟩ none 0 0)
  exact ⟨((((RdNow.start h).alloc _).alloc _).alloc _).alloc _, h0, h1, h2, h3, lt_of_block h.cur, by omega⟩
section
variable {w0 w W W1 : World} {c a a1 : Nat} {b : ByteArray} {ao : Option Addr} {len cap : Nat} {kd : Int} {T : TypeV} {bx : Array Value}
theorem VSt.step (h : VSt w0 c b ao len cap kd T a w bx W) (hb : Below W.heap.size W W1) : VSt w0 c b ao len cap kd T a w bx W1 :=
  ⟨h.now.step hb, box_keep h.q0 hb, box_keep h.q1 hb, box_keep h.q2 hb, box_keep h.q3 hb, h.up.1, Nat.lt_of_lt_of_le h.up.2 hb.size⟩
theorem VSt.drew (h : VSt w0 c b ao len cap kd T a w bx W) : VSt w0 c b ao len cap kd T a w bx W.drew := h.step (Below.refl _ _).drew
theorem VSt.got (h : VSt w0 c b ao len cap kd T a w bx W) (ho : Only (fun k => k = c) W W1) (hr : RdAt w0 c b a1 W1) : VSt w0 c b ao len cap kd T a1 w bx W1 := by
  have hc := h.up.1
  exact ⟨h.now.got ho hr, at_box h.q0 (by omega) ho, at_box h.q1 (by omega) ho, at_box h.q2 (by omega) ho, at_box h.q3 (by omega) ho, hc, Nat.lt_of_lt_of_le h.up.2 ho.size⟩
theorem VSt.put (h : VSt w0 c b ao len cap kd T a w bx W) (j : Nat) (u : Value) : VSt w0 c b ao len cap kd T a w (bx.setIfInBounds j u) (W.setCell ⟨w.heap.size + 1 + 1 + 1, j, none⟩ u) := by
  have hc := h.up.1
  have hoth : ∀ {k : Nat} {o : Obj}, W.heap[k]? = some o → k ≠ w.heap.size + 1 + 1 + 1 → (W.setCell ⟨w.heap.size + 1 + 1 + 1, j, none⟩ u).heap[k]? = some o := fun hk hne => (set_other (show _ ≠ _ from hne)).trans hk
  have honly : Only (fun k => k = c) w (W.setCell ⟨w.heap.size + 1 + 1 + 1, j, none⟩ u) := h.now.only.setCell (.inr (show w.heap.size ≤ w.heap.size + 1 + 1 + 1 by omega)) u
  refine ⟨⟨⟨?_, h.now.rd.up, hoth h.now.rd.cur (by omega), h.now.rd.le⟩, honly⟩, hoth h.q0 (by omega), hoth h.q1 (by omega), hoth h.q2 (by omega), set_at h.q3, hc, by simpa using h.up.2⟩
  refine h.now.rd.low.setCell ?_ u
  have h1 := h.now.rd.up
  show w0.heap.size ≤ w.heap.size + 1 + 1 + 1
  omega
/-- the value that is handed back -/
theorem VSt.fin (h : VSt w0 c b ao len cap kd T a w bx W) {V : VT} (U : VT) (hU : sameT V U = true) (hv : ValAt W (fun k => w.heap.size + 1 + 1 + 1 < k) U) (r : Array Value) : ValTo w0 c b a V w (.returned (.agg #[.int .i64 U.kind, .int .u64 U.num, .string U.text, .slice U.ia U.len U.cap])) (W.setRow (w.heap.size + 1) r) := by
  have hc := h.up.1
  have h1 := h.now.rd.up
  have hcur : (W.setRow (w.heap.size + 1) r).heap[c]? = W.heap[c]? := setRow_other _ _ _ _ (by omega)
  refine ⟨U, rfl, hU, ValAt.held_of (fun k hk => by omega) (by simp [World.setRow]) (fun k hk _ => setRow_other _ _ _ _ (by omega)) _ hv, ?_, ⟨below_setRow h.now.rd.low (by omega) _, h1, hcur.trans h.now.rd.cur, h.now.rd.le⟩⟩
  have ho := h.now.only
  refine ⟨ho.os, ho.tape, ho.output, by simpa [World.setRow] using ho.size, fun k hk hn => (setRow_other _ _ _ _ (by omega)).trans (ho.block k hk hn)⟩
end
/-- a node out of its Items -/
theorem node_at {w wr : World} {m : Nat} {K : Nat → VT} {va : Option Addr} {vc : Nat} {K' : Nat → VT} (k n : Int) (s : ByteArray) (hk : (Lit.int .i64 k).wf = true) (hn : (Lit.int .u64 n).wf = true) (hs : s.size ≤ 140737488351232) (hm : m ≤ 64)
    (h1 : ∀ i, i < m → sameT (K i) (K' i) = true) (h2 : ∀ i, i < m → CellsAt wr (fun x => w.heap.size ≤ x) va i (K' i) ∧ ValAt wr (fun x => w.heap.size ≤ x) (K' i)) :
    sameT (vNode k n s m K) (.node k n s va m vc K') = true ∧ ValAt wr (fun x => w.heap.size ≤ x) (.node k n s va m vc K') :=
  ⟨sameT_iff.2 ⟨rfl, rfl, rfl, rfl, h1⟩, (valAt_iff _).2 ⟨⟨hk, hn, hs, by show m ≤ _; omega⟩, h2⟩⟩
set_option maxRecDepth 100000 in
set_option maxHeartbeats 8000000 in
theorem rval0_bad {w0 w : World} {c a : Nat} {b : ByteArray} (ao : Option Addr) (len cap : Nat) (t : Nat) (ht : t < len) (T : TypeV) (HT : TypeAt w0 ao t T) (h : RdAt w0 c b a w) (hk : T.kind ≠ 10 ∧ T.kind ≠ 11 ∧ T.kind ≠ 12 ∧ T.kind ≠ 13 ∧ T.kind ≠ 14) (x : Int) (hc : ∀ wx, RdAt w0 c b a wx → Calls Tryz.prog 44 #[.agg #[.slice ao len cap, .pointer (some ⟨c, 0, none⟩)], .int .i64 t] wx (BadTo c x wx)) :
    Calls Tryz.prog 21 #[.agg #[.slice ao len cap, .pointer (some ⟨c, 0, none⟩)], .int .i64 t] w (BadTo c x w) := by
  have HC := Lib.hid hc
  clear hc
  obtain ⟨tb, off, rfl, c0, c1, c2, c3, c4, c5, wf, hi⟩ := HT
  have HWF := Lib.hid wf
  have hB := ((h.alloc (rdO (some ⟨tb, off, none⟩) len cap c)).alloc (va11 0 0 ⟨#[]⟩ none 0 0)).low
  obtain ⟨kd, hkd⟩ : ∃ kd, T.kind = kd := ⟨_, rfl⟩
  rw [hkd] at hk c0
  try rw [hkd]
  have HKD := Lib.hid hkd
  have HS := Lib.hid (VSt.start (some ⟨tb, off, none⟩) len cap kd T h)
  have c0 := keep hB c0
  have c1 := keep hB c1
  have c2 := keep hB c2
  have c3 := keep hB c3
  have c4 := keep hB c4
  have c5 := keep hB c5
  have HI := Lib.hid hi
  obtain ⟨n10, n11, n12, n13, n14⟩ := hk
  have t10 : (kd == 10) = false := by simpa using n10
  have t11 : (kd == 11) = false := by simpa using n11
  have t12 : (kd == 12) = false := by simpa using n12
  have t13 : (kd == 13) = false := by simpa using n13
  have t14 : (kd == 14) = false := by simpa using n14
  clear n10 n11 n12 n13 n14
  clear wf hi hkd h
  go_enter Tryz.func21, Tryz.ntmps21
  go_upto_region 3 with (fail)
  clear c0 c1 c2 c3 c4 c5 hB
  generalize ((((w.alloc (rdO (some ⟨tb, off, none⟩) len cap c)).alloc (va11 0 0 ⟨#[]⟩ none 0 0)).alloc (ty11 kd T)).alloc (va11 kd 0 ⟨#[]⟩ none 0 0)) = W at *
  have z0 := cell_at (j := 0) HS.out.q0 rfl
  have z1 := cell_at (j := 1) HS.out.q0 rfl
  have y0 := cell_at (j := 0) HS.out.q2 rfl
  have y2 := cell_at (j := 2) HS.out.q2 rfl
  have y3 := cell_at (j := 3) HS.out.q2 rfl
  have y4 := cell_at (j := 4) HS.out.q2 rfl
  have y5 := cell_at (j := 5) HS.out.q2 rfl
  go_wp2_with (go_at_call 44; refine (HC.out _ HS.out.now.rd).mono ?_; rintro e w4 ⟨rfl, ho⟩)
  exact ⟨rfl, rfl, only_two HS.out.now.only ho⟩
set_option maxRecDepth 100000 in
set_option maxHeartbeats 8000000 in
theorem rval0_ok {w0 w : World} {c a : Nat} {b : ByteArray} (ao : Option Addr) (len cap : Nat) (t : Nat) (ht : t < len) (T : TypeV) (HT : TypeAt w0 ao t T) (h : RdAt w0 c b a w) (hk : T.kind ≠ 10 ∧ T.kind ≠ 11 ∧ T.kind ≠ 12 ∧ T.kind ≠ 13 ∧ T.kind ≠ 14) (n : Int) (hn : (Lit.int .u64 n).wf = true) (a1 : Nat) (hc : ∀ wx, RdAt w0 c b a wx → Calls Tryz.prog 44 #[.agg #[.slice ao len cap, .pointer (some ⟨c, 0, none⟩)], .int .i64 t] wx (GotTo w0 c b a1 (.int .u64 n) wx)) :
    Calls Tryz.prog 21 #[.agg #[.slice ao len cap, .pointer (some ⟨c, 0, none⟩)], .int .i64 t] w (ValTo w0 c b a1 (vNode T.kind n ⟨#[]⟩ 0 (fun _ => .nil)) w) := by
  have HC := Lib.hid hc
  clear hc
  obtain ⟨tb, off, rfl, c0, c1, c2, c3, c4, c5, wf, hi⟩ := HT
  have HWF := Lib.hid wf
  have hB := ((h.alloc (rdO (some ⟨tb, off, none⟩) len cap c)).alloc (va11 0 0 ⟨#[]⟩ none 0 0)).low
  obtain ⟨kd, hkd⟩ : ∃ kd, T.kind = kd := ⟨_, rfl⟩
  rw [hkd] at hk c0
  try rw [hkd]
  have HKD := Lib.hid hkd
  have HS := Lib.hid (VSt.start (some ⟨tb, off, none⟩) len cap kd T h)
  have c0 := keep hB c0
  have c1 := keep hB c1
  have c2 := keep hB c2
  have c3 := keep hB c3
  have c4 := keep hB c4
  have c5 := keep hB c5
  have HI := Lib.hid hi
  obtain ⟨n10, n11, n12, n13, n14⟩ := hk
  have t10 : (kd == 10) = false := by simpa using n10
  have t11 : (kd == 11) = false := by simpa using n11
  have t12 : (kd == 12) = false := by simpa using n12
  have t13 : (kd == 13) = false := by simpa using n13
  have t14 : (kd == 14) = false := by simpa using n14
  clear n10 n11 n12 n13 n14
  clear wf hi hkd h
  go_enter Tryz.func21, Tryz.ntmps21
  go_upto_region 3 with (fail)
  clear c0 c1 c2 c3 c4 c5 hB
  generalize ((((w.alloc (rdO (some ⟨tb, off, none⟩) len cap c)).alloc (va11 0 0 ⟨#[]⟩ none 0 0)).alloc (ty11 kd T)).alloc (va11 kd 0 ⟨#[]⟩ none 0 0)) = W at *
  have z0 := cell_at (j := 0) HS.out.q0 rfl
  have z1 := cell_at (j := 1) HS.out.q0 rfl
  have y0 := cell_at (j := 0) HS.out.q2 rfl
  have y2 := cell_at (j := 2) HS.out.q2 rfl
  have y3 := cell_at (j := 3) HS.out.q2 rfl
  have y4 := cell_at (j := 4) HS.out.q2 rfl
  have y5 := cell_at (j := 5) HS.out.q2 rfl
  go_wp2_with (first
    | (go_at_call 44; refine (HC.out _ HS.out.now.rd).mono ?_; rintro e w4 ⟨rfl, ho, hr⟩; have HG := Lib.hid (HS.out.got ho hr); have x1 := cell_at (j := 1) HG.out.q3 rfl; have f1 := free_at (j := 1) HG.out.q3; have HF := Lib.hid (HG.out.put 1 (.int .u64 n)); have d0 := cell_at (j := 0) HF.out.q3 rfl; have d1 := cell_at (j := 1) HF.out.q3 rfl; have d2 := cell_at (j := 2) HF.out.q3 rfl; have d3 := cell_at (j := 3) HF.out.q3 rfl; have HE := Lib.hid (HF.out.fin (V := vNode kd n ⟨#[]⟩ 0 (fun _ => .nil)) (.node kd n ⟨#[]⟩ none 0 0 (fun _ => .nil)) (sameT_iff.2 ⟨rfl, rfl, rfl, rfl, fun i hi => absurd hi (Nat.not_lt_zero i)⟩) ((valAt_iff _).2 ⟨⟨by have := HWF.out.1; rw [HKD.out] at this; exact this, hn, by show (⟨#[]⟩ : ByteArray).size ≤ _; decide, by show 0 ≤ _; omega⟩, fun i hi => absurd hi (Nat.not_lt_zero i)⟩) #[.int .i64 kd, .int .u64 n, .string ⟨#[]⟩, .slice none 0 0]); clear ho hr)
    | (refine wpList_store_rowTo rfl 28 _ _ rfl rfl (w.heap.size + 1) #[.int .i64 kd, .int .u64 n, .string ⟨#[]⟩, .slice none 0 0] rfl rfl _ _ HF.out.q1 (by kernel_rfl) (by kernel_rfl) (by kernel_rfl) ?_))
  refine bodyPost_ret (v := .agg #[.int .i64 kd, .int .u64 n, .string ⟨#[]⟩, .slice none 0 0]) ?_ rfl HE.out
  have hl := run_loadVar_row (P := Tryz.prog) _ (w.heap.size + 1) _ 28 _ _ _ (setRow_heap _ _ _ #[.int .i64 kd, .int .u64 n, .string ⟨#[]⟩, .slice none 0 0] _ _ HF.out.q1) Tryz.underlying28 rfl (by kernel_rfl)
  simp [results, Tryz.results21, asAddr, hl]
set_option maxRecDepth 100000 in
set_option maxHeartbeats 8000000 in
theorem rval10_bad {w0 w : World} {c a : Nat} {b : ByteArray} (ao : Option Addr) (len cap : Nat) (t : Nat) (ht : t < len) (T : TypeV) (HT : TypeAt w0 ao t T) (h : RdAt w0 c b a w) (hk : T.kind = 10) (x : Int) (hc : ∀ wx, RdAt w0 c b a wx → Calls Tryz.prog 40 #[.agg #[.slice ao len cap, .pointer (some ⟨c, 0, none⟩)], .int .i64 T.bound] wx (BadTo c x wx)) :
    Calls Tryz.prog 21 #[.agg #[.slice ao len cap, .pointer (some ⟨c, 0, none⟩)], .int .i64 t] w (BadTo c x w) := by
  have HC := Lib.hid hc
  clear hc
  obtain ⟨tb, off, rfl, c0, c1, c2, c3, c4, c5, wf, hi⟩ := HT
  have HWF := Lib.hid wf
  have hB := ((h.alloc (rdO (some ⟨tb, off, none⟩) len cap c)).alloc (va11 0 0 ⟨#[]⟩ none 0 0)).low
  obtain ⟨kd, hkd⟩ : ∃ kd, T.kind = kd := ⟨_, rfl⟩
  rw [hkd] at hk c0
  try rw [hkd]
  have HKD := Lib.hid hkd
  have HS := Lib.hid (VSt.start (some ⟨tb, off, none⟩) len cap kd T h)
  have c0 := keep hB c0
  have c1 := keep hB c1
  have c2 := keep hB c2
  have c3 := keep hB c3
  have c4 := keep hB c4
  have c5 := keep hB c5
  have HI := Lib.hid hi
  have HKK := Lib.hid hk
  have t10 : (kd == 10) = true := by rw [hk]; decide
  clear hk
  clear wf hi hkd h
  go_enter Tryz.func21, Tryz.ntmps21
  go_upto_region 3 with (fail)
  clear c0 c1 c2 c3 c4 c5 hB
  generalize ((((w.alloc (rdO (some ⟨tb, off, none⟩) len cap c)).alloc (va11 0 0 ⟨#[]⟩ none 0 0)).alloc (ty11 kd T)).alloc (va11 kd 0 ⟨#[]⟩ none 0 0)) = W at *
  have z0 := cell_at (j := 0) HS.out.q0 rfl
  have z1 := cell_at (j := 1) HS.out.q0 rfl
  have y0 := cell_at (j := 0) HS.out.q2 rfl
  have y2 := cell_at (j := 2) HS.out.q2 rfl
  have y3 := cell_at (j := 3) HS.out.q2 rfl
  have y4 := cell_at (j := 4) HS.out.q2 rfl
  have y5 := cell_at (j := 5) HS.out.q2 rfl
  go_wp2_with (go_at_call 40; refine (HC.out _ HS.out.now.rd).mono ?_; rintro e w4 ⟨rfl, ho⟩)
  exact ⟨rfl, rfl, only_two HS.out.now.only ho⟩
set_option maxRecDepth 100000 in
set_option maxHeartbeats 8000000 in
theorem rval10_ok {w0 w : World} {c a : Nat} {b : ByteArray} (ao : Option Addr) (len cap : Nat) (t : Nat) (ht : t < len) (T : TypeV) (HT : TypeAt w0 ao t T) (h : RdAt w0 c b a w) (hk : T.kind = 10) (s : ByteArray) (hs : s.size ≤ 140737488351232) (a1 : Nat) (hc : ∀ wx, RdAt w0 c b a wx → Calls Tryz.prog 40 #[.agg #[.slice ao len cap, .pointer (some ⟨c, 0, none⟩)], .int .i64 T.bound] wx (GotTo w0 c b a1 (.string s) wx)) :
    Calls Tryz.prog 21 #[.agg #[.slice ao len cap, .pointer (some ⟨c, 0, none⟩)], .int .i64 t] w (ValTo w0 c b a1 (vNode T.kind 0 s 0 (fun _ => .nil)) w) := by
  have HC := Lib.hid hc
  clear hc
  obtain ⟨tb, off, rfl, c0, c1, c2, c3, c4, c5, wf, hi⟩ := HT
  have HWF := Lib.hid wf
  have hB := ((h.alloc (rdO (some ⟨tb, off, none⟩) len cap c)).alloc (va11 0 0 ⟨#[]⟩ none 0 0)).low
  obtain ⟨kd, hkd⟩ : ∃ kd, T.kind = kd := ⟨_, rfl⟩
  rw [hkd] at hk c0
  try rw [hkd]
  have HKD := Lib.hid hkd
  have HS := Lib.hid (VSt.start (some ⟨tb, off, none⟩) len cap kd T h)
  have c0 := keep hB c0
  have c1 := keep hB c1
  have c2 := keep hB c2
  have c3 := keep hB c3
  have c4 := keep hB c4
  have c5 := keep hB c5
  have HI := Lib.hid hi
  have HKK := Lib.hid hk
  have t10 : (kd == 10) = true := by rw [hk]; decide
  clear hk
  clear wf hi hkd h
  go_enter Tryz.func21, Tryz.ntmps21
  go_upto_region 3 with (fail)
  clear c0 c1 c2 c3 c4 c5 hB
  generalize ((((w.alloc (rdO (some ⟨tb, off, none⟩) len cap c)).alloc (va11 0 0 ⟨#[]⟩ none 0 0)).alloc (ty11 kd T)).alloc (va11 kd 0 ⟨#[]⟩ none 0 0)) = W at *
  have z0 := cell_at (j := 0) HS.out.q0 rfl
  have z1 := cell_at (j := 1) HS.out.q0 rfl
  have y0 := cell_at (j := 0) HS.out.q2 rfl
  have y2 := cell_at (j := 2) HS.out.q2 rfl
  have y3 := cell_at (j := 3) HS.out.q2 rfl
  have y4 := cell_at (j := 4) HS.out.q2 rfl
  have y5 := cell_at (j := 5) HS.out.q2 rfl
  go_wp2_with (first
    | (go_at_call 40; refine (HC.out _ HS.out.now.rd).mono ?_; rintro e w4 ⟨rfl, ho, hr⟩; have HG := Lib.hid (HS.out.got ho hr); have x1 := cell_at (j := 2) HG.out.q3 rfl; have f1 := free_at (j := 2) HG.out.q3; have HF := Lib.hid (HG.out.put 2 (.string s)); have d0 := cell_at (j := 0) HF.out.q3 rfl; have d1 := cell_at (j := 1) HF.out.q3 rfl; have d2 := cell_at (j := 2) HF.out.q3 rfl; have d3 := cell_at (j := 3) HF.out.q3 rfl; have HE := Lib.hid (HF.out.fin (V := vNode kd 0 s 0 (fun _ => .nil)) (.node kd 0 s none 0 0 (fun _ => .nil)) (sameT_iff.2 ⟨rfl, rfl, rfl, rfl, fun i hi => absurd hi (Nat.not_lt_zero i)⟩) ((valAt_iff _).2 ⟨⟨(by have := HWF.out.1; rw [HKD.out] at this; exact this), (by kernel_rfl), hs, by show 0 ≤ _; omega⟩, fun i hi => absurd hi (Nat.not_lt_zero i)⟩) #[.int .i64 kd, .int .u64 0, .string s, .slice none 0 0]); clear ho hr)
    | (refine wpList_store_rowTo rfl 28 _ _ rfl rfl (w.heap.size + 1) #[.int .i64 kd, .int .u64 0, .string s, .slice none 0 0] rfl rfl _ _ HF.out.q1 (by kernel_rfl) (by kernel_rfl) (by kernel_rfl) ?_))
  refine bodyPost_ret (v := .agg #[.int .i64 kd, .int .u64 0, .string s, .slice none 0 0]) ?_ rfl HE.out
  have hl := run_loadVar_row (P := Tryz.prog) _ (w.heap.size + 1) _ 28 _ _ _ (setRow_heap _ _ _ #[.int .i64 kd, .int .u64 0, .string s, .slice none 0 0] _ _ HF.out.q1) Tryz.underlying28 rfl (by kernel_rfl)
  simp [results, Tryz.results21, asAddr, hl]
set_option maxRecDepth 100000 in
set_option maxHeartbeats 8000000 in
theorem rval12_bad {w0 w : World} {c a : Nat} {b : ByteArray} (ao : Option Addr) (len cap : Nat) (t : Nat) (ht : t < len) (T : TypeV) (HT : TypeAt w0 ao t T) (h : RdAt w0 c b a w) (hk : T.kind = 12) (p m : Nat) (hof : T.of = (p : Nat)) (hbd : T.bound = (m : Nat)) (x : Int) (hc : ∀ wx, RdAt w0 c b a wx → Calls Tryz.prog 41 #[.agg #[.slice ao len cap, .pointer (some ⟨c, 0, none⟩)], .int .i64 (p : Nat), .int .i64 (m : Nat)] wx (BadTo c x wx)) :
    Calls Tryz.prog 21 #[.agg #[.slice ao len cap, .pointer (some ⟨c, 0, none⟩)], .int .i64 t] w (BadTo c x w) := by
  have HC := Lib.hid hc
  have HOF := Lib.hid hof
  have HBD := Lib.hid hbd
  clear hc hof hbd
  obtain ⟨tb, off, rfl, c0, c1, c2, c3, c4, c5, wf, hi⟩ := HT
  have HWF := Lib.hid wf
  have hB := ((h.alloc (rdO (some ⟨tb, off, none⟩) len cap c)).alloc (va11 0 0 ⟨#[]⟩ none 0 0)).low
  obtain ⟨kd, hkd⟩ : ∃ kd, T.kind = kd := ⟨_, rfl⟩
  rw [hkd] at hk c0
  try rw [hkd]
  have HKD := Lib.hid hkd
  have HS := Lib.hid (VSt.start (some ⟨tb, off, none⟩) len cap kd T h)
  have c0 := keep hB c0
  have c1 := keep hB c1
  have c2 := keep hB c2
  have c3 := keep hB c3
  have c4 := keep hB c4
  have c5 := keep hB c5
  have HI := Lib.hid hi
  have HKK := Lib.hid hk
  have t10 : (kd == 10) = false := by rw [hk]; decide
  have t11 : (kd == 11) = false := by rw [hk]; decide
  have t12 : (kd == 12) = true := by rw [hk]; decide
  clear hk
  clear wf hi hkd h
  go_enter Tryz.func21, Tryz.ntmps21
  go_upto_region 3 with (fail)
  clear c0 c1 c2 c3 c4 c5 hB
  generalize ((((w.alloc (rdO (some ⟨tb, off, none⟩) len cap c)).alloc (va11 0 0 ⟨#[]⟩ none 0 0)).alloc (ty11 kd T)).alloc (va11 kd 0 ⟨#[]⟩ none 0 0)) = W at *
  have z0 := cell_at (j := 0) HS.out.q0 rfl
  have z1 := cell_at (j := 1) HS.out.q0 rfl
  have y0 := cell_at (j := 0) HS.out.q2 rfl
  have y2 := cell_at (j := 2) HS.out.q2 rfl
  have y3 := cell_at (j := 3) HS.out.q2 rfl
  have y4 := cell_at (j := 4) HS.out.q2 rfl
  have y5 := cell_at (j := 5) HS.out.q2 rfl
  rw [HOF.out] at y3
  rw [HBD.out] at y2
  go_wp2_with (go_at_call 41; refine (HC.out _ HS.out.now.rd).mono ?_; rintro e w4 ⟨rfl, ho⟩)
  exact ⟨rfl, rfl, only_two HS.out.now.only ho⟩
set_option maxRecDepth 100000 in
set_option maxHeartbeats 8000000 in
theorem rval12_ok {w0 w : World} {c a : Nat} {b : ByteArray} (ao : Option Addr) (len cap : Nat) (t : Nat) (ht : t < len) (T : TypeV) (HT : TypeAt w0 ao t T) (h : RdAt w0 c b a w) (hk : T.kind = 12) (p m : Nat) (hof : T.of = (p : Nat)) (hbd : T.bound = (m : Nat)) (hm : m ≤ 64) (K : Nat → VT) (a1 : Nat) (hc : ∀ wx, RdAt w0 c b a wx → Calls Tryz.prog 41 #[.agg #[.slice ao len cap, .pointer (some ⟨c, 0, none⟩)], .int .i64 (p : Nat), .int .i64 (m : Nat)] wx (SeqTo w0 c b a1 m K wx)) :
    Calls Tryz.prog 21 #[.agg #[.slice ao len cap, .pointer (some ⟨c, 0, none⟩)], .int .i64 t] w (ValTo w0 c b a1 (vNode T.kind 0 ⟨#[]⟩ m K) w) := by
  have HC := Lib.hid hc
  have HOF := Lib.hid hof
  have HBD := Lib.hid hbd
  clear hc hof hbd
  obtain ⟨tb, off, rfl, c0, c1, c2, c3, c4, c5, wf, hi⟩ := HT
  have HWF := Lib.hid wf
  have hB := ((h.alloc (rdO (some ⟨tb, off, none⟩) len cap c)).alloc (va11 0 0 ⟨#[]⟩ none 0 0)).low
  obtain ⟨kd, hkd⟩ : ∃ kd, T.kind = kd := ⟨_, rfl⟩
  rw [hkd] at hk c0
  try rw [hkd]
  have HKD := Lib.hid hkd
  have HS := Lib.hid (VSt.start (some ⟨tb, off, none⟩) len cap kd T h)
  have c0 := keep hB c0
  have c1 := keep hB c1
  have c2 := keep hB c2
  have c3 := keep hB c3
  have c4 := keep hB c4
  have c5 := keep hB c5
  have HI := Lib.hid hi
  have HKK := Lib.hid hk
  have t10 : (kd == 10) = false := by rw [hk]; decide
  have t11 : (kd == 11) = false := by rw [hk]; decide
  have t12 : (kd == 12) = true := by rw [hk]; decide
  clear hk
  clear wf hi hkd h
  go_enter Tryz.func21, Tryz.ntmps21
  go_upto_region 3 with (fail)
  clear c0 c1 c2 c3 c4 c5 hB
  generalize ((((w.alloc (rdO (some ⟨tb, off, none⟩) len cap c)).alloc (va11 0 0 ⟨#[]⟩ none 0 0)).alloc (ty11 kd T)).alloc (va11 kd 0 ⟨#[]⟩ none 0 0)) = W at *
  have z0 := cell_at (j := 0) HS.out.q0 rfl
  have z1 := cell_at (j := 1) HS.out.q0 rfl
  have y0 := cell_at (j := 0) HS.out.q2 rfl
  have y2 := cell_at (j := 2) HS.out.q2 rfl
  have y3 := cell_at (j := 3) HS.out.q2 rfl
  have y4 := cell_at (j := 4) HS.out.q2 rfl
  have y5 := cell_at (j := 5) HS.out.q2 rfl
  rw [HOF.out] at y3
  rw [HBD.out] at y2
  go_wp2_with (first
    | (go_at_call 41; refine (HC.out _ HS.out.now.rd).mono ?_; rintro e w4 ⟨va, vc, K', rfl, hK1, hK2, ho, hr⟩; have HG := Lib.hid (HS.out.got ho hr); have x3 := cell_at (j := 3) HG.out.q3 rfl; have f3 := free_at (j := 3) HG.out.q3; have HF := Lib.hid (HG.out.put 3 (.slice va m vc)); have d0 := cell_at (j := 0) HF.out.q3 rfl; have d1 := cell_at (j := 1) HF.out.q3 rfl; have d2 := cell_at (j := 2) HF.out.q3 rfl; have d3 := cell_at (j := 3) HF.out.q3 rfl; have hup := HS.out.up; have hnd := node_at (vc := vc) kd 0 ⟨#[]⟩ (by have := HWF.out.1; rw [HKD.out] at this; exact this) (by kernel_rfl) (by show (⟨#[]⟩ : ByteArray).size ≤ _; decide) hm hK1 hK2; have HE := Lib.hid (HF.out.fin (.node kd 0 ⟨#[]⟩ va m vc K') hnd.1 (ValAt.held_of (fun x hx => (by omega)) (by simp) (fun x hx _ => set_other (show x ≠ _ from (by simp at hx ⊢; omega))) _ hnd.2) #[.int .i64 kd, .int .u64 0, .string ⟨#[]⟩, .slice va m vc]); clear hK1 hK2 hnd ho hr)
    | (refine wpList_store_rowTo rfl 28 _ _ rfl rfl (w.heap.size + 1) #[.int .i64 kd, .int .u64 0, .string ⟨#[]⟩, .slice va m vc] rfl rfl _ _ HF.out.q1 (by kernel_rfl) (by kernel_rfl) (by kernel_rfl) ?_))
  refine bodyPost_ret (v := .agg #[.int .i64 kd, .int .u64 0, .string ⟨#[]⟩, .slice va m vc]) ?_ rfl HE.out
  have hl := run_loadVar_row (P := Tryz.prog) _ (w.heap.size + 1) _ 28 _ _ _ (setRow_heap _ _ _ #[.int .i64 kd, .int .u64 0, .string ⟨#[]⟩, .slice va m vc] _ _ HF.out.q1) Tryz.underlying28 rfl (by kernel_rfl)
  simp [results, Tryz.results21, asAddr, hl]
set_option maxRecDepth 100000 in
set_option maxHeartbeats 8000000 in
theorem rval13_bad {w0 w : World} {c a : Nat} {b : ByteArray} (ao : Option Addr) (len cap : Nat) (t : Nat) (ht : t < len) (T : TypeV) (HT : TypeAt w0 ao t T) (h : RdAt w0 c b a w) (hk : T.kind = 13) (x : Int) (hc : ∀ wx, RdAt w0 c b a wx → Calls Tryz.prog 43 #[.agg #[.slice ao len cap, .pointer (some ⟨c, 0, none⟩)], .slice T.ia T.ilen T.icap] wx (BadTo c x wx)) :
    Calls Tryz.prog 21 #[.agg #[.slice ao len cap, .pointer (some ⟨c, 0, none⟩)], .int .i64 t] w (BadTo c x w) := by
  have HC := Lib.hid hc
  clear hc
  obtain ⟨tb, off, rfl, c0, c1, c2, c3, c4, c5, wf, hi⟩ := HT
  have HWF := Lib.hid wf
  have hB := ((h.alloc (rdO (some ⟨tb, off, none⟩) len cap c)).alloc (va11 0 0 ⟨#[]⟩ none 0 0)).low
  obtain ⟨kd, hkd⟩ : ∃ kd, T.kind = kd := ⟨_, rfl⟩
  rw [hkd] at hk c0
  try rw [hkd]
  have HKD := Lib.hid hkd
  have HS := Lib.hid (VSt.start (some ⟨tb, off, none⟩) len cap kd T h)
  have c0 := keep hB c0
  have c1 := keep hB c1
  have c2 := keep hB c2
  have c3 := keep hB c3
  have c4 := keep hB c4
  have c5 := keep hB c5
  have HI := Lib.hid hi
  have HKK := Lib.hid hk
  have t10 : (kd == 10) = false := by rw [hk]; decide
  have t11 : (kd == 11) = false := by rw [hk]; decide
  have t12 : (kd == 12) = false := by rw [hk]; decide
  have t13 : (kd == 13) = true := by rw [hk]; decide
  clear hk
  clear wf hi hkd h
  go_enter Tryz.func21, Tryz.ntmps21
  go_upto_region 3 with (fail)
  clear c0 c1 c2 c3 c4 c5 hB
  generalize ((((w.alloc (rdO (some ⟨tb, off, none⟩) len cap c)).alloc (va11 0 0 ⟨#[]⟩ none 0 0)).alloc (ty11 kd T)).alloc (va11 kd 0 ⟨#[]⟩ none 0 0)) = W at *
  have z0 := cell_at (j := 0) HS.out.q0 rfl
  have z1 := cell_at (j := 1) HS.out.q0 rfl
  have y0 := cell_at (j := 0) HS.out.q2 rfl
  have y2 := cell_at (j := 2) HS.out.q2 rfl
  have y3 := cell_at (j := 3) HS.out.q2 rfl
  have y4 := cell_at (j := 4) HS.out.q2 rfl
  have y5 := cell_at (j := 5) HS.out.q2 rfl
  go_wp2_with (go_at_call 43; refine (HC.out _ HS.out.now.rd).mono ?_; rintro e w4 ⟨rfl, ho⟩)
  exact ⟨rfl, rfl, only_two HS.out.now.only ho⟩
set_option maxRecDepth 100000 in
set_option maxHeartbeats 8000000 in
theorem rval13_ok {w0 w : World} {c a : Nat} {b : ByteArray} (ao : Option Addr) (len cap : Nat) (t : Nat) (ht : t < len) (T : TypeV) (HT : TypeAt w0 ao t T) (h : RdAt w0 c b a w) (hk : T.kind = 13) (hm : T.ilen ≤ 64) (K : Nat → VT) (a1 : Nat) (hc : ∀ wx, RdAt w0 c b a wx → Calls Tryz.prog 43 #[.agg #[.slice ao len cap, .pointer (some ⟨c, 0, none⟩)], .slice T.ia T.ilen T.icap] wx (SeqTo w0 c b a1 T.ilen K wx)) :
    Calls Tryz.prog 21 #[.agg #[.slice ao len cap, .pointer (some ⟨c, 0, none⟩)], .int .i64 t] w (ValTo w0 c b a1 (vNode T.kind 0 ⟨#[]⟩ T.ilen K) w) := by
  have HC := Lib.hid hc
  clear hc
  obtain ⟨tb, off, rfl, c0, c1, c2, c3, c4, c5, wf, hi⟩ := HT
  have HWF := Lib.hid wf
  have hB := ((h.alloc (rdO (some ⟨tb, off, none⟩) len cap c)).alloc (va11 0 0 ⟨#[]⟩ none 0 0)).low
  obtain ⟨kd, hkd⟩ : ∃ kd, T.kind = kd := ⟨_, rfl⟩
  rw [hkd] at hk c0
  try rw [hkd]
  have HKD := Lib.hid hkd
  have HS := Lib.hid (VSt.start (some ⟨tb, off, none⟩) len cap kd T h)
  have c0 := keep hB c0
  have c1 := keep hB c1
  have c2 := keep hB c2
  have c3 := keep hB c3
  have c4 := keep hB c4
  have c5 := keep hB c5
  have HI := Lib.hid hi
  have HKK := Lib.hid hk
  have t10 : (kd == 10) = false := by rw [hk]; decide
  have t11 : (kd == 11) = false := by rw [hk]; decide
  have t12 : (kd == 12) = false := by rw [hk]; decide
  have t13 : (kd == 13) = true := by rw [hk]; decide
  clear hk
  clear wf hi hkd h
  go_enter Tryz.func21, Tryz.ntmps21
  go_upto_region 3 with (fail)
  clear c0 c1 c2 c3 c4 c5 hB
  generalize ((((w.alloc (rdO (some ⟨tb, off, none⟩) len cap c)).alloc (va11 0 0 ⟨#[]⟩ none 0 0)).alloc (ty11 kd T)).alloc (va11 kd 0 ⟨#[]⟩ none 0 0)) = W at *
  have z0 := cell_at (j := 0) HS.out.q0 rfl
  have z1 := cell_at (j := 1) HS.out.q0 rfl
  have y0 := cell_at (j := 0) HS.out.q2 rfl
  have y2 := cell_at (j := 2) HS.out.q2 rfl
  have y3 := cell_at (j := 3) HS.out.q2 rfl
  have y4 := cell_at (j := 4) HS.out.q2 rfl
  have y5 := cell_at (j := 5) HS.out.q2 rfl
  go_wp2_with (first
    | (go_at_call 43; refine (HC.out _ HS.out.now.rd).mono ?_; rintro e w4 ⟨va, vc, K', rfl, hK1, hK2, ho, hr⟩; have HG := Lib.hid (HS.out.got ho hr); have x3 := cell_at (j := 3) HG.out.q3 rfl; have f3 := free_at (j := 3) HG.out.q3; have HF := Lib.hid (HG.out.put 3 (.slice va T.ilen vc)); have d0 := cell_at (j := 0) HF.out.q3 rfl; have d1 := cell_at (j := 1) HF.out.q3 rfl; have d2 := cell_at (j := 2) HF.out.q3 rfl; have d3 := cell_at (j := 3) HF.out.q3 rfl; have hup := HS.out.up; have hnd := node_at (vc := vc) kd 0 ⟨#[]⟩ (by have := HWF.out.1; rw [HKD.out] at this; exact this) (by kernel_rfl) (by show (⟨#[]⟩ : ByteArray).size ≤ _; decide) hm hK1 hK2; have HE := Lib.hid (HF.out.fin (.node kd 0 ⟨#[]⟩ va T.ilen vc K') hnd.1 (ValAt.held_of (fun x hx => (by omega)) (by simp) (fun x hx _ => set_other (show x ≠ _ from (by simp at hx ⊢; omega))) _ hnd.2) #[.int .i64 kd, .int .u64 0, .string ⟨#[]⟩, .slice va T.ilen vc]); clear hK1 hK2 hnd ho hr)
    | (refine wpList_store_rowTo rfl 28 _ _ rfl rfl (w.heap.size + 1) #[.int .i64 kd, .int .u64 0, .string ⟨#[]⟩, .slice va T.ilen vc] rfl rfl _ _ HF.out.q1 (by kernel_rfl) (by kernel_rfl) (by kernel_rfl) ?_))
  refine bodyPost_ret (v := .agg #[.int .i64 kd, .int .u64 0, .string ⟨#[]⟩, .slice va T.ilen vc]) ?_ rfl HE.out
  have hl := run_loadVar_row (P := Tryz.prog) _ (w.heap.size + 1) _ 28 _ _ _ (setRow_heap _ _ _ #[.int .i64 kd, .int .u64 0, .string ⟨#[]⟩, .slice va T.ilen vc] _ _ HF.out.q1) Tryz.underlying28 rfl (by kernel_rfl)
  simp [results, Tryz.results21, asAddr, hl]
end Go.Proofs.YtmnemddagcfjgaaGreatDoor
namespace Go.Proofs.YtmnemddagcfjgaaGreatDoor
open Go.RowKit
set_option linter.unusedVariables false
set_option maxRecDepth 100000 in
set_option maxHeartbeats 8000000 in
theorem rval11_b1 {w0 w : World} {c a : Nat} {b : ByteArray} (ao : Option Addr) (len cap : Nat) (t : Nat) (ht : t < len) (T : TypeV) (HT : TypeAt w0 ao t T) (h : RdAt w0 c b a w) (hk : T.kind = 11) (p : Nat) (hof : T.of = (p : Nat)) (x : Int) (hc : ∀ wx, RdAt w0 c b a wx → Calls Tryz.prog 42 #[.agg #[.slice ao len cap, .pointer (some ⟨c, 0, none⟩)], .int .i64 T.bound] wx (BadTo c x wx)) :
    Calls Tryz.prog 21 #[.agg #[.slice ao len cap, .pointer (some ⟨c, 0, none⟩)], .int .i64 t] w (BadTo c x w) := by
  have HC := Lib.hid hc
  clear hc
  have HOF := Lib.hid hof
  clear hof
  obtain ⟨tb, off, rfl, c0, c1, c2, c3, c4, c5, wf, hi⟩ := HT
  have HWF := Lib.hid wf
  have hB := ((h.alloc (rdO (some ⟨tb, off, none⟩) len cap c)).alloc (va11 0 0 ⟨#[]⟩ none 0 0)).low
  obtain ⟨kd, hkd⟩ : ∃ kd, T.kind = kd := ⟨_, rfl⟩
  rw [hkd] at hk c0
  try rw [hkd]
  have HKD := Lib.hid hkd
  have HS := Lib.hid (VSt.start (some ⟨tb, off, none⟩) len cap kd T h)
  have c0 := keep hB c0
  have c1 := keep hB c1
  have c2 := keep hB c2
  have c3 := keep hB c3
  have c4 := keep hB c4
  have c5 := keep hB c5
  have HI := Lib.hid hi
  have HKK := Lib.hid hk
  have t10 : (kd == 10) = false := by rw [hk]; decide
  have t11 : (kd == 11) = true := by rw [hk]; decide
  clear hk
  clear wf hi hkd h
  go_enter Tryz.func21, Tryz.ntmps21
  go_upto_region 3 with (fail)
  clear c0 c1 c2 c3 c4 c5 hB
  generalize ((((w.alloc (rdO (some ⟨tb, off, none⟩) len cap c)).alloc (va11 0 0 ⟨#[]⟩ none 0 0)).alloc (ty11 kd T)).alloc (va11 kd 0 ⟨#[]⟩ none 0 0)) = W at *
  have z0 := cell_at (j := 0) HS.out.q0 rfl
  have z1 := cell_at (j := 1) HS.out.q0 rfl
  have y0 := cell_at (j := 0) HS.out.q2 rfl
  have y2 := cell_at (j := 2) HS.out.q2 rfl
  have y3 := cell_at (j := 3) HS.out.q2 rfl
  have y4 := cell_at (j := 4) HS.out.q2 rfl
  have y5 := cell_at (j := 5) HS.out.q2 rfl
  rw [HOF.out] at y3
  go_upto_region 8 with (fail)
  clear z0 z1 y0 y2 y3 y4 y5
  refine wp_region_pre (by kernel_rfl) 9 6 (fun v => ((.agg #[.slice (some ⟨tb, off, none⟩) len cap, .pointer (some ⟨c, 0, none⟩)] : Value) :: (.int .i64 (t : Nat) : Value) :: (.pointer (some ⟨w.heap.size, 0, none⟩) : Value) :: undef :: (.pointer (some ⟨w.heap.size + 1, 0, none⟩) : Value) :: (.pointer (some ⟨w.heap.size + 1 + 1, 0, none⟩) : Value) :: (.pointer (some ⟨w.heap.size + 1 + 1 + 1, 0, none⟩) : Value) :: (.pointer (some ⟨w.heap.size, 0, none⟩) : Value) :: (.slice (some ⟨tb, off, none⟩) len cap : Value) :: (.int .i64 (t : Nat) : Value) :: (.pointer (some ⟨tb, off + t * 6, none⟩) : Value) :: (.agg #[.int .i64 kd, .string T.name, .int .i64 T.bound, .int .i64 T.of, .int .i64 T.tag, .slice T.ia T.ilen T.icap] : Value) :: (.pointer (some ⟨w.heap.size + 1 + 1, 0, none⟩) : Value) :: (.int .i64 kd : Value) :: (.agg #[.int .i64 kd, .int .u64 0, .string ⟨#[]⟩, .slice none 0 0] : Value) :: (.pointer (some ⟨w.heap.size + 1 + 1, 0, none⟩) : Value) :: (.int .i64 kd : Value) :: undef :: undef :: undef :: undef :: (.bool false : Value) :: (.bool false : Value) :: undef :: undef :: undef :: undef :: undef :: (.bool true : Value) :: (.bool true : Value) :: v 0 :: v 1 :: v 2 :: v 3 :: v 4 :: v 5 :: v 6 :: v 7 :: v 8 :: undef :: undef :: undef :: undef :: undef :: undef :: undef :: undef :: undef :: undef :: undef :: undef :: undef :: undef :: undef :: undef :: undef :: undef :: undef :: undef :: undef :: undef :: undef :: undef :: undef :: undef :: undef :: undef :: undef :: undef :: undef :: undef :: []).toArray) (fun _ => undef) (fun j' y wz => j' ≠ 6 ∧ y = (fun j' => [.agg #[.slice (some ⟨tb, off, none⟩) len cap, .pointer (some ⟨c, 0, none⟩)], .pointer (some ⟨w.heap.size + 1 + 1, 3, none⟩), .int .i64 (p : Nat), .agg #[.slice (some ⟨tb, off, none⟩) len cap, .pointer (some ⟨c, 0, none⟩)], .pointer (some ⟨w.heap.size + 1 + 1, 2, none⟩), .int .i64 T.bound, undef, undef, .pointer (some ⟨w.heap.size + 1 + 1 + 1, 3, none⟩)].getD j' undef) j') (fun wx => ∃ a', VSt w0 c b (some ⟨tb, off, none⟩) len cap kd T a' w #[.int .i64 kd, .int .u64 0, .string ⟨#[]⟩, .slice none 0 0] wx) (fun wx => RdAt w0 c b a wx) (Nat.le_of_ble_eq_true (by kernel_rfl)) (by kernel_rfl) (⟨a, HS.out.drew⟩) (HS.out.now.rd.drew) (fun i' hi' v w1 hB hP hd => ?_) (fun v w1 hv hB => absurd rfl (hv 6 (by decide)).1)
  have hcs : i' = 0 ∨ i' = 1 ∨ i' = 2 ∨ i' = 3 ∨ i' = 4 ∨ i' = 5 ∨ i' = 6 ∨ i' = 7 ∨ i' = 8 := by omega
  rcases hcs with rfl | rfl | rfl | rfl | rfl | rfl | rfl | rfl | rfl
  · obtain ⟨a', hV⟩ := hB; have hB : ∃ a', VSt w0 c b (some ⟨tb, off, none⟩) len cap kd T a' w #[.int .i64 kd, .int .u64 0, .string ⟨#[]⟩, .slice none 0 0] w1 := ⟨a', hV⟩; have z0 := cell_at (j := 0) hV.q0 rfl; have z1 := cell_at (j := 1) hV.q0 rfl; have y2 := cell_at (j := 2) hV.q2 rfl; have y3 := cell_at (j := 3) hV.q2 rfl; rw [HOF.out] at y3
    refine wpOp_step (o := _) rfl (fun K' hK => ?_)
    go_simp
    exact hK _ _ ⟨(.agg #[.slice (some ⟨tb, off, none⟩) len cap, .pointer (some ⟨c, 0, none⟩)] : Value), rfl, ⟨by decide, rfl⟩, hB, fun _ h => h, fun k y _ h => h⟩
  · obtain ⟨a', hV⟩ := hB; have hB : ∃ a', VSt w0 c b (some ⟨tb, off, none⟩) len cap kd T a' w #[.int .i64 kd, .int .u64 0, .string ⟨#[]⟩, .slice none 0 0] w1 := ⟨a', hV⟩; have z0 := cell_at (j := 0) hV.q0 rfl; have z1 := cell_at (j := 1) hV.q0 rfl; have y2 := cell_at (j := 2) hV.q2 rfl; have y3 := cell_at (j := 3) hV.q2 rfl; rw [HOF.out] at y3
    refine wpOp_step (o := _) rfl (fun K' hK => ?_)
    go_simp
    exact hK _ _ ⟨(.pointer (some ⟨w.heap.size + 1 + 1, 3, none⟩) : Value), rfl, ⟨by decide, rfl⟩, hB, fun _ h => h, fun k y _ h => h⟩
  · have e1 : v 1 = (.pointer (some ⟨w.heap.size + 1 + 1, 3, none⟩) : Value) := (hd 1 (List.contains_iff_mem.1 (by kernel_rfl))).2
    obtain ⟨a', hV⟩ := hB; have hB : ∃ a', VSt w0 c b (some ⟨tb, off, none⟩) len cap kd T a' w #[.int .i64 kd, .int .u64 0, .string ⟨#[]⟩, .slice none 0 0] w1 := ⟨a', hV⟩; have z0 := cell_at (j := 0) hV.q0 rfl; have z1 := cell_at (j := 1) hV.q0 rfl; have y2 := cell_at (j := 2) hV.q2 rfl; have y3 := cell_at (j := 3) hV.q2 rfl; rw [HOF.out] at y3
    refine wpOp_step (o := _) rfl (fun K' hK => ?_)
    go_simp
    exact hK _ _ ⟨(.int .i64 (p : Nat) : Value), fr_eq9 (by simp [upd, e1]), ⟨by decide, rfl⟩, hB, fun _ h => h, fun k y _ h => h⟩
  · obtain ⟨a', hV⟩ := hB; have hB : ∃ a', VSt w0 c b (some ⟨tb, off, none⟩) len cap kd T a' w #[.int .i64 kd, .int .u64 0, .string ⟨#[]⟩, .slice none 0 0] w1 := ⟨a', hV⟩; have z0 := cell_at (j := 0) hV.q0 rfl; have z1 := cell_at (j := 1) hV.q0 rfl; have y2 := cell_at (j := 2) hV.q2 rfl; have y3 := cell_at (j := 3) hV.q2 rfl; rw [HOF.out] at y3
    refine wpOp_step (o := _) rfl (fun K' hK => ?_)
    go_simp
    exact hK _ _ ⟨(.agg #[.slice (some ⟨tb, off, none⟩) len cap, .pointer (some ⟨c, 0, none⟩)] : Value), rfl, ⟨by decide, rfl⟩, hB, fun _ h => h, fun k y _ h => h⟩
  · obtain ⟨a', hV⟩ := hB; have hB : ∃ a', VSt w0 c b (some ⟨tb, off, none⟩) len cap kd T a' w #[.int .i64 kd, .int .u64 0, .string ⟨#[]⟩, .slice none 0 0] w1 := ⟨a', hV⟩; have z0 := cell_at (j := 0) hV.q0 rfl; have z1 := cell_at (j := 1) hV.q0 rfl; have y2 := cell_at (j := 2) hV.q2 rfl; have y3 := cell_at (j := 3) hV.q2 rfl; rw [HOF.out] at y3
    refine wpOp_step (o := _) rfl (fun K' hK => ?_)
    go_simp
    exact hK _ _ ⟨(.pointer (some ⟨w.heap.size + 1 + 1, 2, none⟩) : Value), rfl, ⟨by decide, rfl⟩, hB, fun _ h => h, fun k y _ h => h⟩
  · have e4 : v 4 = (.pointer (some ⟨w.heap.size + 1 + 1, 2, none⟩) : Value) := (hd 4 (List.contains_iff_mem.1 (by kernel_rfl))).2
    obtain ⟨a', hV⟩ := hB; have hB : ∃ a', VSt w0 c b (some ⟨tb, off, none⟩) len cap kd T a' w #[.int .i64 kd, .int .u64 0, .string ⟨#[]⟩, .slice none 0 0] w1 := ⟨a', hV⟩; have z0 := cell_at (j := 0) hV.q0 rfl; have z1 := cell_at (j := 1) hV.q0 rfl; have y2 := cell_at (j := 2) hV.q2 rfl; have y3 := cell_at (j := 3) hV.q2 rfl; rw [HOF.out] at y3
    refine wpOp_step (o := _) rfl (fun K' hK => ?_)
    go_simp
    exact hK _ _ ⟨(.int .i64 T.bound : Value), fr_eq9 (by simp [upd, e4]), ⟨by decide, rfl⟩, hB, fun _ h => h, fun k y _ h => h⟩
  · have e3 : v 3 = (.agg #[.slice (some ⟨tb, off, none⟩) len cap, .pointer (some ⟨c, 0, none⟩)] : Value) := (hd 3 (List.contains_iff_mem.1 (by kernel_rfl))).2
    have e5 : v 5 = (.int .i64 T.bound : Value) := (hd 5 (List.contains_iff_mem.1 (by kernel_rfl))).2
    obtain ⟨a', hV⟩ := hB; have hB : ∃ a', VSt w0 c b (some ⟨tb, off, none⟩) len cap kd T a' w #[.int .i64 kd, .int .u64 0, .string ⟨#[]⟩, .slice none 0 0] w1 := ⟨a', hV⟩; have z0 := cell_at (j := 0) hV.q0 rfl; have z1 := cell_at (j := 1) hV.q0 rfl; have y2 := cell_at (j := 2) hV.q2 rfl; have y3 := cell_at (j := 3) hV.q2 rfl; rw [HOF.out] at y3
    refine wpOp_step (o := _) rfl (fun K' hK => ?_)
    go_simp
    refine (HC.out w1 (hP rfl)).mono ?_
    rintro e w3 ⟨rfl, ho⟩
    exact ⟨rfl, rfl, only_two hV.now.only ho⟩
  · exact absurd rfl (hd 6 (List.contains_iff_mem.1 (by kernel_rfl))).1
  · obtain ⟨a', hV⟩ := hB; have hB : ∃ a', VSt w0 c b (some ⟨tb, off, none⟩) len cap kd T a' w #[.int .i64 kd, .int .u64 0, .string ⟨#[]⟩, .slice none 0 0] w1 := ⟨a', hV⟩; have z0 := cell_at (j := 0) hV.q0 rfl; have z1 := cell_at (j := 1) hV.q0 rfl; have y2 := cell_at (j := 2) hV.q2 rfl; have y3 := cell_at (j := 3) hV.q2 rfl; rw [HOF.out] at y3
    refine wpOp_step (o := _) rfl (fun K' hK => ?_)
    go_simp
    exact hK _ _ ⟨(.pointer (some ⟨w.heap.size + 1 + 1 + 1, 3, none⟩) : Value), rfl, ⟨by decide, rfl⟩, hB, fun _ h => h, fun k y _ h => h⟩
set_option maxRecDepth 100000 in
set_option maxHeartbeats 8000000 in
theorem rval11_b2 {w0 w : World} {c a : Nat} {b : ByteArray} (ao : Option Addr) (len cap : Nat) (t : Nat) (ht : t < len) (T : TypeV) (HT : TypeAt w0 ao t T) (h : RdAt w0 c b a w) (hk : T.kind = 11) (p : Nat) (hof : T.of = (p : Nat)) (m a1 : Nat) (x : Int) (hn : ∀ wx, RdAt w0 c b a wx → Calls Tryz.prog 42 #[.agg #[.slice ao len cap, .pointer (some ⟨c, 0, none⟩)], .int .i64 T.bound] wx (GotTo w0 c b a1 (.int .i64 (m : Nat)) wx)) (hc : ∀ wx, RdAt w0 c b a1 wx → Calls Tryz.prog 41 #[.agg #[.slice ao len cap, .pointer (some ⟨c, 0, none⟩)], .int .i64 (p : Nat), .int .i64 (m : Nat)] wx (BadTo c x wx)) :
    Calls Tryz.prog 21 #[.agg #[.slice ao len cap, .pointer (some ⟨c, 0, none⟩)], .int .i64 t] w (BadTo c x w) := by
  have HC := Lib.hid hc
  have HN := Lib.hid hn
  clear hc hn
  have HOF := Lib.hid hof
  clear hof
  obtain ⟨tb, off, rfl, c0, c1, c2, c3, c4, c5, wf, hi⟩ := HT
  have HWF := Lib.hid wf
  have hB := ((h.alloc (rdO (some ⟨tb, off, none⟩) len cap c)).alloc (va11 0 0 ⟨#[]⟩ none 0 0)).low
  obtain ⟨kd, hkd⟩ : ∃ kd, T.kind = kd := ⟨_, rfl⟩
  rw [hkd] at hk c0
  try rw [hkd]
  have HKD := Lib.hid hkd
  have HS := Lib.hid (VSt.start (some ⟨tb, off, none⟩) len cap kd T h)
  have c0 := keep hB c0
  have c1 := keep hB c1
  have c2 := keep hB c2
  have c3 := keep hB c3
  have c4 := keep hB c4
  have c5 := keep hB c5
  have HI := Lib.hid hi
  have HKK := Lib.hid hk
  have t10 : (kd == 10) = false := by rw [hk]; decide
  have t11 : (kd == 11) = true := by rw [hk]; decide
  clear hk
  clear wf hi hkd h
  go_enter Tryz.func21, Tryz.ntmps21
  go_upto_region 3 with (fail)
  clear c0 c1 c2 c3 c4 c5 hB
  generalize ((((w.alloc (rdO (some ⟨tb, off, none⟩) len cap c)).alloc (va11 0 0 ⟨#[]⟩ none 0 0)).alloc (ty11 kd T)).alloc (va11 kd 0 ⟨#[]⟩ none 0 0)) = W at *
  have z0 := cell_at (j := 0) HS.out.q0 rfl
  have z1 := cell_at (j := 1) HS.out.q0 rfl
  have y0 := cell_at (j := 0) HS.out.q2 rfl
  have y2 := cell_at (j := 2) HS.out.q2 rfl
  have y3 := cell_at (j := 3) HS.out.q2 rfl
  have y4 := cell_at (j := 4) HS.out.q2 rfl
  have y5 := cell_at (j := 5) HS.out.q2 rfl
  rw [HOF.out] at y3
  go_upto_region 8 with (fail)
  clear z0 z1 y0 y2 y3 y4 y5
  refine wp_region_pre (by kernel_rfl) 9 6 (fun v => ((.agg #[.slice (some ⟨tb, off, none⟩) len cap, .pointer (some ⟨c, 0, none⟩)] : Value) :: (.int .i64 (t : Nat) : Value) :: (.pointer (some ⟨w.heap.size, 0, none⟩) : Value) :: undef :: (.pointer (some ⟨w.heap.size + 1, 0, none⟩) : Value) :: (.pointer (some ⟨w.heap.size + 1 + 1, 0, none⟩) : Value) :: (.pointer (some ⟨w.heap.size + 1 + 1 + 1, 0, none⟩) : Value) :: (.pointer (some ⟨w.heap.size, 0, none⟩) : Value) :: (.slice (some ⟨tb, off, none⟩) len cap : Value) :: (.int .i64 (t : Nat) : Value) :: (.pointer (some ⟨tb, off + t * 6, none⟩) : Value) :: (.agg #[.int .i64 kd, .string T.name, .int .i64 T.bound, .int .i64 T.of, .int .i64 T.tag, .slice T.ia T.ilen T.icap] : Value) :: (.pointer (some ⟨w.heap.size + 1 + 1, 0, none⟩) : Value) :: (.int .i64 kd : Value) :: (.agg #[.int .i64 kd, .int .u64 0, .string ⟨#[]⟩, .slice none 0 0] : Value) :: (.pointer (some ⟨w.heap.size + 1 + 1, 0, none⟩) : Value) :: (.int .i64 kd : Value) :: undef :: undef :: undef :: undef :: (.bool false : Value) :: (.bool false : Value) :: undef :: undef :: undef :: undef :: undef :: (.bool true : Value) :: (.bool true : Value) :: v 0 :: v 1 :: v 2 :: v 3 :: v 4 :: v 5 :: v 6 :: v 7 :: v 8 :: undef :: undef :: undef :: undef :: undef :: undef :: undef :: undef :: undef :: undef :: undef :: undef :: undef :: undef :: undef :: undef :: undef :: undef :: undef :: undef :: undef :: undef :: undef :: undef :: undef :: undef :: undef :: undef :: undef :: undef :: undef :: undef :: []).toArray) (fun _ => undef) (fun j' y wz => j' ≠ 7 ∧ (j' = 6 → y = (.int .i64 (m : Nat) : Value) ∧ RdAt w0 c b a1 wz) ∧ (j' ≠ 6 → y = (fun j' => [.agg #[.slice (some ⟨tb, off, none⟩) len cap, .pointer (some ⟨c, 0, none⟩)], .pointer (some ⟨w.heap.size + 1 + 1, 3, none⟩), .int .i64 (p : Nat), .agg #[.slice (some ⟨tb, off, none⟩) len cap, .pointer (some ⟨c, 0, none⟩)], .pointer (some ⟨w.heap.size + 1 + 1, 2, none⟩), .int .i64 T.bound, undef, undef, .pointer (some ⟨w.heap.size + 1 + 1 + 1, 3, none⟩)].getD j' undef) j')) (fun wx => ∃ a', VSt w0 c b (some ⟨tb, off, none⟩) len cap kd T a' w #[.int .i64 kd, .int .u64 0, .string ⟨#[]⟩, .slice none 0 0] wx) (fun wx => RdAt w0 c b a wx) (Nat.le_of_ble_eq_true (by kernel_rfl)) (by kernel_rfl) (⟨a, HS.out.drew⟩) (HS.out.now.rd.drew) (fun i' hi' v w1 hB hP hd => ?_) (fun v w1 hv hB => absurd rfl (hv 7 (by decide)).1)
  have hcs : i' = 0 ∨ i' = 1 ∨ i' = 2 ∨ i' = 3 ∨ i' = 4 ∨ i' = 5 ∨ i' = 6 ∨ i' = 7 ∨ i' = 8 := by omega
  rcases hcs with rfl | rfl | rfl | rfl | rfl | rfl | rfl | rfl | rfl
  · obtain ⟨a', hV⟩ := hB; have hB : ∃ a', VSt w0 c b (some ⟨tb, off, none⟩) len cap kd T a' w #[.int .i64 kd, .int .u64 0, .string ⟨#[]⟩, .slice none 0 0] w1 := ⟨a', hV⟩; have z0 := cell_at (j := 0) hV.q0 rfl; have z1 := cell_at (j := 1) hV.q0 rfl; have y2 := cell_at (j := 2) hV.q2 rfl; have y3 := cell_at (j := 3) hV.q2 rfl; rw [HOF.out] at y3
    refine wpOp_step (o := _) rfl (fun K' hK => ?_)
    go_simp
    exact hK _ _ ⟨(.agg #[.slice (some ⟨tb, off, none⟩) len cap, .pointer (some ⟨c, 0, none⟩)] : Value), rfl, ⟨by decide, fun h => absurd h (by decide), fun _ => rfl⟩, hB, fun _ h => h, fun k y _ h => h⟩
  · obtain ⟨a', hV⟩ := hB; have hB : ∃ a', VSt w0 c b (some ⟨tb, off, none⟩) len cap kd T a' w #[.int .i64 kd, .int .u64 0, .string ⟨#[]⟩, .slice none 0 0] w1 := ⟨a', hV⟩; have z0 := cell_at (j := 0) hV.q0 rfl; have z1 := cell_at (j := 1) hV.q0 rfl; have y2 := cell_at (j := 2) hV.q2 rfl; have y3 := cell_at (j := 3) hV.q2 rfl; rw [HOF.out] at y3
    refine wpOp_step (o := _) rfl (fun K' hK => ?_)
    go_simp
    exact hK _ _ ⟨(.pointer (some ⟨w.heap.size + 1 + 1, 3, none⟩) : Value), rfl, ⟨by decide, fun h => absurd h (by decide), fun _ => rfl⟩, hB, fun _ h => h, fun k y _ h => h⟩
  · have e1 : v 1 = (.pointer (some ⟨w.heap.size + 1 + 1, 3, none⟩) : Value) := (hd 1 (List.contains_iff_mem.1 (by kernel_rfl))).2.2 (by decide)
    obtain ⟨a', hV⟩ := hB; have hB : ∃ a', VSt w0 c b (some ⟨tb, off, none⟩) len cap kd T a' w #[.int .i64 kd, .int .u64 0, .string ⟨#[]⟩, .slice none 0 0] w1 := ⟨a', hV⟩; have z0 := cell_at (j := 0) hV.q0 rfl; have z1 := cell_at (j := 1) hV.q0 rfl; have y2 := cell_at (j := 2) hV.q2 rfl; have y3 := cell_at (j := 3) hV.q2 rfl; rw [HOF.out] at y3
    refine wpOp_step (o := _) rfl (fun K' hK => ?_)
    go_simp
    exact hK _ _ ⟨(.int .i64 (p : Nat) : Value), fr_eq9 (by simp [upd, e1]), ⟨by decide, fun h => absurd h (by decide), fun _ => rfl⟩, hB, fun _ h => h, fun k y _ h => h⟩
  · obtain ⟨a', hV⟩ := hB; have hB : ∃ a', VSt w0 c b (some ⟨tb, off, none⟩) len cap kd T a' w #[.int .i64 kd, .int .u64 0, .string ⟨#[]⟩, .slice none 0 0] w1 := ⟨a', hV⟩; have z0 := cell_at (j := 0) hV.q0 rfl; have z1 := cell_at (j := 1) hV.q0 rfl; have y2 := cell_at (j := 2) hV.q2 rfl; have y3 := cell_at (j := 3) hV.q2 rfl; rw [HOF.out] at y3
    refine wpOp_step (o := _) rfl (fun K' hK => ?_)
    go_simp
    exact hK _ _ ⟨(.agg #[.slice (some ⟨tb, off, none⟩) len cap, .pointer (some ⟨c, 0, none⟩)] : Value), rfl, ⟨by decide, fun h => absurd h (by decide), fun _ => rfl⟩, hB, fun _ h => h, fun k y _ h => h⟩
  · obtain ⟨a', hV⟩ := hB; have hB : ∃ a', VSt w0 c b (some ⟨tb, off, none⟩) len cap kd T a' w #[.int .i64 kd, .int .u64 0, .string ⟨#[]⟩, .slice none 0 0] w1 := ⟨a', hV⟩; have z0 := cell_at (j := 0) hV.q0 rfl; have z1 := cell_at (j := 1) hV.q0 rfl; have y2 := cell_at (j := 2) hV.q2 rfl; have y3 := cell_at (j := 3) hV.q2 rfl; rw [HOF.out] at y3
    refine wpOp_step (o := _) rfl (fun K' hK => ?_)
    go_simp
    exact hK _ _ ⟨(.pointer (some ⟨w.heap.size + 1 + 1, 2, none⟩) : Value), rfl, ⟨by decide, fun h => absurd h (by decide), fun _ => rfl⟩, hB, fun _ h => h, fun k y _ h => h⟩
  · have e4 : v 4 = (.pointer (some ⟨w.heap.size + 1 + 1, 2, none⟩) : Value) := (hd 4 (List.contains_iff_mem.1 (by kernel_rfl))).2.2 (by decide)
    obtain ⟨a', hV⟩ := hB; have hB : ∃ a', VSt w0 c b (some ⟨tb, off, none⟩) len cap kd T a' w #[.int .i64 kd, .int .u64 0, .string ⟨#[]⟩, .slice none 0 0] w1 := ⟨a', hV⟩; have z0 := cell_at (j := 0) hV.q0 rfl; have z1 := cell_at (j := 1) hV.q0 rfl; have y2 := cell_at (j := 2) hV.q2 rfl; have y3 := cell_at (j := 3) hV.q2 rfl; rw [HOF.out] at y3
    refine wpOp_step (o := _) rfl (fun K' hK => ?_)
    go_simp
    exact hK _ _ ⟨(.int .i64 T.bound : Value), fr_eq9 (by simp [upd, e4]), ⟨by decide, fun h => absurd h (by decide), fun _ => rfl⟩, hB, fun _ h => h, fun k y _ h => h⟩
  · have e3 : v 3 = (.agg #[.slice (some ⟨tb, off, none⟩) len cap, .pointer (some ⟨c, 0, none⟩)] : Value) := (hd 3 (List.contains_iff_mem.1 (by kernel_rfl))).2.2 (by decide)
    have e5 : v 5 = (.int .i64 T.bound : Value) := (hd 5 (List.contains_iff_mem.1 (by kernel_rfl))).2.2 (by decide)
    obtain ⟨a', hV⟩ := hB; have hB : ∃ a', VSt w0 c b (some ⟨tb, off, none⟩) len cap kd T a' w #[.int .i64 kd, .int .u64 0, .string ⟨#[]⟩, .slice none 0 0] w1 := ⟨a', hV⟩; have z0 := cell_at (j := 0) hV.q0 rfl; have z1 := cell_at (j := 1) hV.q0 rfl; have y2 := cell_at (j := 2) hV.q2 rfl; have y3 := cell_at (j := 3) hV.q2 rfl; rw [HOF.out] at y3
    refine wpOp_step (o := _) rfl (fun K' hK => ?_)
    go_simp
    refine (HN.out w1 (hP rfl)).mono ?_
    rintro e w3 ⟨rfl, ho, hr⟩
    exact hK _ _ ⟨_, fr_eq9 (by simp [upd, e3, e5]), ⟨by decide, fun _ => ⟨rfl, hr⟩, fun h => absurd rfl h⟩, ⟨_, hV.got ho hr⟩, fun h => absurd rfl h, fun k y hk h => ⟨h.1, fun e => absurd e hk, h.2.2⟩⟩
  · have e0 : v 0 = (.agg #[.slice (some ⟨tb, off, none⟩) len cap, .pointer (some ⟨c, 0, none⟩)] : Value) := (hd 0 (List.contains_iff_mem.1 (by kernel_rfl))).2.2 (by decide)
    have e2 : v 2 = (.int .i64 (p : Nat) : Value) := (hd 2 (List.contains_iff_mem.1 (by kernel_rfl))).2.2 (by decide)
    obtain ⟨e6, hr6⟩ := (hd 6 (List.contains_iff_mem.1 (by kernel_rfl))).2.1 rfl
    obtain ⟨a', hV⟩ := hB; have hB : ∃ a', VSt w0 c b (some ⟨tb, off, none⟩) len cap kd T a' w #[.int .i64 kd, .int .u64 0, .string ⟨#[]⟩, .slice none 0 0] w1 := ⟨a', hV⟩; have z0 := cell_at (j := 0) hV.q0 rfl; have z1 := cell_at (j := 1) hV.q0 rfl; have y2 := cell_at (j := 2) hV.q2 rfl; have y3 := cell_at (j := 3) hV.q2 rfl; rw [HOF.out] at y3
    refine wpOp_step (o := _) rfl (fun K' hK => ?_)
    go_simp
    refine (HC.out w1 hr6).mono ?_
    rintro e w3 ⟨rfl, ho⟩
    exact ⟨rfl, rfl, only_two hV.now.only ho⟩
  · obtain ⟨a', hV⟩ := hB; have hB : ∃ a', VSt w0 c b (some ⟨tb, off, none⟩) len cap kd T a' w #[.int .i64 kd, .int .u64 0, .string ⟨#[]⟩, .slice none 0 0] w1 := ⟨a', hV⟩; have z0 := cell_at (j := 0) hV.q0 rfl; have z1 := cell_at (j := 1) hV.q0 rfl; have y2 := cell_at (j := 2) hV.q2 rfl; have y3 := cell_at (j := 3) hV.q2 rfl; rw [HOF.out] at y3
    refine wpOp_step (o := _) rfl (fun K' hK => ?_)
    go_simp
    exact hK _ _ ⟨(.pointer (some ⟨w.heap.size + 1 + 1 + 1, 3, none⟩) : Value), rfl, ⟨by decide, fun h => absurd h (by decide), fun _ => rfl⟩, hB, fun _ h => h, fun k y _ h => h⟩
set_option maxRecDepth 100000 in
set_option maxHeartbeats 8000000 in
theorem rval11_ok {w0 w : World} {c a : Nat} {b : ByteArray} (ao : Option Addr) (len cap : Nat) (t : Nat) (ht : t < len) (T : TypeV) (HT : TypeAt w0 ao t T) (h : RdAt w0 c b a w) (hk : T.kind = 11) (p : Nat) (hof : T.of = (p : Nat)) (m a1 : Nat) (hm : m ≤ 64) (K : Nat → VT) (a2 : Nat) (hn : ∀ wx, RdAt w0 c b a wx → Calls Tryz.prog 42 #[.agg #[.slice ao len cap, .pointer (some ⟨c, 0, none⟩)], .int .i64 T.bound] wx (GotTo w0 c b a1 (.int .i64 (m : Nat)) wx)) (hc : ∀ wx, RdAt w0 c b a1 wx → Calls Tryz.prog 41 #[.agg #[.slice ao len cap, .pointer (some ⟨c, 0, none⟩)], .int .i64 (p : Nat), .int .i64 (m : Nat)] wx (SeqTo w0 c b a2 m K wx)) :
    Calls Tryz.prog 21 #[.agg #[.slice ao len cap, .pointer (some ⟨c, 0, none⟩)], .int .i64 t] w (ValTo w0 c b a2 (vNode T.kind 0 ⟨#[]⟩ m K) w) := by
  have HC := Lib.hid hc
  have HN := Lib.hid hn
  clear hc hn
  have HOF := Lib.hid hof
  clear hof
  obtain ⟨tb, off, rfl, c0, c1, c2, c3, c4, c5, wf, hi⟩ := HT
  have HWF := Lib.hid wf
  have hB := ((h.alloc (rdO (some ⟨tb, off, none⟩) len cap c)).alloc (va11 0 0 ⟨#[]⟩ none 0 0)).low
  obtain ⟨kd, hkd⟩ : ∃ kd, T.kind = kd := ⟨_, rfl⟩
  rw [hkd] at hk c0
  try rw [hkd]
  have HKD := Lib.hid hkd
  have HS := Lib.hid (VSt.start (some ⟨tb, off, none⟩) len cap kd T h)
  have c0 := keep hB c0
  have c1 := keep hB c1
  have c2 := keep hB c2
  have c3 := keep hB c3
  have c4 := keep hB c4
  have c5 := keep hB c5
  have HI := Lib.hid hi
  have HKK := Lib.hid hk
  have t10 : (kd == 10) = false := by rw [hk]; decide
  have t11 : (kd == 11) = true := by rw [hk]; decide
  clear hk
  clear wf hi hkd h
  go_enter Tryz.func21, Tryz.ntmps21
  go_upto_region 3 with (fail)
  clear c0 c1 c2 c3 c4 c5 hB
  generalize ((((w.alloc (rdO (some ⟨tb, off, none⟩) len cap c)).alloc (va11 0 0 ⟨#[]⟩ none 0 0)).alloc (ty11 kd T)).alloc (va11 kd 0 ⟨#[]⟩ none 0 0)) = W at *
  have z0 := cell_at (j := 0) HS.out.q0 rfl
  have z1 := cell_at (j := 1) HS.out.q0 rfl
  have y0 := cell_at (j := 0) HS.out.q2 rfl
  have y2 := cell_at (j := 2) HS.out.q2 rfl
  have y3 := cell_at (j := 3) HS.out.q2 rfl
  have y4 := cell_at (j := 4) HS.out.q2 rfl
  have y5 := cell_at (j := 5) HS.out.q2 rfl
  rw [HOF.out] at y3
  go_upto_region 8 with (fail)
  have HV := Lib.hid HS.out.drew
  go_region_held3 (fun w' => w'.cell? ⟨w.heap.size, 0, none⟩ = some (.slice (some ⟨tb, off, none⟩) len cap) ∧ w'.cell? ⟨w.heap.size, 1, none⟩ = some (.pointer (some ⟨c, 0, none⟩)) ∧ w'.cell? ⟨w.heap.size + 1 + 1, 2, none⟩ = some (.int .i64 T.bound) ∧ w'.cell? ⟨w.heap.size + 1 + 1, 3, none⟩ = some (.int .i64 (p : Nat))) (first | exact ⟨z0, z1, y2, y3⟩ | exact ⟨s0, s1, u2, u3⟩ | go_keep)
    (first
      | (go_at_call 42; refine (HN.out _ (by first | exact HV.out.now.rd | exact HV.out.now.rd.drew)).mono ?_; rintro e w3 ⟨rfl, ho, hr⟩; have HV := Lib.hid (HV.out.got ho hr); have z0 := cell_at (j := 0) HV.out.q0 rfl; have z1 := cell_at (j := 1) HV.out.q0 rfl; have y2 := cell_at (j := 2) HV.out.q2 rfl; have y3 := cell_at (j := 3) HV.out.q2 rfl; rw [HOF.out] at y3; clear ho hr)
      | (go_at_call 41; refine (HC.out _ (by first | exact HV.out.now.rd | exact HV.out.now.rd.drew)).mono ?_; rintro e w4 ⟨va, vc, K', rfl, hK1, hK2, ho, hr⟩; have HG := Lib.hid (HV.out.got ho hr); have x3 := cell_at (j := 3) HG.out.q3 rfl; have f3 := free_at (j := 3) HG.out.q3; have HF := Lib.hid (HG.out.put 3 (.slice va m vc)); have d0 := cell_at (j := 0) HF.out.q3 rfl; have d1 := cell_at (j := 1) HF.out.q3 rfl; have d2 := cell_at (j := 2) HF.out.q3 rfl; have d3 := cell_at (j := 3) HF.out.q3 rfl; have hup := HV.out.up; have hnd := node_at (vc := vc) kd 0 ⟨#[]⟩ (by have := HWF.out.1; rw [HKD.out] at this; exact this) (by kernel_rfl) (by show (⟨#[]⟩ : ByteArray).size ≤ _; decide) hm hK1 hK2; have HE := Lib.hid (HF.out.fin (.node kd 0 ⟨#[]⟩ va m vc K') hnd.1 (ValAt.held_of (fun x hx => (by omega)) (by simp) (fun x hx _ => set_other (show x ≠ _ from (by simp at hx ⊢; omega))) _ hnd.2) #[.int .i64 kd, .int .u64 0, .string ⟨#[]⟩, .slice va m vc]); clear hK1 hK2 hnd ho hr; have z0 := cell_at (j := 0) HG.out.q0 rfl; have z1 := cell_at (j := 1) HG.out.q0 rfl; have y2 := cell_at (j := 2) HG.out.q2 rfl; have y3 := cell_at (j := 3) HG.out.q2 rfl; rw [HOF.out] at y3; have s0 := cell_at (j := 0) HF.out.q0 rfl; have s1 := cell_at (j := 1) HF.out.q0 rfl; have u2 := cell_at (j := 2) HF.out.q2 rfl; have u3 := cell_at (j := 3) HF.out.q2 rfl; rw [HOF.out] at u3))
  all_goals go_wp2_with ((refine wpList_store_rowTo rfl 28 _ _ rfl rfl (w.heap.size + 1) #[.int .i64 kd, .int .u64 0, .string ⟨#[]⟩, .slice va m vc] rfl rfl _ _ HF.out.q1 (by kernel_rfl) (by kernel_rfl) (by kernel_rfl) ?_))
  refine bodyPost_ret (v := .agg #[.int .i64 kd, .int .u64 0, .string ⟨#[]⟩, .slice va m vc]) ?_ rfl HE.out
  have hl := run_loadVar_row (P := Tryz.prog) _ (w.heap.size + 1) _ 28 _ _ _ (setRow_heap _ _ _ #[.int .i64 kd, .int .u64 0, .string ⟨#[]⟩, .slice va m vc] _ _ HF.out.q1) Tryz.underlying28 rfl (by kernel_rfl)
  simp [results, Tryz.results21, asAddr, hl]
set_option maxRecDepth 100000 in
set_option maxHeartbeats 8000000 in
theorem rval14_b1 {w0 w : World} {c a : Nat} {b : ByteArray} (ao : Option Addr) (len cap : Nat) (t : Nat) (ht : t < len) (T : TypeV) (HT : TypeAt w0 ao t T) (h : RdAt w0 c b a w) (hk : T.kind = 14) (q : Nat) (hq : T.tag = (q : Nat)) (x : Int) (hc : ∀ wx, RdAt w0 c b a wx → Calls Tryz.prog 44 #[.agg #[.slice ao len cap, .pointer (some ⟨c, 0, none⟩)], .int .i64 (q : Nat)] wx (BadTo c x wx)) :
    Calls Tryz.prog 21 #[.agg #[.slice ao len cap, .pointer (some ⟨c, 0, none⟩)], .int .i64 t] w (BadTo c x w) := by
  have HC := Lib.hid hc
  clear hc
  have HQ := Lib.hid hq
  clear hq
  obtain ⟨tb, off, rfl, c0, c1, c2, c3, c4, c5, wf, hi⟩ := HT
  have HWF := Lib.hid wf
  have hB := ((h.alloc (rdO (some ⟨tb, off, none⟩) len cap c)).alloc (va11 0 0 ⟨#[]⟩ none 0 0)).low
  obtain ⟨kd, hkd⟩ : ∃ kd, T.kind = kd := ⟨_, rfl⟩
  rw [hkd] at hk c0
  try rw [hkd]
  have HKD := Lib.hid hkd
  have HS := Lib.hid (VSt.start (some ⟨tb, off, none⟩) len cap kd T h)
  have c0 := keep hB c0
  have c1 := keep hB c1
  have c2 := keep hB c2
  have c3 := keep hB c3
  have c4 := keep hB c4
  have c5 := keep hB c5
  have HI := Lib.hid hi
  have HKK := Lib.hid hk
  have t10 : (kd == 10) = false := by rw [hk]; decide
  have t11 : (kd == 11) = false := by rw [hk]; decide
  have t12 : (kd == 12) = false := by rw [hk]; decide
  have t13 : (kd == 13) = false := by rw [hk]; decide
  have t14 : (kd == 14) = true := by rw [hk]; decide
  clear hk
  clear wf hi hkd h
  go_enter Tryz.func21, Tryz.ntmps21
  go_upto_region 3 with (fail)
  clear c0 c1 c2 c3 c4 c5 hB
  generalize ((((w.alloc (rdO (some ⟨tb, off, none⟩) len cap c)).alloc (va11 0 0 ⟨#[]⟩ none 0 0)).alloc (ty11 kd T)).alloc (va11 kd 0 ⟨#[]⟩ none 0 0)) = W at *
  have z0 := cell_at (j := 0) HS.out.q0 rfl
  have z1 := cell_at (j := 1) HS.out.q0 rfl
  have y0 := cell_at (j := 0) HS.out.q2 rfl
  have y2 := cell_at (j := 2) HS.out.q2 rfl
  have y3 := cell_at (j := 3) HS.out.q2 rfl
  have y4 := cell_at (j := 4) HS.out.q2 rfl
  have y5 := cell_at (j := 5) HS.out.q2 rfl
  rw [HQ.out] at y4
  go_wp2_with (go_at_call 44; refine (HC.out _ HS.out.now.rd).mono ?_; rintro e w4 ⟨rfl, ho⟩)
  exact ⟨rfl, rfl, only_two HS.out.now.only ho⟩
set_option maxRecDepth 100000 in
set_option maxHeartbeats 8000000 in
theorem rval14_b2 {w0 w : World} {c a : Nat} {b : ByteArray} (ao : Option Addr) (len cap : Nat) (t : Nat) (ht : t < len) (T : TypeV) (HT : TypeAt w0 ao t T) (h : RdAt w0 c b a w) (hk : T.kind = 14) (q : Nat) (hq : T.tag = (q : Nat)) (n : Int) (hnw : (Lit.int .u64 n).wf = true) (a1 : Nat) (hc : ∀ wx, RdAt w0 c b a wx → Calls Tryz.prog 44 #[.agg #[.slice ao len cap, .pointer (some ⟨c, 0, none⟩)], .int .i64 (q : Nat)] wx (GotTo w0 c b a1 (.int .u64 n) wx)) (m : Nat) (X : Nat → ItemV) (hbr : ∀ wx, Below w0.heap.size w0 wx → Calls Tryz.prog 45 #[.agg #[.slice ao len cap, .pointer (some ⟨c, 0, none⟩)], .int .i64 t, .int .u64 n] wx (fun e w' => ∃ ba bc, e = .returned (.slice ba m bc) ∧ (∀ i, i < m → ItemAt w' ba i (X i)) ∧ Below wx.heap.size wx w')) (x : Int) (hmb : ∀ wx ba bc, RdAt w0 c b a1 wx → (∀ i, i < m → ItemAt wx ba i (X i)) → Calls Tryz.prog 43 #[.agg #[.slice ao len cap, .pointer (some ⟨c, 0, none⟩)], .slice ba m bc] wx (BadTo c x wx)) :
    Calls Tryz.prog 21 #[.agg #[.slice ao len cap, .pointer (some ⟨c, 0, none⟩)], .int .i64 t] w (BadTo c x w) := by
  have HQ := Lib.hid hq
  clear hq
  have HC := Lib.hid hc
  have HBR := Lib.hid hbr
  have HM := Lib.hid hmb
  clear hc hbr hmb
  obtain ⟨tb, off, rfl, c0, c1, c2, c3, c4, c5, wf, hi⟩ := HT
  have HWF := Lib.hid wf
  have hB := ((h.alloc (rdO (some ⟨tb, off, none⟩) len cap c)).alloc (va11 0 0 ⟨#[]⟩ none 0 0)).low
  obtain ⟨kd, hkd⟩ : ∃ kd, T.kind = kd := ⟨_, rfl⟩
  rw [hkd] at hk c0
  try rw [hkd]
  have HKD := Lib.hid hkd
  have HS := Lib.hid (VSt.start (some ⟨tb, off, none⟩) len cap kd T h)
  have c0 := keep hB c0
  have c1 := keep hB c1
  have c2 := keep hB c2
  have c3 := keep hB c3
  have c4 := keep hB c4
  have c5 := keep hB c5
  have HI := Lib.hid hi
  have HKK := Lib.hid hk
  have t10 : (kd == 10) = false := by rw [hk]; decide
  have t11 : (kd == 11) = false := by rw [hk]; decide
  have t12 : (kd == 12) = false := by rw [hk]; decide
  have t13 : (kd == 13) = false := by rw [hk]; decide
  have t14 : (kd == 14) = true := by rw [hk]; decide
  clear hk
  clear wf hi hkd h
  go_enter Tryz.func21, Tryz.ntmps21
  go_upto_region 3 with (fail)
  clear c0 c1 c2 c3 c4 c5 hB
  generalize ((((w.alloc (rdO (some ⟨tb, off, none⟩) len cap c)).alloc (va11 0 0 ⟨#[]⟩ none 0 0)).alloc (ty11 kd T)).alloc (va11 kd 0 ⟨#[]⟩ none 0 0)) = W at *
  have z0 := cell_at (j := 0) HS.out.q0 rfl
  have z1 := cell_at (j := 1) HS.out.q0 rfl
  have y0 := cell_at (j := 0) HS.out.q2 rfl
  have y2 := cell_at (j := 2) HS.out.q2 rfl
  have y3 := cell_at (j := 3) HS.out.q2 rfl
  have y4 := cell_at (j := 4) HS.out.q2 rfl
  have y5 := cell_at (j := 5) HS.out.q2 rfl
  rw [HQ.out] at y4
  go_upto_region 15 with (go_at_call 44; refine (HC.out _ HS.out.now.rd).mono ?_; rintro e w4 ⟨rfl, ho, hr⟩; have HG := Lib.hid (HS.out.got ho hr); have x1 := cell_at (j := 1) HG.out.q3 rfl; have f1 := free_at (j := 1) HG.out.q3; have HV := Lib.hid (show VSt w0 c b (some ⟨tb, off, none⟩) len cap kd T a1 w #[.int .i64 kd, .int .u64 n, .string ⟨#[]⟩, .slice none 0 0] _ from HG.out.put 1 (.int .u64 n)); clear ho hr)
  clear z0 z1 y0 y2 y3 y4 y5 x1 f1 HG HS
  generalize w4.setCell ⟨w.heap.size + 1 + 1 + 1, 1, none⟩ (.int .u64 n) = W5 at *
  refine wp_region_pre (by kernel_rfl) 8 100 (fun v => ((.agg #[.slice (some ⟨tb, off, none⟩) len cap, .pointer (some ⟨c, 0, none⟩)] : Value) :: (.int .i64 (t : Nat) : Value) :: (.pointer (some ⟨w.heap.size, 0, none⟩) : Value) :: undef :: (.pointer (some ⟨w.heap.size + 1, 0, none⟩) : Value) :: (.pointer (some ⟨w.heap.size + 1 + 1, 0, none⟩) : Value) :: (.pointer (some ⟨w.heap.size + 1 + 1 + 1, 0, none⟩) : Value) :: (.pointer (some ⟨w.heap.size, 0, none⟩) : Value) :: (.slice (some ⟨tb, off, none⟩) len cap : Value) :: (.int .i64 (t : Nat) : Value) :: (.pointer (some ⟨tb, off + t * 6, none⟩) : Value) :: (.agg #[.int .i64 kd, .string T.name, .int .i64 T.bound, .int .i64 T.of, .int .i64 T.tag, .slice T.ia T.ilen T.icap] : Value) :: (.pointer (some ⟨w.heap.size + 1 + 1, 0, none⟩) : Value) :: (.int .i64 kd : Value) :: (.agg #[.int .i64 kd, .int .u64 0, .string ⟨#[]⟩, .slice none 0 0] : Value) :: (.pointer (some ⟨w.heap.size + 1 + 1, 0, none⟩) : Value) :: (.int .i64 kd : Value) :: undef :: undef :: undef :: undef :: (.bool false : Value) :: (.bool false : Value) :: undef :: undef :: undef :: undef :: undef :: (.bool false : Value) :: (.bool false : Value) :: undef :: undef :: undef :: undef :: undef :: undef :: undef :: undef :: undef :: (.bool false : Value) :: (.bool false : Value) :: undef :: undef :: undef :: undef :: undef :: undef :: undef :: (.bool false : Value) :: (.bool false : Value) :: undef :: undef :: undef :: undef :: undef :: (.bool true : Value) :: (.bool true : Value) :: (.agg #[.slice (some ⟨tb, off, none⟩) len cap, .pointer (some ⟨c, 0, none⟩)] : Value) :: (.pointer (some ⟨w.heap.size + 1 + 1, 4, none⟩) : Value) :: (.int .i64 (q : Nat) : Value) :: (.int .u64 n : Value) :: (.pointer (some ⟨w.heap.size + 1 + 1 + 1, 1, none⟩) : Value) :: v 0 :: v 1 :: v 2 :: v 3 :: v 4 :: v 5 :: v 6 :: v 7 :: undef :: []).toArray) (fun _ => undef) (fun j' y wz => j' ≠ 6 ∧ (j' = 5 → ∃ ba bc, y = (.slice ba m bc : Value) ∧ ∀ i, i < m → ItemAt wz ba i (X i)) ∧ (j' ≠ 5 → y = (fun j' => [.agg #[.slice (some ⟨tb, off, none⟩) len cap, .pointer (some ⟨c, 0, none⟩)], .agg #[.slice (some ⟨tb, off, none⟩) len cap, .pointer (some ⟨c, 0, none⟩)], .int .i64 (t : Nat), .pointer (some ⟨w.heap.size + 1 + 1 + 1, 1, none⟩), .int .u64 n, undef, undef, .pointer (some ⟨w.heap.size + 1 + 1 + 1, 3, none⟩)].getD j' undef) j')) (fun wx => VSt w0 c b (some ⟨tb, off, none⟩) len cap kd T a1 w #[.int .i64 kd, .int .u64 n, .string ⟨#[]⟩, .slice none 0 0] wx) (fun _ => True) (Nat.le_of_ble_eq_true (by kernel_rfl)) (by kernel_rfl) (HV.out.drew) (trivial) (fun i' hi' v w1 hB hP hd => ?_) (fun v w1 hv hB => absurd rfl (hv 6 (by decide)).1)
  have hcs : i' = 0 ∨ i' = 1 ∨ i' = 2 ∨ i' = 3 ∨ i' = 4 ∨ i' = 5 ∨ i' = 6 ∨ i' = 7 := by omega
  rcases hcs with rfl | rfl | rfl | rfl | rfl | rfl | rfl | rfl
  · have z0 := cell_at (j := 0) hB.q0 rfl; have z1 := cell_at (j := 1) hB.q0 rfl; have x1 := cell_at (j := 1) hB.q3 rfl
    refine wpOp_step (o := _) rfl (fun K' hK => ?_)
    go_simp
    exact hK _ _ ⟨(.agg #[.slice (some ⟨tb, off, none⟩) len cap, .pointer (some ⟨c, 0, none⟩)] : Value), rfl, ⟨by decide, fun h => absurd h (by decide), fun _ => rfl⟩, hB, fun _ h => h, fun k y _ h => h⟩
  · have z0 := cell_at (j := 0) hB.q0 rfl; have z1 := cell_at (j := 1) hB.q0 rfl; have x1 := cell_at (j := 1) hB.q3 rfl
    refine wpOp_step (o := _) rfl (fun K' hK => ?_)
    go_simp
    exact hK _ _ ⟨(.agg #[.slice (some ⟨tb, off, none⟩) len cap, .pointer (some ⟨c, 0, none⟩)] : Value), rfl, ⟨by decide, fun h => absurd h (by decide), fun _ => rfl⟩, hB, fun _ h => h, fun k y _ h => h⟩
  · have z0 := cell_at (j := 0) hB.q0 rfl; have z1 := cell_at (j := 1) hB.q0 rfl; have x1 := cell_at (j := 1) hB.q3 rfl
    refine wpOp_step (o := _) rfl (fun K' hK => ?_)
    go_simp
    exact hK _ _ ⟨(.int .i64 (t : Nat) : Value), rfl, ⟨by decide, fun h => absurd h (by decide), fun _ => rfl⟩, hB, fun _ h => h, fun k y _ h => h⟩
  · have z0 := cell_at (j := 0) hB.q0 rfl; have z1 := cell_at (j := 1) hB.q0 rfl; have x1 := cell_at (j := 1) hB.q3 rfl
    refine wpOp_step (o := _) rfl (fun K' hK => ?_)
    go_simp
    exact hK _ _ ⟨(.pointer (some ⟨w.heap.size + 1 + 1 + 1, 1, none⟩) : Value), rfl, ⟨by decide, fun h => absurd h (by decide), fun _ => rfl⟩, hB, fun _ h => h, fun k y _ h => h⟩
  · have e3 : v 3 = (.pointer (some ⟨w.heap.size + 1 + 1 + 1, 1, none⟩) : Value) := (hd 3 (List.contains_iff_mem.1 (by kernel_rfl))).2.2 (by decide)
    have z0 := cell_at (j := 0) hB.q0 rfl; have z1 := cell_at (j := 1) hB.q0 rfl; have x1 := cell_at (j := 1) hB.q3 rfl
    refine wpOp_step (o := _) rfl (fun K' hK => ?_)
    go_simp
    exact hK _ _ ⟨(.int .u64 n : Value), fr_eq9 (by simp [upd, e3]), ⟨by decide, fun h => absurd h (by decide), fun _ => rfl⟩, hB, fun _ h => h, fun k y _ h => h⟩
  · have e1 : v 1 = (.agg #[.slice (some ⟨tb, off, none⟩) len cap, .pointer (some ⟨c, 0, none⟩)] : Value) := (hd 1 (List.contains_iff_mem.1 (by kernel_rfl))).2.2 (by decide)
    have e2 : v 2 = (.int .i64 (t : Nat) : Value) := (hd 2 (List.contains_iff_mem.1 (by kernel_rfl))).2.2 (by decide)
    have e4 : v 4 = (.int .u64 n : Value) := (hd 4 (List.contains_iff_mem.1 (by kernel_rfl))).2.2 (by decide)
    have z0 := cell_at (j := 0) hB.q0 rfl; have z1 := cell_at (j := 1) hB.q0 rfl; have x1 := cell_at (j := 1) hB.q3 rfl
    refine wpOp_step (o := _) rfl (fun K' hK => ?_)
    go_simp
    refine (HBR.out w1 hB.now.rd.low).mono ?_
    rintro e w3 ⟨ba, bc, rfl, hI, hb3⟩
    exact hK _ _ ⟨_, fr_eq9 (by simp [upd, e1, e2, e4]), ⟨by decide, fun _ => ⟨ba, bc, rfl, hI⟩, fun h => absurd rfl h⟩, hB.step hb3, fun _ _ => trivial, fun k y hk h => ⟨h.1, fun e => absurd e hk, h.2.2⟩⟩
  · have e0 : v 0 = (.agg #[.slice (some ⟨tb, off, none⟩) len cap, .pointer (some ⟨c, 0, none⟩)] : Value) := (hd 0 (List.contains_iff_mem.1 (by kernel_rfl))).2.2 (by decide)
    obtain ⟨ba, bc, e5, hm5⟩ := (hd 5 (List.contains_iff_mem.1 (by kernel_rfl))).2.1 rfl
    have z0 := cell_at (j := 0) hB.q0 rfl; have z1 := cell_at (j := 1) hB.q0 rfl; have x1 := cell_at (j := 1) hB.q3 rfl
    refine wpOp_step (o := _) rfl (fun K' hK => ?_)
    go_simp
    refine (HM.out w1 ba bc hB.now.rd hm5).mono ?_
    rintro e w3 ⟨rfl, ho⟩
    exact ⟨rfl, rfl, only_two hB.now.only ho⟩
  · have z0 := cell_at (j := 0) hB.q0 rfl; have z1 := cell_at (j := 1) hB.q0 rfl; have x1 := cell_at (j := 1) hB.q3 rfl
    refine wpOp_step (o := _) rfl (fun K' hK => ?_)
    go_simp
    exact hK _ _ ⟨(.pointer (some ⟨w.heap.size + 1 + 1 + 1, 3, none⟩) : Value), rfl, ⟨by decide, fun h => absurd h (by decide), fun _ => rfl⟩, hB, fun _ h => h, fun k y _ h => h⟩
set_option maxRecDepth 100000 in
set_option maxHeartbeats 8000000 in
theorem rval14_ok {w0 w : World} {c a : Nat} {b : ByteArray} (ao : Option Addr) (len cap : Nat) (t : Nat) (ht : t < len) (T : TypeV) (HT : TypeAt w0 ao t T) (h : RdAt w0 c b a w) (hk : T.kind = 14) (q : Nat) (hq : T.tag = (q : Nat)) (n : Int) (hnw : (Lit.int .u64 n).wf = true) (a1 : Nat) (hc : ∀ wx, RdAt w0 c b a wx → Calls Tryz.prog 44 #[.agg #[.slice ao len cap, .pointer (some ⟨c, 0, none⟩)], .int .i64 (q : Nat)] wx (GotTo w0 c b a1 (.int .u64 n) wx)) (m : Nat) (X : Nat → ItemV) (hbr : ∀ wx, Below w0.heap.size w0 wx → Calls Tryz.prog 45 #[.agg #[.slice ao len cap, .pointer (some ⟨c, 0, none⟩)], .int .i64 t, .int .u64 n] wx (fun e w' => ∃ ba bc, e = .returned (.slice ba m bc) ∧ (∀ i, i < m → ItemAt w' ba i (X i)) ∧ Below wx.heap.size wx w')) (hm : m ≤ 64) (K : Nat → VT) (a2 : Nat) (hmb : ∀ wx ba bc, RdAt w0 c b a1 wx → (∀ i, i < m → ItemAt wx ba i (X i)) → Calls Tryz.prog 43 #[.agg #[.slice ao len cap, .pointer (some ⟨c, 0, none⟩)], .slice ba m bc] wx (SeqTo w0 c b a2 m K wx)) :
    Calls Tryz.prog 21 #[.agg #[.slice ao len cap, .pointer (some ⟨c, 0, none⟩)], .int .i64 t] w (ValTo w0 c b a2 (vNode T.kind n ⟨#[]⟩ m K) w) := by
  have HQ := Lib.hid hq
  clear hq
  have HC := Lib.hid hc
  have HBR := Lib.hid hbr
  have HM := Lib.hid hmb
  clear hc hbr hmb
  obtain ⟨tb, off, rfl, c0, c1, c2, c3, c4, c5, wf, hi⟩ := HT
  have HWF := Lib.hid wf
  have hB := ((h.alloc (rdO (some ⟨tb, off, none⟩) len cap c)).alloc (va11 0 0 ⟨#[]⟩ none 0 0)).low
  obtain ⟨kd, hkd⟩ : ∃ kd, T.kind = kd := ⟨_, rfl⟩
  rw [hkd] at hk c0
  try rw [hkd]
  have HKD := Lib.hid hkd
  have HS := Lib.hid (VSt.start (some ⟨tb, off, none⟩) len cap kd T h)
  have c0 := keep hB c0
  have c1 := keep hB c1
  have c2 := keep hB c2
  have c3 := keep hB c3
  have c4 := keep hB c4
  have c5 := keep hB c5
  have HI := Lib.hid hi
  have HKK := Lib.hid hk
  have t10 : (kd == 10) = false := by rw [hk]; decide
  have t11 : (kd == 11) = false := by rw [hk]; decide
  have t12 : (kd == 12) = false := by rw [hk]; decide
  have t13 : (kd == 13) = false := by rw [hk]; decide
  have t14 : (kd == 14) = true := by rw [hk]; decide
  clear hk
  clear wf hi hkd h
  go_enter Tryz.func21, Tryz.ntmps21
  go_upto_region 3 with (fail)
  clear c0 c1 c2 c3 c4 c5 hB
  generalize ((((w.alloc (rdO (some ⟨tb, off, none⟩) len cap c)).alloc (va11 0 0 ⟨#[]⟩ none 0 0)).alloc (ty11 kd T)).alloc (va11 kd 0 ⟨#[]⟩ none 0 0)) = W at *
  have z0 := cell_at (j := 0) HS.out.q0 rfl
  have z1 := cell_at (j := 1) HS.out.q0 rfl
  have y0 := cell_at (j := 0) HS.out.q2 rfl
  have y2 := cell_at (j := 2) HS.out.q2 rfl
  have y3 := cell_at (j := 3) HS.out.q2 rfl
  have y4 := cell_at (j := 4) HS.out.q2 rfl
  have y5 := cell_at (j := 5) HS.out.q2 rfl
  rw [HQ.out] at y4
  go_upto_region 15 with (go_at_call 44; refine (HC.out _ HS.out.now.rd).mono ?_; rintro e w4 ⟨rfl, ho, hr⟩; have HG := Lib.hid (HS.out.got ho hr); have x1 := cell_at (j := 1) HG.out.q3 rfl; have f1 := free_at (j := 1) HG.out.q3; have HV := Lib.hid (show VSt w0 c b (some ⟨tb, off, none⟩) len cap kd T a1 w #[.int .i64 kd, .int .u64 n, .string ⟨#[]⟩, .slice none 0 0] _ from HG.out.put 1 (.int .u64 n)); clear ho hr)
  clear z0 z1 y0 y2 y3 y4 y5 x1 f1 HG HS
  generalize w4.setCell ⟨w.heap.size + 1 + 1 + 1, 1, none⟩ (.int .u64 n) = W5 at *
  have z0 := cell_at (j := 0) HV.out.q0 rfl; have z1 := cell_at (j := 1) HV.out.q0 rfl; have x1 := cell_at (j := 1) HV.out.q3 rfl
  have HV := Lib.hid HV.out.drew
  go_region_held3 (fun w' => w'.cell? ⟨w.heap.size, 0, none⟩ = some (.slice (some ⟨tb, off, none⟩) len cap) ∧ w'.cell? ⟨w.heap.size, 1, none⟩ = some (.pointer (some ⟨c, 0, none⟩)) ∧ w'.cell? ⟨w.heap.size + 1 + 1 + 1, 1, none⟩ = some (.int .u64 n)) (first | exact ⟨z0, z1, x1⟩ | exact ⟨s0, s1, s4⟩ | go_keep)
    (first
      | (go_at_call 45; refine (HBR.out _ (by first | exact HV.out.now.rd.low | exact HV.out.now.rd.drew.low)).mono ?_; rintro e w3 ⟨ba, bc, rfl, hI, hb3⟩; have HV := Lib.hid (HV.out.step hb3); have HIT := Lib.hid hI; have z0 := cell_at (j := 0) HV.out.q0 rfl; have z1 := cell_at (j := 1) HV.out.q0 rfl; have x1 := cell_at (j := 1) HV.out.q3 rfl; clear hI hb3)
      | (go_at_call 43; refine (HM.out _ _ _ HV.out.now.rd HIT.out).mono ?_; rintro e w4 ⟨va, vc, K', rfl, hK1, hK2, ho, hr⟩; have HG := Lib.hid (HV.out.got ho hr); have x3 := cell_at (j := 3) HG.out.q3 rfl; have f3 := free_at (j := 3) HG.out.q3; have HF := Lib.hid (HG.out.put 3 (.slice va m vc)); have d0 := cell_at (j := 0) HF.out.q3 rfl; have d1 := cell_at (j := 1) HF.out.q3 rfl; have d2 := cell_at (j := 2) HF.out.q3 rfl; have d3 := cell_at (j := 3) HF.out.q3 rfl; have hup := HV.out.up; have hnd := node_at (vc := vc) kd n ⟨#[]⟩ (by have := HWF.out.1; rw [HKD.out] at this; exact this) hnw (by show (⟨#[]⟩ : ByteArray).size ≤ _; decide) hm hK1 hK2; have HE := Lib.hid (HF.out.fin (.node kd n ⟨#[]⟩ va m vc K') hnd.1 (ValAt.held_of (fun x hx => (by omega)) (by simp) (fun x hx _ => set_other (show x ≠ _ from (by simp at hx ⊢; omega))) _ hnd.2) #[.int .i64 kd, .int .u64 n, .string ⟨#[]⟩, .slice va m vc]); clear hK1 hK2 hnd ho hr; have z0 := cell_at (j := 0) HG.out.q0 rfl; have z1 := cell_at (j := 1) HG.out.q0 rfl; have x1 := cell_at (j := 1) HG.out.q3 rfl; have s0 := cell_at (j := 0) HF.out.q0 rfl; have s1 := cell_at (j := 1) HF.out.q0 rfl; have s4 := cell_at (j := 1) HF.out.q3 rfl))
  all_goals go_wp2_with ((refine wpList_store_rowTo rfl 28 _ _ rfl rfl (w.heap.size + 1) #[.int .i64 kd, .int .u64 n, .string ⟨#[]⟩, .slice va m vc] rfl rfl _ _ HF.out.q1 (by kernel_rfl) (by kernel_rfl) (by kernel_rfl) ?_))
  refine bodyPost_ret (v := .agg #[.int .i64 kd, .int .u64 n, .string ⟨#[]⟩, .slice va m vc]) ?_ rfl HE.out
  have hl := run_loadVar_row (P := Tryz.prog) _ (w.heap.size + 1) _ 28 _ _ _ (setRow_heap _ _ _ #[.int .i64 kd, .int .u64 n, .string ⟨#[]⟩, .slice va m vc] _ _ HF.out.q1) Tryz.underlying28 rfl (by kernel_rfl)
  simp [results, Tryz.results21, asAddr, hl]
end Go.Proofs.YtmnemddagcfjgaaGreatDoor
