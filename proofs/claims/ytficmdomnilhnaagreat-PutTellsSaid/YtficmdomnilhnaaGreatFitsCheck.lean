/- Contract of package fits: (list).check. -/
import Derived.Test.YtficmdomnilhnaaGreatFitsEach
namespace Go.Proofs.YtficmdomnilhnaaGreat
open Go.RowKit
set_option linter.unusedVariables false
set_option maxHeartbeats 1000000 in
theorem chk_kind (ao : Option Addr) (len cap t : Nat) (T : VT) (X : TypeV) (hlen : len ≤ 1000000) (ht : t < len) (hl : T.len ≤ 2513169434843) (w : World) (HX : TypeAt w ao t X) (hk : T.kind ≠ X.kind) :
    Calls Tryz.prog 25 #[.slice ao len cap, .int .i64 t, .agg #[.int .i64 T.kind, .int .u64 T.num, .string T.text, .slice T.ia T.len T.cap]] w fun e w' => e = .returned (.int .i64 4) ∧ Below w.heap.size w w' := by
  have hk' : (T.kind != X.kind) = true := by simpa using hk
  obtain ⟨b, off, rfl, c0, c1, c2, c3, c4, c5, wf, hi⟩ := HX
  have hbl : b < w.heap.size := World.block_lt_of_cell? w _ c0
  have hne : ¬ b = w.heap.size := by omega
  have HB := Lib.hid (((Below.refl w.heap.size w).alloc (Nat.le_refl _) (.cells #[.int .i64 T.kind, .int .u64 T.num, .string T.text, .slice T.ia T.len T.cap] 26)).alloc (by simp) (.cells #[.int .i64 X.kind, .string X.name, .int .i64 X.bound, .int .i64 X.of, .int .i64 X.tag, .slice X.ia X.ilen X.icap] 47))
  have HQ1 := Lib.hid (show ((w.alloc (.cells #[.int .i64 T.kind, .int .u64 T.num, .string T.text, .slice T.ia T.len T.cap] 26)).alloc (.cells #[.int .i64 X.kind, .string X.name, .int .i64 X.bound, .int .i64 X.of, .int .i64 X.tag, .slice X.ia X.ilen X.icap] 47)).heap[w.heap.size]? = some (.cells #[.int .i64 T.kind, .int .u64 T.num, .string T.text, .slice T.ia T.len T.cap] 26) from alloc_old (alloc_at w _))
  have HQ2 := Lib.hid (show ((w.alloc (.cells #[.int .i64 T.kind, .int .u64 T.num, .string T.text, .slice T.ia T.len T.cap] 26)).alloc (.cells #[.int .i64 X.kind, .string X.name, .int .i64 X.bound, .int .i64 X.of, .int .i64 X.tag, .slice X.ia X.ilen X.icap] 47)).heap[w.heap.size + 1]? = some (.cells #[.int .i64 X.kind, .string X.name, .int .i64 X.bound, .int .i64 X.of, .int .i64 X.tag, .slice X.ia X.ilen X.icap] 47) by have := alloc_at (w.alloc (.cells #[.int .i64 T.kind, .int .u64 T.num, .string T.text, .slice T.ia T.len T.cap] 26)) (.cells #[.int .i64 X.kind, .string X.name, .int .i64 X.bound, .int .i64 X.of, .int .i64 X.tag, .slice X.ia X.ilen X.icap] 47); simpa using this)
  clear hi
  go_enter Tryz.func25, Tryz.ntmps25
  go_upto_region 2 with (fail)
  clear c0 c1 c2 c3 c4 c5 hbl hne
  generalize (w.alloc (.cells #[.int .i64 T.kind, .int .u64 T.num, .string T.text, .slice T.ia T.len T.cap] 26)).alloc (.cells #[.int .i64 X.kind, .string X.name, .int .i64 X.bound, .int .i64 X.of, .int .i64 X.tag, .slice X.ia X.ilen X.icap] 47) = W0 at *
  have d0 : W0.cell? ⟨w.heap.size, 0, none⟩ = some (.int .i64 T.kind) := cell_at HQ1.out rfl
  have d1 : W0.cell? ⟨w.heap.size, 1, none⟩ = some (.int .u64 T.num) := cell_at HQ1.out rfl
  have d2 : W0.cell? ⟨w.heap.size, 2, none⟩ = some (.string T.text) := cell_at HQ1.out rfl
  have d3 : W0.cell? ⟨w.heap.size, 3, none⟩ = some (.slice T.ia T.len T.cap) := cell_at HQ1.out rfl
  have x0 : W0.cell? ⟨w.heap.size + 1, 0, none⟩ = some (.int .i64 X.kind) := cell_at HQ2.out rfl
  have x2 : W0.cell? ⟨w.heap.size + 1, 2, none⟩ = some (.int .i64 X.bound) := cell_at HQ2.out rfl
  have x3 : W0.cell? ⟨w.heap.size + 1, 3, none⟩ = some (.int .i64 X.of) := cell_at HQ2.out rfl
  have x5 : W0.cell? ⟨w.heap.size + 1, 5, none⟩ = some (.slice X.ia X.ilen X.icap) := cell_at HQ2.out rfl
  go_wp2
  go_ret
  exact ⟨rfl, HB.out⟩
set_option maxHeartbeats 1000000 in
theorem chk_form (ao : Option Addr) (len cap t : Nat) (T : VT) (X : TypeV) (hlen : len ≤ 1000000) (ht : t < len) (hl : T.len ≤ 2513169434843) (w : World) (HX : TypeAt w ao t X) (hk : T.kind = X.kind) (hf : formT T = false) :
    Calls Tryz.prog 25 #[.slice ao len cap, .int .i64 t, .agg #[.int .i64 T.kind, .int .u64 T.num, .string T.text, .slice T.ia T.len T.cap]] w fun e w' => e = .returned (.int .i64 1) ∧ Below w.heap.size w w' := by
  have hk' : (T.kind != X.kind) = false := by simpa using hk
  have hfm := form9_any T hl
  rw [hf] at hfm
  have HF := Lib.hid hfm
  clear hk hf hfm
  obtain ⟨b, off, rfl, c0, c1, c2, c3, c4, c5, wf, hi⟩ := HX
  have hbl : b < w.heap.size := World.block_lt_of_cell? w _ c0
  have hne : ¬ b = w.heap.size := by omega
  have HB := Lib.hid (((Below.refl w.heap.size w).alloc (Nat.le_refl _) (.cells #[.int .i64 T.kind, .int .u64 T.num, .string T.text, .slice T.ia T.len T.cap] 26)).alloc (by simp) (.cells #[.int .i64 X.kind, .string X.name, .int .i64 X.bound, .int .i64 X.of, .int .i64 X.tag, .slice X.ia X.ilen X.icap] 47))
  have HQ1 := Lib.hid (show ((w.alloc (.cells #[.int .i64 T.kind, .int .u64 T.num, .string T.text, .slice T.ia T.len T.cap] 26)).alloc (.cells #[.int .i64 X.kind, .string X.name, .int .i64 X.bound, .int .i64 X.of, .int .i64 X.tag, .slice X.ia X.ilen X.icap] 47)).heap[w.heap.size]? = some (.cells #[.int .i64 T.kind, .int .u64 T.num, .string T.text, .slice T.ia T.len T.cap] 26) from alloc_old (alloc_at w _))
  have HQ2 := Lib.hid (show ((w.alloc (.cells #[.int .i64 T.kind, .int .u64 T.num, .string T.text, .slice T.ia T.len T.cap] 26)).alloc (.cells #[.int .i64 X.kind, .string X.name, .int .i64 X.bound, .int .i64 X.of, .int .i64 X.tag, .slice X.ia X.ilen X.icap] 47)).heap[w.heap.size + 1]? = some (.cells #[.int .i64 X.kind, .string X.name, .int .i64 X.bound, .int .i64 X.of, .int .i64 X.tag, .slice X.ia X.ilen X.icap] 47) by have := alloc_at (w.alloc (.cells #[.int .i64 T.kind, .int .u64 T.num, .string T.text, .slice T.ia T.len T.cap] 26)) (.cells #[.int .i64 X.kind, .string X.name, .int .i64 X.bound, .int .i64 X.of, .int .i64 X.tag, .slice X.ia X.ilen X.icap] 47); simpa using this)
  clear hi
  go_enter Tryz.func25, Tryz.ntmps25
  go_upto_region 2 with (fail)
  clear c0 c1 c2 c3 c4 c5 hbl hne
  generalize (w.alloc (.cells #[.int .i64 T.kind, .int .u64 T.num, .string T.text, .slice T.ia T.len T.cap] 26)).alloc (.cells #[.int .i64 X.kind, .string X.name, .int .i64 X.bound, .int .i64 X.of, .int .i64 X.tag, .slice X.ia X.ilen X.icap] 47) = W0 at *
  have d0 : W0.cell? ⟨w.heap.size, 0, none⟩ = some (.int .i64 T.kind) := cell_at HQ1.out rfl
  have d1 : W0.cell? ⟨w.heap.size, 1, none⟩ = some (.int .u64 T.num) := cell_at HQ1.out rfl
  have d2 : W0.cell? ⟨w.heap.size, 2, none⟩ = some (.string T.text) := cell_at HQ1.out rfl
  have d3 : W0.cell? ⟨w.heap.size, 3, none⟩ = some (.slice T.ia T.len T.cap) := cell_at HQ1.out rfl
  have x0 : W0.cell? ⟨w.heap.size + 1, 0, none⟩ = some (.int .i64 X.kind) := cell_at HQ2.out rfl
  have x2 : W0.cell? ⟨w.heap.size + 1, 2, none⟩ = some (.int .i64 X.bound) := cell_at HQ2.out rfl
  have x3 : W0.cell? ⟨w.heap.size + 1, 3, none⟩ = some (.int .i64 X.of) := cell_at HQ2.out rfl
  have x5 : W0.cell? ⟨w.heap.size + 1, 5, none⟩ = some (.slice X.ia X.ilen X.icap) := cell_at HQ2.out rfl
  go_wp2_with (go_at_call 39; refine (HF.out _).mono ?_; rintro e w1 ⟨rfl, hb1⟩; have HB1 := Lib.hid (below_step8' HB.out hb1); have d0 := keep hb1 (by exact d0); have d1 := keep hb1 (by exact d1); have d2 := keep hb1 (by exact d2); have d3 := keep hb1 (by exact d3); have x0 := keep hb1 (by exact x0); have x2 := keep hb1 (by exact x2); have x3 := keep hb1 (by exact x3); have x5 := keep hb1 (by exact x5); clear hb1)
  go_ret
  exact ⟨rfl, HB1.out⟩
set_option maxHeartbeats 1000000 in
theorem chk_text (ao : Option Addr) (len cap t : Nat) (T : VT) (X : TypeV) (hlen : len ≤ 1000000) (ht : t < len) (hl : T.len ≤ 2513169434843) (w : World) (HX : TypeAt w ao t X) (hk : T.kind = X.kind) (hf : formT T = true) (hK : X.kind = 10) (x : Int)
    (hU : ∀ wx, Below w.heap.size w wx → Calls Tryz.prog 40 #[.string T.text, .int .i64 X.bound] wx fun e w' => e = .returned (.int .i64 x) ∧ Below wx.heap.size wx w') :
    Calls Tryz.prog 25 #[.slice ao len cap, .int .i64 t, .agg #[.int .i64 T.kind, .int .u64 T.num, .string T.text, .slice T.ia T.len T.cap]] w fun e w' => e = .returned (.int .i64 x) ∧ Below w.heap.size w w' := by
  have hk' : (T.kind != X.kind) = false := by simpa using hk
  have hfm := form9_any T hl
  rw [hf] at hfm
  have HF := Lib.hid hfm
  have k10 : (X.kind == 10) = true := by rw [hK]; rfl
  have HU := Lib.hid hU
  clear hk hf hfm hK hU
  obtain ⟨b, off, rfl, c0, c1, c2, c3, c4, c5, wf, hi⟩ := HX
  have hbl : b < w.heap.size := World.block_lt_of_cell? w _ c0
  have hne : ¬ b = w.heap.size := by omega
  have HB := Lib.hid (((Below.refl w.heap.size w).alloc (Nat.le_refl _) (.cells #[.int .i64 T.kind, .int .u64 T.num, .string T.text, .slice T.ia T.len T.cap] 26)).alloc (by simp) (.cells #[.int .i64 X.kind, .string X.name, .int .i64 X.bound, .int .i64 X.of, .int .i64 X.tag, .slice X.ia X.ilen X.icap] 47))
  have HQ1 := Lib.hid (show ((w.alloc (.cells #[.int .i64 T.kind, .int .u64 T.num, .string T.text, .slice T.ia T.len T.cap] 26)).alloc (.cells #[.int .i64 X.kind, .string X.name, .int .i64 X.bound, .int .i64 X.of, .int .i64 X.tag, .slice X.ia X.ilen X.icap] 47)).heap[w.heap.size]? = some (.cells #[.int .i64 T.kind, .int .u64 T.num, .string T.text, .slice T.ia T.len T.cap] 26) from alloc_old (alloc_at w _))
  have HQ2 := Lib.hid (show ((w.alloc (.cells #[.int .i64 T.kind, .int .u64 T.num, .string T.text, .slice T.ia T.len T.cap] 26)).alloc (.cells #[.int .i64 X.kind, .string X.name, .int .i64 X.bound, .int .i64 X.of, .int .i64 X.tag, .slice X.ia X.ilen X.icap] 47)).heap[w.heap.size + 1]? = some (.cells #[.int .i64 X.kind, .string X.name, .int .i64 X.bound, .int .i64 X.of, .int .i64 X.tag, .slice X.ia X.ilen X.icap] 47) by have := alloc_at (w.alloc (.cells #[.int .i64 T.kind, .int .u64 T.num, .string T.text, .slice T.ia T.len T.cap] 26)) (.cells #[.int .i64 X.kind, .string X.name, .int .i64 X.bound, .int .i64 X.of, .int .i64 X.tag, .slice X.ia X.ilen X.icap] 47); simpa using this)
  clear hi
  go_enter Tryz.func25, Tryz.ntmps25
  go_upto_region 2 with (fail)
  clear c0 c1 c2 c3 c4 c5 hbl hne
  generalize (w.alloc (.cells #[.int .i64 T.kind, .int .u64 T.num, .string T.text, .slice T.ia T.len T.cap] 26)).alloc (.cells #[.int .i64 X.kind, .string X.name, .int .i64 X.bound, .int .i64 X.of, .int .i64 X.tag, .slice X.ia X.ilen X.icap] 47) = W0 at *
  have d0 : W0.cell? ⟨w.heap.size, 0, none⟩ = some (.int .i64 T.kind) := cell_at HQ1.out rfl
  have d1 : W0.cell? ⟨w.heap.size, 1, none⟩ = some (.int .u64 T.num) := cell_at HQ1.out rfl
  have d2 : W0.cell? ⟨w.heap.size, 2, none⟩ = some (.string T.text) := cell_at HQ1.out rfl
  have d3 : W0.cell? ⟨w.heap.size, 3, none⟩ = some (.slice T.ia T.len T.cap) := cell_at HQ1.out rfl
  have x0 : W0.cell? ⟨w.heap.size + 1, 0, none⟩ = some (.int .i64 X.kind) := cell_at HQ2.out rfl
  have x2 : W0.cell? ⟨w.heap.size + 1, 2, none⟩ = some (.int .i64 X.bound) := cell_at HQ2.out rfl
  have x3 : W0.cell? ⟨w.heap.size + 1, 3, none⟩ = some (.int .i64 X.of) := cell_at HQ2.out rfl
  have x5 : W0.cell? ⟨w.heap.size + 1, 5, none⟩ = some (.slice X.ia X.ilen X.icap) := cell_at HQ2.out rfl
  go_wp2_with (first
    | (go_at_call 39; refine (HF.out _).mono ?_; rintro e w1 ⟨rfl, hb1⟩; have HB1 := Lib.hid (below_step8' HB.out hb1); have d0 := keep hb1 (by exact d0); have d1 := keep hb1 (by exact d1); have d2 := keep hb1 (by exact d2); have d3 := keep hb1 (by exact d3); have x0 := keep hb1 (by exact x0); have x2 := keep hb1 (by exact x2); have x3 := keep hb1 (by exact x3); have x5 := keep hb1 (by exact x5); clear hb1)
    | (go_at_call 40; refine (HU.out _ HB1.out).mono ?_; rintro e w2 ⟨rfl, hb2⟩; have HB2 := Lib.hid (below_step8' HB1.out hb2); clear hb2))
  go_ret
  exact ⟨rfl, HB2.out⟩
set_option maxHeartbeats 1000000 in
theorem chk_union (ao : Option Addr) (len cap t : Nat) (T : VT) (X : TypeV) (hlen : len ≤ 1000000) (ht : t < len) (hl : T.len ≤ 2513169434843) (w : World) (HX : TypeAt w ao t X) (hk : T.kind = X.kind) (hf : formT T = true) (hK : X.kind = 14) (x : Int)
    (hU : ∀ wx, Below w.heap.size w wx → Calls Tryz.prog 45 #[.slice ao len cap, .int .i64 t, .agg #[.int .i64 T.kind, .int .u64 T.num, .string T.text, .slice T.ia T.len T.cap]] wx fun e w' => e = .returned (.int .i64 x) ∧ Below wx.heap.size wx w') :
    Calls Tryz.prog 25 #[.slice ao len cap, .int .i64 t, .agg #[.int .i64 T.kind, .int .u64 T.num, .string T.text, .slice T.ia T.len T.cap]] w fun e w' => e = .returned (.int .i64 x) ∧ Below w.heap.size w w' := by
  have hk' : (T.kind != X.kind) = false := by simpa using hk
  have hfm := form9_any T hl
  rw [hf] at hfm
  have HF := Lib.hid hfm
  have k10 : (X.kind == 10) = false := by rw [hK]; rfl
  have k11 : (X.kind == 11) = false := by rw [hK]; rfl
  have k12 : (X.kind == 12) = false := by rw [hK]; rfl
  have k13 : (X.kind == 13) = false := by rw [hK]; rfl
  have k14 : (X.kind == 14) = true := by rw [hK]; rfl
  have HU := Lib.hid hU
  clear hk hf hfm hK hU
  obtain ⟨b, off, rfl, c0, c1, c2, c3, c4, c5, wf, hi⟩ := HX
  have hbl : b < w.heap.size := World.block_lt_of_cell? w _ c0
  have hne : ¬ b = w.heap.size := by omega
  have HB := Lib.hid (((Below.refl w.heap.size w).alloc (Nat.le_refl _) (.cells #[.int .i64 T.kind, .int .u64 T.num, .string T.text, .slice T.ia T.len T.cap] 26)).alloc (by simp) (.cells #[.int .i64 X.kind, .string X.name, .int .i64 X.bound, .int .i64 X.of, .int .i64 X.tag, .slice X.ia X.ilen X.icap] 47))
  have HQ1 := Lib.hid (show ((w.alloc (.cells #[.int .i64 T.kind, .int .u64 T.num, .string T.text, .slice T.ia T.len T.cap] 26)).alloc (.cells #[.int .i64 X.kind, .string X.name, .int .i64 X.bound, .int .i64 X.of, .int .i64 X.tag, .slice X.ia X.ilen X.icap] 47)).heap[w.heap.size]? = some (.cells #[.int .i64 T.kind, .int .u64 T.num, .string T.text, .slice T.ia T.len T.cap] 26) from alloc_old (alloc_at w _))
  have HQ2 := Lib.hid (show ((w.alloc (.cells #[.int .i64 T.kind, .int .u64 T.num, .string T.text, .slice T.ia T.len T.cap] 26)).alloc (.cells #[.int .i64 X.kind, .string X.name, .int .i64 X.bound, .int .i64 X.of, .int .i64 X.tag, .slice X.ia X.ilen X.icap] 47)).heap[w.heap.size + 1]? = some (.cells #[.int .i64 X.kind, .string X.name, .int .i64 X.bound, .int .i64 X.of, .int .i64 X.tag, .slice X.ia X.ilen X.icap] 47) by have := alloc_at (w.alloc (.cells #[.int .i64 T.kind, .int .u64 T.num, .string T.text, .slice T.ia T.len T.cap] 26)) (.cells #[.int .i64 X.kind, .string X.name, .int .i64 X.bound, .int .i64 X.of, .int .i64 X.tag, .slice X.ia X.ilen X.icap] 47); simpa using this)
  clear hi
  go_enter Tryz.func25, Tryz.ntmps25
  go_upto_region 2 with (fail)
  clear c0 c1 c2 c3 c4 c5 hbl hne
  generalize (w.alloc (.cells #[.int .i64 T.kind, .int .u64 T.num, .string T.text, .slice T.ia T.len T.cap] 26)).alloc (.cells #[.int .i64 X.kind, .string X.name, .int .i64 X.bound, .int .i64 X.of, .int .i64 X.tag, .slice X.ia X.ilen X.icap] 47) = W0 at *
  have d0 : W0.cell? ⟨w.heap.size, 0, none⟩ = some (.int .i64 T.kind) := cell_at HQ1.out rfl
  have d1 : W0.cell? ⟨w.heap.size, 1, none⟩ = some (.int .u64 T.num) := cell_at HQ1.out rfl
  have d2 : W0.cell? ⟨w.heap.size, 2, none⟩ = some (.string T.text) := cell_at HQ1.out rfl
  have d3 : W0.cell? ⟨w.heap.size, 3, none⟩ = some (.slice T.ia T.len T.cap) := cell_at HQ1.out rfl
  have x0 : W0.cell? ⟨w.heap.size + 1, 0, none⟩ = some (.int .i64 X.kind) := cell_at HQ2.out rfl
  have x2 : W0.cell? ⟨w.heap.size + 1, 2, none⟩ = some (.int .i64 X.bound) := cell_at HQ2.out rfl
  have x3 : W0.cell? ⟨w.heap.size + 1, 3, none⟩ = some (.int .i64 X.of) := cell_at HQ2.out rfl
  have x5 : W0.cell? ⟨w.heap.size + 1, 5, none⟩ = some (.slice X.ia X.ilen X.icap) := cell_at HQ2.out rfl
  go_wp2_with (first
    | (go_at_call 39; refine (HF.out _).mono ?_; rintro e w1 ⟨rfl, hb1⟩; have HB1 := Lib.hid (below_step8' HB.out hb1); have d0 := keep hb1 (by exact d0); have d1 := keep hb1 (by exact d1); have d2 := keep hb1 (by exact d2); have d3 := keep hb1 (by exact d3); have x0 := keep hb1 (by exact x0); have x2 := keep hb1 (by exact x2); have x3 := keep hb1 (by exact x3); have x5 := keep hb1 (by exact x5); clear hb1)
    | (go_at_call 45; refine (HU.out _ HB1.out).mono ?_; rintro e w2 ⟨rfl, hb2⟩; have HB2 := Lib.hid (below_step8' HB1.out hb2); clear hb2))
  go_ret
  exact ⟨rfl, HB2.out⟩
set_option maxHeartbeats 1000000 in
theorem chk_num (ao : Option Addr) (len cap t : Nat) (T : VT) (X : TypeV) (hlen : len ≤ 1000000) (ht : t < len) (hl : T.len ≤ 2513169434843) (w : World) (HX : TypeAt w ao t X) (hk : T.kind = X.kind) (hf : formT T = true) (hK : X.kind < 10) (x : Int)
    (hU : ∀ wx, Below w.heap.size w wx → Calls Tryz.prog 46 #[.slice ao len cap, .int .i64 t, .int .u64 T.num] wx fun e w' => e = .returned (.int .i64 x) ∧ Below wx.heap.size wx w') :
    Calls Tryz.prog 25 #[.slice ao len cap, .int .i64 t, .agg #[.int .i64 T.kind, .int .u64 T.num, .string T.text, .slice T.ia T.len T.cap]] w fun e w' => e = .returned (.int .i64 x) ∧ Below w.heap.size w w' := by
  have hk' : (T.kind != X.kind) = false := by simpa using hk
  have hfm := form9_any T hl
  rw [hf] at hfm
  have HF := Lib.hid hfm
  have k10 : (X.kind == 10) = false := by simp; omega
  have k11 : (X.kind == 11) = false := by simp; omega
  have k12 : (X.kind == 12) = false := by simp; omega
  have k13 : (X.kind == 13) = false := by simp; omega
  have k14 : (X.kind == 14) = false := by simp; omega
  have HU := Lib.hid hU
  clear hk hf hfm hK hU
  obtain ⟨b, off, rfl, c0, c1, c2, c3, c4, c5, wf, hi⟩ := HX
  have hbl : b < w.heap.size := World.block_lt_of_cell? w _ c0
  have hne : ¬ b = w.heap.size := by omega
  have HB := Lib.hid (((Below.refl w.heap.size w).alloc (Nat.le_refl _) (.cells #[.int .i64 T.kind, .int .u64 T.num, .string T.text, .slice T.ia T.len T.cap] 26)).alloc (by simp) (.cells #[.int .i64 X.kind, .string X.name, .int .i64 X.bound, .int .i64 X.of, .int .i64 X.tag, .slice X.ia X.ilen X.icap] 47))
  have HQ1 := Lib.hid (show ((w.alloc (.cells #[.int .i64 T.kind, .int .u64 T.num, .string T.text, .slice T.ia T.len T.cap] 26)).alloc (.cells #[.int .i64 X.kind, .string X.name, .int .i64 X.bound, .int .i64 X.of, .int .i64 X.tag, .slice X.ia X.ilen X.icap] 47)).heap[w.heap.size]? = some (.cells #[.int .i64 T.kind, .int .u64 T.num, .string T.text, .slice T.ia T.len T.cap] 26) from alloc_old (alloc_at w _))
  have HQ2 := Lib.hid (show ((w.alloc (.cells #[.int .i64 T.kind, .int .u64 T.num, .string T.text, .slice T.ia T.len T.cap] 26)).alloc (.cells #[.int .i64 X.kind, .string X.name, .int .i64 X.bound, .int .i64 X.of, .int .i64 X.tag, .slice X.ia X.ilen X.icap] 47)).heap[w.heap.size + 1]? = some (.cells #[.int .i64 X.kind, .string X.name, .int .i64 X.bound, .int .i64 X.of, .int .i64 X.tag, .slice X.ia X.ilen X.icap] 47) by have := alloc_at (w.alloc (.cells #[.int .i64 T.kind, .int .u64 T.num, .string T.text, .slice T.ia T.len T.cap] 26)) (.cells #[.int .i64 X.kind, .string X.name, .int .i64 X.bound, .int .i64 X.of, .int .i64 X.tag, .slice X.ia X.ilen X.icap] 47); simpa using this)
  clear hi
  go_enter Tryz.func25, Tryz.ntmps25
  go_upto_region 2 with (fail)
  clear c0 c1 c2 c3 c4 c5 hbl hne
  generalize (w.alloc (.cells #[.int .i64 T.kind, .int .u64 T.num, .string T.text, .slice T.ia T.len T.cap] 26)).alloc (.cells #[.int .i64 X.kind, .string X.name, .int .i64 X.bound, .int .i64 X.of, .int .i64 X.tag, .slice X.ia X.ilen X.icap] 47) = W0 at *
  have d0 : W0.cell? ⟨w.heap.size, 0, none⟩ = some (.int .i64 T.kind) := cell_at HQ1.out rfl
  have d1 : W0.cell? ⟨w.heap.size, 1, none⟩ = some (.int .u64 T.num) := cell_at HQ1.out rfl
  have d2 : W0.cell? ⟨w.heap.size, 2, none⟩ = some (.string T.text) := cell_at HQ1.out rfl
  have d3 : W0.cell? ⟨w.heap.size, 3, none⟩ = some (.slice T.ia T.len T.cap) := cell_at HQ1.out rfl
  have x0 : W0.cell? ⟨w.heap.size + 1, 0, none⟩ = some (.int .i64 X.kind) := cell_at HQ2.out rfl
  have x2 : W0.cell? ⟨w.heap.size + 1, 2, none⟩ = some (.int .i64 X.bound) := cell_at HQ2.out rfl
  have x3 : W0.cell? ⟨w.heap.size + 1, 3, none⟩ = some (.int .i64 X.of) := cell_at HQ2.out rfl
  have x5 : W0.cell? ⟨w.heap.size + 1, 5, none⟩ = some (.slice X.ia X.ilen X.icap) := cell_at HQ2.out rfl
  go_wp2_with (first
    | (go_at_call 39; refine (HF.out _).mono ?_; rintro e w1 ⟨rfl, hb1⟩; have HB1 := Lib.hid (below_step8' HB.out hb1); have d0 := keep hb1 (by exact d0); have d1 := keep hb1 (by exact d1); have d2 := keep hb1 (by exact d2); have d3 := keep hb1 (by exact d3); have x0 := keep hb1 (by exact x0); have x2 := keep hb1 (by exact x2); have x3 := keep hb1 (by exact x3); have x5 := keep hb1 (by exact x5); clear hb1)
    | (go_at_call 46; refine (HU.out _ HB1.out).mono ?_; rintro e w2 ⟨rfl, hb2⟩; have HB2 := Lib.hid (below_step8' HB1.out hb2); clear hb2))
  go_ret
  exact ⟨rfl, HB2.out⟩
set_option maxHeartbeats 1000000 in
theorem chk_seq (ao : Option Addr) (len cap t : Nat) (T : VT) (X : TypeV) (hlen : len ≤ 1000000) (ht : t < len) (hl : T.len ≤ 2513169434843) (w : World) (HX : TypeAt w ao t X) (hk : T.kind = X.kind) (hf : formT T = true) (hK : X.kind = 11) (hxl : X.ilen ≤ 3518437208780) (x : Int)
    (hU : ∀ g1 g2 wx, Below w.heap.size w wx → wx.cell? ⟨g1, 0, none⟩ = some (.slice ao len cap) → wx.cell? ⟨g2, 0, none⟩ = some (.int .i64 X.of) → Calls Tryz.prog 41 #[.int .i64 X.bound, .slice T.ia T.len T.cap, .func (.func 69) #[] #[.pointer (some ⟨g1, 0, none⟩), .pointer (some ⟨g2, 0, none⟩)]] wx fun e w' => e = .returned (.int .i64 x) ∧ Below wx.heap.size wx w') :
    Calls Tryz.prog 25 #[.slice ao len cap, .int .i64 t, .agg #[.int .i64 T.kind, .int .u64 T.num, .string T.text, .slice T.ia T.len T.cap]] w fun e w' => e = .returned (.int .i64 x) ∧ Below w.heap.size w w' := by
  have hk' : (T.kind != X.kind) = false := by simpa using hk
  have hfm := form9_any T hl
  rw [hf] at hfm
  have HF := Lib.hid hfm
  have k10 : (X.kind == 10) = false := by rw [hK]; rfl
  have k11 : (X.kind == 11) = true := by rw [hK]; rfl
  have HU := Lib.hid hU
  have HM := Lib.hid (elem9_any ao len cap X.of)
  clear hk hf hfm hK hU
  obtain ⟨b, off, rfl, c0, c1, c2, c3, c4, c5, wf, hi⟩ := HX
  have hbl : b < w.heap.size := World.block_lt_of_cell? w _ c0
  have hne : ¬ b = w.heap.size := by omega
  have HB := Lib.hid (((Below.refl w.heap.size w).alloc (Nat.le_refl _) (.cells #[.int .i64 T.kind, .int .u64 T.num, .string T.text, .slice T.ia T.len T.cap] 26)).alloc (by simp) (.cells #[.int .i64 X.kind, .string X.name, .int .i64 X.bound, .int .i64 X.of, .int .i64 X.tag, .slice X.ia X.ilen X.icap] 47))
  have HQ1 := Lib.hid (show ((w.alloc (.cells #[.int .i64 T.kind, .int .u64 T.num, .string T.text, .slice T.ia T.len T.cap] 26)).alloc (.cells #[.int .i64 X.kind, .string X.name, .int .i64 X.bound, .int .i64 X.of, .int .i64 X.tag, .slice X.ia X.ilen X.icap] 47)).heap[w.heap.size]? = some (.cells #[.int .i64 T.kind, .int .u64 T.num, .string T.text, .slice T.ia T.len T.cap] 26) from alloc_old (alloc_at w _))
  have HQ2 := Lib.hid (show ((w.alloc (.cells #[.int .i64 T.kind, .int .u64 T.num, .string T.text, .slice T.ia T.len T.cap] 26)).alloc (.cells #[.int .i64 X.kind, .string X.name, .int .i64 X.bound, .int .i64 X.of, .int .i64 X.tag, .slice X.ia X.ilen X.icap] 47)).heap[w.heap.size + 1]? = some (.cells #[.int .i64 X.kind, .string X.name, .int .i64 X.bound, .int .i64 X.of, .int .i64 X.tag, .slice X.ia X.ilen X.icap] 47) by have := alloc_at (w.alloc (.cells #[.int .i64 T.kind, .int .u64 T.num, .string T.text, .slice T.ia T.len T.cap] 26)) (.cells #[.int .i64 X.kind, .string X.name, .int .i64 X.bound, .int .i64 X.of, .int .i64 X.tag, .slice X.ia X.ilen X.icap] 47); simpa using this)
  clear hi
  go_enter Tryz.func25, Tryz.ntmps25
  go_upto_region 2 with (fail)
  clear c0 c1 c2 c3 c4 c5 hbl hne
  generalize (w.alloc (.cells #[.int .i64 T.kind, .int .u64 T.num, .string T.text, .slice T.ia T.len T.cap] 26)).alloc (.cells #[.int .i64 X.kind, .string X.name, .int .i64 X.bound, .int .i64 X.of, .int .i64 X.tag, .slice X.ia X.ilen X.icap] 47) = W0 at *
  have d0 : W0.cell? ⟨w.heap.size, 0, none⟩ = some (.int .i64 T.kind) := cell_at HQ1.out rfl
  have d1 : W0.cell? ⟨w.heap.size, 1, none⟩ = some (.int .u64 T.num) := cell_at HQ1.out rfl
  have d2 : W0.cell? ⟨w.heap.size, 2, none⟩ = some (.string T.text) := cell_at HQ1.out rfl
  have d3 : W0.cell? ⟨w.heap.size, 3, none⟩ = some (.slice T.ia T.len T.cap) := cell_at HQ1.out rfl
  have x0 : W0.cell? ⟨w.heap.size + 1, 0, none⟩ = some (.int .i64 X.kind) := cell_at HQ2.out rfl
  have x2 : W0.cell? ⟨w.heap.size + 1, 2, none⟩ = some (.int .i64 X.bound) := cell_at HQ2.out rfl
  have x3 : W0.cell? ⟨w.heap.size + 1, 3, none⟩ = some (.int .i64 X.of) := cell_at HQ2.out rfl
  have x5 : W0.cell? ⟨w.heap.size + 1, 5, none⟩ = some (.slice X.ia X.ilen X.icap) := cell_at HQ2.out rfl
  go_upto_region 10 with (go_at_call 39; refine (HF.out _).mono ?_; rintro e w1 ⟨rfl, hb1⟩; have HB1 := Lib.hid (below_step8' HB.out hb1); have d0 := keep hb1 (by exact d0); have d1 := keep hb1 (by exact d1); have d2 := keep hb1 (by exact d2); have d3 := keep hb1 (by exact d3); have x0 := keep hb1 (by exact x0); have x2 := keep hb1 (by exact x2); have x3 := keep hb1 (by exact x3); have x5 := keep hb1 (by exact x5); clear hb1)
  go_wp2_with fail
  go_region_held3 (fun w' => w'.cell? ⟨w.heap.size + 1, 2, none⟩ = some (.int .i64 X.bound) ∧ w'.cell? ⟨w.heap.size, 3, none⟩ = some (.slice T.ia T.len T.cap) ∧ w'.cell? ⟨w.heap.size + 1, 3, none⟩ = some (.int .i64 X.of))
    (first | exact ⟨x2, d3, x3⟩ | fail)
    (first
      | (go_at_call 42; refine (HM.out _).mono ?_; rintro e w3 ⟨g1, g2, rfl, q1, q2, hb3⟩; have HB3 := Lib.hid (below_step8' (by first | exact HB1.out | exact HB1.out.drew) hb3); have x2 := keep hb3 (by exact x2); have d3 := keep hb3 (by exact d3); have x3 := keep hb3 (by exact x3))
      | (go_at_call 41; refine (HU.out _ _ _ (by first | exact HB3.out | exact HB3.out.drew) (by first | exact q1 | (rw [World.cell?_drew]; exact q1)) (by first | exact q2 | (rw [World.cell?_drew]; exact q2))).mono ?_; rintro e w4 ⟨rfl, hb4⟩; have HB4 := Lib.hid (below_step8' (by first | exact HB3.out | exact HB3.out.drew) hb4); have x2 := keep hb4 (by exact x2); have d3 := keep hb4 (by exact d3); have x3 := keep hb4 (by exact x3)))
  go_wp2
  go_ret
  exact ⟨rfl, HB4.out⟩
set_option maxHeartbeats 1000000 in
theorem chk_array (ao : Option Addr) (len cap t : Nat) (T : VT) (X : TypeV) (hlen : len ≤ 1000000) (ht : t < len) (hl : T.len ≤ 2513169434843) (w : World) (HX : TypeAt w ao t X) (hk : T.kind = X.kind) (hf : formT T = true) (hK : X.kind = 12) (hxl : X.ilen ≤ 3518437208780) (x : Int)
    (hU : ∀ g1 g2 wx, Below w.heap.size w wx → wx.cell? ⟨g1, 0, none⟩ = some (.slice ao len cap) → wx.cell? ⟨g2, 0, none⟩ = some (.int .i64 X.of) → Calls Tryz.prog 43 #[.int .i64 X.bound, .slice T.ia T.len T.cap, .func (.func 69) #[] #[.pointer (some ⟨g1, 0, none⟩), .pointer (some ⟨g2, 0, none⟩)]] wx fun e w' => e = .returned (.int .i64 x) ∧ Below wx.heap.size wx w') :
    Calls Tryz.prog 25 #[.slice ao len cap, .int .i64 t, .agg #[.int .i64 T.kind, .int .u64 T.num, .string T.text, .slice T.ia T.len T.cap]] w fun e w' => e = .returned (.int .i64 x) ∧ Below w.heap.size w w' := by
  have hk' : (T.kind != X.kind) = false := by simpa using hk
  have hfm := form9_any T hl
  rw [hf] at hfm
  have HF := Lib.hid hfm
  have k10 : (X.kind == 10) = false := by rw [hK]; rfl
  have k11 : (X.kind == 11) = false := by rw [hK]; rfl
  have k12 : (X.kind == 12) = true := by rw [hK]; rfl
  have HU := Lib.hid hU
  have HM := Lib.hid (elem9_any ao len cap X.of)
  clear hk hf hfm hK hU
  obtain ⟨b, off, rfl, c0, c1, c2, c3, c4, c5, wf, hi⟩ := HX
  have hbl : b < w.heap.size := World.block_lt_of_cell? w _ c0
  have hne : ¬ b = w.heap.size := by omega
  have HB := Lib.hid (((Below.refl w.heap.size w).alloc (Nat.le_refl _) (.cells #[.int .i64 T.kind, .int .u64 T.num, .string T.text, .slice T.ia T.len T.cap] 26)).alloc (by simp) (.cells #[.int .i64 X.kind, .string X.name, .int .i64 X.bound, .int .i64 X.of, .int .i64 X.tag, .slice X.ia X.ilen X.icap] 47))
  have HQ1 := Lib.hid (show ((w.alloc (.cells #[.int .i64 T.kind, .int .u64 T.num, .string T.text, .slice T.ia T.len T.cap] 26)).alloc (.cells #[.int .i64 X.kind, .string X.name, .int .i64 X.bound, .int .i64 X.of, .int .i64 X.tag, .slice X.ia X.ilen X.icap] 47)).heap[w.heap.size]? = some (.cells #[.int .i64 T.kind, .int .u64 T.num, .string T.text, .slice T.ia T.len T.cap] 26) from alloc_old (alloc_at w _))
  have HQ2 := Lib.hid (show ((w.alloc (.cells #[.int .i64 T.kind, .int .u64 T.num, .string T.text, .slice T.ia T.len T.cap] 26)).alloc (.cells #[.int .i64 X.kind, .string X.name, .int .i64 X.bound, .int .i64 X.of, .int .i64 X.tag, .slice X.ia X.ilen X.icap] 47)).heap[w.heap.size + 1]? = some (.cells #[.int .i64 X.kind, .string X.name, .int .i64 X.bound, .int .i64 X.of, .int .i64 X.tag, .slice X.ia X.ilen X.icap] 47) by have := alloc_at (w.alloc (.cells #[.int .i64 T.kind, .int .u64 T.num, .string T.text, .slice T.ia T.len T.cap] 26)) (.cells #[.int .i64 X.kind, .string X.name, .int .i64 X.bound, .int .i64 X.of, .int .i64 X.tag, .slice X.ia X.ilen X.icap] 47); simpa using this)
  clear hi
  go_enter Tryz.func25, Tryz.ntmps25
  go_upto_region 2 with (fail)
  clear c0 c1 c2 c3 c4 c5 hbl hne
  generalize (w.alloc (.cells #[.int .i64 T.kind, .int .u64 T.num, .string T.text, .slice T.ia T.len T.cap] 26)).alloc (.cells #[.int .i64 X.kind, .string X.name, .int .i64 X.bound, .int .i64 X.of, .int .i64 X.tag, .slice X.ia X.ilen X.icap] 47) = W0 at *
  have d0 : W0.cell? ⟨w.heap.size, 0, none⟩ = some (.int .i64 T.kind) := cell_at HQ1.out rfl
  have d1 : W0.cell? ⟨w.heap.size, 1, none⟩ = some (.int .u64 T.num) := cell_at HQ1.out rfl
  have d2 : W0.cell? ⟨w.heap.size, 2, none⟩ = some (.string T.text) := cell_at HQ1.out rfl
  have d3 : W0.cell? ⟨w.heap.size, 3, none⟩ = some (.slice T.ia T.len T.cap) := cell_at HQ1.out rfl
  have x0 : W0.cell? ⟨w.heap.size + 1, 0, none⟩ = some (.int .i64 X.kind) := cell_at HQ2.out rfl
  have x2 : W0.cell? ⟨w.heap.size + 1, 2, none⟩ = some (.int .i64 X.bound) := cell_at HQ2.out rfl
  have x3 : W0.cell? ⟨w.heap.size + 1, 3, none⟩ = some (.int .i64 X.of) := cell_at HQ2.out rfl
  have x5 : W0.cell? ⟨w.heap.size + 1, 5, none⟩ = some (.slice X.ia X.ilen X.icap) := cell_at HQ2.out rfl
  go_upto_region 12 with (go_at_call 39; refine (HF.out _).mono ?_; rintro e w1 ⟨rfl, hb1⟩; have HB1 := Lib.hid (below_step8' HB.out hb1); have d0 := keep hb1 (by exact d0); have d1 := keep hb1 (by exact d1); have d2 := keep hb1 (by exact d2); have d3 := keep hb1 (by exact d3); have x0 := keep hb1 (by exact x0); have x2 := keep hb1 (by exact x2); have x3 := keep hb1 (by exact x3); have x5 := keep hb1 (by exact x5); clear hb1)
  go_wp2_with fail
  go_region_held3 (fun w' => w'.cell? ⟨w.heap.size + 1, 2, none⟩ = some (.int .i64 X.bound) ∧ w'.cell? ⟨w.heap.size, 3, none⟩ = some (.slice T.ia T.len T.cap) ∧ w'.cell? ⟨w.heap.size + 1, 3, none⟩ = some (.int .i64 X.of))
    (first | exact ⟨x2, d3, x3⟩ | fail)
    (first
      | (go_at_call 42; refine (HM.out _).mono ?_; rintro e w3 ⟨g1, g2, rfl, q1, q2, hb3⟩; have HB3 := Lib.hid (below_step8' (by first | exact HB1.out | exact HB1.out.drew) hb3); have x2 := keep hb3 (by exact x2); have d3 := keep hb3 (by exact d3); have x3 := keep hb3 (by exact x3))
      | (go_at_call 43; refine (HU.out _ _ _ (by first | exact HB3.out | exact HB3.out.drew) (by first | exact q1 | (rw [World.cell?_drew]; exact q1)) (by first | exact q2 | (rw [World.cell?_drew]; exact q2))).mono ?_; rintro e w4 ⟨rfl, hb4⟩; have HB4 := Lib.hid (below_step8' (by first | exact HB3.out | exact HB3.out.drew) hb4); have x2 := keep hb4 (by exact x2); have d3 := keep hb4 (by exact d3); have x3 := keep hb4 (by exact x3)))
  go_wp2
  go_ret
  exact ⟨rfl, HB4.out⟩
set_option maxHeartbeats 1000000 in
theorem chk_struct (ao : Option Addr) (len cap t : Nat) (T : VT) (X : TypeV) (hlen : len ≤ 1000000) (ht : t < len) (hl : T.len ≤ 2513169434843) (w : World) (HX : TypeAt w ao t X) (hk : T.kind = X.kind) (hf : formT T = true) (hK : X.kind = 13) (hxl : X.ilen ≤ 3518437208780) (x : Int)
    (hU : ∀ g1 g2 wx, Below w.heap.size w wx → wx.cell? ⟨g1, 0, none⟩ = some (.slice ao len cap) → wx.cell? ⟨g2, 0, none⟩ = some (.slice X.ia X.ilen X.icap) → Calls Tryz.prog 43 #[.int .i64 X.ilen, .slice T.ia T.len T.cap, .func (.func 70) #[] #[.pointer (some ⟨g1, 0, none⟩), .pointer (some ⟨g2, 0, none⟩)]] wx fun e w' => e = .returned (.int .i64 x) ∧ Below wx.heap.size wx w') :
    Calls Tryz.prog 25 #[.slice ao len cap, .int .i64 t, .agg #[.int .i64 T.kind, .int .u64 T.num, .string T.text, .slice T.ia T.len T.cap]] w fun e w' => e = .returned (.int .i64 x) ∧ Below w.heap.size w w' := by
  have hk' : (T.kind != X.kind) = false := by simpa using hk
  have hfm := form9_any T hl
  rw [hf] at hfm
  have HF := Lib.hid hfm
  have k10 : (X.kind == 10) = false := by rw [hK]; rfl
  have k11 : (X.kind == 11) = false := by rw [hK]; rfl
  have k12 : (X.kind == 12) = false := by rw [hK]; rfl
  have k13 : (X.kind == 13) = true := by rw [hK]; rfl
  have HU := Lib.hid hU
  have HM := Lib.hid (memb9_any ao len cap X.ia X.ilen X.icap)
  clear hk hf hfm hK hU
  obtain ⟨b, off, rfl, c0, c1, c2, c3, c4, c5, wf, hi⟩ := HX
  have hbl : b < w.heap.size := World.block_lt_of_cell? w _ c0
  have hne : ¬ b = w.heap.size := by omega
  have HB := Lib.hid (((Below.refl w.heap.size w).alloc (Nat.le_refl _) (.cells #[.int .i64 T.kind, .int .u64 T.num, .string T.text, .slice T.ia T.len T.cap] 26)).alloc (by simp) (.cells #[.int .i64 X.kind, .string X.name, .int .i64 X.bound, .int .i64 X.of, .int .i64 X.tag, .slice X.ia X.ilen X.icap] 47))
  have HQ1 := Lib.hid (show ((w.alloc (.cells #[.int .i64 T.kind, .int .u64 T.num, .string T.text, .slice T.ia T.len T.cap] 26)).alloc (.cells #[.int .i64 X.kind, .string X.name, .int .i64 X.bound, .int .i64 X.of, .int .i64 X.tag, .slice X.ia X.ilen X.icap] 47)).heap[w.heap.size]? = some (.cells #[.int .i64 T.kind, .int .u64 T.num, .string T.text, .slice T.ia T.len T.cap] 26) from alloc_old (alloc_at w _))
  have HQ2 := Lib.hid (show ((w.alloc (.cells #[.int .i64 T.kind, .int .u64 T.num, .string T.text, .slice T.ia T.len T.cap] 26)).alloc (.cells #[.int .i64 X.kind, .string X.name, .int .i64 X.bound, .int .i64 X.of, .int .i64 X.tag, .slice X.ia X.ilen X.icap] 47)).heap[w.heap.size + 1]? = some (.cells #[.int .i64 X.kind, .string X.name, .int .i64 X.bound, .int .i64 X.of, .int .i64 X.tag, .slice X.ia X.ilen X.icap] 47) by have := alloc_at (w.alloc (.cells #[.int .i64 T.kind, .int .u64 T.num, .string T.text, .slice T.ia T.len T.cap] 26)) (.cells #[.int .i64 X.kind, .string X.name, .int .i64 X.bound, .int .i64 X.of, .int .i64 X.tag, .slice X.ia X.ilen X.icap] 47); simpa using this)
  clear hi
  go_enter Tryz.func25, Tryz.ntmps25
  go_upto_region 2 with (fail)
  clear c0 c1 c2 c3 c4 c5 hbl hne
  generalize (w.alloc (.cells #[.int .i64 T.kind, .int .u64 T.num, .string T.text, .slice T.ia T.len T.cap] 26)).alloc (.cells #[.int .i64 X.kind, .string X.name, .int .i64 X.bound, .int .i64 X.of, .int .i64 X.tag, .slice X.ia X.ilen X.icap] 47) = W0 at *
  have d0 : W0.cell? ⟨w.heap.size, 0, none⟩ = some (.int .i64 T.kind) := cell_at HQ1.out rfl
  have d1 : W0.cell? ⟨w.heap.size, 1, none⟩ = some (.int .u64 T.num) := cell_at HQ1.out rfl
  have d2 : W0.cell? ⟨w.heap.size, 2, none⟩ = some (.string T.text) := cell_at HQ1.out rfl
  have d3 : W0.cell? ⟨w.heap.size, 3, none⟩ = some (.slice T.ia T.len T.cap) := cell_at HQ1.out rfl
  have x0 : W0.cell? ⟨w.heap.size + 1, 0, none⟩ = some (.int .i64 X.kind) := cell_at HQ2.out rfl
  have x2 : W0.cell? ⟨w.heap.size + 1, 2, none⟩ = some (.int .i64 X.bound) := cell_at HQ2.out rfl
  have x3 : W0.cell? ⟨w.heap.size + 1, 3, none⟩ = some (.int .i64 X.of) := cell_at HQ2.out rfl
  have x5 : W0.cell? ⟨w.heap.size + 1, 5, none⟩ = some (.slice X.ia X.ilen X.icap) := cell_at HQ2.out rfl
  go_upto_region 14 with (go_at_call 39; refine (HF.out _).mono ?_; rintro e w1 ⟨rfl, hb1⟩; have HB1 := Lib.hid (below_step8' HB.out hb1); have d0 := keep hb1 (by exact d0); have d1 := keep hb1 (by exact d1); have d2 := keep hb1 (by exact d2); have d3 := keep hb1 (by exact d3); have x0 := keep hb1 (by exact x0); have x2 := keep hb1 (by exact x2); have x3 := keep hb1 (by exact x3); have x5 := keep hb1 (by exact x5); clear hb1)
  go_wp2_with fail
  go_region_held3 (fun w' => w'.cell? ⟨w.heap.size + 1, 5, none⟩ = some (.slice X.ia X.ilen X.icap) ∧ w'.cell? ⟨w.heap.size, 3, none⟩ = some (.slice T.ia T.len T.cap))
    (first | exact ⟨x5, d3⟩ | fail)
    (first
      | (go_at_call 44; refine (HM.out _).mono ?_; rintro e w3 ⟨g1, g2, rfl, q1, q2, hb3⟩; have HB3 := Lib.hid (below_step8' (by first | exact HB1.out | exact HB1.out.drew) hb3); have x5 := keep hb3 (by exact x5); have d3 := keep hb3 (by exact d3))
      | (go_at_call 43; refine (HU.out _ _ _ (by first | exact HB3.out | exact HB3.out.drew) (by first | exact q1 | (rw [World.cell?_drew]; exact q1)) (by first | exact q2 | (rw [World.cell?_drew]; exact q2))).mono ?_; rintro e w4 ⟨rfl, hb4⟩; have HB4 := Lib.hid (below_step8' (by first | exact HB3.out | exact HB3.out.drew) hb4); have x5 := keep hb4 (by exact x5); have d3 := keep hb4 (by exact d3)))
  go_wp2
  go_ret
  exact ⟨rfl, HB4.out⟩
end Go.Proofs.YtficmdomnilhnaaGreat
