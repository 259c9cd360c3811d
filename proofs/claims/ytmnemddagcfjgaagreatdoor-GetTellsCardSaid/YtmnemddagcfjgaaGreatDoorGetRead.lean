/- get: an error is raised by a panic; a reader takes numbers and bytes. -/
import Derived.Test.YtmnemddagcfjgaaGreatDoorAlignText
import Derived.Test.YtmnemddagcfjgaaGreatDoorGetStep
import Derived.Test.YtmnemddagcfjgaaGreatDoorFitsAwake
import Derived.Deep.RegionHeld3
namespace Go.Proofs.YtmnemddagcfjgaaGreatDoor
open Go.RowKit
set_option linter.unusedVariables false
/-- what an error is raised with -/
def failP (e : Int) : List PanicEntry := [{ v := .iface 50 (.agg #[.int .i64 e]), recovered := false }]
theorem stopAt_ok (w : World) : Calls Tryz.prog 22 #[.int .i64 0] w fun e w' => e = .returned (.tuple #[]) ∧ w = w' := by
  go_enter Tryz.func22, Tryz.ntmps22
  go_wp2
  go_end0
  exact ⟨rfl, rfl⟩
theorem stopAt_bad (x : Int) (hx : x ≠ 0) (w : World) : Calls Tryz.prog 22 #[.int .i64 x] w fun e w' => e = .panicked (failP x) ∧ w = w' := by
  have hne : (x != 0) = true := by simpa using hx
  clear hx
  go_enter Tryz.func22, Tryz.ntmps22
  go_wp2
  exact ⟨rfl, rfl, rfl⟩
theorem stopIf_ok (x : Int) (w : World) : Calls Tryz.prog 20 #[.bool false, .int .i64 x] w fun e w' => e = .returned (.tuple #[]) ∧ w = w' := by
  go_enter Tryz.func20, Tryz.ntmps20
  go_wp2
  go_end0
  exact ⟨rfl, rfl⟩
theorem stopIf_bad (x : Int) (w : World) : Calls Tryz.prog 20 #[.bool true, .int .i64 x] w fun e w' => e = .panicked (failP x) ∧ w = w' := by
  go_enter Tryz.func20, Tryz.ntmps20
  go_wp2
  exact ⟨rfl, rfl, rfl⟩
theorem tx_le {b : ByteArray} {a : Nat} {z : Int} (ha : a ≤ b.size) (h : txE b a z = 0) : txA b a z ≤ b.size := by
  unfold txA
  rw [if_pos h]
  unfold txE at h
  split at h
  · cases h
  · split at h
    · cases h
    · omega
/-- the reader's cursor, at a, without an error; what lies below w0's blocks has not turned -/
structure RdAt (w0 : World) (c : Nat) (b : ByteArray) (a : Nat) (w : World) : Prop where
  low : Below w0.heap.size w0 w
  up : w0.heap.size ≤ c
  cur : CurAt c b a 0 w
  le : a ≤ b.size
theorem RdAt.step {w0 w w' : World} {c a : Nat} {b : ByteArray} (h : RdAt w0 c b a w) (hb : Below w.heap.size w w') : RdAt w0 c b a w' :=
  ⟨h.low.trans (hb.mono h.low.size), h.up, cur_only h.cur (Only.of_below (S := fun _ => False) hb) (fun f => f), h.le⟩
theorem RdAt.alloc {w0 w : World} {c a : Nat} {b : ByteArray} (h : RdAt w0 c b a w) (o : Obj) : RdAt w0 c b a (w.alloc o) := h.step ((Below.refl _ _).alloc (Nat.le_refl _) o)
theorem RdAt.drew {w0 w : World} {c a : Nat} {b : ByteArray} (h : RdAt w0 c b a w) : RdAt w0 c b a w.drew := h.step (Below.refl _ _).drew
theorem RdAt.of {w0 w w' : World} {c a a' : Nat} {b : ByteArray} (h : RdAt w0 c b a w) (ho : Only (fun k => k = c) w w') (hc : CurAt c b a' 0 w') (hl : a' ≤ b.size) : RdAt w0 c b a' w' :=
  ⟨Only.below_step h.low ho (fun k e => e ▸ h.up) (Nat.le_refl _), h.up, hc, hl⟩
/-- a method of the reader: what it gives; only the cursor has turned -/
def GotTo (w0 : World) (c : Nat) (b : ByteArray) (a' : Nat) (r : Value) (w : World) (e : Ending) (w' : World) : Prop :=
  e = .returned r ∧ Only (fun k => k = c) w w' ∧ RdAt w0 c b a' w'
def BadTo (c : Nat) (x : Int) (w : World) (e : Ending) (w' : World) : Prop := e = .panicked (failP x) ∧ Only (fun k => k = c) w w'
theorem only_at {w w1 : World} {c g : Nat} {o : Obj} (h : w.heap[g]? = some o) (hg : g ≠ c) (ho : Only (fun k => k = c) w w1) : w1.heap[g]? = some o := ho.same h hg
theorem only_new {w w1 : World} {o : Obj} {c : Nat} (ho : Only (fun k => k = c) (w.alloc o) w1) : Only (fun k => k = c) w w1 := ((Only.refl (fun k => k = c) w).alloc o).trans ho (fun _ _ s => s)
theorem only_two {w w1 w2 : World} {c : Nat} (h : Only (fun k => k = c) w w1) (k : Only (fun k => k = c) w1 w2) : Only (fun k => k = c) w w2 := h.trans k (fun _ _ s => s)
abbrev rdO (ao : Option Addr) (len cap c : Nat) : Obj := .cells #[.slice ao len cap, .pointer (some ⟨c, 0, none⟩)] 54
theorem RdAt.ne {w0 w : World} {c a : Nat} {b : ByteArray} (h : RdAt w0 c b a w) : w.heap.size ≠ c := fun e => by have := lt_of_block h.cur; omega
set_option maxHeartbeats 1000000 in
theorem rtake_ok {w0 w : World} {c a : Nat} {b : ByteArray} (ao : Option Addr) (len cap : Nat) (z : Int) (h : RdAt w0 c b a w) (hs : b.size ≤ 281474976710656) (hz : (Lit.int .i64 z).wf = true) (h0 : tkE b a z = 0) :
    Calls Tryz.prog 70 #[.agg #[.slice ao len cap, .pointer (some ⟨c, 0, none⟩)], .int .i64 z] w (GotTo w0 c b (tkA b a z) (.int .u64 (tkN b a z)) w) := by
  have hle := (tk_zero h.le h0).2.2.1
  have HT := Lib.hid (fun wx (h' : CurAt c b a 0 wx) => ctake_any c b a z wx h' h.le hs hz)
  rw [h0] at HT
  obtain ⟨n, hn⟩ : ∃ n, tkN b a z = n := ⟨_, rfl⟩
  obtain ⟨a', ha'⟩ : ∃ a', tkA b a z = a' := ⟨_, rfl⟩
  rw [hn, ha'] at HT ⊢
  rw [ha'] at hle
  have H := Lib.hid h
  have hne := h.ne
  clear h hn ha' h0
  go_enter Tryz.func70, Tryz.ntmps70
  go_wp2_with (first
    | (go_at_call 120; refine (HT.out _ (H.out.alloc _).cur).mono ?_; rintro e w1 ⟨rfl, ho, hc⟩; have HO := Lib.hid ho; have HC := Lib.hid hc; have d0 := cell_at (j := 1) (only_at (alloc_at w _) hne ho) rfl; clear ho hc)
    | (go_at_call 46; refine (err_any c b _ _ _ HC.out).mono ?_; rintro e w2 ⟨rfl, rfl⟩)
    | (go_at_call 22; refine (stopAt_ok _).mono ?_; rintro e w3 ⟨rfl, rfl⟩))
  go_ret
  exact ⟨rfl, only_new HO.out, H.out.of (only_new HO.out) HC.out hle⟩
set_option maxHeartbeats 1000000 in
theorem rtake_bad {w0 w : World} {c a : Nat} {b : ByteArray} (ao : Option Addr) (len cap : Nat) (z : Int) (h : RdAt w0 c b a w) (hs : b.size ≤ 281474976710656) (hz : (Lit.int .i64 z).wf = true) (h0 : tkE b a z ≠ 0) :
    Calls Tryz.prog 70 #[.agg #[.slice ao len cap, .pointer (some ⟨c, 0, none⟩)], .int .i64 z] w (BadTo c (tkE b a z) w) := by
  have HT := Lib.hid (fun wx (h' : CurAt c b a 0 wx) => ctake_any c b a z wx h' h.le hs hz)
  obtain ⟨n, hn⟩ : ∃ n, tkN b a z = n := ⟨_, rfl⟩
  obtain ⟨a', ha'⟩ : ∃ a', tkA b a z = a' := ⟨_, rfl⟩
  obtain ⟨x, hx⟩ : ∃ x, tkE b a z = x := ⟨_, rfl⟩
  rw [hn, ha', hx] at HT
  rw [hx] at h0 ⊢
  have H := Lib.hid h
  have hne := h.ne
  clear h hn ha' hx
  go_enter Tryz.func70, Tryz.ntmps70
  go_wp2_with (first
    | (go_at_call 120; refine (HT.out _ (H.out.alloc _).cur).mono ?_; rintro e w1 ⟨rfl, ho, hc⟩; have HO := Lib.hid ho; have HC := Lib.hid hc; have d0 := cell_at (j := 1) (only_at (alloc_at w _) hne ho) rfl; clear ho hc)
    | (go_at_call 46; refine (err_any c b _ _ _ HC.out).mono ?_; rintro e w2 ⟨rfl, rfl⟩)
    | (go_at_call 22; refine (stopAt_bad _ h0 _).mono ?_; rintro e w3 ⟨rfl, rfl⟩))
  exact ⟨rfl, rfl, only_new HO.out⟩
set_option maxHeartbeats 1000000 in
theorem rbytes_ok {w0 w : World} {c a : Nat} {b : ByteArray} (ao : Option Addr) (len cap : Nat) (z : Int) (h : RdAt w0 c b a w) (hs : b.size ≤ 281474976710656) (hz : (Lit.int .i64 z).wf = true) (h0 : txE b a z = 0) :
    Calls Tryz.prog 68 #[.agg #[.slice ao len cap, .pointer (some ⟨c, 0, none⟩)], .int .i64 z] w (GotTo w0 c b (txA b a z) (.string (txS b a z)) w) := by
  have hle := tx_le h.le h0
  have HT := Lib.hid (fun wx (h' : CurAt c b a 0 wx) => ctext_any c b a z wx h' h.le hs hz)
  rw [h0] at HT
  obtain ⟨n, hn⟩ : ∃ n, txS b a z = n := ⟨_, rfl⟩
  obtain ⟨a', ha'⟩ : ∃ a', txA b a z = a' := ⟨_, rfl⟩
  rw [hn, ha'] at HT ⊢
  rw [ha'] at hle
  have H := Lib.hid h
  have hne := h.ne
  clear h hn ha' h0
  go_enter Tryz.func68, Tryz.ntmps68
  go_wp2_with (first
    | (go_at_call 118; refine (HT.out _ (H.out.alloc _).cur).mono ?_; rintro e w1 ⟨rfl, ho, hc⟩; have HO := Lib.hid ho; have HC := Lib.hid hc; have d0 := cell_at (j := 1) (only_at (alloc_at w _) hne ho) rfl; clear ho hc)
    | (go_at_call 46; refine (err_any c b _ _ _ HC.out).mono ?_; rintro e w2 ⟨rfl, rfl⟩)
    | (go_at_call 22; refine (stopAt_ok _).mono ?_; rintro e w3 ⟨rfl, rfl⟩))
  go_ret
  exact ⟨rfl, only_new HO.out, H.out.of (only_new HO.out) HC.out hle⟩
set_option maxHeartbeats 1000000 in
theorem rbytes_bad {w0 w : World} {c a : Nat} {b : ByteArray} (ao : Option Addr) (len cap : Nat) (z : Int) (h : RdAt w0 c b a w) (hs : b.size ≤ 281474976710656) (hz : (Lit.int .i64 z).wf = true) (h0 : txE b a z ≠ 0) :
    Calls Tryz.prog 68 #[.agg #[.slice ao len cap, .pointer (some ⟨c, 0, none⟩)], .int .i64 z] w (BadTo c (txE b a z) w) := by
  have HT := Lib.hid (fun wx (h' : CurAt c b a 0 wx) => ctext_any c b a z wx h' h.le hs hz)
  obtain ⟨n, hn⟩ : ∃ n, txS b a z = n := ⟨_, rfl⟩
  obtain ⟨a', ha'⟩ : ∃ a', txA b a z = a' := ⟨_, rfl⟩
  obtain ⟨x, hx⟩ : ∃ x, txE b a z = x := ⟨_, rfl⟩
  rw [hn, ha', hx] at HT
  rw [hx] at h0 ⊢
  have H := Lib.hid h
  have hne := h.ne
  clear h hn ha' hx
  go_enter Tryz.func68, Tryz.ntmps68
  go_wp2_with (first
    | (go_at_call 118; refine (HT.out _ (H.out.alloc _).cur).mono ?_; rintro e w1 ⟨rfl, ho, hc⟩; have HO := Lib.hid ho; have HC := Lib.hid hc; have d0 := cell_at (j := 1) (only_at (alloc_at w _) hne ho) rfl; clear ho hc)
    | (go_at_call 46; refine (err_any c b _ _ _ HC.out).mono ?_; rintro e w2 ⟨rfl, rfl⟩)
    | (go_at_call 22; refine (stopAt_bad _ h0 _).mono ?_; rintro e w3 ⟨rfl, rfl⟩))
  exact ⟨rfl, rfl, only_new HO.out⟩
set_option maxHeartbeats 1000000 in
theorem rcount_bad {w0 w : World} {c a : Nat} {b : ByteArray} (ao : Option Addr) (len cap : Nat) (m : Int) (h : RdAt w0 c b a w) (hs : b.size ≤ 281474976710656) (h0 : tkE b a 4 ≠ 0) :
    Calls Tryz.prog 42 #[.agg #[.slice ao len cap, .pointer (some ⟨c, 0, none⟩)], .int .i64 m] w (BadTo c (tkE b a 4) w) := by
  have HT := Lib.hid (fun wx (h' : RdAt w0 c b a wx) => rtake_bad ao len cap 4 h' hs (by kernel_rfl) h0)
  obtain ⟨x, hx⟩ : ∃ x, tkE b a 4 = x := ⟨_, rfl⟩
  rw [hx] at HT ⊢
  have H := Lib.hid h
  clear h hx h0
  go_enter Tryz.func42, Tryz.ntmps42
  go_wp2_with (go_at_call 70; refine (HT.out _ (H.out.alloc _)).mono ?_; rintro e w1 ⟨rfl, ho⟩)
  exact ⟨rfl, rfl, only_new ho⟩
set_option maxHeartbeats 1000000 in
theorem rcount_long {w0 w : World} {c a : Nat} {b : ByteArray} (ao : Option Addr) (len cap : Nat) (m : Int) (hm0 : 0 ≤ m) (hm1 : m ≤ 1000) (h : RdAt w0 c b a w) (hs : b.size ≤ 281474976710656) (h0 : tkE b a 4 = 0) (h1 : m < tkN b a 4) :
    Calls Tryz.prog 42 #[.agg #[.slice ao len cap, .pointer (some ⟨c, 0, none⟩)], .int .i64 m] w (BadTo c 3 w) := by
  have HT := Lib.hid (fun wx (h' : RdAt w0 c b a wx) => rtake_ok ao len cap 4 h' hs (by kernel_rfl) h0)
  obtain ⟨n, hn⟩ : ∃ n, tkN b a 4 = n := ⟨_, rfl⟩
  obtain ⟨a', ha'⟩ : ∃ a', tkA b a 4 = a' := ⟨_, rfl⟩
  rw [hn, ha'] at HT
  rw [hn] at h1
  have H := Lib.hid h
  have hwm : IntKind.u64.wrap m = m := IntWalk.u64_in m (by omega)
  have hd : decide (m < n) = true := by simpa using h1
  clear h hn ha' h0
  go_enter Tryz.func42, Tryz.ntmps42
  go_wp2_with (first
    | (go_at_call 70; refine (HT.out _ (H.out.alloc _)).mono ?_; rintro e w1 ⟨rfl, ho, hr⟩; have HO := Lib.hid ho; clear ho hr)
    | (go_at_call 20; refine (stopIf_bad _ _).mono ?_; rintro e w3 ⟨rfl, rfl⟩))
  exact ⟨rfl, rfl, only_new HO.out⟩
set_option maxHeartbeats 1000000 in
theorem rcount_ok {w0 w : World} {c a : Nat} {b : ByteArray} (ao : Option Addr) (len cap : Nat) (m : Int) (hm0 : 0 ≤ m) (hm1 : m ≤ 1000) (h : RdAt w0 c b a w) (hs : b.size ≤ 281474976710656) (h0 : tkE b a 4 = 0) (h1 : ¬ m < tkN b a 4) :
    Calls Tryz.prog 42 #[.agg #[.slice ao len cap, .pointer (some ⟨c, 0, none⟩)], .int .i64 m] w (GotTo w0 c b (tkA b a 4) (.int .i64 (tkN b a 4)) w) := by
  have HT := Lib.hid (fun wx (h' : RdAt w0 c b a wx) => rtake_ok ao len cap 4 h' hs (by kernel_rfl) h0)
  have hn0 := (tkN_range h.le h0).1
  obtain ⟨n, hn⟩ : ∃ n, tkN b a 4 = n := ⟨_, rfl⟩
  obtain ⟨a', ha'⟩ : ∃ a', tkA b a 4 = a' := ⟨_, rfl⟩
  rw [hn, ha'] at HT ⊢
  rw [hn] at h1 hn0
  have H := Lib.hid h
  have hwm : IntKind.u64.wrap m = m := IntWalk.u64_in m (by omega)
  have hwn : IntKind.i64.wrap n = n := IntWalk.i64_in n (by omega)
  have hd : decide (m < n) = false := by simpa using h1
  clear h hn ha' h0
  go_enter Tryz.func42, Tryz.ntmps42
  go_wp2_with (first
    | (go_at_call 70; refine (HT.out _ (H.out.alloc _)).mono ?_; rintro e w1 ⟨rfl, ho, hr⟩; have HO := Lib.hid ho; have HR := Lib.hid hr; clear ho hr)
    | (go_at_call 20; refine (stopIf_ok _ _).mono ?_; rintro e w3 ⟨rfl, rfl⟩))
  go_ret
  exact ⟨rfl, only_new HO.out, HR.out⟩
end Go.Proofs.YtmnemddagcfjgaaGreatDoor
