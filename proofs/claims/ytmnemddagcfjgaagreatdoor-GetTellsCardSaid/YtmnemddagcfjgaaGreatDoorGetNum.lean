/- get: a number of a type; the branch of a union. -/
import Derived.Test.YtmnemddagcfjgaaGreatDoorGetText
import Derived.Test.YtmnemddagcfjgaaGreatDoorFitsNone
namespace Go.Proofs.YtmnemddagcfjgaaGreatDoor
open Go.RowKit
set_option linter.unusedVariables false
/-- what has been read since w -/
structure RdNow (w0 : World) (c : Nat) (b : ByteArray) (a : Nat) (w wx : World) : Prop where
  rd : RdAt w0 c b a wx
  only : Only (fun k => k = c) w wx
theorem RdNow.start {w0 w : World} {c a : Nat} {b : ByteArray} (h : RdAt w0 c b a w) : RdNow w0 c b a w w := ⟨h, Only.refl _ _⟩
theorem RdNow.step {w0 w wx wy : World} {c a : Nat} {b : ByteArray} (h : RdNow w0 c b a w wx) (hb : Below wx.heap.size wx wy) : RdNow w0 c b a w wy := ⟨h.rd.step hb, h.only.step hb⟩
theorem RdNow.alloc {w0 w wx : World} {c a : Nat} {b : ByteArray} (h : RdNow w0 c b a w wx) (o : Obj) : RdNow w0 c b a w (wx.alloc o) := ⟨h.rd.alloc o, h.only.alloc o⟩
theorem RdNow.drew {w0 w wx : World} {c a : Nat} {b : ByteArray} (h : RdNow w0 c b a w wx) : RdNow w0 c b a w wx.drew := ⟨h.rd.drew, h.only.drew⟩
theorem RdNow.got {w0 w wx wy : World} {c a a' : Nat} {b : ByteArray} (h : RdNow w0 c b a w wx) (ho : Only (fun k => k = c) wx wy) (hr : RdAt w0 c b a' wy) : RdNow w0 c b a' w wy := ⟨hr, only_two h.only ho⟩
/-- a block beside the cursor -/
theorem at_box {wx wy : World} {g c : Nat} {o : Obj} (h : wx.heap[g]? = some o) (hg : g ≠ c) (ho : Only (fun k => k = c) wx wy) : wy.heap[g]? = some o := ho.same h hg
set_option maxHeartbeats 1000000 in
theorem rallowed_any (ao : Option Addr) (len cap c : Nat) (L : Nat → TypeV) (hlen : len ≤ 1000000) (t : Nat) (ht : t < len) (n : Int) (hn : (Lit.int .u64 n).wf = true) (w : World) (H : ∀ i, i < len → TypeAt w ao i (L i)) :
    Calls Tryz.prog 73 #[.agg #[.slice ao len cap, .pointer (some ⟨c, 0, none⟩)], .int .i64 t, .int .u64 n] w fun e w' => e = .returned (.bool (numOk L t n)) ∧ Below w.heap.size w w' := by
  have hv := fun wx (hb : Below w.heap.size w wx) => value6_any ao len cap L t n (by omega) wx (hold H hb)
  have e1 : valueL L len (t : Nat) n = valueZ (L t) n := by unfold valueL; rw [inL_yes ht]; rfl
  rw [e1] at hv
  obtain ⟨z, hz⟩ : ∃ z, valueZ (L t) n = z := ⟨_, rfl⟩
  rw [hz] at hv
  unfold foundV at hv
  have HV := Lib.hid hv
  have hm := may_any (L t).kind n hn
  obtain ⟨m, hmk⟩ : ∃ m, mayK (L t).kind n = m := ⟨_, rfl⟩
  rw [hmk] at hm
  have HM := Lib.hid hm
  have HB := Lib.hid ((Below.refl w.heap.size w).alloc (Nat.le_refl _) (rdO ao len cap c))
  have HQ := Lib.hid (alloc_at w (rdO ao len cap c))
  obtain ⟨b, off, rfl, c0, c1, c2, c3, c4, c5, wf, hi⟩ := H t ht
  obtain ⟨k, hk⟩ : ∃ k, (L t).kind = k := ⟨_, rfl⟩
  obtain ⟨r, hr⟩ : ∃ r, numOk L t n = r := ⟨_, rfl⟩
  rw [hr]
  unfold numOk at hr
  rw [hk, hz, ← hk, hmk, hk] at hr
  rw [hk] at c0 HM
  have HR := Lib.hid hr
  have c0 := keep HB.out c0
  have hbl := World.block_lt_of_cell? _ _ c0
  clear hv hm e1 hz hmk hk hr H hi wf c1 c2 c3 c4 c5
  by_cases h9 : k = 9
  · have h9' : (k == 9) = true := by simpa using h9
    have hr := HR.out
    rw [if_pos h9] at hr
    subst hr
    obtain ⟨o, ho⟩ : ∃ o, okZ z = o := ⟨_, rfl⟩
    rw [ho] at HV ⊢
    clear HR ho h9
    go_enter Tryz.func73, Tryz.ntmps73
    go_wp2_with (go_at_call 102; refine (HV.out _ HB.out).mono ?_; rintro e w2 ⟨rfl, hb2⟩; have HB2 := Lib.hid (below_step8' HB.out hb2); clear hb2)
    go_ret
    exact ⟨rfl, HB2.out⟩
  · have h9' : (k == 9) = false := by simpa using h9
    have hr := HR.out
    rw [if_neg h9] at hr
    subst hr
    clear HR h9
    go_enter Tryz.func73, Tryz.ntmps73
    go_wp2_with (go_at_call 101; refine (HM.out _).mono ?_; rintro e w1 ⟨rfl, hb1⟩; have HB2 := Lib.hid (below_step8' HB.out hb1); clear hb1)
    go_ret
    exact ⟨rfl, HB2.out⟩
set_option maxHeartbeats 2000000 in
theorem rnum_b1 {w0 w : World} {c a : Nat} {b : ByteArray} (ao : Option Addr) (len cap : Nat) (L : Nat → TypeV) (hlen : len ≤ 1000000) (H : ∀ i, i < len → TypeAt w0 ao i (L i)) (t : Nat) (ht : t < len) (hk : numK (L t).kind = true) (h : RdAt w0 c b a w) (hs : b.size ≤ 281474976710656) (h0 : tkE b a (szK (L t).kind) ≠ 0) :
    Calls Tryz.prog 44 #[.agg #[.slice ao len cap, .pointer (some ⟨c, 0, none⟩)], .int .i64 t] w (BadTo c (nE L t b a) w) := by
  have e : nE L t b a = tkE b a (szK (L t).kind) := by unfold nE; rw [if_pos h0]
  rw [e]
  have HT := Lib.hid (fun wx (h' : RdAt w0 c b a wx) => rtake_bad ao len cap (szK (L t).kind) h' hs (by rcases isSz_cases (size_sz hk) with c | c | c | c <;> rw [c] <;> kernel_rfl) h0)
  obtain ⟨x, hx⟩ : ∃ x, tkE b a (szK (L t).kind) = x := ⟨_, rfl⟩
  obtain ⟨kd, hkd⟩ : ∃ kd, (L t).kind = kd := ⟨_, rfl⟩
  rw [hx] at HT ⊢
  rw [hkd] at HT
  clear hk h0 hx e
  have hne := h.ne
  have HN := Lib.hid (RdNow.start h |>.alloc (rdO ao len cap c))
  have HQ := Lib.hid (alloc_at w (rdO ao len cap c))
  obtain ⟨tb, off, rfl, c0, _⟩ := H t ht
  have c0 := keep (h.alloc (rdO (some ⟨tb, off, none⟩) len cap c)).low c0
  rw [hkd] at c0
  have hbl := World.block_lt_of_cell? _ _ c0
  clear h hkd H
  go_enter Tryz.func44, Tryz.ntmps44
  go_upto_region 1 with (fail)
  generalize (w.alloc (rdO (some ⟨tb, off, none⟩) len cap c)) = W0 at *
  have q0 := cell_at (j := 0) HQ.out rfl
  have q1 := cell_at (j := 1) HQ.out rfl
  go_upto_region 2 with (fail)
  refine wp_region_pre (by kernel_rfl) 6 100 (fun v => ((.agg #[.slice (some ⟨tb, off, none⟩) len cap, .pointer (some ⟨c, 0, none⟩)] : Value) :: (.int .i64 (t : Nat) : Value) :: (.pointer (some ⟨w.heap.size, 0, none⟩) : Value) :: undef :: (.int .u64 0 : Value) :: (.int .i64 kd : Value) :: undef :: (.pointer (some ⟨w.heap.size, 0, none⟩) : Value) :: (.slice (some ⟨tb, off, none⟩) len cap : Value) :: (.int .i64 (t : Nat) : Value) :: (.pointer (some ⟨tb, off + t * 6, none⟩) : Value) :: (.pointer (some ⟨tb, off + t * 6, none⟩) : Value) :: (.int .i64 kd : Value) :: v 0 :: v 1 :: v 2 :: v 3 :: v 4 :: v 5 :: undef :: undef :: undef :: undef :: undef :: undef :: undef :: []).toArray) (fun _ => undef) (fun j' y wz => j' ≠ 4 ∧ y = (fun j' => [.int .i64 kd, .agg #[.slice (some ⟨tb, off, none⟩) len cap, .pointer (some ⟨c, 0, none⟩)], .int .i64 kd, .int .i64 (szK kd), undef, undef].getD j' undef) j') (fun wx => RdNow w0 c b a w wx ∧ wx.heap[w.heap.size]? = some (rdO (some ⟨tb, off, none⟩) len cap c)) (fun _ => True) (Nat.le_of_ble_eq_true (by kernel_rfl)) (by kernel_rfl) (⟨HN.out.drew, HQ.out⟩) (trivial) (fun i' hi' v w1 hB hP hd => ?_) (fun v w1 hv hB => absurd rfl (hv 4 (by decide)).1)
  have hcs : i' = 0 ∨ i' = 1 ∨ i' = 2 ∨ i' = 3 ∨ i' = 4 ∨ i' = 5 := by omega
  rcases hcs with rfl | rfl | rfl | rfl | rfl | rfl
  · have q0 := cell_at (j := 0) hB.2 rfl; have q1 := cell_at (j := 1) hB.2 rfl
    refine wpOp_step (o := _) rfl (fun K' hK => ?_)
    go_simp
    exact hK _ _ ⟨(.int .i64 kd : Value), rfl, ⟨by decide, rfl⟩, hB, fun _ h => h, fun k y _ h => h⟩
  · have q0 := cell_at (j := 0) hB.2 rfl; have q1 := cell_at (j := 1) hB.2 rfl
    refine wpOp_step (o := _) rfl (fun K' hK => ?_)
    go_simp
    exact hK _ _ ⟨(.agg #[.slice (some ⟨tb, off, none⟩) len cap, .pointer (some ⟨c, 0, none⟩)] : Value), rfl, ⟨by decide, rfl⟩, hB, fun _ h => h, fun k y _ h => h⟩
  · have q0 := cell_at (j := 0) hB.2 rfl; have q1 := cell_at (j := 1) hB.2 rfl
    refine wpOp_step (o := _) rfl (fun K' hK => ?_)
    go_simp
    exact hK _ _ ⟨(.int .i64 kd : Value), rfl, ⟨by decide, rfl⟩, hB, fun _ h => h, fun k y _ h => h⟩
  · have e2 : v 2 = (.int .i64 kd : Value) := (hd 2 (List.contains_iff_mem.1 (by kernel_rfl))).2
    have q0 := cell_at (j := 0) hB.2 rfl; have q1 := cell_at (j := 1) hB.2 rfl
    refine wpOp_step (o := _) rfl (fun K' hK => ?_)
    go_simp
    refine (size_any _ _).mono ?_
    rintro e w3 ⟨rfl, hb3⟩
    exact hK _ _ ⟨_, fr_eq9 (by simp [upd, e2]), ⟨by decide, rfl⟩, ⟨hB.1.step hb3, box_keep hB.2 hb3⟩, fun _ h => h, fun k y _ h => h⟩
  · have e1 : v 1 = (.agg #[.slice (some ⟨tb, off, none⟩) len cap, .pointer (some ⟨c, 0, none⟩)] : Value) := (hd 1 (List.contains_iff_mem.1 (by kernel_rfl))).2
    have e3 : v 3 = (.int .i64 (szK kd) : Value) := (hd 3 (List.contains_iff_mem.1 (by kernel_rfl))).2
    have q0 := cell_at (j := 0) hB.2 rfl; have q1 := cell_at (j := 1) hB.2 rfl
    refine wpOp_step (o := _) rfl (fun K' hK => ?_)
    go_simp
    refine (HT.out w1 hB.1.rd).mono ?_
    rintro e w3 ⟨rfl, ho⟩
    exact ⟨rfl, rfl, only_two hB.1.only ho⟩
  · exact absurd rfl (hd 4 (List.contains_iff_mem.1 (by kernel_rfl))).1
set_option maxHeartbeats 2000000 in
theorem rnum_b2 {w0 w : World} {c a : Nat} {b : ByteArray} (ao : Option Addr) (len cap : Nat) (L : Nat → TypeV) (hlen : len ≤ 1000000) (H : ∀ i, i < len → TypeAt w0 ao i (L i)) (t : Nat) (ht : t < len) (hk : numK (L t).kind = true) (h : RdAt w0 c b a w) (hs : b.size ≤ 281474976710656) (h0' : tkE b a (szK (L t).kind) = 0) (h1 : numOk L t (nN L t b a) = false) :
    Calls Tryz.prog 44 #[.agg #[.slice ao len cap, .pointer (some ⟨c, 0, none⟩)], .int .i64 t] w (BadTo c (nE L t b a) w) := by
  have e : nE L t b a = 7 := by unfold nE; rw [if_neg (by rw [h0']; decide), h1]; rfl
  rw [e]
  have hwn : (Lit.int .u64 (tkN b a (szK (L t).kind))).wf = true := by
    have := tkN_range h.le h0'
    exact WalkArith.wf_u64 (by have := pw_even (size_sz hk); omega)
  have hT := fun wx (h' : RdAt w0 c b a wx) => rtake_ok ao len cap (szK (L t).kind) h' hs (by rcases isSz_cases (size_sz hk) with c | c | c | c <;> rw [c] <;> kernel_rfl) h0'
  have hA := fun wx (hb : Below w0.heap.size w0 wx) => rallowed_any ao len cap c L hlen t ht (nN L t b a) (WalkArith.wf_u64 (by unfold nN; have := @up_range (L t).kind (tkN b a (szK (L t).kind)); omega)) wx (hold H hb)
  have ea : nA L t b a = tkA b a (szK (L t).kind) := rfl
  have en : nN L t b a = upK (L t).kind (tkN b a (szK (L t).kind)) := rfl
  obtain ⟨m, hm⟩ : ∃ m, numOk L t (nN L t b a) = m := ⟨_, rfl⟩
  obtain ⟨a', ha⟩ : ∃ a', tkA b a (szK (L t).kind) = a' := ⟨_, rfl⟩
  obtain ⟨n, hn⟩ : ∃ n, tkN b a (szK (L t).kind) = n := ⟨_, rfl⟩
  rw [hm, en, hn] at hA
  rw [hn, ha] at hT
  rw [hn] at hwn
  obtain rfl : m = false := hm.symm.trans h1
  obtain ⟨kd, hkd⟩ : ∃ kd, (L t).kind = kd := ⟨_, rfl⟩
  rw [hkd] at hT hA
  have HT := Lib.hid hT
  have HA := Lib.hid hA
  clear hT hA ea en hm ha hn h0' h1 e hk
  have hne := h.ne
  have HN := Lib.hid (RdNow.start h |>.alloc (rdO ao len cap c))
  have HQ := Lib.hid (alloc_at w (rdO ao len cap c))
  obtain ⟨tb, off, rfl, c0, _⟩ := H t ht
  have c0 := keep (h.alloc (rdO (some ⟨tb, off, none⟩) len cap c)).low c0
  rw [hkd] at c0
  have hbl := World.block_lt_of_cell? _ _ c0
  clear h hkd H
  go_enter Tryz.func44, Tryz.ntmps44
  go_upto_region 1 with (fail)
  generalize (w.alloc (rdO (some ⟨tb, off, none⟩) len cap c)) = W0 at *
  have q0 := cell_at (j := 0) HQ.out rfl
  have q1 := cell_at (j := 1) HQ.out rfl
  go_upto_region 2 with (fail)
  have HN := Lib.hid HN.out.drew
  have HQ := Lib.hid (show W0.drew.heap[w.heap.size]? = _ from HQ.out)
  go_region_held3 (fun w' => w'.cell? ⟨w.heap.size, 0, none⟩ = some (.slice (some ⟨tb, off, none⟩) len cap) ∧ w'.cell? ⟨w.heap.size, 1, none⟩ = some (.pointer (some ⟨c, 0, none⟩))) (first | exact ⟨q0, q1⟩ | go_keep)
    (first
      | (go_at_call 72; refine (size_any _ _).mono ?_; rintro e w1 ⟨rfl, hb1⟩; have HN := Lib.hid (HN.out.step hb1); have HQ := Lib.hid (box_keep HQ.out hb1); have q0 := cell_at (j := 0) HQ.out rfl; have q1 := cell_at (j := 1) HQ.out rfl; clear hb1)
      | (go_at_call 70; refine (HT.out _ (by first | exact HN.out.rd | exact HN.out.rd.drew)).mono ?_; rintro e w2 ⟨rfl, ho, hr⟩; have HQ := Lib.hid (at_box HQ.out hne ho); have HN := Lib.hid (HN.out.got ho hr); have q0 := cell_at (j := 0) HQ.out rfl; have q1 := cell_at (j := 1) HQ.out rfl; clear ho hr)
      | (go_at_call 71; refine (up_any _ _ hwn _).mono ?_; rintro e w3 ⟨rfl, hb3⟩; have HN := Lib.hid (HN.out.step hb3); have HQ := Lib.hid (box_keep HQ.out hb3); have q0 := cell_at (j := 0) HQ.out rfl; have q1 := cell_at (j := 1) HQ.out rfl; clear hb3))
  all_goals go_wp2_with (first
    | (go_at_call 73; refine (HA.out _ HN.out.rd.low).mono ?_; rintro e w5 ⟨rfl, hb5⟩; have HN := Lib.hid (HN.out.step hb5); clear hb5)
    | (go_at_call 20; refine (stopIf_bad _ _).mono ?_; rintro e w6 ⟨rfl, rfl⟩))
  all_goals exact ⟨rfl, rfl, HN.out.only⟩
set_option maxHeartbeats 2000000 in
theorem rnum_b3 {w0 w : World} {c a : Nat} {b : ByteArray} (ao : Option Addr) (len cap : Nat) (L : Nat → TypeV) (hlen : len ≤ 1000000) (H : ∀ i, i < len → TypeAt w0 ao i (L i)) (t : Nat) (ht : t < len) (hk : numK (L t).kind = true) (h : RdAt w0 c b a w) (hs : b.size ≤ 281474976710656) (h0' : tkE b a (szK (L t).kind) = 0) (h1 : numOk L t (nN L t b a) = true) :
    Calls Tryz.prog 44 #[.agg #[.slice ao len cap, .pointer (some ⟨c, 0, none⟩)], .int .i64 t] w (GotTo w0 c b (nA L t b a) (.int .u64 (nN L t b a)) w) := by
  have hwn : (Lit.int .u64 (tkN b a (szK (L t).kind))).wf = true := by
    have := tkN_range h.le h0'
    exact WalkArith.wf_u64 (by have := pw_even (size_sz hk); omega)
  have hT := fun wx (h' : RdAt w0 c b a wx) => rtake_ok ao len cap (szK (L t).kind) h' hs (by rcases isSz_cases (size_sz hk) with c | c | c | c <;> rw [c] <;> kernel_rfl) h0'
  have hA := fun wx (hb : Below w0.heap.size w0 wx) => rallowed_any ao len cap c L hlen t ht (nN L t b a) (WalkArith.wf_u64 (by unfold nN; have := @up_range (L t).kind (tkN b a (szK (L t).kind)); omega)) wx (hold H hb)
  have ea : nA L t b a = tkA b a (szK (L t).kind) := rfl
  have en : nN L t b a = upK (L t).kind (tkN b a (szK (L t).kind)) := rfl
  obtain ⟨m, hm⟩ : ∃ m, numOk L t (nN L t b a) = m := ⟨_, rfl⟩
  obtain ⟨a', ha⟩ : ∃ a', tkA b a (szK (L t).kind) = a' := ⟨_, rfl⟩
  obtain ⟨n, hn⟩ : ∃ n, tkN b a (szK (L t).kind) = n := ⟨_, rfl⟩
  rw [hm, en, hn] at hA
  rw [hn, ha] at hT
  rw [hn] at hwn
  obtain rfl : m = true := hm.symm.trans h1
  rw [ea, en, hn, ha]
  obtain ⟨kd, hkd⟩ : ∃ kd, (L t).kind = kd := ⟨_, rfl⟩
  rw [hkd] at hT hA
  rw [hkd]
  have HT := Lib.hid hT
  have HA := Lib.hid hA
  clear hT hA ea en hm ha hn h0' h1 hk
  have hne := h.ne
  have HN := Lib.hid (RdNow.start h |>.alloc (rdO ao len cap c))
  have HQ := Lib.hid (alloc_at w (rdO ao len cap c))
  obtain ⟨tb, off, rfl, c0, _⟩ := H t ht
  have c0 := keep (h.alloc (rdO (some ⟨tb, off, none⟩) len cap c)).low c0
  rw [hkd] at c0
  have hbl := World.block_lt_of_cell? _ _ c0
  clear h hkd H
  go_enter Tryz.func44, Tryz.ntmps44
  go_upto_region 1 with (fail)
  generalize (w.alloc (rdO (some ⟨tb, off, none⟩) len cap c)) = W0 at *
  have q0 := cell_at (j := 0) HQ.out rfl
  have q1 := cell_at (j := 1) HQ.out rfl
  go_upto_region 2 with (fail)
  have HN := Lib.hid HN.out.drew
  have HQ := Lib.hid (show W0.drew.heap[w.heap.size]? = _ from HQ.out)
  go_region_held3 (fun w' => w'.cell? ⟨w.heap.size, 0, none⟩ = some (.slice (some ⟨tb, off, none⟩) len cap) ∧ w'.cell? ⟨w.heap.size, 1, none⟩ = some (.pointer (some ⟨c, 0, none⟩))) (first | exact ⟨q0, q1⟩ | go_keep)
    (first
      | (go_at_call 72; refine (size_any _ _).mono ?_; rintro e w1 ⟨rfl, hb1⟩; have HN := Lib.hid (HN.out.step hb1); have HQ := Lib.hid (box_keep HQ.out hb1); have q0 := cell_at (j := 0) HQ.out rfl; have q1 := cell_at (j := 1) HQ.out rfl; clear hb1)
      | (go_at_call 70; refine (HT.out _ (by first | exact HN.out.rd | exact HN.out.rd.drew)).mono ?_; rintro e w2 ⟨rfl, ho, hr⟩; have HQ := Lib.hid (at_box HQ.out hne ho); have HN := Lib.hid (HN.out.got ho hr); have q0 := cell_at (j := 0) HQ.out rfl; have q1 := cell_at (j := 1) HQ.out rfl; clear ho hr)
      | (go_at_call 71; refine (up_any _ _ hwn _).mono ?_; rintro e w3 ⟨rfl, hb3⟩; have HN := Lib.hid (HN.out.step hb3); have HQ := Lib.hid (box_keep HQ.out hb3); have q0 := cell_at (j := 0) HQ.out rfl; have q1 := cell_at (j := 1) HQ.out rfl; clear hb3))
  all_goals go_wp2_with (first
    | (go_at_call 73; refine (HA.out _ HN.out.rd.low).mono ?_; rintro e w5 ⟨rfl, hb5⟩; have HN := Lib.hid (HN.out.step hb5); clear hb5)
    | (go_at_call 20; refine (stopIf_ok _ _).mono ?_; rintro e w6 ⟨rfl, rfl⟩))
  all_goals go_ret
  all_goals exact ⟨rfl, HN.out.only, HN.out.rd⟩
theorem rnum_bad {w0 w : World} {c a : Nat} {b : ByteArray} (ao : Option Addr) (len cap : Nat) (L : Nat → TypeV) (hlen : len ≤ 1000000) (H : ∀ i, i < len → TypeAt w0 ao i (L i)) (t : Nat) (ht : t < len) (hk : numK (L t).kind = true) (h : RdAt w0 c b a w) (hs : b.size ≤ 281474976710656) (h0 : nE L t b a ≠ 0) :
    Calls Tryz.prog 44 #[.agg #[.slice ao len cap, .pointer (some ⟨c, 0, none⟩)], .int .i64 t] w (BadTo c (nE L t b a) w) := by
  by_cases c0 : tkE b a (szK (L t).kind) = 0
  · cases c1 : numOk L t (nN L t b a) with
    | false => exact rnum_b2 ao len cap L hlen H t ht hk h hs c0 c1
    | true =>
      exfalso
      apply h0
      unfold nE
      rw [if_neg (by rw [c0]; decide), c1]
      rfl
  · exact rnum_b1 ao len cap L hlen H t ht hk h hs c0
theorem rnum_ok {w0 w : World} {c a : Nat} {b : ByteArray} (ao : Option Addr) (len cap : Nat) (L : Nat → TypeV) (hlen : len ≤ 1000000) (H : ∀ i, i < len → TypeAt w0 ao i (L i)) (t : Nat) (ht : t < len) (hk : numK (L t).kind = true) (h : RdAt w0 c b a w) (hs : b.size ≤ 281474976710656) (h0 : nE L t b a = 0) :
    Calls Tryz.prog 44 #[.agg #[.slice ao len cap, .pointer (some ⟨c, 0, none⟩)], .int .i64 t] w (GotTo w0 c b (nA L t b a) (.int .u64 (nN L t b a)) w) := by
  by_cases c0 : tkE b a (szK (L t).kind) = 0
  · cases c1 : numOk L t (nN L t b a) with
    | true => exact rnum_b3 ao len cap L hlen H t ht hk h hs c0 c1
    | false =>
      exfalso
      unfold nE at h0
      rw [if_neg (by rw [c0]; decide), c1] at h0
      cases h0
  · exfalso
    unfold nE at h0
    rw [if_pos c0] at h0
    exact c0 h0
set_option maxHeartbeats 1000000 in
theorem rbranch_any (ao : Option Addr) (len cap c : Nat) (L : Nat → TypeV) (hlen : len ≤ 1000000) (t : Nat) (ht : t < len) (n : Int) (hcp : (L t).ilen ≤ (L t).icap) (w : World) (H : ∀ i, i < len → TypeAt w ao i (L i)) :
    Calls Tryz.prog 45 #[.agg #[.slice ao len cap, .pointer (some ⟨c, 0, none⟩)], .int .i64 t, .int .u64 n] w fun e w' =>
      ∃ a c, e = .returned (.slice a (brN (L t) n) c) ∧ (∀ i, i < brN (L t) n → ItemAt w' a i ((L t).items ((branchZ (L t) n).toNat + i))) ∧ Below w.heap.size w w' := by
  have hv := fun wx (hb : Below w.heap.size w wx) => branch6_any ao len cap L t n (by omega) wx (hold H hb)
  have e1 : branchL L len (t : Nat) n = branchZ (L t) n := by unfold branchL; rw [inL_yes ht]; rfl
  rw [e1] at hv
  have hlt := branchZ_lt (T := L t) (n := n)
  have HB := Lib.hid ((Below.refl w.heap.size w).alloc (Nat.le_refl _) (rdO ao len cap c))
  have HQ := Lib.hid (alloc_at w (rdO ao len cap c))
  obtain ⟨b, off, rfl, c0, c1, c2, c3, c4, c5, wf, hi⟩ := H t ht
  have HI := Lib.hid hi
  obtain ⟨T, hT⟩ : ∃ T, L t = T := ⟨_, rfl⟩
  rw [hT] at hv hlt c5 HI hcp ⊢
  obtain ⟨z, hz⟩ : ∃ z, branchZ T n = z := ⟨_, rfl⟩
  have HN := Lib.hid (show brN T n = if okZ z then 1 else 0 by unfold brN; rw [hz])
  rw [hz] at hv hlt ⊢
  unfold foundV at hv
  have hil := hi.1
  have c5 := keep HB.out c5
  have hbl := World.block_lt_of_cell? _ _ c5
  clear hi H wf c0 c1 c2 c3 c4 e1 hT hz
  by_cases h0 : 0 ≤ z
  · have ho : okZ z = true := by unfold okZ; simpa using h0
    have hp : posZ z = z := by unfold posZ; rw [if_neg (by omega)]
    have e : brN T n = 1 := by rw [HN.out, ho]; rfl
    rw [e]
    rw [ho, hp] at hv
    obtain ⟨k, rfl⟩ := Int.eq_ofNat_of_zero_le h0
    have hk : k < T.ilen := by have := hlt h0; omega
    obtain ⟨ib, io, hia, i0, i1, i2, i3, i4, iw⟩ := HI.out.2 k hk
    have HX := Lib.hid (show ItemAt w T.ia k (T.items k) from HI.out.2 k hk)
    rw [hia] at c5
    have HA := Lib.hid hia
    have HV := Lib.hid hv
    have hk1 : k + 1 ≤ T.icap := by omega
    have hil : T.ilen ≤ 3518437208780 := HI.out.1
    clear hv ho hp e HN hlt h0 i0 i1 i2 i3 i4 hia
    go_enter Tryz.func45, Tryz.ntmps45
    go_wp2_with (go_at_call 74; refine (HV.out _ HB.out).mono ?_; rintro e w2 ⟨rfl, hb2⟩; have HB2 := Lib.hid (below_step8' HB.out hb2); have c5 := keep hb2 (by exact c5); have q0 := cell_at (j := 0) (box_keep HQ.out hb2) rfl; clear hb2)
    go_ret
    refine ⟨some ⟨ib, io + k * 5, none⟩, T.icap - k, rfl, fun i hi => ?_, HB2.out⟩
    obtain rfl : i = 0 := by omega
    rw [Int.toNat_natCast, Nat.add_zero]
    have hx := HX.out.held HB2.out
    rw [HA.out] at hx
    exact itemAt_shift hx
  · have ho : okZ z = false := by unfold okZ; simpa using h0
    have e : brN T n = 0 := by rw [HN.out, ho]; rfl
    rw [e]
    rw [ho] at hv
    have HV := Lib.hid hv
    clear hv ho e HN hlt h0
    go_enter Tryz.func45, Tryz.ntmps45
    go_wp2_with (go_at_call 74; refine (HV.out _ HB.out).mono ?_; rintro e w2 ⟨rfl, hb2⟩; have HB2 := Lib.hid (below_step8' HB.out hb2); clear hb2)
    go_ret
    exact ⟨none, 0, rfl, fun i hi => absurd hi (Nat.not_lt_zero i), HB2.out⟩
end Go.Proofs.YtmnemddagcfjgaaGreatDoor
