/- The reference's operand. -/
import Derived.Test.YtjgdkiikkgdbaaaGreatDoorQ50
namespace Go.Proofs.YtjgdkiikkgdbaaaGreatDoor
open Go.RowKit
set_option linter.unusedVariables false
theorem put44 {W : World} {rb sb : Nat} {o0 o1 o2 o3 q0 q1 q2 q3 : Value} {t u : TypeId} (hr : W.heap[rb]? = some (.cells #[o0, o1, o2, o3] t)) (hs : W.heap[sb]? = some (.cells #[q0, q1, q2, q3] u)) (hne : rb ≠ sb) (a0 a1 a2 a3 c0 c1 c2 c3 : Value) :
    (set4 (set4 W rb a0 a1 a2 a3) sb c0 c1 c2 c3).heap[rb]? = some (.cells #[a0, a1, a2, a3] t) ∧ (set4 (set4 W rb a0 a1 a2 a3) sb c0 c1 c2 c3).heap[sb]? = some (.cells #[c0, c1, c2, c3] u) := by
  have h4 := put4 hr a0 a1 a2 a3
  have h5 := (only4 (b := rb) (S := fun k => k = rb) (Only.refl _ W) (.inl rfl) a0 a1 a2 a3).same hs (fun e => hne e.symm)
  generalize set4 W rb a0 a1 a2 a3 = V at *
  exact ⟨(only4 (b := sb) (S := fun k => k = sb) (Only.refl _ V) (.inl rfl) c0 c1 c2 c3).same h4 hne, put4 h5 _ _ _ _⟩
theorem drew_heap (w : World) : w.drew.heap = w.heap := rfl
theorem put44d {W : World} {rb sb : Nat} {o0 o1 o2 o3 q0 q1 q2 q3 : Value} {t u : TypeId} (hr : W.heap[rb]? = some (.cells #[o0, o1, o2, o3] t)) (hs : W.heap[sb]? = some (.cells #[q0, q1, q2, q3] u)) (hne : rb ≠ sb) (a0 a1 a2 a3 c0 c1 c2 c3 : Value) :
    (set4 (set4 W rb a0 a1 a2 a3) sb c0 c1 c2 c3).drew.heap[rb]? = some (.cells #[a0, a1, a2, a3] t) ∧ (set4 (set4 W rb a0 a1 a2 a3) sb c0 c1 c2 c3).drew.heap[sb]? = some (.cells #[c0, c1, c2, c3] u) := by
  rw [drew_heap]
  exact put44 hr hs hne a0 a1 a2 a3 c0 c1 c2 c3
theorem below44 {w W : World} {N rb sb : Nat} (hB : Below N w W) (hr : N ≤ rb) (hs : N ≤ sb) (a0 a1 a2 a3 c0 c1 c2 c3 : Value) : Below N w (set4 (set4 W rb a0 a1 a2 a3) sb c0 c1 c2 c3) := below4 (below4 hB hr _ _ _ _) hs _ _ _ _
/-- a store into an own box that has just been made -/
theorem RSt.put1 {w wr : World} {tb off : Nat} {L : List Tk} {z n e a : Int} {zs : List (Nat × Obj)} {b : Nat} {o0 o1 o2 o3 : Value} {t : TypeId} (h : RSt w tb off L z n e a ((b, .cells #[o0, o1, o2, o3] t) :: zs) wr) (hz : ∀ p ∈ zs, p.1 ≠ b) (a0 a1 a2 a3 : Value) :
    RSt w tb off L z n e a ((b, .cells #[a0, a1, a2, a3] t) :: zs) (set4 wr b a0 a1 a2 a3) := by
  have h0 := h.own _ List.mem_cons_self
  have ho := only4 (b := b) (S := fun k => k = b) (Only.refl _ wr) (.inl rfl) a0 a1 a2 a3
  have hlt : w.heap.size < b := h0.2
  refine ⟨h.be.trans (ho.below (fun k hk => by omega) h.be.size), ho.same h.box (by omega), fun p hp => ?_, h.lat⟩
  rcases List.mem_cons.1 hp with rfl | hp
  · exact ⟨put4 h0.1 _ _ _ _, h0.2⟩
  · have := h.own p (List.mem_cons_of_mem _ hp)
    exact ⟨ho.same this.1 (hz p hp), this.2⟩
def OpdTo (L : List Tk) (r : PR Opd) (n : Int) (w : World) (x : Ending) (w' : World) : Prop := ∃ (o : Opd) (z' e' a' : Int), x = .returned (.tuple #[.agg #[.int .i64 o.kind, .string o.text, .bool o.neg, .int .u64 o.num], pV z' n e' a']) ∧ Stt L r z' e' a' ∧ (∀ o' l', r = .ok o' l' → o = o') ∧ Below w.heap.size w w'
theorem endROpd {V : World} {act : Act} {Q : Ending → World → Prop} {a0 a1 a2 a3 : Value} {z n e a : Int} (hd : act.defers = []) (rb sb : Nat) (h1 : act.tmps.getD 4 undef = .pointer (some ⟨rb, 0, none⟩)) (h2 : act.tmps.getD 5 undef = .pointer (some ⟨sb, 0, none⟩)) (hr : V.heap[rb]? = some (.cells #[a0, a1, a2, a3] 34) ∧ V.heap[sb]? = some (pO z n e a))
    (hQ : Q (.returned (.tuple #[.agg #[a0, a1, a2, a3], pV z n e a])) V) : bodyPost Tryz.prog Tryz.f115 Q Exit.ret act V := by
  refine bodyPost_ret (v := .tuple #[.agg #[a0, a1, a2, a3], pV z n e a]) ?_ hd hQ
  have hl1 := run_loadVar_row (P := Tryz.prog) V rb 34 34 #[a0, a1, a2, a3] _ _ hr.1 Tryz.underlying34 rfl (by kernel_rfl)
  have hl2 := run_loadVar_row (P := Tryz.prog) V sb 80 80 #[.int .i64 z, .int .i64 n, .int .i64 e, .int .i64 a] _ _ hr.2 Tryz.underlying80 rfl (by kernel_rfl)
  rw [Array.getD_eq_getD_getElem?] at h1 h2
  simp [results, Tryz.results115, asAddr, hl1, hl2, h1, h2]
set_option maxRecDepth 100000 in
set_option maxHeartbeats 4000000 in
theorem ropd_dead {e0 : Nat} {l0 : List Tk} {z e a : Int} {L : List Tk} {tb off cap : Nat} {n : Int} {w : World} (hL : LAt w tb off L) (hv : Vd L) (hl99 : L.length ≤ 99) (hS : Stt L (PR.err e0 l0 : PR Opd) z e a) (he : e ≠ 0) :
    Calls Tryz.prog 115 #[.slice (some ⟨tb, off, none⟩) L.length cap, pV z n e a] w (OpdTo L (.err e0 l0) n w) := by
  have HS0 := Lib.hid (((RSt.start hL z n e a).new (.cells #[.int .i64 0, .string ⟨#[]⟩, .bool false, .int .u64 0] 34)).new (pO 0 0 0 0))
  have hz1 : (w.alloc (pO z n e a)).heap.size = w.heap.size + 1 := by simp
  have hz2 : ((w.alloc (pO z n e a)).alloc (.cells #[.int .i64 0, .string ⟨#[]⟩, .bool false, .int .u64 0] 34)).heap.size = w.heap.size + 1 + 1 := by simp
  rw [hz1, hz2] at HS0
  clear hz1 hz2
  have q0 : (e != 0) = true := by simpa using he
  have HST := Lib.hid hS
  clear hS he
  go_enter Tryz.func115, Tryz.ntmps115
  go_upto_region 1 with (fail)
  generalize ((w.alloc (pO z n e a)).alloc (.cells #[.int .i64 0, .string ⟨#[]⟩, .bool false, .int .u64 0] 34)).alloc (pO 0 0 0 0) = W at *
  have hbx := HS0.out.box
  obtain ⟨p0, fp0, p1, fp1, p2, fp2, p3, fp3⟩ := bf4 hbx
  clear hbx
  have hr := (HS0.out.own _ (List.mem_cons_of_mem _ List.mem_cons_self)).1
  obtain ⟨r0, fr0, r1, fr1, r2, fr2, r3, fr3⟩ := bf4 hr
  clear hr
  have hr := (HS0.out.own _ List.mem_cons_self).1
  obtain ⟨s0, fs0, s1, fs1, s2, fs2, s3, fs3⟩ := bf4 hr
  clear hr
  go_upto_region 2 with (fail)
  go_region
  all_goals go_wp2_with (fail)
  all_goals
    refine endROpd rfl (w.heap.size + 1) (w.heap.size + 1 + 1) rfl rfl (put44d (HS0.out.own _ (List.mem_cons_of_mem _ List.mem_cons_self)).1 (HS0.out.own _ List.mem_cons_self).1 (by omega) _ _ _ _ _ _ _ _) ⟨⟨0, ⟨#[]⟩, false, 0⟩, _, _, _, rfl, HST.out, (fun o' l' h => by cases h), ?_⟩
    exact (below44 HS0.out.be (by omega) (by omega) _ _ _ _ _ _ _ _).drew
set_option maxRecDepth 100000 in
set_option maxHeartbeats 4000000 in
theorem ropd_minus {L : List Tk} {tb off cap : Nat} {n : Int} {w : World} (hL : LAt w tb off L) (hv : Vd L) (hl99 : L.length ≤ 99) {m : List Tk} {i : Nat} (hi : i < L.length) (hmi : L.drop i = m) (hmm : cMinus.test (hd m) = true) (hk : (hd m.tail).k = 2) :
    Calls Tryz.prog 115 #[.slice (some ⟨tb, off, none⟩) L.length cap, pV ((i : Nat) : Int) n 0 0] w (OpdTo L (operandP m) n w) := by
  have hst : Stt L (PR.ok () m) ((i : Nat) : Int) 0 0 := ⟨i, rfl, hi, hmi, rfl, rfl⟩
  have htbw := hL.lt
  have htb : ¬ tb = w.heap.size := by omega
  have htc : ¬ w.heap.size = tb := by omega
  have htb1 : ¬ tb = w.heap.size + 1 := by omega
  have htb2 : ¬ tb = w.heap.size + 1 + 1 := by omega
  have HS0 := Lib.hid (((RSt.start hL ((i : Nat) : Int) n 0 0).new (.cells #[.int .i64 0, .string ⟨#[]⟩, .bool false, .int .u64 0] 34)).new (pO 0 0 0 0))
  have hz1 : (w.alloc (pO ((i : Nat) : Int) n 0 0)).heap.size = w.heap.size + 1 := by simp
  have hz2 : ((w.alloc (pO ((i : Nat) : Int) n 0 0)).alloc (.cells #[.int .i64 0, .string ⟨#[]⟩, .bool false, .int .u64 0] 34)).heap.size = w.heap.size + 1 + 1 := by simp
  rw [hz1, hz2] at HS0
  clear hz1 hz2
  have HMI := Lib.hid (show ∀ wx, LAt wx tb off L → Calls Tryz.prog 57 #[.slice (some ⟨tb, off, none⟩) L.length cap, .agg #[.int .i64 (i : Nat), .int .i64 n, .int .i64 0, .int .i64 0], .int .i64 5, .string ⟨#[45]⟩] wx fun x w' => x = .returned (.bool true) ∧ Below wx.heap.size wx w' from fun wx h => by have h2 := ris_sg (r := PR.ok () m) (cap := cap) (n := n) [45] h hl99 hst; rw [show isR (PR.ok () m) (.sg [45]) = true from hmm] at h2; exact h2)
  have hst1 := hst.inc hv (c := cMinus) trivial hmm
  obtain ⟨j1, hj1, hi1, hm1, _, _⟩ := hst1.ok_of
  obtain rfl : j1 = i + 1 := by omega
  obtain ⟨T, hT⟩ : ∃ T, hd m.tail = T := ⟨_, rfl⟩
  have HTK := Lib.hid (fun wx (h : LAt wx tb off L) => show LiesAt wx tb (off + (i + 1) * 4) (tkCs T) from by have := h.tok hi1; rwa [hm1, hT] at this)
  rw [hT] at hk
  have hk2 : (((T.k : Nat) : Int) != 2) = false := by rw [show (((T.k : Nat) : Int) != 2) = !(((T.k : Nat) : Int) == 2) from rfl, show (((T.k : Nat) : Int) == 2) = true from by rw [beq_iff_eq]; omega]; rfl
  have hst2 := hst1.inc hv (c := .kd 2) (by simp [Cl.inner]) (by rw [hT, kd_eq, hk]; rfl)
  have hop : operandP m = .ok ⟨2, ⟨#[]⟩, true, ((T.n : Nat) : Int)⟩ m.tail.tail := by
    rw [opd_minus hmm]; unfold numP; rw [if_pos (by rw [hT, kd_eq, hk]; rfl), hT]
  have HST := Lib.hid (show Stt L (operandP m) (((i : Nat) : Int) + 1 + 1) 0 0 from by rw [hop]; exact hst2)
  have HOP := Lib.hid hop
  clear hst hst1 hst2 hop hmm hk hT hm1 hj1 hmi hL hv
  go_enter Tryz.func115, Tryz.ntmps115
  go_upto_region 1 with (fail)
  generalize ((w.alloc (pO ((i : Nat) : Int) n 0 0)).alloc (.cells #[.int .i64 0, .string ⟨#[]⟩, .bool false, .int .u64 0] 34)).alloc (pO 0 0 0 0) = W at *
  have hbx := HS0.out.box
  obtain ⟨p0, fp0, p1, fp1, p2, fp2, p3, fp3⟩ := bf4 hbx
  clear hbx
  have hr := (HS0.out.own _ (List.mem_cons_of_mem _ List.mem_cons_self)).1
  obtain ⟨r0, fr0, r1, fr1, r2, fr2, r3, fr3⟩ := bf4 hr
  clear hr
  have hr := (HS0.out.own _ List.mem_cons_self).1
  obtain ⟨s0, fs0, s1, fs1, s2, fs2, s3, fs3⟩ := bf4 hr
  clear hr
  go_upto_region 7 with (first
    | (go_at_call 57; (with_reducible refine (HMI.out _ HS0.out.at).mono ?_); rintro x w2 ⟨rfl, hb2⟩; have HS2 := Lib.hid (HS0.out.next hb2); have hbx := HS2.out.box; obtain ⟨p0, fp0, p1, fp1, p2, fp2, p3, fp3⟩ := bf4 hbx; clear hbx; have hr := (HS2.out.own _ (List.mem_cons_of_mem _ List.mem_cons_self)).1; obtain ⟨r0, fr0, r1, fr1, r2, fr2, r3, fr3⟩ := bf4 hr; clear hr; have hr := (HS2.out.own _ List.mem_cons_self).1; obtain ⟨s0, fs0, s1, fs1, s2, fs2, s3, fs3⟩ := bf4 hr; clear hr; have hh := HTK.out _ HS2.out.at; have t0 : w2.cell? ⟨tb, off + (i + 1) * 4, none⟩ = some (.int .i64 ((T.k : Nat) : Int)) := hh 0 _ rfl; have t1 : w2.cell? ⟨tb, off + (i + 1) * 4 + 1, none⟩ = some (.string (bs T.t)) := hh 1 _ rfl; have t2 : w2.cell? ⟨tb, off + (i + 1) * 4 + 2, none⟩ = some (.int .u64 ((T.n : Nat) : Int)) := hh 2 _ rfl; have t3 : w2.cell? ⟨tb, off + (i + 1) * 4 + 3, none⟩ = some (.int .i64 ((T.a : Nat) : Int)) := hh 3 _ rfl; clear hh; clear hb2))
  have HS3 := Lib.hid (HS2.out.inc (((i : Nat) : Int) + 1))
  generalize w2.setCell ⟨w.heap.size, 0, none⟩ (.int .i64 (((i : Nat) : Int) + 1)) = V at *
  have hbx := HS3.out.box; obtain ⟨p0, fp0, p1, fp1, p2, fp2, p3, fp3⟩ := bf4 hbx; clear hbx; have hr := (HS3.out.own _ (List.mem_cons_of_mem _ List.mem_cons_self)).1; obtain ⟨r0, fr0, r1, fr1, r2, fr2, r3, fr3⟩ := bf4 hr; clear hr; have hr := (HS3.out.own _ List.mem_cons_self).1; obtain ⟨s0, fs0, s1, fs1, s2, fs2, s3, fs3⟩ := bf4 hr; clear hr
  have hh := HTK.out _ HS3.out.at
  have v0 : V.cell? ⟨tb, off + (i + 1) * 4, none⟩ = some (.int .i64 ((T.k : Nat) : Int)) := hh 0 _ rfl; have v1 : V.cell? ⟨tb, off + (i + 1) * 4 + 1, none⟩ = some (.string (bs T.t)) := hh 1 _ rfl; have v2 : V.cell? ⟨tb, off + (i + 1) * 4 + 2, none⟩ = some (.int .u64 ((T.n : Nat) : Int)) := hh 2 _ rfl; have v3 : V.cell? ⟨tb, off + (i + 1) * 4 + 3, none⟩ = some (.int .i64 ((T.a : Nat) : Int)) := hh 3 _ rfl
  clear hh
  go_region
  all_goals
    have hP := put44d (HS3.out.own _ (List.mem_cons_of_mem _ List.mem_cons_self)).1 (HS3.out.own _ List.mem_cons_self).1 (by omega) (.int .i64 2) (.string ⟨#[]⟩) (.bool true) (.int .u64 ((T.n : Nat) : Int)) (.int .i64 (((i : Nat) : Int) + 1 + 1)) (.int .i64 n) (.int .i64 0) (.int .i64 0)
    have hB := (below44 (rb := w.heap.size + 1) (sb := w.heap.size + 1 + 1) HS3.out.be (by omega) (by omega) (.int .i64 2) (.string ⟨#[]⟩) (.bool true) (.int .u64 ((T.n : Nat) : Int)) (.int .i64 (((i : Nat) : Int) + 1 + 1)) (.int .i64 n) (.int .i64 0) (.int .i64 0)).drew
    generalize (set4 (set4 V (w.heap.size + 1) (.int .i64 2) (.string ⟨#[]⟩) (.bool true) (.int .u64 ((T.n : Nat) : Int))) (w.heap.size + 1 + 1) (.int .i64 (((i : Nat) : Int) + 1 + 1)) (.int .i64 n) (.int .i64 0) (.int .i64 0)).drew = VV at hP hB ⊢
    have hE := fun (act : Act) h1 h2 h3 => endROpd (Q := OpdTo L (operandP m) n w) (act := act) h1 (w.heap.size + 1) (w.heap.size + 1 + 1) h2 h3 hP ⟨⟨2, ⟨#[]⟩, true, ((T.n : Nat) : Int)⟩, _, _, _, rfl, HST.out, (fun o' l' h => by rw [HOP.out] at h; injection h), hB⟩
    first
      | (rename_i hKK; refine hKK _ _ (wp_ret ?_); exact hE _ rfl rfl rfl)
      | (go_wp2_with (fail); exact hE _ rfl rfl rfl)
set_option maxRecDepth 100000 in
set_option maxHeartbeats 4000000 in
theorem ropd_minusno {L : List Tk} {tb off cap : Nat} {n : Int} {w : World} (hL : LAt w tb off L) (hv : Vd L) (hl99 : L.length ≤ 99) {m : List Tk} {i : Nat} (hi : i < L.length) (hmi : L.drop i = m) (hmm : cMinus.test (hd m) = true) (hk : (hd m.tail).k ≠ 2) :
    Calls Tryz.prog 115 #[.slice (some ⟨tb, off, none⟩) L.length cap, pV ((i : Nat) : Int) n 0 0] w (OpdTo L (operandP m) n w) := by
  have hst : Stt L (PR.ok () m) ((i : Nat) : Int) 0 0 := ⟨i, rfl, hi, hmi, rfl, rfl⟩
  have htbw := hL.lt
  have htb : ¬ tb = w.heap.size := by omega
  have htc : ¬ w.heap.size = tb := by omega
  have htb1 : ¬ tb = w.heap.size + 1 := by omega
  have htb2 : ¬ tb = w.heap.size + 1 + 1 := by omega
  have HS0 := Lib.hid (((RSt.start hL ((i : Nat) : Int) n 0 0).new (.cells #[.int .i64 0, .string ⟨#[]⟩, .bool false, .int .u64 0] 34)).new (pO 0 0 0 0))
  have hz1 : (w.alloc (pO ((i : Nat) : Int) n 0 0)).heap.size = w.heap.size + 1 := by simp
  have hz2 : ((w.alloc (pO ((i : Nat) : Int) n 0 0)).alloc (.cells #[.int .i64 0, .string ⟨#[]⟩, .bool false, .int .u64 0] 34)).heap.size = w.heap.size + 1 + 1 := by simp
  rw [hz1, hz2] at HS0
  clear hz1 hz2
  have HMI := Lib.hid (show ∀ wx, LAt wx tb off L → Calls Tryz.prog 57 #[.slice (some ⟨tb, off, none⟩) L.length cap, .agg #[.int .i64 (i : Nat), .int .i64 n, .int .i64 0, .int .i64 0], .int .i64 5, .string ⟨#[45]⟩] wx fun x w' => x = .returned (.bool true) ∧ Below wx.heap.size wx w' from fun wx h => by have h2 := ris_sg (r := PR.ok () m) (cap := cap) (n := n) [45] h hl99 hst; rw [show isR (PR.ok () m) (.sg [45]) = true from hmm] at h2; exact h2)
  have hst1 := hst.inc hv (c := cMinus) trivial hmm
  obtain ⟨j1, hj1, hi1, hm1, _, _⟩ := hst1.ok_of
  obtain rfl : j1 = i + 1 := by omega
  obtain ⟨T, hT⟩ : ∃ T, hd m.tail = T := ⟨_, rfl⟩
  have HTK := Lib.hid (fun wx (h : LAt wx tb off L) => show LiesAt wx tb (off + (i + 1) * 4) (tkCs T) from by have := h.tok hi1; rwa [hm1, hT] at this)
  rw [hT] at hk
  have hk2 : (((T.k : Nat) : Int) != 2) = true := by rw [show (((T.k : Nat) : Int) != 2) = !(((T.k : Nat) : Int) == 2) from rfl, show (((T.k : Nat) : Int) == 2) = false from by rw [beq_eq_false_iff_ne]; omega]; rfl
  have hop : operandP m = .err 11 m.tail := by
    rw [opd_minus hmm]; unfold numP; rw [if_neg (by rw [hT, kd_eq]; simpa using hk)]
  have HBD := Lib.hid (fun wx (h : LAt wx tb off L) => rbad_any (r := PR.ok () m.tail) (cap := cap) (n := n) 11 (by decide) h hl99 hst1)
  rw [hop]
  clear hst hst1 hop hmm hk hT hm1 hj1 hmi hL hv
  go_enter Tryz.func115, Tryz.ntmps115
  go_upto_region 1 with (fail)
  generalize ((w.alloc (pO ((i : Nat) : Int) n 0 0)).alloc (.cells #[.int .i64 0, .string ⟨#[]⟩, .bool false, .int .u64 0] 34)).alloc (pO 0 0 0 0) = W at *
  have hbx := HS0.out.box
  obtain ⟨p0, fp0, p1, fp1, p2, fp2, p3, fp3⟩ := bf4 hbx
  clear hbx
  have hr := (HS0.out.own _ (List.mem_cons_of_mem _ List.mem_cons_self)).1
  obtain ⟨r0, fr0, r1, fr1, r2, fr2, r3, fr3⟩ := bf4 hr
  clear hr
  have hr := (HS0.out.own _ List.mem_cons_self).1
  obtain ⟨s0, fs0, s1, fs1, s2, fs2, s3, fs3⟩ := bf4 hr
  clear hr
  go_wp2_with (first
    | (go_at_call 37; refine (HBD.out _ (HS2.out.inc (((i : Nat) : Int) + 1)).at).mono ?_; rintro x w3 ⟨e', a', rfl, hs3, hb3⟩; have HS3 := Lib.hid ((HS2.out.inc (((i : Nat) : Int) + 1)).next hb3); have HST := Lib.hid hs3; have hr := (HS3.out.own _ (List.mem_cons_of_mem _ List.mem_cons_self)).1; obtain ⟨r0, fr0, r1, fr1, r2, fr2, r3, fr3⟩ := bf4 hr; clear hr; have hr := (HS3.out.own _ List.mem_cons_self).1; obtain ⟨s0, fs0, s1, fs1, s2, fs2, s3, fs3⟩ := bf4 hr; clear hr; clear hb3 hs3)
    | (go_at_call 57; (with_reducible refine (HMI.out _ HS0.out.at).mono ?_); rintro x w2 ⟨rfl, hb2⟩; have HS2 := Lib.hid (HS0.out.next hb2); have hbx := HS2.out.box; obtain ⟨p0, fp0, p1, fp1, p2, fp2, p3, fp3⟩ := bf4 hbx; clear hbx; have hr := (HS2.out.own _ (List.mem_cons_of_mem _ List.mem_cons_self)).1; obtain ⟨r0, fr0, r1, fr1, r2, fr2, r3, fr3⟩ := bf4 hr; clear hr; have hr := (HS2.out.own _ List.mem_cons_self).1; obtain ⟨s0, fs0, s1, fs1, s2, fs2, s3, fs3⟩ := bf4 hr; clear hr; have hh := HTK.out _ HS2.out.at; have t0 : w2.cell? ⟨tb, off + (i + 1) * 4, none⟩ = some (.int .i64 ((T.k : Nat) : Int)) := hh 0 _ rfl; have t1 : w2.cell? ⟨tb, off + (i + 1) * 4 + 1, none⟩ = some (.string (bs T.t)) := hh 1 _ rfl; have t2 : w2.cell? ⟨tb, off + (i + 1) * 4 + 2, none⟩ = some (.int .u64 ((T.n : Nat) : Int)) := hh 2 _ rfl; have t3 : w2.cell? ⟨tb, off + (i + 1) * 4 + 3, none⟩ = some (.int .i64 ((T.a : Nat) : Int)) := hh 3 _ rfl; clear hh; clear hb2))
  refine endROpd rfl (w.heap.size + 1) (w.heap.size + 1 + 1) rfl rfl (put44 (HS3.out.own _ (List.mem_cons_of_mem _ List.mem_cons_self)).1 (HS3.out.own _ List.mem_cons_self).1 (by omega) _ _ _ _ _ _ _ _) ⟨⟨0, ⟨#[]⟩, false, 0⟩, _, _, _, rfl, HST.out.rest rfl, (fun o' l' h => by cases h), ?_⟩
  exact (below44 HS3.out.be (by omega) (by omega) _ _ _ _ _ _ _ _)
set_option maxRecDepth 100000 in
set_option maxHeartbeats 4000000 in
theorem ropd_num {L : List Tk} {tb off cap : Nat} {n : Int} {w : World} (hL : LAt w tb off L) (hv : Vd L) (hl99 : L.length ≤ 99) {m : List Tk} {i : Nat} (hi : i < L.length) (hmi : L.drop i = m) (hmm : cMinus.test (hd m) = false) (hk : (hd m).k = 2) :
    Calls Tryz.prog 115 #[.slice (some ⟨tb, off, none⟩) L.length cap, pV ((i : Nat) : Int) n 0 0] w (OpdTo L (operandP m) n w) := by
  have hst : Stt L (PR.ok () m) ((i : Nat) : Int) 0 0 := ⟨i, rfl, hi, hmi, rfl, rfl⟩
  have htbw := hL.lt
  have htb : ¬ tb = w.heap.size := by omega
  have htc : ¬ w.heap.size = tb := by omega
  have htb1 : ¬ tb = w.heap.size + 1 := by omega
  have htb2 : ¬ tb = w.heap.size + 1 + 1 := by omega
  have HS0 := Lib.hid (((RSt.start hL ((i : Nat) : Int) n 0 0).new (.cells #[.int .i64 0, .string ⟨#[]⟩, .bool false, .int .u64 0] 34)).new (pO 0 0 0 0))
  have hz1 : (w.alloc (pO ((i : Nat) : Int) n 0 0)).heap.size = w.heap.size + 1 := by simp
  have hz2 : ((w.alloc (pO ((i : Nat) : Int) n 0 0)).alloc (.cells #[.int .i64 0, .string ⟨#[]⟩, .bool false, .int .u64 0] 34)).heap.size = w.heap.size + 1 + 1 := by simp
  rw [hz1, hz2] at HS0
  clear hz1 hz2
  have HMI := Lib.hid (show ∀ wx, LAt wx tb off L → Calls Tryz.prog 57 #[.slice (some ⟨tb, off, none⟩) L.length cap, .agg #[.int .i64 (i : Nat), .int .i64 n, .int .i64 0, .int .i64 0], .int .i64 5, .string ⟨#[45]⟩] wx fun x w' => x = .returned (.bool false) ∧ Below wx.heap.size wx w' from fun wx h => by have h2 := ris_sg (r := PR.ok () m) (cap := cap) (n := n) [45] h hl99 hst; rw [show isR (PR.ok () m) (.sg [45]) = false from hmm] at h2; exact h2)
  obtain ⟨T, hT⟩ : ∃ T, hd m = T := ⟨_, rfl⟩
  have HTK := Lib.hid (fun wx (h : LAt wx tb off L) => show LiesAt wx tb (off + i * 4) (tkCs T) from by have := h.tok hi; rwa [hmi, hT] at this)
  have hop := opd_num hk
  rw [hT] at hop hk
  have hst2 := hst.inc hv (c := .kd 2) (by simp [Cl.inner]) (by rw [hT, kd_eq, hk]; rfl)
  have HST := Lib.hid (show Stt L (operandP m) (((i : Nat) : Int) + 1) 0 0 from by rw [hop]; exact hst2)
  have HOP := Lib.hid hop
  clear hop hst2
  have k2 : (((T.k : Nat) : Int) == 2) = true := by rw [beq_iff_eq]; omega
  have k3 : (((T.k : Nat) : Int) == 3) = false := by rw [beq_eq_false_iff_ne]; omega
  have k4 : (((T.k : Nat) : Int) == 4) = false := by rw [beq_eq_false_iff_ne]; omega
  have k1 : (((T.k : Nat) : Int) == 1) = false := by rw [beq_eq_false_iff_ne]; omega
  clear hk
  clear hst hmm hT hmi hL hv
  go_enter Tryz.func115, Tryz.ntmps115
  go_upto_region 1 with (fail)
  generalize ((w.alloc (pO ((i : Nat) : Int) n 0 0)).alloc (.cells #[.int .i64 0, .string ⟨#[]⟩, .bool false, .int .u64 0] 34)).alloc (pO 0 0 0 0) = W at *
  have hbx := HS0.out.box
  obtain ⟨p0, fp0, p1, fp1, p2, fp2, p3, fp3⟩ := bf4 hbx
  clear hbx
  have hr := (HS0.out.own _ (List.mem_cons_of_mem _ List.mem_cons_self)).1
  obtain ⟨r0, fr0, r1, fr1, r2, fr2, r3, fr3⟩ := bf4 hr
  clear hr
  have hr := (HS0.out.own _ List.mem_cons_self).1
  obtain ⟨s0, fs0, s1, fs1, s2, fs2, s3, fs3⟩ := bf4 hr
  clear hr
  go_upto_region 8 with (first
    | (go_at_call 57; (with_reducible refine (HMI.out _ HS0.out.at).mono ?_); rintro x w2 ⟨rfl, hb2⟩; have HS2 := Lib.hid (HS0.out.next hb2); have hbx := HS2.out.box; obtain ⟨p0, fp0, p1, fp1, p2, fp2, p3, fp3⟩ := bf4 hbx; clear hbx; have hr := (HS2.out.own _ (List.mem_cons_of_mem _ List.mem_cons_self)).1; obtain ⟨r0, fr0, r1, fr1, r2, fr2, r3, fr3⟩ := bf4 hr; clear hr; have hr := (HS2.out.own _ List.mem_cons_self).1; obtain ⟨s0, fs0, s1, fs1, s2, fs2, s3, fs3⟩ := bf4 hr; clear hr; have hh := HTK.out _ HS2.out.at; have t0 : w2.cell? ⟨tb, off + i * 4, none⟩ = some (.int .i64 ((T.k : Nat) : Int)) := hh 0 _ rfl; have t1 : w2.cell? ⟨tb, off + i * 4 + 1, none⟩ = some (.string (bs T.t)) := hh 1 _ rfl; have t2 : w2.cell? ⟨tb, off + i * 4 + 2, none⟩ = some (.int .u64 ((T.n : Nat) : Int)) := hh 2 _ rfl; have t3 : w2.cell? ⟨tb, off + i * 4 + 3, none⟩ = some (.int .i64 ((T.a : Nat) : Int)) := hh 3 _ rfl; clear hh; clear hb2))
  go_cut [6] (fun p wx => ∃ g, p = .pointer (some ⟨g, 0, none⟩) ∧ w.heap.size + 1 + 1 < g ∧ Hid (RSt w tb off L ((i : Nat) : Int) n 0 0 ((g, (.cells #[.int .i64 (T.k : Nat), .string (bs T.t), .int .u64 (T.n : Nat), .int .i64 (T.a : Nat)] 67)) :: [(w.heap.size + 1 + 1, pO 0 0 0 0), (w.heap.size + 1, .cells #[.int .i64 0, .string ⟨#[]⟩, .bool false, .int .u64 0] 34)]) wx))
  case first =>
    have hlast := lt_of_block (HS2.out.own _ List.mem_cons_self).1
    go_wp2_with (fail)
    go_meet
    exact ⟨w2.heap.size, rfl, hlast, Lib.hid (HS2.out.new _)⟩
  case rest =>
    obtain ⟨g, rfl, hg, HS3⟩ := hcut
    have hbx := HS3.out.box; obtain ⟨p0, fp0, p1, fp1, p2, fp2, p3, fp3⟩ := bf4 hbx; clear hbx; have hr := (HS3.out.own _ List.mem_cons_self).1; obtain ⟨t0, ft0, t1, ft1, t2, ft2, t3, ft3⟩ := bf4 hr; clear hr
    go_upto_region 9 with (fail)
    go_cut [7] (fun p wy => ∃ g7, p = .pointer (some ⟨g7, 0, none⟩) ∧ g < g7 ∧ Hid (RSt w tb off L ((i : Nat) : Int) n 0 0 ((g7, pO (((i : Nat) : Int) + 1) n 0 0) :: (g, (.cells #[.int .i64 (T.k : Nat), .string (bs T.t), .int .u64 (T.n : Nat), .int .i64 (T.a : Nat)] 67)) :: [(w.heap.size + 1 + 1, pO 0 0 0 0), (w.heap.size + 1, .cells #[.int .i64 0, .string ⟨#[]⟩, .bool false, .int .u64 0] 34)]) wy))
    case first =>
      have hlast := lt_of_block (HS3.out.own _ List.mem_cons_self).1
      go_wp2_with (fail)
      go_meet
      exact ⟨wc.heap.size, rfl, hlast, Lib.hid (HS3.out.new _)⟩
    case rest =>
      obtain ⟨g7, rfl, hg7, HS4⟩ := hcut
      have hr := (HS4.out.own _ (List.mem_cons_of_mem _ List.mem_cons_self)).1; obtain ⟨t0, ft0, t1, ft1, t2, ft2, t3, ft3⟩ := bf4 hr; clear hr
      have hr := (HS4.out.own _ List.mem_cons_self).1; obtain ⟨q0, fq0, q1, fq1, q2, fq2, q3, fq3⟩ := bf4 hr; clear hr
      have hr := (HS4.out.own _ (List.mem_cons_of_mem _ (List.mem_cons_of_mem _ (List.mem_cons_of_mem _ List.mem_cons_self)))).1; obtain ⟨r0, fr0, r1, fr1, r2, fr2, r3, fr3⟩ := bf4 hr; clear hr
      have hr := (HS4.out.own _ (List.mem_cons_of_mem _ (List.mem_cons_of_mem _ List.mem_cons_self))).1; obtain ⟨s0, fs0, s1, fs1, s2, fs2, s3, fs3⟩ := bf4 hr; clear hr
      have hbx := HS4.out.box; obtain ⟨p0, fp0, p1, fp1, p2, fp2, p3, fp3⟩ := bf4 hbx; clear hbx
      go_upto_region 12 with (fail)
      go_region
      all_goals
        have hP := put44d (HS4.out.own _ (List.mem_cons_of_mem _ (List.mem_cons_of_mem _ (List.mem_cons_of_mem _ List.mem_cons_self)))).1 (HS4.out.own _ (List.mem_cons_of_mem _ (List.mem_cons_of_mem _ List.mem_cons_self))).1 (by omega) (.int .i64 2) (.string ⟨#[]⟩) (.bool false) (.int .u64 ((T.n : Nat) : Int)) (.int .i64 (((i : Nat) : Int) + 1)) (.int .i64 n) (.int .i64 0) (.int .i64 0)
        have hB := (below44 (rb := w.heap.size + 1) (sb := w.heap.size + 1 + 1) HS4.out.be (by omega) (by omega) (.int .i64 2) (.string ⟨#[]⟩) (.bool false) (.int .u64 ((T.n : Nat) : Int)) (.int .i64 (((i : Nat) : Int) + 1)) (.int .i64 n) (.int .i64 0) (.int .i64 0)).drew
        generalize (set4 (set4 wc (w.heap.size + 1) (.int .i64 2) (.string ⟨#[]⟩) (.bool false) (.int .u64 ((T.n : Nat) : Int))) (w.heap.size + 1 + 1) (.int .i64 (((i : Nat) : Int) + 1)) (.int .i64 n) (.int .i64 0) (.int .i64 0)).drew = VV at hP hB ⊢
        have hE := fun (act : Act) h1 h2 h3 => endROpd (Q := OpdTo L (operandP m) n w) (act := act) h1 (w.heap.size + 1) (w.heap.size + 1 + 1) h2 h3 hP ⟨⟨2, ⟨#[]⟩, false, ((T.n : Nat) : Int)⟩, _, _, _, rfl, HST.out, (fun o' l' h => by rw [HOP.out] at h; injection h), hB⟩
        first
          | (rename_i hKK; refine hKK _ _ (wp_ret ?_); exact hE _ rfl rfl rfl)
          | (go_wp2_with (fail); exact hE _ rfl rfl rfl)
set_option maxRecDepth 100000 in
set_option maxHeartbeats 4000000 in
theorem ropd_text {L : List Tk} {tb off cap : Nat} {n : Int} {w : World} (hL : LAt w tb off L) (hv : Vd L) (hl99 : L.length ≤ 99) {m : List Tk} {i : Nat} (hi : i < L.length) (hmi : L.drop i = m) (hmm : cMinus.test (hd m) = false) (hk : (hd m).k = 3) :
    Calls Tryz.prog 115 #[.slice (some ⟨tb, off, none⟩) L.length cap, pV ((i : Nat) : Int) n 0 0] w (OpdTo L (operandP m) n w) := by
  have hst : Stt L (PR.ok () m) ((i : Nat) : Int) 0 0 := ⟨i, rfl, hi, hmi, rfl, rfl⟩
  have htbw := hL.lt
  have htb : ¬ tb = w.heap.size := by omega
  have htc : ¬ w.heap.size = tb := by omega
  have htb1 : ¬ tb = w.heap.size + 1 := by omega
  have htb2 : ¬ tb = w.heap.size + 1 + 1 := by omega
  have HS0 := Lib.hid (((RSt.start hL ((i : Nat) : Int) n 0 0).new (.cells #[.int .i64 0, .string ⟨#[]⟩, .bool false, .int .u64 0] 34)).new (pO 0 0 0 0))
  have hz1 : (w.alloc (pO ((i : Nat) : Int) n 0 0)).heap.size = w.heap.size + 1 := by simp
  have hz2 : ((w.alloc (pO ((i : Nat) : Int) n 0 0)).alloc (.cells #[.int .i64 0, .string ⟨#[]⟩, .bool false, .int .u64 0] 34)).heap.size = w.heap.size + 1 + 1 := by simp
  rw [hz1, hz2] at HS0
  clear hz1 hz2
  have HMI := Lib.hid (show ∀ wx, LAt wx tb off L → Calls Tryz.prog 57 #[.slice (some ⟨tb, off, none⟩) L.length cap, .agg #[.int .i64 (i : Nat), .int .i64 n, .int .i64 0, .int .i64 0], .int .i64 5, .string ⟨#[45]⟩] wx fun x w' => x = .returned (.bool false) ∧ Below wx.heap.size wx w' from fun wx h => by have h2 := ris_sg (r := PR.ok () m) (cap := cap) (n := n) [45] h hl99 hst; rw [show isR (PR.ok () m) (.sg [45]) = false from hmm] at h2; exact h2)
  obtain ⟨T, hT⟩ : ∃ T, hd m = T := ⟨_, rfl⟩
  have HTK := Lib.hid (fun wx (h : LAt wx tb off L) => show LiesAt wx tb (off + i * 4) (tkCs T) from by have := h.tok hi; rwa [hmi, hT] at this)
  have hop := opd_text hk
  rw [hT] at hop hk
  have hst2 := hst.inc hv (c := .kd 3) (by simp [Cl.inner]) (by rw [hT, kd_eq, hk]; rfl)
  have HST := Lib.hid (show Stt L (operandP m) (((i : Nat) : Int) + 1) 0 0 from by rw [hop]; exact hst2)
  have HOP := Lib.hid hop
  clear hop hst2
  have k2 : (((T.k : Nat) : Int) == 2) = false := by rw [beq_eq_false_iff_ne]; omega
  have k3 : (((T.k : Nat) : Int) == 3) = true := by rw [beq_iff_eq]; omega
  have k4 : (((T.k : Nat) : Int) == 4) = false := by rw [beq_eq_false_iff_ne]; omega
  have k1 : (((T.k : Nat) : Int) == 1) = false := by rw [beq_eq_false_iff_ne]; omega
  clear hk
  clear hst hmm hT hmi hL hv
  go_enter Tryz.func115, Tryz.ntmps115
  go_upto_region 1 with (fail)
  generalize ((w.alloc (pO ((i : Nat) : Int) n 0 0)).alloc (.cells #[.int .i64 0, .string ⟨#[]⟩, .bool false, .int .u64 0] 34)).alloc (pO 0 0 0 0) = W at *
  have hbx := HS0.out.box
  obtain ⟨p0, fp0, p1, fp1, p2, fp2, p3, fp3⟩ := bf4 hbx
  clear hbx
  have hr := (HS0.out.own _ (List.mem_cons_of_mem _ List.mem_cons_self)).1
  obtain ⟨r0, fr0, r1, fr1, r2, fr2, r3, fr3⟩ := bf4 hr
  clear hr
  have hr := (HS0.out.own _ List.mem_cons_self).1
  obtain ⟨s0, fs0, s1, fs1, s2, fs2, s3, fs3⟩ := bf4 hr
  clear hr
  go_upto_region 8 with (first
    | (go_at_call 57; (with_reducible refine (HMI.out _ HS0.out.at).mono ?_); rintro x w2 ⟨rfl, hb2⟩; have HS2 := Lib.hid (HS0.out.next hb2); have hbx := HS2.out.box; obtain ⟨p0, fp0, p1, fp1, p2, fp2, p3, fp3⟩ := bf4 hbx; clear hbx; have hr := (HS2.out.own _ (List.mem_cons_of_mem _ List.mem_cons_self)).1; obtain ⟨r0, fr0, r1, fr1, r2, fr2, r3, fr3⟩ := bf4 hr; clear hr; have hr := (HS2.out.own _ List.mem_cons_self).1; obtain ⟨s0, fs0, s1, fs1, s2, fs2, s3, fs3⟩ := bf4 hr; clear hr; have hh := HTK.out _ HS2.out.at; have t0 : w2.cell? ⟨tb, off + i * 4, none⟩ = some (.int .i64 ((T.k : Nat) : Int)) := hh 0 _ rfl; have t1 : w2.cell? ⟨tb, off + i * 4 + 1, none⟩ = some (.string (bs T.t)) := hh 1 _ rfl; have t2 : w2.cell? ⟨tb, off + i * 4 + 2, none⟩ = some (.int .u64 ((T.n : Nat) : Int)) := hh 2 _ rfl; have t3 : w2.cell? ⟨tb, off + i * 4 + 3, none⟩ = some (.int .i64 ((T.a : Nat) : Int)) := hh 3 _ rfl; clear hh; clear hb2))
  go_cut [6] (fun p wx => ∃ g, p = .pointer (some ⟨g, 0, none⟩) ∧ w.heap.size + 1 + 1 < g ∧ Hid (RSt w tb off L ((i : Nat) : Int) n 0 0 ((g, (.cells #[.int .i64 (T.k : Nat), .string (bs T.t), .int .u64 (T.n : Nat), .int .i64 (T.a : Nat)] 67)) :: [(w.heap.size + 1 + 1, pO 0 0 0 0), (w.heap.size + 1, .cells #[.int .i64 0, .string ⟨#[]⟩, .bool false, .int .u64 0] 34)]) wx))
  case first =>
    have hlast := lt_of_block (HS2.out.own _ List.mem_cons_self).1
    go_wp2_with (fail)
    go_meet
    exact ⟨w2.heap.size, rfl, hlast, Lib.hid (HS2.out.new _)⟩
  case rest =>
    obtain ⟨g, rfl, hg, HS3⟩ := hcut
    have hbx := HS3.out.box; obtain ⟨p0, fp0, p1, fp1, p2, fp2, p3, fp3⟩ := bf4 hbx; clear hbx; have hr := (HS3.out.own _ List.mem_cons_self).1; obtain ⟨t0, ft0, t1, ft1, t2, ft2, t3, ft3⟩ := bf4 hr; clear hr
    go_upto_region 9 with (fail)
    go_cut [7] (fun p wy => ∃ g7, p = .pointer (some ⟨g7, 0, none⟩) ∧ g < g7 ∧ Hid (RSt w tb off L ((i : Nat) : Int) n 0 0 ((g7, pO (((i : Nat) : Int) + 1) n 0 0) :: (g, (.cells #[.int .i64 (T.k : Nat), .string (bs T.t), .int .u64 (T.n : Nat), .int .i64 (T.a : Nat)] 67)) :: [(w.heap.size + 1 + 1, pO 0 0 0 0), (w.heap.size + 1, .cells #[.int .i64 0, .string ⟨#[]⟩, .bool false, .int .u64 0] 34)]) wy))
    case first =>
      have hlast := lt_of_block (HS3.out.own _ List.mem_cons_self).1
      go_wp2_with (fail)
      go_meet
      exact ⟨wc.heap.size, rfl, hlast, Lib.hid (HS3.out.new _)⟩
    case rest =>
      obtain ⟨g7, rfl, hg7, HS4⟩ := hcut
      have hr := (HS4.out.own _ (List.mem_cons_of_mem _ List.mem_cons_self)).1; obtain ⟨t0, ft0, t1, ft1, t2, ft2, t3, ft3⟩ := bf4 hr; clear hr
      have hr := (HS4.out.own _ List.mem_cons_self).1; obtain ⟨q0, fq0, q1, fq1, q2, fq2, q3, fq3⟩ := bf4 hr; clear hr
      have hr := (HS4.out.own _ (List.mem_cons_of_mem _ (List.mem_cons_of_mem _ (List.mem_cons_of_mem _ List.mem_cons_self)))).1; obtain ⟨r0, fr0, r1, fr1, r2, fr2, r3, fr3⟩ := bf4 hr; clear hr
      have hr := (HS4.out.own _ (List.mem_cons_of_mem _ (List.mem_cons_of_mem _ List.mem_cons_self))).1; obtain ⟨s0, fs0, s1, fs1, s2, fs2, s3, fs3⟩ := bf4 hr; clear hr
      have hbx := HS4.out.box; obtain ⟨p0, fp0, p1, fp1, p2, fp2, p3, fp3⟩ := bf4 hbx; clear hbx
      go_upto_region 14 with (fail)
      go_region
      all_goals
        have hP := put44d (HS4.out.own _ (List.mem_cons_of_mem _ (List.mem_cons_of_mem _ (List.mem_cons_of_mem _ List.mem_cons_self)))).1 (HS4.out.own _ (List.mem_cons_of_mem _ (List.mem_cons_of_mem _ List.mem_cons_self))).1 (by omega) (.int .i64 3) (.string (bs T.t)) (.bool false) (.int .u64 0) (.int .i64 (((i : Nat) : Int) + 1)) (.int .i64 n) (.int .i64 0) (.int .i64 0)
        have hB := (below44 (rb := w.heap.size + 1) (sb := w.heap.size + 1 + 1) HS4.out.be (by omega) (by omega) (.int .i64 3) (.string (bs T.t)) (.bool false) (.int .u64 0) (.int .i64 (((i : Nat) : Int) + 1)) (.int .i64 n) (.int .i64 0) (.int .i64 0)).drew
        generalize (set4 (set4 wc (w.heap.size + 1) (.int .i64 3) (.string (bs T.t)) (.bool false) (.int .u64 0)) (w.heap.size + 1 + 1) (.int .i64 (((i : Nat) : Int) + 1)) (.int .i64 n) (.int .i64 0) (.int .i64 0)).drew = VV at hP hB ⊢
        have hE := fun (act : Act) h1 h2 h3 => endROpd (Q := OpdTo L (operandP m) n w) (act := act) h1 (w.heap.size + 1) (w.heap.size + 1 + 1) h2 h3 hP ⟨⟨3, bs T.t, false, 0⟩, _, _, _, rfl, HST.out, (fun o' l' h => by rw [HOP.out] at h; injection h), hB⟩
        first
          | (rename_i hKK; refine hKK _ _ (wp_ret ?_); exact hE _ rfl rfl rfl)
          | (go_wp2_with (fail); exact hE _ rfl rfl rfl)
set_option maxRecDepth 100000 in
set_option maxHeartbeats 4000000 in
theorem ropd_par {L : List Tk} {tb off cap : Nat} {n : Int} {w : World} (hL : LAt w tb off L) (hv : Vd L) (hl99 : L.length ≤ 99) {m : List Tk} {i : Nat} (hi : i < L.length) (hmi : L.drop i = m) (hmm : cMinus.test (hd m) = false) (hk : (hd m).k = 4) :
    Calls Tryz.prog 115 #[.slice (some ⟨tb, off, none⟩) L.length cap, pV ((i : Nat) : Int) n 0 0] w (OpdTo L (operandP m) n w) := by
  have hst : Stt L (PR.ok () m) ((i : Nat) : Int) 0 0 := ⟨i, rfl, hi, hmi, rfl, rfl⟩
  have htbw := hL.lt
  have htb : ¬ tb = w.heap.size := by omega
  have htc : ¬ w.heap.size = tb := by omega
  have htb1 : ¬ tb = w.heap.size + 1 := by omega
  have htb2 : ¬ tb = w.heap.size + 1 + 1 := by omega
  have HS0 := Lib.hid (((RSt.start hL ((i : Nat) : Int) n 0 0).new (.cells #[.int .i64 0, .string ⟨#[]⟩, .bool false, .int .u64 0] 34)).new (pO 0 0 0 0))
  have hz1 : (w.alloc (pO ((i : Nat) : Int) n 0 0)).heap.size = w.heap.size + 1 := by simp
  have hz2 : ((w.alloc (pO ((i : Nat) : Int) n 0 0)).alloc (.cells #[.int .i64 0, .string ⟨#[]⟩, .bool false, .int .u64 0] 34)).heap.size = w.heap.size + 1 + 1 := by simp
  rw [hz1, hz2] at HS0
  clear hz1 hz2
  have HMI := Lib.hid (show ∀ wx, LAt wx tb off L → Calls Tryz.prog 57 #[.slice (some ⟨tb, off, none⟩) L.length cap, .agg #[.int .i64 (i : Nat), .int .i64 n, .int .i64 0, .int .i64 0], .int .i64 5, .string ⟨#[45]⟩] wx fun x w' => x = .returned (.bool false) ∧ Below wx.heap.size wx w' from fun wx h => by have h2 := ris_sg (r := PR.ok () m) (cap := cap) (n := n) [45] h hl99 hst; rw [show isR (PR.ok () m) (.sg [45]) = false from hmm] at h2; exact h2)
  obtain ⟨T, hT⟩ : ∃ T, hd m = T := ⟨_, rfl⟩
  have HTK := Lib.hid (fun wx (h : LAt wx tb off L) => show LiesAt wx tb (off + i * 4) (tkCs T) from by have := h.tok hi; rwa [hmi, hT] at this)
  have hop := opd_par hk
  rw [hT] at hop hk
  have hst2 := hst.inc hv (c := .kd 4) (by simp [Cl.inner]) (by rw [hT, kd_eq, hk]; rfl)
  have HST := Lib.hid (show Stt L (operandP m) (((i : Nat) : Int) + 1) 0 0 from by rw [hop]; exact hst2)
  have HOP := Lib.hid hop
  clear hop hst2
  have k2 : (((T.k : Nat) : Int) == 2) = false := by rw [beq_eq_false_iff_ne]; omega
  have k3 : (((T.k : Nat) : Int) == 3) = false := by rw [beq_eq_false_iff_ne]; omega
  have k4 : (((T.k : Nat) : Int) == 4) = true := by rw [beq_iff_eq]; omega
  have k1 : (((T.k : Nat) : Int) == 1) = false := by rw [beq_eq_false_iff_ne]; omega
  clear hk
  clear hst hmm hT hmi hL hv
  go_enter Tryz.func115, Tryz.ntmps115
  go_upto_region 1 with (fail)
  generalize ((w.alloc (pO ((i : Nat) : Int) n 0 0)).alloc (.cells #[.int .i64 0, .string ⟨#[]⟩, .bool false, .int .u64 0] 34)).alloc (pO 0 0 0 0) = W at *
  have hbx := HS0.out.box
  obtain ⟨p0, fp0, p1, fp1, p2, fp2, p3, fp3⟩ := bf4 hbx
  clear hbx
  have hr := (HS0.out.own _ (List.mem_cons_of_mem _ List.mem_cons_self)).1
  obtain ⟨r0, fr0, r1, fr1, r2, fr2, r3, fr3⟩ := bf4 hr
  clear hr
  have hr := (HS0.out.own _ List.mem_cons_self).1
  obtain ⟨s0, fs0, s1, fs1, s2, fs2, s3, fs3⟩ := bf4 hr
  clear hr
  go_upto_region 8 with (first
    | (go_at_call 57; (with_reducible refine (HMI.out _ HS0.out.at).mono ?_); rintro x w2 ⟨rfl, hb2⟩; have HS2 := Lib.hid (HS0.out.next hb2); have hbx := HS2.out.box; obtain ⟨p0, fp0, p1, fp1, p2, fp2, p3, fp3⟩ := bf4 hbx; clear hbx; have hr := (HS2.out.own _ (List.mem_cons_of_mem _ List.mem_cons_self)).1; obtain ⟨r0, fr0, r1, fr1, r2, fr2, r3, fr3⟩ := bf4 hr; clear hr; have hr := (HS2.out.own _ List.mem_cons_self).1; obtain ⟨s0, fs0, s1, fs1, s2, fs2, s3, fs3⟩ := bf4 hr; clear hr; have hh := HTK.out _ HS2.out.at; have t0 : w2.cell? ⟨tb, off + i * 4, none⟩ = some (.int .i64 ((T.k : Nat) : Int)) := hh 0 _ rfl; have t1 : w2.cell? ⟨tb, off + i * 4 + 1, none⟩ = some (.string (bs T.t)) := hh 1 _ rfl; have t2 : w2.cell? ⟨tb, off + i * 4 + 2, none⟩ = some (.int .u64 ((T.n : Nat) : Int)) := hh 2 _ rfl; have t3 : w2.cell? ⟨tb, off + i * 4 + 3, none⟩ = some (.int .i64 ((T.a : Nat) : Int)) := hh 3 _ rfl; clear hh; clear hb2))
  go_cut [6] (fun p wx => ∃ g, p = .pointer (some ⟨g, 0, none⟩) ∧ w.heap.size + 1 + 1 < g ∧ Hid (RSt w tb off L ((i : Nat) : Int) n 0 0 ((g, (.cells #[.int .i64 (T.k : Nat), .string (bs T.t), .int .u64 (T.n : Nat), .int .i64 (T.a : Nat)] 67)) :: [(w.heap.size + 1 + 1, pO 0 0 0 0), (w.heap.size + 1, .cells #[.int .i64 0, .string ⟨#[]⟩, .bool false, .int .u64 0] 34)]) wx))
  case first =>
    have hlast := lt_of_block (HS2.out.own _ List.mem_cons_self).1
    go_wp2_with (fail)
    go_meet
    exact ⟨w2.heap.size, rfl, hlast, Lib.hid (HS2.out.new _)⟩
  case rest =>
    obtain ⟨g, rfl, hg, HS3⟩ := hcut
    have hbx := HS3.out.box; obtain ⟨p0, fp0, p1, fp1, p2, fp2, p3, fp3⟩ := bf4 hbx; clear hbx; have hr := (HS3.out.own _ List.mem_cons_self).1; obtain ⟨t0, ft0, t1, ft1, t2, ft2, t3, ft3⟩ := bf4 hr; clear hr
    go_upto_region 9 with (fail)
    go_cut [7] (fun p wy => ∃ g7, p = .pointer (some ⟨g7, 0, none⟩) ∧ g < g7 ∧ Hid (RSt w tb off L ((i : Nat) : Int) n 0 0 ((g7, pO (((i : Nat) : Int) + 1) n 0 0) :: (g, (.cells #[.int .i64 (T.k : Nat), .string (bs T.t), .int .u64 (T.n : Nat), .int .i64 (T.a : Nat)] 67)) :: [(w.heap.size + 1 + 1, pO 0 0 0 0), (w.heap.size + 1, .cells #[.int .i64 0, .string ⟨#[]⟩, .bool false, .int .u64 0] 34)]) wy))
    case first =>
      have hlast := lt_of_block (HS3.out.own _ List.mem_cons_self).1
      go_wp2_with (fail)
      go_meet
      exact ⟨wc.heap.size, rfl, hlast, Lib.hid (HS3.out.new _)⟩
    case rest =>
      obtain ⟨g7, rfl, hg7, HS4⟩ := hcut
      have hr := (HS4.out.own _ (List.mem_cons_of_mem _ List.mem_cons_self)).1; obtain ⟨t0, ft0, t1, ft1, t2, ft2, t3, ft3⟩ := bf4 hr; clear hr
      have hr := (HS4.out.own _ List.mem_cons_self).1; obtain ⟨q0, fq0, q1, fq1, q2, fq2, q3, fq3⟩ := bf4 hr; clear hr
      have hr := (HS4.out.own _ (List.mem_cons_of_mem _ (List.mem_cons_of_mem _ (List.mem_cons_of_mem _ List.mem_cons_self)))).1; obtain ⟨r0, fr0, r1, fr1, r2, fr2, r3, fr3⟩ := bf4 hr; clear hr
      have hr := (HS4.out.own _ (List.mem_cons_of_mem _ (List.mem_cons_of_mem _ List.mem_cons_self))).1; obtain ⟨s0, fs0, s1, fs1, s2, fs2, s3, fs3⟩ := bf4 hr; clear hr
      have hbx := HS4.out.box; obtain ⟨p0, fp0, p1, fp1, p2, fp2, p3, fp3⟩ := bf4 hbx; clear hbx
      go_upto_region 16 with (fail)
      go_region
      all_goals
        have hP := put44d (HS4.out.own _ (List.mem_cons_of_mem _ (List.mem_cons_of_mem _ (List.mem_cons_of_mem _ List.mem_cons_self)))).1 (HS4.out.own _ (List.mem_cons_of_mem _ (List.mem_cons_of_mem _ List.mem_cons_self))).1 (by omega) (.int .i64 5) (.string ⟨#[]⟩) (.bool false) (.int .u64 ((T.n : Nat) : Int)) (.int .i64 (((i : Nat) : Int) + 1)) (.int .i64 n) (.int .i64 0) (.int .i64 0)
        have hB := (below44 (rb := w.heap.size + 1) (sb := w.heap.size + 1 + 1) HS4.out.be (by omega) (by omega) (.int .i64 5) (.string ⟨#[]⟩) (.bool false) (.int .u64 ((T.n : Nat) : Int)) (.int .i64 (((i : Nat) : Int) + 1)) (.int .i64 n) (.int .i64 0) (.int .i64 0)).drew
        generalize (set4 (set4 wc (w.heap.size + 1) (.int .i64 5) (.string ⟨#[]⟩) (.bool false) (.int .u64 ((T.n : Nat) : Int))) (w.heap.size + 1 + 1) (.int .i64 (((i : Nat) : Int) + 1)) (.int .i64 n) (.int .i64 0) (.int .i64 0)).drew = VV at hP hB ⊢
        have hE := fun (act : Act) h1 h2 h3 => endROpd (Q := OpdTo L (operandP m) n w) (act := act) h1 (w.heap.size + 1) (w.heap.size + 1 + 1) h2 h3 hP ⟨⟨5, ⟨#[]⟩, false, ((T.n : Nat) : Int)⟩, _, _, _, rfl, HST.out, (fun o' l' h => by rw [HOP.out] at h; injection h), hB⟩
        first
          | (rename_i hKK; refine hKK _ _ (wp_ret ?_); exact hE _ rfl rfl rfl)
          | (go_wp2_with (fail); exact hE _ rfl rfl rfl)
set_option maxRecDepth 100000 in
set_option maxHeartbeats 4000000 in
theorem ropd_true {L : List Tk} {tb off cap : Nat} {n : Int} {w : World} (hL : LAt w tb off L) (hv : Vd L) (hl99 : L.length ≤ 99) {m : List Tk} {i : Nat} (hi : i < L.length) (hmi : L.drop i = m) (hmm : cMinus.test (hd m) = false) (hw0 : (Cl.wd kTRUE).test (hd m) = true) :
    Calls Tryz.prog 115 #[.slice (some ⟨tb, off, none⟩) L.length cap, pV ((i : Nat) : Int) n 0 0] w (OpdTo L (operandP m) n w) := by
  have hst : Stt L (PR.ok () m) ((i : Nat) : Int) 0 0 := ⟨i, rfl, hi, hmi, rfl, rfl⟩
  have htbw := hL.lt
  have htb : ¬ tb = w.heap.size := by omega
  have htc : ¬ w.heap.size = tb := by omega
  have htb1 : ¬ tb = w.heap.size + 1 := by omega
  have htb2 : ¬ tb = w.heap.size + 1 + 1 := by omega
  have HS0 := Lib.hid (((RSt.start hL ((i : Nat) : Int) n 0 0).new (.cells #[.int .i64 0, .string ⟨#[]⟩, .bool false, .int .u64 0] 34)).new (pO 0 0 0 0))
  have hz1 : (w.alloc (pO ((i : Nat) : Int) n 0 0)).heap.size = w.heap.size + 1 := by simp
  have hz2 : ((w.alloc (pO ((i : Nat) : Int) n 0 0)).alloc (.cells #[.int .i64 0, .string ⟨#[]⟩, .bool false, .int .u64 0] 34)).heap.size = w.heap.size + 1 + 1 := by simp
  rw [hz1, hz2] at HS0
  clear hz1 hz2
  have HMI := Lib.hid (show ∀ wx, LAt wx tb off L → Calls Tryz.prog 57 #[.slice (some ⟨tb, off, none⟩) L.length cap, .agg #[.int .i64 (i : Nat), .int .i64 n, .int .i64 0, .int .i64 0], .int .i64 5, .string ⟨#[45]⟩] wx fun x w' => x = .returned (.bool false) ∧ Below wx.heap.size wx w' from fun wx h => by have h2 := ris_sg (r := PR.ok () m) (cap := cap) (n := n) [45] h hl99 hst; rw [show isR (PR.ok () m) (.sg [45]) = false from hmm] at h2; exact h2)
  obtain ⟨T, hT⟩ : ∃ T, hd m = T := ⟨_, rfl⟩
  have HTK := Lib.hid (fun wx (h : LAt wx tb off L) => show LiesAt wx tb (off + i * 4) (tkCs T) from by have := h.tok hi; rwa [hmi, hT] at this)
  have hop := opd_true hw0
  rw [hT] at hw0
  have hk := (wd_text hw0).1
  have hst2 := hst.inc hv (c := .kd 1) (by simp [Cl.inner]) (by rw [hT, kd_eq, hk]; rfl)
  have HST := Lib.hid (show Stt L (operandP m) (((i : Nat) : Int) + 1) 0 0 from by rw [hop]; exact hst2)
  have HOP := Lib.hid hop
  have he1 := bs_list T.t kTRUE
  have he2 := bs_list T.t kFALSE
  rw [show (T.t == kTRUE) = true from by simpa using (wd_text hw0).2] at he1
  clear he2
  have he1 : ((bs T.t).toList == [84, 82, 85, 69]) = true := he1
  clear hop hst2
  have k2 : (((T.k : Nat) : Int) == 2) = false := by rw [beq_eq_false_iff_ne]; omega
  have k3 : (((T.k : Nat) : Int) == 3) = false := by rw [beq_eq_false_iff_ne]; omega
  have k4 : (((T.k : Nat) : Int) == 4) = false := by rw [beq_eq_false_iff_ne]; omega
  have k1 : (((T.k : Nat) : Int) == 1) = true := by rw [beq_iff_eq]; omega
  clear hk hw0
  clear hst hmm hT hmi hL hv
  go_enter Tryz.func115, Tryz.ntmps115
  go_upto_region 1 with (fail)
  generalize ((w.alloc (pO ((i : Nat) : Int) n 0 0)).alloc (.cells #[.int .i64 0, .string ⟨#[]⟩, .bool false, .int .u64 0] 34)).alloc (pO 0 0 0 0) = W at *
  have hbx := HS0.out.box
  obtain ⟨p0, fp0, p1, fp1, p2, fp2, p3, fp3⟩ := bf4 hbx
  clear hbx
  have hr := (HS0.out.own _ (List.mem_cons_of_mem _ List.mem_cons_self)).1
  obtain ⟨r0, fr0, r1, fr1, r2, fr2, r3, fr3⟩ := bf4 hr
  clear hr
  have hr := (HS0.out.own _ List.mem_cons_self).1
  obtain ⟨s0, fs0, s1, fs1, s2, fs2, s3, fs3⟩ := bf4 hr
  clear hr
  go_upto_region 8 with (first
    | (go_at_call 57; (with_reducible refine (HMI.out _ HS0.out.at).mono ?_); rintro x w2 ⟨rfl, hb2⟩; have HS2 := Lib.hid (HS0.out.next hb2); have hbx := HS2.out.box; obtain ⟨p0, fp0, p1, fp1, p2, fp2, p3, fp3⟩ := bf4 hbx; clear hbx; have hr := (HS2.out.own _ (List.mem_cons_of_mem _ List.mem_cons_self)).1; obtain ⟨r0, fr0, r1, fr1, r2, fr2, r3, fr3⟩ := bf4 hr; clear hr; have hr := (HS2.out.own _ List.mem_cons_self).1; obtain ⟨s0, fs0, s1, fs1, s2, fs2, s3, fs3⟩ := bf4 hr; clear hr; have hh := HTK.out _ HS2.out.at; have t0 : w2.cell? ⟨tb, off + i * 4, none⟩ = some (.int .i64 ((T.k : Nat) : Int)) := hh 0 _ rfl; have t1 : w2.cell? ⟨tb, off + i * 4 + 1, none⟩ = some (.string (bs T.t)) := hh 1 _ rfl; have t2 : w2.cell? ⟨tb, off + i * 4 + 2, none⟩ = some (.int .u64 ((T.n : Nat) : Int)) := hh 2 _ rfl; have t3 : w2.cell? ⟨tb, off + i * 4 + 3, none⟩ = some (.int .i64 ((T.a : Nat) : Int)) := hh 3 _ rfl; clear hh; clear hb2))
  go_cut [6] (fun p wx => ∃ g, p = .pointer (some ⟨g, 0, none⟩) ∧ w.heap.size + 1 + 1 < g ∧ Hid (RSt w tb off L ((i : Nat) : Int) n 0 0 ((g, (.cells #[.int .i64 (T.k : Nat), .string (bs T.t), .int .u64 (T.n : Nat), .int .i64 (T.a : Nat)] 67)) :: [(w.heap.size + 1 + 1, pO 0 0 0 0), (w.heap.size + 1, .cells #[.int .i64 0, .string ⟨#[]⟩, .bool false, .int .u64 0] 34)]) wx))
  case first =>
    have hlast := lt_of_block (HS2.out.own _ List.mem_cons_self).1
    go_wp2_with (fail)
    go_meet
    exact ⟨w2.heap.size, rfl, hlast, Lib.hid (HS2.out.new _)⟩
  case rest =>
    obtain ⟨g, rfl, hg, HS3⟩ := hcut
    have hbx := HS3.out.box; obtain ⟨p0, fp0, p1, fp1, p2, fp2, p3, fp3⟩ := bf4 hbx; clear hbx; have hr := (HS3.out.own _ List.mem_cons_self).1; obtain ⟨t0, ft0, t1, ft1, t2, ft2, t3, ft3⟩ := bf4 hr; clear hr
    go_upto_region 9 with (fail)
    go_cut [7] (fun p wy => ∃ g7, p = .pointer (some ⟨g7, 0, none⟩) ∧ g < g7 ∧ Hid (RSt w tb off L ((i : Nat) : Int) n 0 0 ((g7, pO (((i : Nat) : Int) + 1) n 0 0) :: (g, (.cells #[.int .i64 (T.k : Nat), .string (bs T.t), .int .u64 (T.n : Nat), .int .i64 (T.a : Nat)] 67)) :: [(w.heap.size + 1 + 1, pO 0 0 0 0), (w.heap.size + 1, .cells #[.int .i64 0, .string ⟨#[]⟩, .bool false, .int .u64 0] 34)]) wy))
    case first =>
      have hlast := lt_of_block (HS3.out.own _ List.mem_cons_self).1
      go_wp2_with (fail)
      go_meet
      exact ⟨wc.heap.size, rfl, hlast, Lib.hid (HS3.out.new _)⟩
    case rest =>
      obtain ⟨g7, rfl, hg7, HS4⟩ := hcut
      have hr := (HS4.out.own _ (List.mem_cons_of_mem _ List.mem_cons_self)).1; obtain ⟨t0, ft0, t1, ft1, t2, ft2, t3, ft3⟩ := bf4 hr; clear hr
      have hr := (HS4.out.own _ List.mem_cons_self).1; obtain ⟨q0, fq0, q1, fq1, q2, fq2, q3, fq3⟩ := bf4 hr; clear hr
      have hr := (HS4.out.own _ (List.mem_cons_of_mem _ (List.mem_cons_of_mem _ (List.mem_cons_of_mem _ List.mem_cons_self)))).1; obtain ⟨r0, fr0, r1, fr1, r2, fr2, r3, fr3⟩ := bf4 hr; clear hr
      have hr := (HS4.out.own _ (List.mem_cons_of_mem _ (List.mem_cons_of_mem _ List.mem_cons_self))).1; obtain ⟨s0, fs0, s1, fs1, s2, fs2, s3, fs3⟩ := bf4 hr; clear hr
      have hbx := HS4.out.box; obtain ⟨p0, fp0, p1, fp1, p2, fp2, p3, fp3⟩ := bf4 hbx; clear hbx
      go_upto_region 18 with (fail)
      go_region
      all_goals
        have hP := put44d (HS4.out.own _ (List.mem_cons_of_mem _ (List.mem_cons_of_mem _ (List.mem_cons_of_mem _ List.mem_cons_self)))).1 (HS4.out.own _ (List.mem_cons_of_mem _ (List.mem_cons_of_mem _ List.mem_cons_self))).1 (by omega) (.int .i64 4) (.string ⟨#[]⟩) (.bool false) (.int .u64 1) (.int .i64 (((i : Nat) : Int) + 1)) (.int .i64 n) (.int .i64 0) (.int .i64 0)
        have hB := (below44 (rb := w.heap.size + 1) (sb := w.heap.size + 1 + 1) HS4.out.be (by omega) (by omega) (.int .i64 4) (.string ⟨#[]⟩) (.bool false) (.int .u64 1) (.int .i64 (((i : Nat) : Int) + 1)) (.int .i64 n) (.int .i64 0) (.int .i64 0)).drew
        generalize (set4 (set4 wc (w.heap.size + 1) (.int .i64 4) (.string ⟨#[]⟩) (.bool false) (.int .u64 1)) (w.heap.size + 1 + 1) (.int .i64 (((i : Nat) : Int) + 1)) (.int .i64 n) (.int .i64 0) (.int .i64 0)).drew = VV at hP hB ⊢
        have hE := fun (act : Act) h1 h2 h3 => endROpd (Q := OpdTo L (operandP m) n w) (act := act) h1 (w.heap.size + 1) (w.heap.size + 1 + 1) h2 h3 hP ⟨⟨4, ⟨#[]⟩, false, 1⟩, _, _, _, rfl, HST.out, (fun o' l' h => by rw [HOP.out] at h; injection h), hB⟩
        first
          | (rename_i hKK; refine hKK _ _ (wp_ret ?_); exact hE _ rfl rfl rfl)
          | (go_wp2_with (fail); exact hE _ rfl rfl rfl)
set_option maxRecDepth 100000 in
set_option maxHeartbeats 4000000 in
theorem ropd_false {L : List Tk} {tb off cap : Nat} {n : Int} {w : World} (hL : LAt w tb off L) (hv : Vd L) (hl99 : L.length ≤ 99) {m : List Tk} {i : Nat} (hi : i < L.length) (hmi : L.drop i = m) (hmm : cMinus.test (hd m) = false) (hw0 : (Cl.wd kTRUE).test (hd m) = false) (hw1 : (Cl.wd kFALSE).test (hd m) = true) :
    Calls Tryz.prog 115 #[.slice (some ⟨tb, off, none⟩) L.length cap, pV ((i : Nat) : Int) n 0 0] w (OpdTo L (operandP m) n w) := by
  have hst : Stt L (PR.ok () m) ((i : Nat) : Int) 0 0 := ⟨i, rfl, hi, hmi, rfl, rfl⟩
  have htbw := hL.lt
  have htb : ¬ tb = w.heap.size := by omega
  have htc : ¬ w.heap.size = tb := by omega
  have htb1 : ¬ tb = w.heap.size + 1 := by omega
  have htb2 : ¬ tb = w.heap.size + 1 + 1 := by omega
  have HS0 := Lib.hid (((RSt.start hL ((i : Nat) : Int) n 0 0).new (.cells #[.int .i64 0, .string ⟨#[]⟩, .bool false, .int .u64 0] 34)).new (pO 0 0 0 0))
  have hz1 : (w.alloc (pO ((i : Nat) : Int) n 0 0)).heap.size = w.heap.size + 1 := by simp
  have hz2 : ((w.alloc (pO ((i : Nat) : Int) n 0 0)).alloc (.cells #[.int .i64 0, .string ⟨#[]⟩, .bool false, .int .u64 0] 34)).heap.size = w.heap.size + 1 + 1 := by simp
  rw [hz1, hz2] at HS0
  clear hz1 hz2
  have HMI := Lib.hid (show ∀ wx, LAt wx tb off L → Calls Tryz.prog 57 #[.slice (some ⟨tb, off, none⟩) L.length cap, .agg #[.int .i64 (i : Nat), .int .i64 n, .int .i64 0, .int .i64 0], .int .i64 5, .string ⟨#[45]⟩] wx fun x w' => x = .returned (.bool false) ∧ Below wx.heap.size wx w' from fun wx h => by have h2 := ris_sg (r := PR.ok () m) (cap := cap) (n := n) [45] h hl99 hst; rw [show isR (PR.ok () m) (.sg [45]) = false from hmm] at h2; exact h2)
  obtain ⟨T, hT⟩ : ∃ T, hd m = T := ⟨_, rfl⟩
  have HTK := Lib.hid (fun wx (h : LAt wx tb off L) => show LiesAt wx tb (off + i * 4) (tkCs T) from by have := h.tok hi; rwa [hmi, hT] at this)
  have hop := opd_false hw0 hw1
  rw [hT] at hw0 hw1
  have hk := (wd_text hw1).1
  have hst2 := hst.inc hv (c := .kd 1) (by simp [Cl.inner]) (by rw [hT, kd_eq, hk]; rfl)
  have HST := Lib.hid (show Stt L (operandP m) (((i : Nat) : Int) + 1) 0 0 from by rw [hop]; exact hst2)
  have HOP := Lib.hid hop
  have he1 := bs_list T.t kTRUE
  have he2 := bs_list T.t kFALSE
  rw [show (T.t == kTRUE) = false from by have h : (T.k == 1 && T.t == kTRUE) = false := hw0
                                          rw [hk] at h; simpa using h] at he1
  rw [show (T.t == kFALSE) = true from by simpa using (wd_text hw1).2] at he2
  have he1 : ((bs T.t).toList == [84, 82, 85, 69]) = false := he1
  have he2 : ((bs T.t).toList == [70, 65, 76, 83, 69]) = true := he2
  clear hop hst2
  have k2 : (((T.k : Nat) : Int) == 2) = false := by rw [beq_eq_false_iff_ne]; omega
  have k3 : (((T.k : Nat) : Int) == 3) = false := by rw [beq_eq_false_iff_ne]; omega
  have k4 : (((T.k : Nat) : Int) == 4) = false := by rw [beq_eq_false_iff_ne]; omega
  have k1 : (((T.k : Nat) : Int) == 1) = true := by rw [beq_iff_eq]; omega
  clear hk hw0 hw1
  clear hst hmm hT hmi hL hv
  go_enter Tryz.func115, Tryz.ntmps115
  go_upto_region 1 with (fail)
  generalize ((w.alloc (pO ((i : Nat) : Int) n 0 0)).alloc (.cells #[.int .i64 0, .string ⟨#[]⟩, .bool false, .int .u64 0] 34)).alloc (pO 0 0 0 0) = W at *
  have hbx := HS0.out.box
  obtain ⟨p0, fp0, p1, fp1, p2, fp2, p3, fp3⟩ := bf4 hbx
  clear hbx
  have hr := (HS0.out.own _ (List.mem_cons_of_mem _ List.mem_cons_self)).1
  obtain ⟨r0, fr0, r1, fr1, r2, fr2, r3, fr3⟩ := bf4 hr
  clear hr
  have hr := (HS0.out.own _ List.mem_cons_self).1
  obtain ⟨s0, fs0, s1, fs1, s2, fs2, s3, fs3⟩ := bf4 hr
  clear hr
  go_upto_region 8 with (first
    | (go_at_call 57; (with_reducible refine (HMI.out _ HS0.out.at).mono ?_); rintro x w2 ⟨rfl, hb2⟩; have HS2 := Lib.hid (HS0.out.next hb2); have hbx := HS2.out.box; obtain ⟨p0, fp0, p1, fp1, p2, fp2, p3, fp3⟩ := bf4 hbx; clear hbx; have hr := (HS2.out.own _ (List.mem_cons_of_mem _ List.mem_cons_self)).1; obtain ⟨r0, fr0, r1, fr1, r2, fr2, r3, fr3⟩ := bf4 hr; clear hr; have hr := (HS2.out.own _ List.mem_cons_self).1; obtain ⟨s0, fs0, s1, fs1, s2, fs2, s3, fs3⟩ := bf4 hr; clear hr; have hh := HTK.out _ HS2.out.at; have t0 : w2.cell? ⟨tb, off + i * 4, none⟩ = some (.int .i64 ((T.k : Nat) : Int)) := hh 0 _ rfl; have t1 : w2.cell? ⟨tb, off + i * 4 + 1, none⟩ = some (.string (bs T.t)) := hh 1 _ rfl; have t2 : w2.cell? ⟨tb, off + i * 4 + 2, none⟩ = some (.int .u64 ((T.n : Nat) : Int)) := hh 2 _ rfl; have t3 : w2.cell? ⟨tb, off + i * 4 + 3, none⟩ = some (.int .i64 ((T.a : Nat) : Int)) := hh 3 _ rfl; clear hh; clear hb2))
  go_cut [6] (fun p wx => ∃ g, p = .pointer (some ⟨g, 0, none⟩) ∧ w.heap.size + 1 + 1 < g ∧ Hid (RSt w tb off L ((i : Nat) : Int) n 0 0 ((g, (.cells #[.int .i64 (T.k : Nat), .string (bs T.t), .int .u64 (T.n : Nat), .int .i64 (T.a : Nat)] 67)) :: [(w.heap.size + 1 + 1, pO 0 0 0 0), (w.heap.size + 1, .cells #[.int .i64 0, .string ⟨#[]⟩, .bool false, .int .u64 0] 34)]) wx))
  case first =>
    have hlast := lt_of_block (HS2.out.own _ List.mem_cons_self).1
    go_wp2_with (fail)
    go_meet
    exact ⟨w2.heap.size, rfl, hlast, Lib.hid (HS2.out.new _)⟩
  case rest =>
    obtain ⟨g, rfl, hg, HS3⟩ := hcut
    have hbx := HS3.out.box; obtain ⟨p0, fp0, p1, fp1, p2, fp2, p3, fp3⟩ := bf4 hbx; clear hbx; have hr := (HS3.out.own _ List.mem_cons_self).1; obtain ⟨t0, ft0, t1, ft1, t2, ft2, t3, ft3⟩ := bf4 hr; clear hr
    go_upto_region 9 with (fail)
    go_cut [7] (fun p wy => ∃ g7, p = .pointer (some ⟨g7, 0, none⟩) ∧ g < g7 ∧ Hid (RSt w tb off L ((i : Nat) : Int) n 0 0 ((g7, pO (((i : Nat) : Int) + 1) n 0 0) :: (g, (.cells #[.int .i64 (T.k : Nat), .string (bs T.t), .int .u64 (T.n : Nat), .int .i64 (T.a : Nat)] 67)) :: [(w.heap.size + 1 + 1, pO 0 0 0 0), (w.heap.size + 1, .cells #[.int .i64 0, .string ⟨#[]⟩, .bool false, .int .u64 0] 34)]) wy))
    case first =>
      have hlast := lt_of_block (HS3.out.own _ List.mem_cons_self).1
      go_wp2_with (fail)
      go_meet
      exact ⟨wc.heap.size, rfl, hlast, Lib.hid (HS3.out.new _)⟩
    case rest =>
      obtain ⟨g7, rfl, hg7, HS4⟩ := hcut
      have hr := (HS4.out.own _ (List.mem_cons_of_mem _ List.mem_cons_self)).1; obtain ⟨t0, ft0, t1, ft1, t2, ft2, t3, ft3⟩ := bf4 hr; clear hr
      have hr := (HS4.out.own _ List.mem_cons_self).1; obtain ⟨q0, fq0, q1, fq1, q2, fq2, q3, fq3⟩ := bf4 hr; clear hr
      have hr := (HS4.out.own _ (List.mem_cons_of_mem _ (List.mem_cons_of_mem _ (List.mem_cons_of_mem _ List.mem_cons_self)))).1; obtain ⟨r0, fr0, r1, fr1, r2, fr2, r3, fr3⟩ := bf4 hr; clear hr
      have hr := (HS4.out.own _ (List.mem_cons_of_mem _ (List.mem_cons_of_mem _ List.mem_cons_self))).1; obtain ⟨s0, fs0, s1, fs1, s2, fs2, s3, fs3⟩ := bf4 hr; clear hr
      have hbx := HS4.out.box; obtain ⟨p0, fp0, p1, fp1, p2, fp2, p3, fp3⟩ := bf4 hbx; clear hbx
      go_upto_region 20 with (fail)
      go_region
      all_goals
        have hP := put44d (HS4.out.own _ (List.mem_cons_of_mem _ (List.mem_cons_of_mem _ (List.mem_cons_of_mem _ List.mem_cons_self)))).1 (HS4.out.own _ (List.mem_cons_of_mem _ (List.mem_cons_of_mem _ List.mem_cons_self))).1 (by omega) (.int .i64 4) (.string ⟨#[]⟩) (.bool false) (.int .u64 0) (.int .i64 (((i : Nat) : Int) + 1)) (.int .i64 n) (.int .i64 0) (.int .i64 0)
        have hB := (below44 (rb := w.heap.size + 1) (sb := w.heap.size + 1 + 1) HS4.out.be (by omega) (by omega) (.int .i64 4) (.string ⟨#[]⟩) (.bool false) (.int .u64 0) (.int .i64 (((i : Nat) : Int) + 1)) (.int .i64 n) (.int .i64 0) (.int .i64 0)).drew
        generalize (set4 (set4 wc (w.heap.size + 1) (.int .i64 4) (.string ⟨#[]⟩) (.bool false) (.int .u64 0)) (w.heap.size + 1 + 1) (.int .i64 (((i : Nat) : Int) + 1)) (.int .i64 n) (.int .i64 0) (.int .i64 0)).drew = VV at hP hB ⊢
        have hE := fun (act : Act) h1 h2 h3 => endROpd (Q := OpdTo L (operandP m) n w) (act := act) h1 (w.heap.size + 1) (w.heap.size + 1 + 1) h2 h3 hP ⟨⟨4, ⟨#[]⟩, false, 0⟩, _, _, _, rfl, HST.out, (fun o' l' h => by rw [HOP.out] at h; injection h), hB⟩
        first
          | (rename_i hKK; refine hKK _ _ (wp_ret ?_); exact hE _ rfl rfl rfl)
          | (go_wp2_with (fail); exact hE _ rfl rfl rfl)
theorem path_rest (m : List Tk) : restR (pathS m) = restR (pathP m) := by
  unfold pathP; cases pathS m <;> rfl
theorem path_opd {m : List Tk} {S : ByteArray} {o' : Opd} {l' : List Tk} (h : pathP m = .ok o' l') (hS : ∀ t l', pathS m = .ok t l' → S = bs t) : (⟨1, S, false, 0⟩ : Opd) = o' := by
  unfold pathP at h
  cases hp : pathS m with
  | err e l => rw [hp] at h; cases h
  | ok s l =>
    rw [hp] at h
    have h : PR.ok (⟨1, ⟨s.toArray⟩, false, 0⟩ : Opd) l = .ok o' l' := h
    injection h with h1 h2
    rw [← h1, hS s l hp]; rfl
set_option maxRecDepth 100000 in
set_option maxHeartbeats 4000000 in
theorem ropd_path1 {L : List Tk} {tb off cap : Nat} {n : Int} {w : World} (hL : LAt w tb off L) (hv : Vd L) (hl99 : L.length ≤ 99) {m : List Tk} {i : Nat} (hi : i < L.length) (hmi : L.drop i = m) (hmm : cMinus.test (hd m) = false) (h2 : (hd m).k ≠ 2) (h3 : (hd m).k ≠ 3) (h4 : (hd m).k ≠ 4) (hw0 : (Cl.wd kTRUE).test (hd m) = false) (hw1 : (Cl.wd kFALSE).test (hd m) = false) (hk : (hd m).k = 1) :
    Calls Tryz.prog 115 #[.slice (some ⟨tb, off, none⟩) L.length cap, pV ((i : Nat) : Int) n 0 0] w (OpdTo L (operandP m) n w) := by
  have hst : Stt L (PR.ok () m) ((i : Nat) : Int) 0 0 := ⟨i, rfl, hi, hmi, rfl, rfl⟩
  have htbw := hL.lt
  have htb : ¬ tb = w.heap.size := by omega
  have htc : ¬ w.heap.size = tb := by omega
  have htb1 : ¬ tb = w.heap.size + 1 := by omega
  have htb2 : ¬ tb = w.heap.size + 1 + 1 := by omega
  have HS0 := Lib.hid (((RSt.start hL ((i : Nat) : Int) n 0 0).new (.cells #[.int .i64 0, .string ⟨#[]⟩, .bool false, .int .u64 0] 34)).new (pO 0 0 0 0))
  have hz1 : (w.alloc (pO ((i : Nat) : Int) n 0 0)).heap.size = w.heap.size + 1 := by simp
  have hz2 : ((w.alloc (pO ((i : Nat) : Int) n 0 0)).alloc (.cells #[.int .i64 0, .string ⟨#[]⟩, .bool false, .int .u64 0] 34)).heap.size = w.heap.size + 1 + 1 := by simp
  rw [hz1, hz2] at HS0
  clear hz1 hz2
  have HMI := Lib.hid (show ∀ wx, LAt wx tb off L → Calls Tryz.prog 57 #[.slice (some ⟨tb, off, none⟩) L.length cap, .agg #[.int .i64 (i : Nat), .int .i64 n, .int .i64 0, .int .i64 0], .int .i64 5, .string ⟨#[45]⟩] wx fun x w' => x = .returned (.bool false) ∧ Below wx.heap.size wx w' from fun wx h => by have h2 := ris_sg (r := PR.ok () m) (cap := cap) (n := n) [45] h hl99 hst; rw [show isR (PR.ok () m) (.sg [45]) = false from hmm] at h2; exact h2)
  obtain ⟨T, hT⟩ : ∃ T, hd m = T := ⟨_, rfl⟩
  have HTK := Lib.hid (fun wx (h : LAt wx tb off L) => show LiesAt wx tb (off + i * 4) (tkCs T) from by have := h.tok hi; rwa [hmi, hT] at this)
  have hop := opd_path hmm h2 h3 h4 hw0 hw1
  rw [hT] at h2 h3 h4 hw0 hw1
  have HPA := Lib.hid (fun wx (h : LAt wx tb off L) => rpath_any (cap := cap) (n := n) h hv hl99 hst)
  rw [hop]
  rw [hT] at hk
  have he1 := bs_list T.t kTRUE
  have he2 := bs_list T.t kFALSE
  have hx1 : (T.t == kTRUE) = false := by
    have h : (T.k == 1 && T.t == kTRUE) = false := hw0
    rw [hk] at h; simpa using h
  have hx2 : (T.t == kFALSE) = false := by
    have h : (T.k == 1 && T.t == kFALSE) = false := hw1
    rw [hk] at h; simpa using h
  rw [hx1] at he1
  rw [hx2] at he2
  have he1 : ((bs T.t).toList == [84, 82, 85, 69]) = false := he1
  have he2 : ((bs T.t).toList == [70, 65, 76, 83, 69]) = false := he2
  clear hx1 hx2
  have k2 : (((T.k : Nat) : Int) == 2) = false := by rw [beq_eq_false_iff_ne]; omega
  have k3 : (((T.k : Nat) : Int) == 3) = false := by rw [beq_eq_false_iff_ne]; omega
  have k4 : (((T.k : Nat) : Int) == 4) = false := by rw [beq_eq_false_iff_ne]; omega
  have k1 : (((T.k : Nat) : Int) == 1) = true := by rw [beq_iff_eq]; omega
  clear hk h2 h3 h4 hw0 hw1 hop
  clear hst hmm hT hmi hL hv
  go_enter Tryz.func115, Tryz.ntmps115
  go_upto_region 1 with (fail)
  generalize ((w.alloc (pO ((i : Nat) : Int) n 0 0)).alloc (.cells #[.int .i64 0, .string ⟨#[]⟩, .bool false, .int .u64 0] 34)).alloc (pO 0 0 0 0) = W at *
  have hbx := HS0.out.box
  obtain ⟨p0, fp0, p1, fp1, p2, fp2, p3, fp3⟩ := bf4 hbx
  clear hbx
  have hr := (HS0.out.own _ (List.mem_cons_of_mem _ List.mem_cons_self)).1
  obtain ⟨r0, fr0, r1, fr1, r2, fr2, r3, fr3⟩ := bf4 hr
  clear hr
  have hr := (HS0.out.own _ List.mem_cons_self).1
  obtain ⟨s0, fs0, s1, fs1, s2, fs2, s3, fs3⟩ := bf4 hr
  clear hr
  go_upto_region 8 with (first
    | (go_at_call 57; (with_reducible refine (HMI.out _ HS0.out.at).mono ?_); rintro x w2 ⟨rfl, hb2⟩; have HS2 := Lib.hid (HS0.out.next hb2); have hbx := HS2.out.box; obtain ⟨p0, fp0, p1, fp1, p2, fp2, p3, fp3⟩ := bf4 hbx; clear hbx; have hr := (HS2.out.own _ (List.mem_cons_of_mem _ List.mem_cons_self)).1; obtain ⟨r0, fr0, r1, fr1, r2, fr2, r3, fr3⟩ := bf4 hr; clear hr; have hr := (HS2.out.own _ List.mem_cons_self).1; obtain ⟨s0, fs0, s1, fs1, s2, fs2, s3, fs3⟩ := bf4 hr; clear hr; have hh := HTK.out _ HS2.out.at; have t0 : w2.cell? ⟨tb, off + i * 4, none⟩ = some (.int .i64 ((T.k : Nat) : Int)) := hh 0 _ rfl; have t1 : w2.cell? ⟨tb, off + i * 4 + 1, none⟩ = some (.string (bs T.t)) := hh 1 _ rfl; have t2 : w2.cell? ⟨tb, off + i * 4 + 2, none⟩ = some (.int .u64 ((T.n : Nat) : Int)) := hh 2 _ rfl; have t3 : w2.cell? ⟨tb, off + i * 4 + 3, none⟩ = some (.int .i64 ((T.a : Nat) : Int)) := hh 3 _ rfl; clear hh; clear hb2))
  go_cut [6] (fun p wx => ∃ g, p = .pointer (some ⟨g, 0, none⟩) ∧ w.heap.size + 1 + 1 < g ∧ Hid (RSt w tb off L ((i : Nat) : Int) n 0 0 ((g, (.cells #[.int .i64 (T.k : Nat), .string (bs T.t), .int .u64 (T.n : Nat), .int .i64 (T.a : Nat)] 67)) :: [(w.heap.size + 1 + 1, pO 0 0 0 0), (w.heap.size + 1, .cells #[.int .i64 0, .string ⟨#[]⟩, .bool false, .int .u64 0] 34)]) wx))
  case first =>
    have hlast := lt_of_block (HS2.out.own _ List.mem_cons_self).1
    go_wp2_with (fail)
    go_meet
    exact ⟨w2.heap.size, rfl, hlast, Lib.hid (HS2.out.new _)⟩
  case rest =>
    obtain ⟨g, rfl, hg, HS3⟩ := hcut
    have hbx := HS3.out.box; obtain ⟨p0, fp0, p1, fp1, p2, fp2, p3, fp3⟩ := bf4 hbx; clear hbx; have hr := (HS3.out.own _ List.mem_cons_self).1; obtain ⟨t0, ft0, t1, ft1, t2, ft2, t3, ft3⟩ := bf4 hr; clear hr
    go_upto_region 9 with (fail)
    go_cut [7] (fun p wy => ∃ g7, p = .pointer (some ⟨g7, 0, none⟩) ∧ g < g7 ∧ Hid (RSt w tb off L ((i : Nat) : Int) n 0 0 ((g7, pO (((i : Nat) : Int) + 1) n 0 0) :: (g, (.cells #[.int .i64 (T.k : Nat), .string (bs T.t), .int .u64 (T.n : Nat), .int .i64 (T.a : Nat)] 67)) :: [(w.heap.size + 1 + 1, pO 0 0 0 0), (w.heap.size + 1, .cells #[.int .i64 0, .string ⟨#[]⟩, .bool false, .int .u64 0] 34)]) wy))
    case first =>
      have hlast := lt_of_block (HS3.out.own _ List.mem_cons_self).1
      go_wp2_with (fail)
      go_meet
      exact ⟨wc.heap.size, rfl, hlast, Lib.hid (HS3.out.new _)⟩
    case rest =>
      obtain ⟨g7, rfl, hg7, HS4⟩ := hcut
      have hr := (HS4.out.own _ (List.mem_cons_of_mem _ List.mem_cons_self)).1; obtain ⟨t0, ft0, t1, ft1, t2, ft2, t3, ft3⟩ := bf4 hr; clear hr
      have hr := (HS4.out.own _ List.mem_cons_self).1; obtain ⟨q0, fq0, q1, fq1, q2, fq2, q3, fq3⟩ := bf4 hr; clear hr
      have hr := (HS4.out.own _ (List.mem_cons_of_mem _ (List.mem_cons_of_mem _ (List.mem_cons_of_mem _ List.mem_cons_self)))).1; obtain ⟨r0, fr0, r1, fr1, r2, fr2, r3, fr3⟩ := bf4 hr; clear hr
      have hr := (HS4.out.own _ (List.mem_cons_of_mem _ (List.mem_cons_of_mem _ List.mem_cons_self))).1; obtain ⟨s0, fs0, s1, fs1, s2, fs2, s3, fs3⟩ := bf4 hr; clear hr
      have hbx := HS4.out.box; obtain ⟨p0, fp0, p1, fp1, p2, fp2, p3, fp3⟩ := bf4 hbx; clear hbx
      go_upto_region 22 with (go_at_call 137; refine (HPA.out _ HS4.out.at).mono ?_; rintro x w5 ⟨S, z', e', a', rfl, hs5, ho5, hb5⟩; have HS5 := Lib.hid (HS4.out.next hb5); have HST := Lib.hid hs5; have HSO := Lib.hid ho5; have hbx := HS5.out.box; obtain ⟨p0, fp0, p1, fp1, p2, fp2, p3, fp3⟩ := bf4 hbx; clear hbx hs5 ho5 hb5)
      have HS6 := Lib.hid (show RSt w tb off L z' n e' a' _ ((((w5.setCell ⟨w.heap.size, 0, none⟩ (.int .i64 z')).setCell ⟨w.heap.size, 1, none⟩ (.int .i64 n)).setCell ⟨w.heap.size, 2, none⟩ (.int .i64 e')).setCell ⟨w.heap.size, 3, none⟩ (.int .i64 a')) from HS5.out.put z' n e' a')
      generalize (((w5.setCell ⟨w.heap.size, 0, none⟩ (.int .i64 z')).setCell ⟨w.heap.size, 1, none⟩ (.int .i64 n)).setCell ⟨w.heap.size, 2, none⟩ (.int .i64 e')).setCell ⟨w.heap.size, 3, none⟩ (.int .i64 a') = V at *
      have hr := (HS6.out.own _ (List.mem_cons_of_mem _ (List.mem_cons_of_mem _ (List.mem_cons_of_mem _ List.mem_cons_self)))).1; obtain ⟨r0, fr0, r1, fr1, r2, fr2, r3, fr3⟩ := bf4 hr; clear hr
      have hr := (HS6.out.own _ (List.mem_cons_of_mem _ (List.mem_cons_of_mem _ List.mem_cons_self))).1; obtain ⟨s0, fs0, s1, fs1, s2, fs2, s3, fs3⟩ := bf4 hr; clear hr
      have hbx := HS6.out.box; obtain ⟨p0, fp0, p1, fp1, p2, fp2, p3, fp3⟩ := bf4 hbx; clear hbx
      go_region
      all_goals
        have hP := put44d (HS6.out.own _ (List.mem_cons_of_mem _ (List.mem_cons_of_mem _ (List.mem_cons_of_mem _ List.mem_cons_self)))).1 (HS6.out.own _ (List.mem_cons_of_mem _ (List.mem_cons_of_mem _ List.mem_cons_self))).1 (by omega) (.int .i64 1) (.string S) (.bool false) (.int .u64 0) (.int .i64 z') (.int .i64 n) (.int .i64 e') (.int .i64 a')
        have hB := (below44 (rb := w.heap.size + 1) (sb := w.heap.size + 1 + 1) HS6.out.be (by omega) (by omega) (.int .i64 1) (.string S) (.bool false) (.int .u64 0) (.int .i64 z') (.int .i64 n) (.int .i64 e') (.int .i64 a')).drew
        generalize (set4 (set4 V (w.heap.size + 1) (.int .i64 1) (.string S) (.bool false) (.int .u64 0)) (w.heap.size + 1 + 1) (.int .i64 z') (.int .i64 n) (.int .i64 e') (.int .i64 a')).drew = VV at hP hB ⊢
        have hE := fun (act : Act) h1 h2 h3 => endROpd (Q := OpdTo L (pathP m) n w) (act := act) h1 (w.heap.size + 1) (w.heap.size + 1 + 1) h2 h3 hP ⟨⟨1, S, false, 0⟩, _, _, _, rfl, HST.out.rest (path_rest _), (fun o' l' h => path_opd h HSO.out), hB⟩
        first
          | (rename_i hKK; refine hKK _ _ (wp_ret ?_); exact hE _ rfl rfl rfl)
          | (go_wp2_with (fail); exact hE _ rfl rfl rfl)
set_option maxRecDepth 100000 in
set_option maxHeartbeats 4000000 in
theorem ropd_path0 {L : List Tk} {tb off cap : Nat} {n : Int} {w : World} (hL : LAt w tb off L) (hv : Vd L) (hl99 : L.length ≤ 99) {m : List Tk} {i : Nat} (hi : i < L.length) (hmi : L.drop i = m) (hmm : cMinus.test (hd m) = false) (h2 : (hd m).k ≠ 2) (h3 : (hd m).k ≠ 3) (h4 : (hd m).k ≠ 4) (hw0 : (Cl.wd kTRUE).test (hd m) = false) (hw1 : (Cl.wd kFALSE).test (hd m) = false) (hk : (hd m).k ≠ 1) :
    Calls Tryz.prog 115 #[.slice (some ⟨tb, off, none⟩) L.length cap, pV ((i : Nat) : Int) n 0 0] w (OpdTo L (operandP m) n w) := by
  have hst : Stt L (PR.ok () m) ((i : Nat) : Int) 0 0 := ⟨i, rfl, hi, hmi, rfl, rfl⟩
  have htbw := hL.lt
  have htb : ¬ tb = w.heap.size := by omega
  have htc : ¬ w.heap.size = tb := by omega
  have htb1 : ¬ tb = w.heap.size + 1 := by omega
  have htb2 : ¬ tb = w.heap.size + 1 + 1 := by omega
  have HS0 := Lib.hid (((RSt.start hL ((i : Nat) : Int) n 0 0).new (.cells #[.int .i64 0, .string ⟨#[]⟩, .bool false, .int .u64 0] 34)).new (pO 0 0 0 0))
  have hz1 : (w.alloc (pO ((i : Nat) : Int) n 0 0)).heap.size = w.heap.size + 1 := by simp
  have hz2 : ((w.alloc (pO ((i : Nat) : Int) n 0 0)).alloc (.cells #[.int .i64 0, .string ⟨#[]⟩, .bool false, .int .u64 0] 34)).heap.size = w.heap.size + 1 + 1 := by simp
  rw [hz1, hz2] at HS0
  clear hz1 hz2
  have HMI := Lib.hid (show ∀ wx, LAt wx tb off L → Calls Tryz.prog 57 #[.slice (some ⟨tb, off, none⟩) L.length cap, .agg #[.int .i64 (i : Nat), .int .i64 n, .int .i64 0, .int .i64 0], .int .i64 5, .string ⟨#[45]⟩] wx fun x w' => x = .returned (.bool false) ∧ Below wx.heap.size wx w' from fun wx h => by have h2 := ris_sg (r := PR.ok () m) (cap := cap) (n := n) [45] h hl99 hst; rw [show isR (PR.ok () m) (.sg [45]) = false from hmm] at h2; exact h2)
  obtain ⟨T, hT⟩ : ∃ T, hd m = T := ⟨_, rfl⟩
  have HTK := Lib.hid (fun wx (h : LAt wx tb off L) => show LiesAt wx tb (off + i * 4) (tkCs T) from by have := h.tok hi; rwa [hmi, hT] at this)
  have hop := opd_path hmm h2 h3 h4 hw0 hw1
  rw [hT] at h2 h3 h4 hw0 hw1
  have HPA := Lib.hid (fun wx (h : LAt wx tb off L) => rpath_any (cap := cap) (n := n) h hv hl99 hst)
  rw [hop]
  rw [hT] at hk
  have k2 : (((T.k : Nat) : Int) == 2) = false := by rw [beq_eq_false_iff_ne]; omega
  have k3 : (((T.k : Nat) : Int) == 3) = false := by rw [beq_eq_false_iff_ne]; omega
  have k4 : (((T.k : Nat) : Int) == 4) = false := by rw [beq_eq_false_iff_ne]; omega
  have k1 : (((T.k : Nat) : Int) == 1) = false := by rw [beq_eq_false_iff_ne]; omega
  clear hk h2 h3 h4 hw0 hw1 hop
  clear hst hmm hT hmi hL hv
  go_enter Tryz.func115, Tryz.ntmps115
  go_upto_region 1 with (fail)
  generalize ((w.alloc (pO ((i : Nat) : Int) n 0 0)).alloc (.cells #[.int .i64 0, .string ⟨#[]⟩, .bool false, .int .u64 0] 34)).alloc (pO 0 0 0 0) = W at *
  have hbx := HS0.out.box
  obtain ⟨p0, fp0, p1, fp1, p2, fp2, p3, fp3⟩ := bf4 hbx
  clear hbx
  have hr := (HS0.out.own _ (List.mem_cons_of_mem _ List.mem_cons_self)).1
  obtain ⟨r0, fr0, r1, fr1, r2, fr2, r3, fr3⟩ := bf4 hr
  clear hr
  have hr := (HS0.out.own _ List.mem_cons_self).1
  obtain ⟨s0, fs0, s1, fs1, s2, fs2, s3, fs3⟩ := bf4 hr
  clear hr
  go_upto_region 8 with (first
    | (go_at_call 57; (with_reducible refine (HMI.out _ HS0.out.at).mono ?_); rintro x w2 ⟨rfl, hb2⟩; have HS2 := Lib.hid (HS0.out.next hb2); have hbx := HS2.out.box; obtain ⟨p0, fp0, p1, fp1, p2, fp2, p3, fp3⟩ := bf4 hbx; clear hbx; have hr := (HS2.out.own _ (List.mem_cons_of_mem _ List.mem_cons_self)).1; obtain ⟨r0, fr0, r1, fr1, r2, fr2, r3, fr3⟩ := bf4 hr; clear hr; have hr := (HS2.out.own _ List.mem_cons_self).1; obtain ⟨s0, fs0, s1, fs1, s2, fs2, s3, fs3⟩ := bf4 hr; clear hr; have hh := HTK.out _ HS2.out.at; have t0 : w2.cell? ⟨tb, off + i * 4, none⟩ = some (.int .i64 ((T.k : Nat) : Int)) := hh 0 _ rfl; have t1 : w2.cell? ⟨tb, off + i * 4 + 1, none⟩ = some (.string (bs T.t)) := hh 1 _ rfl; have t2 : w2.cell? ⟨tb, off + i * 4 + 2, none⟩ = some (.int .u64 ((T.n : Nat) : Int)) := hh 2 _ rfl; have t3 : w2.cell? ⟨tb, off + i * 4 + 3, none⟩ = some (.int .i64 ((T.a : Nat) : Int)) := hh 3 _ rfl; clear hh; clear hb2))
  go_cut [6] (fun p wx => ∃ g, p = .pointer (some ⟨g, 0, none⟩) ∧ w.heap.size + 1 + 1 < g ∧ Hid (RSt w tb off L ((i : Nat) : Int) n 0 0 ((g, (.cells #[.int .i64 (T.k : Nat), .string (bs T.t), .int .u64 (T.n : Nat), .int .i64 (T.a : Nat)] 67)) :: [(w.heap.size + 1 + 1, pO 0 0 0 0), (w.heap.size + 1, .cells #[.int .i64 0, .string ⟨#[]⟩, .bool false, .int .u64 0] 34)]) wx))
  case first =>
    have hlast := lt_of_block (HS2.out.own _ List.mem_cons_self).1
    go_wp2_with (fail)
    go_meet
    exact ⟨w2.heap.size, rfl, hlast, Lib.hid (HS2.out.new _)⟩
  case rest =>
    obtain ⟨g, rfl, hg, HS3⟩ := hcut
    have hbx := HS3.out.box; obtain ⟨p0, fp0, p1, fp1, p2, fp2, p3, fp3⟩ := bf4 hbx; clear hbx; have hr := (HS3.out.own _ List.mem_cons_self).1; obtain ⟨t0, ft0, t1, ft1, t2, ft2, t3, ft3⟩ := bf4 hr; clear hr
    go_upto_region 9 with (fail)
    go_cut [7] (fun p wy => ∃ g7, p = .pointer (some ⟨g7, 0, none⟩) ∧ g < g7 ∧ Hid (RSt w tb off L ((i : Nat) : Int) n 0 0 ((g7, pO (((i : Nat) : Int) + 1) n 0 0) :: (g, (.cells #[.int .i64 (T.k : Nat), .string (bs T.t), .int .u64 (T.n : Nat), .int .i64 (T.a : Nat)] 67)) :: [(w.heap.size + 1 + 1, pO 0 0 0 0), (w.heap.size + 1, .cells #[.int .i64 0, .string ⟨#[]⟩, .bool false, .int .u64 0] 34)]) wy))
    case first =>
      have hlast := lt_of_block (HS3.out.own _ List.mem_cons_self).1
      go_wp2_with (fail)
      go_meet
      exact ⟨wc.heap.size, rfl, hlast, Lib.hid (HS3.out.new _)⟩
    case rest =>
      obtain ⟨g7, rfl, hg7, HS4⟩ := hcut
      have hr := (HS4.out.own _ (List.mem_cons_of_mem _ List.mem_cons_self)).1; obtain ⟨t0, ft0, t1, ft1, t2, ft2, t3, ft3⟩ := bf4 hr; clear hr
      have hr := (HS4.out.own _ List.mem_cons_self).1; obtain ⟨q0, fq0, q1, fq1, q2, fq2, q3, fq3⟩ := bf4 hr; clear hr
      have hr := (HS4.out.own _ (List.mem_cons_of_mem _ (List.mem_cons_of_mem _ (List.mem_cons_of_mem _ List.mem_cons_self)))).1; obtain ⟨r0, fr0, r1, fr1, r2, fr2, r3, fr3⟩ := bf4 hr; clear hr
      have hr := (HS4.out.own _ (List.mem_cons_of_mem _ (List.mem_cons_of_mem _ List.mem_cons_self))).1; obtain ⟨s0, fs0, s1, fs1, s2, fs2, s3, fs3⟩ := bf4 hr; clear hr
      have hbx := HS4.out.box; obtain ⟨p0, fp0, p1, fp1, p2, fp2, p3, fp3⟩ := bf4 hbx; clear hbx
      go_upto_region 22 with (go_at_call 137; refine (HPA.out _ HS4.out.at).mono ?_; rintro x w5 ⟨S, z', e', a', rfl, hs5, ho5, hb5⟩; have HS5 := Lib.hid (HS4.out.next hb5); have HST := Lib.hid hs5; have HSO := Lib.hid ho5; have hbx := HS5.out.box; obtain ⟨p0, fp0, p1, fp1, p2, fp2, p3, fp3⟩ := bf4 hbx; clear hbx hs5 ho5 hb5)
      have HS6 := Lib.hid (show RSt w tb off L z' n e' a' _ ((((w5.setCell ⟨w.heap.size, 0, none⟩ (.int .i64 z')).setCell ⟨w.heap.size, 1, none⟩ (.int .i64 n)).setCell ⟨w.heap.size, 2, none⟩ (.int .i64 e')).setCell ⟨w.heap.size, 3, none⟩ (.int .i64 a')) from HS5.out.put z' n e' a')
      generalize (((w5.setCell ⟨w.heap.size, 0, none⟩ (.int .i64 z')).setCell ⟨w.heap.size, 1, none⟩ (.int .i64 n)).setCell ⟨w.heap.size, 2, none⟩ (.int .i64 e')).setCell ⟨w.heap.size, 3, none⟩ (.int .i64 a') = V at *
      have hr := (HS6.out.own _ (List.mem_cons_of_mem _ (List.mem_cons_of_mem _ (List.mem_cons_of_mem _ List.mem_cons_self)))).1; obtain ⟨r0, fr0, r1, fr1, r2, fr2, r3, fr3⟩ := bf4 hr; clear hr
      have hr := (HS6.out.own _ (List.mem_cons_of_mem _ (List.mem_cons_of_mem _ List.mem_cons_self))).1; obtain ⟨s0, fs0, s1, fs1, s2, fs2, s3, fs3⟩ := bf4 hr; clear hr
      have hbx := HS6.out.box; obtain ⟨p0, fp0, p1, fp1, p2, fp2, p3, fp3⟩ := bf4 hbx; clear hbx
      go_region
      all_goals
        have hP := put44d (HS6.out.own _ (List.mem_cons_of_mem _ (List.mem_cons_of_mem _ (List.mem_cons_of_mem _ List.mem_cons_self)))).1 (HS6.out.own _ (List.mem_cons_of_mem _ (List.mem_cons_of_mem _ List.mem_cons_self))).1 (by omega) (.int .i64 1) (.string S) (.bool false) (.int .u64 0) (.int .i64 z') (.int .i64 n) (.int .i64 e') (.int .i64 a')
        have hB := (below44 (rb := w.heap.size + 1) (sb := w.heap.size + 1 + 1) HS6.out.be (by omega) (by omega) (.int .i64 1) (.string S) (.bool false) (.int .u64 0) (.int .i64 z') (.int .i64 n) (.int .i64 e') (.int .i64 a')).drew
        generalize (set4 (set4 V (w.heap.size + 1) (.int .i64 1) (.string S) (.bool false) (.int .u64 0)) (w.heap.size + 1 + 1) (.int .i64 z') (.int .i64 n) (.int .i64 e') (.int .i64 a')).drew = VV at hP hB ⊢
        have hE := fun (act : Act) h1 h2 h3 => endROpd (Q := OpdTo L (pathP m) n w) (act := act) h1 (w.heap.size + 1) (w.heap.size + 1 + 1) h2 h3 hP ⟨⟨1, S, false, 0⟩, _, _, _, rfl, HST.out.rest (path_rest _), (fun o' l' h => path_opd h HSO.out), hB⟩
        first
          | (rename_i hKK; refine hKK _ _ (wp_ret ?_); exact hE _ rfl rfl rfl)
          | (go_wp2_with (fail); exact hE _ rfl rfl rfl)
/-- an operand, wherever the parser is -/
theorem ropd_any {α : Type} {r : PR α} {z e a : Int} {L : List Tk} {tb off cap : Nat} {n : Int} {w : World} (hL : LAt w tb off L) (hv : Vd L) (hl99 : L.length ≤ 99) (hS : Stt L r z e a) :
    Calls Tryz.prog 115 #[.slice (some ⟨tb, off, none⟩) L.length cap, pV z n e a] w (OpdTo L (opR r) n w) := by
  cases r with
  | err e0 l0 =>
    have he : e ≠ 0 := by obtain ⟨i, h1, h2, h3⟩ := hS; exact h3.2.1
    exact ropd_dead hL hv hl99 (hS.rest rfl) he
  | ok x m =>
    obtain ⟨i, rfl, hi, hmi, rfl, rfl⟩ := hS.ok_of
    show Calls _ _ _ w (OpdTo L (operandP m) n w)
    cases hmm : cMinus.test (hd m) with
    | true =>
      by_cases hk : (hd m.tail).k = 2
      · exact ropd_minus hL hv hl99 hi hmi hmm hk
      · exact ropd_minusno hL hv hl99 hi hmi hmm hk
    | false =>
      by_cases h2 : (hd m).k = 2
      · exact ropd_num hL hv hl99 hi hmi hmm h2
      by_cases h3 : (hd m).k = 3
      · exact ropd_text hL hv hl99 hi hmi hmm h3
      by_cases h4 : (hd m).k = 4
      · exact ropd_par hL hv hl99 hi hmi hmm h4
      cases hw0 : (Cl.wd kTRUE).test (hd m) with
      | true => exact ropd_true hL hv hl99 hi hmi hmm hw0
      | false =>
        cases hw1 : (Cl.wd kFALSE).test (hd m) with
        | true => exact ropd_false hL hv hl99 hi hmi hmm hw0 hw1
        | false =>
          by_cases hk : (hd m).k = 1
          · exact ropd_path1 hL hv hl99 hi hmi hmm h2 h3 h4 hw0 hw1 hk
          · exact ropd_path0 hL hv hl99 hi hmi hmm h2 h3 h4 hw0 hw1 hk
end Go.Proofs.YtjgdkiikkgdbaaaGreatDoor
