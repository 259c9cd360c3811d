/- Contract of the reference of chapter 7: one. -/
import Derived.Test.YtblnhoagdnnjdaaGreatBoundsRef
namespace Go.Proofs.YtblnhoagdnnjdaaGreat
open Go.RowKit
set_option linter.unusedVariables false
theorem end_num {L : Nat → TypeV} {op : Nat → Bool} {most : Bool} {t : Nat} (h : OkT L t) (hn : numK (L t).kind = true) (a : Nat) : endE L op most t a = numE (szK (L t).kind).toNat a := by
  rw [endE_eq h, stepN (by unfold numK at hn; simp at hn; omega)]
theorem done_in {E : Nat → Nat → Nat} {n p : Nat} {v : Value} {w : World} (h : DoneAt E n v w) (hp : p < n) : ∃ g cap u, v = .slice (some ⟨g, 0, none⟩) n cap ∧ w.cell? ⟨g, p, none⟩ = some u ∧ EightAt (E p) u w := by
  obtain ⟨a, cap, rfl, hc⟩ := h
  obtain ⟨g, u, rfl, h1, h2⟩ := hc p hp
  exact ⟨g, cap, u, rfl, h1, h2⟩
set_option maxRecDepth 20000 in
set_option maxHeartbeats 1000000 in
theorem one7_10 (ao : Option Addr) (len cap : Nat) (L : Nat → TypeV) (most : Bool) (t a : Nat) (dv : Value) (hlen : len ≤ 1000000) (ht : t < len) (hok : ∀ i, i < len → OkT L i) (hk : (L t).kind = 10) (ha : a ≤ 7) (w : World)
    (HL : ∀ i, i < len → TypeAt w ao i (L i)) (HD : DoneAt (endE L (openT L len) most) t dv w) :
    Calls Tryz.prog 16 #[.slice ao len cap, dv, .int .i64 (t : Nat), .int .i64 (a : Nat), .bool most] w fun e w' => e = .returned (.int .i64 (stepE L (openT L len) most (endE L (openT L len) most) t a - a : Nat)) ∧ Below w.heap.size w w' := by
  rw [step10 hk]
  have hnb := nB_le (s := 4) (by unfold SzN; omega) a
  have hnum := fun wx => refNumber7_any a 4 (by unfold SzN; omega) (by omega) wx
  rw [numE_nB]
  obtain ⟨m, hm⟩ : ∃ m, nB 4 a = m := ⟨_, rfl⟩
  rw [hm] at hnb hnum ⊢
  have HN := Lib.hid hnum
  clear hnum hm
  have hbd := hok t ht |>.bound (.inl hk)
  clear HD
  have hres : (a + m + cntE most (L t) + 1 - a : Nat) = m + 1 + cntE most (L t) := by omega
  rw [hres]
  clear hres
  obtain ⟨b, off, rfl, t0, t1, t2, t3, t4, t5, twf, tis⟩ := HL t ht
  obtain ⟨T, hT⟩ : ∃ T, L t = T := ⟨_, rfl⟩
  rw [hT] at t0 t1 t2 t3 t4 t5 hk hbd ⊢
  have hst := BoxT.start T w
  have hcl := (BoxT.start T w).cells
  obtain ⟨d0, d1, d2, d3, d4, d5⟩ := hcl
  unfold typO at hst d0 d1 d2 d3 d4 d5
  have HX := Lib.hid hst
  have hbl : b < w.heap.size := World.block_lt_of_cell? w _ t0
  clear hst hT hok HL twf tis
  have k10 : (T.kind == 10) = true := by simp; omega
  clear hk
  cases most
  all_goals
    go_enter Tryz.func16, Tryz.ntmps16
    go_upto_region 2 with (fail)
    generalize (w.alloc (.cells #[.int .i64 T.kind, .string T.name, .int .i64 T.bound, .int .i64 T.of, .int .i64 T.tag, .slice T.ia T.ilen T.icap] 35)) = wb at *
    clear t0 t1 t2 t3 t4 t5
    go_wp2_with (go_at_call 32; refine (HN.out _).mono ?_; rintro e w3 ⟨rfl, rfl⟩)
    go_ret
    exact ⟨ret_i (by unfold cntE; first | (simp; done) | (simp; omega)), HX.out.2⟩
set_option maxRecDepth 20000 in
set_option maxHeartbeats 1000000 in
theorem one7_11 (ao : Option Addr) (len cap : Nat) (L : Nat → TypeV) (most : Bool) (t a : Nat) (dv : Value) (hlen : len ≤ 1000000) (ht : t < len) (hok : ∀ i, i < len → OkT L i) (hk : (L t).kind = 11) (ha : a ≤ 7) (w : World)
    (HL : ∀ i, i < len → TypeAt w ao i (L i)) (HD : DoneAt (endE L (openT L len) most) t dv w) :
    Calls Tryz.prog 16 #[.slice ao len cap, dv, .int .i64 (t : Nat), .int .i64 (a : Nat), .bool most] w fun e w' => e = .returned (.int .i64 (stepE L (openT L len) most (endE L (openT L len) most) t a - a : Nat)) ∧ Below w.heap.size w w' := by
  rw [step11 hk]
  have hnb := nB_le (s := 4) (by unfold SzN; omega) a
  have hnum := fun wx => refNumber7_any a 4 (by unfold SzN; omega) (by omega) wx
  rw [numE_nB]
  obtain ⟨m, hm⟩ : ∃ m, nB 4 a = m := ⟨_, rfl⟩
  rw [hm] at hnb hnum ⊢
  have HN := Lib.hid hnum
  clear hnum hm
  have hbd := hok t ht |>.bound (.inr (.inl hk))
  have ho := hok t ht |>.of (.inl hk)
  have hgd := end_good (op := openT L len) (most := most) hok (t := (L t).of.toNat) (by omega)
  obtain ⟨gd, dcap, u, rfl, hcu, hu⟩ := done_in HD (p := (L t).of.toNat) (by omega)
  have hrow := fun wx (hb : Below w.heap.size w wx) => row_any (endE L (openT L len) most (L t).of.toNat) u (L t).bound.toNat (a + m) hgd (by omega) (by have : (L t).bound.toNat * 1000000000000 ≤ 64 * 1000000000000 := Nat.mul_le_mul_right _ (by omega); omega) wx (hu.held hb)
  have hge := seqE_ge (F := fun _ => endE L (openT L len) most (L t).of.toNat) (L t).bound.toNat (a + m) (fun j hj => hgd.inc)
  have hle := seqE_bnd (F := fun _ => endE L (openT L len) most (L t).of.toNat) (X := 139314069504) (L t).bound.toNat (a + m) (fun j hj a => end_le hok (by omega) a)
  have hle2 : (L t).bound.toNat * 139314069504 ≤ 64 * 139314069504 := Nat.mul_le_mul_right _ (by omega)
  have htt : (((L t).bound.toNat : Nat) : Int) = (L t).bound := by omega
  obtain ⟨p, hp⟩ : ∃ p, (L t).of.toNat = p := ⟨_, rfl⟩
  have hof : (L t).of = (p : Nat) := by omega
  rw [htt, hp] at hrow
  rw [hp] at hcu hge hle
  have hres : (seqE (fun _ => endE L (openT L len) most (L t).of.toNat) (cntE most (L t)) (a + m) - a : Nat) = if most then m + (seqE (fun _ => endE L (openT L len) most p) (L t).bound.toNat (a + m) - (a + m)) else m := by
    rw [hp]
    unfold cntE
    cases most with
    | true => simp only [if_true]; omega
    | false => show a + m - a = m; omega
  rw [hres]
  obtain ⟨q, hq⟩ : ∃ q, seqE (fun _ => endE L (openT L len) most p) (L t).bound.toNat (a + m) - (a + m) = q := ⟨_, rfl⟩
  have hqb : q ≤ 10000000000000 := by omega
  have hpt : p < t := by omega
  rw [hq] at hrow ⊢
  have hw1 : IntKind.i64.wrap ((a : Nat) + (m : Nat) : Int) = ((a + m : Nat) : Int) := by rw [IntWalk.i64_in _ (by omega)]; omega
  have hw2 : IntKind.i64.wrap ((m : Nat) + (q : Nat) : Int) = ((m + q : Nat) : Int) := by rw [IntWalk.i64_in _ (by omega)]; omega
  rw [← hw1] at hrow
  have HR := Lib.hid hrow
  have HW2 := Lib.hid hw2
  clear hrow hge hle hle2 hgd hu hres hq htt ho HD hw1 hw2
  obtain ⟨b, off, rfl, t0, t1, t2, t3, t4, t5, twf, tis⟩ := HL t ht
  obtain ⟨T, hT⟩ : ∃ T, L t = T := ⟨_, rfl⟩
  rw [hT] at t0 t1 t2 t3 t4 t5 hk hbd hof HR
  have hst := BoxT.start T w
  have hcl := (BoxT.start T w).cells
  obtain ⟨d0, d1, d2, d3, d4, d5⟩ := hcl
  unfold typO at hst d0 d1 d2 d3 d4 d5
  have HX := Lib.hid hst
  have hbl : b < w.heap.size := World.block_lt_of_cell? w _ t0
  clear hst hT hok HL twf tis
  have k10 : (T.kind == 10) = false := by simp; omega
  have k11 : (T.kind == 11) = true := by simp; omega
  clear hk
  have hcu2 := fun w1 (hb : Below w.heap.size w w1) => keep6 hb hcu
  have HCU := Lib.hid hcu2
  have HOF := Lib.hid hof
  clear hcu2 hcu hp hof
  cases most
  · go_enter Tryz.func16, Tryz.ntmps16
    go_upto_region 2 with (fail)
    generalize (w.alloc (.cells #[.int .i64 T.kind, .string T.name, .int .i64 T.bound, .int .i64 T.of, .int .i64 T.tag, .slice T.ia T.ilen T.icap] 35)) = wb at *
    clear t0 t1 t2 t3 t4 t5
    go_wp2_with (go_at_call 32; refine (HN.out _).mono ?_; rintro e w3 ⟨rfl, rfl⟩)
    go_ret
    exact ⟨rfl, HX.out.2⟩
  · go_enter Tryz.func16, Tryz.ntmps16
    go_upto_region 2 with (fail)
    generalize (w.alloc (.cells #[.int .i64 T.kind, .string T.name, .int .i64 T.bound, .int .i64 T.of, .int .i64 T.tag, .slice T.ia T.ilen T.icap] 35)) = wb at *
    clear t0 t1 t2 t3 t4 t5
    have cu := HCU.out _ HX.out.2
    rw [HOF.out] at d3
    go_wp2_with (go_at_call 32; refine (HN.out _).mono ?_; rintro e w3 ⟨rfl, rfl⟩)
    go_region_held3 (fun w' => w'.cell? ⟨w.heap.size, 2, none⟩ = some (.int .i64 T.bound) ∧ w'.cell? ⟨w.heap.size, 3, none⟩ = some (.int .i64 (p : Nat)) ∧ w'.cell? ⟨gd, p, none⟩ = some u)
      (first | exact ⟨d2, d3, cu⟩ | fail)
      (first | (go_at_call 33; refine (HR.out _ (by first | exact HX.out.2 | exact HX.out.2.drew)).mono ?_; rintro e w3 ⟨rfl, rfl⟩))
    go_wp2
    go_ret
    exact ⟨ret_i (by first | exact HW2.out | (rw [HW2.out]; rfl)), by first | exact HX.out.2 | exact HX.out.2.drew⟩
set_option maxRecDepth 20000 in
set_option maxHeartbeats 1000000 in
theorem one7_12 (ao : Option Addr) (len cap : Nat) (L : Nat → TypeV) (most : Bool) (t a : Nat) (dv : Value) (hlen : len ≤ 1000000) (ht : t < len) (hok : ∀ i, i < len → OkT L i) (hk : (L t).kind = 12) (ha : a ≤ 7) (w : World)
    (HL : ∀ i, i < len → TypeAt w ao i (L i)) (HD : DoneAt (endE L (openT L len) most) t dv w) :
    Calls Tryz.prog 16 #[.slice ao len cap, dv, .int .i64 (t : Nat), .int .i64 (a : Nat), .bool most] w fun e w' => e = .returned (.int .i64 (stepE L (openT L len) most (endE L (openT L len) most) t a - a : Nat)) ∧ Below w.heap.size w w' := by
  rw [step12 hk]
  have hbd := hok t ht |>.bound (.inr (.inr hk))
  have ho := hok t ht |>.of (.inr hk)
  have hgd := end_good (op := openT L len) (most := most) hok (t := (L t).of.toNat) (by omega)
  obtain ⟨gd, dcap, u, rfl, hcu, hu⟩ := done_in HD (p := (L t).of.toNat) (by omega)
  have hrow := fun wx (hb : Below w.heap.size w wx) => row_any (endE L (openT L len) most (L t).of.toNat) u (L t).bound.toNat a hgd (by omega) (by have : (L t).bound.toNat * 1000000000000 ≤ 64 * 1000000000000 := Nat.mul_le_mul_right _ (by omega); omega) wx (hu.held hb)
  have htt : (((L t).bound.toNat : Nat) : Int) = (L t).bound := by omega
  obtain ⟨p, hp⟩ : ∃ p, (L t).of.toNat = p := ⟨_, rfl⟩
  have hof : (L t).of = (p : Nat) := by omega
  rw [htt, hp] at hrow
  rw [hp] at hcu ⊢
  obtain ⟨q, hq⟩ : ∃ q, seqE (fun _ => endE L (openT L len) most p) (L t).bound.toNat a - a = q := ⟨_, rfl⟩
  have hpt : p < t := by omega
  rw [hq] at hrow ⊢
  have HR := Lib.hid hrow
  clear hrow hgd hu hq htt ho HD
  obtain ⟨b, off, rfl, t0, t1, t2, t3, t4, t5, twf, tis⟩ := HL t ht
  obtain ⟨T, hT⟩ : ∃ T, L t = T := ⟨_, rfl⟩
  rw [hT] at t0 t1 t2 t3 t4 t5 hk hbd hof HR
  have hst := BoxT.start T w
  have hcl := (BoxT.start T w).cells
  obtain ⟨d0, d1, d2, d3, d4, d5⟩ := hcl
  unfold typO at hst d0 d1 d2 d3 d4 d5
  have HX := Lib.hid hst
  have hbl : b < w.heap.size := World.block_lt_of_cell? w _ t0
  clear hst hT hok HL twf tis
  have k10 : (T.kind == 10) = false := by simp; omega
  have k11 : (T.kind == 11) = false := by simp; omega
  have k12 : (T.kind == 12) = true := by simp; omega
  clear hk
  have hcu2 := fun w1 (hb : Below w.heap.size w w1) => keep6 hb hcu
  have HCU := Lib.hid hcu2
  have HOF := Lib.hid hof
  clear hcu2 hcu hp hof
  go_enter Tryz.func16, Tryz.ntmps16
  go_upto_region 2 with (fail)
  generalize (w.alloc (.cells #[.int .i64 T.kind, .string T.name, .int .i64 T.bound, .int .i64 T.of, .int .i64 T.tag, .slice T.ia T.ilen T.icap] 35)) = wb at *
  clear t0 t1 t2 t3 t4 t5
  have cu := HCU.out _ HX.out.2
  rw [HOF.out] at d3
  go_wp2_with fail
  go_region_held3 (fun w' => w'.cell? ⟨w.heap.size, 2, none⟩ = some (.int .i64 T.bound) ∧ w'.cell? ⟨w.heap.size, 3, none⟩ = some (.int .i64 (p : Nat)) ∧ w'.cell? ⟨gd, p, none⟩ = some u)
      (first | exact ⟨d2, d3, cu⟩ | fail)
    (first | (go_at_call 33; refine (HR.out _ (by first | exact HX.out.2 | exact HX.out.2.drew)).mono ?_; rintro e w3 ⟨rfl, rfl⟩))
  go_wp2
  go_ret
  exact ⟨rfl, by first | exact HX.out.2 | exact HX.out.2.drew⟩
set_option maxRecDepth 20000 in
set_option maxHeartbeats 1000000 in
theorem one7_13 (ao : Option Addr) (len cap : Nat) (L : Nat → TypeV) (most : Bool) (t a : Nat) (dv : Value) (hlen : len ≤ 1000000) (ht : t < len) (hok : ∀ i, i < len → OkT L i) (hk : (L t).kind = 13) (ha : a ≤ 7) (w : World)
    (HL : ∀ i, i < len → TypeAt w ao i (L i)) (HD : DoneAt (endE L (openT L len) most) t dv w) :
    Calls Tryz.prog 16 #[.slice ao len cap, dv, .int .i64 (t : Nat), .int .i64 (a : Nat), .bool most] w fun e w' => e = .returned (.int .i64 (stepE L (openT L len) most (endE L (openT L len) most) t a - a : Nat)) ∧ Below w.heap.size w w' := by
  rw [step13 hk]
  have hit := hok t ht |>.items (.inl hk)
  have hcn := hok t ht |>.count (.inl hk)
  have hIs : ItemsAt w (L t) := by obtain ⟨_, _, _, _, _, _, _, _, _, _, hIs⟩ := HL t ht; exact hIs
  have hsp : ∀ j, j < (L t).ilen → ∃ p : Nat, ((L t).items j).type = (p : Nat) ∧ p < t ∧ ∀ a, ptE (endE L (openT L len) most) (L t) j a = endE L (openT L len) most p a := fun j hj => by
    have := hit j hj
    exact ⟨((L t).items j).type.toNat, by omega, by omega, fun _ => rfl⟩
  have hgd := fun p (hp : p < t) => end_good (op := openT L len) (most := most) hok (t := p) (by omega)
  have hup := fun p (hp : p < t) a => end_le (op := openT L len) (most := most) hok (t := p) (by omega) a
  obtain ⟨S, hS0, hSn, hSl⟩ : ∃ S : Nat → Nat, S 0 = a ∧ (∀ j, S (j + 1) = ptE (endE L (openT L len) most) (L t) j (S j)) ∧ ∀ j, S j = seqE (ptE (endE L (openT L len) most) (L t)) j a := ⟨fun j => seqE (ptE (endE L (openT L len) most) (L t)) j a, rfl, fun _ => rfl, fun _ => rfl⟩
  rw [← hSl]
  have hge : ∀ j, j ≤ (L t).ilen → a ≤ S j ∧ S j ≤ a + j * 139314069504 := by
    intro j
    induction j with
    | zero => intro _; rw [hS0]; omega
    | succ j ih =>
      intro hj
      obtain ⟨p, _, hp, he⟩ := hsp j (by omega)
      rw [hSn j, he, Nat.succ_mul]
      have h1 := ih (by omega)
      have h2 := (hgd p hp).inc (S j)
      have h3 := hup p hp (S j)
      omega
  have HG := Lib.hid hge
  have HS0 := Lib.hid hS0
  have HSN := Lib.hid hSn
  have HSP := Lib.hid hsp
  have HGD := Lib.hid hgd
  have HUP := Lib.hid hup
  have HDD := Lib.hid HD
  obtain ⟨da, dcap, rfl, _⟩ := HD
  clear hge hS0 hSn hSl hsp hgd hup hit
  obtain ⟨b, off, rfl, t0, t1, t2, t3, t4, t5, twf, tis⟩ := HL t ht
  obtain ⟨T, hT⟩ : ∃ T, L t = T := ⟨_, rfl⟩
  rw [hT] at t0 t1 t2 t3 t4 t5 hk hcn hIs HG HSN HSP ⊢
  have hst := BoxT.start T w
  have hcl := (BoxT.start T w).cells
  obtain ⟨d0, d1, d2, d3, d4, d5⟩ := hcl
  unfold typO at hst d0 d1 d2 d3 d4 d5
  have HX := Lib.hid hst
  have hbl : b < w.heap.size := World.block_lt_of_cell? w _ t0
  clear hst hT hok HL twf tis
  have k10 : (T.kind == 10) = false := by simp; omega
  have k11 : (T.kind == 11) = false := by simp; omega
  have k12 : (T.kind == 12) = false := by simp; omega
  have k13 : (T.kind == 13) = true := by simp; omega
  clear hk
  obtain ⟨hil, hi9⟩ := hIs
  obtain ⟨ia, hia⟩ : ∃ ia, T.ia = ia := ⟨_, rfl⟩
  rw [hia] at t5 d0 d1 d2 d3 d4 d5 HX hi9
  have HI := Lib.hid hi9
  have HIA := Lib.hid hia
  clear hi9 hia
  go_enter Tryz.func16, Tryz.ntmps16
  go_upto_region 2 with (fail)
  generalize (w.alloc (.cells #[.int .i64 T.kind, .string T.name, .int .i64 T.bound, .int .i64 T.of, .int .i64 T.tag, .slice ia T.ilen T.icap] 35)) = wb at *
  clear t0 t1 t2 t3 t4 t5
  go_wp2
  clear d0 d1 d2 d3 d4 d5
  go_loopw [14, 15] (fun s i wr => ∃ j : Nat, j ≤ T.ilen ∧ i = .int .i64 j ∧ (∃ x : Nat, s = .int .i64 (x : Nat) ∧ S j = a + x) ∧ Hid (BoxT w.heap.size T w wr)) (fun _ i _ => T.ilen - (intOf i).toNat)
  case atStart => exact ⟨0, Nat.zero_le _, rfl, ⟨0, rfl, by rw [HS0.out]; rfl⟩, HX⟩
  case round =>
    obtain ⟨j, hj, rfl, ⟨x, rfl, hx⟩, HX2⟩ := hrel
    obtain ⟨d0, d1, d2, d3, d4, d5⟩ := HX2.out.cells
    rw [HIA.out] at d5
    by_cases hlt : j < T.ilen
    · obtain ⟨p, hp1, hp2, hpe⟩ := HSP.out j hlt
      obtain ⟨b2, off2, rfl, e0, e1, e2, e3, e4, wi⟩ := (HI.out j hlt).held (w1 := wr) HX2.out.2
      obtain ⟨gd, dcap', u, hde, cu, hu⟩ := done_in (HDD.out.held HX2.out.2) hp2
      injection hde with hd1 hd2 hd3
      subst hd1 hd3
      have hg := HG.out j hj
      have hmul : j * 139314069504 ≤ 16 * 139314069504 := Nat.mul_le_mul_right _ (by omega)
      rw [hx] at hg
      have hxl : x ≤ 3000000000000 := by omega
      have hrow := row_any (endE L (openT L len) most p) u 1 (a + x) (HGD.out p hp2) (by decide) (by omega) wr hu
      have hN := HSN.out j
      rw [hpe, hx] at hN
      have hinc := (HGD.out p hp2).inc (a + x)
      have hup := HUP.out p hp2 (a + x)
      have hs1 : seqE (fun _ => endE L (openT L len) most p) 1 (a + x) = endE L (openT L len) most p (a + x) := rfl
      rw [hs1] at hrow
      obtain ⟨z, hz⟩ : ∃ z, endE L (openT L len) most p (a + x) - (a + x) = z := ⟨_, rfl⟩
      rw [hz] at hrow
      have hcast : (((a + x : Nat)) : Int) = (a : Int) + (x : Int) := by omega
      rw [hcast] at hrow
      have hzl : z ≤ 139314069504 := by omega
      have HR := Lib.hid hrow
      have HN := Lib.hid (show S (j + 1) = a + (x + z) by rw [hN]; omega)
      rw [hp1] at e2
      clear hrow hN hinc hup hs1 hz hcast hg hmul hx hpe hu e0 e1 e3 e4 wi hp1
      go_wp2_with (go_at_call 33; refine HR.out.mono ?_; rintro e w1 ⟨rfl, rfl⟩)
      go_roundw
      case rel => exact ⟨j + 1, by omega, by go_num, ⟨x + z, by go_num, by rw [HN.out]⟩, HX2⟩
      case measure => simp [intOf]; omega
    · obtain rfl : j = T.ilen := by omega
      have HXX := Lib.hid hx
      clear hx
      go_wp2
      go_ret
      exact ⟨ret_i (by have := HXX.out; omega), HX2.out.2⟩
set_option maxRecDepth 20000 in
set_option maxHeartbeats 1000000 in
theorem one7_14 (ao : Option Addr) (len cap : Nat) (L : Nat → TypeV) (most : Bool) (t a : Nat) (dv : Value) (hlen : len ≤ 1000000) (ht : t < len) (hok : ∀ i, i < len → OkT L i) (hk : (L t).kind = 14) (ha : a ≤ 7) (w : World)
    (HL : ∀ i, i < len → TypeAt w ao i (L i)) (HD : DoneAt (endE L (openT L len) most) t dv w) :
    Calls Tryz.prog 16 #[.slice ao len cap, dv, .int .i64 (t : Nat), .int .i64 (a : Nat), .bool most] w fun e w' => e = .returned (.int .i64 (stepE L (openT L len) most (endE L (openT L len) most) t a - a : Nat)) ∧ Below w.heap.size w w' := by
  rw [step14 hk]
  have hit := hok t ht |>.items (.inr hk)
  have htg := hok t ht |>.tag hk
  have hcn := hok t ht |>.count (.inr hk)
  have hIs : ItemsAt w (L t) := by obtain ⟨_, _, _, _, _, _, _, _, _, _, hIs⟩ := HL t ht; exact hIs
  obtain ⟨p, hp⟩ : ∃ p, (L t).tag.toNat = p := ⟨_, rfl⟩
  have htag : (L t).tag = (p : Nat) := by omega
  have hpt : p < t := by omega
  have hpl : p < len := by omega
  obtain ⟨hs, hs0⟩ := szN_of htg.2.2.2
  rw [hp] at hs hs0
  have hEt : endE L (openT L len) most (L t).tag.toNat a = a + nB (szK (L p).kind).toNat a := by rw [hp, end_num (hok p hpl) (by rw [← hp]; exact htg.2.2.2), numE_nB]
  rw [hEt]
  have hnb := nB_le hs a
  have hnum := fun wx => refNumber7_any a (szK (L p).kind).toNat hs (by omega) wx
  have hszz : (((szK (L p).kind).toNat : Nat) : Int) = szK (L p).kind := by omega
  rw [hszz] at hnum
  obtain ⟨m, hm⟩ : ∃ m, nB (szK (L p).kind).toNat a = m := ⟨_, rfl⟩
  rw [hm] at hnb hnum ⊢
  have hop := fun wx (hb : Below w.heap.size w wx) => refOpen7_any ao len cap L t hlen ht hk ⟨htg.1, by omega⟩ wx (hold HL hb)
  obtain ⟨op, hopp⟩ : ∃ op, openT L len t = op := ⟨_, rfl⟩
  rw [hopp] at hop
  have hgd := fun p (hp : p < t) => end_good (op := openT L len) (most := most) hok (t := p) (by omega)
  have hup := fun p (hp : p < t) a => end_le (op := openT L len) (most := most) hok (t := p) (by omega) a
  have hbr := fun wx (hb : Below w.heap.size w wx) => branch7_any (L t) (fun j => ((L t).items j).type.toNat) (endE L (openT L len) most) t (a + m) dv most op hcn.1 hcn.2 (fun j hj => by have := hit j hj; omega) hgd (by omega) wx (hIs.held hb) (HD.held hb)
  have hq0 : unionE most (openT L len t) (a + m) (fun j => ptE (endE L (openT L len) most) (L t) j (a + m)) (L t).ilen = unionE most op (a + m) (fun j => endE L (openT L len) most ((L t).items j).type.toNat (a + m)) (L t).ilen := by rw [hopp]; rfl
  rw [hq0]
  have hlo : a + m ≤ unionE most op (a + m) (fun j => endE L (openT L len) most ((L t).items j).type.toNat (a + m)) (L t).ilen := pick_lo _ (unX_all (P := fun x => a + m ≤ x) hcn.1 (Nat.le_refl _) fun j hj => Nat.le_of_lt ((hgd _ (by have := hit j hj; omega)).inc _))
  have hhi : unionE most op (a + m) (fun j => endE L (openT L len) most ((L t).items j).type.toNat (a + m)) (L t).ilen ≤ a + m + 139314069504 := pick_hi _ (unX_all (P := fun x => x ≤ a + m + 139314069504) hcn.1 (by omega) fun j hj => hup _ (by have := hit j hj; omega) _)
  obtain ⟨q, hq⟩ : ∃ q, unionE most op (a + m) (fun j => endE L (openT L len) most ((L t).items j).type.toNat (a + m)) (L t).ilen - (a + m) = q := ⟨_, rfl⟩
  have hres : unionE most op (a + m) (fun j => endE L (openT L len) most ((L t).items j).type.toNat (a + m)) (L t).ilen - a = m + q := by omega
  have hql : q ≤ 139314069504 := by omega
  rw [hq] at hbr
  rw [hres]
  obtain ⟨b0, off0, rfl, s0, s1, s2, s3, s4, s5, swf, sis⟩ := HL p hpl
  have HN := Lib.hid hnum
  have HO := Lib.hid hop
  have hw1 : IntKind.i64.wrap ((a : Nat) + (m : Nat) : Int) = ((a + m : Nat) : Int) := by rw [IntWalk.i64_in _ (by omega)]; omega
  have hw2 : IntKind.i64.wrap ((m : Nat) + (q : Nat) : Int) = ((m + q : Nat) : Int) := by rw [IntWalk.i64_in _ (by omega)]; omega
  rw [← hw1] at hbr
  have HW2 := Lib.hid hw2
  clear hw1 hw2
  obtain ⟨U, hU⟩ : ∃ U, (L p).kind = U := ⟨_, rfl⟩
  rw [hU] at s0 HN
  clear hnum hop hgd hup hit hcn hIs htg hs hs0 hEt hszz hm hopp hq0 hlo hhi hq hres hp s1 s2 s3 s4 s5 swf sis HD hU
  obtain ⟨b, off, hao, t0, t1, t2, t3, t4, t5, twf, tis⟩ := HL t ht
  obtain ⟨T, hT⟩ : ∃ T, L t = T := ⟨_, rfl⟩
  rw [hT] at t0 t1 t2 t3 t4 t5 hk htag hbr
  have hst := BoxT.start T w
  have hcl := (BoxT.start T w).cells
  obtain ⟨d0, d1, d2, d3, d4, d5⟩ := hcl
  unfold typO at hst d0 d1 d2 d3 d4 d5
  have HX := Lib.hid hst
  have hbl : b < w.heap.size := World.block_lt_of_cell? w _ t0
  clear hst hT hok HL twf tis
  have k10 : (T.kind == 10) = false := by simp; omega
  have k11 : (T.kind == 11) = false := by simp; omega
  have k12 : (T.kind == 12) = false := by simp; omega
  have k13 : (T.kind == 13) = false := by simp; omega
  have k14 : (T.kind == 14) = true := by simp; omega
  clear hk
  obtain ⟨hb1, hb2⟩ : b = b0 ∧ off = off0 := by
    have := hao; injection this with h; injection h with h1 h2; exact ⟨h1.symm, h2.symm⟩
  subst hb1 hb2
  clear hao
  unfold typV at hbr
  have HB := Lib.hid hbr
  clear hbr
  have HTAG := Lib.hid htag
  clear htag
  go_enter Tryz.func16, Tryz.ntmps16
  go_upto_region 2 with (fail)
  generalize (w.alloc (.cells #[.int .i64 T.kind, .string T.name, .int .i64 T.bound, .int .i64 T.of, .int .i64 T.tag, .slice T.ia T.ilen T.icap] 35)) = wb at *
  clear t0 t1 t2 t3 t4 t5
  have s0b := keep6 HX.out.2 s0
  have d4t := d4
  have HD4 := Lib.hid d4t
  rw [HTAG.out] at d4
  clear s0 d4t
  go_upto_region 24 with (first
    | (go_at_call 28; refine (refSize_any _ _).mono ?_; rintro e w3 ⟨rfl, rfl⟩)
    | (go_at_call 32; refine (HN.out _).mono ?_; rintro e w3 ⟨rfl, rfl⟩))
  clear d4
  have d4 := HD4.out
  go_region_held3 (fun w' => w'.cell? ⟨w.heap.size, 0, none⟩ = some (.int .i64 T.kind) ∧ w'.cell? ⟨w.heap.size, 1, none⟩ = some (.string T.name) ∧ w'.cell? ⟨w.heap.size, 2, none⟩ = some (.int .i64 T.bound) ∧ w'.cell? ⟨w.heap.size, 3, none⟩ = some (.int .i64 T.of) ∧ w'.cell? ⟨w.heap.size, 4, none⟩ = some (.int .i64 T.tag) ∧ w'.cell? ⟨w.heap.size, 5, none⟩ = some (.slice T.ia T.ilen T.icap) ∧ Hid (BoxT w.heap.size T w w'))
    (first | exact ⟨d0, d1, d2, d3, d4, d5, HX⟩ | exact ⟨d0, d1, d2, d3, d4, d5, Lib.hid HX.out.drew⟩ | fail)
    (first
      | (go_at_call 7; refine (HO.out _ (by first | exact HX.out.2 | exact HX.out.2.drew)).mono ?_; rintro e w3 ⟨rfl, hb3⟩; have HX := Lib.hid (BoxT.keep (by first | exact HX.out | exact HX.out.drew) hb3); obtain ⟨d0, d1, d2, d3, d4, d5⟩ := HX.out.cells; clear hb3)
      | (go_at_call 34; refine (HB.out _ (by first | exact HX.out.2 | exact HX.out.2.drew)).mono ?_; rintro e w4 ⟨rfl, hb4⟩; have HX := Lib.hid (BoxT.keep (by first | exact HX.out | exact HX.out.drew) hb4); obtain ⟨d0, d1, d2, d3, d4, d5⟩ := HX.out.cells; clear hb4))
  go_wp2
  go_ret
  exact ⟨ret_i (by first | exact HW2.out | (rw [HW2.out]; rfl)), by first | exact HX.out.2 | exact HX.out.2.drew⟩
set_option maxRecDepth 20000 in
set_option maxHeartbeats 1000000 in
theorem one7_num (ao : Option Addr) (len cap : Nat) (L : Nat → TypeV) (most : Bool) (t a : Nat) (dv : Value) (hlen : len ≤ 1000000) (ht : t < len) (hok : ∀ i, i < len → OkT L i) (hk : (L t).kind < 10 ∨ 14 < (L t).kind) (ha : a ≤ 7) (w : World)
    (HL : ∀ i, i < len → TypeAt w ao i (L i)) (HD : DoneAt (endE L (openT L len) most) t dv w) :
    Calls Tryz.prog 16 #[.slice ao len cap, dv, .int .i64 (t : Nat), .int .i64 (a : Nat), .bool most] w fun e w' => e = .returned (.int .i64 (stepE L (openT L len) most (endE L (openT L len) most) t a - a : Nat)) ∧ Below w.heap.size w w' := by
  rw [stepN hk]
  have hkk := hok t ht |>.kind
  have hn : numK (L t).kind = true := by unfold numK; simp; omega
  obtain ⟨hs, hs0⟩ := szN_of hn
  have hnum := fun wx => refNumber7_any a (szK (L t).kind).toNat hs (by omega) wx
  have htt : (((szK (L t).kind).toNat : Nat) : Int) = szK (L t).kind := by omega
  rw [htt] at hnum
  rw [numE_nB, Nat.add_sub_cancel_left]
  obtain ⟨q, hq⟩ : ∃ q, nB (szK (L t).kind).toNat a = q := ⟨_, rfl⟩
  rw [hq] at hnum ⊢
  clear hq htt hs hs0 hn hkk HD
  obtain ⟨b, off, rfl, t0, t1, t2, t3, t4, t5, twf, tis⟩ := HL t ht
  obtain ⟨T, hT⟩ : ∃ T, L t = T := ⟨_, rfl⟩
  rw [hT] at t0 t1 t2 t3 t4 t5 hk hnum
  have hst := BoxT.start T w
  have hcl := (BoxT.start T w).cells
  obtain ⟨d0, d1, d2, d3, d4, d5⟩ := hcl
  unfold typO at hst d0 d1 d2 d3 d4 d5
  have HX := Lib.hid hst
  have hbl : b < w.heap.size := World.block_lt_of_cell? w _ t0
  clear hst hT hok HL twf tis
  have k10 : (T.kind == 10) = false := by simp; omega
  have k11 : (T.kind == 11) = false := by simp; omega
  have k12 : (T.kind == 12) = false := by simp; omega
  have k13 : (T.kind == 13) = false := by simp; omega
  have k14 : (T.kind == 14) = false := by simp; omega
  clear hk
  have HN := Lib.hid hnum
  clear hnum
  go_enter Tryz.func16, Tryz.ntmps16
  go_upto_region 2 with (fail)
  generalize (w.alloc (.cells #[.int .i64 T.kind, .string T.name, .int .i64 T.bound, .int .i64 T.of, .int .i64 T.tag, .slice T.ia T.ilen T.icap] 35)) = wb at *
  clear t0 t1 t2 t3 t4 t5
  go_wp2_with (first
    | (go_at_call 28; refine (refSize_any _ _).mono ?_; rintro e w3 ⟨rfl, rfl⟩)
    | (go_at_call 32; refine (HN.out _).mono ?_; rintro e w3 ⟨rfl, rfl⟩))
  go_ret
  exact ⟨rfl, HX.out.2⟩
theorem one7_any (ao : Option Addr) (len cap : Nat) (L : Nat → TypeV) (most : Bool) (t a : Nat) (dv : Value) (hlen : len ≤ 1000000) (ht : t < len) (hok : ∀ i, i < len → OkT L i) (ha : a ≤ 7) (w : World)
    (HL : ∀ i, i < len → TypeAt w ao i (L i)) (HD : DoneAt (endE L (openT L len) most) t dv w) :
    Calls Tryz.prog 16 #[.slice ao len cap, dv, .int .i64 (t : Nat), .int .i64 (a : Nat), .bool most] w fun e w' => e = .returned (.int .i64 (endE L (openT L len) most t a - a : Nat)) ∧ Below w.heap.size w w' := by
  rw [endE_eq (hok t ht)]
  by_cases h10 : (L t).kind = 10
  · exact one7_10 ao len cap L most t a dv hlen ht hok h10 ha w HL HD
  by_cases h11 : (L t).kind = 11
  · exact one7_11 ao len cap L most t a dv hlen ht hok h11 ha w HL HD
  by_cases h12 : (L t).kind = 12
  · exact one7_12 ao len cap L most t a dv hlen ht hok h12 ha w HL HD
  by_cases h13 : (L t).kind = 13
  · exact one7_13 ao len cap L most t a dv hlen ht hok h13 ha w HL HD
  by_cases h14 : (L t).kind = 14
  · exact one7_14 ao len cap L most t a dv hlen ht hok h14 ha w HL HD
  · exact one7_num ao len cap L most t a dv hlen ht hok (by omega) ha w HL HD
end Go.Proofs.YtblnhoagdnnjdaaGreat
