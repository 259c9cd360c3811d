/- The reference's At. -/
import Derived.Test.YtcpjbimojliogaaGreatDoorPathAt
import Derived.Test.YtcpjbimojliogaaGreatDoorPathAwake
import Derived.BigGuardPart
namespace Go.Proofs.YtcpjbimojliogaaGreatDoor
open Go Go.RowKit
set_option linter.unusedVariables false

def ratL (L : Nat → TypeV) (len : Nat) : Nat → List StepV → VT → Option VT
  | _, [], V => some V
  | t, s :: r, V => if nextB (L t) s then (plcO L len t s V).elim none (fun i => ratL L len (nextN L t s) r (V.kid i)) else none
theorem rat_same {L : Nat → TypeV} {len : Nat} : ∀ (ps : List StepV) (t : Nat) (V : VT), ratL L len t ps V = if (endL L t ps).isSome then atG L len (alongL L t ps) V else none
  | [], t, V => rfl
  | s :: r, t, V => by
    by_cases hb : nextB (L t) s = true
    · have e1 : endL L t (s :: r) = endL L (nextN L t s) r := by simp only [endL]; rw [if_pos hb]
      have e2 : ratL L len t (s :: r) V = (plcO L len t s V).elim none (fun i => ratL L len (nextN L t s) r (V.kid i)) := by simp only [ratL]; rw [if_pos hb]
      have e3 : alongL L t (s :: r) = (t, s) :: alongL L (nextN L t s) r := rfl
      rw [e1, e2, e3, atG_cons]
      show _ = if (endL L (nextN L t s) r).isSome then ((plcO L len t s V).elim none (fun i => atG L len (alongL L (nextN L t s) r) (V.kid i))) else none
      cases plcO L len t s V with
      | none => simp
      | some i => exact rat_same r _ _
    · have e1 : endL L t (s :: r) = none := by simp only [endL]; rw [if_neg hb]
      have e2 : ratL L len t (s :: r) V = none := by simp only [ratL]; rw [if_neg hb]
      rw [e1, e2]
      rfl
theorem rat_at {L : Nat → TypeV} {len : Nat} {w : World} {S : Nat → Prop} : ∀ (ps : List StepV) (t : Nat) (V U : VT), ValAt w S V → ratL L len t ps V = some U → ValAt w S U
  | [], t, V, U, H, h => by
    obtain rfl := Option.some.inj h
    exact H
  | s :: r, t, V, U, H, h => by
    simp only [ratL] at h
    split at h
    · rename_i hb
      have hn : 0 ≤ s.n := by unfold nextB at hb; simp only [Bool.and_eq_true, decide_eq_true_eq] at hb; exact hb.1
      cases ho : plcO L len t s V with
      | none => rw [ho] at h; cases h
      | some i =>
        rw [ho] at h
        exact rat_at r _ _ U (((valAt_iff V).1 H).2 i (plc_lt ho hn)).2 h
    · cases h
theorem drewN12 {B : Nat} {w w1 : World} (h : Below B w w1) (n : Nat) : Below B w (w1.drewN n) := ⟨h.os, h.tape, h.output, h.size, h.block⟩
theorem slice_two (b off n cap : Nat) (hc : n + 1 ≤ cap) (w : World) : (Instr.slice 25 (.slice (some ⟨b, off, none⟩) (n + 1) cap) (some (.int .i64 1)) none none).run Tryz.prog w = .ok (.slice (if cap = 1 then some ⟨b, off, none⟩ else some ⟨b, off + 2, none⟩) n (cap - 1)) w := by
  have he : Tryz.prog.elem 25 = 56 := by kernel_rfl
  have hu : Tryz.prog.underlying 25 = some (.slice (Tryz.prog.elem 25)) := by rw [he]; exact Tryz.underlying25
  have hs : (sizeOf (Tryz.prog.elem 25)).run Tryz.prog w = .ok 2 w := by rw [he]; kernel_rfl
  rw [run_slice_l (P := Tryz.prog) w 25 (some ⟨b, off, none⟩) (n + 1) cap hu .i64 1 (by omega) (by omega), hs]
  simp only [Result.andThen, sliced]
  congr 1
abbrev agU12 (U : VT) : Value := .agg #[.int .i64 U.kind, .int .u64 U.num, .string U.text, .slice U.ia U.len U.cap]
def RPAtTo (o : Option VT) (w : World) (e : Ending) (w' : World) : Prop := e = .returned (.tuple #[agU12 (o.getD .nil), .bool o.isSome]) ∧ Below w.heap.size w w'
theorem rat_end (ao : Option Addr) (len cap : Nat) (t : Int) (pa : Option Addr) (pc : Nat) (T : VT) (w : World) : Calls Tryz.prog 18 #[.slice ao len cap, .int .i64 t, .slice pa 0 pc, agU12 T] w (RPAtTo (some T) w) := by
  have HB := Lib.hid (((Below.refl w.heap.size w).alloc (Nat.le_refl _) (valO T)).alloc (by simp) zeroO)
  have HZ := Lib.hid (show ((w.alloc (valO T)).alloc zeroO).heap[w.heap.size + 1]? = some (.cells #[.int .i64 0, .int .u64 0, .string ⟨#[]⟩, .slice none 0 0] 38) by have := alloc_at (w.alloc (valO T)) zeroO; simpa [zeroO] using this)
  unfold valO zeroO at HB HZ
  go_enter Tryz.func18, Tryz.ntmps18
  go_wp2_with (refine wpList_store_rowTo rfl 38 _ _ rfl rfl (w.heap.size + 1) #[.int .i64 T.kind, .int .u64 T.num, .string T.text, .slice T.ia T.len T.cap] rfl rfl _ _ HZ.out (by kernel_rfl) (by kernel_rfl) (by kernel_rfl) ?_)
  refine bodyPost_ret (v := .tuple #[.agg #[.int .i64 T.kind, .int .u64 T.num, .string T.text, .slice T.ia T.len T.cap], .bool true]) ?_ rfl ⟨rfl, below_setRow HB.out (by omega) _⟩
  have hl := run_loadVar_row (P := Tryz.prog) _ (w.heap.size + 1) _ 38 _ _ _ (setRow_heap _ _ _ #[.int .i64 T.kind, .int .u64 T.num, .string T.text, .slice T.ia T.len T.cap] _ _ HZ.out) Tryz.underlying38 rfl (by kernel_rfl)
  simp [results, Tryz.results18, asAddr, hl]
set_option maxRecDepth 100000 in
set_option maxHeartbeats 8000000 in
theorem rat_step (ao : Option Addr) (len cap : Nat) (L : Nat → TypeV) (hlen : len ≤ 1000000) (hv : ∀ i, i < len → OkT L i) (t : Nat) (ht : t < len) (pb pf n pc : Nat) (s : StepV) (r : List StepV) (hn : n + 1 ≤ pc) (S : Nat → Prop) (T : VT) (w : World) (HT : ValAt w S T) (H : ∀ i, i < len → TypeAt w ao i (L i))
    (q0 : w.cell? ⟨pb, pf, none⟩ = some (.bool s.elem)) (q1 : w.cell? ⟨pb, pf + 1, none⟩ = some (.int .i64 s.n))
    (ih : ∀ (i : Nat) pa', i < T.len → (0 < n → pa' = some ⟨pb, pf + 2, none⟩) → nextN L t s < len → ∀ wx, Below w.heap.size w wx → Calls Tryz.prog 18 #[.slice ao len cap, .int .i64 (nextN L t s : Nat), .slice pa' n (pc - 1), agU12 (T.kid i)] wx (RPAtTo (ratL L len (nextN L t s) r (T.kid i)) wx)) :
    Calls Tryz.prog 18 #[.slice ao len cap, .int .i64 (t : Nat), .slice (some ⟨pb, pf, none⟩) (n + 1) pc, agU12 T] w (RPAtTo (ratL L len t (s :: r) T) w) := by
  have hTl := val_len HT
  have HB := Lib.hid (((Below.refl w.heap.size w).alloc (Nat.le_refl _) (valO T)).alloc (by simp) zeroO)
  have HQ := Lib.hid (show ((w.alloc (valO T)).alloc zeroO).heap[w.heap.size]? = some (valO T) from alloc_old (alloc_at w _))
  have HZ := Lib.hid (show ((w.alloc (valO T)).alloc zeroO).heap[w.heap.size + 1]? = some (.cells #[.int .i64 0, .int .u64 0, .string ⟨#[]⟩, .slice none 0 0] 38) by have := alloc_at (w.alloc (valO T)) zeroO; simpa [zeroO] using this)
  have hsz0 : ((w.alloc (valO T)).alloc zeroO).heap.size = w.heap.size + 2 := by simp
  obtain ⟨tb, tf, rfl, x0, x1, x2, x3, x4, x5, wf, hit⟩ := H t ht
  obtain ⟨be, sn⟩ := s
  simp only at q0 q1
  have HNE := Lib.hid (fun wx (hb : Below w.heap.size w wx) => refNext12_any (some ⟨tb, tf, none⟩) len cap L hlen t ht ⟨be, sn⟩ wx (hold H hb))
  have HBR := Lib.hid (fun wx (hb : Below w.heap.size w wx) => refBranch_any (some ⟨tb, tf, none⟩) len cap L (t : Nat) T.num (by omega) wx (hold H hb))
  have HKI := Lib.hid (fun i (hi : i < T.len) wx (hb : Below w.heap.size w wx) => (kids_at HT hb hi).1)
  obtain ⟨W0, hW0⟩ : ∃ W0, (w.alloc (valO T)).alloc zeroO = W0 := ⟨_, rfl⟩
  have z0 := keep6 HB.out x0
  have p0 := keep6 HB.out q0
  have p1 := keep6 HB.out q1
  have hrat : ratL L len t (⟨be, sn⟩ :: r) T = if nextB (L t) ⟨be, sn⟩ then (plcO L len t ⟨be, sn⟩ T).elim none (fun i => ratL L len (nextN L t ⟨be, sn⟩) r (T.kid i)) else none := rfl
  have hnp := next_part (s := ⟨be, sn⟩) hv ht
  obtain ⟨u2, hu2⟩ := Int.eq_ofNat_of_zero_le hnp.1
  have hnn : nextN L t ⟨be, sn⟩ = u2 := by unfold nextN; rw [hu2, Int.toNat_natCast]
  have hu2l : u2 < len := by have := hnp.2; omega
  rw [hnn] at ih hrat
  have tn : ((n : Int) + 1 == 0) = false := by simp; omega
  have tn' : (n + 1 == 0) = false := by simp
  unfold stepVal at HNE
  unfold valO zeroO at hW0
  rw [show valO T = .cells #[.int .i64 T.kind, .int .u64 T.num, .string T.text, .slice T.ia T.len T.cap] 38 from rfl, show zeroO = .cells #[.int .i64 0, .int .u64 0, .string ⟨#[]⟩, .slice none 0 0] 38 from rfl, hW0] at HB HQ HZ hsz0 z0 p0 p1
  have htb : tb < W0.heap.size := World.block_lt_of_cell? W0 _ z0
  obtain ⟨o, ho⟩ : ∃ o, ratL L len t (⟨be, sn⟩ :: r) T = o := ⟨_, rfl⟩
  rw [ho] at hrat ⊢
  clear ho H x0 x1 x2 x3 x4 x5 wf hit q0 q1
  cases hnb : nextB (L t) ⟨be, sn⟩ with
  | false =>
    rw [hnb, if_neg (by decide)] at hrat
    rw [show rnextZ (L t) ⟨be, sn⟩ = -1 by unfold rnextZ; rw [hnb]; rfl] at HNE
    subst hrat
    clear ih hnp hu2 hnn hnb
    go_enter Tryz.func18, Tryz.ntmps18
    go_wp2_with (first
      | (go_at_call 35; refine (HNE.out _ HB.out).mono ?_; rintro e w1 ⟨rfl, hb1⟩; have HZ1 := Lib.hid (heap_keep HZ.out hb1); have HB1 := Lib.hid (below_step8' HB.out hb1); clear hb1)
      | (refine wpList_store_rowTo rfl 38 _ _ rfl rfl (w.heap.size + 1) #[.int .i64 0, .int .u64 0, .string ⟨#[]⟩, .slice none 0 0] rfl rfl _ _ HZ1.out (by kernel_rfl) (by kernel_rfl) (by kernel_rfl) ?_))
    have hl := load_val (setRow_heap w1 (w.heap.size + 1) _ #[.int .i64 0, .int .u64 0, .string ⟨#[]⟩, .slice none 0 0] _ _ HZ1.out)
    refine bodyPost_ret (v := .tuple #[.agg #[.int .i64 0, .int .u64 0, .string ⟨#[]⟩, .slice none 0 0], .bool false]) ?_ rfl ⟨rfl, below_setRow HB1.out (by omega) _⟩
    simp [results, Tryz.results18, asAddr, hl]
  | true =>
    rw [hnb, if_pos rfl] at hrat
    rw [show rnextZ (L t) ⟨be, sn⟩ = (u2 : Nat) by unfold rnextZ; rw [hnb, if_pos rfl, hu2]] at HNE
    have hn0 : 0 ≤ sn := by unfold nextB at hnb; simp only [Bool.and_eq_true, decide_eq_true_eq] at hnb; exact hnb.1
    obtain ⟨j, rfl⟩ := Int.eq_ofNat_of_zero_le hn0
    have ku : decide (((u2 : Nat) : Int) < 0) = false := decide_eq_false (by omega)
    obtain ⟨z, hz⟩ : ∃ z, branchL L len (t : Nat) T.num = z := ⟨_, rfl⟩
    obtain ⟨K, hK⟩ : ∃ K, (L t).kind = K := ⟨_, rfl⟩
    have hpl : plcO L len t ⟨be, (j : Nat)⟩ T = if K = 14 then (if z = (j : Int) ∧ 0 < T.len then some 0 else none) else (if (j : Int) < (T.len : Int) then some j else none) := by
      unfold plcO
      rw [hK, hz]
      simp
    rw [hz] at HBR
    rw [hK] at z0
    clear hnp hu2 hnn hnb hn0 hz hK
    by_cases hB : K = 14 ∧ z ≠ (j : Int)
    · obtain ⟨hk, hzj⟩ := hB
      rw [hpl, if_pos hk, if_neg (fun h => hzj h.1)] at hrat
      replace hrat : o = none := hrat
      subst hrat
      have kk : (K == 14) = true := by simpa using hk
      have kz : (z != (j : Int)) = true := by simpa using hzj
      clear ih hpl hk hzj
      go_enter Tryz.func18, Tryz.ntmps18
      go_wp2_with (first
        | (go_at_call 35; refine (HNE.out _ HB.out).mono ?_; rintro e w1 ⟨rfl, hb1⟩; have HZ1 := Lib.hid (heap_keep HZ.out hb1); have HQ1 := Lib.hid (heap_keep HQ.out hb1); have HB1 := Lib.hid (below_step8' HB.out hb1); have z0 := keep6 hb1 z0; have p0 := keep6 hb1 p0; have p1 := keep6 hb1 p1; have t1 : w1.cell? ⟨w.heap.size, 1, none⟩ = some (.int .u64 T.num) := cell_at (j := 1) HQ1.out rfl; clear hb1)
        | (go_at_call 44; refine (HBR.out _ HB1.out).mono ?_; rintro e w9 ⟨rfl, hw9⟩; subst hw9)
        | (refine wpList_store_rowTo rfl 38 _ _ rfl rfl (w.heap.size + 1) #[.int .i64 0, .int .u64 0, .string ⟨#[]⟩, .slice none 0 0] rfl rfl _ _ HZ1.out (by kernel_rfl) (by kernel_rfl) (by kernel_rfl) ?_))
      have hl := load_val (setRow_heap w1 (w.heap.size + 1) _ #[.int .i64 0, .int .u64 0, .string ⟨#[]⟩, .slice none 0 0] _ _ HZ1.out)
      refine bodyPost_ret (v := .tuple #[.agg #[.int .i64 0, .int .u64 0, .string ⟨#[]⟩, .slice none 0 0], .bool false]) ?_ rfl ⟨rfl, below_setRow HB1.out (by omega) _⟩
      simp [results, Tryz.results18, asAddr, hl]
    · obtain ⟨i, hC, hi⟩ : ∃ i : Nat, ((K = 14 ∧ z = (j : Int) ∧ i = 0) ∨ (K ≠ 14 ∧ i = j)) ∧ plcO L len t ⟨be, (j : Nat)⟩ T = if i < T.len then some i else none := by
        by_cases hk : K = 14
        · have hzj : z = (j : Int) := Decidable.not_not.1 (fun h => hB ⟨hk, h⟩)
          refine ⟨0, .inl ⟨hk, hzj, rfl⟩, ?_⟩
          rw [hpl, if_pos hk]
          by_cases h : 0 < T.len
          · rw [if_pos ⟨hzj, h⟩, if_pos h]
          · rw [if_neg (fun c => h c.2), if_neg h]
        · refine ⟨j, .inr ⟨hk, rfl⟩, ?_⟩
          rw [hpl, if_neg hk]
          by_cases h : j < T.len
          · rw [if_pos (by omega), if_pos h]
          · rw [if_neg (by omega), if_neg h]
      rw [hi] at hrat
      have HC := Lib.hid hC
      clear hpl hB hi hC
      have hC := HC.out
      rcases hC with ⟨hk, hzj, rfl⟩ | ⟨hk, rfl⟩
      · have kk : (K == 14) = true := by simpa using hk
        have kz : (z != (j : Int)) = false := by simpa using hzj
        clear hk hzj HC
        by_cases hil : 0 < T.len
        · rw [if_pos hil] at hrat
          have d1 : decide ((T.len : Int) ≤ (0 : Nat)) = false := decide_eq_false (by omega)
          have d2 : decide (T.len ≤ 0) = false := decide_eq_false (by omega)
          obtain ⟨pa', hpa⟩ : ∃ a, (if pc = 1 then some (⟨pb, pf, none⟩ : Addr) else some ⟨pb, pf + 2, none⟩) = a := ⟨_, rfl⟩
          have hsl := fun wx => slice_two pb pf n pc hn wx
          rw [hpa] at hsl
          have HA := Lib.hid (ih (0) pa' hil (fun h => by rw [← hpa, if_neg (by omega)]) hu2l)
          replace hrat : o = ratL L len u2 r (T.kid 0) := hrat
          obtain ⟨R, hR⟩ : ∃ R, o.getD .nil = R := ⟨_, rfl⟩
          obtain ⟨q, hq⟩ : ∃ q, o.isSome = q := ⟨_, rfl⟩
          unfold RPAtTo at HA
          rw [← hrat, hR, hq] at HA
          have HE := Lib.hid (show Ending.returned (.tuple #[.agg #[.int .i64 R.kind, .int .u64 R.num, .string R.text, .slice R.ia R.len R.cap], .bool q]) = .returned (.tuple #[agU12 (o.getD .nil), .bool o.isSome]) by rw [← hR, ← hq])
          unfold agU12 at HA
          clear hR hq hrat hpa ih
          go_enter Tryz.func18, Tryz.ntmps18
          go_upto_region 11 with (first
            | (go_at_call 35; refine (HNE.out _ HB.out).mono ?_; rintro e w1 ⟨rfl, hb1⟩; have HZ1 := Lib.hid (heap_keep HZ.out hb1); have HQ1 := Lib.hid (heap_keep HQ.out hb1); have HB1 := Lib.hid (below_step8' HB.out hb1); have z0 := keep6 hb1 z0; have p0 := keep6 hb1 p0; have p1 := keep6 hb1 p1; have t1 : w1.cell? ⟨w.heap.size, 1, none⟩ = some (.int .u64 T.num) := cell_at (j := 1) HQ1.out rfl; clear hb1)
            | (go_at_call 44; refine (HBR.out _ HB1.out).mono ?_; rintro e w9 ⟨rfl, hw9⟩; subst hw9)
            )
          obtain ⟨b', off', hia, _, _, c0, c1, c2, c3⟩ := HKI.out (0) hil _ HB1.out
          rw [Nat.zero_mul, Nat.add_zero] at c0 c1 c2 c3
          have d3 : w1.cell? ⟨w.heap.size, 3, none⟩ = some (.slice (some ⟨b', off', none⟩) T.len T.cap) := by rw [← hia]; exact cell_at (j := 3) HQ1.out rfl
          have HIA := Lib.hid hia
          clear hia t1 p0 p1 z0
          go_upto_region 13 with (fail)
          go_region_with (first
            | (go_at_call 18; refine (HA.out _ HB1.out.drew).mono ?_; rintro e w3 ⟨rfl, hb3⟩; have hq3 := heap_keep (w := w1.drew) HZ1.out hb3; have s0 : w3.cell? ⟨w.heap.size + 1, 0, none⟩ = some (.int .i64 0) := cell_at (j := 0) hq3 rfl; have s1 : w3.cell? ⟨w.heap.size + 1, 1, none⟩ = some (.int .u64 0) := cell_at (j := 1) hq3 rfl; have s2 : w3.cell? ⟨w.heap.size + 1, 2, none⟩ = some (.string ⟨#[]⟩) := cell_at (j := 2) hq3 rfl; have s3 : w3.cell? ⟨w.heap.size + 1, 3, none⟩ = some (.slice none 0 0) := cell_at (j := 3) hq3 rfl; have f0 := free_at (j := 0) hq3; have f1 := free_at (j := 1) hq3; have f2 := free_at (j := 2) hq3; have f3 := free_at (j := 3) hq3; have HB3 := Lib.hid (below_step8' HB1.out.drew hb3)))
          go_wp2
          have hl := load_val (set4_row (x0 := .int .i64 R.kind) (x1 := .int .u64 R.num) (x2 := .string R.text) (x3 := .slice R.ia R.len R.cap) hq3)
          refine bodyPost_ret (v := .tuple #[.agg #[.int .i64 R.kind, .int .u64 R.num, .string R.text, .slice R.ia R.len R.cap], .bool q]) ?_ rfl ⟨HE.out, set4_bel HB3.out (by omega)⟩
          simp [results, Tryz.results18, asAddr, Act.put, hl]
        · rw [if_neg hil] at hrat
          replace hrat : o = none := hrat
          subst hrat
          have d1 : decide ((T.len : Int) ≤ (0 : Nat)) = true := decide_eq_true (by omega)
          have d2 : decide (T.len ≤ 0) = true := decide_eq_true (by omega)
          clear ih
          go_enter Tryz.func18, Tryz.ntmps18
          go_upto_region 11 with (first
            | (go_at_call 35; refine (HNE.out _ HB.out).mono ?_; rintro e w1 ⟨rfl, hb1⟩; have HZ1 := Lib.hid (heap_keep HZ.out hb1); have HQ1 := Lib.hid (heap_keep HQ.out hb1); have HB1 := Lib.hid (below_step8' HB.out hb1); have z0 := keep6 hb1 z0; have p0 := keep6 hb1 p0; have p1 := keep6 hb1 p1; have t1 : w1.cell? ⟨w.heap.size, 1, none⟩ = some (.int .u64 T.num) := cell_at (j := 1) HQ1.out rfl; clear hb1)
            | (go_at_call 44; refine (HBR.out _ HB1.out).mono ?_; rintro e w9 ⟨rfl, hw9⟩; subst hw9)
            )
          have d3 : w1.cell? ⟨w.heap.size, 3, none⟩ = some (.slice T.ia T.len T.cap) := cell_at (j := 3) HQ1.out rfl
          go_wp2_with (first
            | (refine wpList_store_rowTo rfl 38 _ _ rfl rfl (w.heap.size + 1) #[.int .i64 0, .int .u64 0, .string ⟨#[]⟩, .slice none 0 0] rfl rfl _ _ HZ1.out (by kernel_rfl) (by kernel_rfl) (by kernel_rfl) ?_))
          have hl := load_val (setRow_heap w1 (w.heap.size + 1) _ #[.int .i64 0, .int .u64 0, .string ⟨#[]⟩, .slice none 0 0] _ _ HZ1.out)
          refine bodyPost_ret (v := .tuple #[.agg #[.int .i64 0, .int .u64 0, .string ⟨#[]⟩, .slice none 0 0], .bool false]) ?_ rfl ⟨rfl, below_setRow HB1.out (by omega) _⟩
          simp [results, Tryz.results18, asAddr, hl]
      · have kk : (K == 14) = false := by simpa using hk
        clear hk HC
        by_cases hil : i < T.len
        · rw [if_pos hil] at hrat
          have d1 : decide ((T.len : Int) ≤ (i : Nat)) = false := decide_eq_false (by omega)
          have d2 : decide (T.len ≤ i) = false := decide_eq_false (by omega)
          obtain ⟨pa', hpa⟩ : ∃ a, (if pc = 1 then some (⟨pb, pf, none⟩ : Addr) else some ⟨pb, pf + 2, none⟩) = a := ⟨_, rfl⟩
          have hsl := fun wx => slice_two pb pf n pc hn wx
          rw [hpa] at hsl
          have HA := Lib.hid (ih (i) pa' hil (fun h => by rw [← hpa, if_neg (by omega)]) hu2l)
          replace hrat : o = ratL L len u2 r (T.kid i) := hrat
          obtain ⟨R, hR⟩ : ∃ R, o.getD .nil = R := ⟨_, rfl⟩
          obtain ⟨q, hq⟩ : ∃ q, o.isSome = q := ⟨_, rfl⟩
          unfold RPAtTo at HA
          rw [← hrat, hR, hq] at HA
          have HE := Lib.hid (show Ending.returned (.tuple #[.agg #[.int .i64 R.kind, .int .u64 R.num, .string R.text, .slice R.ia R.len R.cap], .bool q]) = .returned (.tuple #[agU12 (o.getD .nil), .bool o.isSome]) by rw [← hR, ← hq])
          unfold agU12 at HA
          clear hR hq hrat hpa ih
          go_enter Tryz.func18, Tryz.ntmps18
          go_upto_region 11 with (first
            | (go_at_call 35; refine (HNE.out _ HB.out).mono ?_; rintro e w1 ⟨rfl, hb1⟩; have HZ1 := Lib.hid (heap_keep HZ.out hb1); have HQ1 := Lib.hid (heap_keep HQ.out hb1); have HB1 := Lib.hid (below_step8' HB.out hb1); have z0 := keep6 hb1 z0; have p0 := keep6 hb1 p0; have p1 := keep6 hb1 p1; have t1 : w1.cell? ⟨w.heap.size, 1, none⟩ = some (.int .u64 T.num) := cell_at (j := 1) HQ1.out rfl; clear hb1)
            )
          obtain ⟨b', off', hia, _, _, c0, c1, c2, c3⟩ := HKI.out (i) hil _ HB1.out
          skip
          have d3 : w1.cell? ⟨w.heap.size, 3, none⟩ = some (.slice (some ⟨b', off', none⟩) T.len T.cap) := by rw [← hia]; exact cell_at (j := 3) HQ1.out rfl
          have HIA := Lib.hid hia
          clear hia t1 p0 p1 z0
          go_upto_region 13 with (fail)
          go_region_with (first
            | (go_at_call 18; refine (HA.out _ HB1.out.drew).mono ?_; rintro e w3 ⟨rfl, hb3⟩; have hq3 := heap_keep (w := w1.drew) HZ1.out hb3; have s0 : w3.cell? ⟨w.heap.size + 1, 0, none⟩ = some (.int .i64 0) := cell_at (j := 0) hq3 rfl; have s1 : w3.cell? ⟨w.heap.size + 1, 1, none⟩ = some (.int .u64 0) := cell_at (j := 1) hq3 rfl; have s2 : w3.cell? ⟨w.heap.size + 1, 2, none⟩ = some (.string ⟨#[]⟩) := cell_at (j := 2) hq3 rfl; have s3 : w3.cell? ⟨w.heap.size + 1, 3, none⟩ = some (.slice none 0 0) := cell_at (j := 3) hq3 rfl; have f0 := free_at (j := 0) hq3; have f1 := free_at (j := 1) hq3; have f2 := free_at (j := 2) hq3; have f3 := free_at (j := 3) hq3; have HB3 := Lib.hid (below_step8' HB1.out.drew hb3)))
          go_wp2
          have hl := load_val (set4_row (x0 := .int .i64 R.kind) (x1 := .int .u64 R.num) (x2 := .string R.text) (x3 := .slice R.ia R.len R.cap) hq3)
          refine bodyPost_ret (v := .tuple #[.agg #[.int .i64 R.kind, .int .u64 R.num, .string R.text, .slice R.ia R.len R.cap], .bool q]) ?_ rfl ⟨HE.out, set4_bel HB3.out (by omega)⟩
          simp [results, Tryz.results18, asAddr, Act.put, hl]
        · rw [if_neg hil] at hrat
          replace hrat : o = none := hrat
          subst hrat
          have d1 : decide ((T.len : Int) ≤ (i : Nat)) = true := decide_eq_true (by omega)
          have d2 : decide (T.len ≤ i) = true := decide_eq_true (by omega)
          clear ih
          go_enter Tryz.func18, Tryz.ntmps18
          go_upto_region 11 with (first
            | (go_at_call 35; refine (HNE.out _ HB.out).mono ?_; rintro e w1 ⟨rfl, hb1⟩; have HZ1 := Lib.hid (heap_keep HZ.out hb1); have HQ1 := Lib.hid (heap_keep HQ.out hb1); have HB1 := Lib.hid (below_step8' HB.out hb1); have z0 := keep6 hb1 z0; have p0 := keep6 hb1 p0; have p1 := keep6 hb1 p1; have t1 : w1.cell? ⟨w.heap.size, 1, none⟩ = some (.int .u64 T.num) := cell_at (j := 1) HQ1.out rfl; clear hb1)
            )
          have d3 : w1.cell? ⟨w.heap.size, 3, none⟩ = some (.slice T.ia T.len T.cap) := cell_at (j := 3) HQ1.out rfl
          go_wp2_with (first
            | (refine wpList_store_rowTo rfl 38 _ _ rfl rfl (w.heap.size + 1) #[.int .i64 0, .int .u64 0, .string ⟨#[]⟩, .slice none 0 0] rfl rfl _ _ HZ1.out (by kernel_rfl) (by kernel_rfl) (by kernel_rfl) ?_))
          have hl := load_val (setRow_heap w1 (w.heap.size + 1) _ #[.int .i64 0, .int .u64 0, .string ⟨#[]⟩, .slice none 0 0] _ _ HZ1.out)
          refine bodyPost_ret (v := .tuple #[.agg #[.int .i64 0, .int .u64 0, .string ⟨#[]⟩, .slice none 0 0], .bool false]) ?_ rfl ⟨rfl, below_setRow HB1.out (by omega) _⟩
          simp [results, Tryz.results18, asAddr, hl]
theorem rat_any (ao : Option Addr) (len cap : Nat) (L : Nat → TypeV) (hlen : len ≤ 1000000) (hv : ∀ i, i < len → OkT L i) (S : Nat → Prop) : ∀ (n : Nat) (t : Nat) (pa : Option Addr) (pc : Nat) (P : Nat → StepV) (T : VT) (w : World), t < len → n ≤ pc → ValAt w S T → (∀ i, i < len → TypeAt w ao i (L i)) → (∀ i, i < n → StepC w pa i (P i)) →
    Calls Tryz.prog 18 #[.slice ao len cap, .int .i64 (t : Nat), .slice pa n pc, agU12 T] w (RPAtTo (ratL L len t (stepsL P n) T) w)
  | 0, t, pa, pc, P, T, w, ht, hn, HT, H, HP => rat_end ao len cap (t : Nat) pa pc T w
  | n + 1, t, pa, pc, P, T, w, ht, hn, HT, H, HP => by
    obtain ⟨pb, pf, rfl, q0, q1⟩ := HP 0 (by omega)
    have hs : stepsL P (n + 1) = P 0 :: stepsL (fun i => P (i + 1)) n := by
      unfold stepsL
      rw [List.range_succ_eq_map]
      simp [Function.comp_def]
    rw [hs]
    refine rat_step ao len cap L hlen hv t ht pb pf n pc (P 0) _ hn S T w HT H (by simpa using q0) (by simpa using q1) (fun i pa' hi hpa hnx wx hb => ?_)
    refine rat_any ao len cap L hlen hv S n (nextN L t (P 0)) pa' (pc - 1) (fun i => P (i + 1)) (T.kid i) wx hnx (by omega) (kids_at HT hb hi).2 (hold H hb) (fun k hk => ?_)
    obtain ⟨b2, f2, e, c0, c1⟩ := (HP (k + 1) (by omega)).held hb
    obtain ⟨rfl, rfl⟩ : pb = b2 ∧ pf = f2 := by injection e with e; injection e with e1 e2 e3; exact ⟨e1, e2⟩
    rw [hpa (by omega)]
    exact ⟨pb, pf + 2, rfl, by rw [show pf + 2 + k * 2 = pf + (k + 1) * 2 by omega]; exact c0, by rw [show pf + 2 + k * 2 + 1 = pf + (k + 1) * 2 + 1 by omega]; exact c1⟩
end Go.Proofs.YtcpjbimojliogaaGreatDoor
