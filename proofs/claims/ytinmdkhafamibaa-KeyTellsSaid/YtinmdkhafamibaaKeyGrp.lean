/- Groups of equal keys in plain words, and the contract of the reference's Groups. -/
import Derived.Test.YtinmdkhafamibaaKeySame
import Derived.Test.YtinmdkhafamibaaKeyBuild
import Derived.Deep.RegionHeld3
import Derived.BigQuiet
namespace Go.Proofs.Ytinmdkhafamibaa
open Go.RowKit
set_option linter.unusedVariables false
/-- is the key at place n new -/
def newK (K : Nat → List UInt8) (n : Nat) : Bool := !(List.range n).any fun k => K k == K n
/-- the places of keys that are new, ahead of place n -/
def fstK (K : Nat → List UInt8) (n : Nat) : List Nat := (List.range n).filter (newK K)
/-- the places ahead of n of the key that place f has -/
def memK (K : Nat → List UInt8) (n f : Nat) : List Nat := (List.range n).filter fun k => K k == K f
def grpK (K : Nat → List UInt8) (n : Nat) : List (List Nat) := (fstK K n).map (memK K n)
theorem fstK_succ (K : Nat → List UInt8) (n : Nat) : fstK K (n + 1) = fstK K n ++ (if newK K n = true then [n] else []) := by
  unfold fstK
  rw [List.range_succ, List.filter_append]
  congr 1
  by_cases h : newK K n = true
  · simp [h]
  · simp [h]
theorem memK_succ (K : Nat → List UInt8) (n f : Nat) : memK K (n + 1) f = memK K n f ++ (if (K n == K f) = true then [n] else []) := by
  unfold memK
  rw [List.range_succ, List.filter_append]
  congr 1
  by_cases h : (K n == K f) = true
  · rw [if_pos h]; simp only [List.filter_cons, h, if_true, List.filter_nil]
  · rw [if_neg h]; simp only [List.filter_cons, if_neg h, List.filter_nil]
theorem memK_len (K : Nat → List UInt8) (n f : Nat) : (memK K n f).length ≤ n := by
  have := List.length_filter_le (fun k => K k == K f) (List.range n)
  rw [List.length_range] at this; exact this
theorem fstK_len (K : Nat → List UInt8) (n : Nat) : (fstK K n).length ≤ n := by
  have := List.length_filter_le (newK K) (List.range n)
  rw [List.length_range] at this; exact this
theorem newK_any (K : Nat → List UInt8) (n : Nat) (h : newK K n = true) : ∀ k, k < n → (K k == K n) = false := by
  intro k hk
  unfold newK at h
  rw [Bool.not_eq_true'] at h
  exact Bool.eq_false_iff.2 (fun e => by
    have : ((List.range n).any fun k => K k == K n) = true := List.any_eq_true.2 ⟨k, List.mem_range.2 hk, e⟩
    rw [h] at this; cases this)
/-- is the key at place n new, of the places ahead of k -/
def ffB (K : Nat → List UInt8) (n k : Nat) : Bool := !(List.range k).any fun j => K j == K n && decide (j < n)
theorem ffB_next (K : Nat → List UInt8) (n k : Nat) : ffB K n (k + 1) = (ffB K n k && !(K k == K n && decide (k < n))) := by
  unfold ffB
  rw [List.range_succ, List.any_append]
  cases (List.range k).any fun j => K j == K n && decide (j < n) <;> simp
theorem ffB_all (K : Nat → List UInt8) (n k : Nat) (h : n ≤ k) : ffB K n k = newK K n := by
  unfold ffB newK
  congr 1
  rw [Bool.eq_iff_iff, List.any_eq_true, List.any_eq_true]
  constructor
  · rintro ⟨j, _, hj⟩
    rw [Bool.and_eq_true, decide_eq_true_eq] at hj
    exact ⟨j, List.mem_range.2 hj.2, hj.1⟩
  · rintro ⟨j, hj, h1⟩
    have := List.mem_range.1 hj
    exact ⟨j, List.mem_range.2 (by omega), by rw [h1, decide_eq_true this]; rfl⟩
/-- the slice v holds these lists of numbers -/
def GrpsAt (w : World) (v : Value) (G : List (List Nat)) : Prop := ∃ ao cap, v = .slice ao G.length cap ∧ ∀ j l, G[j]? = some l → ∃ b off u, ao = some ⟨b, off, none⟩ ∧ w.cell? ⟨b, off + j, none⟩ = some u ∧ IntsAt w u l
theorem GrpsAt.keep {w w1 : World} {v : Value} {G : List (List Nat)} (h : GrpsAt w v G) (hb : Below w.heap.size w w1) : GrpsAt w1 v G := by
  obtain ⟨ao, cap, hv, hc⟩ := h
  refine ⟨ao, cap, hv, fun j x hx => ?_⟩
  obtain ⟨b, off, u, ha, h1, h2⟩ := hc j x hx
  exact ⟨b, off, u, ha, Go.Proofs.Ytinmdkhafamibaa.keep hb h1, h2.keep hb⟩
/-- a row of slices that the call made -/
def GRow (B : Nat) (w : World) (v : Value) (G : List (List Nat)) : Prop :=
  ∃ us : List Value, w.ownsRow B 27 1 v G.length us ∧ ∀ (j : Nat) (l : List Nat), G[j]? = some l → ∃ u : Value, us[j]? = some u ∧ w.ownsRow B 3 1 u l.length (ivs l)
theorem GRow.at {B : Nat} {w : World} {v : Value} {G : List (List Nat)} (h : GRow B w v G) : GrpsAt w v G := by
  obtain ⟨us, hr, hl⟩ := h
  rcases hr.2 with ⟨rfl, h0⟩ | ⟨g, cap, cur, rfl, _⟩
  · exact ⟨none, 0, by rw [h0], fun j x hx => by rw [List.length_eq_zero_iff.1 h0] at hx; cases hx⟩
  · refine ⟨some ⟨g, 0, none⟩, cap, rfl, fun j x hx => ?_⟩
    obtain ⟨u, hu, hru⟩ := hl j x hx
    have := hr.cells (g := g) rfl j u hu
    rw [add_plain] at this
    exact ⟨g, 0, u, rfl, this, IntsAt.of_row hru⟩
theorem GRow.nil (B : Nat) (w : World) : GRow B w (.slice none 0 0) [] := ⟨[], World.ownsRow_nil _ _ _ _, fun j l h => by cases h⟩
theorem GRow.keep {B : Nat} {w w' : World} {v : Value} {G : List (List Nat)} (h : GRow B w v G) (hb : Below w.heap.size w w') : GRow B w' v G := by
  obtain ⟨us, hr, hl⟩ := h
  refine ⟨us, row_keep hr hb, fun j l hj => ?_⟩
  obtain ⟨u, hu, hru⟩ := hl j l hj
  exact ⟨u, hu, row_keep hru hb⟩
/-- rows of different elements lie apart -/
theorem rows_apart {w : World} {B C : Nat} {e f : TypeId} {u v : Value} {n m : Nat} {xs ys : List Value} (hu : w.ownsRow B e 1 u n xs) (hv : w.ownsRow C f 1 v m ys) (hne : e ≠ f) : u.ownBlock = none ∨ u.ownBlock ≠ v.ownBlock := by
  rcases hu.2 with ⟨rfl, _⟩ | ⟨g, cap, cur, rfl, _, hg, _⟩
  · exact .inl rfl
  · refine .inr fun h => ?_
    rcases hv.2 with ⟨rfl, _⟩ | ⟨g', cap', cur', rfl, _, hg', _⟩
    · cases h
    · have : g = g' := by simpa [Value.ownBlock] using h
      subst this
      rw [hg] at hg'
      injection hg' with h1
      injection h1 with _ h2
      exact hne h2
theorem row_low {w : World} {B C : Nat} {e : TypeId} {v : Value} {n : Nat} {xs : List Value} (h : w.ownsRow B e 1 v n xs) (hc : C ≤ B) : w.ownsRow C e 1 v n xs := by
  refine ⟨h.1, ?_⟩
  rcases h.2 with h1 | ⟨g, cap, cur, hv, hb, rest⟩
  · exact .inl h1
  · exact .inr ⟨g, cap, cur, hv, Nat.le_trans hc hb, rest⟩
theorem GRow.push {B : Nat} {w w' : World} {v v' u : Value} {G : List (List Nat)} {us : List Value} {l : List Nat} (hr : w.ownsRow B 27 1 v G.length us) (hl : ∀ (j : Nat) (l : List Nat), G[j]? = some l → ∃ u : Value, us[j]? = some u ∧ w.ownsRow B 3 1 u l.length (ivs l)) (hu : w.ownsRow B 3 1 u l.length (ivs l))
    (h' : w'.ownsRow B 27 1 v' (G.length + 1) (us ++ [u])) (hg : w.grownBy w' v.ownBlock) : GRow B w' v' (G ++ [l]) := by
  have hus : us.length = G.length := by have := hr.1; simpa using this
  refine ⟨us ++ [u], by rw [List.length_append]; exact h', fun j x hj => ?_⟩
  by_cases c : j < G.length
  · rw [List.getElem?_append_left c] at hj
    obtain ⟨u1, h1, h2⟩ := hl j x hj
    exact ⟨u1, by rw [List.getElem?_append_left (by omega)]; exact h1, h2.kept hg (rows_apart h2 hr (by decide))⟩
  · rw [List.getElem?_append_right (by omega)] at hj
    have hj0 : j - G.length = 0 := by
      cases hq : j - G.length with
      | zero => rfl
      | succ m => rw [hq] at hj; cases hj
    rw [hj0] at hj
    simp at hj
    subst hj
    exact ⟨u, by rw [List.getElem?_append_right (by omega), hus, hj0]; rfl, hu.kept hg (rows_apart hu hr (by decide))⟩
/-- a long row is read in a region that only reads -/
theorem quiet_load_mid {P : Program} {op : Oper} {a : Act} {C : World → Prop} {K : Act → Prop} (ty : TypeId) (x : Operand) (ho : op.op = .load ty x) (b o : Nat) (hx : a.eval x = .pointer (some ⟨b, o, none⟩)) (cs : List Value) (d : TypeDesc) (hc : ∀ w, C w → w.rangeAt b o cs)
    (hu : P.underlying ty = some d) (hd : d.isRow = true) (hi : (P.info? ty).map (·.size) = some cs.length) (h : K (a.put op.dst (.agg cs.toArray))) : op.quiet P a C K :=
  ⟨.agg cs.toArray, fun w hw => by
    unfold Oper.quietAt execOp
    simp only [ho, hx, Instr.loadAt, Instr.sureAddr, Sem.run_bind, Sem.run_pure, Result.andThen_ok, run_loadVar_mid w b o ty cs d (hc w hw) hu hd hi]
    exact ⟨rfl, rfl⟩, h⟩
/-- the list that grows in the inner loop -/
def KG (wo : World) (r : Value) (l : List Nat) (w : World) : Prop := w.ownsRow wo.heap.size 3 1 r l.length (ivs l) ∧ Below wo.heap.size wo w
theorem KG.drew {wo : World} {r : Value} {l : List Nat} {w : World} (h : KG wo r l w) : KG wo r l w.drew := ⟨h.1, h.2.drew⟩
theorem infoIntK : (Try.prog.info? 3).map (fun i => (i.zero, i.size, i.bytes)) = some (some (.int .i64 0), 1, 8) := by kernel_rfl
theorem infoIntsK : (Try.prog.info? 27).map (fun i => (i.zero, i.size, i.bytes)) = some (some (.slice none 0 0), 1, 24) := by kernel_rfl
/-- place k of the keys that came in -/
def KeyAt (w : World) (ao : Option Addr) (k : Nat) (K : List UInt8) : Prop := ∃ b off, ao = some ⟨b, off, none⟩ ∧ w.rangeAt b (off + k * 17) (Lib.byteCells K)
theorem range_keep {w w1 : World} {b o : Nat} {cs : List Value} (h : w.rangeAt b o cs) (hb : Below w.heap.size w w1) : w1.rangeAt b o cs := fun j v hv => keep hb (h j v hv)
theorem KeyAt.keep {w w1 : World} {ao : Option Addr} {k : Nat} {K : List UInt8} (h : KeyAt w ao k K) (hb : Below w.heap.size w w1) : KeyAt w1 ao k K := by
  obtain ⟨b, off, ha, hc⟩ := h
  exact ⟨b, off, ha, range_keep hc hb⟩
theorem KG.push {wo w0 w2 : World} {r v2 : Value} {l : List Nat} {k : Nat} {o : Obj} (h : KG wo r l w0) (h2 : w2.ownsRow wo.heap.size 3 1 v2 (l.length + 1) (ivs l ++ [.int .i64 (k : Nat)])) (hg : (w0.alloc o).grownBy w2 r.ownBlock) : KG wo v2 (l ++ [k]) w2 := by
  refine ⟨by rw [List.length_append, ← ivs_snoc]; exact h2, ?_⟩
  exact (h.2.alloc h.2.size _).grown hg (by have := h.2.size; simp; omega) (fun q hq => (h.1.lt q hq).1)
theorem info_partsK {t : TypeId} {z : Value} {n m : Nat} (h : (Try.prog.info? t).map (fun i => (i.zero, i.size, i.bytes)) = some (some z, n, m)) : ∃ i, Try.prog.info? t = some i ∧ i.zero = some z ∧ i.size = n ∧ i.bytes = m := by
  cases hq : Try.prog.info? t with
  | none => rw [hq] at h; cases h
  | some i => rw [hq] at h; simp at h; exact ⟨i, rfl, h.1, h.2.1, h.2.2⟩
set_option maxRecDepth 100000 in
set_option maxHeartbeats 8000000 in
theorem refGroups_any (ao : Option Addr) (len cap : Nat) (K : Nat → List UInt8) (hlen : len ≤ 200) (hK : ∀ i, i < len → (K i).length = 17) (w : World) (H : ∀ i, i < len → KeyAt w ao i (K i)) :
    Calls Try.prog 7 #[.slice ao len cap] w fun e w' => (∃ v, e = .returned v ∧ GrpsAt w' v (grpK K len)) ∧ Below w.heap.size w w' := by
  have HH := Lib.hid (fun i (hi : i < len) wx (hb : Below w.heap.size w wx) => (H i hi).keep hb)
  have HKL := Lib.hid hK
  have hun := Try.underlying31
  have hin : ∀ i, i < len → (Try.prog.info? 31).map (·.size) = some (Lib.byteCells (K i)).length := fun i hi => by rw [Lib.byteCells_length, hK i hi]; exact infoKey
  have HIN := Lib.hid hin
  obtain ⟨i0, hi0, hz0, hz1, hz2⟩ := info_partsK infoIntK
  obtain ⟨i1, hi1, hy0, hy1, hy2⟩ := info_partsK infoIntsK
  clear H hK hin
  go_enter Try.func7, Try.ntmps7
  go_wp2
  go_loopw [3, 4] (fun o i wr => ∃ n : Nat, n ≤ len ∧ i = .int .i64 n ∧ Hid (GRow w.heap.size wr o ((fstK K n).map (memK K len))) ∧ Hid (Below w.heap.size w wr)) (fun _ i _ => len - (intOf i).toNat)
  case atStart => exact ⟨0, Nat.zero_le _, rfl, Lib.hid (GRow.nil _ _), Lib.hid (Below.refl _ _)⟩
  case round =>
    obtain ⟨n, hn, rfl, HG, HB⟩ := hrel
    by_cases hlt : n < len
    · rename World => wo
      have hs0 := HB.out.size
      go_wp2
      go_loopw [5, 6, 7] (fun r f i w1 => ∃ k : Nat, k ≤ len ∧ i = .int .i64 k ∧ f = .bool (ffB K n k) ∧ Hid (KG wo r (memK K k n) w1)) (fun _ _ i _ => len - (intOf i).toNat)
      case atStart => exact ⟨0, Nat.zero_le _, rfl, rfl, Lib.hid ⟨World.ownsRow_nil _ _ _ _, Below.refl _ _⟩⟩
      case round =>
        obtain ⟨k, hk, rfl, rfl, HR⟩ := hrel
        by_cases hlk : k < len
        · obtain ⟨b, off, rfl, r1⟩ := HH.out k hlk wr (HB.out.trans (HR.out.2.mono hs0))
          obtain ⟨b', off', hbb, r2⟩ := HH.out n hlt wr (HB.out.trans (HR.out.2.mono hs0))
          cases hbb
          have hin1 := HIN.out k hlk
          have hin2 := HIN.out n hlt
          have HQ := Lib.hid (show ∀ wx : World, (Op.equalIn 10000 31 (.agg (Lib.byteCells (K k)).toArray) (.agg (Lib.byteCells (K n)).toArray)).run Try.prog wx = .ok (decide (K k = K n)) wx from fun wx => equal_key wx (HKL.out k hlk) (HKL.out n hlt))
          have HMN := Lib.hid (memK_succ K k n)
          have HFN := Lib.hid (ffB_next K n k)
          have hml := memK_len K k n
          obtain ⟨f, hf⟩ : ∃ f, ffB K n k = f := ⟨_, rfl⟩
          rw [hf] at HFN ⊢
          clear hf
          obtain ⟨C1, hC1⟩ : ∃ C, Lib.byteCells (K k) = C := ⟨_, rfl⟩
          obtain ⟨C2, hC2⟩ : ∃ C, Lib.byteCells (K n) = C := ⟨_, rfl⟩
          rw [hC1] at r1 hin1 HQ
          rw [hC2] at r2 hin2 HQ
          have HR1 := Lib.hid r1
          have HR2 := Lib.hid r2
          obtain ⟨M, hM⟩ : ∃ M, memK K k n = M := ⟨_, rfl⟩
          rw [hM] at HR HMN hml
          clear hC1 hC2 r1 r2 hM
          have heq := HQ.out
          by_cases hkn : K k = K n
          · rw [decide_eq_true hkn] at heq
            have hkb : (K k == K n) = true := by simpa using hkn
            rw [hkb, if_pos rfl] at HMN
            rw [hkb, Bool.true_and] at HFN
            clear hkn hkb
            by_cases hc : k < n
            · rw [decide_eq_true hc] at HFN
              have e1 : decide ((n : Int) ≤ k) = false := by simp; omega
              have e2 : decide (n ≤ k) = false := by simp; omega
              go_wp2
              refine wp_region_quiet_lit (by kernel_rfl) (by kernel_rfl) ?_
              go_big_quiet_step (fail)
              go_big_quiet_step (fail)
              go_big_quiet_step (fail)
              go_big_quiet_want
              refine quiet_load_mid 31 _ rfl b (off + k * 17) rfl C1 _ (fun wx hx => by obtain ⟨m, rfl⟩ := hx; exact HR1.out) Try.underlying31 rfl hin1 ?_
              try simp only [Act.put, List.setIfInBounds_toArray, List.set_cons_zero, List.set_cons_succ]
              go_big_quiet_on
              go_big_quiet_step (fail)
              go_big_quiet_step (fail)
              go_big_quiet_step (fail)
              go_big_quiet_want
              refine quiet_load_mid 31 _ rfl b (off + n * 17) rfl C2 _ (fun wx hx => by obtain ⟨m, rfl⟩ := hx; exact HR2.out) Try.underlying31 rfl hin2 ?_
              try simp only [Act.put, List.setIfInBounds_toArray, List.set_cons_zero, List.set_cons_succ]
              go_big_quiet_on
              go_big_quiet_step (fail)
              refine wpQuiet_nil ?_
              intro _ hw'
              obtain ⟨nq, hw''⟩ := hw'
              subst hw''
              go_wp2_with (at_builtin; refine wpList_append_at rfl _ _ 27 rfl wo.heap.size 3 i0 (.int .i64 0) 1 8 Try.underlying27 hi0 hz0 hz1 hz2 rfl (by decide) u5 M.length (ivs M) rfl (World.ownsRow.alloc (w := wr.drewN nq) HR.out.1 _) ⟨_, 0, none⟩ 1 1 [.int .i64 (k : Nat)] rfl rfl (fun j u hj => by match j, hj with | 0, hj => (simp at hj; subst hj; rw [add_plain]; exact cell_at (alloc_at (wr.drewN nq) _) rfl)) (fun u hu => by (simp at hu; subst hu; rfl)) (by unfold maxLen; omega) (by omega) (by have := HR.out.2.size; simp; omega) ?_; intro v2 w2 hown2 hg2 hf2; have HK2 := Lib.hid (KG.push (w0 := wr.drewN nq) (k := k) ⟨HR.out.1, drewN_below HR.out.2 nq⟩ hown2 hg2); clear hown2 hg2 hf2)
              all_goals
                go_roundw
                case rel => exact ⟨k + 1, by omega, by go_num, by rw [HFN.out]; first | rfl | simp_all, Lib.hid (by rw [HMN.out]; exact HK2.out)⟩
                case measure => simp [intOf]; omega
            · rw [decide_eq_false hc] at HFN
              have e1 : decide ((n : Int) ≤ k) = true := by simp; omega
              have e2 : decide (n ≤ k) = true := by simp; omega
              go_wp2
              refine wp_region_quiet_lit (by kernel_rfl) (by kernel_rfl) ?_
              go_big_quiet_step (fail)
              go_big_quiet_step (fail)
              go_big_quiet_step (fail)
              go_big_quiet_want
              refine quiet_load_mid 31 _ rfl b (off + k * 17) rfl C1 _ (fun wx hx => by obtain ⟨m, rfl⟩ := hx; exact HR1.out) Try.underlying31 rfl hin1 ?_
              try simp only [Act.put, List.setIfInBounds_toArray, List.set_cons_zero, List.set_cons_succ]
              go_big_quiet_on
              go_big_quiet_step (fail)
              go_big_quiet_step (fail)
              go_big_quiet_step (fail)
              go_big_quiet_want
              refine quiet_load_mid 31 _ rfl b (off + n * 17) rfl C2 _ (fun wx hx => by obtain ⟨m, rfl⟩ := hx; exact HR2.out) Try.underlying31 rfl hin2 ?_
              try simp only [Act.put, List.setIfInBounds_toArray, List.set_cons_zero, List.set_cons_succ]
              go_big_quiet_on
              go_big_quiet_step (fail)
              refine wpQuiet_nil ?_
              intro _ hw'
              obtain ⟨nq, hw''⟩ := hw'
              subst hw''
              go_wp2_with (at_builtin; refine wpList_append_at rfl _ _ 27 rfl wo.heap.size 3 i0 (.int .i64 0) 1 8 Try.underlying27 hi0 hz0 hz1 hz2 rfl (by decide) u5 M.length (ivs M) rfl (World.ownsRow.alloc (w := wr.drewN nq) HR.out.1 _) ⟨_, 0, none⟩ 1 1 [.int .i64 (k : Nat)] rfl rfl (fun j u hj => by match j, hj with | 0, hj => (simp at hj; subst hj; rw [add_plain]; exact cell_at (alloc_at (wr.drewN nq) _) rfl)) (fun u hu => by (simp at hu; subst hu; rfl)) (by unfold maxLen; omega) (by omega) (by have := HR.out.2.size; simp; omega) ?_; intro v2 w2 hown2 hg2 hf2; have HK2 := Lib.hid (KG.push (w0 := wr.drewN nq) (k := k) ⟨HR.out.1, drewN_below HR.out.2 nq⟩ hown2 hg2); clear hown2 hg2 hf2)
              all_goals
                go_roundw
                case rel => exact ⟨k + 1, by omega, by go_num, by rw [HFN.out]; first | rfl | simp_all, Lib.hid (by rw [HMN.out]; exact HK2.out)⟩
                case measure => simp [intOf]; omega
          · rw [decide_eq_false hkn] at heq
            have hkb : (K k == K n) = false := by simpa using hkn
            rw [hkb, if_neg (by decide), List.append_nil] at HMN
            rw [hkb, Bool.false_and] at HFN
            clear hkn hkb
            go_wp2
            refine wp_region_quiet_lit (by kernel_rfl) (by kernel_rfl) ?_
            go_big_quiet_step (fail)
            go_big_quiet_step (fail)
            go_big_quiet_step (fail)
            go_big_quiet_want
            refine quiet_load_mid 31 _ rfl b (off + k * 17) rfl C1 _ (fun wx hx => by obtain ⟨m, rfl⟩ := hx; exact HR1.out) Try.underlying31 rfl hin1 ?_
            try simp only [Act.put, List.setIfInBounds_toArray, List.set_cons_zero, List.set_cons_succ]
            go_big_quiet_on
            go_big_quiet_step (fail)
            go_big_quiet_step (fail)
            go_big_quiet_step (fail)
            go_big_quiet_want
            refine quiet_load_mid 31 _ rfl b (off + n * 17) rfl C2 _ (fun wx hx => by obtain ⟨m, rfl⟩ := hx; exact HR2.out) Try.underlying31 rfl hin2 ?_
            try simp only [Act.put, List.setIfInBounds_toArray, List.set_cons_zero, List.set_cons_succ]
            go_big_quiet_on
            go_big_quiet_step (fail)
            refine wpQuiet_nil ?_
            intro _ hw'
            obtain ⟨nq, hw''⟩ := hw'
            subst hw''
            go_wp2
            go_roundw
            case rel => exact ⟨k + 1, by omega, by go_num, by rw [HFN.out]; simp, Lib.hid (by rw [HMN.out]; exact ⟨HR.out.1, drewN_below HR.out.2 nq⟩)⟩
            case measure => simp [intOf]; omega
        · obtain rfl : k = len := by omega
          have HFA := Lib.hid (ffB_all K n k (by omega))
          obtain ⟨ao2, c2, hv2⟩ := own_slice8 HR.out.1
          subst hv2
          have HFS := Lib.hid (fstK_succ K n)
          have HGK := HG.out.keep HR.out.2
          have hfl := fstK_len K n
          have hml := memK_len K k n
          obtain ⟨us, hrow, hin⟩ := HGK
          have hul : us.length = (List.map (memK K k) (fstK K n)).length := by have := hrow.1; simpa using this
          rw [List.length_map] at hrow hul
          have HRW := Lib.hid hrow
          have HIN2 := Lib.hid hin
          have HBT := Lib.hid (HB.out.trans (HR.out.2.mono hs0))
          have hbz := HBT.out.size
          clear hrow hin
          rw [HFA.out]
          cases hq : newK K n with
          | true =>
            rw [hq, if_pos rfl] at HFS
            clear hq HFA HIN HKL HH
            go_wp2_with (at_builtin; refine wpList_append_at rfl _ _ 24 rfl w.heap.size 27 i1 (.slice none 0 0) 1 24 Try.underlying24 hi1 hy0 hy1 hy2 rfl (by decide) u3 (fstK K n).length us rfl (World.ownsRow.alloc (w := wr) HRW.out _) ⟨_, 0, none⟩ 1 1 [.slice ao2 (memK K k n).length c2] rfl rfl (fun j u hj => by match j, hj with | 0, hj => (simp at hj; subst hj; rw [add_plain]; exact cell_at (alloc_at wr _) rfl)) (fun u hu => by (simp at hu; subst hu; rfl)) (by unfold maxLen; omega) (by omega) (by simp; omega) ?_; intro v2 w2 hown2 hg2 hf2; have HK2 := Lib.hid (GRow.push (l := memK K k n) (w := wr.alloc (.cells #[.slice ao2 (memK K k n).length c2] 27)) (by rw [List.length_map]; exact HRW.out.alloc _) (fun j l hj => (HIN2.out j l hj).imp fun u hu => And.intro hu.1 (hu.2.alloc _)) ((row_low HR.out.1 hs0).alloc _) (by rw [List.length_map]; exact hown2) hg2); have HB2 := Lib.hid ((HBT.out.alloc hbz _).grown hg2 (by simp; omega) (fun q hq => (HRW.out.lt q hq).1)); clear hown2 hg2 hf2)
            go_roundw
            case rel => exact ⟨n + 1, by omega, by go_num, Lib.hid (by rw [HFS.out, List.map_append]; exact HK2.out), HB2⟩
            case measure => simp [intOf]; omega
          | false =>
            rw [hq, if_neg (by decide), List.append_nil] at HFS
            clear hq HFA HIN HKL HH
            go_wp2
            go_roundw
            case rel => exact ⟨n + 1, by omega, by go_num, Lib.hid (by rw [HFS.out]; exact HG.out.keep HR.out.2), HBT⟩
            case measure => simp [intOf]; omega
    · obtain rfl : n = len := by omega
      have HE := Lib.hid HG.out.at
      go_wp2
      go_ret
      exact ⟨⟨_, rfl, HE.out⟩, HB.out⟩
end Go.Proofs.Ytinmdkhafamibaa
