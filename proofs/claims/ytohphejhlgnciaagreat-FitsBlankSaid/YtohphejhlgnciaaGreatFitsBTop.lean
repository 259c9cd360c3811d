/- A least value as it is put together: its box, its Items' row, its Items. -/
import Derived.Test.YtohphejhlgnciaaGreatFitsRSizes
import Derived.Test.YtohphejhlgnciaaGreatFitsNone
import Derived.Deep.RegionHeld3
import Derived.BigGuardPart
namespace Go.Proofs.YtohphejhlgnciaaGreat
open Go.RowKit
set_option linter.unusedVariables false
theorem ValAt.lt {w : World} {S : Nat → Prop} : ∀ T : VT, ValAt w S T → ValAt w (fun b => S b ∧ b < w.heap.size) T := by
  refine VT.ind fun T ih h => ?_
  obtain ⟨h1, h2⟩ := (valAt_iff T).1 h
  refine (valAt_iff T).2 ⟨h1, fun i hi => ⟨?_, ih i hi (h2 i hi).2⟩⟩
  obtain ⟨b, off, e, hs, hl, r⟩ := (h2 i hi).1
  exact ⟨b, off, e, ⟨hs, hl⟩, hl, r⟩
theorem rowL9_congr {K K' : Nat → VT} : ∀ n, (∀ i, i < n → K i = K' i) → rowL9 K n = rowL9 K' n
  | 0, _ => rfl
  | n + 1, h => by rw [rowL9, rowL9, rowL9_congr n (fun i hi => h i (by omega)), h n (by omega)]
abbrev zeroO9 : Obj := .cells #[.int .i64 0, .int .u64 0, .string ⟨#[]⟩, .slice none 0 0] 26 (0, 0)
abbrev boxO9 (k n : Int) (va : Option Addr) (j vc : Nat) : Obj := .cells #[.int .i64 k, .int .u64 n, .string ⟨#[]⟩, .slice va j vc] 26 (0, 0)
/-- a least value in the making: N, N + 1: the result's cells and the box; wL: the world ahead of the loop -/
structure BSt (L : Nat → TypeV) (t : Nat) (N1 : Nat) (w0 wL : World) (va : Option Addr) (vc j : Nat) (K : Nat → VT) (w : World) : Prop where
  res : w.heap[w0.heap.size]? = some zeroO9
  box : w.heap[N1]? = some (boxO9 (L t).kind (numL L t) va j vc)
  row : w.ownsRow wL.heap.size 26 4 (.slice va j vc) j (rowL9 K j)
  kids : ∀ i, i < j → isBl L (K i) (typL L t i) ∧ ValAt w (fun b => wL.heap.size ≤ b ∧ (∀ a, va = some a → a.block ≠ b) ∧ b < w.heap.size) (K i)
  only : Only (fun b => b = N1) wL w
  base : w0.heap.size < N1 ∧ N1 < wL.heap.size
  below : Below w0.heap.size w0 w
theorem BSt.next {L : Nat → TypeV} {t N1 : Nat} {w0 wL : World} {va : Option Addr} {vc j : Nat} {K : Nat → VT} {wr w2 w3 : World} {U : VT} {g4 c4 : Nat} (h : BSt L t N1 w0 wL va vc j K wr) (hb : Below wr.heap.size wr w2) (hU : isBl L U (typL L t j)) (hv : ValAt w2 (fun b => wr.heap.size ≤ b) U)
    (hg : w2.grownBy w3 (Value.slice va j vc).ownBlock) (ho : w3.ownsRow wL.heap.size 26 4 (.slice (some ⟨g4, 0, none⟩) (j + 1) c4) (j + 1) (rowL9 K j ++ vcells9 U)) (hat : (Value.slice va j vc).ownBlock = some g4 ∨ g4 = w2.heap.size) :
    BSt L t N1 w0 wL (some ⟨g4, 0, none⟩) c4 (j + 1) (fun i => if i < j then K i else U) (w3.setCell ⟨N1, 3, none⟩ (.slice (some ⟨g4, 0, none⟩) (j + 1) c4)) := by
  have hbase := h.base
  have hosz := h.only.size
  have hbsz := hb.size
  have hgsz := hg.size
  have hown : ∀ k, (Value.slice va j vc).ownBlock = some k → wL.heap.size ≤ k ∧ k < wr.heap.size := fun k hk => h.row.lt k hk
  have hblk : ∀ b, b < wr.heap.size → (∀ a, va = some a → a.block ≠ b) → w3.heap[b]? = wr.heap[b]? := fun b hbl hne => by
    rw [hg.block b (by omega) (fun e => ?_), hb.block b hbl]
    cases va with
    | none => simp [Value.ownBlock] at e
    | some a => exact hne a rfl (by simp [Value.ownBlock] at e; exact e.symm)
  have hlow : ∀ b, b < wL.heap.size → w3.heap[b]? = wr.heap[b]? := fun b hbl => by
    have := hosz
    rw [hg.block b (by omega) (fun e => by have := (hown b e.symm).1; omega), hb.block b (by omega)]
  have hsz4 : ∀ p u, (w3.setCell p u).heap.size = w3.heap.size := fun p u => by simp
  have hg4 : wL.heap.size ≤ g4 ∧ g4 < w3.heap.size := by
    have := ho.lt g4 rfl
    exact this
  refine ⟨?_, ?_, ?_, fun i hi => ?_, ?_, h.base, ?_⟩
  · rw [set_other (show w0.heap.size ≠ _ by simp; omega)]
    exact (hlow _ (by omega)).trans h.res
  · exact (set_at ((hlow _ hbase.2).trans h.box)).trans rfl
  · have e : rowL9 (fun i => if i < j then K i else U) (j + 1) = rowL9 K j ++ vcells9 U := by
      rw [rowL9, rowL9_congr j (K' := K) (fun i hi => by simp [hi])]
      simp
    rw [e]
    refine Only.row (S := fun b => b = N1) (Only.setCell (S := fun b => b = N1) (p := ⟨N1, 3, none⟩) (Only.refl _ w3) (.inl rfl) _) ho (fun k hk e => ?_)
    have := (ho.lt k hk).1
    omega
  · by_cases hij : i < j
    · simp only [hij, if_true]
      obtain ⟨h1, h2⟩ := h.kids i hij
      refine ⟨h1, ValAt.held_of (fun b ⟨s1, s2, s3⟩ => ⟨s1, fun a ha => ?_, by rw [hsz4]; omega⟩) (by rw [hsz4]; omega) (fun b ⟨s1, s2, s3⟩ _ => ?_) _ h2⟩
      · cases ha
        show g4 ≠ b
        rcases hat with hat | hat
        · cases va with
          | none => simp [Value.ownBlock] at hat
          | some a => have := s2 a rfl; simp [Value.ownBlock] at hat; omega
        · omega
      · rw [set_other (show b ≠ _ by simp; omega)]
        exact hblk b s3 s2
    · have hij' : i = j := by omega
      subst hij'
      simp only [hij, if_false]
      refine ⟨hU, ValAt.held_of (fun b ⟨s1, s3⟩ => ⟨by omega, fun a ha => ?_, by rw [hsz4]; omega⟩) (by rw [hsz4]; omega) (fun b ⟨s1, s3⟩ _ => ?_) _ (hv.lt _)⟩
      · cases ha
        show g4 ≠ b
        rcases hat with hat | hat
        · have := (hown g4 hat).2; omega
        · omega
      · rw [set_other (show b ≠ _ by simp; omega)]
        refine hg.block b (by omega) (fun e => ?_)
        have := (hown b e.symm).2
        omega
  · refine ⟨hg.os.trans (hb.os.trans h.only.os), hg.tape.trans (hb.tape.trans h.only.tape), hg.output.trans (hb.output.trans h.only.output), by rw [hsz4]; omega, fun b hbl hnb => ?_⟩
    rw [set_other (show b ≠ _ from hnb)]
    exact (hlow b hbl).trans (h.only.block b hbl hnb)
  · refine ((h.below.trans (hb.mono h.below.size)).grown hg (by have := h.below.size; omega) (fun k hk => by have := (hown k hk).1; omega)).setCell (show w0.heap.size ≤ _ by simp; omega) _
/-- the value that is made -/
theorem BSt.made {L : Nat → TypeV} {t N1 : Nat} {w0 wL : World} {va : Option Addr} {vc : Nat} {K : Nat → VT} {wr : World} (h : BSt L t N1 w0 wL va vc (cntL L t) K wr) (hk : (Lit.int .i64 (L t).kind).wf = true) (hn : (Lit.int .u64 (numL L t)).wf = true) (hc : cntL L t ≤ 64) (r : Array Value) :
    isBl L (.node (L t).kind (numL L t) ⟨#[]⟩ va (cntL L t) vc K) t ∧ ValAt (wr.setRow w0.heap.size r) (fun b => w0.heap.size ≤ b) (.node (L t).kind (numL L t) ⟨#[]⟩ va (cntL L t) vc K) := by
  have hbase := h.base
  refine ⟨(isBl_iff _ _ _).2 ⟨⟨rfl, rfl, rfl, rfl⟩, fun i hi => (h.kids i hi).1⟩, ?_⟩
  refine ValAt.held_of (S := fun b => wL.heap.size ≤ b) (fun b hb => by omega) (by simp [World.setRow]) (fun b hb _ => setRow_other _ _ _ _ (by omega)) _ ((valAt_iff _).2 ⟨⟨hk, hn, by show (⟨#[]⟩ : ByteArray).size ≤ _; decide, by show cntL L t ≤ _; omega⟩, fun i hi => ⟨?_, ?_⟩⟩)
  · have hi' : i < cntL L t := hi
    rcases h.row.2 with ⟨_, h0⟩ | ⟨g, cap, cur, hv, hb, hg, h1, h2, h3, h4⟩
    · omega
    · injection hv with e1 e2 e3
      have hget : ∀ r, r < 4 → wr.cell? ⟨g, i * 4 + r, none⟩ = (vcells9 (K i))[r]? := fun r hr => by
        have := cell_of_row wr g (i * 4 + r) cur 26 (0, 0) hg
        rw [this, ← rowL9_get K (cntL L t) i r hi' hr, ← h4, List.getElem?_take, if_pos (by omega)]
        simp
      refine ⟨g, 0, e1, hb, lt_of_block hg, ?_, ?_, ?_, ?_⟩
      · have := hget 0 (by omega); simpa [vcells9, VT.kid] using this
      · have := hget 1 (by omega); simpa [vcells9, VT.kid] using this
      · have := hget 2 (by omega); simpa [vcells9, VT.kid] using this
      · have := hget 3 (by omega); simpa [vcells9, VT.kid] using this
  · exact (h.kids i hi).2.sub (fun b hb => hb.1)
theorem num_wf {L : Nat → TypeV} {len : Nat} (hv : OkL L len) {t : Nat} (ht : t < len) {w : World} {ao : Option Addr} (H : ∀ i, i < len → TypeAt w ao i (L i)) : (Lit.int .u64 (numL L t)).wf = true := by
  have key : ∀ k, k < len → (L k).kind = 9 → (Lit.int .u64 ((L k).items 0).num).wf = true := fun k hk h9 => by
    obtain ⟨_, _, _, _, _, _, _, _, wi⟩ := (H k hk).items.2 0 (by have := hv.enum k hk h9; omega)
    exact wi.1
  have z : (Lit.int .u64 0).wf = true := by kernel_rfl
  unfold numL
  by_cases h9 : (L t).kind = 9
  · rw [if_pos h9]; exact key t ht h9
  · rw [if_neg h9]
    by_cases h14 : (L t).kind = 14
    · rw [if_pos h14]
      by_cases j9 : (L (L t).tag.toNat).kind = 9
      · rw [if_pos j9]
        have := (hv.ok t ht).tag h14
        exact key _ (by omega) j9
      · rw [if_neg j9]; exact z
    · rw [if_neg h14]; exact z
theorem kind_wf {len : Nat} {L : Nat → TypeV} {t : Nat} (ht : t < len) {w : World} {ao : Option Addr} (H : ∀ i, i < len → TypeAt w ao i (L i)) : (Lit.int .i64 (L t).kind).wf = true := by
  obtain ⟨_, _, _, _, _, _, _, _, _, wf, _⟩ := H t ht
  exact wf.1
/-- what the operations of a round have made, each as it comes up: ic the call's, ib the row's -/
def OkB (L : Nat → TypeV) (p ws ic ib : Nat) (c : Nat → Value) (j : Nat) (y : Value) (w : World) : Prop :=
  if j = ic then ∃ U : VT, y = .agg #[.int .i64 U.kind, .int .u64 U.num, .string U.text, .slice U.ia U.len U.cap] ∧ isBl L U p ∧ ValAt w (fun b => ws ≤ b) U
  else if j = ib then ∃ g, ∃ U : VT, y = .slice (some ⟨g, 0, none⟩) 1 1 ∧ w.heap[g]? = some (.cells #[.int .i64 U.kind, .int .u64 U.num, .string U.text, .slice U.ia U.len U.cap] 26 (0, 0)) ∧ ws ≤ g ∧ isBl L U p ∧ ValAt w (fun b => ws ≤ b) U
  else y = c j
theorem OkB.keep {L : Nat → TypeV} {p ws ic ib : Nat} {c : Nat → Value} {j : Nat} {y : Value} {w w1 : World} (h : OkB L p ws ic ib c j y w) (hb : Below w.heap.size w w1) : OkB L p ws ic ib c j y w1 := by
  unfold OkB at *
  split
  · rename_i e; rw [if_pos e] at h; obtain ⟨U, h1, h2, h3⟩ := h; exact ⟨U, h1, h2, h3.next hb⟩
  · rename_i e
    rw [if_neg e] at h
    split
    · rename_i e2; rw [if_pos e2] at h; obtain ⟨g, U, h1, h2, h3, h4, h5⟩ := h; exact ⟨g, U, h1, box_keep h2 hb, h3, h4, h5.next hb⟩
    · rename_i e2; rw [if_neg e2] at h; exact h
def BlTo (L : Nat → TypeV) (t : Nat) (w : World) (e : Ending) (w' : World) : Prop :=
  ∃ U : VT, e = .returned (.agg #[.int .i64 U.kind, .int .u64 U.num, .string U.text, .slice U.ia U.len U.cap]) ∧ isBl L U t ∧ ValAt w' (fun b => w.heap.size ≤ b) U ∧ Below w.heap.size w w'
end Go.Proofs.YtohphejhlgnciaaGreat
namespace Go.Proofs.YtohphejhlgnciaaGreat
open Go.RowKit
set_option linter.unusedVariables false
set_option maxRecDepth 100000 in
set_option maxHeartbeats 8000000 in
theorem blank9_in (ao : Option Addr) (len cap : Nat) (L : Nat → TypeV) (hlen : len ≤ 1000000) (hv : OkL L len) (hcp : ∀ i, i < len → (L i).ilen ≤ (L i).icap) (k : Nat) : ∀ (t : Nat) (w : World), t < k → t < len → (∀ i, i < len → TypeAt w ao i (L i)) →
    Calls Tryz.prog 20 #[.slice ao len cap, .int .i64 t] w (BlTo L t w) := by
  induction k with
  | zero => exact fun t w h => absurd h (Nat.not_lt_zero t)
  | succ k ih =>
  intro t w hk ht H
  have HCALL := Lib.hid (fun p (hp : p < t) wx (hb : Below w.heap.size w wx) => ih p wx (by omega) (by omega) (hold H hb))
  have HTY := Lib.hid (fun i (hi : i < cntL L t) => typL_ok (hv.ok t ht) hi)
  have hc64 := cntL_le (hv.ok t ht)
  have hkw := kind_wf ht H
  have hnw := num_wf hv ht H
  obtain ⟨i0, hi0, hz0, hz1, hz2⟩ := info_parts infoValue9
  have HN := Lib.hid (fun wx (hb : Below w.heap.size w wx) => leastNum9_any ao len cap L hlen hv t ht wx (hold H hb))
  have HLI := Lib.hid (fun wx (hb : Below w.heap.size w wx) => leastItems9_any ao len cap L hlen hv hcp t ht wx (hold H hb))
  obtain ⟨b, off, rfl, c0, c1, c2, c3, c4, c5, wf, hi⟩ := H t ht
  obtain ⟨kd, hkd⟩ : ∃ x, (L t).kind = x := ⟨_, rfl⟩
  obtain ⟨nm, hnm⟩ : ∃ x, numL L t = x := ⟨_, rfl⟩
  rw [hkd] at c0
  rw [hnm] at HN
  have HKD := Lib.hid hkd
  have HNM := Lib.hid hnm
  have HB := Lib.hid ((Below.refl w.heap.size w).alloc (Nat.le_refl _) zeroO9)
  have HQ := Lib.hid (alloc_at w zeroO9)
  have HSZ := Lib.hid (show (w.alloc zeroO9).heap.size = w.heap.size + 1 by simp)
  have c0 := keep HB.out c0
  clear wf hi c1 c2 c3 c4 c5 H hkd hnm ih hv hcp
  go_enter Tryz.func20, Tryz.ntmps20
  go_upto_region 1 with (fail)
  generalize (w.alloc zeroO9) = W0 at *
  have hs0 : W0.heap.size = w.heap.size + 1 := HSZ.out
  go_cut [5] (fun s wx => ∃ p, s = .pointer (some ⟨p, 0, none⟩) ∧ p = w.heap.size + 1 ∧ Hid (wx.heap[w.heap.size]? = some zeroO9) ∧ Hid (wx.heap[p]? = some (boxO9 kd nm none 0 0)) ∧ Hid (Below w.heap.size w wx) ∧ wx.heap.size = p + 1)
  case first =>
    have hbl := World.block_lt_of_cell? W0 _ c0
    have hne : ¬ b = W0.heap.size := by simp at hbl; omega
    go_region_held3 (fun w' => w'.cell? ⟨b, off + t * 6, none⟩ = some (.int .i64 kd)) (first | exact c0 | go_keep)
      (first | (go_at_call 37; refine (HN.out _ (by first | exact HB.out | exact HB.out.drew | exact HB.out.alloc HB.out.size _ | exact (HB.out.alloc HB.out.size _).drew)).mono ?_; rintro e w1 ⟨rfl, rfl⟩))
    all_goals
      go_wp2_with fail
      go_meet
      exact ⟨_, rfl, rfl, Lib.hid (alloc_old HQ.out), Lib.hid (by rw [← hs0]; exact alloc_at W0 _), Lib.hid ((HB.out.alloc HB.out.size _).drew), by simp; omega⟩
  case rest =>
    obtain ⟨p1, rfl, rfl, HQ1, HX1, HB1, hs1⟩ := hcut
    clear c0 HQ HB hs0 HSZ HN
    obtain ⟨P, hP⟩ : ∃ P, listF (L t) (numL L t) (cntL L t) = P := ⟨_, rfl⟩
    have HPG := Lib.hid (show ∀ i, i < cntL L t → P.getD i 0 = (typL L t i : Nat) from fun i hi => by rw [← hP, listF_get _ _ hi, (HTY.out i hi).1])
    have hli := HLI.out wc HB1.out
    unfold LItemsTo at hli
    rw [hP] at hli
    have HL := Lib.hid hli
    clear hli HLI hP
    go_upto_region 3 with (go_at_call 36; refine (HL.out).mono ?_; rintro e w2 ⟨v, rfl, hown, hb2⟩; obtain ⟨va, vc, rfl, hva⟩ := row_form hown; have HQ2 := Lib.hid (box_keep HQ1.out hb2); have HX2 := Lib.hid (box_keep HX1.out hb2); have HB2 := Lib.hid (below_step8' HB1.out hb2); have hs2 := hb2.size; have HV := Lib.hid hva; have HO2 := Lib.hid hown; clear hown hva hb2)
    have HS := Lib.hid (show BSt L t (w.heap.size + 1) w w2 none 0 0 (fun _ => .nil) w2 from ⟨HQ2.out, by rw [HKD.out, HNM.out]; exact HX2.out, World.ownsRow_nil _ _ _ _, fun i hi => absurd hi (Nat.not_lt_zero i), Only.refl _ _, ⟨by omega, by omega⟩, HB2.out⟩)
    clear HQ1 HX1 HB1 HQ2 HX2 HB2 HL
    obtain ⟨m, hm⟩ : ∃ m, cntL L t = m := ⟨_, rfl⟩
    rw [hm] at hc64 HPG HTY HO2 HV ⊢
    have HMM := Lib.hid hm
    have hs1' := hs1
    clear hm
    go_loopw [21] (fun i wr => ∃ (j : Nat) (ia : Option Addr) (ic : Nat) (K : Nat → VT), j ≤ m ∧ i = .int .i64 j ∧ Hid (BSt L t (w.heap.size + 1) w w2 ia ic j K wr)) (fun i _ => m - (intOf i).toNat)
    case atStart => exact ⟨0, none, 0, _, Nat.zero_le _, by first | rfl | (rw [HMM.out]), HS⟩
    case round =>
      obtain ⟨j, ia, ic, K0, hj, rfl, HP⟩ := hrel
      by_cases hlt : j < m
      · obtain ⟨gp, hgp⟩ := HV.out (by omega)
        subst hgp
        have hpr := Only.row HP.out.only HO2.out (fun q hq e => by have := (HO2.out.lt q hq).1; omega)
        have p0 := cell_int hpr j hlt
        rw [HPG.out j hlt] at p0
        have hpt := (HTY.out j hlt).2
        obtain ⟨pt, hptd⟩ : ∃ x, typL L t j = x := ⟨_, rfl⟩
        rw [hptd] at p0 hpt
        have HPT := Lib.hid hptd
        have HCL := Lib.hid (fun wx hb => HCALL.out pt hpt wx hb)
        have x3 : wr.cell? ⟨w.heap.size + 1, 3, none⟩ = some (.slice ia j ic) := cell_at HP.out.box rfl
        clear hpr hptd
        go_upto_region 5 with (fail)
        obtain ⟨ws, hws⟩ : ∃ ws : World, ws = wr := ⟨_, rfl⟩
        have HBS := Lib.hid HP.out
        have HBW := Lib.hid HP.out.below
        have hsz1 := HP.out.only.size
        have hbs1 := HP.out.base
        refine wp_region_pre (by kernel_rfl) 6 100 (fun v => ((.slice (some ⟨b, off, none⟩) len cap : Value) :: (.int .i64 (t : Nat) : Value) :: undef :: undef :: (.pointer (some ⟨w.heap.size, 0, none⟩) : Value) :: (.pointer (some ⟨w.heap.size + 1, 0, none⟩) : Value) :: undef :: (.int .i64 (pt : Nat) : Value) :: u8 :: u9 :: u10 :: u11 :: u12 :: u13 :: u14 :: u15 :: u16 :: (.slice (some ⟨b, off, none⟩) len cap : Value) :: (.int .i64 (t : Nat) : Value) :: (.slice (some ⟨gp, 0, none⟩) m vc : Value) :: (.int .i64 (m : Nat) : Value) :: (.int .i64 (j : Nat) : Value) :: (.bool true : Value) :: (.pointer (some ⟨gp, j, none⟩) : Value) :: (.int .i64 (pt : Nat) : Value) :: v 0 :: v 1 :: v 2 :: v 3 :: v 4 :: v 5 :: u31 :: u32 :: u33 :: u34 :: []).toArray) (fun j' => [u25, u26, u27, u28, u29, u30].getD j' undef) (OkB L pt wr.heap.size 4 5 (fun j' => [(.pointer (some ⟨w.heap.size + 1, 3, none⟩) : Value), (.slice ia j ic : Value), (.slice (some ⟨b, off, none⟩) len cap : Value), (.int .i64 (pt : Nat) : Value), undef, undef].getD j' undef)) (fun w' => Below wr.heap.size wr w') (fun _ => True) (Nat.le_of_ble_eq_true (by kernel_rfl)) (by kernel_rfl) ((Below.refl _ _).drew) trivial (fun i' hi' v w1 hBx _ hd => ?_) (fun v w1 hv hBx => ?_)
        · have hbw := below_step8' HBW.out hBx
          have x3 := keep hBx x3
          have hcs : i' = 0 ∨ i' = 1 ∨ i' = 2 ∨ i' = 3 ∨ i' = 4 ∨ i' = 5 := by omega
          rcases hcs with rfl | rfl | rfl | rfl | rfl | rfl
          · refine wpOp_step (o := _) rfl (fun K' hK => ?_)
            go_simp
            exact hK _ _ ⟨(.pointer (some ⟨w.heap.size + 1, 3, none⟩) : Value), rfl, rfl, hBx, fun _ h => h, fun k y _ h => h⟩
          · have e0 : v 0 = (.pointer (some ⟨w.heap.size + 1, 3, none⟩) : Value) := hd 0 (List.contains_iff_mem.1 (by kernel_rfl))
            refine wpOp_step (o := _) rfl (fun K' hK => ?_)
            go_simp
            exact hK _ _ ⟨(.slice ia j ic : Value), fr_eq9 (by simp [upd, e0]), rfl, hBx, fun _ h => h, fun k y _ h => h⟩
          · refine wpOp_step (o := _) rfl (fun K' hK => ?_)
            go_simp
            exact hK _ _ ⟨(.slice (some ⟨b, off, none⟩) len cap : Value), rfl, rfl, hBx, fun _ h => h, fun k y _ h => h⟩
          · refine wpOp_step (o := _) rfl (fun K' hK => ?_)
            go_simp
            exact hK _ _ ⟨(.int .i64 (pt : Nat) : Value), rfl, rfl, hBx, fun _ h => h, fun k y _ h => h⟩
          · have e2 : v 2 = (.slice (some ⟨b, off, none⟩) len cap : Value) := hd 2 (List.contains_iff_mem.1 (by kernel_rfl))
            have e3 : v 3 = (.int .i64 (pt : Nat) : Value) := hd 3 (List.contains_iff_mem.1 (by kernel_rfl))
            refine wpOp_step (o := _) rfl (fun K' hK => ?_)
            go_simp
            refine (HCL.out w1 hbw).mono ?_
            rintro e w3 ⟨U, rfl, hU, hvU, hb3⟩
            exact hK _ _ ⟨_, fr_eq9 (by simp [upd, e2, e3]), ⟨U, rfl, hU, hvU.sub (fun b hb => Nat.le_trans hBx.size hb)⟩, below_step8' hBx hb3, fun _ h => trivial, fun k y _ h => h.keep hb3⟩
          · obtain ⟨U, e4, hU, hvU⟩ : ∃ U : VT, v 4 = (.agg #[.int .i64 U.kind, .int .u64 U.num, .string U.text, .slice U.ia U.len U.cap] : Value) ∧ isBl L U pt ∧ ValAt w1 (fun b => wr.heap.size ≤ b) U := hd 4 (List.contains_iff_mem.1 (by kernel_rfl))
            refine wpOp_step (o := _) rfl (fun K' hK => ?_)
            go_simp
            exact hK _ _ ⟨.slice (some ⟨w1.heap.size, 0, none⟩) 1 1, fr_eq9 (by simp [upd, e4]), ⟨_, U, rfl, alloc_at _ _, hBx.size, hU, hvU.next ((Below.refl _ _).alloc (Nat.le_refl _) _)⟩, hBx.alloc hBx.size _, fun _ h => trivial, fun k y _ h => h.keep ((Below.refl _ _).alloc (Nat.le_refl _) _)⟩
        · have e0 : v 0 = (.pointer (some ⟨w.heap.size + 1, 3, none⟩) : Value) := hv 0 (by decide)
          have e1 : v 1 = (.slice ia j ic : Value) := hv 1 (by decide)
          have e2 : v 2 = (.slice (some ⟨b, off, none⟩) len cap : Value) := hv 2 (by decide)
          have e3 : v 3 = (.int .i64 (pt : Nat) : Value) := hv 3 (by decide)
          obtain ⟨U0, e4, _, _⟩ : ∃ U : VT, v 4 = (.agg #[.int .i64 U.kind, .int .u64 U.num, .string U.text, .slice U.ia U.len U.cap] : Value) ∧ isBl L U pt ∧ ValAt w1 (fun b => wr.heap.size ≤ b) U := hv 4 (by decide)
          obtain ⟨g8, U, e5, hg8, hw8, hU, hvU⟩ : ∃ g, ∃ U : VT, v 5 = .slice (some ⟨g, 0, none⟩) 1 1 ∧ w1.heap[g]? = some (.cells #[.int .i64 U.kind, .int .u64 U.num, .string U.text, .slice U.ia U.len U.cap] 26 (0, 0)) ∧ wr.heap.size ≤ g ∧ isBl L U pt ∧ ValAt w1 (fun b => wr.heap.size ≤ b) U := hv 5 (by decide)
          have hbs := hBx.size
          have HBX := Lib.hid hBx
          have HG8 := Lib.hid hg8
          have HU := Lib.hid hU
          have HVU := Lib.hid hvU
          have HRW := Lib.hid (row_keep HBS.out.row hBx)
          have HXB := Lib.hid (box_keep HBS.out.box hBx)
          clear hv hBx hg8 hU hvU
          have hone : ∀ u ∈ ([.int .i64 U.kind, .int .u64 U.num, .string U.text, .slice U.ia U.len U.cap] : List Value), u.oneCell' = true := by intro u hu; simp only [List.mem_cons, List.not_mem_nil, or_false] at hu; rcases hu with rfl | rfl | rfl | rfl <;> rfl
          refine wpAny_of_held (S := fun _ => True) _ _ _ _ ?_
          simp only [e0, e1, e2, e3, e4, e5]
          clear e0 e1 e2 e3 e4 e5
          refine wpAnyH_ready (fuel := 2) (rs := [6]) (by kernel_rfl) (by simp) ?_
          refine AllReadyH.cons (o := _) rfl (fun K hK => ?_) AllReadyH.nil
          refine step_append_lies _ (by rfl) (.tmp 26) (.tmp 30) 24 (by rfl) w2.heap.size 26 i0 (.agg #[.int .i64 0, .int .u64 0, .string ⟨#[]⟩, .slice none 0 0]) 4 56 Tryz.underlying24 hi0 hz0 hz1 hz2 (by rfl) (by decide) (.slice ia j ic) j (rowL9 K0 j) (by rfl) HRW.out ⟨g8, 0, none⟩ 1 1 [.int .i64 U.kind, .int .u64 U.num, .string U.text, .slice U.ia U.len U.cap] (by rfl) (by rfl) (World.news_of_block HG8.out) hone (by decide) (by unfold maxLen; omega) (by omega) (by omega) w1.heap.size rfl ?_
          intro g4 c4 w3 hown4 hgrow hat hlt2
          have HN4 := Lib.hid (BSt.next HBS.out HBX.out (by rw [HPT.out]; exact HU.out) HVU.out hgrow hown4 hat)
          have HXB3 := Lib.hid ((hgrow.block _ (lt_of_block HXB.out) (fun e => by have := (HRW.out.lt _ e.symm).1; omega)).trans HXB.out)
          refine hK.out _ _ trivial (fun _ => ?_)
          clear hK K hown4 hgrow hat
          refine wpAnyH_ready (fuel := 1) (rs := [7]) (by kernel_rfl) (by simp) ?_
          refine AllReadyH.cons (o := _) rfl (fun K hK => ?_) AllReadyH.nil
          go_simp
          refine hK.out _ _ trivial (fun _ => ?_)
          clear hK K
          have y3 : w3.cell? ⟨w.heap.size + 1, 3, none⟩ = some (.slice ia j ic) := cell_at HXB3.out rfl
          have f3 : w3.frozen? ⟨w.heap.size + 1, 3, none⟩ = false := free_at HXB3.out
          refine wpAnyH_ready (fuel := 0) (rs := [8]) (by kernel_rfl) (by simp) ?_
          refine AllReadyH.cons (o := _) rfl (fun K hK => ?_) AllReadyH.nil
          go_simp
          refine hK.out _ _ trivial (fun _ => ?_)
          clear hK K x3 y3 f3
          refine wpAnyH_done (by kernel_rfl) ?_ _
          go_wp2
          go_roundw
          case rel => exact ⟨j + 1, _, _, _, by omega, by go_num, HN4⟩
          case measure => simp [intOf]; omega
      · obtain rfl : j = m := by omega
        have hmade := BSt.made (by rw [HMM.out]; exact HP.out) hkw hnw (by rw [HMM.out]; exact hc64) #[.int .i64 kd, .int .u64 nm, .string ⟨#[]⟩, .slice ia j ic]
        have HE := Lib.hid (show BlTo L t w (.returned (.agg #[.int .i64 kd, .int .u64 nm, .string ⟨#[]⟩, .slice ia j ic])) (wr.setRow w.heap.size #[.int .i64 kd, .int .u64 nm, .string ⟨#[]⟩, .slice ia j ic]) from ⟨.node (L t).kind (numL L t) ⟨#[]⟩ ia (cntL L t) ic K0, (by rw [HKD.out, HNM.out, HMM.out]; rfl), hmade.1, hmade.2, below_setRow HP.out.below (Nat.le_refl _) _⟩)
        have d0 : wr.cell? ⟨w.heap.size + 1, 0, none⟩ = some (.int .i64 kd) := by rw [← HKD.out]; exact cell_at HP.out.box rfl
        have d1 : wr.cell? ⟨w.heap.size + 1, 1, none⟩ = some (.int .u64 nm) := by rw [← HNM.out]; exact cell_at HP.out.box rfl
        have d2 : wr.cell? ⟨w.heap.size + 1, 2, none⟩ = some (.string ⟨#[]⟩) := cell_at HP.out.box rfl
        have d3 : wr.cell? ⟨w.heap.size + 1, 3, none⟩ = some (.slice ia j ic) := cell_at HP.out.box rfl
        have HR := Lib.hid HP.out.res
        clear hmade
        go_wp2_with (refine wpList_store_rowTo rfl 26 _ _ rfl rfl w.heap.size #[.int .i64 kd, .int .u64 nm, .string ⟨#[]⟩, .slice ia j ic] rfl rfl _ _ HR.out (by kernel_rfl) (by kernel_rfl) (by kernel_rfl) ?_)
        refine bodyPost_ret (v := .agg #[.int .i64 kd, .int .u64 nm, .string ⟨#[]⟩, .slice ia j ic]) ?_ rfl HE.out
        have hl := run_loadVar_row (P := Tryz.prog) _ w.heap.size _ 26 _ _ _ (setRow_heap _ _ _ #[.int .i64 kd, .int .u64 nm, .string ⟨#[]⟩, .slice ia j ic] _ _ HR.out) Tryz.underlying26 rfl (by kernel_rfl)
        simp [results, Tryz.results20, asAddr, hl]
set_option maxRecDepth 100000 in
set_option maxHeartbeats 8000000 in
theorem made9_in (ao : Option Addr) (len cap : Nat) (L : Nat → TypeV) (hlen : len ≤ 1000000) (hv : OkL L len) (k : Nat) : ∀ (t : Nat) (w : World), t < k → t < len → (∀ i, i < len → TypeAt w ao i (L i)) →
    Calls Tryz.prog 22 #[.slice ao len cap, .int .i64 t] w (BlTo L t w) := by
  induction k with
  | zero => exact fun t w h => absurd h (Nat.not_lt_zero t)
  | succ k ih =>
  intro t w hk ht H
  have HCALL := Lib.hid (fun p (hp : p < t) wx (hb : Below w.heap.size w wx) => ih p wx (by omega) (by omega) (hold H hb))
  have HTY := Lib.hid (fun i (hi : i < cntL L t) => typL_ok (hv.ok t ht) hi)
  have hc64 := cntL_le (hv.ok t ht)
  have hkw := kind_wf ht H
  have hnw := num_wf hv ht H
  obtain ⟨i0, hi0, hz0, hz1, hz2⟩ := info_parts infoValue9
  have HST := Lib.hid (fun wx (hb : Below w.heap.size w wx) => start9_any ao len cap L hlen hv t ht wx (hold H hb))
  have HPS := Lib.hid (fun wx (hb : Below w.heap.size w wx) => parts_start ao len cap L hlen hv t ht wx (hold H hb))
  obtain ⟨P, hP⟩ : ∃ P, listF (L t) (numL L t) (cntL L t) = P := ⟨_, rfl⟩
  have HPG := Lib.hid (show ∀ i, i < cntL L t → P.getD i 0 = (typL L t i : Nat) from fun i hi => by rw [← hP, listF_get _ _ hi, (HTY.out i hi).1])
  rw [hP] at HPS
  obtain ⟨m, hm⟩ : ∃ m, cntL L t = m := ⟨_, rfl⟩
  rw [hm] at hc64 HPG HTY HPS
  have HMM := Lib.hid hm
  obtain ⟨kd, hkd⟩ : ∃ x, (L t).kind = x := ⟨_, rfl⟩
  obtain ⟨nm, hnm⟩ : ∃ x, numL L t = x := ⟨_, rfl⟩
  rw [hkd, hnm] at HST HPS
  have HKD := Lib.hid hkd
  have HNM := Lib.hid hnm
  have HB := Lib.hid ((Below.refl w.heap.size w).alloc (Nat.le_refl _) zeroO9)
  have HQ := Lib.hid (alloc_at w zeroO9)
  clear H hkd hnm ih hv hP hm
  go_enter Tryz.func22, Tryz.ntmps22
  go_upto_region 1 with (fail)
  generalize (w.alloc zeroO9) = W0 at *
  go_cut [5] (fun s wx => ∃ p, s = .pointer (some ⟨p, 0, none⟩) ∧ w.heap.size < p ∧ Hid (wx.heap[w.heap.size]? = some zeroO9) ∧ Hid (wx.heap[p]? = some (boxO9 kd nm none 0 0)) ∧ Hid (Below w.heap.size w wx) ∧ p < wx.heap.size)
  case first =>
    go_wp2_with (go_at_call 38; refine (HST.out _ HB.out).mono ?_; rintro e w1 ⟨rfl, hb1⟩; have HB1 := Lib.hid (below_step8' HB.out hb1); have HQ1 := Lib.hid (box_keep HQ.out hb1); clear hb1)
    go_meet
    exact ⟨_, rfl, lt_of_block HQ1.out, Lib.hid (alloc_old HQ1.out), Lib.hid (alloc_at _ _), Lib.hid (HB1.out.alloc HB1.out.size _), by simp⟩
  case rest =>
    obtain ⟨N1, rfl, hp1, HQ1, HX1, HB1, hs1⟩ := hcut
    clear HQ HB HST
    have d0 : wc.cell? ⟨N1, 0, none⟩ = some (.int .i64 kd) := cell_at HX1.out rfl
    have d1 : wc.cell? ⟨N1, 1, none⟩ = some (.int .u64 nm) := cell_at HX1.out rfl
    have d2 : wc.cell? ⟨N1, 2, none⟩ = some (.string ⟨#[]⟩) := cell_at HX1.out rfl
    have d3 : wc.cell? ⟨N1, 3, none⟩ = some (.slice none 0 0) := cell_at HX1.out rfl
    go_upto_region 4 with (go_at_call 35; refine (HPS.out _ HB1.out).mono ?_; rintro e w2 ⟨v, q, rfl, hown, hb2⟩; obtain ⟨va, vc, rfl, hva⟩ := row_form hown; have HQ2 := Lib.hid (box_keep HQ1.out hb2); have HX2 := Lib.hid (box_keep HX1.out hb2); have HB2 := Lib.hid (below_step8' HB1.out hb2); have hs2 := hb2.size; have HV := Lib.hid hva; have HO2 := Lib.hid hown; clear hown hva hb2)
    have HS := Lib.hid (show BSt L t N1 w w2 none 0 0 (fun _ => .nil) w2 from ⟨HQ2.out, by rw [HKD.out, HNM.out]; exact HX2.out, World.ownsRow_nil _ _ _ _, fun i hi => absurd hi (Nat.not_lt_zero i), Only.refl _ _, ⟨hp1, by omega⟩, HB2.out⟩)
    clear HQ1 HX1 HB1 HQ2 HX2 HB2 HPS d0 d1 d2 d3
    go_loopw [8] (fun i wr => ∃ (j : Nat) (ia : Option Addr) (ic : Nat) (K : Nat → VT), j ≤ m ∧ i = .int .i64 j ∧ Hid (BSt L t N1 w w2 ia ic j K wr)) (fun i _ => m - (intOf i).toNat)
    case atStart => exact ⟨0, none, 0, _, Nat.zero_le _, rfl, HS⟩
    case round =>
      obtain ⟨j, ia, ic, K0, hj, rfl, HP⟩ := hrel
      by_cases hlt : j < m
      · obtain ⟨gp, hgp⟩ := HV.out (by omega)
        subst hgp
        have hpr := Only.row HP.out.only HO2.out (fun q hq e => by have := (HO2.out.lt q hq).1; omega)
        have hpr2 := cell_int hpr j hlt
        rw [HPG.out j hlt] at hpr2
        have hpt := (HTY.out j hlt).2
        obtain ⟨pt, hptd⟩ : ∃ x, typL L t j = x := ⟨_, rfl⟩
        rw [hptd] at hpr2 hpt
        have p0 := hpr2
        have HPT := Lib.hid hptd
        have HCL := Lib.hid (fun wx hb => HCALL.out pt hpt wx hb)
        have x3 : wr.cell? ⟨N1, 3, none⟩ = some (.slice ia j ic) := cell_at HP.out.box rfl
        clear hpr hpr2 hptd
        go_upto_region 6 with (fail)
        obtain ⟨ws, hws⟩ : ∃ ws : World, ws = wr := ⟨_, rfl⟩
        have HBS := Lib.hid HP.out
        have HBW := Lib.hid HP.out.below
        have hsz1 := HP.out.only.size
        have hbs1 := HP.out.base
        refine wp_region_pre (by kernel_rfl) 9 100 (fun v => ((.slice ao len cap : Value) :: (.int .i64 (t : Nat) : Value) :: undef :: undef :: (.pointer (some ⟨w.heap.size, 0, none⟩) : Value) :: (.pointer (some ⟨N1, 0, none⟩) : Value) :: (.slice (some ⟨gp, 0, none⟩) m vc : Value) :: (.bool q : Value) :: (.int .i64 (j : Nat) : Value) :: u9 :: u10 :: u11 :: (.tuple #[.slice (some ⟨gp, 0, none⟩) m vc, .bool q] : Value) :: (.slice ao len cap : Value) :: (.int .i64 (t : Nat) : Value) :: (.agg #[.int .i64 kd, .int .u64 nm, .string ⟨#[]⟩, .slice none 0 0] : Value) :: (.tuple #[.slice (some ⟨gp, 0, none⟩) m vc, .bool q] : Value) :: (.slice (some ⟨gp, 0, none⟩) m vc : Value) :: (.bool q : Value) :: (.int .i64 (j : Nat) : Value) :: (.slice (some ⟨gp, 0, none⟩) m vc : Value) :: (.int .i64 (m : Nat) : Value) :: (.bool true : Value) :: u23 :: u24 :: v 0 :: v 1 :: v 2 :: v 3 :: v 4 :: v 5 :: v 6 :: v 7 :: v 8 :: u34 :: u35 :: u36 :: []).toArray) (fun j' => [u25, u26, u27, u28, u29, u30, u31, u32, u33].getD j' undef) (OkB L pt wr.heap.size 7 8 (fun j' => [(.pointer (some ⟨N1, 3, none⟩) : Value), (.slice ia j ic : Value), (.slice ao len cap : Value), (.slice (some ⟨gp, 0, none⟩) m vc : Value), (.int .i64 (j : Nat) : Value), (.pointer (some ⟨gp, j, none⟩) : Value), (.int .i64 (pt : Nat) : Value), undef, undef].getD j' undef)) (fun w' => Below wr.heap.size wr w') (fun _ => True) (Nat.le_of_ble_eq_true (by kernel_rfl)) (by kernel_rfl) ((Below.refl _ _).drew) trivial (fun i' hi' v w1 hBx _ hd => ?_) (fun v w1 hv hBx => ?_)
        · have hbw := below_step8' HBW.out hBx
          have x3 := keep hBx x3
          have p0 := keep hBx p0
          have hcs : i' = 0 ∨ i' = 1 ∨ i' = 2 ∨ i' = 3 ∨ i' = 4 ∨ i' = 5 ∨ i' = 6 ∨ i' = 7 ∨ i' = 8 := by omega
          rcases hcs with rfl | rfl | rfl | rfl | rfl | rfl | rfl | rfl | rfl
          · refine wpOp_step (o := _) rfl (fun K' hK => ?_)
            go_simp
            exact hK _ _ ⟨(.pointer (some ⟨N1, 3, none⟩) : Value), rfl, rfl, hBx, fun _ h => h, fun k y _ h => h⟩
          · have e0 : v 0 = (.pointer (some ⟨N1, 3, none⟩) : Value) := hd 0 (List.contains_iff_mem.1 (by kernel_rfl))
            refine wpOp_step (o := _) rfl (fun K' hK => ?_)
            go_simp
            exact hK _ _ ⟨(.slice ia j ic : Value), fr_eq9 (by simp [upd, e0]), rfl, hBx, fun _ h => h, fun k y _ h => h⟩
          · refine wpOp_step (o := _) rfl (fun K' hK => ?_)
            go_simp
            exact hK _ _ ⟨(.slice ao len cap : Value), rfl, rfl, hBx, fun _ h => h, fun k y _ h => h⟩
          · refine wpOp_step (o := _) rfl (fun K' hK => ?_)
            go_simp
            exact hK _ _ ⟨(.slice (some ⟨gp, 0, none⟩) m vc : Value), rfl, rfl, hBx, fun _ h => h, fun k y _ h => h⟩
          · refine wpOp_step (o := _) rfl (fun K' hK => ?_)
            go_simp
            exact hK _ _ ⟨(.int .i64 (j : Nat) : Value), rfl, rfl, hBx, fun _ h => h, fun k y _ h => h⟩
          · have e3 : v 3 = (.slice (some ⟨gp, 0, none⟩) m vc : Value) := hd 3 (List.contains_iff_mem.1 (by kernel_rfl))
            have e4 : v 4 = (.int .i64 (j : Nat) : Value) := hd 4 (List.contains_iff_mem.1 (by kernel_rfl))
            refine wpOp_step (o := _) rfl (fun K' hK => ?_)
            go_simp
            exact hK _ _ ⟨(.pointer (some ⟨gp, j, none⟩) : Value), fr_eq9 (by simp [upd, e3, e4]), rfl, hBx, fun _ h => h, fun k y _ h => h⟩
          · have e5 : v 5 = (.pointer (some ⟨gp, j, none⟩) : Value) := hd 5 (List.contains_iff_mem.1 (by kernel_rfl))
            refine wpOp_step (o := _) rfl (fun K' hK => ?_)
            go_simp
            exact hK _ _ ⟨(.int .i64 (pt : Nat) : Value), fr_eq9 (by simp [upd, e5]), rfl, hBx, fun _ h => h, fun k y _ h => h⟩
          · have e2 : v 2 = (.slice ao len cap : Value) := hd 2 (List.contains_iff_mem.1 (by kernel_rfl))
            have e6 : v 6 = (.int .i64 (pt : Nat) : Value) := hd 6 (List.contains_iff_mem.1 (by kernel_rfl))
            refine wpOp_step (o := _) rfl (fun K' hK => ?_)
            go_simp
            refine (HCL.out w1 hbw).mono ?_
            rintro e w3 ⟨U, rfl, hU, hvU, hb3⟩
            exact hK _ _ ⟨_, fr_eq9 (by simp [upd, e2, e6]), ⟨U, rfl, hU, hvU.sub (fun b hb => Nat.le_trans hBx.size hb)⟩, below_step8' hBx hb3, fun _ h => trivial, fun k y _ h => h.keep hb3⟩
          · obtain ⟨U, e7, hU, hvU⟩ : ∃ U : VT, v 7 = (.agg #[.int .i64 U.kind, .int .u64 U.num, .string U.text, .slice U.ia U.len U.cap] : Value) ∧ isBl L U pt ∧ ValAt w1 (fun b => wr.heap.size ≤ b) U := hd 7 (List.contains_iff_mem.1 (by kernel_rfl))
            refine wpOp_step (o := _) rfl (fun K' hK => ?_)
            go_simp
            exact hK _ _ ⟨.slice (some ⟨w1.heap.size, 0, none⟩) 1 1, fr_eq9 (by simp [upd, e7]), ⟨_, U, rfl, alloc_at _ _, hBx.size, hU, hvU.next ((Below.refl _ _).alloc (Nat.le_refl _) _)⟩, hBx.alloc hBx.size _, fun _ h => trivial, fun k y _ h => h.keep ((Below.refl _ _).alloc (Nat.le_refl _) _)⟩
        · have e0 : v 0 = (.pointer (some ⟨N1, 3, none⟩) : Value) := hv 0 (by decide)
          have e1 : v 1 = (.slice ia j ic : Value) := hv 1 (by decide)
          have e2 : v 2 = (.slice ao len cap : Value) := hv 2 (by decide)
          have e3 : v 3 = (.slice (some ⟨gp, 0, none⟩) m vc : Value) := hv 3 (by decide)
          have e4 : v 4 = (.int .i64 (j : Nat) : Value) := hv 4 (by decide)
          have e5 : v 5 = (.pointer (some ⟨gp, j, none⟩) : Value) := hv 5 (by decide)
          have e6 : v 6 = (.int .i64 (pt : Nat) : Value) := hv 6 (by decide)
          obtain ⟨U0, e7, _, _⟩ : ∃ U : VT, v 7 = (.agg #[.int .i64 U.kind, .int .u64 U.num, .string U.text, .slice U.ia U.len U.cap] : Value) ∧ isBl L U pt ∧ ValAt w1 (fun b => wr.heap.size ≤ b) U := hv 7 (by decide)
          obtain ⟨g8, U, e8, hg8, hw8, hU, hvU⟩ : ∃ g, ∃ U : VT, v 8 = .slice (some ⟨g, 0, none⟩) 1 1 ∧ w1.heap[g]? = some (.cells #[.int .i64 U.kind, .int .u64 U.num, .string U.text, .slice U.ia U.len U.cap] 26 (0, 0)) ∧ wr.heap.size ≤ g ∧ isBl L U pt ∧ ValAt w1 (fun b => wr.heap.size ≤ b) U := hv 8 (by decide)
          have hbs := hBx.size
          have HBX := Lib.hid hBx
          have HG8 := Lib.hid hg8
          have HU := Lib.hid hU
          have HVU := Lib.hid hvU
          have HRW := Lib.hid (row_keep HBS.out.row hBx)
          have HXB := Lib.hid (box_keep HBS.out.box hBx)
          clear hv hBx hg8 hU hvU
          have hone : ∀ u ∈ ([.int .i64 U.kind, .int .u64 U.num, .string U.text, .slice U.ia U.len U.cap] : List Value), u.oneCell' = true := by intro u hu; simp only [List.mem_cons, List.not_mem_nil, or_false] at hu; rcases hu with rfl | rfl | rfl | rfl <;> rfl
          refine wpAny_of_held (S := fun _ => True) _ _ _ _ ?_
          simp only [e0, e1, e2, e3, e4, e5, e6, e7, e8]
          clear e0 e1 e2 e3 e4 e5 e6 e7 e8
          refine wpAnyH_ready (fuel := 2) (rs := [9]) (by kernel_rfl) (by simp) ?_
          refine AllReadyH.cons (o := _) rfl (fun K hK => ?_) AllReadyH.nil
          refine step_append_lies _ (by rfl) (.tmp 26) (.tmp 33) 24 (by rfl) w2.heap.size 26 i0 (.agg #[.int .i64 0, .int .u64 0, .string ⟨#[]⟩, .slice none 0 0]) 4 56 Tryz.underlying24 hi0 hz0 hz1 hz2 (by rfl) (by decide) (.slice ia j ic) j (rowL9 K0 j) (by rfl) HRW.out ⟨g8, 0, none⟩ 1 1 [.int .i64 U.kind, .int .u64 U.num, .string U.text, .slice U.ia U.len U.cap] (by rfl) (by rfl) (World.news_of_block HG8.out) hone (by decide) (by unfold maxLen; omega) (by omega) (by omega) w1.heap.size rfl ?_
          intro g4 c4 w3 hown4 hgrow hat hlt2
          have HN4 := Lib.hid (BSt.next HBS.out HBX.out (by rw [HPT.out]; exact HU.out) HVU.out hgrow hown4 hat)
          have HXB3 := Lib.hid ((hgrow.block _ (lt_of_block HXB.out) (fun e => by have := (HRW.out.lt _ e.symm).1; omega)).trans HXB.out)
          refine hK.out _ _ trivial (fun _ => ?_)
          clear hK K hown4 hgrow hat
          refine wpAnyH_ready (fuel := 1) (rs := [10]) (by kernel_rfl) (by simp) ?_
          refine AllReadyH.cons (o := _) rfl (fun K hK => ?_) AllReadyH.nil
          go_simp
          refine hK.out _ _ trivial (fun _ => ?_)
          clear hK K
          have y3 : w3.cell? ⟨N1, 3, none⟩ = some (.slice ia j ic) := cell_at HXB3.out rfl
          have f3 : w3.frozen? ⟨N1, 3, none⟩ = false := free_at HXB3.out
          refine wpAnyH_ready (fuel := 0) (rs := [11]) (by kernel_rfl) (by simp) ?_
          refine AllReadyH.cons (o := _) rfl (fun K hK => ?_) AllReadyH.nil
          go_simp
          refine hK.out _ _ trivial (fun _ => ?_)
          clear hK K x3 y3 f3
          refine wpAnyH_done (by kernel_rfl) ?_ _
          go_wp2
          go_roundw
          case rel => exact ⟨j + 1, _, _, _, by omega, by go_num, HN4⟩
          case measure => simp [intOf]; omega
      · obtain rfl : j = m := by omega
        have hmade := BSt.made (by rw [HMM.out]; exact HP.out) hkw hnw (by rw [HMM.out]; exact hc64) #[.int .i64 kd, .int .u64 nm, .string ⟨#[]⟩, .slice ia j ic]
        have HE := Lib.hid (show BlTo L t w (.returned (.agg #[.int .i64 kd, .int .u64 nm, .string ⟨#[]⟩, .slice ia j ic])) (wr.setRow w.heap.size #[.int .i64 kd, .int .u64 nm, .string ⟨#[]⟩, .slice ia j ic]) from ⟨.node (L t).kind (numL L t) ⟨#[]⟩ ia (cntL L t) ic K0, (by rw [HKD.out, HNM.out, HMM.out]; rfl), hmade.1, hmade.2, below_setRow HP.out.below (Nat.le_refl _) _⟩)
        have d0 : wr.cell? ⟨N1, 0, none⟩ = some (.int .i64 kd) := by rw [← HKD.out]; exact cell_at HP.out.box rfl
        have d1 : wr.cell? ⟨N1, 1, none⟩ = some (.int .u64 nm) := by rw [← HNM.out]; exact cell_at HP.out.box rfl
        have d2 : wr.cell? ⟨N1, 2, none⟩ = some (.string ⟨#[]⟩) := cell_at HP.out.box rfl
        have d3 : wr.cell? ⟨N1, 3, none⟩ = some (.slice ia j ic) := cell_at HP.out.box rfl
        have HR := Lib.hid HP.out.res
        clear hmade
        go_wp2_with (refine wpList_store_rowTo rfl 26 _ _ rfl rfl w.heap.size #[.int .i64 kd, .int .u64 nm, .string ⟨#[]⟩, .slice ia j ic] rfl rfl _ _ HR.out (by kernel_rfl) (by kernel_rfl) (by kernel_rfl) ?_)
        refine bodyPost_ret (v := .agg #[.int .i64 kd, .int .u64 nm, .string ⟨#[]⟩, .slice ia j ic]) ?_ rfl HE.out
        have hl := run_loadVar_row (P := Tryz.prog) _ w.heap.size _ 26 _ _ _ (setRow_heap _ _ _ #[.int .i64 kd, .int .u64 nm, .string ⟨#[]⟩, .slice ia j ic] _ _ HR.out) Tryz.underlying26 rfl (by kernel_rfl)
        simp [results, Tryz.results22, asAddr, hl]

end Go.Proofs.YtohphejhlgnciaaGreat
namespace Go.Proofs.YtohphejhlgnciaaGreat
open Go.RowKit
set_option linter.unusedVariables false
def okBl (L : Nat → TypeV) (len : Nat) (t : Int) : Bool := hasT L len t && decide (sizeN L t.toNat ≤ 2000)
/-- the least value of a type, if there is one that is not too great -/
def BlankTo (L : Nat → TypeV) (len : Nat) (t : Int) (w : World) (e : Ending) (w' : World) : Prop :=
  ∃ (U : VT) (q : Bool), e = .returned (.tuple #[.agg #[.int .i64 U.kind, .int .u64 U.num, .string U.text, .slice U.ia U.len U.cap], .bool q]) ∧ q = okBl L len t ∧ (q = true → isBl L U t.toNat) ∧ (q = false → U = .nil) ∧ ValAt w' (fun b => w.heap.size ≤ b) U ∧ Below w.heap.size w w'
theorem blank_no {L : Nat → TypeV} {len : Nat} {t : Int} {w w' : World} (h : okBl L len t = false) (hb : Below w.heap.size w w') : BlankTo L len t w (.returned (.tuple #[.agg #[.int .i64 0, .int .u64 0, .string ⟨#[]⟩, .slice none 0 0], .bool false])) w' :=
  ⟨.nil, false, rfl, h.symm, (fun h => by cases h), (fun _ => rfl), trivial, hb⟩
set_option maxRecDepth 100000 in
set_option maxHeartbeats 4000000 in
theorem Blank9_any (ao : Option Addr) (len cap : Nat) (L : Nat → TypeV) (hlen : len ≤ 1000000) (hcap : len ≤ cap) (hcp : ∀ i, i < len → (L i).ilen ≤ (L i).icap) (t : Int) (w : World) (H : ∀ i, i < len → TypeAt w ao i (L i)) :
    Calls Tryz.prog 10 #[.slice ao len cap, .int .i64 t] w (BlankTo L len t w) := by
  have HH := Lib.hid (fun wx (hb : Below w.heap.size w wx) => has9_any ao len cap L t hlen hcap wx (hold H hb))
  have HB := Lib.hid ((Below.refl w.heap.size w).alloc (Nat.le_refl _) zeroO9)
  have HQ := Lib.hid (alloc_at w zeroO9)
  cases hT : hasT L len t with
  | false =>
    have HNO := Lib.hid (show okBl L len t = false by unfold okBl; rw [hT]; rfl)
    rw [hT] at HH
    clear H hcp hT
    go_enter Tryz.func10, Tryz.ntmps10
    go_wp2_with (first
      | (go_at_call 15; refine (HH.out _ HB.out).mono ?_; rintro e w1 ⟨rfl, hb1⟩; have HB1 := Lib.hid (below_step8' HB.out hb1); have HQ1 := Lib.hid (box_keep HQ.out hb1); clear hb1)
      | (refine wpList_store_rowTo rfl 26 _ _ rfl rfl w.heap.size #[.int .i64 0, .int .u64 0, .string ⟨#[]⟩, .slice none 0 0] rfl rfl _ _ HQ1.out (by kernel_rfl) (by kernel_rfl) (by kernel_rfl) ?_))
    refine bodyPost_ret (v := .tuple #[.agg #[.int .i64 0, .int .u64 0, .string ⟨#[]⟩, .slice none 0 0], .bool false]) ?_ rfl (blank_no HNO.out (below_setRow HB1.out (Nat.le_refl _) _))
    have hl := run_loadVar_row (P := Tryz.prog) _ w.heap.size _ 26 _ _ _ (setRow_heap _ _ _ #[.int .i64 0, .int .u64 0, .string ⟨#[]⟩, .slice none 0 0] _ _ HQ1.out) Tryz.underlying26 rfl (by kernel_rfl)
    simp [results, Tryz.results10, asAddr, hl]
  | true =>
    obtain ⟨k, rfl, hk, hok⟩ := hasT_in hT
    rw [hT] at HH
    have hv := okL_of hok
    have HS := Lib.hid (fun wx (hb : Below w.heap.size w wx) => leastSize9_any ao len cap L hlen hv hcp k hk wx (hold H hb))
    have HBL := Lib.hid (fun wx (hb : Below w.heap.size w wx) => blank9_in ao len cap L hlen hv hcp (k + 1) k wx (by omega) hk (hold H hb))
    have hq : okBl L len (k : Nat) = decide (sizeN L k ≤ 2000) := by unfold okBl; rw [hT]; simp
    obtain ⟨s, hs⟩ : ∃ s, capN L k = s := ⟨_, rfl⟩
    rw [hs] at HS
    have hs2 : s = min (sizeN L k) 2001 := by rw [← hs]; rfl
    clear H hcp hT hs hv hok
    by_cases hgt : 2000 < s
    · have HNO := Lib.hid (show okBl L len (k : Nat) = false by rw [hq]; simp; omega)
      have hgt1 : (2000 : Int) < (s : Int) := by omega
      clear hq hs2
      go_enter Tryz.func10, Tryz.ntmps10
      go_wp2_with (first
        | (go_at_call 15; refine (HH.out _ HB.out).mono ?_; rintro e w1 ⟨rfl, hb1⟩; have HB1 := Lib.hid (below_step8' HB.out hb1); have HQ1 := Lib.hid (box_keep HQ.out hb1); clear hb1)
        | (go_at_call 19; refine (HS.out _ HB1.out).mono ?_; rintro e w2 ⟨rfl, hb2⟩; have HB2 := Lib.hid (below_step8' HB1.out hb2); have HQ2 := Lib.hid (box_keep HQ1.out hb2); clear hb2)
        | (refine wpList_store_rowTo rfl 26 _ _ rfl rfl w.heap.size #[.int .i64 0, .int .u64 0, .string ⟨#[]⟩, .slice none 0 0] rfl rfl _ _ HQ2.out (by kernel_rfl) (by kernel_rfl) (by kernel_rfl) ?_))
      refine bodyPost_ret (v := .tuple #[.agg #[.int .i64 0, .int .u64 0, .string ⟨#[]⟩, .slice none 0 0], .bool false]) ?_ rfl (blank_no HNO.out (below_setRow HB2.out (Nat.le_refl _) _))
      have hl := run_loadVar_row (P := Tryz.prog) _ w.heap.size _ 26 _ _ _ (setRow_heap _ _ _ #[.int .i64 0, .int .u64 0, .string ⟨#[]⟩, .slice none 0 0] _ _ HQ2.out) Tryz.underlying26 rfl (by kernel_rfl)
      simp [results, Tryz.results10, asAddr, hl]
    · have HYES := Lib.hid (show okBl L len (k : Nat) = true by rw [hq]; simp; omega)
      have hgt1 : ¬ (2000 : Int) < (s : Int) := by omega
      have hgt2 : s ≤ 2000 := by omega
      clear hq hs2
      go_enter Tryz.func10, Tryz.ntmps10
      go_wp2_with (first
        | (go_at_call 15; refine (HH.out _ HB.out).mono ?_; rintro e w1 ⟨rfl, hb1⟩; have HB1 := Lib.hid (below_step8' HB.out hb1); have HQ1 := Lib.hid (box_keep HQ.out hb1); clear hb1)
        | (go_at_call 19; refine (HS.out _ HB1.out).mono ?_; rintro e w2 ⟨rfl, hb2⟩; have HB2 := Lib.hid (below_step8' HB1.out hb2); have HQ2 := Lib.hid (box_keep HQ1.out hb2); clear hb2)
        | (go_at_call 20; refine (HBL.out _ HB2.out).mono ?_; rintro e w3 ⟨U, rfl, hbl, hvu, hb3⟩; have HBU := Lib.hid hbl; have HVU := Lib.hid hvu; have hs23 := HB2.out.size; have hqs := lt_of_block HQ2.out; have HB3 := Lib.hid (below_step8' HB2.out hb3); have HQ3 := Lib.hid (box_keep HQ2.out hb3); clear hbl hvu hb3)
        | (refine wpList_store_rowTo rfl 26 _ _ rfl rfl w.heap.size #[.int .i64 U.kind, .int .u64 U.num, .string U.text, .slice U.ia U.len U.cap] rfl rfl _ _ HQ3.out (by kernel_rfl) (by kernel_rfl) (by kernel_rfl) ?_))
      refine bodyPost_ret (v := .tuple #[.agg #[.int .i64 U.kind, .int .u64 U.num, .string U.text, .slice U.ia U.len U.cap], .bool true]) ?_ rfl ⟨U, true, rfl, HYES.out.symm, (fun _ => HBU.out), (fun h => by cases h), ValAt.held_of (fun b h => by omega) (by simp [World.setRow]) (fun b h _ => setRow_other _ _ _ _ (by omega)) _ HVU.out, below_setRow HB3.out (Nat.le_refl _) _⟩
      have hl := run_loadVar_row (P := Tryz.prog) _ w.heap.size _ 26 _ _ _ (setRow_heap _ _ _ #[.int .i64 U.kind, .int .u64 U.num, .string U.text, .slice U.ia U.len U.cap] _ _ HQ3.out) Tryz.underlying26 rfl (by kernel_rfl)
      simp [results, Tryz.results10, asAddr, hl]
set_option maxRecDepth 100000 in
set_option maxHeartbeats 4000000 in
theorem rBlank9_any (ao : Option Addr) (len cap : Nat) (L : Nat → TypeV) (hlen : len ≤ 1000000) (t : Int) (w : World) (H : ∀ i, i < len → TypeAt w ao i (L i)) :
    Calls Tryz.prog 11 #[.slice ao len cap, .int .i64 t] w (BlankTo L len t w) := by
  have hc := fun wx (hb : Below w.heap.size w wx) => refCheck_any ao len cap L hlen wx (hold H hb)
  unfold faultV at hc
  have hfe := fault_err
  have HB := Lib.hid ((Below.refl w.heap.size w).alloc (Nat.le_refl _) zeroO9)
  have HQ := Lib.hid (alloc_at w zeroO9)
  obtain ⟨E, hE⟩ : ∃ E, fErr (oneR L len) len = E := ⟨_, rfl⟩
  obtain ⟨A, hA⟩ : ∃ A, fAt (oneR L len) len = A := ⟨_, rfl⟩
  rw [hE, hA] at hc
  have HCK := Lib.hid hc
  clear hc
  by_cases hE0 : E = 0
  case neg =>
    have HNO := Lib.hid (show okBl L len t = false by unfold okBl hasT; rw [hE]; simp [hE0])
    have hE' : (E != 0) = true := by simpa using hE0
    clear H hE hA hE0
    go_enter Tryz.func11, Tryz.ntmps11
    go_wp2_with (first
      | (go_at_call 17; refine (HCK.out _ HB.out).mono ?_; rintro e w1 ⟨rfl, hb1⟩; have HB1 := Lib.hid (below_step8' HB.out hb1); have HQ1 := Lib.hid (box_keep HQ.out hb1); clear hb1)
      | (refine wpList_store_rowTo rfl 26 _ _ rfl rfl w.heap.size #[.int .i64 0, .int .u64 0, .string ⟨#[]⟩, .slice none 0 0] rfl rfl _ _ HQ1.out (by kernel_rfl) (by kernel_rfl) (by kernel_rfl) ?_))
    refine bodyPost_ret (v := .tuple #[.agg #[.int .i64 0, .int .u64 0, .string ⟨#[]⟩, .slice none 0 0], .bool false]) ?_ rfl (blank_no HNO.out (below_setRow HB1.out (Nat.le_refl _) _))
    have hl := run_loadVar_row (P := Tryz.prog) _ w.heap.size _ 26 _ _ _ (setRow_heap _ _ _ #[.int .i64 0, .int .u64 0, .string ⟨#[]⟩, .slice none 0 0] _ _ HQ1.out) Tryz.underlying26 rfl (by kernel_rfl)
    simp [results, Tryz.results11, asAddr, hl]
  subst hE0
  have a1 : ((0 : Int) != 0) = false := rfl
  by_cases ht0 : t < 0
  · have HNO := Lib.hid (show okBl L len t = false by unfold okBl hasT; rw [inL_no (by omega)]; rfl)
    clear H hE hA
    go_enter Tryz.func11, Tryz.ntmps11
    go_wp2_with (first
      | (go_at_call 17; refine (HCK.out _ HB.out).mono ?_; rintro e w1 ⟨rfl, hb1⟩; have HB1 := Lib.hid (below_step8' HB.out hb1); have HQ1 := Lib.hid (box_keep HQ.out hb1); clear hb1)
      | (refine wpList_store_rowTo rfl 26 _ _ rfl rfl w.heap.size #[.int .i64 0, .int .u64 0, .string ⟨#[]⟩, .slice none 0 0] rfl rfl _ _ HQ1.out (by kernel_rfl) (by kernel_rfl) (by kernel_rfl) ?_))
    refine bodyPost_ret (v := .tuple #[.agg #[.int .i64 0, .int .u64 0, .string ⟨#[]⟩, .slice none 0 0], .bool false]) ?_ rfl (blank_no HNO.out (below_setRow HB1.out (Nat.le_refl _) _))
    have hl := run_loadVar_row (P := Tryz.prog) _ w.heap.size _ 26 _ _ _ (setRow_heap _ _ _ #[.int .i64 0, .int .u64 0, .string ⟨#[]⟩, .slice none 0 0] _ _ HQ1.out) Tryz.underlying26 rfl (by kernel_rfl)
    simp [results, Tryz.results11, asAddr, hl]
  by_cases htl : (len : Int) ≤ t
  · have HNO := Lib.hid (show okBl L len t = false by unfold okBl hasT; rw [inL_no (by omega)]; rfl)
    clear H hE hA
    go_enter Tryz.func11, Tryz.ntmps11
    go_wp2_with (first
      | (go_at_call 17; refine (HCK.out _ HB.out).mono ?_; rintro e w1 ⟨rfl, hb1⟩; have HB1 := Lib.hid (below_step8' HB.out hb1); have HQ1 := Lib.hid (box_keep HQ.out hb1); clear hb1)
      | (refine wpList_store_rowTo rfl 26 _ _ rfl rfl w.heap.size #[.int .i64 0, .int .u64 0, .string ⟨#[]⟩, .slice none 0 0] rfl rfl _ _ HQ1.out (by kernel_rfl) (by kernel_rfl) (by kernel_rfl) ?_))
    refine bodyPost_ret (v := .tuple #[.agg #[.int .i64 0, .int .u64 0, .string ⟨#[]⟩, .slice none 0 0], .bool false]) ?_ rfl (blank_no HNO.out (below_setRow HB1.out (Nat.le_refl _) _))
    have hl := run_loadVar_row (P := Tryz.prog) _ w.heap.size _ 26 _ _ _ (setRow_heap _ _ _ #[.int .i64 0, .int .u64 0, .string ⟨#[]⟩, .slice none 0 0] _ _ HQ1.out) Tryz.underlying26 rfl (by kernel_rfl)
    simp [results, Tryz.results11, asAddr, hl]
  obtain ⟨k, rfl⟩ := Int.eq_ofNat_of_zero_le (show 0 ≤ t by omega)
  have hk : k < len := by omega
  have hv := okL_of hE
  have HS := Lib.hid (fun wx (hb : Below w.heap.size w wx) => great9_any ao len cap L hlen hv k hk wx (hold H hb))
  have HBL := Lib.hid (fun wx (hb : Below w.heap.size w wx) => made9_in ao len cap L hlen hv (k + 1) k wx (by omega) hk (hold H hb))
  have hq : okBl L len (k : Nat) = decide (sizeN L k ≤ 2000) := by unfold okBl; rw [hasT_yes hk hE]; simp
  obtain ⟨s, hs⟩ : ∃ s, capR (sizeN L k) = s := ⟨_, rfl⟩
  rw [hs] at HS
  have hs2 : s = if 2000 < sizeN L k then 3000 else sizeN L k := by rw [← hs]; rfl
  clear H hs hv hE hA
  by_cases hgt : 2000 < s
  · have HNO := Lib.hid (show okBl L len (k : Nat) = false by rw [hq]; simp; split at hs2 <;> omega)
    have hgt1 : (2000 : Int) < (s : Int) := by omega
    clear hq hs2
    go_enter Tryz.func11, Tryz.ntmps11
    go_wp2_with (first
      | (go_at_call 17; refine (HCK.out _ HB.out).mono ?_; rintro e w1 ⟨rfl, hb1⟩; have HB1 := Lib.hid (below_step8' HB.out hb1); have HQ1 := Lib.hid (box_keep HQ.out hb1); clear hb1)
      | (go_at_call 21; refine (HS.out _ HB1.out).mono ?_; rintro e w2 ⟨gg, gc, rfl, hgc, hb2⟩; have HB2 := Lib.hid (below_step8' HB1.out hb2); have HQ2 := Lib.hid (box_keep HQ1.out hb2); clear hb2)
      | (refine wpList_store_rowTo rfl 26 _ _ rfl rfl w.heap.size #[.int .i64 0, .int .u64 0, .string ⟨#[]⟩, .slice none 0 0] rfl rfl _ _ HQ2.out (by kernel_rfl) (by kernel_rfl) (by kernel_rfl) ?_))
    refine bodyPost_ret (v := .tuple #[.agg #[.int .i64 0, .int .u64 0, .string ⟨#[]⟩, .slice none 0 0], .bool false]) ?_ rfl (blank_no HNO.out (below_setRow HB2.out (Nat.le_refl _) _))
    have hl := run_loadVar_row (P := Tryz.prog) _ w.heap.size _ 26 _ _ _ (setRow_heap _ _ _ #[.int .i64 0, .int .u64 0, .string ⟨#[]⟩, .slice none 0 0] _ _ HQ2.out) Tryz.underlying26 rfl (by kernel_rfl)
    simp [results, Tryz.results11, asAddr, hl]
  · have HYES := Lib.hid (show okBl L len (k : Nat) = true by rw [hq]; simp; split at hs2 <;> omega)
    have hgt1 : ¬ (2000 : Int) < (s : Int) := by omega
    have hgt2 : s ≤ 2000 := by omega
    clear hq hs2
    go_enter Tryz.func11, Tryz.ntmps11
    go_wp2_with (first
      | (go_at_call 17; refine (HCK.out _ HB.out).mono ?_; rintro e w1 ⟨rfl, hb1⟩; have HB1 := Lib.hid (below_step8' HB.out hb1); have HQ1 := Lib.hid (box_keep HQ.out hb1); clear hb1)
      | (go_at_call 21; refine (HS.out _ HB1.out).mono ?_; rintro e w2 ⟨gg, gc, rfl, hgc, hb2⟩; have HB2 := Lib.hid (below_step8' HB1.out hb2); have HQ2 := Lib.hid (box_keep HQ1.out hb2); clear hb2)
      | (go_at_call 22; refine (HBL.out _ HB2.out).mono ?_; rintro e w3 ⟨U, rfl, hbl, hvu, hb3⟩; have HBU := Lib.hid hbl; have HVU := Lib.hid hvu; have hs23 := HB2.out.size; have hqs := lt_of_block HQ2.out; have HB3 := Lib.hid (below_step8' HB2.out hb3); have HQ3 := Lib.hid (box_keep HQ2.out hb3); clear hbl hvu hb3)
      | (refine wpList_store_rowTo rfl 26 _ _ rfl rfl w.heap.size #[.int .i64 U.kind, .int .u64 U.num, .string U.text, .slice U.ia U.len U.cap] rfl rfl _ _ HQ3.out (by kernel_rfl) (by kernel_rfl) (by kernel_rfl) ?_))
    refine bodyPost_ret (v := .tuple #[.agg #[.int .i64 U.kind, .int .u64 U.num, .string U.text, .slice U.ia U.len U.cap], .bool true]) ?_ rfl ⟨U, true, rfl, HYES.out.symm, (fun _ => HBU.out), (fun h => by cases h), ValAt.held_of (fun b h => by omega) (by simp [World.setRow]) (fun b h _ => setRow_other _ _ _ _ (by omega)) _ HVU.out, below_setRow HB3.out (Nat.le_refl _) _⟩
    have hl := run_loadVar_row (P := Tryz.prog) _ w.heap.size _ 26 _ _ _ (setRow_heap _ _ _ #[.int .i64 U.kind, .int .u64 U.num, .string U.text, .slice U.ia U.len U.cap] _ _ HQ3.out) Tryz.underlying26 rfl (by kernel_rfl)
    simp [results, Tryz.results11, asAddr, hl]
end Go.Proofs.YtohphejhlgnciaaGreat
