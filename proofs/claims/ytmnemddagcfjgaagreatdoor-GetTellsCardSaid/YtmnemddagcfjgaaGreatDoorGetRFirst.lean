/- Contract of chapter 11's reference: a value. -/
import Derived.Test.YtmnemddagcfjgaaGreatDoorGetRParts
import Derived.Deep.RegionHeld3
import Derived.Test.YtmnemddagcfjgaaGreatDoorRegionDeep
import Derived.Deep.AppendLies
namespace Go.Proofs.YtmnemddagcfjgaaGreatDoor
open Go.RowKit
set_option linter.unusedVariables false
def RvIs (b : ByteArray) (d : DR) (S : Nat → Prop) (U : VT) (A E : Int) (w : World) : Prop :=
  match d with | .bad x => E = x ∧ x ≠ 0 | .ok V a' => E = 0 ∧ A = (a' : Nat) ∧ a' ≤ b.size ∧ sameT V U = true ∧ ValAt w S U
def RvRes (b : ByteArray) (d : DR) (w : World) (e : Ending) (w' : World) : Prop :=
  ∃ (U : VT) (A E : Int), e = .returned (.tuple #[.agg #[.int .i64 U.kind, .int .u64 U.num, .string U.text, .slice U.ia U.len U.cap], .agg #[.int .i64 A, .int .i64 E]]) ∧ Below w.heap.size w w' ∧ RvIs b d (fun k => w.heap.size ≤ k) U A E w'
theorem RvIs.next {b : ByteArray} {d : DR} {S S' : Nat → Prop} {U : VT} {A E : Int} {w w' : World} (h : RvIs b d S U A E w) (hb : Below w.heap.size w w') (hS : ∀ k, S k → S' k) : RvIs b d S' U A E w' := by
  cases d with
  | bad x => exact h
  | ok V a' => obtain ⟨h1, h2, h3, h4, h5⟩ := h; exact ⟨h1, h2, h3, h4, (h5.next hb).sub hS⟩
abbrev boxG (kd nn : Int) (tx : ByteArray) (va : Option Addr) (j vc : Nat) : Obj := .cells #[.int .i64 kd, .int .u64 nn, .string tx, .slice va j vc] 28 (0, 0)
/-- a value in the making -/
structure RSt (b : ByteArray) (D : Nat → Nat → DR) (X : DR) (a0 : Nat) (kd nn : Int) (w W1 : World) (j : Nat) (A E : Int) (K : Nat → VT) (va : Option Addr) (vc : Nat) (wr : World) : Prop where
  cur : wr.heap[w.heap.size]? = some (gO A E)
  box : wr.heap[w.heap.size + 1 + 1 + 1]? = some (boxG kd nn ⟨#[]⟩ va j vc)
  row : wr.ownsRow W1.heap.size 28 4 (.slice va j vc) j (rowL9 K j)
  only : Only (fun k => k = w.heap.size ∨ k = w.heap.size + 1 + 1 + 1) W1 wr
  okc : E = 0 → ∃ (aj : Nat) (KV : Nat → VT), A = (aj : Nat) ∧ aj ≤ b.size ∧ seqD D a0 j = .ok KV aj ∧ ∀ i, i < j → sameT (KV i) (K i) = true ∧ ValAt wr (fun k => W1.heap.size ≤ k ∧ (∀ x, va = some x → x.block ≠ k) ∧ k < wr.heap.size) (K i)
  badc : E ≠ 0 → X = .bad E
  base : w.heap.size + 1 + 1 + 1 < W1.heap.size
theorem RSt.next {b : ByteArray} {D : Nat → Nat → DR} {X : DR} {a0 : Nat} {kd nn : Int} {w W1 : World} {j aj : Nat} {A : Int} {K KV : Nat → VT} {va : Option Addr} {vc : Nat} {wr w1 w2 w3 : World} {U : VT} {A' E' : Int} {g4 c4 : Nat} (h : RSt b D X a0 kd nn w W1 j A 0 K va vc wr)
    (hs : seqD D a0 j = .ok KV aj) (hk : ∀ i, i < j → sameT (KV i) (K i) = true ∧ ValAt wr (fun k => W1.heap.size ≤ k ∧ (∀ x, va = some x → x.block ≠ k) ∧ k < wr.heap.size) (K i)) (hX : ∀ x, seqD D a0 (j + 1) = .bad x → X = .bad x)
    (hb : Below wr.heap.size wr w1) (hd : RvIs b (D j aj) (fun k => wr.heap.size ≤ k) U A' E' w1)
    (hb2 : Below w1.heap.size ((w1.setCell ⟨w.heap.size, 0, none⟩ (.int .i64 A')).setCell ⟨w.heap.size, 1, none⟩ (.int .i64 E')) w2)
    (hg : w2.grownBy w3 (Value.slice va j vc).ownBlock) (hw3 : w3.ownsRow W1.heap.size 28 4 (.slice (some ⟨g4, 0, none⟩) (j + 1) c4) (j + 1) (rowL9 K j ++ vcells9 U)) (hat : (Value.slice va j vc).ownBlock = some g4 ∨ g4 = w2.heap.size) :
    RSt b D X a0 kd nn w W1 (j + 1) A' E' (fun i => if i < j then K i else U) (some ⟨g4, 0, none⟩) c4 (w3.setCell ⟨w.heap.size + 1 + 1 + 1, 3, none⟩ (.slice (some ⟨g4, 0, none⟩) (j + 1) c4)) := by
  have b1 := h.base
  have hosz := h.only.size
  have hbsz := hb.size
  have hb2sz : w1.heap.size ≤ w2.heap.size := by have := hb2.size; simpa using this
  have hgsz := hg.size
  have hsz4 : ∀ p u, (w3.setCell p u).heap.size = w3.heap.size := fun p u => by simp
  have hown : ∀ k, (Value.slice va j vc).ownBlock = some k → W1.heap.size ≤ k ∧ k < wr.heap.size := fun k hk => h.row.lt k hk
  have hw2 : ∀ k, k < w1.heap.size → w.heap.size ≠ k → w2.heap[k]? = w1.heap[k]? := fun k hkl hne => by
    rw [hb2.block k hkl, set_other (show k ≠ _ by simp; omega), set_other (show k ≠ _ by simp; omega)]
  have hblk : ∀ k, k < wr.heap.size → w.heap.size ≠ k → (∀ x, va = some x → x.block ≠ k) → w3.heap[k]? = wr.heap[k]? := fun k hkl hkc hne => by
    rw [hg.block k (by omega) (fun e => ?_), hw2 k (by omega) hkc, hb.block k hkl]
    cases va with
    | none => simp [Value.ownBlock] at e
    | some x => exact hne x rfl (by simp [Value.ownBlock] at e; exact e.symm)
  have hlow : ∀ k, k < W1.heap.size → w.heap.size ≠ k → w3.heap[k]? = wr.heap[k]? := fun k hkl hkc => by
    rw [hg.block k (by omega) (fun e => by have := (hown k e.symm).1; omega), hw2 k (by omega) hkc, hb.block k (by omega)]
  have hg4 : W1.heap.size ≤ g4 ∧ g4 < w3.heap.size := hw3.lt g4 rfl
  refine ⟨?_, ?_, ?_, ?_, fun hE => ?_, fun hE => ?_, b1⟩
  · rw [set_other (show w.heap.size ≠ _ by simp; omega), hg.block _ (by omega) (fun e => by have := (hown _ e.symm).1; omega), hb2.block _ (by omega)]
    exact set_at (j := 1) (set_at (j := 0) ((hb.block _ (by omega)).trans h.cur))
  · exact (set_at (j := 3) ((hlow _ b1 (by omega)).trans h.box)).trans rfl
  · have e : rowL9 (fun i => if i < j then K i else U) (j + 1) = rowL9 K j ++ vcells9 U := by
      rw [rowL9, rowL9_cong j (K' := K) (fun i hi => by simp [hi])]
      simp
    rw [e]
    refine Only.row (S := fun k => k = w.heap.size + 1 + 1 + 1) (Only.setCell (S := fun k => k = w.heap.size + 1 + 1 + 1) (p := ⟨w.heap.size + 1 + 1 + 1, 3, none⟩) (Only.refl _ w3) (.inl rfl) _) hw3 (fun k hk e => ?_)
    have := (hw3.lt k hk).1
    omega
  · have ho := h.only
    refine ⟨hg.os.trans (hb2.os.trans (hb.os.trans ho.os)), hg.tape.trans (hb2.tape.trans (hb.tape.trans ho.tape)), hg.output.trans (hb2.output.trans (hb.output.trans ho.output)), by rw [hsz4]; omega, fun k hkl hnk => ?_⟩
    rw [set_other (show k ≠ _ by intro e; exact hnk (.inr e))]
    exact (hlow k hkl (fun e => hnk (.inl e.symm))).trans (ho.block k hkl hnk)
  · cases hdj : D j aj with
    | bad x => rw [hdj] at hd; exact absurd (hd.1.symm.trans hE) hd.2
    | ok V a' =>
      rw [hdj] at hd
      obtain ⟨_, h2, h3, h4, h5⟩ := hd
      refine ⟨a', putK KV j V, h2, h3, seq_next hs hdj, fun i hi => ?_⟩
      by_cases hij : i < j
      · simp only [hij, if_true]
        obtain ⟨k1, k2⟩ := hk i hij
        refine ⟨by unfold putK; rw [if_neg (by omega)]; exact k1, ValAt.held_of (fun k ⟨s1, s2, s3⟩ => ⟨s1, fun a ha => ?_, by rw [hsz4]; omega⟩) (by rw [hsz4]; omega) (fun k ⟨s1, s2, s3⟩ _ => ?_) _ k2⟩
        · cases ha
          show g4 ≠ k
          rcases hat with hat | hat
          · cases va with
            | none => simp [Value.ownBlock] at hat
            | some a => have := s2 a rfl; simp [Value.ownBlock] at hat; omega
          · omega
        · rw [set_other (show k ≠ _ by simp; omega)]
          exact hblk k s3 (by omega) s2
      · have hij' : i = j := by omega
        subst hij'
        simp only [hij, if_false]
        refine ⟨by unfold putK; rw [if_pos rfl]; exact h4, ValAt.held_of (fun k ⟨s1, s3⟩ => ⟨by omega, fun a ha => ?_, by rw [hsz4]; omega⟩) (by rw [hsz4]; omega) (fun k ⟨s1, s3⟩ _ => ?_) _ (valAt_lt _ h5)⟩
        · cases ha
          show g4 ≠ k
          rcases hat with hat | hat
          · have := (hown g4 hat).2; omega
          · omega
        · rw [set_other (show k ≠ _ by simp; omega), hg.block k (by omega) (fun e => by have := (hown k e.symm).2; omega)]
          exact hw2 k s3 (by omega)
  · cases hdj : D j aj with
    | bad x => rw [hdj] at hd; rw [hX x (seq_stop hs hdj), hd.1]
    | ok V a' => rw [hdj] at hd; exact absurd hd.1 hE
/-- the value that is made -/
theorem RSt.made {b : ByteArray} {D : Nat → Nat → DR} {X : DR} {a0 : Nat} {kd nn : Int} {w W1 : World} {m : Nat} {A E : Int} {K : Nat → VT} {va : Option Addr} {vc : Nat} {wr w' : World} (h : RSt b D X a0 kd nn w W1 m A E K va vc wr) (hX : E = 0 → X = nodeD kd nn m (seqD D a0 m)) (hkd : (Lit.int .i64 kd).wf = true) (hnn : E = 0 → (Lit.int .u64 nn).wf = true) (hm : m ≤ 1000000)
    (hw : Only (fun k => k = w.heap.size + 1 ∨ k = w.heap.size + 1 + 1) wr w') : RvIs b X (fun k => w.heap.size ≤ k) (.node kd nn ⟨#[]⟩ va m vc K) A E w' := by
  have b1 := h.base
  by_cases hE : E = 0
  · obtain ⟨aj, KV, h1, h2, h3, h4⟩ := h.okc hE
    rw [hX hE, h3]
    refine ⟨hE, h1, h2, sameT_iff.2 ⟨rfl, rfl, rfl, rfl, fun i hi => (h4 i hi).1⟩, ?_⟩
    refine ValAt.held_of (S := fun k => W1.heap.size ≤ k) (fun k hk => by omega) hw.size (fun k hk hl => hw.block k hl (by omega)) _ ((valAt_iff _).2 ⟨⟨hkd, hnn hE, by show (⟨#[]⟩ : ByteArray).size ≤ _; decide, by show m ≤ _; omega⟩, fun i hi => ⟨?_, ?_⟩⟩)
    · have hi' : i < m := hi
      rcases h.row.2 with ⟨_, h0⟩ | ⟨g, cap, cur, hv, hb, hg, k1, k2, k3, k4⟩
      · omega
      · injection hv with e1 e2 e3
        have hget : ∀ r, r < 4 → wr.cell? ⟨g, i * 4 + r, none⟩ = (vcells9 (K i))[r]? := fun r hr => by
          have := cell_of_row wr g (i * 4 + r) cur 28 (0, 0) hg
          rw [this, ← rowL9_get K m i r hi' hr, ← k4, List.getElem?_take, if_pos (by omega)]
          simp
        refine ⟨g, 0, e1, hb, lt_of_block hg, ?_, ?_, ?_, ?_⟩
        · have := hget 0 (by omega); rw [Nat.zero_add]; exact this
        · have := hget 1 (by omega); rw [Nat.zero_add]; exact this
        · have := hget 2 (by omega); rw [Nat.zero_add]; exact this
        · have := hget 3 (by omega); rw [Nat.zero_add]; exact this
    · exact (h4 i hi).2.sub (fun k hk => hk.1)
  · rw [h.badc hE]
    exact ⟨rfl, hE⟩
abbrev zeroG : Obj := boxG 0 0 ⟨#[]⟩ none 0 0
/-- the four boxes at the start -/
def WSt (w : World) (A E : Int) (kd nn : Int) (tx : ByteArray) (wx : World) : Prop :=
  wx.heap[w.heap.size]? = some (gO A E) ∧ wx.heap[w.heap.size + 1]? = some zeroG ∧ wx.heap[w.heap.size + 1 + 1]? = some (gO 0 0) ∧ wx.heap[w.heap.size + 1 + 1 + 1]? = some (boxG kd nn tx none 0 0) ∧ Below w.heap.size w wx
theorem WSt.start (w : World) (a kd : Int) : WSt w a 0 kd 0 ⟨#[]⟩ ((((w.alloc (gO a 0)).alloc zeroG).alloc (gO 0 0)).alloc (boxG kd 0 ⟨#[]⟩ none 0 0)) := by
  have e1 : (w.alloc (gO a 0)).heap.size = w.heap.size + 1 := by simp
  have e2 : ((w.alloc (gO a 0)).alloc zeroG).heap.size = w.heap.size + 1 + 1 := by simp
  have e3 : (((w.alloc (gO a 0)).alloc zeroG).alloc (gO 0 0)).heap.size = w.heap.size + 1 + 1 + 1 := by simp
  have h1 := alloc_at w (gO a 0)
  have h2 := alloc_at (w.alloc (gO a 0)) zeroG
  have h3 := alloc_at ((w.alloc (gO a 0)).alloc zeroG) (gO 0 0)
  have h4 := alloc_at (((w.alloc (gO a 0)).alloc zeroG).alloc (gO 0 0)) (boxG kd 0 ⟨#[]⟩ none 0 0)
  rw [e1] at h2
  rw [e2] at h3
  rw [e3] at h4
  exact ⟨alloc_old (alloc_old (alloc_old h1)), alloc_old (alloc_old h2), alloc_old h3, h4, ((((Below.refl w.heap.size w).alloc (Nat.le_refl _) _).alloc (by omega) _).alloc (by omega) _).alloc (by omega) _⟩
section
variable {w wx wy : World} {A E kd nn : Int} {tx : ByteArray}
theorem WSt.step (h : WSt w A E kd nn tx wx) (hb : Below wx.heap.size wx wy) : WSt w A E kd nn tx wy := ⟨box_keep h.1 hb, box_keep h.2.1 hb, box_keep h.2.2.1 hb, box_keep h.2.2.2.1 hb, below_step8' h.2.2.2.2 hb⟩
theorem WSt.drew (h : WSt w A E kd nn tx wx) : WSt w A E kd nn tx wx.drew := h.step (Below.refl _ _).drew
theorem WSt.set (h : WSt w A E kd nn tx wx) (A' E' : Int) : WSt w A' E' kd nn tx ((wx.setCell ⟨w.heap.size, 0, none⟩ (.int .i64 A')).setCell ⟨w.heap.size, 1, none⟩ (.int .i64 E')) :=
  ⟨set_at (j := 1) (set_at (j := 0) h.1), (set_other (show w.heap.size + 1 ≠ w.heap.size by omega)).trans ((set_other (show w.heap.size + 1 ≠ w.heap.size by omega)).trans h.2.1), (set_other (show w.heap.size + 1 + 1 ≠ w.heap.size by omega)).trans ((set_other (show w.heap.size + 1 + 1 ≠ w.heap.size by omega)).trans h.2.2.1),
    (set_other (show w.heap.size + 1 + 1 + 1 ≠ w.heap.size by omega)).trans ((set_other (show w.heap.size + 1 + 1 + 1 ≠ w.heap.size by omega)).trans h.2.2.2.1), (h.2.2.2.2.setCell (Nat.le_refl _) _).setCell (Nat.le_refl _) _⟩
theorem WSt.num (h : WSt w A E kd nn tx wx) (n : Int) : WSt w A E kd n tx (wx.setCell ⟨w.heap.size + 1 + 1 + 1, 1, none⟩ (.int .u64 n)) :=
  ⟨(set_other (show w.heap.size ≠ w.heap.size + 1 + 1 + 1 by omega)).trans h.1, (set_other (show w.heap.size + 1 ≠ w.heap.size + 1 + 1 + 1 by omega)).trans h.2.1, (set_other (show w.heap.size + 1 + 1 ≠ w.heap.size + 1 + 1 + 1 by omega)).trans h.2.2.1,
    set_at (j := 1) h.2.2.2.1, h.2.2.2.2.setCell (show w.heap.size ≤ w.heap.size + 1 + 1 + 1 by omega) _⟩
theorem WSt.txt (h : WSt w A E kd nn tx wx) (s : ByteArray) : WSt w A E kd nn s (wx.setCell ⟨w.heap.size + 1 + 1 + 1, 2, none⟩ (.string s)) :=
  ⟨(set_other (show w.heap.size ≠ w.heap.size + 1 + 1 + 1 by omega)).trans h.1, (set_other (show w.heap.size + 1 ≠ w.heap.size + 1 + 1 + 1 by omega)).trans h.2.1, (set_other (show w.heap.size + 1 + 1 ≠ w.heap.size + 1 + 1 + 1 by omega)).trans h.2.2.1,
    set_at (j := 2) h.2.2.2.1, h.2.2.2.2.setCell (show w.heap.size ≤ w.heap.size + 1 + 1 + 1 by omega) _⟩
end
theorem set4_at {W : World} {g : Nat} (h : W.heap[g]? = some zeroG) (kd nn : Int) (tx : ByteArray) (va : Option Addr) (j vc : Nat) :
    ((((W.setCell ⟨g, 0, none⟩ (.int .i64 kd)).setCell ⟨g, 1, none⟩ (.int .u64 nn)).setCell ⟨g, 2, none⟩ (.string tx)).setCell ⟨g, 3, none⟩ (.slice va j vc)).heap[g]? = some (boxG kd nn tx va j vc) := by
  have h1 : (W.setCell ⟨g, 0, none⟩ (.int .i64 kd)).heap[g]? = some (boxG kd 0 ⟨#[]⟩ none 0 0) := set_at (j := 0) h
  have h2 : ((W.setCell ⟨g, 0, none⟩ (.int .i64 kd)).setCell ⟨g, 1, none⟩ (.int .u64 nn)).heap[g]? = some (boxG kd nn ⟨#[]⟩ none 0 0) := set_at (j := 1) h1
  have h3 : (((W.setCell ⟨g, 0, none⟩ (.int .i64 kd)).setCell ⟨g, 1, none⟩ (.int .u64 nn)).setCell ⟨g, 2, none⟩ (.string tx)).heap[g]? = some (boxG kd nn tx none 0 0) := set_at (j := 2) h2
  exact set_at (j := 3) h3
theorem out_at {w W : World} (h8 : W.heap[w.heap.size + 1]? = some zeroG) (h9 : W.heap[w.heap.size + 1 + 1]? = some (gO 0 0)) (kd nn : Int) (tx : ByteArray) (va : Option Addr) (j vc : Nat) (A E : Int) :
    (((((((W.setCell ⟨w.heap.size + 1, 0, none⟩ (.int .i64 kd)).setCell ⟨w.heap.size + 1, 1, none⟩ (.int .u64 nn)).setCell ⟨w.heap.size + 1, 2, none⟩ (.string tx)).setCell ⟨w.heap.size + 1, 3, none⟩ (.slice va j vc)).setCell ⟨w.heap.size + 1 + 1, 0, none⟩ (.int .i64 A)).setCell ⟨w.heap.size + 1 + 1, 1, none⟩ (.int .i64 E)).drew).heap[w.heap.size + 1]? = some (boxG kd nn tx va j vc) ∧ (((((((W.setCell ⟨w.heap.size + 1, 0, none⟩ (.int .i64 kd)).setCell ⟨w.heap.size + 1, 1, none⟩ (.int .u64 nn)).setCell ⟨w.heap.size + 1, 2, none⟩ (.string tx)).setCell ⟨w.heap.size + 1, 3, none⟩ (.slice va j vc)).setCell ⟨w.heap.size + 1 + 1, 0, none⟩ (.int .i64 A)).setCell ⟨w.heap.size + 1 + 1, 1, none⟩ (.int .i64 E)).drew).heap[w.heap.size + 1 + 1]? = some (gO A E) ∧ Only (fun k => k = w.heap.size + 1 ∨ k = w.heap.size + 1 + 1) W (((((((W.setCell ⟨w.heap.size + 1, 0, none⟩ (.int .i64 kd)).setCell ⟨w.heap.size + 1, 1, none⟩ (.int .u64 nn)).setCell ⟨w.heap.size + 1, 2, none⟩ (.string tx)).setCell ⟨w.heap.size + 1, 3, none⟩ (.slice va j vc)).setCell ⟨w.heap.size + 1 + 1, 0, none⟩ (.int .i64 A)).setCell ⟨w.heap.size + 1 + 1, 1, none⟩ (.int .i64 E)).drew) := by
  have a1 := set4_at h8 kd nn tx va j vc
  generalize hW4 : (((W.setCell ⟨w.heap.size + 1, 0, none⟩ (.int .i64 kd)).setCell ⟨w.heap.size + 1, 1, none⟩ (.int .u64 nn)).setCell ⟨w.heap.size + 1, 2, none⟩ (.string tx)).setCell ⟨w.heap.size + 1, 3, none⟩ (.slice va j vc) = W4 at *
  have ne : w.heap.size + 1 + 1 ≠ w.heap.size + 1 := by omega
  have ne2 : w.heap.size + 1 ≠ w.heap.size + 1 + 1 := by omega
  have a2 : W4.heap[w.heap.size + 1 + 1]? = some (gO 0 0) := by
    rw [← hW4]
    exact (set_other ne).trans ((set_other ne).trans ((set_other ne).trans ((set_other ne).trans h9)))
  have a3 : Only (fun k => k = w.heap.size + 1 ∨ k = w.heap.size + 1 + 1) W W4 := by
    rw [← hW4]
    exact ((((Only.refl _ W).setCell (p := ⟨w.heap.size + 1, 0, none⟩) (.inl (.inl rfl)) _).setCell (p := ⟨w.heap.size + 1, 1, none⟩) (.inl (.inl rfl)) _).setCell (p := ⟨w.heap.size + 1, 2, none⟩) (.inl (.inl rfl)) _).setCell (p := ⟨w.heap.size + 1, 3, none⟩) (.inl (.inl rfl)) _
  clear hW4 h8 h9
  have a4 : (W4.setCell ⟨w.heap.size + 1 + 1, 0, none⟩ (.int .i64 A)).heap[w.heap.size + 1 + 1]? = some (gO A 0) := set_at (j := 0) a2
  have a5 : ((W4.setCell ⟨w.heap.size + 1 + 1, 0, none⟩ (.int .i64 A)).setCell ⟨w.heap.size + 1 + 1, 1, none⟩ (.int .i64 E)).heap[w.heap.size + 1 + 1]? = some (gO A E) := set_at (j := 1) a4
  exact ⟨(set_other ne2).trans ((set_other ne2).trans a1), a5, ((a3.setCell (p := ⟨w.heap.size + 1 + 1, 0, none⟩) (.inl (.inr rfl)) _).setCell (p := ⟨w.heap.size + 1 + 1, 1, none⟩) (.inl (.inr rfl)) _).drew⟩
set_option maxRecDepth 100000 in
set_option maxHeartbeats 4000000 in
theorem rvN (ao : Option Addr) (len cap : Nat) (t : Nat) (ht : t < len) (T : TypeV) (b : ByteArray) (a : Nat) (w : World) (HT : TypeAt w ao t T) (hk : T.kind < 10) (N A E : Int) (hnum : ∀ wx, Below w.heap.size w wx → Calls Tryz.prog 48 #[.slice ao len cap, .int .i64 (t : Nat), .string b, .agg #[.int .i64 (a : Nat), .int .i64 0]] wx fun e w' => e = .returned (.tuple #[.int .u64 N, .agg #[.int .i64 A, .int .i64 E]]) ∧ Below wx.heap.size wx w')
    (d : DR) (hd : ∀ w', RvIs b d (fun k => w.heap.size ≤ k) (.node T.kind N ⟨#[]⟩ none 0 0 (fun _ => .nil)) A E w') :
    Calls Tryz.prog 27 #[.slice ao len cap, .int .i64 t, .string b, .agg #[.int .i64 (a : Nat), .int .i64 0]] w (RvRes b d w) := by
  have HNU := Lib.hid hnum
  have HDD := Lib.hid hd
  clear hnum hd
  have dk : decide (T.kind < 10) = true := decide_eq_true hk
  clear hk
  have HIT := Lib.hid (fun wx (hb : Below w.heap.size w wx) => HT.held hb)
  obtain ⟨tb, off, rfl, c0, c1, c2, c3, c4, c5, wf, hi⟩ := HT
  have HG := Lib.hid (WSt.start w (a : Nat) T.kind)
  have hb3 : Below w.heap.size w (((w.alloc (gO (a : Nat) 0)).alloc zeroG).alloc (gO 0 0)) := (((Below.refl w.heap.size w).alloc (Nat.le_refl _) _).alloc (by simp) _).alloc (by simp; omega) _
  have c0 := keep hb3 c0
  have c2 := keep HG.out.2.2.2.2 c2
  clear c1 c3 c4 c5 wf hi hb3
  go_enter Tryz.func27, Tryz.ntmps27
  go_upto_region 2 with (fail)
  generalize ((((w.alloc (gO (a : Nat) 0)).alloc zeroG).alloc (gO 0 0)).alloc (boxG T.kind 0 ⟨#[]⟩ none 0 0)) = W at *
  have x0 := cell_at (j := 0) HG.out.1 rfl; have x1 := cell_at (j := 1) HG.out.1 rfl; have f0 := free_at (j := 0) HG.out.1; have f1 := free_at (j := 1) HG.out.1; have r0 := cell_at (j := 0) HG.out.2.1 rfl; have r1 := cell_at (j := 1) HG.out.2.1 rfl; have r2 := cell_at (j := 2) HG.out.2.1 rfl; have r3 := cell_at (j := 3) HG.out.2.1 rfl; have s0 := free_at (j := 0) HG.out.2.1; have s1 := free_at (j := 1) HG.out.2.1; have s2 := free_at (j := 2) HG.out.2.1; have s3 := free_at (j := 3) HG.out.2.1; have q0 := cell_at (j := 0) HG.out.2.2.1 rfl; have q1 := cell_at (j := 1) HG.out.2.2.1 rfl; have t0 := free_at (j := 0) HG.out.2.2.1; have t1 := free_at (j := 1) HG.out.2.2.1; have z0 := cell_at (j := 0) HG.out.2.2.2.1 rfl; have z1 := cell_at (j := 1) HG.out.2.2.2.1 rfl; have z2 := cell_at (j := 2) HG.out.2.2.2.1 rfl; have z3 := cell_at (j := 3) HG.out.2.2.2.1 rfl; have v1 := free_at (j := 1) HG.out.2.2.2.1; have v2 := free_at (j := 2) HG.out.2.2.2.1
  go_upto_region 4 with (go_at_call 48; refine (HNU.out _ HG.out.2.2.2.2).mono ?_; rintro e w1 ⟨rfl, hb1⟩; have HG1 := Lib.hid (HG.out.step hb1); clear x0 x1 f0 f1 r0 r1 r2 r3 s0 s1 s2 s3 q0 q1 t0 t1 z0 z1 z2 z3 v1 v2; clear hb1; have x0 := cell_at (j := 0) HG1.out.1 rfl; have x1 := cell_at (j := 1) HG1.out.1 rfl; have f0 := free_at (j := 0) HG1.out.1; have f1 := free_at (j := 1) HG1.out.1; have r0 := cell_at (j := 0) HG1.out.2.1 rfl; have r1 := cell_at (j := 1) HG1.out.2.1 rfl; have r2 := cell_at (j := 2) HG1.out.2.1 rfl; have r3 := cell_at (j := 3) HG1.out.2.1 rfl; have s0 := free_at (j := 0) HG1.out.2.1; have s1 := free_at (j := 1) HG1.out.2.1; have s2 := free_at (j := 2) HG1.out.2.1; have s3 := free_at (j := 3) HG1.out.2.1; have q0 := cell_at (j := 0) HG1.out.2.2.1 rfl; have q1 := cell_at (j := 1) HG1.out.2.2.1 rfl; have t0 := free_at (j := 0) HG1.out.2.2.1; have t1 := free_at (j := 1) HG1.out.2.2.1; have z0 := cell_at (j := 0) HG1.out.2.2.2.1 rfl; have z1 := cell_at (j := 1) HG1.out.2.2.2.1 rfl; have z2 := cell_at (j := 2) HG1.out.2.2.2.1 rfl; have z3 := cell_at (j := 3) HG1.out.2.2.2.1 rfl; have v1 := free_at (j := 1) HG1.out.2.2.2.1; have v2 := free_at (j := 2) HG1.out.2.2.2.1; have HS1 := Lib.hid ((HG1.out.num N).set A E))
  clear x0 x1 f0 f1 r0 r1 r2 r3 s0 s1 s2 s3 q0 q1 t0 t1 z0 z1 z2 z3 v1 v2
  generalize ((w1.setCell ⟨w.heap.size + 1 + 1 + 1, 1, none⟩ (.int .u64 N)).setCell ⟨w.heap.size, 0, none⟩ (.int .i64 A)).setCell ⟨w.heap.size, 1, none⟩ (.int .i64 E) = W3 at *
  have x0 := cell_at (j := 0) HS1.out.1 rfl; have x1 := cell_at (j := 1) HS1.out.1 rfl; have f0 := free_at (j := 0) HS1.out.1; have f1 := free_at (j := 1) HS1.out.1; have r0 := cell_at (j := 0) HS1.out.2.1 rfl; have r1 := cell_at (j := 1) HS1.out.2.1 rfl; have r2 := cell_at (j := 2) HS1.out.2.1 rfl; have r3 := cell_at (j := 3) HS1.out.2.1 rfl; have s0 := free_at (j := 0) HS1.out.2.1; have s1 := free_at (j := 1) HS1.out.2.1; have s2 := free_at (j := 2) HS1.out.2.1; have s3 := free_at (j := 3) HS1.out.2.1; have q0 := cell_at (j := 0) HS1.out.2.2.1 rfl; have q1 := cell_at (j := 1) HS1.out.2.2.1 rfl; have t0 := free_at (j := 0) HS1.out.2.2.1; have t1 := free_at (j := 1) HS1.out.2.2.1; have z0 := cell_at (j := 0) HS1.out.2.2.2.1 rfl; have z1 := cell_at (j := 1) HS1.out.2.2.2.1 rfl; have z2 := cell_at (j := 2) HS1.out.2.2.2.1 rfl; have z3 := cell_at (j := 3) HS1.out.2.2.2.1 rfl; have v1 := free_at (j := 1) HS1.out.2.2.2.1; have v2 := free_at (j := 2) HS1.out.2.2.2.1
  go_region
  all_goals go_wp2
  all_goals
    have hout := out_at HS1.out.2.1 HS1.out.2.2.1 (T.kind) (N) (⟨#[]⟩) (none) (0) (0) (A) (E)
    have d0 := cell_at (j := 0) hout.1 rfl
    have d1 := cell_at (j := 1) hout.1 rfl
    have d2 := cell_at (j := 2) hout.1 rfl
    have d3 := cell_at (j := 3) hout.1 rfl
    have d4 := cell_at (j := 0) hout.2.1 rfl
    have d5 := cell_at (j := 1) hout.2.1 rfl
    have hbw : Below w.heap.size w (((((((W3.setCell ⟨w.heap.size + 1, 0, none⟩ (.int .i64 T.kind)).setCell ⟨w.heap.size + 1, 1, none⟩ (.int .u64 N)).setCell ⟨w.heap.size + 1, 2, none⟩ (.string ⟨#[]⟩)).setCell ⟨w.heap.size + 1, 3, none⟩ (.slice none 0 0)).setCell ⟨w.heap.size + 1 + 1, 0, none⟩ (.int .i64 A)).setCell ⟨w.heap.size + 1 + 1, 1, none⟩ (.int .i64 E)).drew) := Only.below_step HS1.out.2.2.2.2 hout.2.2 (fun k hk => by omega) (Nat.le_refl _)
    refine bodyPost_ret (v := .tuple #[.agg #[.int .i64 T.kind, .int .u64 N, .string ⟨#[]⟩, .slice none 0 0], .agg #[.int .i64 A, .int .i64 E]]) ?_ rfl ⟨.node T.kind N ⟨#[]⟩ none 0 0 (fun _ => .nil), A, E, rfl, hbw, HDD.out _⟩
    simp [results, Tryz.results27, asAddr, go_sem, d0, d1, d2, d3, d4, d5]
set_option maxRecDepth 100000 in
set_option maxHeartbeats 4000000 in
theorem rvT (ao : Option Addr) (len cap : Nat) (t : Nat) (ht : t < len) (T : TypeV) (b : ByteArray) (a : Nat) (w : World) (HT : TypeAt w ao t T) (hk : T.kind = 10) (E : Int) (Q : ByteArray → Int → Prop) (htx : ∀ wx, Below w.heap.size w wx → Calls Tryz.prog 49 #[.int .i64 T.bound, .string b, .agg #[.int .i64 (a : Nat), .int .i64 0]] wx fun e w' => ∃ (S : ByteArray) (A : Int), e = .returned (.tuple #[.string S, .agg #[.int .i64 A, .int .i64 E]]) ∧ Q S A ∧ Below wx.heap.size wx w')
    (d : DR) (hd : ∀ w' S A, Q S A → RvIs b d (fun k => w.heap.size ≤ k) (.node T.kind 0 S none 0 0 (fun _ => .nil)) A E w') :
    Calls Tryz.prog 27 #[.slice ao len cap, .int .i64 t, .string b, .agg #[.int .i64 (a : Nat), .int .i64 0]] w (RvRes b d w) := by
  have HTX := Lib.hid htx
  have HDD := Lib.hid hd
  have dk : decide (T.kind < 10) = false := decide_eq_false (by omega)
  have k10 : (T.kind == 10) = true := by rw [hk]; decide
  clear htx hd hk
  have HIT := Lib.hid (fun wx (hb : Below w.heap.size w wx) => HT.held hb)
  obtain ⟨tb, off, rfl, c0, c1, c2, c3, c4, c5, wf, hi⟩ := HT
  have HG := Lib.hid (WSt.start w (a : Nat) T.kind)
  have hb3 : Below w.heap.size w (((w.alloc (gO (a : Nat) 0)).alloc zeroG).alloc (gO 0 0)) := (((Below.refl w.heap.size w).alloc (Nat.le_refl _) _).alloc (by simp) _).alloc (by simp; omega) _
  have c0 := keep hb3 c0
  have c2 := keep HG.out.2.2.2.2 c2
  clear c1 c3 c4 c5 wf hi hb3
  go_enter Tryz.func27, Tryz.ntmps27
  go_upto_region 2 with (fail)
  generalize ((((w.alloc (gO (a : Nat) 0)).alloc zeroG).alloc (gO 0 0)).alloc (boxG T.kind 0 ⟨#[]⟩ none 0 0)) = W at *
  have x0 := cell_at (j := 0) HG.out.1 rfl; have x1 := cell_at (j := 1) HG.out.1 rfl; have f0 := free_at (j := 0) HG.out.1; have f1 := free_at (j := 1) HG.out.1; have r0 := cell_at (j := 0) HG.out.2.1 rfl; have r1 := cell_at (j := 1) HG.out.2.1 rfl; have r2 := cell_at (j := 2) HG.out.2.1 rfl; have r3 := cell_at (j := 3) HG.out.2.1 rfl; have s0 := free_at (j := 0) HG.out.2.1; have s1 := free_at (j := 1) HG.out.2.1; have s2 := free_at (j := 2) HG.out.2.1; have s3 := free_at (j := 3) HG.out.2.1; have q0 := cell_at (j := 0) HG.out.2.2.1 rfl; have q1 := cell_at (j := 1) HG.out.2.2.1 rfl; have t0 := free_at (j := 0) HG.out.2.2.1; have t1 := free_at (j := 1) HG.out.2.2.1; have z0 := cell_at (j := 0) HG.out.2.2.2.1 rfl; have z1 := cell_at (j := 1) HG.out.2.2.2.1 rfl; have z2 := cell_at (j := 2) HG.out.2.2.2.1 rfl; have z3 := cell_at (j := 3) HG.out.2.2.2.1 rfl; have v1 := free_at (j := 1) HG.out.2.2.2.1; have v2 := free_at (j := 2) HG.out.2.2.2.1
  go_upto_region 6 with (fail)
  have HV := Lib.hid HG.out.drew
  go_region_with
    (first | (go_at_call 49; refine (HTX.out _ (by first | exact HG.out.2.2.2.2 | exact HV.out.2.2.2.2)).mono ?_; rintro e w1 ⟨S, A, rfl, hq, hb1⟩; have HSA := Lib.hid hq; have HG1 := Lib.hid (WSt.step (by first | exact HG.out | exact HV.out) hb1); clear x0 x1 f0 f1 r0 r1 r2 r3 s0 s1 s2 s3 q0 q1 t0 t1 z0 z1 z2 z3 v1 v2; have c2 := keep hb1 (by exact c2); clear hb1 hq; have x0 := cell_at (j := 0) HG1.out.1 rfl; have x1 := cell_at (j := 1) HG1.out.1 rfl; have f0 := free_at (j := 0) HG1.out.1; have f1 := free_at (j := 1) HG1.out.1; have r0 := cell_at (j := 0) HG1.out.2.1 rfl; have r1 := cell_at (j := 1) HG1.out.2.1 rfl; have r2 := cell_at (j := 2) HG1.out.2.1 rfl; have r3 := cell_at (j := 3) HG1.out.2.1 rfl; have s0 := free_at (j := 0) HG1.out.2.1; have s1 := free_at (j := 1) HG1.out.2.1; have s2 := free_at (j := 2) HG1.out.2.1; have s3 := free_at (j := 3) HG1.out.2.1; have q0 := cell_at (j := 0) HG1.out.2.2.1 rfl; have q1 := cell_at (j := 1) HG1.out.2.2.1 rfl; have t0 := free_at (j := 0) HG1.out.2.2.1; have t1 := free_at (j := 1) HG1.out.2.2.1; have z0 := cell_at (j := 0) HG1.out.2.2.2.1 rfl; have z1 := cell_at (j := 1) HG1.out.2.2.2.1 rfl; have z2 := cell_at (j := 2) HG1.out.2.2.2.1 rfl; have z3 := cell_at (j := 3) HG1.out.2.2.2.1 rfl; have v1 := free_at (j := 1) HG1.out.2.2.2.1; have v2 := free_at (j := 2) HG1.out.2.2.2.1; have HS1 := Lib.hid ((HG1.out.txt S).set A E)))
  all_goals
    clear x0 x1 f0 f1 r0 r1 r2 r3 s0 s1 s2 s3 q0 q1 t0 t1 z0 z1 z2 z3 v1 v2
    generalize ((w1.setCell ⟨w.heap.size + 1 + 1 + 1, 2, none⟩ (.string S)).setCell ⟨w.heap.size, 0, none⟩ (.int .i64 A)).setCell ⟨w.heap.size, 1, none⟩ (.int .i64 E) = W3 at *
    have x0 := cell_at (j := 0) HS1.out.1 rfl; have x1 := cell_at (j := 1) HS1.out.1 rfl; have f0 := free_at (j := 0) HS1.out.1; have f1 := free_at (j := 1) HS1.out.1; have r0 := cell_at (j := 0) HS1.out.2.1 rfl; have r1 := cell_at (j := 1) HS1.out.2.1 rfl; have r2 := cell_at (j := 2) HS1.out.2.1 rfl; have r3 := cell_at (j := 3) HS1.out.2.1 rfl; have s0 := free_at (j := 0) HS1.out.2.1; have s1 := free_at (j := 1) HS1.out.2.1; have s2 := free_at (j := 2) HS1.out.2.1; have s3 := free_at (j := 3) HS1.out.2.1; have q0 := cell_at (j := 0) HS1.out.2.2.1 rfl; have q1 := cell_at (j := 1) HS1.out.2.2.1 rfl; have t0 := free_at (j := 0) HS1.out.2.2.1; have t1 := free_at (j := 1) HS1.out.2.2.1; have z0 := cell_at (j := 0) HS1.out.2.2.2.1 rfl; have z1 := cell_at (j := 1) HS1.out.2.2.2.1 rfl; have z2 := cell_at (j := 2) HS1.out.2.2.2.1 rfl; have z3 := cell_at (j := 3) HS1.out.2.2.2.1 rfl; have v1 := free_at (j := 1) HS1.out.2.2.2.1; have v2 := free_at (j := 2) HS1.out.2.2.2.1
    go_upto_region 7 with (fail)
    go_region
    all_goals go_wp2
    all_goals
      have hout := out_at HS1.out.2.1 HS1.out.2.2.1 (T.kind) (0) (S) (none) (0) (0) (A) (E)
      have d0 := cell_at (j := 0) hout.1 rfl
      have d1 := cell_at (j := 1) hout.1 rfl
      have d2 := cell_at (j := 2) hout.1 rfl
      have d3 := cell_at (j := 3) hout.1 rfl
      have d4 := cell_at (j := 0) hout.2.1 rfl
      have d5 := cell_at (j := 1) hout.2.1 rfl
      have hbw : Below w.heap.size w (((((((W3.setCell ⟨w.heap.size + 1, 0, none⟩ (.int .i64 T.kind)).setCell ⟨w.heap.size + 1, 1, none⟩ (.int .u64 0)).setCell ⟨w.heap.size + 1, 2, none⟩ (.string S)).setCell ⟨w.heap.size + 1, 3, none⟩ (.slice none 0 0)).setCell ⟨w.heap.size + 1 + 1, 0, none⟩ (.int .i64 A)).setCell ⟨w.heap.size + 1 + 1, 1, none⟩ (.int .i64 E)).drew) := Only.below_step HS1.out.2.2.2.2 hout.2.2 (fun k hk => by omega) (Nat.le_refl _)
      refine bodyPost_ret (v := .tuple #[.agg #[.int .i64 T.kind, .int .u64 0, .string S, .slice none 0 0], .agg #[.int .i64 A, .int .i64 E]]) ?_ rfl ⟨.node T.kind 0 S none 0 0 (fun _ => .nil), A, E, rfl, hbw, HDD.out _ _ _ HSA.out⟩
      simp [results, Tryz.results27, asAddr, go_sem, d0, d1, d2, d3, d4, d5]
end Go.Proofs.YtmnemddagcfjgaaGreatDoor
namespace Go.Proofs.YtmnemddagcfjgaaGreatDoor
open Go Go.RowKit
set_option linter.unusedVariables false
section
variable {P : Program} {ops : Array Oper} {Q : Exit → Act → World → Prop}
/-- each waits for earlier ones alone -/
def allB (ops : Array Oper) : Bool := (List.range ops.size).all fun j => (depsOf ops j).all fun k => decide (k < j)
def updB (dn : Nat → Bool) (j : Nat) : Nat → Bool := fun k => if k = j then true else dn k
theorem wp_region_inv {id : Nat} {w : World} (hm : P.follows .mixedOrders = true) (frame : (Nat → Value) → Array Value) (v0 : Nat → Value) (Inv : (Nat → Bool) → (Nat → Value) → World → Prop)
    (hpre : allB ops = true) (h0 : Inv (fun _ => false) v0 w.drew)
    (hop : ∀ j, j < ops.size → ∀ (dn : Nat → Bool) (v : Nat → Value) (w1 : World), Inv dn v w1 → dn j = false → (∀ k, k < ops.size → dn k = true → ∀ i ∈ depsOf ops k, dn i = true) → (∀ k ∈ depsOf ops j, dn k = true) →
      wpOp P ops Q j (fun a' w' => ∃ x, a' = ⟨frame (upd v j x), []⟩ ∧ Inv (updB dn j) (upd v j x) w') ⟨frame v, []⟩ w1)
    (hend : ∀ dn v w', (∀ j, j < ops.size → dn j = true) → Inv dn v w' → wpAny P .any ops Q 0 (listN ops.size ops.size) ⟨frame v, []⟩ w') :
    (Code.region id ops true).wp P Q ⟨frame v0, []⟩ w := by
  refine wp_region_any hm ?_
  have hpre2 : ∀ j, j < ops.size → ∀ k ∈ depsOf ops j, k < j := by
    intro j hj k hk
    have h := List.all_eq_true.1 hpre j (List.mem_range.2 hj)
    simpa using List.all_eq_true.1 h k hk
  have hdeps : ∀ {j : Nat} {o : Oper} {l : Array Bool}, ops[j]? = some o → (∀ e ∈ o.after, Region.binds .any e = true → l.getD e.on false = true) → ∀ k ∈ depsOf ops j, l.getD k false = true := by
    intro j o l ho h k hk
    unfold depsOf at hk
    rw [ho] at hk
    simp only [Option.map_some, Option.getD_some, List.mem_map, List.mem_filter] at hk
    obtain ⟨e, ⟨he, hb⟩, rfl⟩ := hk
    exact h e (Array.mem_toList_iff.1 he) hb
  have hconv : ∀ {j : Nat} {l : Array Bool}, j < ops.size → (∀ k ∈ depsOf ops j, l.getD k false = true) → ∃ o, ops[j]? = some o ∧ ∀ e ∈ o.after, Region.binds .any e = true → l.getD e.on false = true := by
    intro j l hj h
    refine ⟨ops[j], Array.getElem?_eq_getElem hj, fun e he hb => h _ ?_⟩
    unfold depsOf
    rw [Array.getElem?_eq_getElem hj]
    simp only [Option.map_some, Option.getD_some, List.mem_map, List.mem_filter]
    exact ⟨e, ⟨Array.mem_toList_iff.2 he, hb⟩, rfl⟩
  have hdt : ∀ {l : Array Bool} {j : Nat}, l.size = ops.size → j < ops.size → (l.getD j true = l.getD j false) := by
    intro l j hl hj
    have : j < l.size := by omega
    simp [Array.getD, this]
  refine wpAny_inv
    (I := fun l a w' => l.size = ops.size ∧ (∀ j, j < ops.size → l.getD j false = true → ∀ k ∈ depsOf ops j, l.getD k false = true) ∧ ∃ v, a = ⟨frame v, []⟩ ∧ Inv (fun k => l.getD k false) v w')
    (D := fun l => ∀ j, j < ops.size → l.getD j false = true) ?_ ?_ ops.size _ _ _ ?_ ?_
  · rintro l a w1 ⟨hl, hcl, v, rfl, hI⟩ hD
    constructor
    · have hex : ∃ j, j < ops.size ∧ l.getD j false = false := by
        apply Classical.byContradiction
        intro hno
        refine hD fun j hj => ?_
        cases hc : l.getD j false with
        | true => rfl
        | false => exact absurd ⟨j, hj, hc⟩ hno
      have hleast : ∀ n, (∃ j, j < n ∧ j < ops.size ∧ l.getD j false = false) → ∃ j, j < ops.size ∧ l.getD j false = false ∧ ∀ k, k < j → l.getD k false = true := by
        intro n
        induction n with
        | zero => rintro ⟨j, h, _⟩; omega
        | succ n ih =>
          rintro ⟨j, h, hjN, hj⟩
          by_cases c : ∃ k, k < n ∧ k < ops.size ∧ l.getD k false = false
          · exact ih c
          · refine ⟨j, hjN, hj, fun k hk => ?_⟩
            cases hc : l.getD k false with
            | true => rfl
            | false => exact absurd ⟨k, by omega, by omega, hc⟩ c
      obtain ⟨j, hjN, hj⟩ := hex
      obtain ⟨j, hjs, hj, hall⟩ := hleast (j + 1) ⟨j, by omega, hjN, hj⟩
      exact ⟨j, mem_ready.2 ⟨by rw [hdt hl hjs]; exact hj, hconv hjs fun k hk => hall k (hpre2 j hjs k hk)⟩⟩
    · intro i hi
      obtain ⟨hun, o, ho, haft⟩ := mem_ready.1 hi
      have his : i < ops.size := (Array.getElem?_eq_some_iff.1 ho).1
      have hdp := hdeps ho haft
      have hun2 : l.getD i false = false := by rw [← hdt hl his]; exact hun
      refine wpOp_mono ?_ (hop i his _ v w1 hI hun2 hcl hdp)
      rintro a' w' ⟨x, rfl, hx⟩
      have hsame : ∀ j, j ≠ i → (l.setIfInBounds i true).getD j false = l.getD j false := fun j hj => by
        simp [Array.getD_eq_getD_getElem?, Ne.symm hj]
      have hself : (l.setIfInBounds i true).getD i false = true := by
        have : i < l.size := by omega
        simp [Array.getD, this]
      have hmono : ∀ k, l.getD k false = true → (l.setIfInBounds i true).getD k false = true := fun k hk => by
        by_cases e : k = i
        · subst e; exact hself
        · rw [hsame k e]; exact hk
      refine ⟨by simp [hl], fun j hj hlj k hk => ?_, upd v i x, rfl, ?_⟩
      · by_cases e : j = i
        · subst e; exact hmono k (hdp k hk)
        · rw [hsame j e] at hlj; exact hmono k (hcl j hj hlj k hk)
      · have e : updB (fun k => l.getD k false) i = fun k => (l.setIfInBounds i true).getD k false := by
          funext k
          unfold updB
          by_cases e : k = i
          · subst e; rw [if_pos rfl, hself]
          · rw [if_neg e, hsame k e]
        rw [← e]
        exact hx
  · rintro l a w' ⟨hl, hcl, v, rfl, hI⟩ hD
    have e : l = listN ops.size ops.size := listN_of hl (Nat.le_refl _) hD (fun j h1 h2 => by omega)
    subst e
    rw [restN_listN, Nat.sub_self]
    exact hend _ v w' hD hI
  · unfold restN restL; simp
  · refine ⟨by simp, fun j hj hlj => ?_, v0, rfl, ?_⟩
    · exfalso
      by_cases c : j < ops.size <;> simp [Array.getD, c] at hlj
    · have e : (fun k => (Array.replicate ops.size false).getD k false) = fun _ => false := by
        funext k
        by_cases c : k < ops.size <;> simp [Array.getD, c]
      rw [e]
      exact h0
end
end Go.Proofs.YtmnemddagcfjgaaGreatDoor
namespace Go.Proofs.YtmnemddagcfjgaaGreatDoor
open Go.RowKit
set_option linter.unusedVariables false
def RvU (d : DR) (S : Nat → Prop) (U : VT) (w : World) : Prop := match d with | .bad _ => True | .ok V _ => sameT V U = true ∧ ValAt w S U
def RvA (b : ByteArray) (d : DR) (A E : Int) : Prop := match d with | .bad x => E = x ∧ x ≠ 0 | .ok _ a' => E = 0 ∧ A = (a' : Nat) ∧ a' ≤ b.size
theorem rvIs_of {b : ByteArray} {d : DR} {S : Nat → Prop} {U : VT} {A E : Int} {w : World} (h1 : RvU d S U w) (h2 : RvA b d A E) : RvIs b d S U A E w := by
  cases d with
  | bad x => exact h2
  | ok V a' => exact ⟨h2.1, h2.2.1, h2.2.2, h1.1, h1.2⟩
theorem rvIs_to {b : ByteArray} {d : DR} {S : Nat → Prop} {U : VT} {A E : Int} {w : World} (h : RvIs b d S U A E w) : RvU d S U w ∧ RvA b d A E := by
  cases d with
  | bad x => exact ⟨trivial, h⟩
  | ok V a' => exact ⟨⟨h.2.2.2.1, h.2.2.2.2⟩, h.1, h.2.1, h.2.2.1⟩
theorem RvU.held {d : DR} {S S' : Nat → Prop} {U : VT} {w w' : World} (h : RvU d S U w) (hS : ∀ k, S k → k < w.heap.size → S' k) (hn : w.heap.size ≤ w'.heap.size) (hw : ∀ k, S k → k < w.heap.size → w'.heap[k]? = w.heap[k]?) : RvU d S' U w' := by
  cases d with
  | bad x => trivial
  | ok V a' => exact ⟨h.1, ValAt.held_of (S := fun k => S k ∧ k < w.heap.size) (fun k hk => hS k hk.1 hk.2) hn (fun k hk hl => hw k hk.1 hl) _ (valAt_lt _ h.2)⟩
abbrev ptr0 (g : Nat) : Value := .pointer (some ⟨g, 0, none⟩)
theorem ptr0_inj {a b : Nat} (h : ptr0 a = ptr0 b) : a = b := by injection h with h; injection h with h; injection h with h
abbrev agU (U : VT) : Value := .agg #[.int .i64 U.kind, .int .u64 U.num, .string U.text, .slice U.ia U.len U.cap]
abbrev agE (A E : Int) : Value := .agg #[.int .i64 A, .int .i64 E]
def SX (ws : Nat) (dn : Nat → Bool) (v : Nat → Value) (k : Nat) : Prop := ws ≤ k ∧ (dn 11 = true → v 11 ≠ ptr0 k) ∧ (dn 12 = true → v 12 ≠ ptr0 k)
/-- what is known of each operation that has come up -/
def RF (ws : Nat) (b : ByteArray) (d : DR) (c : Nat → Value) (j : Nat) (dn : Nat → Bool) (v : Nat → Value) (w : World) : Prop :=
  if j < 7 then v j = c j
  else if j = 7 ∨ j = 8 then ∃ U A E, v j = .tuple #[agU U, agE A E] ∧ RvU d (SX ws dn v) U w ∧ RvA b d A E
  else if j = 9 then ∃ U, v j = agU U ∧ RvU d (SX ws dn v) U w
  else if j = 10 then ∃ A E, v j = agE A E ∧ RvA b d A E
  else if j = 11 then ∃ g, v 11 = ptr0 g ∧ ws ≤ g ∧ ∃ kd nn tx va i vc, w.heap[g]? = some (boxG kd nn tx va i vc)
  else if j = 12 then ∃ g, v 12 = ptr0 g ∧ ws ≤ g ∧ ∃ A E, w.heap[g]? = some (gO A E)
  else if j = 13 then ∃ g U, v 11 = ptr0 g ∧ w.heap[g]? = some (boxG U.kind U.num U.text U.ia U.len U.cap) ∧ RvU d (SX ws dn v) U w
  else ∃ g A E, v 12 = ptr0 g ∧ w.heap[g]? = some (gO A E) ∧ RvA b d A E
def RInv (wr : World) (b : ByteArray) (d : DR) (c : Nat → Value) (dn : Nat → Bool) (v : Nat → Value) (w : World) : Prop :=
  Below wr.heap.size wr w ∧ ∀ j, j < 15 → dn j = true → RF wr.heap.size b d c j dn v w
section
variable {wr : World} {ws : Nat} {b : ByteArray} {d : DR} {c : Nat → Value} {dn : Nat → Bool} {v : Nat → Value} {w w' : World}
theorem updB_ne {i j : Nat} (h : i ≠ j) : updB dn j i = dn i := by unfold updB; rw [if_neg h]
theorem upd_ne {i j : Nat} {x : Value} (h : i ≠ j) : upd v j x i = v i := by unfold upd; rw [if_neg h]
theorem upd_eq {j : Nat} {x : Value} : upd v j x j = x := by unfold upd; rw [if_pos rfl]
/-- a step: what had come up is kept if the new places are no part of what is known, and the old ones stand -/
theorem RF.keep {i k : Nat} {x : Value} (h : RF ws b d c k dn v w) (hk : k < 15) (hki : k ≠ i)
    (hS : ∀ q, SX ws dn v q → q < w.heap.size → SX ws (updB dn i) (upd v i x) q) (hn : w.heap.size ≤ w'.heap.size) (hw : ∀ q, SX ws dn v q → q < w.heap.size → w'.heap[q]? = w.heap[q]?)
    (h11 : k = 11 ∨ k = 13 → i ≠ 11 ∧ ∀ g, v 11 = ptr0 g → g < w.heap.size → w'.heap[g]? = w.heap[g]? ∨ (k = 11 ∧ ∃ kd nn tx va i vc, w'.heap[g]? = some (boxG kd nn tx va i vc)))
    (h12 : k = 12 ∨ k = 14 → i ≠ 12 ∧ ∀ g, v 12 = ptr0 g → g < w.heap.size → w'.heap[g]? = w.heap[g]? ∨ (k = 12 ∧ ∃ A E, w'.heap[g]? = some (gO A E))) : RF ws b d c k (updB dn i) (upd v i x) w' := by
  unfold RF at h ⊢
  rw [upd_ne hki]
  split
  · rename_i e; rw [if_pos e] at h; exact h
  · rename_i e; rw [if_neg e] at h
    split
    · rename_i e; rw [if_pos e] at h
      obtain ⟨U, A, E, h1, h2, h3⟩ := h
      exact ⟨U, A, E, h1, h2.held hS hn hw, h3⟩
    · rename_i e; rw [if_neg e] at h
      split
      · rename_i e; rw [if_pos e] at h
        obtain ⟨U, h1, h2⟩ := h
        exact ⟨U, h1, h2.held hS hn hw⟩
      · rename_i e; rw [if_neg e] at h
        split
        · rename_i e; rw [if_pos e] at h; exact h
        · rename_i e; rw [if_neg e] at h
          split
          · rename_i e; rw [if_pos e] at h
            obtain ⟨g, h1, h2, kd, nn, tx, va, q, vc, h3⟩ := h
            obtain ⟨n1, n2⟩ := h11 (.inl e)
            refine ⟨g, by rw [upd_ne (Ne.symm n1)]; exact h1, h2, ?_⟩
            rcases n2 g h1 (lt_of_block h3) with e2 | ⟨_, e2⟩
            · exact ⟨kd, nn, tx, va, q, vc, e2.trans h3⟩
            · exact e2
          · rename_i e; rw [if_neg e] at h
            split
            · rename_i e; rw [if_pos e] at h
              obtain ⟨g, h1, h2, A, E, h3⟩ := h
              obtain ⟨n1, n2⟩ := h12 (.inl e)
              refine ⟨g, by rw [upd_ne (Ne.symm n1)]; exact h1, h2, ?_⟩
              rcases n2 g h1 (lt_of_block h3) with e2 | ⟨_, e2⟩
              · exact ⟨A, E, e2.trans h3⟩
              · exact e2
            · rename_i e12; rw [if_neg e12] at h
              split
              · rename_i e; rw [if_pos e] at h
                obtain ⟨g, U, h1, h2, h3⟩ := h
                obtain ⟨n1, n2⟩ := h11 (.inr e)
                refine ⟨g, U, by rw [upd_ne (Ne.symm n1)]; exact h1, ?_, h3.held hS hn hw⟩
                rcases n2 g h1 (lt_of_block h2) with e2 | ⟨e2, _⟩
                · exact e2.trans h2
                · omega
              · rename_i e; rw [if_neg e] at h
                obtain ⟨g, A, E, h1, h2, h3⟩ := h
                obtain ⟨n1, n2⟩ := h12 (.inr (by omega))
                refine ⟨g, A, E, by rw [upd_ne (Ne.symm n1)]; exact h1, ?_, h3⟩
                rcases n2 g h1 (lt_of_block h2) with e2 | ⟨e2, _⟩
                · exact e2.trans h2
                · omega
/-- a step that lays new blocks alone -/
theorem RInv.quiet {i : Nat} {x : Value} (h : RInv wr b d c dn v w) (hi : i < 11) (hb : Below w.heap.size w w') (hx : RF wr.heap.size b d c i (updB dn i) (upd v i x) w') : RInv wr b d c (updB dn i) (upd v i x) w' := by
  refine ⟨below_step8' h.1 hb, fun k hk hd => ?_⟩
  by_cases e : k = i
  · subst e; exact hx
  · rw [updB_ne e] at hd
    refine (h.2 k hk hd).keep hk e (fun q hq _ => ?_) hb.size (fun q _ hl => hb.block q hl) (fun _ => ⟨by omega, fun g _ hl => .inl (hb.block g hl)⟩) (fun _ => ⟨by omega, fun g _ hl => .inl (hb.block g hl)⟩)
    unfold SX at hq ⊢
    rw [updB_ne (show 11 ≠ i by omega), updB_ne (show 12 ≠ i by omega), upd_ne (show 11 ≠ i by omega), upd_ne (show 12 ≠ i by omega)]
    exact hq
/-- a new box -/
theorem RInv.box {i : Nat} {o : Obj} (h : RInv wr b d c dn v w) (hi : i = 11 ∨ i = 12) (hdn : dn i = false) (hcl : ∀ k, k < 15 → dn k = true → k = i + 2 → dn i = true)
    (hx : RF wr.heap.size b d c i (updB dn i) (upd v i (ptr0 w.heap.size)) (w.alloc o)) : RInv wr b d c (updB dn i) (upd v i (ptr0 w.heap.size)) (w.alloc o) := by
  have hb : Below w.heap.size w (w.alloc o) := (Below.refl _ _).alloc (Nat.le_refl _) _
  refine ⟨below_step8' h.1 hb, fun k hk hd => ?_⟩
  by_cases e : k = i
  · subst e; exact hx
  · rw [updB_ne e] at hd
    have hne : k ≠ i + 2 := fun e2 => by have := hcl k hk hd e2; rw [hdn] at this; cases this
    refine (h.2 k hk hd).keep hk e (fun q hq hl => ?_) hb.size (fun q _ hl => hb.block q hl) (fun hk2 => ⟨by omega, fun g _ hl => .inl (hb.block g hl)⟩) (fun hk2 => ⟨by omega, fun g _ hl => .inl (hb.block g hl)⟩)
    obtain ⟨s1, s2, s3⟩ := hq
    have hp : ptr0 w.heap.size ≠ ptr0 q := fun e => by have := ptr0_inj e; omega
    refine ⟨s1, fun _ => ?_, fun _ => ?_⟩
    · rcases hi with rfl | rfl
      · rw [upd_eq]; exact hp
      · rw [upd_ne (by decide)]; rename_i hh; rw [updB_ne (by decide)] at hh; exact s2 hh
    · rcases hi with rfl | rfl
      · rw [upd_ne (by decide)]; rename_i hh; rw [updB_ne (by decide)] at hh; exact s3 hh
      · rw [upd_eq]; exact hp
abbrev put4 (w : World) (g : Nat) (U : VT) : World := (((w.setCell ⟨g, 0, none⟩ (.int .i64 U.kind)).setCell ⟨g, 1, none⟩ (.int .u64 U.num)).setCell ⟨g, 2, none⟩ (.string U.text)).setCell ⟨g, 3, none⟩ (.slice U.ia U.len U.cap)
abbrev put2 (w : World) (g : Nat) (A E : Int) : World := (w.setCell ⟨g, 0, none⟩ (.int .i64 A)).setCell ⟨g, 1, none⟩ (.int .i64 E)
theorem put4_at {g : Nat} {U : VT} {kd nn : Int} {tx : ByteArray} {va : Option Addr} {i vc : Nat} (h : w.heap[g]? = some (boxG kd nn tx va i vc)) : (put4 w g U).heap[g]? = some (boxG U.kind U.num U.text U.ia U.len U.cap) := by
  have h1 : (w.setCell ⟨g, 0, none⟩ (.int .i64 U.kind)).heap[g]? = some (boxG U.kind nn tx va i vc) := set_at (j := 0) h
  have h2 : ((w.setCell ⟨g, 0, none⟩ (.int .i64 U.kind)).setCell ⟨g, 1, none⟩ (.int .u64 U.num)).heap[g]? = some (boxG U.kind U.num tx va i vc) := set_at (j := 1) h1
  have h3 : (((w.setCell ⟨g, 0, none⟩ (.int .i64 U.kind)).setCell ⟨g, 1, none⟩ (.int .u64 U.num)).setCell ⟨g, 2, none⟩ (.string U.text)).heap[g]? = some (boxG U.kind U.num U.text va i vc) := set_at (j := 2) h2
  exact set_at (j := 3) h3
theorem put4_other {g q : Nat} {U : VT} (hq : q ≠ g) : (put4 w g U).heap[q]? = w.heap[q]? := by
  rw [set_other (show q ≠ _ from hq), set_other (show q ≠ _ from hq), set_other (show q ≠ _ from hq), set_other (show q ≠ _ from hq)]
theorem put4_size {g : Nat} {U : VT} : (put4 w g U).heap.size = w.heap.size := by simp
theorem put2_at {g : Nat} {A E A' E' : Int} (h : w.heap[g]? = some (gO A E)) : (put2 w g A' E').heap[g]? = some (gO A' E') := by
  have h1 : (w.setCell ⟨g, 0, none⟩ (.int .i64 A')).heap[g]? = some (gO A' E) := set_at (j := 0) h
  exact set_at (j := 1) h1
theorem put2_other {g q : Nat} {A E : Int} (hq : q ≠ g) : (put2 w g A E).heap[q]? = w.heap[q]? := by
  rw [set_other (show q ≠ _ from hq), set_other (show q ≠ _ from hq)]
theorem put2_size {g : Nat} {A E : Int} : (put2 w g A E).heap.size = w.heap.size := by simp
theorem box_ne {g q : Nat} {kd nn : Int} {tx : ByteArray} {va : Option Addr} {i vc : Nat} {A E : Int} (h1 : w.heap[g]? = some (boxG kd nn tx va i vc)) (h2 : w.heap[q]? = some (gO A E)) : q ≠ g := by
  rintro rfl
  rw [h1] at h2
  simp at h2
theorem SX.sto {i : Nat} {x : Value} {q : Nat} (hi : i = 13 ∨ i = 14) (h : SX ws dn v q) : SX ws (updB dn i) (upd v i x) q := by
  unfold SX at h ⊢
  rw [updB_ne (show 11 ≠ i by omega), updB_ne (show 12 ≠ i by omega), upd_ne (show 11 ≠ i by omega), upd_ne (show 12 ≠ i by omega)]
  exact h
set_option maxHeartbeats 4000000 in
theorem RInv.sto13 {g : Nat} {U : VT} {kd nn : Int} {tx : ByteArray} {va : Option Addr} {i vc : Nat} (x : Value) (h : RInv wr b d c dn v w) (d11 : dn 11 = true) (d14 : dn 14 = false) (e11 : v 11 = ptr0 g) (hg : wr.heap.size ≤ g) (hw : w.heap[g]? = some (boxG kd nn tx va i vc)) (hU : RvU d (SX wr.heap.size dn v) U w) :
    RInv wr b d c (updB dn 13) (upd v 13 x) (put4 w g U) := by
  have hS : ∀ q, SX wr.heap.size dn v q → q ≠ g := fun q hq e => hq.2.1 d11 (by rw [e11, e])
  refine ⟨(((h.1.setCell hg _).setCell hg _).setCell hg _).setCell hg _, fun k hk hd => ?_⟩
  by_cases e : k = 13
  · subst e
    unfold RF
    simp only [show ¬ (13 : Nat) < 7 by decide, show ¬ ((13 : Nat) = 7 ∨ (13 : Nat) = 8) by decide, show ¬ (13 : Nat) = 9 by decide, show ¬ (13 : Nat) = 10 by decide, show ¬ (13 : Nat) = 11 by decide, show ¬ (13 : Nat) = 12 by decide, if_false, if_true]
    exact ⟨g, U, by rw [upd_ne (by decide)]; exact e11, put4_at hw, hU.held (fun q hq _ => hq.sto (.inl rfl)) (by rw [put4_size]; exact Nat.le_refl _) (fun q hq _ => put4_other (hS q hq))⟩
  · rw [updB_ne e] at hd
    have hF := h.2 k hk hd
    refine hF.keep hk e (fun q hq _ => hq.sto (.inl rfl)) (by rw [put4_size]; exact Nat.le_refl _) (fun q hq _ => put4_other (hS q hq)) (fun hk2 => ⟨by decide, fun g' e' _ => .inr ⟨by omega, ?_⟩⟩) (fun hk2 => ⟨by decide, fun g' e' _ => .inl ?_⟩)
    · rw [e11] at e'
      have e' := ptr0_inj e'
      subst e'
      exact ⟨_, _, _, _, _, _, put4_at hw⟩
    · rcases hk2 with rfl | rfl
      · unfold RF at hF
        simp only [show ¬ (12 : Nat) < 7 by decide, show ¬ ((12 : Nat) = 7 ∨ (12 : Nat) = 8) by decide, show ¬ (12 : Nat) = 9 by decide, show ¬ (12 : Nat) = 10 by decide, show ¬ (12 : Nat) = 11 by decide, if_false, if_true] at hF
        obtain ⟨g2, h1, h2, A, E, h3⟩ := hF
        rw [h1] at e'
        have e' := ptr0_inj e'
        subst e'
        exact put4_other (box_ne hw h3)
      · rw [d14] at hd; cases hd
set_option maxHeartbeats 4000000 in
theorem RInv.sto14 {g : Nat} {A E A' E' : Int} (x : Value) (h : RInv wr b d c dn v w) (d12 : dn 12 = true) (e12 : v 12 = ptr0 g) (hg : wr.heap.size ≤ g) (hw : w.heap[g]? = some (gO A' E')) (hA : RvA b d A E) :
    RInv wr b d c (updB dn 14) (upd v 14 x) (put2 w g A E) := by
  have hS : ∀ q, SX wr.heap.size dn v q → q ≠ g := fun q hq e => hq.2.2 d12 (by rw [e12, e])
  refine ⟨(h.1.setCell hg _).setCell hg _, fun k hk hd => ?_⟩
  by_cases e : k = 14
  · subst e
    unfold RF
    simp only [show ¬ (14 : Nat) < 7 by decide, show ¬ ((14 : Nat) = 7 ∨ (14 : Nat) = 8) by decide, show ¬ (14 : Nat) = 9 by decide, show ¬ (14 : Nat) = 10 by decide, show ¬ (14 : Nat) = 11 by decide, show ¬ (14 : Nat) = 12 by decide, show ¬ (14 : Nat) = 13 by decide, if_false]
    exact ⟨g, A, E, by rw [upd_ne (by decide)]; exact e12, put2_at hw, hA⟩
  · rw [updB_ne e] at hd
    have hF := h.2 k hk hd
    refine hF.keep hk e (fun q hq _ => hq.sto (.inr rfl)) (by rw [put2_size]; exact Nat.le_refl _) (fun q hq _ => put2_other (hS q hq)) (fun hk2 => ⟨by decide, fun g' e' _ => .inl ?_⟩) (fun hk2 => ⟨by decide, fun g' e' _ => .inr ⟨by omega, ?_⟩⟩)
    · rcases hk2 with rfl | rfl
      · unfold RF at hF
        simp only [show ¬ (11 : Nat) < 7 by decide, show ¬ ((11 : Nat) = 7 ∨ (11 : Nat) = 8) by decide, show ¬ (11 : Nat) = 9 by decide, show ¬ (11 : Nat) = 10 by decide, if_false, if_true] at hF
        obtain ⟨g2, h1, h2, kd, nn, tx, va, i, vc, h3⟩ := hF
        rw [h1] at e'
        have e' := ptr0_inj e'
        subst e'
        exact put2_other (Ne.symm (box_ne h3 hw))
      · unfold RF at hF
        simp only [show ¬ (13 : Nat) < 7 by decide, show ¬ ((13 : Nat) = 7 ∨ (13 : Nat) = 8) by decide, show ¬ (13 : Nat) = 9 by decide, show ¬ (13 : Nat) = 10 by decide, show ¬ (13 : Nat) = 11 by decide, show ¬ (13 : Nat) = 12 by decide, if_false, if_true] at hF
        obtain ⟨g2, U, h1, h3, _⟩ := hF
        rw [h1] at e'
        have e' := ptr0_inj e'
        subst e'
        exact put2_other (Ne.symm (box_ne h3 hw))
    · rw [e12] at e'
      have e' := ptr0_inj e'
      subst e'
      exact ⟨_, _, put2_at hw⟩
set_option maxHeartbeats 4000000 in
/-- all has come up -/
theorem RInv.all (h : RInv wr b d c dn v w) (hd : ∀ j, j < 15 → dn j = true) : ∃ g U q A E, v 11 = ptr0 g ∧ v 12 = ptr0 q ∧ Below wr.heap.size wr w ∧ w.heap[g]? = some (boxG U.kind U.num U.text U.ia U.len U.cap) ∧ w.heap[q]? = some (gO A E) ∧ wr.heap.size ≤ g ∧ wr.heap.size ≤ q ∧ RvIs b d (fun k => wr.heap.size ≤ k) U A E w := by
  have h11 := h.2 11 (by decide) (hd _ (by decide))
  have h12 := h.2 12 (by decide) (hd _ (by decide))
  have h13 := h.2 13 (by decide) (hd _ (by decide))
  have h14 := h.2 14 (by decide) (hd _ (by decide))
  unfold RF at h11 h12 h13 h14
  simp only [show ¬ (14 : Nat) < 7 by decide, show ¬ ((14 : Nat) = 7 ∨ (14 : Nat) = 8) by decide, show ¬ (14 : Nat) = 9 by decide, show ¬ (14 : Nat) = 10 by decide, show ¬ (14 : Nat) = 11 by decide, show ¬ (14 : Nat) = 12 by decide, show ¬ (14 : Nat) = 13 by decide,
    show ¬ (13 : Nat) < 7 by decide, show ¬ ((13 : Nat) = 7 ∨ (13 : Nat) = 8) by decide, show ¬ (13 : Nat) = 9 by decide, show ¬ (13 : Nat) = 10 by decide, show ¬ (13 : Nat) = 11 by decide, show ¬ (13 : Nat) = 12 by decide,
    show ¬ (12 : Nat) < 7 by decide, show ¬ ((12 : Nat) = 7 ∨ (12 : Nat) = 8) by decide, show ¬ (12 : Nat) = 9 by decide, show ¬ (12 : Nat) = 10 by decide, show ¬ (12 : Nat) = 11 by decide,
    show ¬ (11 : Nat) < 7 by decide, show ¬ ((11 : Nat) = 7 ∨ (11 : Nat) = 8) by decide, show ¬ (11 : Nat) = 9 by decide, show ¬ (11 : Nat) = 10 by decide, if_false, if_true] at h11 h12 h13 h14
  obtain ⟨g1, a1, a2, _⟩ := h11
  obtain ⟨q1, b1, b2, _⟩ := h12
  obtain ⟨g, U, k1, k2, k3⟩ := h13
  obtain ⟨q, A, E, m1, m2, m3⟩ := h14
  rw [a1] at k1
  have k1 := ptr0_inj k1
  rw [b1] at m1
  have m1 := ptr0_inj m1
  subst k1 m1
  exact ⟨_, U, _, A, E, a1, b1, h.1, k2, m2, a2, b2, rvIs_of (k3.held (fun k hk _ => hk.1) (Nat.le_refl _) (fun _ _ _ => rfl)) m3⟩
theorem RF.told {j : Nat} (hj : j < 7) : RF ws b d c j dn v w ↔ v j = c j := by unfold RF; rw [if_pos hj]
theorem RF.call {j : Nat} (hj : j = 7 ∨ j = 8) : RF ws b d c j dn v w ↔ ∃ U A E, v j = .tuple #[agU U, agE A E] ∧ RvU d (SX ws dn v) U w ∧ RvA b d A E := by
  unfold RF; rw [if_neg (by omega), if_pos hj]
theorem RF.u9 : RF ws b d c 9 dn v w ↔ ∃ U, v 9 = agU U ∧ RvU d (SX ws dn v) U w := by
  unfold RF; rw [if_neg (by decide), if_neg (by decide), if_pos rfl]
theorem RF.e10 : RF ws b d c 10 dn v w ↔ ∃ A E, v 10 = agE A E ∧ RvA b d A E := by
  unfold RF; rw [if_neg (by decide), if_neg (by decide), if_neg (by decide), if_pos rfl]
theorem RF.b11 : RF ws b d c 11 dn v w ↔ ∃ g, v 11 = ptr0 g ∧ ws ≤ g ∧ ∃ kd nn tx va i vc, w.heap[g]? = some (boxG kd nn tx va i vc) := by
  unfold RF; rw [if_neg (by decide), if_neg (by decide), if_neg (by decide), if_neg (by decide), if_pos rfl]
theorem RF.b12 : RF ws b d c 12 dn v w ↔ ∃ g, v 12 = ptr0 g ∧ ws ≤ g ∧ ∃ A E, w.heap[g]? = some (gO A E) := by
  unfold RF; rw [if_neg (by decide), if_neg (by decide), if_neg (by decide), if_neg (by decide), if_neg (by decide), if_pos rfl]
theorem SX.quiet {i : Nat} {x : Value} {q : Nat} (hi : i < 11) (h : SX ws dn v q) : SX ws (updB dn i) (upd v i x) q := by
  unfold SX at h ⊢
  rw [updB_ne (show 11 ≠ i by omega), updB_ne (show 12 ≠ i by omega), upd_ne (show 11 ≠ i by omega), upd_ne (show 12 ≠ i by omega)]
  exact h
/-- a block that is laid now is none of the boxes -/
theorem RInv.far (h : RInv wr b d c dn v w) {k : Nat} (hk : w.heap.size ≤ k) : SX wr.heap.size dn v k := by
  have hs := h.1.size
  refine ⟨by omega, fun h11 e => ?_, fun h12 e => ?_⟩
  · obtain ⟨g, h1, _, _, _, _, _, _, _, h3⟩ := RF.b11.1 (h.2 11 (by decide) h11)
    have := lt_of_block h3
    rw [h1] at e
    have := ptr0_inj e
    omega
  · obtain ⟨g, h1, _, _, _, h3⟩ := RF.b12.1 (h.2 12 (by decide) h12)
    have := lt_of_block h3
    rw [h1] at e
    have := ptr0_inj e
    omega
theorem RInv.q_told {i : Nat} {x : Value} (h : RInv wr b d c dn v w) (hi : i < 7) (hx : x = c i) : RInv wr b d c (updB dn i) (upd v i x) w :=
  h.quiet (by omega) (Below.refl _ _) ((RF.told hi).2 (upd_eq.trans hx))
theorem RInv.q_call {U : VT} {A E : Int} {w' : World} (h : RInv wr b d c dn v w) (hb : Below w.heap.size w w') (hr : RvIs b d (fun k => w.heap.size ≤ k) U A E w') : RInv wr b d c (updB dn 7) (upd v 7 (.tuple #[agU U, agE A E])) w' :=
  h.quiet (by decide) hb ((RF.call (.inl rfl)).2 ⟨U, A, E, upd_eq, (rvIs_to hr).1.held (fun k hk _ => (h.far hk).quiet (i := 7) (by decide)) (Nat.le_refl _) (fun _ _ _ => rfl), (rvIs_to hr).2⟩)
theorem RInv.q_move {U : VT} {A E : Int} (h : RInv wr b d c dn v w) (hU : RvU d (SX wr.heap.size dn v) U w) (hA : RvA b d A E) : RInv wr b d c (updB dn 8) (upd v 8 (.tuple #[agU U, agE A E])) w :=
  h.quiet (by decide) (Below.refl _ _) ((RF.call (.inr rfl)).2 ⟨U, A, E, upd_eq, hU.held (fun k hk _ => hk.quiet (i := 8) (by decide)) (Nat.le_refl _) (fun _ _ _ => rfl), hA⟩)
theorem RInv.q_u9 {U : VT} (h : RInv wr b d c dn v w) (hU : RvU d (SX wr.heap.size dn v) U w) : RInv wr b d c (updB dn 9) (upd v 9 (agU U)) w :=
  h.quiet (by decide) (Below.refl _ _) (RF.u9.2 ⟨U, upd_eq, hU.held (fun k hk _ => hk.quiet (i := 9) (by decide)) (Nat.le_refl _) (fun _ _ _ => rfl)⟩)
theorem RInv.q_e10 {A E : Int} (h : RInv wr b d c dn v w) (hA : RvA b d A E) : RInv wr b d c (updB dn 10) (upd v 10 (agE A E)) w :=
  h.quiet (by decide) (Below.refl _ _) (RF.e10.2 ⟨A, E, upd_eq, hA⟩)
theorem RInv.q_b11 (h : RInv wr b d c dn v w) (hdn : dn 11 = false) (hcl : dn 13 = true → dn 11 = true) : RInv wr b d c (updB dn 11) (upd v 11 (ptr0 w.heap.size)) (w.alloc zeroG) :=
  h.box (.inl rfl) hdn (fun k _ hd e => by subst e; exact hcl hd) (RF.b11.2 ⟨_, upd_eq, h.1.size, _, _, _, _, _, _, alloc_at _ _⟩)
theorem RInv.q_b12 (h : RInv wr b d c dn v w) (hdn : dn 12 = false) (hcl : dn 14 = true → dn 12 = true) : RInv wr b d c (updB dn 12) (upd v 12 (ptr0 w.heap.size)) (w.alloc (gO 0 0)) :=
  h.box (.inr rfl) hdn (fun k _ hd e => by subst e; exact hcl hd) (RF.b12.2 ⟨_, upd_eq, h.1.size, _, _, alloc_at _ _⟩)
end
end Go.Proofs.YtmnemddagcfjgaaGreatDoor
namespace Go.Proofs.YtmnemddagcfjgaaGreatDoor
open Go.RowKit
set_option linter.unusedVariables false
set_option maxRecDepth 100000 in
set_option maxHeartbeats 4000000 in
theorem rvP (ao : Option Addr) (len cap : Nat) (t : Nat) (ht : t < len) (T : TypeV) (b : ByteArray) (a : Nat) (w : World) (HT : TypeAt w ao t T) (hk : 11 ≤ T.kind) (N A0 : Int) (P : List Int) (hpt : ∀ wx, Below w.heap.size w wx → Calls Tryz.prog 50 #[.slice ao len cap, .int .i64 (t : Nat), .string b, .agg #[.int .i64 (a : Nat), .int .i64 0]] wx (PtRes N P A0 0 wx)) (d : DR) (D : Nat → Nat → DR) (a0 : Nat) (hA : A0 = (a0 : Nat)) (ha0 : a0 ≤ b.size) (hd : d = nodeD T.kind N P.length (seqD D a0 P.length)) (hm : P.length ≤ 1000) (hnn : (Lit.int .u64 N).wf = true) (hkw : (Lit.int .i64 T.kind).wf = true) (hval : ∀ i, i < P.length → ∀ (ax : Nat), ax ≤ b.size → ∀ wx, Below w.heap.size w wx → Calls Tryz.prog 27 #[.slice ao len cap, .int .i64 (P.getD i 0), .string b, .agg #[.int .i64 (ax : Nat), .int .i64 0]] wx (RvRes b (D i ax) wx)) :
    Calls Tryz.prog 27 #[.slice ao len cap, .int .i64 t, .string b, .agg #[.int .i64 (a : Nat), .int .i64 0]] w (RvRes b d w) := by
  obtain ⟨i0, hi0, hz0, hz1, hz2⟩ := info_parts infoValue9
  have HPT := Lib.hid hpt
  have dk : decide (T.kind < 10) = false := decide_eq_false (by omega)
  have k10 : (T.kind == 10) = false := by simp; omega
  clear hpt hk
  have HVAL := Lib.hid hval
  have HDD := Lib.hid hd
  clear hval hd
  have HIT := Lib.hid (fun wx (hb : Below w.heap.size w wx) => HT.held hb)
  obtain ⟨tb, off, rfl, c0, c1, c2, c3, c4, c5, wf, hi⟩ := HT
  have HG := Lib.hid (WSt.start w (a : Nat) T.kind)
  have hb3 : Below w.heap.size w (((w.alloc (gO (a : Nat) 0)).alloc zeroG).alloc (gO 0 0)) := (((Below.refl w.heap.size w).alloc (Nat.le_refl _) _).alloc (by simp) _).alloc (by simp; omega) _
  have c0 := keep hb3 c0
  have c2 := keep HG.out.2.2.2.2 c2
  clear c1 c3 c4 c5 wf hi hb3
  go_enter Tryz.func27, Tryz.ntmps27
  go_upto_region 2 with (fail)
  generalize ((((w.alloc (gO (a : Nat) 0)).alloc zeroG).alloc (gO 0 0)).alloc (boxG T.kind 0 ⟨#[]⟩ none 0 0)) = W at *
  have x0 := cell_at (j := 0) HG.out.1 rfl; have x1 := cell_at (j := 1) HG.out.1 rfl; have f0 := free_at (j := 0) HG.out.1; have f1 := free_at (j := 1) HG.out.1; have r0 := cell_at (j := 0) HG.out.2.1 rfl; have r1 := cell_at (j := 1) HG.out.2.1 rfl; have r2 := cell_at (j := 2) HG.out.2.1 rfl; have r3 := cell_at (j := 3) HG.out.2.1 rfl; have s0 := free_at (j := 0) HG.out.2.1; have s1 := free_at (j := 1) HG.out.2.1; have s2 := free_at (j := 2) HG.out.2.1; have s3 := free_at (j := 3) HG.out.2.1; have q0 := cell_at (j := 0) HG.out.2.2.1 rfl; have q1 := cell_at (j := 1) HG.out.2.2.1 rfl; have t0 := free_at (j := 0) HG.out.2.2.1; have t1 := free_at (j := 1) HG.out.2.2.1; have z0 := cell_at (j := 0) HG.out.2.2.2.1 rfl; have z1 := cell_at (j := 1) HG.out.2.2.2.1 rfl; have z2 := cell_at (j := 2) HG.out.2.2.2.1 rfl; have z3 := cell_at (j := 3) HG.out.2.2.2.1 rfl; have v1 := free_at (j := 1) HG.out.2.2.2.1; have v2 := free_at (j := 2) HG.out.2.2.2.1
  go_upto_region 10 with (go_at_call 50; refine (HPT.out _ HG.out.2.2.2.2).mono ?_; rintro e w1 ⟨v, n1, A1, l, rfl, hown, hb1, hq⟩; obtain ⟨pa, pc, rfl, hpa⟩ := row_form hown; have HG1 := Lib.hid (HG.out.step hb1); clear x0 x1 f0 f1 r0 r1 r2 r3 s0 s1 s2 s3 q0 q1 t0 t1 z0 z1 z2 z3 v1 v2; have HO1 := Lib.hid hown; have HPA := Lib.hid hpa; have HQ1 := Lib.hid hq; clear hown hpa hb1 hq; have x0 := cell_at (j := 0) HG1.out.1 rfl; have x1 := cell_at (j := 1) HG1.out.1 rfl; have f0 := free_at (j := 0) HG1.out.1; have f1 := free_at (j := 1) HG1.out.1; have r0 := cell_at (j := 0) HG1.out.2.1 rfl; have r1 := cell_at (j := 1) HG1.out.2.1 rfl; have r2 := cell_at (j := 2) HG1.out.2.1 rfl; have r3 := cell_at (j := 3) HG1.out.2.1 rfl; have s0 := free_at (j := 0) HG1.out.2.1; have s1 := free_at (j := 1) HG1.out.2.1; have s2 := free_at (j := 2) HG1.out.2.1; have s3 := free_at (j := 3) HG1.out.2.1; have q0 := cell_at (j := 0) HG1.out.2.2.1 rfl; have q1 := cell_at (j := 1) HG1.out.2.2.1 rfl; have t0 := free_at (j := 0) HG1.out.2.2.1; have t1 := free_at (j := 1) HG1.out.2.2.1; have z0 := cell_at (j := 0) HG1.out.2.2.2.1 rfl; have z1 := cell_at (j := 1) HG1.out.2.2.2.1 rfl; have z2 := cell_at (j := 2) HG1.out.2.2.2.1 rfl; have z3 := cell_at (j := 3) HG1.out.2.2.2.1 rfl; have v1 := free_at (j := 1) HG1.out.2.2.2.1; have v2 := free_at (j := 2) HG1.out.2.2.2.1; have HS1 := Lib.hid ((HG1.out.set A1 0).num n1))
  clear x0 x1 f0 f1 r0 r1 r2 r3 s0 s1 s2 s3 q0 q1 t0 t1 z0 z1 z2 z3 v1 v2
  obtain ⟨rfl, rfl, rfl⟩ := HQ1.out trivial
  subst hA
  have hW := lt_of_block HG.out.2.2.2.1
  have HO3 := Lib.hid (Only.row (S := fun k => k = w.heap.size ∨ k = w.heap.size + 1 + 1 + 1) ((((Only.refl _ w1).setCell (p := ⟨w.heap.size, 0, none⟩) (.inl (.inl rfl)) (.int .i64 (a0 : Nat))).setCell (p := ⟨w.heap.size, 1, none⟩) (.inl (.inl rfl)) (.int .i64 0)).setCell (p := ⟨w.heap.size + 1 + 1 + 1, 1, none⟩) (.inl (.inr rfl)) (.int .u64 n1)) HO1.out (fun k hk e => by have := (HO1.out.lt k hk).1; omega))
  clear HO1 HQ1
  generalize ((w1.setCell ⟨w.heap.size, 0, none⟩ (.int .i64 (a0 : Nat))).setCell ⟨w.heap.size, 1, none⟩ (.int .i64 0)).setCell ⟨w.heap.size + 1 + 1 + 1, 1, none⟩ (.int .u64 n1) = W3 at *
  have hW3 := lt_of_block HS1.out.2.2.2.1
  have HR0 := Lib.hid (show RSt b D d a0 T.kind n1 w W3 0 (a0 : Nat) 0 (fun _ => .nil) none 0 W3 from ⟨HS1.out.1, HS1.out.2.2.2.1, World.ownsRow_nil _ _ _ _, Only.refl _ _, fun _ => ⟨a0, _, rfl, ha0, rfl, fun i hi => absurd hi (Nat.not_lt_zero i)⟩, fun h => absurd rfl h, hW3⟩)
  generalize hmd : l.length = m at *
  have HMD := Lib.hid hmd
  clear hmd
  go_wp2
  go_loopw [13] (fun i wr => ∃ (j : Nat) (A E : Int) (K : Nat → VT) (va : Option Addr) (vc : Nat), j ≤ m ∧ i = .int .i64 j ∧ Hid (RSt b D d a0 T.kind n1 w W3 j A E K va vc wr)) (fun i _ => m - (intOf i).toNat)
  case atStart => exact ⟨0, _, _, _, _, _, Nat.zero_le _, rfl, HR0⟩
  case round =>
    obtain ⟨j, A, E, K, va, vc, hj, rfl, HP⟩ := hrel
    have x0 := cell_at (j := 0) HP.out.cur rfl
    have x1 := cell_at (j := 1) HP.out.cur rfl
    by_cases hE : E = 0
    · subst hE
      by_cases hlt : j < m
      · obtain ⟨aj, KV, rfl, haj, hs, hk⟩ := HP.out.okc rfl
        have HS := Lib.hid hs
        have HKS := Lib.hid hk
        obtain ⟨gp, hgp⟩ := HPA.out (by omega)
        subst hgp
        have hpr := Only.row HP.out.only HO3.out (fun q hq e => by have := (HO3.out.lt q hq).1; omega)
        have p0 := cell_int hpr j hlt
        obtain ⟨pj, hpj⟩ : ∃ pj, l.getD j 0 = pj := ⟨_, rfl⟩
        have HC := Lib.hid (fun wx hb => HVAL.out j hlt aj haj wx hb)
        rw [hpj] at p0 HC
        clear hs hk hpr hpj
        go_upto_region 13 with (fail)
        have HB0 := Lib.hid (HS1.out.2.2.2.2.trans (Only.below HP.out.only (fun k hk => by omega) (by omega) : Below w.heap.size W3 wr))
        go_cut [14, 15] (fun p q wx => ∃ (g : Nat) (U : VT) (g' : Nat) (A' E' : Int), p = .pointer (some ⟨g, 0, none⟩) ∧ q = .pointer (some ⟨g', 0, none⟩) ∧ Hid (Below wr.heap.size wr wx) ∧ Hid (wx.heap[g]? = some (boxG U.kind U.num U.text U.ia U.len U.cap)) ∧ Hid (wx.heap[g']? = some (gO A' E')) ∧ wr.heap.size ≤ g ∧ wr.heap.size ≤ g' ∧ Hid (RvIs b (D j aj) (fun k => wr.heap.size ≤ k) U A' E' wx))
        case first =>
          refine wp_region_inv (by kernel_rfl) (fun v => ((Value.slice (some { block := tb, off := off }) len cap : Value) :: (Value.int IntKind.i64 ↑t : Value) :: (Value.string b : Value) :: (Value.agg #[Value.int IntKind.i64 ↑a, Value.int IntKind.i64 0] : Value) :: (undef : Value) :: (undef : Value) :: (undef : Value) :: (Value.pointer (some { block := w.heap.size, off := 0 }) : Value) :: (Value.pointer (some { block := w.heap.size + 1, off := 0 }) : Value) :: (Value.pointer (some { block := w.heap.size + 1 + 1, off := 0 }) : Value) :: (Value.pointer (some { block := w.heap.size + 1 + 1 + 1, off := 0 }) : Value) :: (Value.int IntKind.u64 n1 : Value) :: (Value.slice (some { block := gp, off := 0 }) m pc : Value) :: (Value.int IntKind.i64 ↑j : Value) :: v 11 :: v 12 :: (Value.slice (some { block := tb, off := off }) len cap : Value) :: (Value.int IntKind.i64 ↑t : Value) :: (Value.pointer (some { block := tb, off := off + t * 6 }) : Value) :: (Value.pointer (some { block := tb, off := off + t * 6 }) : Value) :: (Value.int IntKind.i64 T.kind : Value) :: (Value.agg #[Value.int IntKind.i64 T.kind, Value.int IntKind.u64 0, Value.string { data := #[] }, Value.slice none 0 0] : Value) :: (Value.pointer (some { block := w.heap.size + 1 + 1 + 1, off := 0 }) : Value) :: (Value.int IntKind.i64 T.kind : Value) :: (Value.bool false : Value) :: (undef : Value) :: (undef : Value) :: (undef : Value) :: (undef : Value) :: (undef : Value) :: (undef : Value) :: (undef : Value) :: (undef : Value) :: (undef : Value) :: (undef : Value) :: (undef : Value) :: (Value.pointer (some { block := w.heap.size + 1 + 1 + 1, off := 0 }) : Value) :: (Value.int IntKind.i64 T.kind : Value) :: (Value.bool false : Value) :: (undef : Value) :: (undef : Value) :: (undef : Value) :: (undef : Value) :: (undef : Value) :: (undef : Value) :: (undef : Value) :: (undef : Value) :: (undef : Value) :: (undef : Value) :: (undef : Value) :: (undef : Value) :: (undef : Value) :: (undef : Value) :: (Value.tuple #[Value.int IntKind.u64 n1, Value.slice (some { block := gp, off := 0 }) m pc, Value.agg #[Value.int IntKind.i64 ↑a0, Value.int IntKind.i64 0]] : Value) :: (Value.slice (some { block := tb, off := off }) len cap : Value) :: (Value.int IntKind.i64 ↑t : Value) :: (Value.string b : Value) :: (Value.agg #[Value.int IntKind.i64 ↑a, Value.int IntKind.i64 0] : Value) :: (Value.tuple #[Value.int IntKind.u64 n1, Value.slice (some { block := gp, off := 0 }) m pc, Value.agg #[Value.int IntKind.i64 ↑a0, Value.int IntKind.i64 0]] : Value) :: (Value.int IntKind.u64 n1 : Value) :: (Value.slice (some { block := gp, off := 0 }) m pc : Value) :: (Value.agg #[Value.int IntKind.i64 ↑a0, Value.int IntKind.i64 0] : Value) :: (Value.int IntKind.u64 n1 : Value) :: (Value.pointer (some { block := w.heap.size + 1 + 1 + 1, off := 1 }) : Value) :: (Value.int IntKind.i64 ↑j : Value) :: (Value.slice (some { block := gp, off := 0 }) m pc : Value) :: (Value.int IntKind.i64 ↑m : Value) :: (Value.bool true : Value) :: (Value.bool true : Value) :: (Value.pointer (some { block := w.heap.size, off := 1 }) : Value) :: (Value.int IntKind.i64 0 : Value) :: (Value.bool true : Value) :: (Value.bool true : Value) :: (u73 : Value) :: (u74 : Value) :: v 8 :: v 0 :: v 1 :: v 2 :: v 3 :: v 4 :: v 5 :: v 6 :: v 7 :: v 9 :: v 10 :: (u86 : Value) :: (u87 : Value) :: (u88 : Value) :: (u89 : Value) :: (u90 : Value) :: (u91 : Value) :: (u92 : Value) :: (undef : Value) :: (undef : Value) :: []).toArray) (fun j' => [(u76 : Value), (u77 : Value), (u78 : Value), (u79 : Value), (u80 : Value), (u81 : Value), (u82 : Value), (u83 : Value), (u75 : Value), (u84 : Value), (u85 : Value), (u14 : Value), (u15 : Value)].getD j' undef) (RInv wr b (D j aj) (fun j' => [(.slice (some ⟨tb, off, none⟩) len cap : Value), (.slice (some ⟨gp, 0, none⟩) m pc : Value), (.int .i64 (j : Nat) : Value), (.pointer (some ⟨gp, j, none⟩) : Value), (.int .i64 pj : Value), (.string b : Value), (.agg #[.int .i64 (aj : Nat), .int .i64 0] : Value)].getD j' undef)) (by kernel_rfl) ⟨(Below.refl _ _).drew, fun _ _ h => by cases h⟩ (fun i' hi' dn v w1 hI hdn hcl hd => ?_) (fun dn v w1 hall hI => ?_)
          · have hbw := below_step8' HB0.out hI.1
            have p0 := keep hI.1 p0
            have x0 := keep hI.1 x0
            have x1 := keep hI.1 x1
            have h15 : i' < 15 := hi'
            have hcs : i' = 0 ∨ i' = 1 ∨ i' = 2 ∨ i' = 3 ∨ i' = 4 ∨ i' = 5 ∨ i' = 6 ∨ i' = 7 ∨ i' = 8 ∨ i' = 9 ∨ i' = 10 ∨ i' = 11 ∨ i' = 12 ∨ i' = 13 ∨ i' = 14 := by omega
            clear hi' h15
            rcases hcs with rfl | rfl | rfl | rfl | rfl | rfl | rfl | rfl | rfl | rfl | rfl | rfl | rfl | rfl | rfl
            · refine wpOp_step (o := _) rfl (fun K' hK => ?_)
              go_simp
              exact hK _ _ ⟨(.slice (some ⟨tb, off, none⟩) len cap : Value), rfl, hI.q_told (by decide) rfl⟩
            · refine wpOp_step (o := _) rfl (fun K' hK => ?_)
              go_simp
              exact hK _ _ ⟨(.slice (some ⟨gp, 0, none⟩) m pc : Value), rfl, hI.q_told (by decide) rfl⟩
            · refine wpOp_step (o := _) rfl (fun K' hK => ?_)
              go_simp
              exact hK _ _ ⟨(.int .i64 (j : Nat) : Value), rfl, hI.q_told (by decide) rfl⟩
            · have e1 : v 1 = (.slice (some ⟨gp, 0, none⟩) m pc : Value) := (RF.told (by decide)).1 (hI.2 1 (by decide) (hd 1 (List.contains_iff_mem.1 (by kernel_rfl))))
              have e2 : v 2 = (.int .i64 (j : Nat) : Value) := (RF.told (by decide)).1 (hI.2 2 (by decide) (hd 2 (List.contains_iff_mem.1 (by kernel_rfl))))
              refine wpOp_step (o := _) rfl (fun K' hK => ?_)
              go_simp
              exact hK _ _ ⟨(.pointer (some ⟨gp, j, none⟩) : Value), fr_eq9 (by simp [upd, e1, e2]), hI.q_told (by decide) rfl⟩
            · have e3 : v 3 = (.pointer (some ⟨gp, j, none⟩) : Value) := (RF.told (by decide)).1 (hI.2 3 (by decide) (hd 3 (List.contains_iff_mem.1 (by kernel_rfl))))
              refine wpOp_step (o := _) rfl (fun K' hK => ?_)
              go_simp
              exact hK _ _ ⟨(.int .i64 pj : Value), fr_eq9 (by simp [upd, e3]), hI.q_told (by decide) rfl⟩
            · refine wpOp_step (o := _) rfl (fun K' hK => ?_)
              go_simp
              exact hK _ _ ⟨(.string b : Value), rfl, hI.q_told (by decide) rfl⟩
            · refine wpOp_step (o := _) rfl (fun K' hK => ?_)
              go_simp
              exact hK _ _ ⟨(.agg #[.int .i64 (aj : Nat), .int .i64 0] : Value), rfl, hI.q_told (by decide) rfl⟩
            · have e0 : v 0 = (.slice (some ⟨tb, off, none⟩) len cap : Value) := (RF.told (by decide)).1 (hI.2 0 (by decide) (hd 0 (List.contains_iff_mem.1 (by kernel_rfl))))
              have e4 : v 4 = (.int .i64 pj : Value) := (RF.told (by decide)).1 (hI.2 4 (by decide) (hd 4 (List.contains_iff_mem.1 (by kernel_rfl))))
              have e5 : v 5 = (.string b : Value) := (RF.told (by decide)).1 (hI.2 5 (by decide) (hd 5 (List.contains_iff_mem.1 (by kernel_rfl))))
              have e6 : v 6 = (.agg #[.int .i64 (aj : Nat), .int .i64 0] : Value) := (RF.told (by decide)).1 (hI.2 6 (by decide) (hd 6 (List.contains_iff_mem.1 (by kernel_rfl))))
              refine wpOp_step (o := _) rfl (fun K' hK => ?_)
              go_simp
              refine (HC.out w1 hbw).mono ?_
              rintro e w3 ⟨U, A2, E2, rfl, hb3, hr3⟩
              exact hK _ _ ⟨_, fr_eq9 (by simp [upd, e0, e4, e5, e6]), hI.q_call hb3 hr3⟩
            · obtain ⟨U, A2, E2, e7, hU, hA⟩ := (RF.call (.inl rfl)).1 (hI.2 7 (by decide) (hd 7 (List.contains_iff_mem.1 (by kernel_rfl))))
              refine wpOp_step (o := _) rfl (fun K' hK => ?_)
              go_simp
              exact hK _ _ ⟨_, fr_eq9 (by simp [upd, e7]), hI.q_move hU hA⟩
            · obtain ⟨U, A2, E2, e8, hU, hA⟩ := (RF.call (.inr rfl)).1 (hI.2 8 (by decide) (hd 8 (List.contains_iff_mem.1 (by kernel_rfl))))
              refine wpOp_step (o := _) rfl (fun K' hK => ?_)
              go_simp
              exact hK _ _ ⟨_, fr_eq9 (by simp [upd, e8]), hI.q_u9 hU⟩
            · obtain ⟨U, A2, E2, e8, hU, hA⟩ := (RF.call (.inr rfl)).1 (hI.2 8 (by decide) (hd 8 (List.contains_iff_mem.1 (by kernel_rfl))))
              refine wpOp_step (o := _) rfl (fun K' hK => ?_)
              go_simp
              exact hK _ _ ⟨_, fr_eq9 (by simp [upd, e8]), hI.q_e10 hA⟩
            · have hq := hI.q_b11 hdn (fun h => hcl 13 (by decide) h 11 (List.contains_iff_mem.1 (by kernel_rfl)))
              refine wpOp_step (o := _) rfl (fun K' hK => ?_)
              go_simp
              exact hK _ _ ⟨_, rfl, hq⟩
            · have hq := hI.q_b12 hdn (fun h => hcl 14 (by decide) h 12 (List.contains_iff_mem.1 (by kernel_rfl)))
              refine wpOp_step (o := _) rfl (fun K' hK => ?_)
              go_simp
              exact hK _ _ ⟨_, rfl, hq⟩
            · obtain ⟨g, e11, hg, kd, nn, tx, va', q', vc', hw⟩ := RF.b11.1 (hI.2 11 (by decide) (hd 11 (List.contains_iff_mem.1 (by kernel_rfl))))
              obtain ⟨U, e9, hU⟩ := RF.u9.1 (hI.2 9 (by decide) (hd 9 (List.contains_iff_mem.1 (by kernel_rfl))))
              have d14 : dn 14 = false := by cases h : dn 14 with | false => rfl | true => exact absurd (hcl 14 (by decide) h 13 (List.contains_iff_mem.1 (by kernel_rfl))) (by rw [hdn]; decide)
              have hq := hI.sto13 undef (hd 11 (List.contains_iff_mem.1 (by kernel_rfl))) d14 e11 hg hw hU
              have r0 := cell_at (j := 0) hw rfl; have r1 := cell_at (j := 1) hw rfl; have r2 := cell_at (j := 2) hw rfl; have r3 := cell_at (j := 3) hw rfl; have s0 := free_at (j := 0) hw; have s1 := free_at (j := 1) hw; have s2 := free_at (j := 2) hw; have s3 := free_at (j := 3) hw
              clear hw
              refine wpOp_step (o := _) rfl (fun K' hK => ?_)
              go_simp
              exact hK _ _ ⟨_, fr_eq9 (by simp [upd, e9, e11]), hq⟩
            · obtain ⟨g, e12, hg, A0, E0, hw⟩ := RF.b12.1 (hI.2 12 (by decide) (hd 12 (List.contains_iff_mem.1 (by kernel_rfl))))
              obtain ⟨A2, E2, e10, hA⟩ := RF.e10.1 (hI.2 10 (by decide) (hd 10 (List.contains_iff_mem.1 (by kernel_rfl))))
              have hq := hI.sto14 undef (hd 12 (List.contains_iff_mem.1 (by kernel_rfl))) e12 hg hw hA
              have r0 := cell_at (j := 0) hw rfl; have r1 := cell_at (j := 1) hw rfl; have s0 := free_at (j := 0) hw; have s1 := free_at (j := 1) hw
              clear hw
              refine wpOp_step (o := _) rfl (fun K' hK => ?_)
              go_simp
              exact hK _ _ ⟨_, fr_eq9 (by simp [upd, e10, e12]), hq⟩
          · obtain ⟨g, U, q, A2, E2, e11, e12, hb1, hgU, hqA, hg1, hq1, hr⟩ := hI.all (fun j hj => hall j hj)
            refine wpAny_of_held (S := fun _ => True) _ _ _ _ ?_
            simp only [e11, e12]
            refine wpAnyH_done (by kernel_rfl) ?_ _
            go_wp2_with fail
            go_meet
            exact ⟨g, U, q, A2, E2, rfl, rfl, Lib.hid hb1, Lib.hid hgU, Lib.hid hqA, hg1, hq1, Lib.hid hr⟩
        case rest =>
          obtain ⟨g, U, g', A', E', rfl, rfl, HBX, HGU, HGA, hg1, hg2, HRV⟩ := hcut
          have HCU := Lib.hid (box_keep HP.out.cur HBX.out)
          have HBO := Lib.hid (box_keep HP.out.box HBX.out)
          have hsx := HBX.out.size
          have hso := HP.out.only.size
          have HRX := Lib.hid (row_keep HP.out.row HBX.out)
          clear x0 x1 p0
          have x0 := cell_at (j := 0) HCU.out rfl
          have x1 := cell_at (j := 1) HCU.out rfl
          have f0 := free_at (j := 0) HCU.out
          have f1 := free_at (j := 1) HCU.out
          have u0 := cell_at (j := 0) HGA.out rfl
          have u1 := cell_at (j := 1) HGA.out rfl
          go_upto_region 15 with (fail)
          clear x0 x1 f0 f1 u0 u1
          have hgc : g ≠ w.heap.size := by omega
          have hbc : w.heap.size + 1 + 1 + 1 ≠ w.heap.size := by omega
          have HGU5 := Lib.hid (put_at (p := ⟨w.heap.size, 1, none⟩) (u := .int .i64 E') (put_at (p := ⟨w.heap.size, 0, none⟩) (u := .int .i64 A') HGU.out hgc) hgc)
          have HBO5 := Lib.hid (put_at (p := ⟨w.heap.size, 1, none⟩) (u := .int .i64 E') (put_at (p := ⟨w.heap.size, 0, none⟩) (u := .int .i64 A') HBO.out hbc) hbc)
          have HRX5 := Lib.hid (Only.row (S := fun k => k = w.heap.size) (((Only.refl (fun k => k = w.heap.size) wc).setCell (S := fun k => k = w.heap.size) (p := ⟨w.heap.size, 0, none⟩) (.inl rfl) (.int .i64 A')).setCell (S := fun k => k = w.heap.size) (p := ⟨w.heap.size, 1, none⟩) (.inl rfl) (.int .i64 E')) HRX.out (fun k hk e => by have := (HRX.out.lt k hk).1; omega))
          have hs5 : ((wc.setCell ⟨w.heap.size, 0, none⟩ (.int .i64 A')).setCell ⟨w.heap.size, 1, none⟩ (.int .i64 E')).heap.size = wc.heap.size := by simp
          generalize hW5 : (wc.setCell ⟨w.heap.size, 0, none⟩ (.int .i64 A')).setCell ⟨w.heap.size, 1, none⟩ (.int .i64 E') = W5 at *
          have HW5 := Lib.hid hW5
          have HSZ5 := Lib.hid hs5
          have h35 : W3.heap.size ≤ W5.heap.size := by omega
          clear hW5 hs5 hgc hbc
          have HRW := Lib.hid (show (W5.alloc (.cells #[.int .i64 U.kind, .int .u64 U.num, .string U.text, .slice U.ia U.len U.cap] 28)).ownsRow W3.heap.size 28 4 (.slice va j vc) j (rowL9 K j) from row_keep HRX5.out ((Below.refl _ _).alloc (Nat.le_refl _) _))
          have hone : ∀ u ∈ ([.int .i64 U.kind, .int .u64 U.num, .string U.text, .slice U.ia U.len U.cap] : List Value), u.oneCell' = true := (by intro u hu; simp only [List.mem_cons, List.not_mem_nil, or_false] at hu; rcases hu with rfl | rfl | rfl | rfl <;> rfl)
          have y3 := cell_at (j := 3) HBO5.out rfl
          have u0 := cell_at (j := 0) HGU5.out rfl
          have u1 := cell_at (j := 1) HGU5.out rfl
          have u2 := cell_at (j := 2) HGU5.out rfl
          have u3 := cell_at (j := 3) HGU5.out rfl
          go_wp2_with (at_builtin; refine wpList_append_lies _ (by rfl) (.tmp 88) (.tmp 90) 26 (by rfl) W3.heap.size 28 i0 (.agg #[.int .i64 0, .int .u64 0, .string ⟨#[]⟩, .slice none 0 0]) 4 56 Tryz.underlying26 hi0 hz0 hz1 hz2 (by rfl) (by decide) (.slice va j vc) j (rowL9 K j) (by rfl) HRW.out ⟨W5.heap.size, 0, none⟩ 1 1 [.int .i64 U.kind, .int .u64 U.num, .string U.text, .slice U.ia U.len U.cap] (by rfl) (by rfl) (World.news_of_block (alloc_at W5 _)) hone (by decide) (by unfold maxLen; omega) (by omega) (by simp; omega) (W5.heap.size + 1) (by simp) ?_; intro g4 c4 w4 hown4 hgrow hat hlt2; have HG4 := Lib.hid hgrow; have HW4 := Lib.hid hown4; have HAT := Lib.hid hat; have HX4 := Lib.hid ((hgrow.block _ (by have := lt_of_block HBO5.out; simp; omega) (fun e => by have := (HRW.out.lt _ e.symm).1; omega)).trans (alloc_old HBO5.out)); clear hgrow hown4 hat y3 u0 u1 u2 u3; have y3 := cell_at (j := 3) HX4.out rfl; have f3 := free_at (j := 3) HX4.out)
          have HN4 := Lib.hid (HP.out.next HS.out HKS.out (fun x hx => by rw [HDD.out, seq_up hx (show j + 1 ≤ m by omega)]; rfl) HBX.out HRV.out (w2 := W5.alloc (.cells #[.int .i64 U.kind, .int .u64 U.num, .string U.text, .slice U.ia U.len U.cap] 28)) (by rw [HW5.out]; exact (Below.refl _ _).alloc (by rw [HSZ5.out]; exact Nat.le_refl _) _) HG4.out HW4.out (by simpa using HAT.out))
          go_wp2
          go_roundw
          case rel => exact ⟨j + 1, _, _, _, _, _, by omega, by go_num, HN4⟩
          case measure => simp [intOf]; omega
      · obtain rfl : j = m := by omega
        go_upto_region 16 with (fail)
        have HB9 := Lib.hid (HS1.out.2.2.2.2.trans (Only.below HP.out.only (fun k hk => by omega) (by omega) : Below w.heap.size W3 wr))
        have H8 := Lib.hid (HP.out.only.same HS1.out.2.1 (by omega))
        have H9 := Lib.hid (HP.out.only.same HS1.out.2.2.1 (by omega))
        have r0 := cell_at (j := 0) H8.out rfl; have r1 := cell_at (j := 1) H8.out rfl; have r2 := cell_at (j := 2) H8.out rfl; have r3 := cell_at (j := 3) H8.out rfl; have s0 := free_at (j := 0) H8.out; have s1 := free_at (j := 1) H8.out; have s2 := free_at (j := 2) H8.out; have s3 := free_at (j := 3) H8.out
        have q0 := cell_at (j := 0) H9.out rfl; have q1 := cell_at (j := 1) H9.out rfl; have t0 := free_at (j := 0) H9.out; have t1 := free_at (j := 1) H9.out
        have z0 := cell_at (j := 0) HP.out.box rfl; have z1 := cell_at (j := 1) HP.out.box rfl; have z2 := cell_at (j := 2) HP.out.box rfl; have z3 := cell_at (j := 3) HP.out.box rfl
        go_region
        all_goals go_wp2
        all_goals
          have hout := out_at H8.out H9.out (T.kind) (n1) (⟨#[]⟩) (va) (j) (vc) (A) (0)
          have d0 := cell_at (j := 0) hout.1 rfl
          have d1 := cell_at (j := 1) hout.1 rfl
          have d2 := cell_at (j := 2) hout.1 rfl
          have d3 := cell_at (j := 3) hout.1 rfl
          have d4 := cell_at (j := 0) hout.2.1 rfl
          have d5 := cell_at (j := 1) hout.2.1 rfl
          have hbw : Below w.heap.size w (((((((wr.setCell ⟨w.heap.size + 1, 0, none⟩ (.int .i64 T.kind)).setCell ⟨w.heap.size + 1, 1, none⟩ (.int .u64 n1)).setCell ⟨w.heap.size + 1, 2, none⟩ (.string ⟨#[]⟩)).setCell ⟨w.heap.size + 1, 3, none⟩ (.slice va j vc)).setCell ⟨w.heap.size + 1 + 1, 0, none⟩ (.int .i64 A)).setCell ⟨w.heap.size + 1 + 1, 1, none⟩ (.int .i64 0)).drew) := Only.below_step HB9.out hout.2.2 (fun k hk => by omega) (Nat.le_refl _)
          refine bodyPost_ret (v := .tuple #[.agg #[.int .i64 T.kind, .int .u64 n1, .string ⟨#[]⟩, .slice va j vc], .agg #[.int .i64 A, .int .i64 0]]) ?_ rfl ⟨.node T.kind n1 ⟨#[]⟩ va j vc K, A, 0, rfl, hbw, HP.out.made (fun _ => HDD.out) hkw (fun _ => hnn) (by omega) hout.2.2⟩
          simp [results, Tryz.results27, asAddr, go_sem, d0, d1, d2, d3, d4, d5]
    · have hE0 : (E == 0) = false := by simpa using hE
      by_cases hlt : j < m
      · go_upto_region 16 with (fail)
        have HB9 := Lib.hid (HS1.out.2.2.2.2.trans (Only.below HP.out.only (fun k hk => by omega) (by omega) : Below w.heap.size W3 wr))
        have H8 := Lib.hid (HP.out.only.same HS1.out.2.1 (by omega))
        have H9 := Lib.hid (HP.out.only.same HS1.out.2.2.1 (by omega))
        have r0 := cell_at (j := 0) H8.out rfl; have r1 := cell_at (j := 1) H8.out rfl; have r2 := cell_at (j := 2) H8.out rfl; have r3 := cell_at (j := 3) H8.out rfl; have s0 := free_at (j := 0) H8.out; have s1 := free_at (j := 1) H8.out; have s2 := free_at (j := 2) H8.out; have s3 := free_at (j := 3) H8.out
        have q0 := cell_at (j := 0) H9.out rfl; have q1 := cell_at (j := 1) H9.out rfl; have t0 := free_at (j := 0) H9.out; have t1 := free_at (j := 1) H9.out
        have z0 := cell_at (j := 0) HP.out.box rfl; have z1 := cell_at (j := 1) HP.out.box rfl; have z2 := cell_at (j := 2) HP.out.box rfl; have z3 := cell_at (j := 3) HP.out.box rfl
        go_region
        all_goals go_wp2
        all_goals
          have hout := out_at H8.out H9.out (T.kind) (n1) (⟨#[]⟩) (va) (j) (vc) (A) (E)
          have d0 := cell_at (j := 0) hout.1 rfl
          have d1 := cell_at (j := 1) hout.1 rfl
          have d2 := cell_at (j := 2) hout.1 rfl
          have d3 := cell_at (j := 3) hout.1 rfl
          have d4 := cell_at (j := 0) hout.2.1 rfl
          have d5 := cell_at (j := 1) hout.2.1 rfl
          have hbw : Below w.heap.size w (((((((wr.setCell ⟨w.heap.size + 1, 0, none⟩ (.int .i64 T.kind)).setCell ⟨w.heap.size + 1, 1, none⟩ (.int .u64 n1)).setCell ⟨w.heap.size + 1, 2, none⟩ (.string ⟨#[]⟩)).setCell ⟨w.heap.size + 1, 3, none⟩ (.slice va j vc)).setCell ⟨w.heap.size + 1 + 1, 0, none⟩ (.int .i64 A)).setCell ⟨w.heap.size + 1 + 1, 1, none⟩ (.int .i64 E)).drew) := Only.below_step HB9.out hout.2.2 (fun k hk => by omega) (Nat.le_refl _)
          refine bodyPost_ret (v := .tuple #[.agg #[.int .i64 T.kind, .int .u64 n1, .string ⟨#[]⟩, .slice va j vc], .agg #[.int .i64 A, .int .i64 E]]) ?_ rfl ⟨.node T.kind n1 ⟨#[]⟩ va j vc K, A, E, rfl, hbw, HP.out.made (fun h => absurd h hE) hkw (fun _ => hnn) (by omega) hout.2.2⟩
          simp [results, Tryz.results27, asAddr, go_sem, d0, d1, d2, d3, d4, d5]
      · obtain rfl : j = m := by omega
        go_upto_region 16 with (fail)
        have HB9 := Lib.hid (HS1.out.2.2.2.2.trans (Only.below HP.out.only (fun k hk => by omega) (by omega) : Below w.heap.size W3 wr))
        have H8 := Lib.hid (HP.out.only.same HS1.out.2.1 (by omega))
        have H9 := Lib.hid (HP.out.only.same HS1.out.2.2.1 (by omega))
        have r0 := cell_at (j := 0) H8.out rfl; have r1 := cell_at (j := 1) H8.out rfl; have r2 := cell_at (j := 2) H8.out rfl; have r3 := cell_at (j := 3) H8.out rfl; have s0 := free_at (j := 0) H8.out; have s1 := free_at (j := 1) H8.out; have s2 := free_at (j := 2) H8.out; have s3 := free_at (j := 3) H8.out
        have q0 := cell_at (j := 0) H9.out rfl; have q1 := cell_at (j := 1) H9.out rfl; have t0 := free_at (j := 0) H9.out; have t1 := free_at (j := 1) H9.out
        have z0 := cell_at (j := 0) HP.out.box rfl; have z1 := cell_at (j := 1) HP.out.box rfl; have z2 := cell_at (j := 2) HP.out.box rfl; have z3 := cell_at (j := 3) HP.out.box rfl
        go_region
        all_goals go_wp2
        all_goals
          have hout := out_at H8.out H9.out (T.kind) (n1) (⟨#[]⟩) (va) (j) (vc) (A) (E)
          have d0 := cell_at (j := 0) hout.1 rfl
          have d1 := cell_at (j := 1) hout.1 rfl
          have d2 := cell_at (j := 2) hout.1 rfl
          have d3 := cell_at (j := 3) hout.1 rfl
          have d4 := cell_at (j := 0) hout.2.1 rfl
          have d5 := cell_at (j := 1) hout.2.1 rfl
          have hbw : Below w.heap.size w (((((((wr.setCell ⟨w.heap.size + 1, 0, none⟩ (.int .i64 T.kind)).setCell ⟨w.heap.size + 1, 1, none⟩ (.int .u64 n1)).setCell ⟨w.heap.size + 1, 2, none⟩ (.string ⟨#[]⟩)).setCell ⟨w.heap.size + 1, 3, none⟩ (.slice va j vc)).setCell ⟨w.heap.size + 1 + 1, 0, none⟩ (.int .i64 A)).setCell ⟨w.heap.size + 1 + 1, 1, none⟩ (.int .i64 E)).drew) := Only.below_step HB9.out hout.2.2 (fun k hk => by omega) (Nat.le_refl _)
          refine bodyPost_ret (v := .tuple #[.agg #[.int .i64 T.kind, .int .u64 n1, .string ⟨#[]⟩, .slice va j vc], .agg #[.int .i64 A, .int .i64 E]]) ?_ rfl ⟨.node T.kind n1 ⟨#[]⟩ va j vc K, A, E, rfl, hbw, HP.out.made (fun h => absurd h hE) hkw (fun _ => hnn) (by omega) hout.2.2⟩
          simp [results, Tryz.results27, asAddr, go_sem, d0, d1, d2, d3, d4, d5]
set_option maxRecDepth 100000 in
set_option maxHeartbeats 4000000 in
theorem rvQ (ao : Option Addr) (len cap : Nat) (t : Nat) (ht : t < len) (T : TypeV) (b : ByteArray) (a : Nat) (w : World) (HT : TypeAt w ao t T) (hk : 11 ≤ T.kind) (N A0 E0 : Int) (P : List Int) (hpt : ∀ wx, Below w.heap.size w wx → Calls Tryz.prog 50 #[.slice ao len cap, .int .i64 (t : Nat), .string b, .agg #[.int .i64 (a : Nat), .int .i64 0]] wx (PtRes N P A0 E0 wx)) (d : DR) (hne : E0 ≠ 0) (hd : d = .bad E0) :
    Calls Tryz.prog 27 #[.slice ao len cap, .int .i64 t, .string b, .agg #[.int .i64 (a : Nat), .int .i64 0]] w (RvRes b d w) := by
  have HPT := Lib.hid hpt
  have dk : decide (T.kind < 10) = false := decide_eq_false (by omega)
  have k10 : (T.kind == 10) = false := by simp; omega
  clear hpt hk
  have HBQ := Lib.hid (fun (U : VT) (A : Int) w' => show RvIs b d (fun k => w.heap.size ≤ k) U A E0 w' from by rw [hd]; exact ⟨rfl, hne⟩)
  have hE0 : (E0 == 0) = false := by simpa using hne
  clear hd hne
  have HIT := Lib.hid (fun wx (hb : Below w.heap.size w wx) => HT.held hb)
  obtain ⟨tb, off, rfl, c0, c1, c2, c3, c4, c5, wf, hi⟩ := HT
  have HG := Lib.hid (WSt.start w (a : Nat) T.kind)
  have hb3 : Below w.heap.size w (((w.alloc (gO (a : Nat) 0)).alloc zeroG).alloc (gO 0 0)) := (((Below.refl w.heap.size w).alloc (Nat.le_refl _) _).alloc (by simp) _).alloc (by simp; omega) _
  have c0 := keep hb3 c0
  have c2 := keep HG.out.2.2.2.2 c2
  clear c1 c3 c4 c5 wf hi hb3
  go_enter Tryz.func27, Tryz.ntmps27
  go_upto_region 2 with (fail)
  generalize ((((w.alloc (gO (a : Nat) 0)).alloc zeroG).alloc (gO 0 0)).alloc (boxG T.kind 0 ⟨#[]⟩ none 0 0)) = W at *
  have x0 := cell_at (j := 0) HG.out.1 rfl; have x1 := cell_at (j := 1) HG.out.1 rfl; have f0 := free_at (j := 0) HG.out.1; have f1 := free_at (j := 1) HG.out.1; have r0 := cell_at (j := 0) HG.out.2.1 rfl; have r1 := cell_at (j := 1) HG.out.2.1 rfl; have r2 := cell_at (j := 2) HG.out.2.1 rfl; have r3 := cell_at (j := 3) HG.out.2.1 rfl; have s0 := free_at (j := 0) HG.out.2.1; have s1 := free_at (j := 1) HG.out.2.1; have s2 := free_at (j := 2) HG.out.2.1; have s3 := free_at (j := 3) HG.out.2.1; have q0 := cell_at (j := 0) HG.out.2.2.1 rfl; have q1 := cell_at (j := 1) HG.out.2.2.1 rfl; have t0 := free_at (j := 0) HG.out.2.2.1; have t1 := free_at (j := 1) HG.out.2.2.1; have z0 := cell_at (j := 0) HG.out.2.2.2.1 rfl; have z1 := cell_at (j := 1) HG.out.2.2.2.1 rfl; have z2 := cell_at (j := 2) HG.out.2.2.2.1 rfl; have z3 := cell_at (j := 3) HG.out.2.2.2.1 rfl; have v1 := free_at (j := 1) HG.out.2.2.2.1; have v2 := free_at (j := 2) HG.out.2.2.2.1
  go_upto_region 10 with (go_at_call 50; refine (HPT.out _ HG.out.2.2.2.2).mono ?_; rintro e w1 ⟨v, n1, A1, l, rfl, hown, hb1, hq⟩; obtain ⟨pa, pc, rfl, hpa⟩ := row_form hown; have HG1 := Lib.hid (HG.out.step hb1); clear x0 x1 f0 f1 r0 r1 r2 r3 s0 s1 s2 s3 q0 q1 t0 t1 z0 z1 z2 z3 v1 v2; have HO1 := Lib.hid hown; have HPA := Lib.hid hpa; have HQ1 := Lib.hid hq; clear hown hpa hb1 hq; have x0 := cell_at (j := 0) HG1.out.1 rfl; have x1 := cell_at (j := 1) HG1.out.1 rfl; have f0 := free_at (j := 0) HG1.out.1; have f1 := free_at (j := 1) HG1.out.1; have r0 := cell_at (j := 0) HG1.out.2.1 rfl; have r1 := cell_at (j := 1) HG1.out.2.1 rfl; have r2 := cell_at (j := 2) HG1.out.2.1 rfl; have r3 := cell_at (j := 3) HG1.out.2.1 rfl; have s0 := free_at (j := 0) HG1.out.2.1; have s1 := free_at (j := 1) HG1.out.2.1; have s2 := free_at (j := 2) HG1.out.2.1; have s3 := free_at (j := 3) HG1.out.2.1; have q0 := cell_at (j := 0) HG1.out.2.2.1 rfl; have q1 := cell_at (j := 1) HG1.out.2.2.1 rfl; have t0 := free_at (j := 0) HG1.out.2.2.1; have t1 := free_at (j := 1) HG1.out.2.2.1; have z0 := cell_at (j := 0) HG1.out.2.2.2.1 rfl; have z1 := cell_at (j := 1) HG1.out.2.2.2.1 rfl; have z2 := cell_at (j := 2) HG1.out.2.2.2.1 rfl; have z3 := cell_at (j := 3) HG1.out.2.2.2.1 rfl; have v1 := free_at (j := 1) HG1.out.2.2.2.1; have v2 := free_at (j := 2) HG1.out.2.2.2.1; have HS1 := Lib.hid ((HG1.out.set A1 E0).num n1))
  clear x0 x1 f0 f1 r0 r1 r2 r3 s0 s1 s2 s3 q0 q1 t0 t1 z0 z1 z2 z3 v1 v2
  clear HPA HO1 HQ1
  generalize ((w1.setCell ⟨w.heap.size, 0, none⟩ (.int .i64 A1)).setCell ⟨w.heap.size, 1, none⟩ (.int .i64 E0)).setCell ⟨w.heap.size + 1 + 1 + 1, 1, none⟩ (.int .u64 n1) = W3 at *
  generalize l.length = m at *
  have x1 := cell_at (j := 1) HS1.out.1 rfl
  go_wp2
  go_loopw [13] (fun i wr => i = .int .i64 (0 : Int) ∧ W3 = wr) (fun _ _ => 0)
  case atStart => exact ⟨rfl, rfl⟩
  case round =>
    obtain ⟨rfl, rfl⟩ := hrel
    clear x1
    have x0 := cell_at (j := 0) HS1.out.1 rfl; have x1 := cell_at (j := 1) HS1.out.1 rfl; have f0 := free_at (j := 0) HS1.out.1; have f1 := free_at (j := 1) HS1.out.1; have r0 := cell_at (j := 0) HS1.out.2.1 rfl; have r1 := cell_at (j := 1) HS1.out.2.1 rfl; have r2 := cell_at (j := 2) HS1.out.2.1 rfl; have r3 := cell_at (j := 3) HS1.out.2.1 rfl; have s0 := free_at (j := 0) HS1.out.2.1; have s1 := free_at (j := 1) HS1.out.2.1; have s2 := free_at (j := 2) HS1.out.2.1; have s3 := free_at (j := 3) HS1.out.2.1; have q0 := cell_at (j := 0) HS1.out.2.2.1 rfl; have q1 := cell_at (j := 1) HS1.out.2.2.1 rfl; have t0 := free_at (j := 0) HS1.out.2.2.1; have t1 := free_at (j := 1) HS1.out.2.2.1; have z0 := cell_at (j := 0) HS1.out.2.2.2.1 rfl; have z1 := cell_at (j := 1) HS1.out.2.2.2.1 rfl; have z2 := cell_at (j := 2) HS1.out.2.2.2.1 rfl; have z3 := cell_at (j := 3) HS1.out.2.2.2.1 rfl; have v1 := free_at (j := 1) HS1.out.2.2.2.1; have v2 := free_at (j := 2) HS1.out.2.2.2.1
    by_cases hlt : 0 < m
    · go_upto_region 16 with (fail)
      go_region
      all_goals go_wp2
      all_goals
        have hout := out_at HS1.out.2.1 HS1.out.2.2.1 (T.kind) (n1) (⟨#[]⟩) (none) (0) (0) (A1) (E0)
        have d0 := cell_at (j := 0) hout.1 rfl
        have d1 := cell_at (j := 1) hout.1 rfl
        have d2 := cell_at (j := 2) hout.1 rfl
        have d3 := cell_at (j := 3) hout.1 rfl
        have d4 := cell_at (j := 0) hout.2.1 rfl
        have d5 := cell_at (j := 1) hout.2.1 rfl
        have hbw : Below w.heap.size w (((((((W3.setCell ⟨w.heap.size + 1, 0, none⟩ (.int .i64 T.kind)).setCell ⟨w.heap.size + 1, 1, none⟩ (.int .u64 n1)).setCell ⟨w.heap.size + 1, 2, none⟩ (.string ⟨#[]⟩)).setCell ⟨w.heap.size + 1, 3, none⟩ (.slice none 0 0)).setCell ⟨w.heap.size + 1 + 1, 0, none⟩ (.int .i64 A1)).setCell ⟨w.heap.size + 1 + 1, 1, none⟩ (.int .i64 E0)).drew) := Only.below_step HS1.out.2.2.2.2 hout.2.2 (fun k hk => by omega) (Nat.le_refl _)
        refine bodyPost_ret (v := .tuple #[.agg #[.int .i64 T.kind, .int .u64 n1, .string ⟨#[]⟩, .slice none 0 0], .agg #[.int .i64 A1, .int .i64 E0]]) ?_ rfl ⟨.node T.kind n1 ⟨#[]⟩ none 0 0 (fun _ => .nil), A1, E0, rfl, hbw, HBQ.out _ _ _⟩
        simp [results, Tryz.results27, asAddr, go_sem, d0, d1, d2, d3, d4, d5]
    · obtain rfl : m = 0 := by omega
      go_upto_region 16 with (fail)
      go_region
      all_goals go_wp2
      all_goals
        have hout := out_at HS1.out.2.1 HS1.out.2.2.1 (T.kind) (n1) (⟨#[]⟩) (none) (0) (0) (A1) (E0)
        have d0 := cell_at (j := 0) hout.1 rfl
        have d1 := cell_at (j := 1) hout.1 rfl
        have d2 := cell_at (j := 2) hout.1 rfl
        have d3 := cell_at (j := 3) hout.1 rfl
        have d4 := cell_at (j := 0) hout.2.1 rfl
        have d5 := cell_at (j := 1) hout.2.1 rfl
        have hbw : Below w.heap.size w (((((((W3.setCell ⟨w.heap.size + 1, 0, none⟩ (.int .i64 T.kind)).setCell ⟨w.heap.size + 1, 1, none⟩ (.int .u64 n1)).setCell ⟨w.heap.size + 1, 2, none⟩ (.string ⟨#[]⟩)).setCell ⟨w.heap.size + 1, 3, none⟩ (.slice none 0 0)).setCell ⟨w.heap.size + 1 + 1, 0, none⟩ (.int .i64 A1)).setCell ⟨w.heap.size + 1 + 1, 1, none⟩ (.int .i64 E0)).drew) := Only.below_step HS1.out.2.2.2.2 hout.2.2 (fun k hk => by omega) (Nat.le_refl _)
        refine bodyPost_ret (v := .tuple #[.agg #[.int .i64 T.kind, .int .u64 n1, .string ⟨#[]⟩, .slice none 0 0], .agg #[.int .i64 A1, .int .i64 E0]]) ?_ rfl ⟨.node T.kind n1 ⟨#[]⟩ none 0 0 (fun _ => .nil), A1, E0, rfl, hbw, HBQ.out _ _ _⟩
        simp [results, Tryz.results27, asAddr, go_sem, d0, d1, d2, d3, d4, d5]
end Go.Proofs.YtmnemddagcfjgaaGreatDoor
namespace Go.Proofs.YtmnemddagcfjgaaGreatDoor
open Go.RowKit
set_option linter.unusedVariables false
theorem leaf_at {k n : Int} {s : ByteArray} (hk : 0 ≤ k ∧ k ≤ 14) (hn : 0 ≤ n ∧ n ≤ 18446744073709551615) (hs : s.size ≤ 140737488351232) (w : World) (S : Nat → Prop) : ValAt w S (.node k n s none 0 0 (fun _ => .nil)) :=
  (valAt_iff _).2 ⟨⟨WalkArith.wf_i64 (by show _ ∧ _; exact ⟨by show _ ≤ k; omega, by show k ≤ _; omega⟩), WalkArith.wf_u64 hn, hs, by show (0 : Nat) ≤ _; omega⟩, fun i hi => absurd hi (Nat.not_lt_zero i)⟩
theorem leaf_same (k n : Int) (s : ByteArray) : sameT (vNode k n s 0 (fun _ => .nil)) (.node k n s none 0 0 (fun _ => .nil)) = true :=
  sameT_iff.2 ⟨rfl, rfl, rfl, rfl, fun i hi => absurd hi (Nat.not_lt_zero i)⟩
theorem xS_size {bound : Int} {b : ByteArray} {a : Nat} (ha : a ≤ b.size) (hb1 : bound ≤ 64) (h : xE bound b a = 0) : (xS b a).size ≤ 140737488351232 := by
  have h0 : tkE b a 4 = 0 := by
    apply Classical.byContradiction; intro hc; unfold xE at h; rw [if_pos hc] at h; exact hc h
  have h1 : ¬ tkN b a 4 = 0 := by
    intro hc; unfold xE at h; rw [if_neg (by rw [h0]; decide), if_pos hc] at h; cases h
  have h2 : ¬ bound + 1 < tkN b a 4 := by
    intro hc; unfold xE at h; rw [if_neg (by rw [h0]; decide), if_neg h1, if_pos hc] at h; cases h
  have h3 : txE b (tkA b a 4) (tkN b a 4) = 0 := by
    apply Classical.byContradiction; intro hc; unfold xE at h; rw [if_neg (by rw [h0]; decide), if_neg h1, if_neg h2, if_pos hc] at h; exact hc h
  obtain ⟨m, hm⟩ := text_len_of ha h0 h1
  obtain ⟨k1, k2⟩ := text_got_of hm h3
  rw [k2]
  simp
  omega
theorem rep_get (n : Nat) (x : Int) {i : Nat} (hi : i < n) : (List.replicate n x).getD i 0 = x := by simp [List.getD, hi]
theorem items_get (T : TypeV) (n : Nat) {i : Nat} (hi : i < n) : ((List.range n).map fun j => (T.items j).type).getD i 0 = (T.items i).type := by simp [List.getD, hi]
theorem refVal11_any (ao : Option Addr) (len cap : Nat) (L : Nat → TypeV) (hlen : len ≤ 1000000) (hv : ∀ i, i < len → OkT L i) (he : EnumOk L len) (b : ByteArray) (hs : b.size ≤ 281474976710656) : ∀ (k t a : Nat) (w : World), t < k → t < len → a ≤ b.size → (∀ i, i < len → TypeAt w ao i (L i)) →
    Calls Tryz.prog 27 #[.slice ao len cap, .int .i64 (t : Nat), .string b, .agg #[.int .i64 (a : Nat), .int .i64 0]] w (RvRes b (decF L b k t a) w) := by
  intro k
  induction k with
  | zero => intro t a w h; omega
  | succ k ih =>
    intro t a w hk ht ha H
    have ok := hv t ht
    have hkd := ok.kind
    have hkw : (Lit.int .i64 (L t).kind).wf = true := WalkArith.wf_i64 (by omega)
    have hih : ∀ (x : Int) (ax : Nat), ax ≤ b.size → 0 ≤ x → x < t → ∀ wx, Below w.heap.size w wx → Calls Tryz.prog 27 #[.slice ao len cap, .int .i64 x, .string b, .agg #[.int .i64 (ax : Nat), .int .i64 0]] wx (RvRes b (decF L b k x.toNat ax) wx) := by
      intro x ax hax h0 h1 wx hb
      obtain ⟨y, rfl⟩ := Int.eq_ofNat_of_zero_le h0
      exact ih y ax wx (by omega) (by omega) hax (hold H hb)
    by_cases c10 : (L t).kind = 10
    · have hb := ok.bound (.inl c10)
      have e : decF L b (k + 1) t a = if xE (L t).bound b a ≠ 0 then .bad (xE (L t).bound b a) else .ok (vNode 10 0 (xS b a) 0 (fun _ => .nil)) (xA b a) := by show (if (L t).kind = 10 then _ else _) = _; rw [if_pos c10]
      rw [e]
      refine rvT ao len cap t ht (L t) b a w (H t ht) c10 (xE (L t).bound b a) (fun S A => xE (L t).bound b a = 0 → S = xS b a ∧ A = (xA b a : Nat)) (fun wx hbx => rtextR_any (L t).bound hb.1 hb.2 b a ha hs wx) _ (fun w' S A hq => ?_)
      by_cases hx : xE (L t).bound b a = 0
      · rw [if_neg (by rw [hx]; decide)]
        obtain ⟨rfl, rfl⟩ := hq hx
        rw [c10]
        exact ⟨hx, rfl, txA_le _ (tkA_le _ ha), leaf_same _ _ _, leaf_at (by omega) (by omega) (xS_size ha hb.2 hx) _ _⟩
      · rw [if_pos hx]
        exact ⟨rfl, hx⟩
    by_cases c11 : (L t).kind = 11
    · have hb := ok.bound (.inr (.inl c11))
      have hof := ok.of (.inl c11)
      obtain ⟨m, hm⟩ := Int.eq_ofNat_of_zero_le hb.1
      have e : decF L b (k + 1) t a = if lE (L t).bound b a ≠ 0 then .bad (lE (L t).bound b a) else nodeD 11 0 (tkN b a 4).toNat (seqD (fun _ => decF L b k (L t).of.toNat) (tkA b a 4) (tkN b a 4).toNat) := by
        show (if (L t).kind = 10 then _ else if (L t).kind = 11 then _ else _) = _; rw [if_neg c10, if_pos c11]
      rw [e]
      by_cases h0 : tkE b a 4 = 0
      · by_cases h1 : (L t).bound < tkN b a 4
        · have el : lE (L t).bound b a = 3 := by unfold lE; rw [if_neg (by rw [h0]; decide), if_pos h1]
          rw [el]
          exact rvQ ao len cap t ht (L t) b a w (H t ht) (by omega) 0 0 3 [] (fun wx hbx => partsR_11c ao len cap t ht (L t) b a wx (hold H hbx t ht) ha hs c11 m hm (by omega) h0 (by omega)) _ (by decide) (if_pos (by decide))
        · have el : lE (L t).bound b a = 0 := by unfold lE; rw [if_neg (by rw [h0]; decide), if_neg h1]
          rw [el, if_neg (by decide)]
          have hr := (tkN_range ha h0).1
          obtain ⟨N, hN⟩ := Int.eq_ofNat_of_zero_le hr
          have hN' : tkN b a 4 = (N : Nat) := hN
          rw [hN']
          refine rvP ao len cap t ht (L t) b a w (H t ht) (by omega) 0 (tkA b a 4 : Nat) (List.replicate N (L t).of) (fun wx hbx => partsR_11 ao len cap t ht (L t) b a wx (hold H hbx t ht) ha hs c11 m hm (by omega) N h0 hN' (by omega)) _ (fun _ => decF L b k (L t).of.toNat) (tkA b a 4) rfl (tkA_le _ ha) ?_ (by rw [List.length_replicate]; omega) (by kernel_rfl) hkw (fun i hi ax hax wx hbx => ?_)
          · rw [List.length_replicate, c11, Int.toNat_natCast]
          · rw [List.length_replicate] at hi
            rw [rep_get N _ hi]
            exact hih _ ax hax hof.1 hof.2.1 wx hbx
      · have el : lE (L t).bound b a = tkE b a 4 := by unfold lE; rw [if_pos h0]
        rw [el]
        exact rvQ ao len cap t ht (L t) b a w (H t ht) (by omega) 0 0 (tkE b a 4) [] (fun wx hbx => partsR_11b ao len cap t ht (L t) b a wx (hold H hbx t ht) ha hs c11 m hm (by omega) h0) _ h0 (if_pos h0)
    by_cases c12 : (L t).kind = 12
    · have hb := ok.bound (.inr (.inr c12))
      have hof := ok.of (.inr c12)
      obtain ⟨m, hm⟩ := Int.eq_ofNat_of_zero_le hb.1
      have hm' : (L t).bound = (m : Nat) := hm
      have e : decF L b (k + 1) t a = nodeD 12 0 (L t).bound.toNat (seqD (fun _ => decF L b k (L t).of.toNat) a (L t).bound.toNat) := by
        show (if (L t).kind = 10 then _ else if (L t).kind = 11 then _ else if (L t).kind = 12 then _ else _) = _; rw [if_neg c10, if_neg c11, if_pos c12]
      rw [e, hm']
      refine rvP ao len cap t ht (L t) b a w (H t ht) (by omega) 0 (a : Nat) (List.replicate m (L t).of) (fun wx hbx => partsR_12 ao len cap t ht (L t) b a wx (hold H hbx t ht) c12 m hm' (by omega)) _ (fun _ => decF L b k (L t).of.toNat) a rfl ha ?_ (by rw [List.length_replicate]; omega) (by kernel_rfl) hkw (fun i hi ax hax wx hbx => ?_)
      · rw [List.length_replicate, c12, Int.toNat_natCast]
      · rw [List.length_replicate] at hi
        rw [rep_get m _ hi]
        exact hih _ ax hax hof.1 hof.2.1 wx hbx
    by_cases c13 : (L t).kind = 13
    · have hit := ok.items (.inl c13)
      have hct := ok.count (.inl c13)
      have e : decF L b (k + 1) t a = nodeD 13 0 (L t).ilen (seqD (fun i => decF L b k ((L t).items i).type.toNat) a (L t).ilen) := by
        show (if (L t).kind = 10 then _ else if (L t).kind = 11 then _ else if (L t).kind = 12 then _ else if (L t).kind = 13 then _ else _) = _; rw [if_neg c10, if_neg c11, if_neg c12, if_pos c13]
      have hl : ((List.range (L t).ilen).map fun j => ((L t).items j).type).length = (L t).ilen := by simp
      rw [e]
      refine rvP ao len cap t ht (L t) b a w (H t ht) (by omega) 0 (a : Nat) ((List.range (L t).ilen).map fun j => ((L t).items j).type) (fun wx hbx => partsR_13 ao len cap t ht (L t) b a wx (hold H hbx t ht) c13) _ (fun i => decF L b k ((L t).items i).type.toNat) a rfl ha ?_ (by rw [hl]; omega) (by kernel_rfl) hkw (fun i hi ax hax wx hbx => ?_)
      · rw [hl, c13]
      · rw [hl] at hi
        rw [items_get _ _ hi]
        exact hih _ ax hax (hit i hi).1 (hit i hi).2.1 wx hbx
    by_cases c14 : (L t).kind = 14
    · have hit := ok.items (.inr c14)
      obtain ⟨t0, t1, _, tn⟩ := ok.tag c14
      obtain ⟨p, hp⟩ := Int.eq_ofNat_of_zero_le t0
      have hp' : (L t).tag = (p : Nat) := hp
      have e : decF L b (k + 1) t a = if nE L (L t).tag.toNat b a ≠ 0 then .bad (nE L (L t).tag.toNat b a) else nodeD 14 (nN L (L t).tag.toNat b a) (brN (L t) (nN L (L t).tag.toNat b a)) (seqD (fun i => decF L b k ((L t).items ((branchZ (L t) (nN L (L t).tag.toNat b a)).toNat + i)).type.toNat) (nA L (L t).tag.toNat b a) (brN (L t) (nN L (L t).tag.toNat b a))) := by
        show (if (L t).kind = 10 then _ else if (L t).kind = 11 then _ else if (L t).kind = 12 then _ else if (L t).kind = 13 then _ else if (L t).kind = 14 then _ else _) = _; rw [if_neg c10, if_neg c11, if_neg c12, if_neg c13, if_pos c14]
      rw [e, hp', Int.toNat_natCast]
      rw [hp', Int.toNat_natCast] at tn
      have hnum : ∀ w0, Below w.heap.size w w0 → ∀ wx, Below w0.heap.size w0 wx → Calls Tryz.prog 48 #[.slice ao len cap, .int .i64 (L t).tag, .string b, .agg #[.int .i64 (a : Nat), .int .i64 0]] wx fun e w' => e = .returned (.tuple #[.int .u64 (nN L p b a), .agg #[.int .i64 (nA L p b a : Nat), .int .i64 (nE L p b a)]]) ∧ Below wx.heap.size wx w' := by
        intro w0 hb0 wx hbx
        rw [hp']
        exact rnumR_any ao len cap L hlen p (by omega) tn he b a ha hs wx (hold (hold H hb0) hbx)
      have hbr : ∀ w0, Below w.heap.size w w0 → ∀ wx, Below w0.heap.size w0 wx → Calls Tryz.prog 89 #[.slice ao len cap, .int .i64 (t : Nat), .int .u64 (nN L p b a)] wx fun e w' => e = .returned (.int .i64 (branchZ (L t) (nN L p b a))) ∧ wx = w' := by
        intro w0 hb0 wx hbx
        have h := refBranch_any ao len cap L (t : Nat) (nN L p b a) (by omega) wx (hold (hold H hb0) hbx)
        have e2 : branchL L len (t : Nat) (nN L p b a) = branchZ (L t) (nN L p b a) := by unfold branchL; rw [inL_yes ht]; rfl
        rw [e2] at h
        exact h
      have hnw : (Lit.int .u64 (nN L p b a)).wf = true := WalkArith.wf_u64 (by unfold nN; have := @up_range (L p).kind (tkN b a (szK (L p).kind)); omega)
      by_cases hz : 0 ≤ branchZ (L t) (nN L p b a)
      · have hzl := branchZ_lt hz
        obtain ⟨zn, hzn⟩ := Int.eq_ofNat_of_zero_le hz
        have hzn' : branchZ (L t) (nN L p b a) = (zn : Nat) := hzn
        have hb1 : brN (L t) (nN L p b a) = 1 := by unfold brN okZ; rw [decide_eq_true hz]; rfl
        have hpt : ∀ wx, Below w.heap.size w wx → Calls Tryz.prog 50 #[.slice ao len cap, .int .i64 (t : Nat), .string b, .agg #[.int .i64 (a : Nat), .int .i64 0]] wx (PtRes (nN L p b a) [((L t).items zn).type] (nA L p b a : Nat) (nE L p b a) wx) := fun wx hbx =>
          partsR_14p ao len cap L t ht b a wx (hold H hbx) c14 _ _ _ (hnum wx hbx) zn (by omega) (by rw [← hzn']; exact hbr wx hbx)
        rw [hb1, hzn', Int.toNat_natCast]
        by_cases hx : nE L p b a = 0
        · rw [if_neg (by rw [hx]; decide)]
          rw [hx] at hpt
          refine rvP ao len cap t ht (L t) b a w (H t ht) (by omega) (nN L p b a) (nA L p b a : Nat) [((L t).items zn).type] hpt _ (fun i => decF L b k ((L t).items (zn + i)).type.toNat) (nA L p b a) rfl (tkA_le _ ha) (by rw [c14]; rfl) (show (1 : Nat) ≤ 1000 by decide) hnw hkw (fun i hi ax hax wx hbx => ?_)
          obtain rfl : i = 0 := by simpa using hi
          exact hih _ ax hax (hit zn (by omega)).1 (hit zn (by omega)).2.1 wx hbx
        · exact rvQ ao len cap t ht (L t) b a w (H t ht) (by omega) _ _ _ _ hpt _ hx (if_pos hx)
      · have hb1 : brN (L t) (nN L p b a) = 0 := by unfold brN okZ; rw [decide_eq_false hz]; rfl
        have hpt : ∀ wx, Below w.heap.size w wx → Calls Tryz.prog 50 #[.slice ao len cap, .int .i64 (t : Nat), .string b, .agg #[.int .i64 (a : Nat), .int .i64 0]] wx (PtRes (nN L p b a) [] (nA L p b a : Nat) (nE L p b a) wx) := fun wx hbx =>
          partsR_14n ao len cap L t ht b a wx (hold H hbx) c14 _ _ _ (hnum wx hbx) _ hz (hbr wx hbx)
        rw [hb1]
        by_cases hx : nE L p b a = 0
        · rw [if_neg (by rw [hx]; decide)]
          rw [hx] at hpt
          exact rvP ao len cap t ht (L t) b a w (H t ht) (by omega) (nN L p b a) (nA L p b a : Nat) [] hpt _ (fun i => decF L b k ((L t).items ((branchZ (L t) (nN L p b a)).toNat + i)).type.toNat) (nA L p b a) rfl (tkA_le _ ha) (by rw [c14]; rfl) (by decide) hnw hkw (fun i hi => absurd hi (Nat.not_lt_zero i))
        · exact rvQ ao len cap t ht (L t) b a w (H t ht) (by omega) _ _ _ _ hpt _ hx (if_pos hx)
    · have hn : numK (L t).kind = true := by unfold numK; simp; omega
      have e : decF L b (k + 1) t a = if nE L t b a ≠ 0 then .bad (nE L t b a) else .ok (vNode (L t).kind (nN L t b a) ⟨#[]⟩ 0 (fun _ => .nil)) (nA L t b a) := by
        show (if (L t).kind = 10 then _ else if (L t).kind = 11 then _ else if (L t).kind = 12 then _ else if (L t).kind = 13 then _ else if (L t).kind = 14 then _ else _) = _; rw [if_neg c10, if_neg c11, if_neg c12, if_neg c13, if_neg c14]
      rw [e]
      refine rvN ao len cap t ht (L t) b a w (H t ht) (by omega) (nN L t b a) (nA L t b a : Nat) (nE L t b a) (fun wx hbx => rnumR_any ao len cap L hlen t ht hn he b a ha hs wx (hold H hbx)) _ (fun w' => ?_)
      by_cases hx : nE L t b a = 0
      · rw [if_neg (by rw [hx]; decide)]
        exact ⟨hx, rfl, tkA_le _ ha, leaf_same _ _ _, leaf_at (by omega) (by unfold nN; exact up_range) (by decide) _ _⟩
      · rw [if_pos hx]
        exact ⟨rfl, hx⟩
end Go.Proofs.YtmnemddagcfjgaaGreatDoor
namespace Go.Proofs.YtmnemddagcfjgaaGreatDoor
open Go.RowKit
set_option linter.unusedVariables false
theorem set4_below {w W : World} (h : Below w.heap.size w W) (kd nn : Int) (tx : ByteArray) (va : Option Addr) (j vc : Nat) : Below w.heap.size w ((((W.setCell ⟨w.heap.size, 0, none⟩ (.int .i64 kd)).setCell ⟨w.heap.size, 1, none⟩ (.int .u64 nn)).setCell ⟨w.heap.size, 2, none⟩ (.string tx)).setCell ⟨w.heap.size, 3, none⟩ (.slice va j vc)) :=
  (((h.setCell (Nat.le_refl _) _).setCell (Nat.le_refl _) _).setCell (Nat.le_refl _) _).setCell (Nat.le_refl _) _
theorem set4_val {w W : World} {U : VT} {S : Nat → Prop} (h : ValAt W S U) (hS : ∀ k, S k → w.heap.size < k) (kd nn : Int) (tx : ByteArray) (va : Option Addr) (j vc : Nat) : ValAt ((((W.setCell ⟨w.heap.size, 0, none⟩ (.int .i64 kd)).setCell ⟨w.heap.size, 1, none⟩ (.int .u64 nn)).setCell ⟨w.heap.size, 2, none⟩ (.string tx)).setCell ⟨w.heap.size, 3, none⟩ (.slice va j vc)) (fun k => w.heap.size ≤ k) U :=
  ValAt.held_of (fun k hk => by have := hS k hk; omega) (by simp) (fun k hk _ => by
    have ne : k ≠ w.heap.size := by have := hS k hk; omega
    rw [set_other (show k ≠ _ from ne), set_other (show k ≠ _ from ne), set_other (show k ≠ _ from ne), set_other (show k ≠ _ from ne)]) _ h
set_option maxRecDepth 100000 in
set_option maxHeartbeats 4000000 in
theorem rfirst_n1 (ao : Option Addr) (len cap : Nat) (t : Int) (b : ByteArray) (hs : b.size ≤ 281474976710656) (w : World) (E F : Int) (hck : ∀ wx, Below w.heap.size w wx → Calls Tryz.prog 26 #[.slice ao len cap] wx fun e w' => e = .returned (.agg #[.int .i64 E, .int .i64 F]) ∧ Below wx.heap.size wx w') (hE : E ≠ 0) :
    Calls Tryz.prog 11 #[.slice ao len cap, .int .i64 t, .string b] w (FirstRes (.bad 8) w) := by
  have hfe := fault_err
  have HCK := Lib.hid hck
  have HB := Lib.hid ((Below.refl w.heap.size w).alloc (Nat.le_refl _) zeroG)
  have HQ := Lib.hid (alloc_at w zeroG)
  clear hck
  have hE' : (E != 0) = true := by simpa using hE
  clear hE
  go_enter Tryz.func11, Tryz.ntmps11
  go_wp2_with (go_at_call 26; refine (HCK.out _ HB.out).mono ?_; rintro e w1 ⟨rfl, hb1⟩; have HB1 := Lib.hid (below_step8' HB.out hb1); have HQ1 := Lib.hid (box_keep HQ.out hb1); clear hb1; have r0 := cell_at (j := 0) HQ1.out rfl; have r1 := cell_at (j := 1) HQ1.out rfl; have r2 := cell_at (j := 2) HQ1.out rfl; have r3 := cell_at (j := 3) HQ1.out rfl; have s0 := free_at (j := 0) HQ1.out; have s1 := free_at (j := 1) HQ1.out; have s2 := free_at (j := 2) HQ1.out; have s3 := free_at (j := 3) HQ1.out)
  have h4 := set4_at HQ1.out (0) (0) (⟨#[]⟩) (none) (0) (0)
  have hbf := set4_below HB1.out (0) (0) (⟨#[]⟩) (none) (0) (0)
  have d0 := cell_at (j := 0) h4 rfl
  have d1 := cell_at (j := 1) h4 rfl
  have d2 := cell_at (j := 2) h4 rfl
  have d3 := cell_at (j := 3) h4 rfl
  refine bodyPost_ret (v := .tuple #[.agg #[.int .i64 0, .int .u64 0, .string ⟨#[]⟩, .slice none 0 0], .int .i64 0, .int .i64 8]) ?_ rfl ⟨rfl, hbf⟩
  simp [results, Tryz.results11, asAddr, go_sem, d0, d1, d2, d3]
set_option maxRecDepth 100000 in
set_option maxHeartbeats 4000000 in
theorem rfirst_n2 (ao : Option Addr) (len cap : Nat) (t : Int) (b : ByteArray) (hs : b.size ≤ 281474976710656) (w : World) (E F : Int) (hck : ∀ wx, Below w.heap.size w wx → Calls Tryz.prog 26 #[.slice ao len cap] wx fun e w' => e = .returned (.agg #[.int .i64 E, .int .i64 F]) ∧ Below wx.heap.size wx w') (hE : E = 0) (ht : t < 0) :
    Calls Tryz.prog 11 #[.slice ao len cap, .int .i64 t, .string b] w (FirstRes (.bad 8) w) := by
  have hfe := fault_err
  have HCK := Lib.hid hck
  have HB := Lib.hid ((Below.refl w.heap.size w).alloc (Nat.le_refl _) zeroG)
  have HQ := Lib.hid (alloc_at w zeroG)
  clear hck
  subst hE
  go_enter Tryz.func11, Tryz.ntmps11
  go_wp2_with (go_at_call 26; refine (HCK.out _ HB.out).mono ?_; rintro e w1 ⟨rfl, hb1⟩; have HB1 := Lib.hid (below_step8' HB.out hb1); have HQ1 := Lib.hid (box_keep HQ.out hb1); clear hb1; have r0 := cell_at (j := 0) HQ1.out rfl; have r1 := cell_at (j := 1) HQ1.out rfl; have r2 := cell_at (j := 2) HQ1.out rfl; have r3 := cell_at (j := 3) HQ1.out rfl; have s0 := free_at (j := 0) HQ1.out; have s1 := free_at (j := 1) HQ1.out; have s2 := free_at (j := 2) HQ1.out; have s3 := free_at (j := 3) HQ1.out)
  have h4 := set4_at HQ1.out (0) (0) (⟨#[]⟩) (none) (0) (0)
  have hbf := set4_below HB1.out (0) (0) (⟨#[]⟩) (none) (0) (0)
  have d0 := cell_at (j := 0) h4 rfl
  have d1 := cell_at (j := 1) h4 rfl
  have d2 := cell_at (j := 2) h4 rfl
  have d3 := cell_at (j := 3) h4 rfl
  refine bodyPost_ret (v := .tuple #[.agg #[.int .i64 0, .int .u64 0, .string ⟨#[]⟩, .slice none 0 0], .int .i64 0, .int .i64 8]) ?_ rfl ⟨rfl, hbf⟩
  simp [results, Tryz.results11, asAddr, go_sem, d0, d1, d2, d3]
set_option maxRecDepth 100000 in
set_option maxHeartbeats 4000000 in
theorem rfirst_n3 (ao : Option Addr) (len cap : Nat) (t : Int) (b : ByteArray) (hs : b.size ≤ 281474976710656) (w : World) (E F : Int) (hck : ∀ wx, Below w.heap.size w wx → Calls Tryz.prog 26 #[.slice ao len cap] wx fun e w' => e = .returned (.agg #[.int .i64 E, .int .i64 F]) ∧ Below wx.heap.size wx w') (hE : E = 0) (h0 : ¬ t < 0) (ht : (len : Int) ≤ t) :
    Calls Tryz.prog 11 #[.slice ao len cap, .int .i64 t, .string b] w (FirstRes (.bad 8) w) := by
  have hfe := fault_err
  have HCK := Lib.hid hck
  have HB := Lib.hid ((Below.refl w.heap.size w).alloc (Nat.le_refl _) zeroG)
  have HQ := Lib.hid (alloc_at w zeroG)
  clear hck
  subst hE
  go_enter Tryz.func11, Tryz.ntmps11
  go_wp2_with (go_at_call 26; refine (HCK.out _ HB.out).mono ?_; rintro e w1 ⟨rfl, hb1⟩; have HB1 := Lib.hid (below_step8' HB.out hb1); have HQ1 := Lib.hid (box_keep HQ.out hb1); clear hb1; have r0 := cell_at (j := 0) HQ1.out rfl; have r1 := cell_at (j := 1) HQ1.out rfl; have r2 := cell_at (j := 2) HQ1.out rfl; have r3 := cell_at (j := 3) HQ1.out rfl; have s0 := free_at (j := 0) HQ1.out; have s1 := free_at (j := 1) HQ1.out; have s2 := free_at (j := 2) HQ1.out; have s3 := free_at (j := 3) HQ1.out)
  have h4 := set4_at HQ1.out (0) (0) (⟨#[]⟩) (none) (0) (0)
  have hbf := set4_below HB1.out (0) (0) (⟨#[]⟩) (none) (0) (0)
  have d0 := cell_at (j := 0) h4 rfl
  have d1 := cell_at (j := 1) h4 rfl
  have d2 := cell_at (j := 2) h4 rfl
  have d3 := cell_at (j := 3) h4 rfl
  refine bodyPost_ret (v := .tuple #[.agg #[.int .i64 0, .int .u64 0, .string ⟨#[]⟩, .slice none 0 0], .int .i64 0, .int .i64 8]) ?_ rfl ⟨rfl, hbf⟩
  simp [results, Tryz.results11, asAddr, go_sem, d0, d1, d2, d3]
set_option maxRecDepth 100000 in
set_option maxHeartbeats 4000000 in
theorem rfirst_bad (ao : Option Addr) (len cap : Nat) (t : Int) (b : ByteArray) (hs : b.size ≤ 281474976710656) (w : World) (E F : Int) (hck : ∀ wx, Below w.heap.size w wx → Calls Tryz.prog 26 #[.slice ao len cap] wx fun e w' => e = .returned (.agg #[.int .i64 E, .int .i64 F]) ∧ Below wx.heap.size wx w') (hE : E = 0) (h0 : ¬ t < 0) (ht : ¬ (len : Int) ≤ t) (x : Int) (hval : ∀ wx, Below w.heap.size w wx → Calls Tryz.prog 27 #[.slice ao len cap, .int .i64 t, .string b, .agg #[.int .i64 0, .int .i64 0]] wx (RvRes b (.bad x) wx)) :
    Calls Tryz.prog 11 #[.slice ao len cap, .int .i64 t, .string b] w (FirstRes (.bad x) w) := by
  have hfe := fault_err
  have HCK := Lib.hid hck
  have HB := Lib.hid ((Below.refl w.heap.size w).alloc (Nat.le_refl _) zeroG)
  have HQ := Lib.hid (alloc_at w zeroG)
  clear hck
  have HVAL := Lib.hid hval
  have h0' : decide (t < 0) = false := decide_eq_false h0
  have ht' : decide ((len : Int) ≤ t) = false := decide_eq_false ht
  subst hE
  clear hval
  go_enter Tryz.func11, Tryz.ntmps11
  go_upto_region 4 with (first
    | (go_at_call 26; refine (HCK.out _ HB.out).mono ?_; rintro e w1 ⟨rfl, hb1⟩; have HB1 := Lib.hid (below_step8' HB.out hb1); have HQ1 := Lib.hid (box_keep HQ.out hb1); clear hb1; have r0 := cell_at (j := 0) HQ1.out rfl; have r1 := cell_at (j := 1) HQ1.out rfl; have r2 := cell_at (j := 2) HQ1.out rfl; have r3 := cell_at (j := 3) HQ1.out rfl; have s0 := free_at (j := 0) HQ1.out; have s1 := free_at (j := 1) HQ1.out; have s2 := free_at (j := 2) HQ1.out; have s3 := free_at (j := 3) HQ1.out)
    | (go_at_call 27; refine (HVAL.out _ HB1.out).mono ?_; rintro e w2 ⟨U, A, X, rfl, hb2, hr⟩; obtain ⟨rfl, hx0⟩ := hr; clear r0 r1 r2 r3 s0 s1 s2 s3; have HB2 := Lib.hid (below_step8' HB1.out hb2); have HQ2 := Lib.hid (box_keep HQ1.out hb2); have hl1 := lt_of_block HQ1.out; have HX0 := Lib.hid hx0; have hX : (X != 0) = true := (by simpa using hx0); clear hx0))
  obtain ⟨k1, k2, k3⟩ := two_at w2 (.cells #[.int .i64 U.kind, .int .u64 U.num, .string U.text, .slice U.ia U.len U.cap] 28) (gO A X)
  have HB3 := Lib.hid ((HB2.out.alloc HB2.out.size (.cells #[.int .i64 U.kind, .int .u64 U.num, .string U.text, .slice U.ia U.len U.cap] 28)).alloc (by have := HB2.out.size; simp; omega) (gO A X))
  have HQ3 := Lib.hid (alloc_old (o := gO A X) (alloc_old (o := .cells #[.int .i64 U.kind, .int .u64 U.num, .string U.text, .slice U.ia U.len U.cap] 28) HQ2.out))
  have u0 := cell_at (j := 0) k1 rfl; have u1 := cell_at (j := 1) k1 rfl; have u2 := cell_at (j := 2) k1 rfl; have u3 := cell_at (j := 3) k1 rfl
  have g0 := cell_at (j := 0) k2 rfl; have g1 := cell_at (j := 1) k2 rfl
  have hz2 := HB2.out.size
  have hz3 := lt_of_block HQ2.out
  have ne1 : ¬ w2.heap.size + 1 = w.heap.size := by omega
  have ne2 : ¬ w.heap.size = w2.heap.size + 1 := by omega
  have ne3 : ¬ w2.heap.size = w.heap.size := by omega
  have ne4 : ¬ w.heap.size = w2.heap.size := by omega
  clear k1 k2 k3
  generalize ((w2.alloc (.cells #[.int .i64 U.kind, .int .u64 U.num, .string U.text, .slice U.ia U.len U.cap] 28)).alloc (gO A X)) = W at *
  have r0 := cell_at (j := 0) HQ3.out rfl; have r1 := cell_at (j := 1) HQ3.out rfl; have r2 := cell_at (j := 2) HQ3.out rfl; have r3 := cell_at (j := 3) HQ3.out rfl; have s0 := free_at (j := 0) HQ3.out; have s1 := free_at (j := 1) HQ3.out; have s2 := free_at (j := 2) HQ3.out; have s3 := free_at (j := 3) HQ3.out
  go_upto_region 5 with (fail)
  go_region
  all_goals go_wp2
  all_goals
    have h4 := drew_at <| set4_at HQ3.out (0) (0) (⟨#[]⟩) (none) (0) (0)
    have hbf := Below.drew <| set4_below HB3.out (0) (0) (⟨#[]⟩) (none) (0) (0)
    have d0 := cell_at (j := 0) h4 rfl
    have d1 := cell_at (j := 1) h4 rfl
    have d2 := cell_at (j := 2) h4 rfl
    have d3 := cell_at (j := 3) h4 rfl
    refine bodyPost_ret (v := .tuple #[.agg #[.int .i64 0, .int .u64 0, .string ⟨#[]⟩, .slice none 0 0], .int .i64 0, .int .i64 X]) ?_ rfl ⟨rfl, hbf⟩
    simp [results, Tryz.results11, asAddr, go_sem, d0, d1, d2, d3]
set_option maxRecDepth 100000 in
set_option maxHeartbeats 4000000 in
theorem rfirst_ok (ao : Option Addr) (len cap : Nat) (t : Int) (b : ByteArray) (hs : b.size ≤ 281474976710656) (w : World) (E F : Int) (hck : ∀ wx, Below w.heap.size w wx → Calls Tryz.prog 26 #[.slice ao len cap] wx fun e w' => e = .returned (.agg #[.int .i64 E, .int .i64 F]) ∧ Below wx.heap.size wx w') (hE : E = 0) (h0 : ¬ t < 0) (ht : ¬ (len : Int) ≤ t) (V : VT) (n : Nat) (hval : ∀ wx, Below w.heap.size w wx → Calls Tryz.prog 27 #[.slice ao len cap, .int .i64 t, .string b, .agg #[.int .i64 0, .int .i64 0]] wx (RvRes b (.ok V n) wx)) :
    Calls Tryz.prog 11 #[.slice ao len cap, .int .i64 t, .string b] w (FirstRes (.ok V n) w) := by
  have hfe := fault_err
  have HCK := Lib.hid hck
  have HB := Lib.hid ((Below.refl w.heap.size w).alloc (Nat.le_refl _) zeroG)
  have HQ := Lib.hid (alloc_at w zeroG)
  clear hck
  have HVAL := Lib.hid hval
  have h0' : decide (t < 0) = false := decide_eq_false h0
  have ht' : decide ((len : Int) ≤ t) = false := decide_eq_false ht
  subst hE
  clear hval
  go_enter Tryz.func11, Tryz.ntmps11
  go_upto_region 4 with (first
    | (go_at_call 26; refine (HCK.out _ HB.out).mono ?_; rintro e w1 ⟨rfl, hb1⟩; have HB1 := Lib.hid (below_step8' HB.out hb1); have HQ1 := Lib.hid (box_keep HQ.out hb1); clear hb1; have r0 := cell_at (j := 0) HQ1.out rfl; have r1 := cell_at (j := 1) HQ1.out rfl; have r2 := cell_at (j := 2) HQ1.out rfl; have r3 := cell_at (j := 3) HQ1.out rfl; have s0 := free_at (j := 0) HQ1.out; have s1 := free_at (j := 1) HQ1.out; have s2 := free_at (j := 2) HQ1.out; have s3 := free_at (j := 3) HQ1.out)
    | (go_at_call 27; refine (HVAL.out _ HB1.out).mono ?_; rintro e w2 ⟨U, A, X, rfl, hb2, hr⟩; obtain ⟨rfl, rfl, _, hU, hV⟩ := hr; clear r0 r1 r2 r3 s0 s1 s2 s3; have HB2 := Lib.hid (below_step8' HB1.out hb2); have HQ2 := Lib.hid (box_keep HQ1.out hb2); have hl1 := lt_of_block HQ1.out; have HU := Lib.hid hU; have HV := Lib.hid hV; clear hU hV))
  obtain ⟨k1, k2, k3⟩ := two_at w2 (.cells #[.int .i64 U.kind, .int .u64 U.num, .string U.text, .slice U.ia U.len U.cap] 28) (gO (n : Nat) 0)
  have HB3 := Lib.hid ((HB2.out.alloc HB2.out.size (.cells #[.int .i64 U.kind, .int .u64 U.num, .string U.text, .slice U.ia U.len U.cap] 28)).alloc (by have := HB2.out.size; simp; omega) (gO (n : Nat) 0))
  have HQ3 := Lib.hid (alloc_old (o := gO (n : Nat) 0) (alloc_old (o := .cells #[.int .i64 U.kind, .int .u64 U.num, .string U.text, .slice U.ia U.len U.cap] 28) HQ2.out))
  have HV3 := Lib.hid ((HV.out.next ((Below.refl _ _).alloc (Nat.le_refl _) (.cells #[.int .i64 U.kind, .int .u64 U.num, .string U.text, .slice U.ia U.len U.cap] 28))).next ((Below.refl _ _).alloc (Nat.le_refl _) (gO (n : Nat) 0)))
  have u0 := cell_at (j := 0) k1 rfl; have u1 := cell_at (j := 1) k1 rfl; have u2 := cell_at (j := 2) k1 rfl; have u3 := cell_at (j := 3) k1 rfl
  have g0 := cell_at (j := 0) k2 rfl; have g1 := cell_at (j := 1) k2 rfl
  have hz2 := HB2.out.size
  have hz3 := lt_of_block HQ2.out
  have ne1 : ¬ w2.heap.size + 1 = w.heap.size := by omega
  have ne2 : ¬ w.heap.size = w2.heap.size + 1 := by omega
  have ne3 : ¬ w2.heap.size = w.heap.size := by omega
  have ne4 : ¬ w.heap.size = w2.heap.size := by omega
  clear k1 k2 k3
  generalize ((w2.alloc (.cells #[.int .i64 U.kind, .int .u64 U.num, .string U.text, .slice U.ia U.len U.cap] 28)).alloc (gO (n : Nat) 0)) = W at *
  have r0 := cell_at (j := 0) HQ3.out rfl; have r1 := cell_at (j := 1) HQ3.out rfl; have r2 := cell_at (j := 2) HQ3.out rfl; have r3 := cell_at (j := 3) HQ3.out rfl; have s0 := free_at (j := 0) HQ3.out; have s1 := free_at (j := 1) HQ3.out; have s2 := free_at (j := 2) HQ3.out; have s3 := free_at (j := 3) HQ3.out
  go_upto_region 6 with (fail)
  go_region
  all_goals go_wp2
  all_goals
    have h4 := drew_at <| set4_at HQ3.out (U.kind) (U.num) (U.text) (U.ia) (U.len) (U.cap)
    have hbf := Below.drew <| set4_below HB3.out (U.kind) (U.num) (U.text) (U.ia) (U.len) (U.cap)
    have hvf : ValAt (_ : World).drew (fun k => w.heap.size ≤ k) U := (set4_val HV3.out (fun k hk => by omega) U.kind U.num U.text U.ia U.len U.cap).next (Below.refl _ _).drew
    have d0 := cell_at (j := 0) h4 rfl
    have d1 := cell_at (j := 1) h4 rfl
    have d2 := cell_at (j := 2) h4 rfl
    have d3 := cell_at (j := 3) h4 rfl
    refine bodyPost_ret (v := .tuple #[.agg #[.int .i64 U.kind, .int .u64 U.num, .string U.text, .slice U.ia U.len U.cap], .int .i64 (n : Nat), .int .i64 0]) ?_ rfl ⟨U, rfl, HU.out, hvf, hbf⟩
    simp [results, Tryz.results11, asAddr, go_sem, d0, d1, d2, d3]
theorem rfirst_any (ao : Option Addr) (len cap : Nat) (L : Nat → TypeV) (hlen : len ≤ 1000000) (t : Int) (b : ByteArray) (hs : b.size ≤ 281474976710656) (w : World) (H : ∀ i, i < len → TypeAt w ao i (L i)) :
    Calls Tryz.prog 11 #[.slice ao len cap, .int .i64 t, .string b] w (FirstRes (firstD L len t b) w) := by
  have hck := fun wx (hb : Below w.heap.size w wx) => refCheck_any ao len cap L hlen wx (hold H hb)
  unfold faultV at hck
  cases hT : hasT L len t with
  | true =>
    have e : firstD L len t b = decF L b (t.toNat + 1) t.toNat 0 := by unfold firstD; rw [hT]; rfl
    rw [e]
    obtain ⟨k, rfl, hk, hok⟩ := hasT_in hT
    rw [Int.toNat_natCast]
    have hval := fun wx (hb : Below w.heap.size w wx) => refVal11_any ao len cap L hlen (ok_all hok) (enum_ok hok) b hs (k + 1) k 0 wx (by omega) hk (Nat.zero_le _) (hold H hb)
    cases hd : decF L b (k + 1) k 0 with
    | bad x => rw [hd] at hval; exact rfirst_bad ao len cap k b hs w _ _ hck hok (by omega) (by omega) x hval
    | ok V n => rw [hd] at hval; exact rfirst_ok ao len cap k b hs w _ _ hck hok (by omega) (by omega) V n hval
  | false =>
    have e : firstD L len t b = .bad 8 := by unfold firstD; rw [hT]; rfl
    rw [e]
    by_cases hE : fErr (oneR L len) len = 0
    · by_cases h0 : t < 0
      · exact rfirst_n2 ao len cap t b hs w _ _ hck hE h0
      · by_cases h1 : (len : Int) ≤ t
        · exact rfirst_n3 ao len cap t b hs w _ _ hck hE h0 h1
        · exfalso
          obtain ⟨k, rfl⟩ := Int.eq_ofNat_of_zero_le (show 0 ≤ t by omega)
          rw [hasT_yes (by omega) hE] at hT; cases hT
    · exact rfirst_n1 ao len cap t b hs w _ _ hck hE
set_option maxRecDepth 100000 in
set_option maxHeartbeats 4000000 in
theorem rget_no (ao : Option Addr) (len cap : Nat) (t : Int) (b : ByteArray) (hs : b.size ≤ 281474976710656) (w : World) (x : Int) (hx : x = 8) (hfi : ∀ wx, Below w.heap.size w wx → Calls Tryz.prog 11 #[.slice ao len cap, .int .i64 t, .string b] wx (FirstRes (.bad x) wx)) :
    Calls Tryz.prog 9 #[.slice ao len cap, .int .i64 t, .string b] w (GetRes (.bad 8) w) := by
  have HFI := Lib.hid hfi
  have HB := Lib.hid ((Below.refl w.heap.size w).alloc (Nat.le_refl _) zeroG)
  have HQ := Lib.hid (alloc_at w zeroG)
  clear hfi
  subst hx
  go_enter Tryz.func9, Tryz.ntmps9
  go_upto_region 2 with (go_at_call 11; refine (HFI.out _ HB.out).mono ?_; rintro e w1 ⟨rfl, hb1⟩; have HB1 := Lib.hid (below_step8' HB.out hb1); have HQ1 := Lib.hid (box_keep HQ.out hb1); have hl := lt_of_block HQ1.out; have hl0 := lt_of_block HQ.out)
  have k1 := alloc_at w1 (zeroG)
  have HB3 := Lib.hid (HB1.out.alloc HB1.out.size (zeroG))
  have HQ3 := Lib.hid (alloc_old (o := zeroG) HQ1.out)
  have u0 := cell_at (j := 0) k1 rfl; have u1 := cell_at (j := 1) k1 rfl; have u2 := cell_at (j := 2) k1 rfl; have u3 := cell_at (j := 3) k1 rfl
  have ne3 : ¬ w1.heap.size = w.heap.size := by omega
  have ne4 : ¬ w.heap.size = w1.heap.size := by omega
  clear k1
  generalize w1.alloc (zeroG) = W at *
  have r0 := cell_at (j := 0) HQ3.out rfl; have r1 := cell_at (j := 1) HQ3.out rfl; have r2 := cell_at (j := 2) HQ3.out rfl; have r3 := cell_at (j := 3) HQ3.out rfl; have s0 := free_at (j := 0) HQ3.out; have s1 := free_at (j := 1) HQ3.out; have s2 := free_at (j := 2) HQ3.out; have s3 := free_at (j := 3) HQ3.out
  go_wp2
  have h4 := set4_at HQ3.out (0) (0) (⟨#[]⟩) (none) (0) (0)
  have hbf := set4_below HB3.out (0) (0) (⟨#[]⟩) (none) (0) (0)
  have d0 := cell_at (j := 0) h4 rfl
  have d1 := cell_at (j := 1) h4 rfl
  have d2 := cell_at (j := 2) h4 rfl
  have d3 := cell_at (j := 3) h4 rfl
  refine bodyPost_ret (v := .tuple #[.agg #[.int .i64 0, .int .u64 0, .string ⟨#[]⟩, .slice none 0 0], .int .i64 8]) ?_ rfl ⟨rfl, hbf⟩
  simp [results, Tryz.results9, asAddr, go_sem, d0, d1, d2, d3]
set_option maxRecDepth 100000 in
set_option maxHeartbeats 4000000 in
theorem rget_longb (ao : Option Addr) (len cap : Nat) (t : Int) (b : ByteArray) (hs : b.size ≤ 281474976710656) (w : World) (x : Int) (hx : x ≠ 8) (hl : 512 < b.size) (hfi : ∀ wx, Below w.heap.size w wx → Calls Tryz.prog 11 #[.slice ao len cap, .int .i64 t, .string b] wx (FirstRes (.bad x) wx)) :
    Calls Tryz.prog 9 #[.slice ao len cap, .int .i64 t, .string b] w (GetRes (.bad 3) w) := by
  have HFI := Lib.hid hfi
  have HB := Lib.hid ((Below.refl w.heap.size w).alloc (Nat.le_refl _) zeroG)
  have HQ := Lib.hid (alloc_at w zeroG)
  clear hfi
  have hx8 : (x == 8) = false := by simpa using hx
  have hl1 : decide ((512 : Int) < (b.size : Int)) = true := decide_eq_true (by omega)
  go_enter Tryz.func9, Tryz.ntmps9
  go_upto_region 2 with (go_at_call 11; refine (HFI.out _ HB.out).mono ?_; rintro e w1 ⟨rfl, hb1⟩; have HB1 := Lib.hid (below_step8' HB.out hb1); have HQ1 := Lib.hid (box_keep HQ.out hb1); have hl := lt_of_block HQ1.out; have hl0 := lt_of_block HQ.out)
  have k1 := alloc_at w1 (zeroG)
  have HB3 := Lib.hid (HB1.out.alloc HB1.out.size (zeroG))
  have HQ3 := Lib.hid (alloc_old (o := zeroG) HQ1.out)
  have u0 := cell_at (j := 0) k1 rfl; have u1 := cell_at (j := 1) k1 rfl; have u2 := cell_at (j := 2) k1 rfl; have u3 := cell_at (j := 3) k1 rfl
  have ne3 : ¬ w1.heap.size = w.heap.size := by omega
  have ne4 : ¬ w.heap.size = w1.heap.size := by omega
  clear k1
  generalize w1.alloc (zeroG) = W at *
  have r0 := cell_at (j := 0) HQ3.out rfl; have r1 := cell_at (j := 1) HQ3.out rfl; have r2 := cell_at (j := 2) HQ3.out rfl; have r3 := cell_at (j := 3) HQ3.out rfl; have s0 := free_at (j := 0) HQ3.out; have s1 := free_at (j := 1) HQ3.out; have s2 := free_at (j := 2) HQ3.out; have s3 := free_at (j := 3) HQ3.out
  go_wp2
  have h4 := set4_at HQ3.out (0) (0) (⟨#[]⟩) (none) (0) (0)
  have hbf := set4_below HB3.out (0) (0) (⟨#[]⟩) (none) (0) (0)
  have d0 := cell_at (j := 0) h4 rfl
  have d1 := cell_at (j := 1) h4 rfl
  have d2 := cell_at (j := 2) h4 rfl
  have d3 := cell_at (j := 3) h4 rfl
  refine bodyPost_ret (v := .tuple #[.agg #[.int .i64 0, .int .u64 0, .string ⟨#[]⟩, .slice none 0 0], .int .i64 3]) ?_ rfl ⟨rfl, hbf⟩
  simp [results, Tryz.results9, asAddr, go_sem, d0, d1, d2, d3]
set_option maxRecDepth 100000 in
set_option maxHeartbeats 4000000 in
theorem rget_longo (ao : Option Addr) (len cap : Nat) (t : Int) (b : ByteArray) (hs : b.size ≤ 281474976710656) (w : World) (V : VT) (n : Nat) (hl : 512 < b.size) (hfi : ∀ wx, Below w.heap.size w wx → Calls Tryz.prog 11 #[.slice ao len cap, .int .i64 t, .string b] wx (FirstRes (.ok V n) wx)) :
    Calls Tryz.prog 9 #[.slice ao len cap, .int .i64 t, .string b] w (GetRes (.bad 3) w) := by
  have HFI := Lib.hid hfi
  have HB := Lib.hid ((Below.refl w.heap.size w).alloc (Nat.le_refl _) zeroG)
  have HQ := Lib.hid (alloc_at w zeroG)
  clear hfi
  have hl1 : decide ((512 : Int) < (b.size : Int)) = true := decide_eq_true (by omega)
  go_enter Tryz.func9, Tryz.ntmps9
  go_upto_region 2 with (go_at_call 11; refine (HFI.out _ HB.out).mono ?_; rintro e w1 ⟨U, rfl, hU, hV, hb1⟩; have HB1 := Lib.hid (below_step8' HB.out hb1); have HQ1 := Lib.hid (box_keep HQ.out hb1); have hl := lt_of_block HQ1.out; have hl0 := lt_of_block HQ.out; have HU := Lib.hid hU; have HV := Lib.hid hV; clear hU hV)
  have k1 := alloc_at w1 (.cells #[.int .i64 U.kind, .int .u64 U.num, .string U.text, .slice U.ia U.len U.cap] 28)
  have HB3 := Lib.hid (HB1.out.alloc HB1.out.size (.cells #[.int .i64 U.kind, .int .u64 U.num, .string U.text, .slice U.ia U.len U.cap] 28))
  have HQ3 := Lib.hid (alloc_old (o := .cells #[.int .i64 U.kind, .int .u64 U.num, .string U.text, .slice U.ia U.len U.cap] 28) HQ1.out)
  have HV3 := Lib.hid (HV.out.next ((Below.refl _ _).alloc (Nat.le_refl _) (.cells #[.int .i64 U.kind, .int .u64 U.num, .string U.text, .slice U.ia U.len U.cap] 28)))
  have u0 := cell_at (j := 0) k1 rfl; have u1 := cell_at (j := 1) k1 rfl; have u2 := cell_at (j := 2) k1 rfl; have u3 := cell_at (j := 3) k1 rfl
  have ne3 : ¬ w1.heap.size = w.heap.size := by omega
  have ne4 : ¬ w.heap.size = w1.heap.size := by omega
  clear k1
  generalize w1.alloc (.cells #[.int .i64 U.kind, .int .u64 U.num, .string U.text, .slice U.ia U.len U.cap] 28) = W at *
  have r0 := cell_at (j := 0) HQ3.out rfl; have r1 := cell_at (j := 1) HQ3.out rfl; have r2 := cell_at (j := 2) HQ3.out rfl; have r3 := cell_at (j := 3) HQ3.out rfl; have s0 := free_at (j := 0) HQ3.out; have s1 := free_at (j := 1) HQ3.out; have s2 := free_at (j := 2) HQ3.out; have s3 := free_at (j := 3) HQ3.out
  go_wp2
  have h4 := set4_at HQ3.out (0) (0) (⟨#[]⟩) (none) (0) (0)
  have hbf := set4_below HB3.out (0) (0) (⟨#[]⟩) (none) (0) (0)
  have d0 := cell_at (j := 0) h4 rfl
  have d1 := cell_at (j := 1) h4 rfl
  have d2 := cell_at (j := 2) h4 rfl
  have d3 := cell_at (j := 3) h4 rfl
  refine bodyPost_ret (v := .tuple #[.agg #[.int .i64 0, .int .u64 0, .string ⟨#[]⟩, .slice none 0 0], .int .i64 3]) ?_ rfl ⟨rfl, hbf⟩
  simp [results, Tryz.results9, asAddr, go_sem, d0, d1, d2, d3]
set_option maxRecDepth 100000 in
set_option maxHeartbeats 4000000 in
theorem rget_bad (ao : Option Addr) (len cap : Nat) (t : Int) (b : ByteArray) (hs : b.size ≤ 281474976710656) (w : World) (x : Int) (hx : x ≠ 8) (h0 : x ≠ 0) (hl : ¬ 512 < b.size) (hfi : ∀ wx, Below w.heap.size w wx → Calls Tryz.prog 11 #[.slice ao len cap, .int .i64 t, .string b] wx (FirstRes (.bad x) wx)) :
    Calls Tryz.prog 9 #[.slice ao len cap, .int .i64 t, .string b] w (GetRes (.bad x) w) := by
  have HFI := Lib.hid hfi
  have HB := Lib.hid ((Below.refl w.heap.size w).alloc (Nat.le_refl _) zeroG)
  have HQ := Lib.hid (alloc_at w zeroG)
  clear hfi
  have hx8 : (x == 8) = false := by simpa using hx
  have hx0 : (x == 0) = false := by simpa using h0
  have hl1 : decide ((512 : Int) < (b.size : Int)) = false := decide_eq_false (by omega)
  go_enter Tryz.func9, Tryz.ntmps9
  go_upto_region 2 with (go_at_call 11; refine (HFI.out _ HB.out).mono ?_; rintro e w1 ⟨rfl, hb1⟩; have HB1 := Lib.hid (below_step8' HB.out hb1); have HQ1 := Lib.hid (box_keep HQ.out hb1); have hl := lt_of_block HQ1.out; have hl0 := lt_of_block HQ.out)
  have k1 := alloc_at w1 (zeroG)
  have HB3 := Lib.hid (HB1.out.alloc HB1.out.size (zeroG))
  have HQ3 := Lib.hid (alloc_old (o := zeroG) HQ1.out)
  have u0 := cell_at (j := 0) k1 rfl; have u1 := cell_at (j := 1) k1 rfl; have u2 := cell_at (j := 2) k1 rfl; have u3 := cell_at (j := 3) k1 rfl
  have ne3 : ¬ w1.heap.size = w.heap.size := by omega
  have ne4 : ¬ w.heap.size = w1.heap.size := by omega
  clear k1
  generalize w1.alloc (zeroG) = W at *
  have r0 := cell_at (j := 0) HQ3.out rfl; have r1 := cell_at (j := 1) HQ3.out rfl; have r2 := cell_at (j := 2) HQ3.out rfl; have r3 := cell_at (j := 3) HQ3.out rfl; have s0 := free_at (j := 0) HQ3.out; have s1 := free_at (j := 1) HQ3.out; have s2 := free_at (j := 2) HQ3.out; have s3 := free_at (j := 3) HQ3.out
  go_wp2
  have h4 := set4_at HQ3.out (0) (0) (⟨#[]⟩) (none) (0) (0)
  have hbf := set4_below HB3.out (0) (0) (⟨#[]⟩) (none) (0) (0)
  have d0 := cell_at (j := 0) h4 rfl
  have d1 := cell_at (j := 1) h4 rfl
  have d2 := cell_at (j := 2) h4 rfl
  have d3 := cell_at (j := 3) h4 rfl
  refine bodyPost_ret (v := .tuple #[.agg #[.int .i64 0, .int .u64 0, .string ⟨#[]⟩, .slice none 0 0], .int .i64 x]) ?_ rfl ⟨rfl, hbf⟩
  simp [results, Tryz.results9, asAddr, go_sem, d0, d1, d2, d3]
set_option maxRecDepth 100000 in
set_option maxHeartbeats 4000000 in
theorem rget_more (ao : Option Addr) (len cap : Nat) (t : Int) (b : ByteArray) (hs : b.size ≤ 281474976710656) (w : World) (V : VT) (n : Nat) (hl : ¬ 512 < b.size) (hn : n < b.size) (hfi : ∀ wx, Below w.heap.size w wx → Calls Tryz.prog 11 #[.slice ao len cap, .int .i64 t, .string b] wx (FirstRes (.ok V n) wx)) :
    Calls Tryz.prog 9 #[.slice ao len cap, .int .i64 t, .string b] w (GetRes (.bad 1) w) := by
  have HFI := Lib.hid hfi
  have HB := Lib.hid ((Below.refl w.heap.size w).alloc (Nat.le_refl _) zeroG)
  have HQ := Lib.hid (alloc_at w zeroG)
  clear hfi
  have hl1 : decide ((512 : Int) < (b.size : Int)) = false := decide_eq_false (by omega)
  go_enter Tryz.func9, Tryz.ntmps9
  go_upto_region 2 with (go_at_call 11; refine (HFI.out _ HB.out).mono ?_; rintro e w1 ⟨U, rfl, hU, hV, hb1⟩; have HB1 := Lib.hid (below_step8' HB.out hb1); have HQ1 := Lib.hid (box_keep HQ.out hb1); have hl := lt_of_block HQ1.out; have hl0 := lt_of_block HQ.out; have HU := Lib.hid hU; have HV := Lib.hid hV; clear hU hV)
  have k1 := alloc_at w1 (.cells #[.int .i64 U.kind, .int .u64 U.num, .string U.text, .slice U.ia U.len U.cap] 28)
  have HB3 := Lib.hid (HB1.out.alloc HB1.out.size (.cells #[.int .i64 U.kind, .int .u64 U.num, .string U.text, .slice U.ia U.len U.cap] 28))
  have HQ3 := Lib.hid (alloc_old (o := .cells #[.int .i64 U.kind, .int .u64 U.num, .string U.text, .slice U.ia U.len U.cap] 28) HQ1.out)
  have HV3 := Lib.hid (HV.out.next ((Below.refl _ _).alloc (Nat.le_refl _) (.cells #[.int .i64 U.kind, .int .u64 U.num, .string U.text, .slice U.ia U.len U.cap] 28)))
  have u0 := cell_at (j := 0) k1 rfl; have u1 := cell_at (j := 1) k1 rfl; have u2 := cell_at (j := 2) k1 rfl; have u3 := cell_at (j := 3) k1 rfl
  have ne3 : ¬ w1.heap.size = w.heap.size := by omega
  have ne4 : ¬ w.heap.size = w1.heap.size := by omega
  clear k1
  generalize w1.alloc (.cells #[.int .i64 U.kind, .int .u64 U.num, .string U.text, .slice U.ia U.len U.cap] 28) = W at *
  have r0 := cell_at (j := 0) HQ3.out rfl; have r1 := cell_at (j := 1) HQ3.out rfl; have r2 := cell_at (j := 2) HQ3.out rfl; have r3 := cell_at (j := 3) HQ3.out rfl; have s0 := free_at (j := 0) HQ3.out; have s1 := free_at (j := 1) HQ3.out; have s2 := free_at (j := 2) HQ3.out; have s3 := free_at (j := 3) HQ3.out
  go_wp2
  have h4 := set4_at HQ3.out (0) (0) (⟨#[]⟩) (none) (0) (0)
  have hbf := set4_below HB3.out (0) (0) (⟨#[]⟩) (none) (0) (0)
  have d0 := cell_at (j := 0) h4 rfl
  have d1 := cell_at (j := 1) h4 rfl
  have d2 := cell_at (j := 2) h4 rfl
  have d3 := cell_at (j := 3) h4 rfl
  refine bodyPost_ret (v := .tuple #[.agg #[.int .i64 0, .int .u64 0, .string ⟨#[]⟩, .slice none 0 0], .int .i64 1]) ?_ rfl ⟨rfl, hbf⟩
  simp [results, Tryz.results9, asAddr, go_sem, d0, d1, d2, d3]
set_option maxRecDepth 100000 in
set_option maxHeartbeats 4000000 in
theorem rget_ok (ao : Option Addr) (len cap : Nat) (t : Int) (b : ByteArray) (hs : b.size ≤ 281474976710656) (w : World) (V : VT) (n : Nat) (hl : ¬ 512 < b.size) (hn : ¬ n < b.size) (hfi : ∀ wx, Below w.heap.size w wx → Calls Tryz.prog 11 #[.slice ao len cap, .int .i64 t, .string b] wx (FirstRes (.ok V n) wx)) :
    Calls Tryz.prog 9 #[.slice ao len cap, .int .i64 t, .string b] w (GetRes (.ok V n) w) := by
  have HFI := Lib.hid hfi
  have HB := Lib.hid ((Below.refl w.heap.size w).alloc (Nat.le_refl _) zeroG)
  have HQ := Lib.hid (alloc_at w zeroG)
  clear hfi
  have hl1 : decide ((512 : Int) < (b.size : Int)) = false := decide_eq_false (by omega)
  go_enter Tryz.func9, Tryz.ntmps9
  go_upto_region 2 with (go_at_call 11; refine (HFI.out _ HB.out).mono ?_; rintro e w1 ⟨U, rfl, hU, hV, hb1⟩; have HB1 := Lib.hid (below_step8' HB.out hb1); have HQ1 := Lib.hid (box_keep HQ.out hb1); have hl := lt_of_block HQ1.out; have hl0 := lt_of_block HQ.out; have HU := Lib.hid hU; have HV := Lib.hid hV; clear hU hV)
  have k1 := alloc_at w1 (.cells #[.int .i64 U.kind, .int .u64 U.num, .string U.text, .slice U.ia U.len U.cap] 28)
  have HB3 := Lib.hid (HB1.out.alloc HB1.out.size (.cells #[.int .i64 U.kind, .int .u64 U.num, .string U.text, .slice U.ia U.len U.cap] 28))
  have HQ3 := Lib.hid (alloc_old (o := .cells #[.int .i64 U.kind, .int .u64 U.num, .string U.text, .slice U.ia U.len U.cap] 28) HQ1.out)
  have HV3 := Lib.hid (HV.out.next ((Below.refl _ _).alloc (Nat.le_refl _) (.cells #[.int .i64 U.kind, .int .u64 U.num, .string U.text, .slice U.ia U.len U.cap] 28)))
  have u0 := cell_at (j := 0) k1 rfl; have u1 := cell_at (j := 1) k1 rfl; have u2 := cell_at (j := 2) k1 rfl; have u3 := cell_at (j := 3) k1 rfl
  have ne3 : ¬ w1.heap.size = w.heap.size := by omega
  have ne4 : ¬ w.heap.size = w1.heap.size := by omega
  clear k1
  generalize w1.alloc (.cells #[.int .i64 U.kind, .int .u64 U.num, .string U.text, .slice U.ia U.len U.cap] 28) = W at *
  have r0 := cell_at (j := 0) HQ3.out rfl; have r1 := cell_at (j := 1) HQ3.out rfl; have r2 := cell_at (j := 2) HQ3.out rfl; have r3 := cell_at (j := 3) HQ3.out rfl; have s0 := free_at (j := 0) HQ3.out; have s1 := free_at (j := 1) HQ3.out; have s2 := free_at (j := 2) HQ3.out; have s3 := free_at (j := 3) HQ3.out
  go_wp2
  have h4 := set4_at HQ3.out (U.kind) (U.num) (U.text) (U.ia) (U.len) (U.cap)
  have hbf := set4_below HB3.out (U.kind) (U.num) (U.text) (U.ia) (U.len) (U.cap)
  have hvf := set4_val (w := w) HV3.out (fun k hk => by have h7 : (w.alloc zeroG).heap.size ≤ k := hk; rw [show (w.alloc zeroG).heap.size = w.heap.size + 1 by simp] at h7; omega) U.kind U.num U.text U.ia U.len U.cap
  have d0 := cell_at (j := 0) h4 rfl
  have d1 := cell_at (j := 1) h4 rfl
  have d2 := cell_at (j := 2) h4 rfl
  have d3 := cell_at (j := 3) h4 rfl
  refine bodyPost_ret (v := .tuple #[.agg #[.int .i64 U.kind, .int .u64 U.num, .string U.text, .slice U.ia U.len U.cap], .int .i64 0]) ?_ rfl ⟨U, rfl, HU.out, hvf, hbf⟩
  simp [results, Tryz.results9, asAddr, go_sem, d0, d1, d2, d3]
theorem rget_any (ao : Option Addr) (len cap : Nat) (L : Nat → TypeV) (hlen : len ≤ 1000000) (t : Int) (b : ByteArray) (hs : b.size ≤ 281474976710656) (w : World) (H : ∀ i, i < len → TypeAt w ao i (L i)) :
    Calls Tryz.prog 9 #[.slice ao len cap, .int .i64 t, .string b] w (GetRes (getD L len t b) w) := by
  have hfi := fun wx (hb : Below w.heap.size w wx) => rfirst_any ao len cap L hlen t b hs wx (hold H hb)
  cases hT : hasT L len t with
  | false =>
    have e : getD L len t b = .bad 8 := by unfold getD; rw [hT]; rfl
    have e2 : firstD L len t b = .bad 8 := by unfold firstD; rw [hT]; rfl
    rw [e2] at hfi
    rw [e]
    exact rget_no ao len cap t b hs w 8 rfl hfi
  | true =>
    obtain ⟨k, rfl, hk, hok⟩ := hasT_in hT
    have hv := ok_all hok
    have e2 : firstD L len (k : Nat) b = decF L b (k + 1) k 0 := by unfold firstD; rw [hT, if_pos rfl, Int.toNat_natCast]
    rw [e2] at hfi
    by_cases hl : 512 < b.size
    · have e : getD L len (k : Nat) b = .bad 3 := by unfold getD; rw [hT, if_pos rfl, if_pos hl]
      rw [e]
      cases hd : decF L b (k + 1) k 0 with
      | bad x =>
        rw [hd] at hfi
        exact rget_longb ao len cap k b hs w x (dec_err hv b (k + 1) k 0 x (by omega) hk hd).ne.2 hl hfi
      | ok V n => rw [hd] at hfi; exact rget_longo ao len cap k b hs w V n hl hfi
    · have e : getD L len (k : Nat) b = leftD b (decF L b (k + 1) k 0) := by unfold getD; rw [hT, if_pos rfl, if_neg hl, Int.toNat_natCast]
      rw [e]
      cases hd : decF L b (k + 1) k 0 with
      | bad x =>
        rw [hd] at hfi
        have hx := (dec_err hv b (k + 1) k 0 x (by omega) hk hd).ne
        exact rget_bad ao len cap k b hs w x hx.2 hx.1 hl hfi
      | ok V n =>
        rw [hd] at hfi
        by_cases hn : n < b.size
        · have e3 : leftD b (.ok V n) = .bad 1 := if_pos hn
          rw [e3]
          exact rget_more ao len cap k b hs w V n hl hn hfi
        · have e3 : leftD b (.ok V n) = .ok V n := if_neg hn
          rw [e3]
          exact rget_ok ao len cap k b hs w V n hl hn hfi
end Go.Proofs.YtmnemddagcfjgaaGreatDoor
