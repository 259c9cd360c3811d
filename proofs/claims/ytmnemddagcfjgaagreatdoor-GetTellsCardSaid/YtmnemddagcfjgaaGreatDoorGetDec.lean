/- get: the value of a type at a place, whatever the bytes. -/
import Derived.Test.YtmnemddagcfjgaaGreatDoorGetVal
namespace Go.Proofs.YtmnemddagcfjgaaGreatDoor
open Go.RowKit
set_option linter.unusedVariables false
theorem sizeN_xs {bound : Int} {b : ByteArray} {a : Nat} (ha : a ≤ b.size) (hb : bound ≤ 64) (h : xE bound b a = 0) : (xS b a).size ≤ 140737488351232 := by
  obtain ⟨c0, c1, c2, c3, c4, c5⟩ := x_zero h
  obtain ⟨m, hm⟩ := text_len_of ha c0 c1
  obtain ⟨h1, h2⟩ := text_got_of hm c3
  rw [h2, ByteArray.size_extract]
  omega
theorem l_zero {bound : Int} {b : ByteArray} {a : Nat} (h : lE bound b a = 0) : tkE b a 4 = 0 ∧ ¬ bound < tkN b a 4 := by
  unfold lE at h
  split at h
  · rename_i c; exact absurd h c
  · rename_i c
    split at h
    · cases h
    · rename_i c1; exact ⟨by simpa using c, c1⟩
set_option maxHeartbeats 2000000 in
theorem rval_any {w0 : World} {c : Nat} {b : ByteArray} (ao : Option Addr) (len cap : Nat) (L : Nat → TypeV) (hlen : len ≤ 1000000) (hv : ∀ i, i < len → OkT L i) (hcp : ∀ i, i < len → (L i).ilen ≤ (L i).icap) (H : ∀ i, i < len → TypeAt w0 ao i (L i)) (hs : b.size ≤ 281474976710656) :
    ∀ (k t : Nat), t < k → t < len → ValC w0 c b ao len cap t (decF L b k t) := by
  intro k
  induction k with
  | zero => intro t h; omega
  | succ k ih =>
    intro t hk ht wx ax h
    have ok := hv t ht
    unfold decF
    by_cases e0 : (L t).kind = 10
    · rw [if_pos e0]
      have hb := ok.bound (.inl e0)
      by_cases hx : xE (L t).bound b ax = 0
      · rw [if_neg (by rw [hx]; decide)]
        have := rval10_ok ao len cap t ht (L t) (H t ht) h e0 (xS b ax) (sizeN_xs h.le hb.2 hx) (xA b ax) (fun wy hy => rtext_ok ao len cap (L t).bound hb.1 hb.2 hy hs hx)
        rw [e0] at this
        exact this
      · rw [if_pos hx]
        exact rval10_bad ao len cap t ht (L t) (H t ht) h e0 _ (fun wy hy => rtext_bad ao len cap (L t).bound hb.1 hb.2 hy hs hx)
    rw [if_neg e0]
    by_cases e1 : (L t).kind = 11
    · rw [if_pos e1]
      have hb := ok.bound (.inr (.inl e1))
      have hof := ok.of (.inl e1)
      have hofn : (L t).of = ((L t).of.toNat : Nat) := by omega
      by_cases hx : lE (L t).bound b ax = 0
      · rw [if_neg (by rw [hx]; decide)]
        obtain ⟨c0, c1⟩ := l_zero hx
        have hn0 := (tkN_range h.le c0).1
        obtain ⟨m, hm⟩ : ∃ m : Nat, tkN b ax 4 = m := ⟨(tkN b ax 4).toNat, by omega⟩
        have hm64 : m ≤ 64 := by omega
        have hcount : ∀ wy, RdAt w0 c b ax wy → Calls Tryz.prog 42 #[.agg #[.slice ao len cap, .pointer (some ⟨c, 0, none⟩)], .int .i64 (L t).bound] wy (GotTo w0 c b (tkA b ax 4) (.int .i64 (m : Nat)) wy) := fun wy hy => by
          have := rcount_ok ao len cap (L t).bound hb.1 (by omega) hy hs c0 c1
          rwa [hm] at this
        rw [hm, Int.toNat_natCast]
        have hel := fun wy (hy : RdAt w0 c b (tkA b ax 4) wy) => relems_any ao len cap (L t).of.toNat m hm64 _ (ih (L t).of.toNat (by omega) (by omega)) hy
        cases hS : seqD (fun _ => decF L b k (L t).of.toNat) (tkA b ax 4) m with
        | bad x =>
          rw [hS] at hel
          exact rval11_b2 ao len cap t ht (L t) (H t ht) h e1 _ hofn m _ x hcount hel
        | ok K a2 =>
          rw [hS] at hel
          have := rval11_ok ao len cap t ht (L t) (H t ht) h e1 _ hofn m _ hm64 K a2 hcount hel
          rw [e1] at this
          exact this
      · rw [if_pos hx]
        refine rval11_b1 ao len cap t ht (L t) (H t ht) h e1 _ hofn _ (fun wy hy => ?_)
        by_cases c0 : tkE b ax 4 = 0
        · by_cases c1 : (L t).bound < tkN b ax 4
          · have e : lE (L t).bound b ax = 3 := by unfold lE; rw [if_neg (by rw [c0]; decide), if_pos c1]
            rw [e]
            exact rcount_long ao len cap (L t).bound hb.1 (by omega) hy hs c0 c1
          · exact absurd (show lE (L t).bound b ax = 0 by unfold lE; rw [if_neg (by rw [c0]; decide), if_neg c1]) hx
        · have e : lE (L t).bound b ax = tkE b ax 4 := by unfold lE; rw [if_pos c0]
          rw [e]
          exact rcount_bad ao len cap (L t).bound hy hs c0
    rw [if_neg e1]
    by_cases e2 : (L t).kind = 12
    · rw [if_pos e2]
      have hb := ok.bound (.inr (.inr e2))
      have hof := ok.of (.inr e2)
      have hofn : (L t).of = ((L t).of.toNat : Nat) := by omega
      obtain ⟨m, hm⟩ : ∃ m : Nat, (L t).bound = m := ⟨(L t).bound.toNat, by omega⟩
      have hm64 : m ≤ 64 := by omega
      rw [hm, Int.toNat_natCast]
      have hel := fun wy (hy : RdAt w0 c b ax wy) => relems_any ao len cap (L t).of.toNat m hm64 _ (ih (L t).of.toNat (by omega) (by omega)) hy
      cases hS : seqD (fun _ => decF L b k (L t).of.toNat) ax m with
      | bad x =>
        rw [hS] at hel
        exact rval12_bad ao len cap t ht (L t) (H t ht) h e2 _ m hofn hm x hel
      | ok K a2 =>
        rw [hS] at hel
        have := rval12_ok ao len cap t ht (L t) (H t ht) h e2 _ m hofn hm hm64 K a2 hel
        rw [e2] at this
        exact this
    rw [if_neg e2]
    by_cases e3 : (L t).kind = 13
    · rw [if_pos e3]
      have hc := ok.count (.inl e3)
      have hit := ok.items (.inl e3)
      have hel := fun wy (hy : RdAt w0 c b ax wy) => rmembers_any ao len cap (L t).ia (L t).ilen (L t).icap (by omega) (L t).items (fun i => ((L t).items i).type.toNat) (fun i hi => by have := hit i hi; omega) (fun i => decF L b k ((L t).items i).type.toNat) (fun i hi => ih _ (by have := hit i hi; omega) (by have := hit i hi; omega)) hy (fun i hi => by
        obtain ⟨_, _, _, _, _, _, _, _, _, _, hi'⟩ := H t ht
        exact (hi'.held hy.low).2 i hi)
      cases hS : seqD (fun i => decF L b k ((L t).items i).type.toNat) ax (L t).ilen with
      | bad x =>
        rw [hS] at hel
        exact rval13_bad ao len cap t ht (L t) (H t ht) h e3 x hel
      | ok K a2 =>
        rw [hS] at hel
        have := rval13_ok ao len cap t ht (L t) (H t ht) h e3 (by omega) K a2 hel
        rw [e3] at this
        exact this
    rw [if_neg e3]
    by_cases e4 : (L t).kind = 14
    · rw [if_pos e4]
      have htg := ok.tag e4
      obtain ⟨q, hq⟩ : ∃ q : Nat, (L t).tag = q := ⟨(L t).tag.toNat, by omega⟩
      rw [hq, Int.toNat_natCast]
      have hql : q < len := by omega
      have hqk : numK (L q).kind = true := by have := htg.2.2.2; rwa [hq, Int.toNat_natCast] at this
      by_cases hx : nE L q b ax = 0
      · rw [if_neg (by rw [hx]; decide)]
        have hnum := fun wy (hy : RdAt w0 c b ax wy) => rnum_ok ao len cap L hlen H q hql hqk hy hs hx
        have hnw : (Lit.int .u64 (nN L q b ax)).wf = true := WalkArith.wf_u64 (by unfold nN; have := @up_range (L q).kind (tkN b ax (szK (L q).kind)); omega)
        generalize nN L q b ax = n at *
        have hbr := fun wy (hb : Below w0.heap.size w0 wy) => rbranch_any ao len cap c L hlen t ht n (hcp t ht) wy (hold H hb)
        have hb1 : brN (L t) n ≤ 1 := by unfold brN; split <;> omega
        have hit := fun i (hi : i < brN (L t) n) => br_item ok e4 hi
        have hel := fun wy ba bc (hy : RdAt w0 c b (nA L q b ax) wy) (hI : ∀ i, i < brN (L t) n → ItemAt wy ba i ((L t).items ((branchZ (L t) n).toNat + i))) => rmembers_any ao len cap ba (brN (L t) n) bc (by omega) (fun i => (L t).items ((branchZ (L t) n).toNat + i)) (fun i => ((L t).items ((branchZ (L t) n).toNat + i)).type.toNat) (fun i hi => by have := hit i hi; omega) (fun i => decF L b k ((L t).items ((branchZ (L t) n).toNat + i)).type.toNat) (fun i hi => ih _ (by have := hit i hi; omega) (by have := hit i hi; omega)) hy hI
        cases hS : seqD (fun i => decF L b k ((L t).items ((branchZ (L t) n).toNat + i)).type.toNat) (nA L q b ax) (brN (L t) n) with
        | bad x =>
          rw [hS] at hel
          exact rval14_b2 ao len cap t ht (L t) (H t ht) h e4 q hq n hnw _ hnum _ _ hbr x hel
        | ok K a2 =>
          rw [hS] at hel
          have := rval14_ok ao len cap t ht (L t) (H t ht) h e4 q hq n hnw _ hnum _ _ hbr (by omega) K a2 hel
          rw [e4] at this
          exact this
      · rw [if_pos hx]
        exact rval14_b1 ao len cap t ht (L t) (H t ht) h e4 q hq _ (fun wy hy => rnum_bad ao len cap L hlen H q hql hqk hy hs hx)
    rw [if_neg e4]
    have hkn := ok_num ok e0 e1 e2 e3 e4
    by_cases hx : nE L t b ax = 0
    · rw [if_neg (by rw [hx]; decide)]
      exact rval0_ok ao len cap t ht (L t) (H t ht) h ⟨e0, e1, e2, e3, e4⟩ _ (WalkArith.wf_u64 (by unfold nN; have := @up_range (L t).kind (tkN b ax (szK (L t).kind)); omega)) _ (fun wy hy => rnum_ok ao len cap L hlen H t ht hkn hy hs hx)
    · rw [if_pos hx]
      exact rval0_bad ao len cap t ht (L t) (H t ht) h ⟨e0, e1, e2, e3, e4⟩ _ (fun wy hy => rnum_bad ao len cap L hlen H t ht hkn hy hs hx)
end Go.Proofs.YtmnemddagcfjgaaGreatDoor
