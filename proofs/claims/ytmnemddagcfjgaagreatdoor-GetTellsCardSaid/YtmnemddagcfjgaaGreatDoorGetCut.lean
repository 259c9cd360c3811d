/- Chapter 11: no beginning of a value's bytes is a value's: it is too short. -/
import Derived.Test.YtmnemddagcfjgaaGreatDoorGetOne
namespace Go.Proofs.YtmnemddagcfjgaaGreatDoor
open Go.RowKit
set_option linter.unusedVariables false
theorem pre_app {Q r : ByteArray} {c : Nat} (h : Q.size ≤ c) : preB11 (Q ++ r) c = Q ++ preB11 r (c - Q.size) := by
  apply data_ext
  have e : (Q ++ preB11 r (c - Q.size)).data.toList = Q.data.toList ++ (preB11 r (c - Q.size)).data.toList := by simp
  have e2 : (Q ++ r).data.toList = Q.data.toList ++ r.data.toList := by simp
  rw [e, pre_list, pre_list, e2, List.take_append, List.take_of_length_le (by rw [len_list]; exact h), len_list]
theorem pre_fst {Q r : ByteArray} {c : Nat} (h : c ≤ Q.size) : preB11 (Q ++ r) c = preB11 Q c := by
  apply data_ext
  have e2 : (Q ++ r).data.toList = Q.data.toList ++ r.data.toList := by simp
  rw [pre_list, pre_list, e2, List.take_append_of_le_length (by rw [len_list]; exact h)]
theorem byteAt_pre {b : ByteArray} {c i : Nat} (h : i < c) : byteAt (preB11 b c) i = byteAt b i := by
  unfold byteAt
  rw [pre_list, List.getD_eq_getElem?_getD, List.getD_eq_getElem?_getD, List.getElem?_take, if_pos h]
theorem scan_cut {s : ByteArray} : ∀ (g a : Nat), a ≤ s.size → s.size < a + g → (∀ i, a + i < s.size → byteAt s (a + i) = 0) → scanE s a g = 2
  | 0, a, h0, h1, _ => by omega
  | g + 1, a, h0, h1, h => by
    by_cases c : s.size ≤ a
    · exact scan_short c
    · rw [scan_ok (by omega) (by simpa using h 0 (by omega))]
      exact scan_cut g (a + 1) (by omega) (by omega) (fun i hi => by have := h (i + 1) (by omega); rwa [show a + (i + 1) = a + 1 + i by omega] at this)
/-- a number whose bytes are cut off -/
theorem num_cut {n z : Int} (h : okPart (.num n z)) (P : ByteArray) (c : Nat) (h0 : P.size ≤ c) (h1 : c < (bytP (.num n z) P).size) : tkE (preB11 (bytP (.num n z) P) c) P.size z = 2 := by
  have hs : (preB11 (bytP (.num n z) P) c).size = c := pre_size (by omega)
  have hsz : (bytP (.num n z) P).size = P.size + gapN P.size z + z.toNat := by
    show (P ++ zerosB (gapN P.size z) ++ putS n z).size = _
    rw [ByteArray.size_append, ByteArray.size_append, zerosB_size, putS_size]
  have hzero : ∀ i, i < gapN P.size z → byteAt (bytP (.num n z) P) (P.size + i) = 0 := fun i hi => byteAt_zero P (putS n z) _ i hi
  have hz0 := (sz_nat h.1).2
  by_cases c1 : c < P.size + gapN P.size z
  · have e : scanE (preB11 (bytP (.num n z) P) c) P.size (gapN P.size z) = 2 := scan_cut _ _ (by omega) (by omega) (fun i hi => by
      rw [byteAt_pre (by omega)]; exact hzero i (by omega))
    rw [tk_scan (by rw [e]; decide), e]
  · have e : scanE (preB11 (bytP (.num n z) P) c) P.size (gapN P.size z) = 0 := scan_zero (by omega) (fun i hi => by
      rw [byteAt_pre (by omega)]; exact hzero i hi)
    exact tk_short h.1 (by omega) e (by omega)
theorem stepD_bad {D : Nat → Nat → DR} {n : Nat} {S : DS} {e : Int} (h : S = .bad e) : stepD D n S = .bad e := by rw [h]; rfl
/-- the Items, cut off -/
theorem seq_cut {D : Nat → Nat → DR} {f : Nat → List RPart} {Q : ByteArray} {c : Nat} : ∀ (n : Nat),
    (∀ i, i < n → (bytR (catTo f (i + 1)) Q).size ≤ c → ∃ U, D i (bytR (catTo f i) Q).size = .ok U (bytR (catTo f (i + 1)) Q).size) →
    (∀ i, i < n → (bytR (catTo f i) Q).size ≤ c → c < (bytR (catTo f (i + 1)) Q).size → D i (bytR (catTo f i) Q).size = .bad 2) →
    Q.size ≤ c → (c < (bytR (catTo f n) Q).size → seqD D Q.size n = .bad 2) ∧ ((bytR (catTo f n) Q).size ≤ c → ∃ K, seqD D Q.size n = .ok K (bytR (catTo f n) Q).size)
  | 0, _, _, h0 => ⟨fun h => by have : c < Q.size := h; omega, fun _ => ⟨_, rfl⟩⟩
  | n + 1, h1, h2, h0 => by
    obtain ⟨i1, i2⟩ := seq_cut (f := f) n (fun i hi => h1 i (by omega)) (fun i hi => h2 i (by omega)) h0
    have hmono : (bytR (catTo f n) Q).size ≤ (bytR (catTo f (n + 1)) Q).size := by
      obtain ⟨r, hr⟩ := bytR_pre (f n) (bytR (catTo f n) Q)
      rw [cat_next, hr, ByteArray.size_append]; omega
    refine ⟨fun hc => ?_, fun hc => ?_⟩
    · by_cases c1 : c < (bytR (catTo f n) Q).size
      · exact stepD_bad (i1 c1)
      · obtain ⟨K, hK⟩ := i2 (by omega)
        show stepD D n (seqD D Q.size n) = _
        rw [hK]
        show (match D n (bytR (catTo f n) Q).size with | .bad e => DS.bad e | .ok v a' => .ok (putK K n v) a') = _
        rw [h2 n (by omega) (by omega) hc]
    · obtain ⟨K, hK⟩ := i2 (by omega)
      obtain ⟨U, hU⟩ := h1 n (by omega) hc
      refine ⟨putK K n U, ?_⟩
      show stepD D n (seqD D Q.size n) = _
      rw [hK]
      show (match D n (bytR (catTo f n) Q).size with | .bad e => DS.bad e | .ok v a' => .ok (putK K n v) a') = _
      rw [hU]
/-- a beginning of a value's bytes is too short -/
theorem dec_cut {L : Nat → TypeV} {len : Nat} (hv : ∀ i, i < len → OkT L i) (he : EnumOk L len) : ∀ (k t : Nat) (T : VT) (P : ByteArray) (c : Nat), t < k → t < len → T.wfN → fitsT L T t = 0 →
    P.size ≤ c → c < (bytR (rowT L T t) P).size → decF L (preB11 (bytR (rowT L T t) P) c) k t P.size = .bad 2 := by
  intro k
  induction k with
  | zero => intro t T P c h; omega
  | succ k ih =>
    intro t T P c hk ht hw hf hc0 hc1
    obtain ⟨hh, hz⟩ := fits_zero hf
    have Hd := head_ok hh
    have ok := hv t ht
    obtain ⟨w0, w1, wk⟩ := (wfN_iff T).1 hw
    have hpo := fun i (hi : i < T.len) => part_ok ok hh hi
    -- the Items behind a head Q
    have hkids : ∀ (Q : ByteArray) (D : Nat → Nat → DR), bytR (rowT L T t) P = bytR (catTo (fun i => rowT L (T.kid i) (partT L t T.num i)) T.len) Q → Q.size ≤ c →
        (∀ i, i < T.len → D i = decF L (preB11 (bytR (rowT L T t) P) c) k (partT L t T.num i)) → seqD D Q.size T.len = .bad 2 := by
      intro Q D hQ hq hD
      rw [hQ] at hD hc1
      refine (seq_cut (f := fun i => rowT L (T.kid i) (partT L t T.num i)) (Q := Q) (c := c) T.len (fun i hi h1 => ?_) (fun i hi h1 h2 => ?_) hq).1 hc1
      · obtain ⟨r, hr⟩ := cat_pre (fun i => rowT L (T.kid i) (partT L t T.num i)) Q (i := i + 1) (n := T.len) hi
        have hp := hpo i hi
        obtain ⟨U, g1, g2⟩ := dec_back hv he k (partT L t T.num i) (T.kid i) (bytR (catTo (fun i => rowT L (T.kid i) (partT L t T.num i)) i) Q) (preB11 r (c - (bytR (catTo (fun i => rowT L (T.kid i) (partT L t T.num i)) (i + 1)) Q).size)) (by omega) (by omega) (wk i hi) (hz i hi)
        rw [← cat_next (fun i => rowT L (T.kid i) (partT L t T.num i)), ← pre_app h1, ← hr] at g1
        exact ⟨U, by rw [hD i hi]; exact g1⟩
      · obtain ⟨r, hr⟩ := cat_pre (fun i => rowT L (T.kid i) (partT L t T.num i)) Q (i := i + 1) (n := T.len) hi
        have hp := hpo i hi
        have g := ih (partT L t T.num i) (T.kid i) (bytR (catTo (fun i => rowT L (T.kid i) (partT L t T.num i)) i) Q) c (by omega) (by omega) (wk i hi) (hz i hi) h1 (by rw [← cat_next (fun i => rowT L (T.kid i) (partT L t T.num i))]; exact h2)
        rw [← cat_next (fun i => rowT L (T.kid i) (partT L t T.num i))] at g
        rw [hD i hi, hr, pre_fst (by omega)]
        exact g
    have erow := rowT_eq L T t
    unfold headR at erow
    by_cases e0 : (L t).kind = 10
    · rw [if_pos e0] at erow
      have hl0 : T.len = 0 := form_len0 Hd.form (by rw [Hd.kind]; exact .inl e0)
      have hts := Hd.text e0
      have hbd := ok.bound (.inl e0)
      rw [hl0] at erow
      have erow : rowT L T t = [.num (((T.text.size : Nat) : Int) + 1) 4, .text (T.text ++ ⟨#[0]⟩)] := erow.trans (List.append_nil _)
      rw [erow] at hc1 ⊢
      have hb : bytR [.num (((T.text.size : Nat) : Int) + 1) 4, .text (T.text ++ ⟨#[0]⟩)] P = bytP (.num (((T.text.size : Nat) : Int) + 1) 4) P ++ (T.text ++ ⟨#[0]⟩) := rfl
      rw [hb] at hc1 ⊢
      have hs1 : (T.text ++ (⟨#[0]⟩ : ByteArray)).size = T.text.size + 1 := by rw [ByteArray.size_append]; rfl
      have hnum : okPart (.num (((T.text.size : Nat) : Int) + 1) 4) := four_ok (by omega) (by omega)
      unfold decF
      rw [if_pos e0]
      have hx : xE (L t).bound (preB11 (bytP (.num (((T.text.size : Nat) : Int) + 1) 4) P ++ (T.text ++ ⟨#[0]⟩)) c) P.size = 2 := by
        by_cases c1 : c < (bytP (.num (((T.text.size : Nat) : Int) + 1) 4) P).size
        · have e := num_cut hnum P c hc0 c1
          rw [pre_fst (by omega)]
          unfold xE
          rw [if_pos (by rw [e]; decide), e]
        · obtain ⟨g1, g2, g3⟩ := num_got hnum P (preB11 (T.text ++ ⟨#[0]⟩) (c - (bytP (.num (((T.text.size : Nat) : Int) + 1) 4) P).size))
          rw [← pre_app (by omega)] at g1 g2 g3
          have hs2 := pre_size (b := bytP (.num (((T.text.size : Nat) : Int) + 1) 4) P ++ (T.text ++ ⟨#[0]⟩)) (a := c) (by omega)
          rw [ByteArray.size_append, hs1] at hc1
          have e : txE (preB11 (bytP (.num (((T.text.size : Nat) : Int) + 1) 4) P ++ (T.text ++ ⟨#[0]⟩)) c) ((bytP (.num (((T.text.size : Nat) : Int) + 1) 4) P).size : Nat) (((T.text.size : Nat) : Int) + 1) = 2 := by
            unfold txE
            rw [if_neg (by omega), hs2, if_pos (by omega)]
          unfold xE
          rw [if_neg (by rw [g1]; decide), if_neg (by rw [g2]; omega), if_neg (by rw [g2]; omega), g2, g3, if_pos (by rw [e]; decide), e]
      rw [if_pos (by rw [hx]; decide), hx]
    rw [if_neg e0] at erow
    by_cases e1 : (L t).kind = 11
    · rw [if_pos e1] at erow
      have hs := Hd.seq e1
      have hbd := ok.bound (.inr (.inl e1))
      have hnum : okPart (.num ((T.len : Nat) : Int) 4) := four_ok (by omega) (by omega)
      have hb : bytR (rowT L T t) P = bytR (catTo (fun i => rowT L (T.kid i) (partT L t T.num i)) T.len) (bytP (.num ((T.len : Nat) : Int) 4) P) := by rw [erow, bytR_app]; rfl
      obtain ⟨r, hr⟩ := bytR_pre (catTo (fun i => rowT L (T.kid i) (partT L t T.num i)) T.len) (bytP (.num ((T.len : Nat) : Int) 4) P)
      have hbr := hb.trans hr
      unfold decF
      rw [if_neg e0, if_pos e1]
      by_cases c1 : c < (bytP (.num ((T.len : Nat) : Int) 4) P).size
      · have e := num_cut hnum P c hc0 c1
        have hl : lE (L t).bound (preB11 (bytR (rowT L T t) P) c) P.size = 2 := by
          rw [hbr, pre_fst (by omega)]
          unfold lE
          rw [if_pos (by rw [e]; decide), e]
        rw [if_pos (by rw [hl]; decide), hl]
      · obtain ⟨g1, g2, g3⟩ := num_got hnum P (preB11 r (c - (bytP (.num ((T.len : Nat) : Int) 4) P).size))
        rw [← pre_app (by omega), ← hbr] at g1 g2 g3
        have hl : lE (L t).bound (preB11 (bytR (rowT L T t) P) c) P.size = 0 := by unfold lE; rw [if_neg (by rw [g1]; decide), if_neg (by rw [g2]; omega)]
        rw [if_neg (by rw [hl]; decide), g2, g3, Int.toNat_natCast, hkids _ _ hb (by omega) (fun i hi => by
          have : partT L t T.num i = (L t).of.toNat := by unfold partT; rw [if_neg (by omega), if_neg (by omega)]
          rw [this])]
        rfl
    rw [if_neg e1] at erow
    by_cases e2 : (L t).kind = 12
    · rw [if_pos (Or.inl e2)] at erow
      have hs := Hd.arr e2
      have hb : bytR (rowT L T t) P = bytR (catTo (fun i => rowT L (T.kid i) (partT L t T.num i)) T.len) P := by rw [erow]; rfl
      unfold decF
      have hbn : (L t).bound.toNat = T.len := by omega
      rw [if_neg e0, if_neg e1, if_pos e2, hbn, hkids P _ hb hc0 (fun i hi => by
        have : partT L t T.num i = (L t).of.toNat := by unfold partT; rw [if_neg (by omega), if_neg (by omega)]
        rw [this])]
      rfl
    by_cases e3 : (L t).kind = 13
    · rw [if_pos (Or.inr e3)] at erow
      have hs := Hd.str e3
      have hb : bytR (rowT L T t) P = bytR (catTo (fun i => rowT L (T.kid i) (partT L t T.num i)) T.len) P := by rw [erow]; rfl
      unfold decF
      rw [if_neg e0, if_neg e1, if_neg e2, if_pos e3, ← hs, hkids P _ hb hc0 (fun i hi => by
        have : partT L t T.num i = ((L t).items i).type.toNat := by unfold partT; rw [if_pos e3]
        rw [this])]
      rfl
    rw [if_neg (by omega)] at erow
    by_cases e4 : (L t).kind = 14
    · rw [if_pos e4] at erow
      obtain ⟨hnn, hbn⟩ := Hd.uni e4
      have htg := ok.tag e4
      have hnum := low_ok (n := T.num) htg.2.2.2
      have hb : bytR (rowT L T t) P = bytR (catTo (fun i => rowT L (T.kid i) (partT L t T.num i)) T.len) (bytP (.num (lowK (L (L t).tag.toNat).kind T.num) (szK (L (L t).tag.toNat).kind)) P) := by rw [erow, bytR_app]; rfl
      obtain ⟨r, hr⟩ := bytR_pre (catTo (fun i => rowT L (T.kid i) (partT L t T.num i)) T.len) (bytP (.num (lowK (L (L t).tag.toNat).kind T.num) (szK (L (L t).tag.toNat).kind)) P)
      have hbr := hb.trans hr
      unfold decF
      rw [if_neg e0, if_neg e1, if_neg e2, if_neg e3, if_pos e4]
      by_cases c1 : c < (bytP (.num (lowK (L (L t).tag.toNat).kind T.num) (szK (L (L t).tag.toNat).kind)) P).size
      · have e := num_cut hnum P c hc0 c1
        have hl : nE L (L t).tag.toNat (preB11 (bytR (rowT L T t) P) c) P.size = 2 := by
          rw [hbr, pre_fst (by omega)]
          unfold nE
          rw [if_pos (by rw [e]; decide), e]
        rw [if_pos (by rw [hl]; decide), hl]
      · obtain ⟨g1, g2, g3⟩ := type_got he (p := (L t).tag.toNat) (by omega) htg.2.2.2 w0 (by omega) hnn P (preB11 r (c - (bytP (.num (lowK (L (L t).tag.toNat).kind T.num) (szK (L (L t).tag.toNat).kind)) P).size))
        rw [← pre_app (by omega), ← hbr] at g1 g2 g3
        rw [if_neg (by rw [g1]; decide), g2, g3, ← hbn, hkids _ _ hb (by omega) (fun i hi => by
          have : partT L t T.num i = ((L t).items ((branchZ (L t) T.num).toNat + i)).type.toNat := by unfold partT; rw [if_neg (by omega), if_pos e4]
          rw [this])]
        rfl
    rw [if_neg e4] at erow
    have hkn := ok_num ok e0 e1 e2 e3 e4
    have hl0 : T.len = 0 := form_len0 Hd.form (by rw [Hd.kind]; have := ok.kind; omega)
    rw [hl0] at erow
    have erow : rowT L T t = [.num (lowK (L t).kind T.num) (szK (L t).kind)] := erow.trans (List.append_nil _)
    have hb : bytR (rowT L T t) P = bytP (.num (lowK (L t).kind T.num) (szK (L t).kind)) P := by rw [erow]; rfl
    rw [hb] at hc1 ⊢
    have e := num_cut (low_ok (n := T.num) hkn) P c hc0 hc1
    unfold decF
    rw [if_neg e0, if_neg e1, if_neg e2, if_neg e3, if_neg e4]
    have hl : nE L t (preB11 (bytP (.num (lowK (L t).kind T.num) (szK (L t).kind)) P) c) P.size = 2 := by
      unfold nE
      rw [if_pos (by rw [e]; decide), e]
    rw [if_pos (by rw [hl]; decide), hl]
end Go.Proofs.YtmnemddagcfjgaaGreatDoor
