/- Chapter 11 in plain words: what is decoded at a place; what is put is got. -/
import Derived.Test.YtmnemddagcfjgaaGreatDoorAlignTkMath
import Derived.Test.YtmnemddagcfjgaaGreatDoorPutSame
namespace Go.Proofs.YtmnemddagcfjgaaGreatDoor
open Go.RowKit
set_option linter.unusedVariables false
/-- what is decoded: an error, or a value and the place behind it -/
inductive DR where
  | bad (e : Int)
  | ok (v : VT) (a : Nat)
def vNode (k n : Int) (s : ByteArray) (l : Nat) (f : Nat → VT) : VT := .node k n s none l 0 f
/-- a number of a type: its error, itself, the place behind -/
def nN (L : Nat → TypeV) (p : Nat) (b : ByteArray) (a : Nat) : Int := upK (L p).kind (tkN b a (szK (L p).kind))
def nE (L : Nat → TypeV) (p : Nat) (b : ByteArray) (a : Nat) : Int := if tkE b a (szK (L p).kind) ≠ 0 then tkE b a (szK (L p).kind) else if numOk L p (nN L p b a) then 0 else 7
def nA (L : Nat → TypeV) (p : Nat) (b : ByteArray) (a : Nat) : Nat := tkA b a (szK (L p).kind)
/-- a text: the raw bytes, its error, itself, the place behind -/
def xR (b : ByteArray) (a : Nat) : ByteArray := txS b (tkA b a 4) (tkN b a 4)
def xS (b : ByteArray) (a : Nat) : ByteArray := (xR b a).extract 0 ((xR b a).size - 1)
def xE (bound : Int) (b : ByteArray) (a : Nat) : Int :=
  if tkE b a 4 ≠ 0 then tkE b a 4 else if tkN b a 4 = 0 then 1 else if bound + 1 < tkN b a 4 then 3
  else if txE b (tkA b a 4) (tkN b a 4) ≠ 0 then txE b (tkA b a 4) (tkN b a 4)
  else if zeroIn (xS b a) then 10 else if byteAt (xR b a) ((xR b a).size - 1) ≠ 0 then 1 else 0
def xA (b : ByteArray) (a : Nat) : Nat := txA b (tkA b a 4) (tkN b a 4)
/-- how many Items -/
def lE (bound : Int) (b : ByteArray) (a : Nat) : Int := if tkE b a 4 ≠ 0 then tkE b a 4 else if bound < tkN b a 4 then 3 else 0
/-- one behind the other -/
inductive DS where
  | bad (e : Int)
  | ok (K : Nat → VT) (a : Nat)
def putK (K : Nat → VT) (n : Nat) (v : VT) (i : Nat) : VT := if i = n then v else K i
def stepD (D : Nat → Nat → DR) (n : Nat) : DS → DS
  | .bad e => .bad e
  | .ok K a => match D n a with
    | .bad e => .bad e
    | .ok v a' => .ok (putK K n v) a'
def seqD (D : Nat → Nat → DR) (a : Nat) : Nat → DS
  | 0 => .ok (fun _ => .nil) a
  | n + 1 => stepD D n (seqD D a n)
def nodeD (k n : Int) (m : Nat) : DS → DR
  | .bad e => .bad e
  | .ok K a => .ok (vNode k n ⟨#[]⟩ m K) a
/-- the value of a type at a place (k: more than the type's place) -/
def decF (L : Nat → TypeV) (b : ByteArray) : Nat → Nat → Nat → DR
  | 0, _, _ => .bad 0
  | k + 1, t, a =>
    if (L t).kind = 10 then (if xE (L t).bound b a ≠ 0 then .bad (xE (L t).bound b a) else .ok (vNode 10 0 (xS b a) 0 (fun _ => .nil)) (xA b a))
    else if (L t).kind = 11 then (if lE (L t).bound b a ≠ 0 then .bad (lE (L t).bound b a) else nodeD 11 0 (tkN b a 4).toNat (seqD (fun _ => decF L b k (L t).of.toNat) (tkA b a 4) (tkN b a 4).toNat))
    else if (L t).kind = 12 then nodeD 12 0 (L t).bound.toNat (seqD (fun _ => decF L b k (L t).of.toNat) a (L t).bound.toNat)
    else if (L t).kind = 13 then nodeD 13 0 (L t).ilen (seqD (fun i => decF L b k ((L t).items i).type.toNat) a (L t).ilen)
    else if (L t).kind = 14 then (if nE L (L t).tag.toNat b a ≠ 0 then .bad (nE L (L t).tag.toNat b a) else nodeD 14 (nN L (L t).tag.toNat b a) (brN (L t) (nN L (L t).tag.toNat b a)) (seqD (fun i => decF L b k ((L t).items ((branchZ (L t) (nN L (L t).tag.toNat b a)).toNat + i)).type.toNat) (nA L (L t).tag.toNat b a) (brN (L t) (nN L (L t).tag.toNat b a))))
    else if nE L t b a ≠ 0 then .bad (nE L t b a) else .ok (vNode (L t).kind (nN L t b a) ⟨#[]⟩ 0 (fun _ => .nil)) (nA L t b a)
/-- a row's bytes begin with what stood there -/
theorem bytP_pre (p : RPart) (t : ByteArray) : ∃ r, bytP p t = t ++ r := by
  cases p with
  | num n z => exact ⟨zerosB _ ++ putS n z, by show t ++ _ ++ _ = _; rw [ByteArray.append_assoc]⟩
  | text s => exact ⟨s, rfl⟩
theorem bytR_pre : ∀ (q : List RPart) (t : ByteArray), ∃ r, bytR q t = t ++ r
  | [], t => ⟨⟨#[]⟩, by apply ByteArray.ext; simp [bytR]⟩
  | p :: q, t => by
    obtain ⟨r, hr⟩ := bytP_pre p t
    obtain ⟨r2, h2⟩ := bytR_pre q (bytP p t)
    exact ⟨r ++ r2, by show bytR q (bytP p t) = _; rw [h2, hr, ByteArray.append_assoc]⟩
/-- a number of a row is taken -/
theorem num_got {n z : Int} (h : okPart (.num n z)) (P R : ByteArray) : tkE (bytP (.num n z) P ++ R) P.size z = 0 ∧ tkN (bytP (.num n z) P ++ R) P.size z = n ∧ tkA (bytP (.num n z) P ++ R) P.size z = (bytP (.num n z) P).size := by
  have hb : bufPut P n z = bytP (.num n z) P := by
    have e := (put_in h.1 h.2.1).2
    unfold bufPut; rw [if_pos e]; rfl
  have he := (put_in h.1 h.2.1).2
  obtain ⟨h1, h2, h3, _⟩ := take_back P R n z he h.2.2.1
  rw [hb] at h1 h2 h3
  exact ⟨h1, h2, h3⟩
/-- a number of a type is got -/
theorem type_got {L : Nat → TypeV} {len p : Nat} (he : EnumOk L len) (hp : p < len) (hk : numK (L p).kind = true) {n : Int} (h0 : 0 ≤ n) (h1 : n ≤ 18446744073709551615) (hn : numE9 L p n = 0) (P R : ByteArray) :
    nE L p (bytP (.num (lowK (L p).kind n) (szK (L p).kind)) P ++ R) P.size = 0 ∧ nN L p (bytP (.num (lowK (L p).kind n) (szK (L p).kind)) P ++ R) P.size = n ∧ nA L p (bytP (.num (lowK (L p).kind n) (szK (L p).kind)) P ++ R) P.size = (bytP (.num (lowK (L p).kind n) (szK (L p).kind)) P).size := by
  obtain ⟨g1, g2, g3⟩ := num_got (low_ok (n := n) hk) P R
  have e2 : nN L p (bytP (.num (lowK (L p).kind n) (szK (L p).kind)) P ++ R) P.size = n := by
    unfold nN; rw [g2]; exact (may_val h0 h1 (numE9_may he hp hn)).2
  have hok : numOk L p n = true := by
    unfold numE9 at hn
    split at hn
    · assumption
    · cases hn
  refine ⟨?_, e2, g3⟩
  unfold nE
  rw [if_neg (by rw [g1]; decide), e2, hok, if_pos rfl]
theorem same_node {T : VT} {k n : Int} {s : ByteArray} {m : Nat} {K : Nat → VT} (h1 : T.kind = k) (h2 : T.num = n) (h3 : T.text = s) (h4 : T.len = m) (h5 : ∀ i, i < m → sameT (T.kid i) (K i) = true) : sameT T (vNode k n s m K) = true :=
  sameT_iff.2 ⟨h1, h2, h3, h4, fun i hi => h5 i (by omega)⟩
/-- the Items of a row are got, one behind the other -/
theorem seq_got {D : Nat → Nat → DR} {f : Nat → List RPart} {T : Nat → VT} {b : ByteArray} {P : ByteArray} : ∀ (n : Nat),
    (∀ i, i < n → ∃ U, D i (bytR (catTo f i) P).size = .ok U (bytR (catTo f (i + 1)) P).size ∧ sameT (T i) U = true) →
    ∃ K, seqD D P.size n = .ok K (bytR (catTo f n) P).size ∧ ∀ i, i < n → sameT (T i) (K i) = true
  | 0, _ => ⟨_, rfl, fun i hi => absurd hi (Nat.not_lt_zero i)⟩
  | n + 1, h => by
    obtain ⟨K, h1, h2⟩ := seq_got (b := b) n (fun i hi => h i (by omega))
    obtain ⟨U, h3, h4⟩ := h n (by omega)
    refine ⟨putK K n U, ?_, fun i hi => ?_⟩
    · show stepD D n (seqD D P.size n) = _
      rw [h1]
      show (match D n (bytR (catTo f n) P).size with | .bad e => DS.bad e | .ok v a' => .ok (putK K n v) a') = _
      rw [h3]
    · unfold putK
      by_cases c : i = n
      · subst c; rw [if_pos rfl]; exact h4
      · rw [if_neg c]; exact h2 i (by omega)
theorem cat_next (f : Nat → List RPart) (n : Nat) (P : ByteArray) : bytR (catTo f (n + 1)) P = bytR (f n) (bytR (catTo f n) P) := by
  show bytR (catTo f n ++ f n) P = _
  rw [bytR_app]
/-- what stands behind a part of the Items -/
theorem cat_pre (f : Nat → List RPart) (P : ByteArray) : ∀ {i n : Nat}, i ≤ n → ∃ r, bytR (catTo f n) P = bytR (catTo f i) P ++ r := by
  intro i n h
  induction n with
  | zero => obtain rfl : i = 0 := by omega
            exact ⟨⟨#[]⟩, by apply ByteArray.ext; simp⟩
  | succ n ih =>
    by_cases c : i = n + 1
    · subst c; exact ⟨⟨#[]⟩, by apply ByteArray.ext; simp⟩
    · obtain ⟨r, hr⟩ := ih (by omega)
      obtain ⟨r2, h2⟩ := bytR_pre (f n) (bytR (catTo f n) P)
      exact ⟨r ++ r2, by rw [cat_next, h2, hr, ByteArray.append_assoc]⟩
theorem text_got {s : ByteArray} (P R : ByteArray) : txE (P ++ s ++ R) P.size s.size = 0 ∧ txS (P ++ s ++ R) P.size s.size = s ∧ txA (P ++ s ++ R) P.size s.size = (P ++ s).size := text_back P s R
/-- what is put is got, whatever stands behind it -/
theorem dec_back {L : Nat → TypeV} {len : Nat} (hv : ∀ i, i < len → OkT L i) (he : EnumOk L len) : ∀ (k t : Nat) (T : VT) (P R : ByteArray), t < k → t < len → T.wfN → fitsT L T t = 0 →
    ∃ U, decF L (bytR (rowT L T t) P ++ R) k t P.size = .ok U (bytR (rowT L T t) P).size ∧ sameT T U = true := by
  intro k
  induction k with
  | zero => intro t T P R h; omega
  | succ k ih =>
    intro t T P R hk ht hw hf
    obtain ⟨hh, hz⟩ := fits_zero hf
    have Hd := head_ok hh
    have ok := hv t ht
    obtain ⟨w0, w1, wk⟩ := (wfN_iff T).1 hw
    have hpo := fun i (hi : i < T.len) => part_ok ok hh hi
    obtain ⟨f1, f2, f3⟩ := form_parts Hd.form
    rw [Hd.kind] at f1 f2 f3
    have notext : (L t).kind ≠ 10 → T.text = ⟨#[]⟩ := fun e => data_ext (f2.resolve_left e)
    have nonum : numK (L t).kind = false → (L t).kind ≠ 14 → T.num = 0 := fun e e' => f1.resolve_left (fun h => h.elim (fun h => by rw [e] at h; cases h) e')
    -- the Items behind a head Q
    have hkids : ∀ (Q : ByteArray) (D : Nat → Nat → DR), bytR (rowT L T t) P = bytR (catTo (fun i => rowT L (T.kid i) (partT L t T.num i)) T.len) Q →
        (∀ i, i < T.len → D i = decF L (bytR (rowT L T t) P ++ R) k (partT L t T.num i)) →
        ∃ K, seqD D Q.size T.len = .ok K (bytR (rowT L T t) P).size ∧ ∀ i, i < T.len → sameT (T.kid i) (K i) = true := by
      intro Q D hQ hD
      rw [hQ]
      rw [hQ] at hD
      refine seq_got (b := P) T.len (fun i hi => ?_)
      obtain ⟨r, hr⟩ := cat_pre (fun i => rowT L (T.kid i) (partT L t T.num i)) Q (i := i + 1) (n := T.len) hi
      have hp := hpo i hi
      obtain ⟨U, h1, h2⟩ := ih (partT L t T.num i) (T.kid i) (bytR (catTo (fun i => rowT L (T.kid i) (partT L t T.num i)) i) Q) (r ++ R) (by omega) (by omega) (wk i hi) (hz i hi)
      rw [← cat_next (fun i => rowT L (T.kid i) (partT L t T.num i)), ← ByteArray.append_assoc, ← hr] at h1
      exact ⟨U, by rw [hD i hi]; exact h1, h2⟩
    have erow := rowT_eq L T t
    unfold headR at erow
    by_cases e0 : (L t).kind = 10
    · rw [if_pos e0] at erow
      have hl0 : T.len = 0 := form_len0 Hd.form (by rw [Hd.kind]; exact .inl e0)
      have hts := Hd.text e0
      have hbd := ok.bound (.inl e0)
      rw [hl0] at erow
      have erow : rowT L T t = [.num (((T.text.size : Nat) : Int) + 1) 4, .text (T.text ++ ⟨#[0]⟩)] := erow.trans (List.append_nil _)
      rw [erow]
      have hb : bytR [.num (((T.text.size : Nat) : Int) + 1) 4, .text (T.text ++ ⟨#[0]⟩)] P = bytP (.num (((T.text.size : Nat) : Int) + 1) 4) P ++ (T.text ++ ⟨#[0]⟩) := rfl
      rw [hb]
      obtain ⟨Q, hQ⟩ : ∃ Q, bytP (.num (((T.text.size : Nat) : Int) + 1) 4) P = Q := ⟨_, rfl⟩
      have hs1 : (T.text ++ (⟨#[0]⟩ : ByteArray)).size = T.text.size + 1 := by rw [ByteArray.size_append]; rfl
      obtain ⟨g1, g2, g3⟩ := num_got (n := ((T.text.size : Nat) : Int) + 1) (z := 4) (four_ok (by omega) (by omega)) P ((T.text ++ ⟨#[0]⟩) ++ R)
      rw [hQ, ← ByteArray.append_assoc] at g1 g2 g3
      rw [hQ]
      obtain ⟨x1, x2, x3⟩ := text_got (s := T.text ++ ⟨#[0]⟩) Q R
      rw [hs1] at x1 x2 x3
      have hc : (((T.text.size + 1 : Nat) : Nat) : Int) = ((T.text.size : Nat) : Int) + 1 := by omega
      rw [hc] at x1 x2 x3
      have r1 : xR (Q ++ (T.text ++ ⟨#[0]⟩) ++ R) P.size = T.text ++ ⟨#[0]⟩ := by unfold xR; rw [g2, g3]; exact x2
      have r2 : xS (Q ++ (T.text ++ ⟨#[0]⟩) ++ R) P.size = T.text := by
        unfold xS; rw [r1, hs1, Nat.add_sub_cancel]
        apply data_ext
        simp
      have hzt : zeroIn T.text = false := by
        have hE := hh
        rw [head_unf Hd.kind Hd.form, if_pos e0] at hE
        unfold textE at hE
        rw [if_neg (by omega)] at hE
        split at hE
        · cases hE
        · rename_i c; simpa using c
      have r3 : byteAt (T.text ++ (⟨#[0]⟩ : ByteArray)) T.text.size = 0 := by
        unfold byteAt
        have e : (T.text ++ (⟨#[0]⟩ : ByteArray)).data.toList = T.text.data.toList ++ [0] := by simp
        have e1 : T.text.size = T.text.data.toList.length := by simp
        rw [e, e1, List.getD_eq_getElem?_getD, List.getElem?_append_right (Nat.le_refl _), Nat.sub_self]
        rfl
      have hx : xE (L t).bound (Q ++ (T.text ++ ⟨#[0]⟩) ++ R) P.size = 0 := by
        unfold xE
        rw [if_neg (by rw [g1]; decide), if_neg (by rw [g2]; omega), if_neg (by rw [g2]; omega), g2, g3, if_neg (by rw [x1]; decide), r2, hzt, if_neg (by decide), r1, hs1, Nat.add_sub_cancel, if_neg (by rw [r3]; decide)]
      refine ⟨vNode 10 0 T.text 0 (fun _ => .nil), ?_, same_node (by rw [Hd.kind, e0]) (nonum (by rw [e0]; rfl) (by omega)) rfl hl0 (fun i hi => by omega)⟩
      unfold decF
      rw [if_pos e0, if_neg (by rw [hx]; decide), r2]
      unfold xA
      rw [g2, g3, x3]
    rw [if_neg e0] at erow
    by_cases e1 : (L t).kind = 11
    · rw [if_pos e1] at erow
      have hs := Hd.seq e1
      have hbd := ok.bound (.inr (.inl e1))
      have hb : bytR (rowT L T t) P = bytR (catTo (fun i => rowT L (T.kid i) (partT L t T.num i)) T.len) (bytP (.num ((T.len : Nat) : Int) 4) P) := by rw [erow, bytR_app]; rfl
      obtain ⟨Q, hQ⟩ : ∃ Q, bytP (.num ((T.len : Nat) : Int) 4) P = Q := ⟨_, rfl⟩
      rw [hQ] at hb
      obtain ⟨r, hr⟩ := bytR_pre (catTo (fun i => rowT L (T.kid i) (partT L t T.num i)) T.len) Q
      obtain ⟨g1, g2, g3⟩ := num_got (n := ((T.len : Nat) : Int)) (z := 4) (four_ok (by omega) (by omega)) P (r ++ R)
      rw [hQ, ← ByteArray.append_assoc, ← hr, ← hb] at g1 g2 g3
      obtain ⟨K, k1, k2⟩ := hkids Q (fun _ => decF L (bytR (rowT L T t) P ++ R) k (L t).of.toNat) hb (fun i hi => by
        have : partT L t T.num i = (L t).of.toNat := by unfold partT; rw [if_neg (by omega), if_neg (by omega)]
        rw [this])
      refine ⟨vNode 11 0 ⟨#[]⟩ T.len K, ?_, same_node (by rw [Hd.kind, e1]) (nonum (by rw [e1]; rfl) (by omega)) (notext e0) rfl k2⟩
      unfold decF
      rw [if_neg e0, if_pos e1]
      have hl : lE (L t).bound (bytR (rowT L T t) P ++ R) P.size = 0 := by unfold lE; rw [if_neg (by rw [g1]; decide), if_neg (by rw [g2]; omega)]
      rw [if_neg (by rw [hl]; decide), g2, g3, Int.toNat_natCast, k1]
      rfl
    rw [if_neg e1] at erow
    by_cases e2 : (L t).kind = 12
    · rw [if_pos (Or.inl e2)] at erow
      have hs := Hd.arr e2
      have hb : bytR (rowT L T t) P = bytR (catTo (fun i => rowT L (T.kid i) (partT L t T.num i)) T.len) P := by rw [erow]; rfl
      obtain ⟨K, k1, k2⟩ := hkids P (fun _ => decF L (bytR (rowT L T t) P ++ R) k (L t).of.toNat) hb (fun i hi => by
        have : partT L t T.num i = (L t).of.toNat := by unfold partT; rw [if_neg (by omega), if_neg (by omega)]
        rw [this])
      refine ⟨vNode 12 0 ⟨#[]⟩ T.len K, ?_, same_node (by rw [Hd.kind, e2]) (nonum (by rw [e2]; rfl) (by omega)) (notext e0) rfl k2⟩
      unfold decF
      have hbn : (L t).bound.toNat = T.len := by omega
      rw [if_neg e0, if_neg e1, if_pos e2, hbn, k1]
      rfl
    by_cases e3 : (L t).kind = 13
    · rw [if_pos (Or.inr e3)] at erow
      have hs := Hd.str e3
      have hb : bytR (rowT L T t) P = bytR (catTo (fun i => rowT L (T.kid i) (partT L t T.num i)) T.len) P := by rw [erow]; rfl
      obtain ⟨K, k1, k2⟩ := hkids P (fun i => decF L (bytR (rowT L T t) P ++ R) k ((L t).items i).type.toNat) hb (fun i hi => by
        have : partT L t T.num i = ((L t).items i).type.toNat := by unfold partT; rw [if_pos e3]
        rw [this])
      refine ⟨vNode 13 0 ⟨#[]⟩ T.len K, ?_, same_node (by rw [Hd.kind, e3]) (nonum (by rw [e3]; rfl) (by omega)) (notext e0) rfl k2⟩
      unfold decF
      rw [if_neg e0, if_neg e1, if_neg e2, if_pos e3, ← hs, k1]
      rfl
    rw [if_neg (by omega)] at erow
    by_cases e4 : (L t).kind = 14
    · rw [if_pos e4] at erow
      obtain ⟨hnn, hbn⟩ := Hd.uni e4
      have htg := ok.tag e4
      have hb : bytR (rowT L T t) P = bytR (catTo (fun i => rowT L (T.kid i) (partT L t T.num i)) T.len) (bytP (.num (lowK (L (L t).tag.toNat).kind T.num) (szK (L (L t).tag.toNat).kind)) P) := by rw [erow, bytR_app]; rfl
      have hgot := fun R => type_got he (p := (L t).tag.toNat) (by omega) htg.2.2.2 w0 (by omega) hnn P R
      obtain ⟨Q, hQ⟩ : ∃ Q, bytP (.num (lowK (L (L t).tag.toNat).kind T.num) (szK (L (L t).tag.toNat).kind)) P = Q := ⟨_, rfl⟩
      rw [hQ] at hb hgot
      obtain ⟨r, hr⟩ := bytR_pre (catTo (fun i => rowT L (T.kid i) (partT L t T.num i)) T.len) Q
      obtain ⟨g1, g2, g3⟩ := hgot (r ++ R)
      rw [← ByteArray.append_assoc, ← hr, ← hb] at g1 g2 g3
      obtain ⟨K, k1, k2⟩ := hkids Q (fun i => decF L (bytR (rowT L T t) P ++ R) k ((L t).items ((branchZ (L t) T.num).toNat + i)).type.toNat) hb (fun i hi => by
        have : partT L t T.num i = ((L t).items ((branchZ (L t) T.num).toNat + i)).type.toNat := by unfold partT; rw [if_neg (by omega), if_pos e4]
        rw [this])
      refine ⟨vNode 14 T.num ⟨#[]⟩ T.len K, ?_, same_node (by rw [Hd.kind, e4]) rfl (notext e0) rfl k2⟩
      unfold decF
      rw [if_neg e0, if_neg e1, if_neg e2, if_neg e3, if_pos e4, if_neg (by rw [g1]; decide), g2, g3, ← hbn, k1]
      rfl
    rw [if_neg e4] at erow
    have hk := ok_num ok e0 e1 e2 e3 e4
    have hl0 : T.len = 0 := form_len0 Hd.form (by rw [Hd.kind]; have := ok.kind; omega)
    rw [hl0] at erow
    have erow : rowT L T t = [.num (lowK (L t).kind T.num) (szK (L t).kind)] := erow.trans (List.append_nil _)
    obtain ⟨g1, g2, g3⟩ := type_got he ht hk w0 (by omega) (Hd.num e0 e1 e2 e3 e4) P R
    rw [erow]
    refine ⟨vNode (L t).kind T.num ⟨#[]⟩ 0 (fun _ => .nil), ?_, same_node Hd.kind rfl (notext e0) hl0 (fun i hi => by omega)⟩
    unfold decF
    rw [if_neg e0, if_neg e1, if_neg e2, if_neg e3, if_neg e4]
    have hb : bytR [.num (lowK (L t).kind T.num) (szK (L t).kind)] P = bytP (.num (lowK (L t).kind T.num) (szK (L t).kind)) P := rfl
    rw [hb, if_neg (by rw [g1]; decide), g2, g3]
end Go.Proofs.YtmnemddagcfjgaaGreatDoor
