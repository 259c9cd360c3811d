/- Chapter 11: what is decoded has its type, and its bytes are those that were decoded. -/
import Derived.Test.YtmnemddagcfjgaaGreatDoorGetMath
namespace Go.Proofs.YtmnemddagcfjgaaGreatDoor
open Go.RowKit
set_option linter.unusedVariables false
/-- the first bytes -/
def preB11 (b : ByteArray) (a : Nat) : ByteArray := b.extract 0 a
theorem pre_list (b : ByteArray) (a : Nat) : (preB11 b a).data.toList = b.data.toList.take a := by unfold preB11; simp
theorem pre_size {b : ByteArray} {a : Nat} (h : a ≤ b.size) : (preB11 b a).size = a := by
  have e : (preB11 b a).size = (preB11 b a).data.toList.length := rfl
  have e2 : b.size = b.data.toList.length := rfl
  rw [e, pre_list, List.length_take]; omega
theorem len_list (b : ByteArray) : b.data.toList.length = b.size := rfl
theorem byteAt_get' {b : ByteArray} {k : Nat} (h : k < b.data.toList.length) : byteAt b k = ((b.data.toList[k]).toNat : Int) := by
  unfold byteAt; rw [List.getD_eq_getElem?_getD, List.getElem?_eq_getElem h]; rfl
/-- the bytes of a gap that was gone over -/
theorem scan_bytes {b : ByteArray} : ∀ (g a : Nat), a ≤ b.size → scanE b a g = 0 → (b.data.toList.drop a).take g = List.replicate g 0
  | 0, a, _, _ => by simp
  | g + 1, a, ha, h => by
    by_cases c : b.size ≤ a
    · rw [scan_short c] at h; cases h
    · have hl : a < b.data.toList.length := by have := len_list b; omega
      by_cases d : byteAt b a = 0
      · rw [scan_ok (by omega) d] at h
        have ih := scan_bytes g (a + 1) (by omega) h
        rw [byteAt_get' hl] at d
        have d0 : b.data.toList[a] = 0 := by
          have : (b.data.toList[a]).toNat = 0 := by omega
          exact UInt8.toNat_inj.1 this
        rw [List.drop_eq_getElem_cons hl, List.take_succ_cons, ih, d0]
        rfl
      · rw [scan_pad (by omega) d] at h; cases h
/-- what was taken is put back -/
theorem put_take {b : ByteArray} : ∀ (m k : Nat), k + m ≤ b.size → ((putL m (takeL (sub b k m))).map fun x => UInt8.ofNat x.toNat) = (b.data.toList.drop k).take m
  | 0, k, _ => by simp [putL]
  | m + 1, k, h => by
    have hl : k < b.data.toList.length := by have := len_list b; omega
    have ih := put_take (b := b) m (k + 1) (by omega)
    have hr := byteAt_range b k
    have e1 : takeL (sub b k (m + 1)) = byteAt b k + 256 * takeL (sub b (k + 1) m) := rfl
    have e2 : (byteAt b k + 256 * takeL (sub b (k + 1) m)) % 256 = byteAt b k := by omega
    have e3 : (byteAt b k + 256 * takeL (sub b (k + 1) m)) / 256 = takeL (sub b (k + 1) m) := by omega
    rw [e1]
    show ((byteAt b k + 256 * takeL (sub b (k + 1) m)) % 256 :: putL m ((byteAt b k + 256 * takeL (sub b (k + 1) m)) / 256)).map _ = _
    rw [e2, e3, List.map_cons, ih, List.drop_eq_getElem_cons hl, List.take_succ_cons, byteAt_get' hl]
    simp
theorem putS_take {b : ByteArray} {k : Nat} {z : Int} (h : k + z.toNat ≤ b.size) : (putS (takeS b k z) z).data.toList = (b.data.toList.drop k).take z.toNat := by
  have e : (putS (takeS b k z) z).data.toList = (putL z.toNat (takeL (sub b k z.toNat))).map fun x => UInt8.ofNat x.toNat := rfl
  rw [e, put_take _ _ h]
theorem take_cat {α : Type} (l : List α) (a g : Nat) : l.take (a + g) = l.take a ++ (l.drop a).take g := List.take_add
/-- what a Take tells -/
theorem tk_zero {b : ByteArray} {a : Nat} {z : Int} (ha : a ≤ b.size) (h : tkE b a z = 0) : isSz z = true ∧ tkA b a z = a + gapN a z + z.toNat ∧ tkA b a z ≤ b.size ∧ bytP (.num (tkN b a z) z) (preB11 b a) = preB11 b (tkA b a z) ∧ tkN b a z = takeS b (a + gapN a z) z := by
  have hs : scanE b a (gapN a z) = 0 := by
    by_cases c : scanE b a (gapN a z) = 0
    · exact c
    · rw [tk_scan c] at h; exact absurd h c
  have h1 := scan_le ha hs
  have h2 : takeE b ((a + gapN a z : Nat) : Int) z = 0 := by unfold tkE at h; rw [if_pos hs] at h; exact h
  obtain ⟨hz, h3⟩ := takeE_zero h2 h1
  obtain ⟨_, g2, g3⟩ := tk_ok hz hs h3
  have hz0 : ((z.toNat : Nat) : Int) = z := (sz_nat hz).2
  have hle : a + gapN a z + z.toNat ≤ b.size := by omega
  refine ⟨hz, g3, by rw [g3]; exact hle, ?_, g2⟩
  apply data_ext
  rw [bytP_list, pre_size ha, pre_list, pre_list, g3, g2]
  have e : addL (.num (takeS b (a + gapN a z) z) z) a = List.replicate (gapN a z) 0 ++ (putS (takeS b (a + gapN a z) z) z).data.toList := rfl
  rw [e, putS_take hle, take_cat, take_cat, scan_bytes _ _ ha hs, List.append_assoc]
theorem takeL_range {b : ByteArray} : ∀ (m k : Nat), 0 ≤ takeL (sub b k m) ∧ takeL (sub b k m) < 256 ^ m
  | 0, k => ⟨Int.le_refl 0, by show (0 : Int) < 256 ^ 0; decide⟩
  | m + 1, k => by
    have ih := takeL_range (b := b) m (k + 1)
    have hr := byteAt_range b k
    have e1 : takeL (sub b k (m + 1)) = byteAt b k + 256 * takeL (sub b (k + 1) m) := rfl
    have e2 : (256 : Int) ^ (m + 1) = 256 ^ m * 256 := Int.pow_succ 256 m
    rw [e1, e2]
    generalize takeL (sub b (k + 1) m) = x at ih
    generalize (256 : Int) ^ m = y at ih
    omega
theorem tkN_range {b : ByteArray} {a : Nat} {z : Int} (ha : a ≤ b.size) (h : tkE b a z = 0) : 0 ≤ tkN b a z ∧ tkN b a z < pw z := by
  rw [(tk_zero ha h).2.2.2.2]
  exact takeL_range z.toNat _
/-- a number of a kind's lowest bits is its own -/
theorem low_up {k n : Int} (hk : numK k = true) (h0 : 0 ≤ n) (h1 : n < pw (szK k)) : lowK k (upK k n) = n := by
  have hz := szK_sz hk
  have e5 : ∀ m, lowK k m = lowZ m (szK k) := fun m => by unfold lowK; rw [hk]; rfl
  rw [e5]
  unfold upK
  rw [e5]
  generalize szK k = z at *
  split
  · unfold signZ lowZ
    rw [if_pos hz, IntKind.wrap_u64]
    rcases isSz_cases hz with rfl | rfl | rfl | rfl
    · rw [pw1] at *; split <;> omega
    · rw [pw2] at *; split <;> omega
    · rw [pw4] at *; split <;> omega
    · rw [pw8] at *; split <;> omega
  · rw [lowZ_low n hz]
    unfold lowZ
    exact Int.emod_eq_of_lt h0 h1
/-- a number of a type that was got is of it, and has the bytes -/
theorem type_one {L : Nat → TypeV} {p : Nat} {b : ByteArray} {a : Nat} (hk : numK (L p).kind = true) (ha : a ≤ b.size) (h : nE L p b a = 0) :
    numE9 L p (nN L p b a) = 0 ∧ 0 ≤ nN L p b a ∧ nN L p b a ≤ 18446744073709551615 ∧ nA L p b a ≤ b.size ∧ bytP (.num (lowK (L p).kind (nN L p b a)) (szK (L p).kind)) (preB11 b a) = preB11 b (nA L p b a) := by
  unfold nE at h
  split at h
  · rename_i c; exact absurd h c
  rename_i c
  have c : tkE b a (szK (L p).kind) = 0 := Classical.not_not.1 c
  split at h
  · rename_i hok
    obtain ⟨_, _, g3, g4, _⟩ := tk_zero ha c
    obtain ⟨r1, r2⟩ := tkN_range ha c
    have hu := up_range (k := (L p).kind) (n := tkN b a (szK (L p).kind))
    refine ⟨by unfold numE9; rw [hok, if_pos rfl], hu.1, hu.2, g3, ?_⟩
    unfold nN nA
    rw [low_up hk r1 r2]
    exact g4
  · cases h
/-- the Items -/
theorem seq_one {D : Nat → Nat → DR} {b : ByteArray} {L : Nat → TypeV} {p : Nat → Nat} : ∀ (n a : Nat) (K : Nat → VT) (a' : Nat), a ≤ b.size →
    (∀ i, i < n → ∀ a U a', a ≤ b.size → D i a = .ok U a' → fitsT L U (p i) = 0 ∧ U.wfN ∧ a' ≤ b.size ∧ bytR (rowT L U (p i)) (preB11 b a) = preB11 b a') →
    seqD D a n = .ok K a' → (∀ i, i < n → fitsT L (K i) (p i) = 0 ∧ (K i).wfN) ∧ a' ≤ b.size ∧ bytR (catTo (fun i => rowT L (K i) (p i)) n) (preB11 b a) = preB11 b a'
  | 0, a, K, a', ha, _, h => by
    have h : DS.ok (fun _ => .nil) a = DS.ok K a' := h
    injection h with h1 h2
    subst h2
    exact ⟨fun i hi => absurd hi (Nat.not_lt_zero i), ha, rfl⟩
  | n + 1, a, K, a', ha, hD, h => by
    have h : stepD D n (seqD D a n) = DS.ok K a' := h
    cases hs : seqD D a n with
    | bad e => rw [hs] at h; cases h
    | ok K0 a0 =>
      rw [hs] at h
      obtain ⟨i1, i2, i3⟩ := seq_one (L := L) (p := p) n a K0 a0 ha (fun i hi => hD i (by omega)) hs
      have h : (match D n a0 with | .bad e => DS.bad e | .ok v a' => DS.ok (putK K0 n v) a') = DS.ok K a' := h
      cases hd : D n a0 with
      | bad e => rw [hd] at h; cases h
      | ok U a1 =>
        rw [hd] at h
        injection h with h1 h2
        subst h1
        subst h2
        obtain ⟨d1, d2, d3, d4⟩ := hD n (by omega) a0 U a1 i2 hd
        have en : putK K0 n U n = U := by unfold putK; rw [if_pos rfl]
        have el : ∀ i, i < n → putK K0 n U i = K0 i := fun i hi => by unfold putK; rw [if_neg (by omega)]
        refine ⟨fun i hi => ?_, d3, ?_⟩
        · by_cases c : i = n
          · subst c; rw [en]; exact ⟨d1, d2⟩
          · rw [el i (by omega)]; exact i1 i (by omega)
        · rw [cat_next (fun i => rowT L (putK K0 n U i) (p i))]
          simp only [en]
          have e : catTo (fun i => rowT L (putK K0 n U i) (p i)) n = catTo (fun i => rowT L (K0 i) (p i)) n := cat_congr n (fun i hi => by simp only [el i hi])
          rw [e, i3, d4]
theorem empty_text : (⟨#[]⟩ : ByteArray).toList.isEmpty = true := by
  have h := bytes_len ⟨#[]⟩
  have e : (⟨#[]⟩ : ByteArray).toList = [] := List.eq_nil_of_length_eq_zero (by rw [h]; rfl)
  rw [e]; rfl
theorem form_node {k n : Int} {m : Nat} {K : Nat → VT} (h : k = 14 ∨ n = 0) (h1 : numK k = false) (h2 : k ≠ 10) : formT (vNode k n ⟨#[]⟩ m K) = true := by
  have e : formT (vNode k n ⟨#[]⟩ m K) = (((numK k || k == 14) || n == 0) && ((k == 10 || (⟨#[]⟩ : ByteArray).toList.isEmpty) && ((!numK k && !(k == 10)) || ((m : Nat) : Int) == 0))) := rfl
  rw [e, empty_text, h1]
  have e2 : (k == 10) = false := by simpa using h2
  rw [e2]
  rcases h with rfl | rfl <;> simp
theorem form_num {k n : Int} {K : Nat → VT} (h1 : numK k = true) : formT (vNode k n ⟨#[]⟩ 0 K) = true := by
  have e : formT (vNode k n ⟨#[]⟩ 0 K) = (((numK k || k == 14) || n == 0) && ((k == 10 || (⟨#[]⟩ : ByteArray).toList.isEmpty) && ((!numK k && !(k == 10)) || ((0 : Nat) : Int) == 0))) := rfl
  rw [e, empty_text, h1]
  simp
theorem node_fits {L : Nat → TypeV} {t : Nat} {V : VT} (h : headE L t V = 0) (hk : ∀ i, i < V.len → fitsT L (V.kid i) (partT L t V.num i) = 0) : fitsT L V t = 0 := by
  rw [fits_kids h]
  exact firstE_none (fun i hi => by rw [hk i hi]; rfl)
theorem node_wf {k n : Int} {s : ByteArray} {m : Nat} {K : Nat → VT} (h0 : 0 ≤ n) (h1 : n ≤ 18446744073709551615) (h : ∀ i, i < m → (K i).wfN) : (vNode k n s m K).wfN := (wfN_iff _).2 ⟨h0, by show n < _; omega, h⟩
theorem nodeD_ok {k n : Int} {m : Nat} {S : DS} {U : VT} {a' : Nat} (h : nodeD k n m S = .ok U a') : ∃ K, S = .ok K a' ∧ U = vNode k n ⟨#[]⟩ m K := by
  cases S with
  | bad e => cases h
  | ok K a =>
    have h : DR.ok (vNode k n ⟨#[]⟩ m K) a = DR.ok U a' := h
    injection h with h1 h2
    exact ⟨K, by rw [h2], h1.symm⟩
/-- what is decoded has its type, and its bytes are those that were decoded -/
theorem dec_one {L : Nat → TypeV} {len : Nat} (hv : ∀ i, i < len → OkT L i) (b : ByteArray) : ∀ (k t a : Nat) (U : VT) (a' : Nat), t < k → t < len → a ≤ b.size → decF L b k t a = .ok U a' →
    fitsT L U t = 0 ∧ U.wfN ∧ a' ≤ b.size ∧ bytR (rowT L U t) (preB11 b a) = preB11 b a' := by
  intro k
  induction k with
  | zero => intro t a U a' h; omega
  | succ k ih =>
    intro t a U a' hk ht ha hd
    have ok := hv t ht
    unfold decF at hd
    by_cases e0 : (L t).kind = 10
    · rw [if_pos e0] at hd
      split at hd
      · cases hd
      rename_i hx
      have hx : xE (L t).bound b a = 0 := Classical.not_not.1 hx
      injection hd with h1 h2
      subst h1
      subst h2
      unfold xE at hx
      split at hx
      · rename_i c; exact absurd hx c
      rename_i x1
      have x1 : tkE b a 4 = 0 := Classical.not_not.1 x1
      split at hx; · cases hx
      rename_i x2
      split at hx; · cases hx
      rename_i x3
      split at hx
      · rename_i c; exact absurd hx c
      rename_i x4
      have x4 : txE b (tkA b a 4) (tkN b a 4) = 0 := Classical.not_not.1 x4
      split at hx; · cases hx
      rename_i x5
      split at hx; · cases hx
      rename_i x6
      have x6 : byteAt (xR b a) ((xR b a).size - 1) = 0 := Classical.not_not.1 x6
      obtain ⟨_, _, g3, g4, _⟩ := tk_zero ha x1
      obtain ⟨r1, r2⟩ := tkN_range ha x1
      obtain ⟨n, hn⟩ : ∃ n : Nat, tkN b a 4 = n := ⟨(tkN b a 4).toNat, by omega⟩
      rw [hn] at x2 x3 x4 g4
      have hroom : tkA b a 4 + n ≤ b.size := by
        unfold txE at x4
        rw [if_neg (by omega)] at x4
        split at x4
        · cases x4
        · omega
      obtain ⟨_, y2, y3⟩ := tx_in0 hroom
      have eR : xR b a = b.extract (tkA b a 4) (tkA b a 4 + n) := by unfold xR; rw [hn]; exact y2
      have lR : (xR b a).data.toList = (b.data.toList.drop (tkA b a 4)).take n := by rw [eR]; simp
      have sR : (xR b a).size = n := by
        have e : (xR b a).size = (xR b a).data.toList.length := rfl
        have e2 := len_list b
        rw [e, lR, List.length_take, List.length_drop]; omega
      have hn0 : 0 < n := by omega
      have lS : (xS b a).data.toList = (xR b a).data.toList.take (n - 1) := by unfold xS; rw [sR]; simp
      have sS : (xS b a).size = n - 1 := by
        have e : (xS b a).size = (xS b a).data.toList.length := rfl
        have e2 := len_list (xR b a)
        rw [e, lS, List.length_take]; omega
      have hlast : xS b a ++ ⟨#[0]⟩ = xR b a := by
        apply data_ext
        have e : (xS b a ++ (⟨#[0]⟩ : ByteArray)).data.toList = (xS b a).data.toList ++ [0] := by simp
        have e2 := len_list (xR b a)
        rw [e, lS]
        rw [sR] at x6
        have hl : n - 1 < (xR b a).data.toList.length := by omega
        rw [byteAt_get' hl] at x6
        have d0 : (xR b a).data.toList[n - 1] = 0 := by
          have : ((xR b a).data.toList[n - 1]).toNat = 0 := by omega
          exact UInt8.toNat_inj.1 this
        have h3 : (xR b a).data.toList.take (n - 1 + 1) = (xR b a).data.toList.take (n - 1) ++ [(xR b a).data.toList[n - 1]] := List.take_succ_eq_append_getElem hl
        rw [d0] at h3
        rw [← h3, List.take_of_length_le (by omega)]
      have hA : xA b a = tkA b a 4 + n := by unfold xA; rw [hn]; exact y3
      have hkd : (vNode 10 0 (xS b a) 0 (fun _ => .nil)).kind = (L t).kind := by rw [e0]; rfl
      have hfm : formT (vNode 10 0 (xS b a) 0 (fun _ => .nil)) = true := rfl
      have hhd : headE L t (vNode 10 0 (xS b a) 0 (fun _ => .nil)) = 0 := by
        rw [head_unf hkd hfm, if_pos e0]
        have ht0 : textE (xS b a) (L t).bound = 0 := by
          unfold textE
          rw [if_neg (by rw [sS]; omega), if_neg x5]
        exact ht0
      have hbnd := ok.bound (.inl e0)
      refine ⟨node_fits hhd (fun i hi => absurd hi (Nat.not_lt_zero i)), node_wf (by decide) (by decide) (fun i hi => absurd hi (Nat.not_lt_zero i)), by rw [hA]; exact hroom, ?_⟩
      rw [rowT_eq]
      unfold headR
      rw [if_pos e0]
      show bytP (.num (((xS b a).size : Nat) + 1) 4) (preB11 b a) ++ (xS b a ++ ⟨#[0]⟩) = _
      have ec : (((xS b a).size : Nat) : Int) + 1 = ((n : Nat) : Int) := by rw [sS]; omega
      rw [ec, g4, hlast, hA]
      apply data_ext
      rw [pre_list, take_cat]
      have e : (preB11 b (tkA b a 4) ++ xR b a).data.toList = (preB11 b (tkA b a 4)).data.toList ++ (xR b a).data.toList := by simp
      rw [e, pre_list, lR]
    rw [if_neg e0] at hd
    -- the Items of whatever holds some
    have hkids : ∀ (D : Nat → Nat → DR) (p : Nat → Nat) (n a1 : Nat) (K : Nat → VT), a1 ≤ b.size → (∀ i, i < n → D i = decF L b k (p i)) → (∀ i, i < n → p i < t) → seqD D a1 n = .ok K a' →
        (∀ i, i < n → fitsT L (K i) (p i) = 0 ∧ (K i).wfN) ∧ a' ≤ b.size ∧ bytR (catTo (fun i => rowT L (K i) (p i)) n) (preB11 b a1) = preB11 b a' := by
      intro D p n a1 K h1 h2 h3 h4
      refine seq_one (L := L) (p := p) n a1 K a' h1 (fun i hi a U a' q1 q2 => ?_) h4
      rw [h2 i hi] at q2
      have := h3 i hi
      exact ih (p i) a U a' (by omega) (by omega) q1 q2
    by_cases e1 : (L t).kind = 11
    · rw [if_pos e1] at hd
      split at hd
      · cases hd
      rename_i hl
      have hl : lE (L t).bound b a = 0 := Classical.not_not.1 hl
      obtain ⟨K, hs, rfl⟩ := nodeD_ok hd
      unfold lE at hl
      split at hl
      · rename_i c; exact absurd hl c
      rename_i x1
      have x1 : tkE b a 4 = 0 := Classical.not_not.1 x1
      split at hl; · cases hl
      rename_i x2
      obtain ⟨_, _, g3, g4, _⟩ := tk_zero ha x1
      obtain ⟨r1, r2⟩ := tkN_range ha x1
      obtain ⟨n, hn⟩ : ∃ n : Nat, tkN b a 4 = n := ⟨(tkN b a 4).toNat, by omega⟩
      rw [hn] at g4 x2 hs ⊢
      rw [Int.toNat_natCast] at hs ⊢
      have ho := ok.of (.inl e1)
      obtain ⟨k1, k2, k3⟩ := hkids _ (fun _ => (L t).of.toNat) n _ K g3 (fun i hi => rfl) (fun i hi => by omega) hs
      have hkd : (vNode 11 0 ⟨#[]⟩ n K).kind = (L t).kind := by rw [e1]; rfl
      have hhd : headE L t (vNode 11 0 ⟨#[]⟩ n K) = 0 := by
        rw [head_unf hkd (form_node (.inr rfl) rfl (by decide)), if_neg e0, if_pos e1, if_neg (by show ¬ (L t).bound < ((n : Nat) : Int); omega)]
      have hpt : ∀ i, partT L t 0 i = (L t).of.toNat := fun i => by unfold partT; rw [if_neg (by omega), if_neg (by omega)]
      refine ⟨node_fits hhd (fun i hi => by show fitsT L (K i) (partT L t 0 i) = 0; rw [hpt]; exact (k1 i hi).1), node_wf (by decide) (by decide) (fun i hi => (k1 i hi).2), k2, ?_⟩
      rw [rowT_eq]
      unfold headR
      rw [if_neg e0, if_pos e1, bytR_app]
      show bytR (catTo (fun i => rowT L (K i) (partT L t 0 i)) n) (bytP (.num ((n : Nat) : Int) 4) (preB11 b a)) = _
      simp only [hpt]
      rw [g4, k3]
    rw [if_neg e1] at hd
    by_cases e2 : (L t).kind = 12
    · rw [if_pos e2] at hd
      obtain ⟨K, hs, rfl⟩ := nodeD_ok hd
      have ho := ok.of (.inr e2)
      have hbd := ok.bound (.inr (.inr e2))
      obtain ⟨k1, k2, k3⟩ := hkids _ (fun _ => (L t).of.toNat) (L t).bound.toNat _ K ha (fun i hi => rfl) (fun i hi => by omega) hs
      have hkd : (vNode 12 0 ⟨#[]⟩ (L t).bound.toNat K).kind = (L t).kind := by rw [e2]; rfl
      have hhd : headE L t (vNode 12 0 ⟨#[]⟩ (L t).bound.toNat K) = 0 := by
        rw [head_unf hkd (form_node (.inr rfl) rfl (by decide)), if_neg e0, if_neg e1, if_pos e2, if_neg (by show ¬ (((L t).bound.toNat : Nat) : Int) ≠ (L t).bound; omega)]
      have hpt : ∀ i, partT L t 0 i = (L t).of.toNat := fun i => by unfold partT; rw [if_neg (by omega), if_neg (by omega)]
      refine ⟨node_fits hhd (fun i hi => by show fitsT L (K i) (partT L t 0 i) = 0; rw [hpt]; exact (k1 i hi).1), node_wf (by decide) (by decide) (fun i hi => (k1 i hi).2), k2, ?_⟩
      rw [rowT_eq]
      unfold headR
      rw [if_neg e0, if_neg e1, if_pos (Or.inl e2), bytR_app]
      show bytR (catTo (fun i => rowT L (K i) (partT L t 0 i)) (L t).bound.toNat) (preB11 b a) = _
      simp only [hpt]
      exact k3
    rw [if_neg e2] at hd
    by_cases e3 : (L t).kind = 13
    · rw [if_pos e3] at hd
      obtain ⟨K, hs, rfl⟩ := nodeD_ok hd
      have ho := fun j (hj : j < (L t).ilen) => ok.items (.inl e3) j hj
      obtain ⟨k1, k2, k3⟩ := hkids _ (fun i => ((L t).items i).type.toNat) (L t).ilen _ K ha (fun i hi => rfl) (fun i hi => by have := ho i hi; omega) hs
      have hkd : (vNode 13 0 ⟨#[]⟩ (L t).ilen K).kind = (L t).kind := by rw [e3]; rfl
      have hhd : headE L t (vNode 13 0 ⟨#[]⟩ (L t).ilen K) = 0 := by
        rw [head_unf hkd (form_node (.inr rfl) rfl (by decide)), if_neg e0, if_neg e1, if_neg e2, if_pos e3, if_neg (by show ¬ (L t).ilen ≠ (L t).ilen; omega)]
      have hpt : ∀ i, partT L t 0 i = ((L t).items i).type.toNat := fun i => by unfold partT; rw [if_pos e3]
      refine ⟨node_fits hhd (fun i hi => by show fitsT L (K i) (partT L t 0 i) = 0; rw [hpt]; exact (k1 i hi).1), node_wf (by decide) (by decide) (fun i hi => (k1 i hi).2), k2, ?_⟩
      rw [rowT_eq]
      unfold headR
      rw [if_neg e0, if_neg e1, if_pos (Or.inr e3), bytR_app]
      show bytR (catTo (fun i => rowT L (K i) (partT L t 0 i)) (L t).ilen) (preB11 b a) = _
      simp only [hpt]
      exact k3
    rw [if_neg e3] at hd
    have e23 : ¬ ((L t).kind = 12 ∨ (L t).kind = 13) := by omega
    by_cases e4 : (L t).kind = 14
    · rw [if_pos e4] at hd
      split at hd
      · cases hd
      rename_i hn
      have hn : nE L (L t).tag.toNat b a = 0 := Classical.not_not.1 hn
      obtain ⟨K, hs, rfl⟩ := nodeD_ok hd
      have htg := ok.tag e4
      obtain ⟨n1, n2, n3, n4, n5⟩ := type_one htg.2.2.2 ha hn
      generalize nN L (L t).tag.toNat b a = n at *
      have ho : ∀ i, i < brN (L t) n → (branchZ (L t) n).toNat + i < (L t).ilen := fun i hi => by
        unfold brN at hi
        split at hi
        · rename_i c
          have := (br_part (T := .node 14 n ⟨#[]⟩ none 0 0 K) e4 c).1
          have : (branchZ (L t) n).toNat < (L t).ilen := this
          omega
        · omega
      obtain ⟨k1, k2, k3⟩ := hkids _ (fun i => ((L t).items ((branchZ (L t) n).toNat + i)).type.toNat) (brN (L t) n) _ K n4 (fun i hi => rfl) (fun i hi => by have := ok.items (.inr e4) _ (ho i hi); omega) hs
      have hkd : (vNode 14 n ⟨#[]⟩ (brN (L t) n) K).kind = (L t).kind := by rw [e4]; rfl
      have hhd : headE L t (vNode 14 n ⟨#[]⟩ (brN (L t) n) K) = 0 := by
        rw [head_unf hkd (form_node (.inl rfl) rfl (by decide)), if_neg e0, if_neg e1, if_neg e2, if_neg e3, if_pos e4]
        show (if numE9 L (L t).tag.toNat n ≠ 0 then _ else if brN (L t) n ≠ brN (L t) n then _ else _) = _
        rw [if_neg (by rw [n1]; decide), if_neg (by simp)]
      have hpt : ∀ i, partT L t n i = ((L t).items ((branchZ (L t) n).toNat + i)).type.toNat := fun i => by unfold partT; rw [if_neg e3, if_pos e4]
      refine ⟨node_fits hhd (fun i hi => by show fitsT L (K i) (partT L t n i) = 0; rw [hpt]; exact (k1 i hi).1), node_wf n2 n3 (fun i hi => (k1 i hi).2), k2, ?_⟩
      rw [rowT_eq]
      unfold headR
      rw [if_neg e0, if_neg e1, if_neg e23, if_pos e4, bytR_app]
      show bytR (catTo (fun i => rowT L (K i) (partT L t n i)) (brN (L t) n)) (bytP (.num (lowK (L (L t).tag.toNat).kind n) (szK (L (L t).tag.toNat).kind)) (preB11 b a)) = _
      simp only [hpt]
      rw [n5, k3]
    rw [if_neg e4] at hd
    split at hd
    · cases hd
    rename_i hn
    have hn : nE L t b a = 0 := Classical.not_not.1 hn
    injection hd with h1 h2
    subst h1
    subst h2
    have hkn := ok_num ok e0 e1 e2 e3 e4
    obtain ⟨n1, n2, n3, n4, n5⟩ := type_one hkn ha hn
    have hfm : formT (vNode (L t).kind (nN L t b a) ⟨#[]⟩ 0 (fun _ => .nil)) = true := form_num hkn
    have hhd : headE L t (vNode (L t).kind (nN L t b a) ⟨#[]⟩ 0 (fun _ => .nil)) = 0 := by
      rw [head_unf rfl hfm, if_neg e0, if_neg e1, if_neg e2, if_neg e3, if_neg e4]
      exact n1
    refine ⟨node_fits hhd (fun i hi => absurd hi (Nat.not_lt_zero i)), node_wf n2 n3 (fun i hi => absurd hi (Nat.not_lt_zero i)), n4, ?_⟩
    rw [rowT_eq]
    unfold headR
    rw [if_neg e0, if_neg e1, if_neg e23, if_neg e4]
    exact n5
end Go.Proofs.YtmnemddagcfjgaaGreatDoor
