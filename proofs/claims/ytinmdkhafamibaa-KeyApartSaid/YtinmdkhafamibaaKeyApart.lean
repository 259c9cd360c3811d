/- Keys of two values of one type are one just if their key fields are alike. -/
import Derived.Test.YtinmdkhafamibaaKeyOf
import Derived.Test.YtinmdkhafamibaaKeyText
namespace Go.Proofs.Ytinmdkhafamibaa
open Go.RowKit
set_option linter.unusedVariables false
theorem append_same {α : Type} : ∀ {a b r s : List α}, a.length = b.length → a ++ r = b ++ s → a = b ∧ r = s
  | [], [], _, _, _, h => ⟨rfl, h⟩
  | [], _ :: _, _, _, hl, _ => by simp at hl
  | _ :: _, [], _, _, hl, _ => by simp at hl
  | x :: a, y :: b, r, s, hl, h => by
    simp only [List.cons_append, List.cons.injEq] at h
    obtain ⟨h1, h2⟩ := append_same (a := a) (b := b) (by simpa using hl) h.2
    exact ⟨by rw [h.1, h1], h2⟩
theorem data_same {a b : ByteArray} (h : a.data.toList = b.data.toList) : a = b := by
  apply ByteArray.ext
  exact Array.toList_inj.1 h
theorem bytes_size {a : ByteArray} : a.data.toList.length = a.size := (Lib.size_eq a).symm
set_option maxHeartbeats 1000000 in
/-- what a key field adds tells the field, and where it ends -/
theorem fb_inj {L : Nat → TypeV} {len t : Nat} {T U : VT} (he : EnumOk L len) (ht : t < len) (hT : HeadOk L t T) (hU : HeadOk L t U) (hk : numK (L t).kind = true ∨ (L t).kind = 10) (hb : (L t).kind = 10 → (L t).bound ≤ 64)
    (hwT : ValWf T) (hwU : ValWf U) {r s : List UInt8} (h : fbL T ++ r = fbL U ++ s) : sameT T U = true ∧ r = s := by
  have lT := form_parts hT.form
  have lU := form_parts hU.form
  have kT := hT.kind
  have kU := hU.kind
  have zT : T.len = 0 := by
    rcases lT.2.2 with h1 | h1
    · rcases hk with h2 | h2
      · rw [kT, h2] at h1; cases h1.1
      · exact absurd (kT.trans h2) h1.2
    · exact h1
  have zU : U.len = 0 := by
    rcases lU.2.2 with h1 | h1
    · rcases hk with h2 | h2
      · rw [kU, h2] at h1; cases h1.1
      · exact absurd (kU.trans h2) h1.2
    · exact h1
  have fin : ∀ (hn : T.num = U.num) (hx : T.text = U.text), sameT T U = true := fun hn hx => sameT_iff.2 ⟨by rw [kT, kU], hn, hx, by rw [zT, zU], fun i hi => by rw [zT] at hi; omega⟩
  by_cases c : (L t).kind = 10
  · unfold fbL at h
    rw [if_pos (kT.trans c), if_pos (kU.trans c)] at h
    simp only [List.cons_append, List.cons.injEq] at h
    have hb' := hb c
    have sT := hT.text c
    have sU := hU.text c
    have h8 : T.text.size = U.text.size := by
      have := congrArg UInt8.toNat h.1
      rw [UInt8.toNat_ofNat', UInt8.toNat_ofNat'] at this
      omega
    obtain ⟨h1, h2⟩ := append_same (by rw [bytes_size, bytes_size, h8]) h.2
    refine ⟨fin ?_ (data_same h1), h2⟩
    have nT : T.num = 0 := by
      rcases lT.1 with (h3 | h3) | h3
      · rw [kT, c] at h3; exact absurd h3 (by decide)
      · rw [kT, c] at h3; exact absurd h3 (by decide)
      · exact h3
    have nU : U.num = 0 := by
      rcases lU.1 with (h3 | h3) | h3
      · rw [kU, c] at h3; exact absurd h3 (by decide)
      · rw [kU, c] at h3; exact absurd h3 (by decide)
      · exact h3
    rw [nT, nU]
  · have hn := hk.resolve_right c
    unfold fbL at h
    rw [if_neg (by rw [kT]; exact c), if_neg (by rw [kU]; exact c), kT, kU] at h
    obtain ⟨h1, h2⟩ := append_same (by rw [bytes_size, bytes_size, putS_size, putS_size]) h
    have h3 := putS_inj (low_ok hn) (low_ok hn) (data_same h1)
    have hkr : 1 ≤ (L t).kind ∧ (L t).kind ≤ 9 := by unfold numK at hn; simpa using hn
    have e1 := hT.num (by omega) (by omega) (by omega) (by omega) (by omega)
    have e2 := hU.num (by omega) (by omega) (by omega) (by omega) (by omega)
    have wT := bounds_u64 hwT.2.1
    have wU := bounds_u64 hwU.2.1
    refine ⟨fin (low_inj he ht wT.1 wT.2 wU.1 wU.2 e1 e2 h3) ?_, h2⟩
    have tT : T.text.data.toList = [] := by
      rcases lT.2.1 with h4 | h4
      · exact absurd (kT.symm.trans h4) c
      · exact h4
    have tU : U.text.data.toList = [] := by
      rcases lU.2.1 with h4 | h4
      · exact absurd (kU.symm.trans h4) c
      · exact h4
    exact data_same (by rw [tT, tU])
theorem fb_same {T U : VT} (h : sameT T U = true) : fbL T = fbL U := by
  obtain ⟨h1, h2, h3, _, _⟩ := sameT_iff.1 h
  unfold fbL
  rw [h1, h2, h3]
/-- are the fields at these places alike -/
def alk (f g : Nat → VT) (l : List Nat) : Bool := l.all fun i => sameT (f i) (g i)
theorem alk_snoc (f g : Nat → VT) (l : List Nat) (i : Nat) : alk f g (l ++ [i]) = (alk f g l && sameT (f i) (g i)) := by unfold alk; rw [List.all_append]; simp
theorem keyB_same {f g : Nat → VT} : ∀ {l : List Nat}, alk f g l = true → keyB f l = keyB g l
  | [], _ => rfl
  | i :: l, h => by
    unfold alk at h
    rw [List.all_cons, Bool.and_eq_true] at h
    show fbL (f i) ++ keyB f l = fbL (g i) ++ keyB g l
    rw [fb_same h.1, keyB_same (l := l) h.2]
theorem keyB_inj {f g : Nat → VT} : ∀ {l : List Nat}, (∀ i ∈ l, ∀ r s, fbL (f i) ++ r = fbL (g i) ++ s → sameT (f i) (g i) = true ∧ r = s) → keyB f l = keyB g l → alk f g l = true
  | [], _, _ => rfl
  | i :: l, h, e => by
    obtain ⟨h1, h2⟩ := h i (by simp) _ _ e
    have h3 := keyB_inj (l := l) (fun j hj => h j (by simp [hj])) h2
    unfold alk at h3 ⊢
    rw [List.all_cons, h1, h3]; rfl
theorem fig_inj : ∀ a b : Fin 16, figB a.val = figB b.val → a = b := by decide
theorem hexL_inj : ∀ {a b : List UInt8}, hexL a = hexL b → a = b
  | [], [], _ => rfl
  | [], y :: b, h => by have := congrArg List.length h; rw [hexL_len, hexL_len] at this; simp at this
  | x :: a, [], h => by have := congrArg List.length h; rw [hexL_len, hexL_len] at this; simp at this
  | x :: a, y :: b, h => by
    have h' : figB (x.toNat / 16) :: figB (x.toNat % 16) :: hexL a = figB (y.toNat / 16) :: figB (y.toNat % 16) :: hexL b := h
    simp only [List.cons.injEq] at h'
    have hx := UInt8.toNat_lt x
    have hy := UInt8.toNat_lt y
    have e1 := fig_inj ⟨x.toNat / 16, by omega⟩ ⟨y.toNat / 16, by omega⟩ h'.1
    have e2 := fig_inj ⟨x.toNat % 16, by omega⟩ ⟨y.toNat % 16, by omega⟩ h'.2.1
    have e1' : x.toNat / 16 = y.toNat / 16 := by simpa using e1
    have e2' : x.toNat % 16 = y.toNat % 16 := by simpa using e2
    have : x = y := UInt8.toNat_inj.1 (by omega)
    rw [this, hexL_inj (a := a) (b := b) h'.2.2]
theorem kx_kb {a : List UInt8} (h : a.length ≤ 16) : (kx (kb a)).data.toList = a := by
  unfold kx
  rw [(kb_kok a h).1, if_pos rfl, (kb_kok a h).2]
theorem ktx_inj {a b : List UInt8} (ha : a.length ≤ 16) (hb : b.length ≤ 16) (h : ktx (kb a) = ktx (kb b)) : a = b := by
  have xa := kx_kb ha
  have xb := kx_kb hb
  have sa : (kx (kb a)).size = a.length := by rw [Lib.size_eq, xa]
  have sb : (kx (kb b)).size = b.length := by rw [Lib.size_eq, xb]
  unfold ktx at h
  rw [(kb_kok a ha).1, (kb_kok b hb).1, if_pos rfl, if_pos rfl, xa, xb, sa, sb] at h
  have one : ∀ l : List UInt8, (⟨#[45]⟩ : ByteArray) = bs (hexL l) → False := fun l e => by
    have h1 := congrArg ByteArray.size e
    rw [bs_size, hexL_len] at h1
    have h2 : (⟨#[45]⟩ : ByteArray).size = 1 := rfl
    omega
  by_cases ca : a.length = 0
  · by_cases cb : b.length = 0
    · rw [List.length_eq_zero_iff.1 ca, List.length_eq_zero_iff.1 cb]
    · rw [if_pos ca, if_neg cb] at h
      exact (one _ h).elim
  · by_cases cb : b.length = 0
    · rw [if_neg ca, if_pos cb] at h
      exact (one _ h.symm).elim
    · rw [if_neg ca, if_neg cb] at h
      refine hexL_inj ?_
      have h1 := congrArg (fun x : ByteArray => x.data.toList) h
      simpa [bs] using h1
end Go.Proofs.Ytinmdkhafamibaa
