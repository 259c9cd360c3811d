/- Contracts of key.fieldBytes and key.Of; the key of a value in plain words. -/
import Derived.Test.YtinmdkhafamibaaGreatKeyFields
import Derived.Test.YtinmdkhafamibaaGreatKeyVal
import Derived.Test.YtinmdkhafamibaaGreatPutSame
namespace Go.Proofs.YtinmdkhafamibaaGreat
open Go.RowKit
set_option linter.unusedVariables false
/-- a key field's type is of numbers or of texts -/
theorem key_kind {L : Nat → TypeV} {len k i : Nat} (hok : fErr (oneR L len) len = 0) (hk : k < len) (h13 : (L k).kind = 13) (hi : i < (L k).ilen) (hkey : ((L k).items i).key = true) :
    numK (L ((L k).items i).type.toNat).kind = true ∨ (L ((L k).items i).type.toNat).kind = 10 := by
  obtain ⟨hie, _⟩ := item_zero hok hk hi
  unfold itemE at hie
  split at hie; · cases hie
  split at hie; · cases hie
  split at hie; · cases hie
  rename_i hc
  rw [hkey] at hc
  simp at hc
  cases hn : numK (L ((L k).items i).type.toNat).kind with
  | true => exact .inl rfl
  | false => exact .inr (hc hn)
/-- a struct's fields -/
theorem kid_ok {L : Nat → TypeV} {k : Nat} {T : VT} (hft : fitsT L T k = 0) (h13 : (L k).kind = 13) : T.len = (L k).ilen ∧ ∀ i, i < (L k).ilen → HeadOk L ((L k).items i).type.toNat (T.kid i) := by
  obtain ⟨h0, hkids⟩ := fits_zero hft
  have hh := head_ok h0
  have hl := hh.str h13
  refine ⟨hl, fun i hi => ?_⟩
  have h1 := hkids i (by omega)
  unfold partT at h1
  rw [if_pos h13] at h1
  exact head_ok (fits_zero h1).1
/-- what a key field adds to a key -/
def fbL (T : VT) : List UInt8 := if T.kind = 10 then UInt8.ofNat T.text.size :: T.text.data.toList else (putS (lowK T.kind T.num) (szK T.kind)).data.toList
theorem fbL_len {L : Nat → TypeV} {t : Nat} {T : VT} (h : HeadOk L t T) (hk : numK (L t).kind = true ∨ (L t).kind = 10) : ((fbL T).length : Int) ≤ lonK (L t) := by
  unfold fbL lonK
  rw [h.kind]
  by_cases c : (L t).kind = 10
  · rw [if_pos c, if_pos c]
    have := h.text c
    rw [List.length_cons, ← Lib.size_eq]
    omega
  · rw [if_neg c, if_neg c, ← Lib.size_eq, putS_size]
    have := szK_le (L t).kind
    omega
/-- the bytes of a key, field by field -/
def keyB (f : Nat → VT) : List Nat → List UInt8
  | [] => []
  | i :: r => fbL (f i) ++ keyB f r
theorem keyB_append (f : Nat → VT) : ∀ a b : List Nat, keyB f (a ++ b) = keyB f a ++ keyB f b
  | [], b => rfl
  | i :: a, b => by
    show fbL (f i) ++ keyB f (a ++ b) = (fbL (f i) ++ keyB f a) ++ keyB f b
    rw [keyB_append f a b, List.append_assoc]
theorem keyB_le {L : Nat → TypeV} {k : Nat} {T : VT} {len : Nat} (hok : fErr (oneR L len) len = 0) (hk : k < len) (h13 : (L k).kind = 13) (hft : fitsT L T k = 0) : ∀ n : Nat, n ≤ (L k).ilen → ((keyB T.kid (keyF (L k) n)).length : Int) ≤ keyN L (L k) n
  | 0, _ => by simp [keyF, keyB, keyN]
  | n + 1, hn => by
    have h1 := keyB_le hok hk h13 hft n (by omega)
    rw [keyF_succ, keyB_append]
    unfold keyN
    cases hq : ((L k).items n).key with
    | false => rw [if_neg (by decide), if_neg (by decide)]; simp [keyB]; omega
    | true =>
      rw [if_pos rfl, if_pos rfl, List.length_append]
      have h2 := fbL_len ((kid_ok hft h13).2 n (by omega)) (key_kind hok hk h13 (by omega) hq)
      have h3 : keyB T.kid [n] = fbL (T.kid n) := by show fbL (T.kid n) ++ [] = _; rw [List.append_nil]
      rw [h3]
      omega
/-- the error of Of, and the key -/
def keyE (L : Nat → TypeV) (len : Nat) (t : Int) (T : VT) : Int := if fldE L len t ≠ 0 then fldE L len t else fitsA L len t T
def keyK (L : Nat → TypeV) (len : Nat) (t : Int) (T : VT) : List UInt8 := if keyE L len t T = 0 then kb (keyB T.kid (fldL L len t)) else List.replicate 17 0
theorem keyK_len (L : Nat → TypeV) (len : Nat) (t : Int) (T : VT) : (keyK L len t T).length = 17 := by
  unfold keyK; split
  · exact kb_len _
  · simp
theorem bs_data (s : ByteArray) : bs s.data.toList = s := rfl
/-- a value in its box -/
def VIn (g : Nat) (T : VT) (w0 w : World) : Prop := w.heap[g]? = some (.cells #[.int .i64 T.kind, .int .u64 T.num, .string T.text, .slice T.ia T.len T.cap] 26 (0, 0)) ∧ Below w0.heap.size w0 w
theorem VIn.new (T : VT) (w : World) : VIn w.heap.size T w (w.alloc (.cells #[.int .i64 T.kind, .int .u64 T.num, .string T.text, .slice T.ia T.len T.cap] 26)) := ⟨alloc_at w _, (Below.refl _ _).alloc (Nat.le_refl _) _⟩
theorem VIn.drew {g : Nat} {T : VT} {w0 w : World} (h : VIn g T w0 w) : VIn g T w0 w.drew := ⟨h.1, h.2.drew⟩
theorem VIn.step {g : Nat} {T : VT} {w0 w w' : World} (h : VIn g T w0 w) (hb : Below w.heap.size w w') : VIn g T w0 w' :=
  ⟨(hb.block g (lt_of_block h.1)).trans h.1, h.2.trans (hb.mono h.2.size)⟩
theorem VIn.c0 {g : Nat} {T : VT} {w0 w : World} (h : VIn g T w0 w) : w.cell? ⟨g, 0, none⟩ = some (.int .i64 T.kind) := cell_at h.1 rfl
theorem VIn.c1 {g : Nat} {T : VT} {w0 w : World} (h : VIn g T w0 w) : w.cell? ⟨g, 1, none⟩ = some (.int .u64 T.num) := cell_at h.1 rfl
theorem convF (c : UInt8) (w : World) : (convert 62 9 (.slice (some ⟨w.heap.size, 0, none⟩) 1 1)).run Tryz.prog (w.alloc (.cells #[.int .u8 (c.toNat : Nat)] 5)) = .ok (.string ⟨#[c]⟩) (w.alloc (.cells #[.int .u8 (c.toNat : Nat)] 5)) := by
  have h := run_convert_bytes_back (P := Tryz.prog) (w.alloc (.cells #[.int .u8 (c.toNat : Nat)] 5)) 62 9 5 ⟨w.heap.size, 0, none⟩ 1 [c] Tryz.underlying62 Tryz.underlying5 Tryz.underlying9 (fun j hj => by
    obtain rfl : j = 0 := by simpa using hj
    rw [add_plain]
    exact cell_at (alloc_at w _) rfl)
  exact h
theorem convG (c : UInt8) (w : World) (g : Nat) (hg : g = w.heap.size) : (convert 62 9 (.slice (some ⟨g, 0, none⟩) 1 1)).run Tryz.prog (w.alloc (.cells #[.int .u8 (c.toNat : Nat)] 5)) = .ok (.string ⟨#[c]⟩) (w.alloc (.cells #[.int .u8 (c.toNat : Nat)] 5)) := by
  subst hg; exact convF c w
theorem one_text (c : UInt8) (s : ByteArray) : (⟨#[c]⟩ : ByteArray) ++ s = bs (c :: s.data.toList) := by
  apply ByteArray.ext
  simp [bs]
set_option maxRecDepth 100000 in
set_option maxHeartbeats 4000000 in
theorem fieldBytes_any (T : VT) (hw : ValWf T) (hk : numK T.kind = true ∨ T.kind = 10) (ht : T.text.size ≤ 255) (w : World) :
    Calls Tryz.prog 18 #[.agg #[.int .i64 T.kind, .int .u64 T.num, .string T.text, .slice T.ia T.len T.cap]] w fun e w' => e = .returned (.string (bs (fbL T))) ∧ Below w.heap.size w w' := by
  have HI := Lib.hid (VIn.new T w)
  by_cases h10 : T.kind = 10
  · have hk1 : (T.kind == 10) = true := by simpa using h10
    have hF : bs (fbL T) = ⟨#[UInt8.ofNat T.text.size]⟩ ++ T.text := by unfold fbL; rw [if_pos h10, one_text]
    rw [hF]
    have h8 : ((UInt8.ofNat T.text.size).toNat : Int) = (T.text.size : Nat) := by rw [UInt8.toNat_ofNat']; omega
    have hcv := convG (UInt8.ofNat T.text.size) (w.alloc (.cells #[.int .i64 T.kind, .int .u64 T.num, .string T.text, .slice T.ia T.len T.cap] 26)) (w.heap.size + 1) (by simp)
    rw [h8] at hcv
    have hml : T.text.size ≤ maxLen := by unfold maxLen; omega
    have hz1 : (⟨#[UInt8.ofNat T.text.size]⟩ : ByteArray).size = 1 := rfl
    obtain ⟨C, hC⟩ : ∃ C : ByteArray, (⟨#[UInt8.ofNat T.text.size]⟩ : ByteArray) = C := ⟨_, rfl⟩
    rw [hC] at hcv hz1 ⊢
    clear hF h8 h10 hk hw hC
    go_enter Tryz.func18, Tryz.ntmps18
    go_wp2
    go_ret
    exact ⟨rfl, HI.out.2.alloc HI.out.2.size _⟩
  · have hk1 : (T.kind == 10) = false := by simpa using h10
    have hn : numK T.kind = true := hk.resolve_right h10
    have hlr := low_range (k := T.kind) (n := T.num)
    have hlw : (Lit.int .u64 (lowK T.kind T.num)).wf = true := by
      have e1 : IntKind.u64.min = 0 := rfl
      have e2 : IntKind.u64.max = 18446744073709551615 := rfl
      simp only [Lit.wf, e1, e2, Bool.and_eq_true, decide_eq_true_eq]
      exact hlr
    have hokp := low_ok (n := T.num) hn
    have hz := szK_sz hn
    have hfit : fits (lowK T.kind T.num) (szK T.kind) = true := hokp.2.1
    have HL := Lib.hid (fun wx => low_any T.kind T.num hw.2.1 wx)
    have HS := Lib.hid (fun wx => size_any T.kind wx)
    have hp := fun wx => put_any (lowK T.kind T.num) (szK T.kind) hlw wx
    rw [(put_in hz hfit).1, (put_in hz hfit).2] at hp
    have hF : bs (fbL T) = putS (lowK T.kind T.num) (szK T.kind) := by unfold fbL; rw [if_neg h10]; rfl
    rw [hF]
    have HP := Lib.hid hp
    clear hp hF hn hlr hlw hokp hz hfit hk h10 hw
    obtain ⟨X, hX⟩ : ∃ X, putS (lowK T.kind T.num) (szK T.kind) = X := ⟨_, rfl⟩
    obtain ⟨lo, hlo⟩ : ∃ X, lowK T.kind T.num = X := ⟨_, rfl⟩
    obtain ⟨sz, hsz⟩ : ∃ X, szK T.kind = X := ⟨_, rfl⟩
    rw [hX] at HP ⊢
    rw [hlo] at HP HL
    rw [hsz] at HP HS
    clear hX hlo hsz
    go_enter Tryz.func18, Tryz.ntmps18
    go_wp2
    go_region_held3 (fun w' => w'.cell? ⟨w.heap.size, 0, none⟩ = some (.int .i64 T.kind) ∧ w'.cell? ⟨w.heap.size, 1, none⟩ = some (.int .u64 T.num) ∧ Hid (VIn w.heap.size T w w')) (first | exact ⟨HI.out.drew.c0, HI.out.drew.c1, Lib.hid HI.out.drew⟩ | exact ⟨HI.out.c0, HI.out.c1, HI⟩ | fail)
      (first
        | (go_at_call 31; refine (HL.out _).mono ?_; rintro e w3 ⟨rfl, hb3⟩; have HI := Lib.hid (VIn.step (w0 := w) (by first | exact HI.out | exact HI.out.drew) hb3); clear hb3)
        | (go_at_call 26; refine (HS.out _).mono ?_; rintro e w4 ⟨rfl, hb4⟩; have HI := Lib.hid (VIn.step (w0 := w) (by first | exact HI.out | exact HI.out.drew) hb4); clear hb4)
        | (go_at_call 30; refine (HP.out _).mono ?_; rintro e w5 ⟨rfl, hb5⟩; have HI := Lib.hid (VIn.step (w0 := w) (by first | exact HI.out | exact HI.out.drew) hb5); clear hb5))
    all_goals
      go_wp2
      go_ret
      exact ⟨rfl, HI.out.2⟩
/-- the value's box and the result's row -/
def OIn (T : VT) (w0 w : World) : Prop := VIn w0.heap.size T w0 w ∧ w.heap[w0.heap.size + 1]? = some (.cells (kc (List.replicate 17 0)) 35 (0, 0))
theorem OIn.step {T : VT} {w0 w w' : World} (h : OIn T w0 w) (hb : Below w.heap.size w w') : OIn T w0 w' := ⟨h.1.step hb, (hb.block _ (lt_of_block h.2)).trans h.2⟩
theorem VIn.c2 {g : Nat} {T : VT} {w0 w : World} (h : VIn g T w0 w) : w.cell? ⟨g, 2, none⟩ = some (.string T.text) := cell_at h.1 rfl
theorem VIn.c3 {g : Nat} {T : VT} {w0 w : World} (h : VIn g T w0 w) : w.cell? ⟨g, 3, none⟩ = some (.slice T.ia T.len T.cap) := cell_at h.1 rfl
theorem OIn.new (T : VT) (w : World) : OIn T w ((w.alloc (.cells #[.int .i64 T.kind, .int .u64 T.num, .string T.text, .slice T.ia T.len T.cap] 26)).alloc (.cells #[.int .u8 0, .int .u8 0, .int .u8 0, .int .u8 0, .int .u8 0, .int .u8 0, .int .u8 0, .int .u8 0, .int .u8 0, .int .u8 0, .int .u8 0, .int .u8 0, .int .u8 0, .int .u8 0, .int .u8 0, .int .u8 0, .int .u8 0] 35)) :=
  ⟨⟨heap_alloc2_old w _ _, ((Below.refl _ _).alloc (Nat.le_refl _) _).alloc (by simp) _⟩, heap_alloc2_new w _ _⟩
theorem rep_len : (List.replicate 17 (0 : UInt8)).length = 17 := rfl
set_option maxRecDepth 100000 in
set_option maxHeartbeats 8000000 in
theorem of_any13 (ao : Option Addr) (len cap : Nat) (L : Nat → TypeV) (hlen : len ≤ 1000000) (hcap : len ≤ cap) (hcp : ∀ i, i < len → (L i).ilen ≤ (L i).icap) (S : Nat → Prop) (t : Int) (T : VT) (w : World) (HV : ValAt w S T) (H : ∀ i, i < len → TypeAt w ao i (L i)) :
    Calls Tryz.prog 9 #[.slice ao len cap, .int .i64 t, .agg #[.int .i64 T.kind, .int .u64 T.num, .string T.text, .slice T.ia T.len T.cap]] w fun e w' => e = .returned (.tuple #[.agg (kc (keyK L len t T)), .int .i64 (keyE L len t T)]) ∧ Below w.heap.size w w' := by
  have hf := fun wx (hb : Below w.heap.size w wx) => fields13_any ao len cap L t hlen hcap wx (hold H hb)
  have ht := fun wx (hb : Below w.heap.size w wx) => fits9_any ao len cap L hlen hcap hcp S t T wx (HV.next hb) (hold H hb)
  have HO := Lib.hid (OIn.new T w)
  unfold FldTo at hf
  by_cases hE : fldE L len t = 0
  · obtain ⟨k, rfl, hk, hok, h13, h16, hfl⟩ := fld_zero hE
    have e1 : keyE L len (k : Nat) T = fitsA L len (k : Nat) T := by unfold keyE; rw [if_neg (by rw [hE]; decide)]
    by_cases hA : fitsA L len (k : Nat) T = 0
    · obtain ⟨k', hkk, _, _, hft⟩ : ∃ k' : Nat, ((k : Nat) : Int) = k' ∧ k' < len ∧ fErr (oneR L len) len = 0 ∧ fitsT L T k' = 0 := by
        unfold fitsA at hA
        split at hA
        · rename_i hc; exact ⟨k, rfl, hk, hok, by rw [Int.toNat_natCast] at hA; exact hA⟩
        · cases hA
      obtain rfl : k = k' := by omega
      have e2 : keyK L len (k : Nat) T = kb (keyB T.kid (fldL L len (k : Nat))) := by unfold keyK; rw [e1, if_pos hA]
      have hle := keyB_le hok hk h13 hft (L k).ilen (Nat.le_refl _)
      rw [← hfl] at hle
      have hko := kid_ok hft h13
      have hmem : ∀ j x, (fldL L len (k : Nat))[j]? = some x → x < (L k).ilen ∧ ((L k).items x).key = true := fun j x hx => by
        rw [hfl] at hx
        have := List.mem_filter.1 (List.mem_of_getElem? hx)
        exact ⟨List.mem_range.1 this.1, this.2⟩
      have hv := ok_all hok
      have hty := fun x (hx : x < (L k).ilen) => (hv k hk).items (.inl h13) x hx
      have hVI := (valAt_iff T).1 HV
      have HFB := Lib.hid (fun j x (hx : (fldL L len (k : Nat))[j]? = some x) wx => by
        have hm := hmem j x hx
        have ho := hko.2 x hm.1
        have hkk := key_kind hok hk h13 hm.1 hm.2
        have hwf := ((valAt_iff (T.kid x)).1 (hVI.2 x (by rw [hko.1]; exact hm.1)).2).1
        refine fieldBytes_any (T.kid x) hwf (by rw [ho.kind]; exact hkk) ?_ wx
        by_cases c : (L ((L k).items x).type.toNat).kind = 10
        · have h1 := ho.text c
          have h2 := ((hv _ (by have := hty x hm.1; omega)).bound (.inl c)).2
          omega
        · have h1 := (form_parts ho.form).2.1
          rcases h1 with h1 | h1
          · exact absurd (ho.kind.symm.trans h1) c
          · rw [Lib.size_eq, h1]; simp)
      have HCA := Lib.hid (fun j x (hx : (fldL L len (k : Nat))[j]? = some x) wx (hb : Below w.heap.size w wx) => (hVI.2 x (by rw [hko.1]; exact (hmem j x hx).1)).1.next hb)
      have HXL := Lib.hid (fun j x (hx : (fldL L len (k : Nat))[j]? = some x) => (by rw [hko.1]; exact (hmem j x hx).1 : x < T.len))
      rw [e1, hA, e2]
      rw [hE] at hf
      rw [hA] at ht
      obtain ⟨l, hl⟩ : ∃ l, fldL L len (k : Nat) = l := ⟨_, rfl⟩
      rw [hl] at hf hle HFB HCA HXL ⊢
      have hle16 : (keyB T.kid l).length ≤ 16 := by omega
      have HKB := Lib.hid (fun j => (by rw [← keyB_append, List.take_append_drop] : keyB T.kid (l.take j) ++ keyB T.kid (l.drop j) = keyB T.kid l))
      have HKN := Lib.hid (fun j x (hx : l[j]? = some x) => (by
        obtain ⟨h1, h2⟩ := List.getElem?_eq_some_iff.1 hx
        rw [List.take_succ_eq_append_getElem h1, keyB_append, h2]
        show _ ++ (fbL (T.kid x) ++ []) = _
        rw [List.append_nil] : keyB T.kid (l.take (j + 1)) = keyB T.kid (l.take j) ++ fbL (T.kid x)))
      have HKL := Lib.hid (fun j => (by
        have h1 := congrArg List.length (HKB.out j)
        rw [List.length_append] at h1
        omega : (keyB T.kid (l.take j)).length ≤ 16))
      obtain ⟨m, hm⟩ : ∃ m, l.length = m := ⟨_, rfl⟩
      have HLM := Lib.hid hm
      have hml : m ≤ 140737488351232 := by
        have h1 : l = keyF (L k) (L k).ilen := hl.symm.trans hfl
        have h2 := keyF_len (L k) (L k).ilen
        have h3 := ((hv k hk).count (.inl h13)).2
        rw [← hm, h1]; omega
      have HF := Lib.hid hf
      have HT := Lib.hid ht
      have HKO := Lib.hid (fun wx => keyOf_any (bs (keyB T.kid l)) (by rw [bs_size]; exact hle16) wx)
      rw [show (bs (keyB T.kid l)).data.toList = keyB T.kid l from rfl] at HKO
      have HALL := Lib.hid (show keyB T.kid (l.take m) = keyB T.kid l by rw [← hm, List.take_length])
      have hkl := kb_len (keyB T.kid l)
      have HS := Lib.hid bs_append
      have hbz := bs_size
      have HS0 := Lib.hid (show bs (keyB T.kid (l.take 0)) = ⟨#[]⟩ from rfl)
      obtain ⟨tia, htia⟩ : ∃ x, T.ia = x := ⟨_, rfl⟩
      have HIA := Lib.hid htia
      obtain ⟨KR, hKR⟩ : ∃ x, kb (keyB T.kid l) = x := ⟨_, rfl⟩
      rw [hKR] at HKO hkl ⊢
      clear hf ht e1 e2 hle hko hmem hv hty hVI hE hA hok h13 h16 hfl hft hl hkk H HV hle16 hm hcp htia hKR
      go_enter Tryz.func9, Tryz.ntmps9
      go_wp2_with (first
        | (go_at_call 7; refine (HF.out _ HO.out.1.2).mono ?_; rintro e w2 ⟨⟨v2, rfl, hv2⟩, hb2⟩; unfold IntsAt at hv2; rw [HLM.out] at hv2; obtain ⟨fa, fc, rfl, hfi⟩ := hv2; have HO2 := Lib.hid (HO.out.step hb2); have HFI := Lib.hid (fun j x wx (hb : Below w2.heap.size w2 wx) (hx : l[j]? = some x) => (hfi j x hx).imp fun b h => h.imp fun off h => And.intro h.1 (keep hb h.2)); have b0 := HO2.out.1.c0; have b1 := HO2.out.1.c1; have b2 := HO2.out.1.c2; have b3 := HO2.out.1.c3; clear hb2 hfi)
        | (go_at_call 17; refine (HT.out _ HO2.out.1.2).mono ?_; rintro e w3 ⟨rfl, hb3⟩; have HO3 := Lib.hid (HO2.out.step hb3); have HB3 := Lib.hid hb3; clear hb3 b0 b1 b2 b3))
      go_loopw [11, 34] (fun b i wr => ∃ j : Nat, j ≤ m ∧ i = .int .i64 j ∧ b = .string (bs (keyB T.kid (l.take j))) ∧ Hid (OIn T w wr) ∧ Hid (Below w2.heap.size w2 wr)) (fun _ i _ => m - (intOf i).toNat)
      case atStart => exact ⟨0, Nat.zero_le _, rfl, by rw [HS0.out], HO3, HB3⟩
      case round =>
        obtain ⟨j, hj, rfl, rfl, HOr, HBr⟩ := hrel
        have hpl := HKL.out j
        obtain ⟨P, hP⟩ : ∃ P, keyB T.kid (l.take j) = P := ⟨_, rfl⟩
        have HP := Lib.hid hP
        rw [hP] at hpl ⊢
        clear hP
        by_cases hlt : j < m
        · obtain ⟨x, hx⟩ : ∃ x, l[j]? = some x := ⟨_, List.getElem?_eq_getElem (by rw [HLM.out]; exact hlt)⟩
          obtain ⟨fb, fo, rfl, c0⟩ := HFI.out j x wr HBr.out hx
          have HB := Lib.hid (HFB.out j x hx)
          have hxl := HXL.out j x hx
          have HN := Lib.hid (HKN.out j x hx)
          have hpl2 := HKL.out (j + 1)
          rw [HN.out, HP.out, List.length_append] at hpl2
          rw [HP.out] at HN
          have hca := HCA.out j x hx wr HOr.out.1.2
          have c3 := HOr.out.1.c3
          rw [HIA.out] at hca c3
          obtain ⟨cb, co, rfl, _, _, d0, d1, d2, d3⟩ := hca
          obtain ⟨Q, hQ⟩ : ∃ Q, fbL (T.kid x) = Q := ⟨_, rfl⟩
          rw [hQ] at HB HN hpl2
          have HSS := HS.out P Q
          clear hx hQ
          go_wp2_with (go_at_call 18; refine (HB.out _).mono ?_; rintro e w5 ⟨rfl, hb5⟩; have HO5 := Lib.hid (HOr.out.step hb5); have HB5 := Lib.hid (below_step8' HBr.out hb5); clear hb5)
          go_roundw
          case rel => exact ⟨j + 1, by omega, by go_num, by rw [HN.out], HO5, HB5⟩
          case measure => simp [intOf]; omega
        · obtain rfl : j = m := by omega
          have hPX := HP.out
          rw [HALL.out] at hPX
          rw [hPX] at HKO
          clear hPX
          go_wp2_with (first
            | (go_at_call 19; refine (HKO.out _).mono ?_; rintro e w5 ⟨rfl, hb5⟩; have HO5 := Lib.hid (HOr.out.step hb5); clear hb5)
            | (refine wpList_store_rowTo rfl 35 _ _ rfl rfl (w.heap.size + 1) (kc KR) rfl (by rfl) _ _ HO5.out.2 (by rw [kc_size, hkl]; exact infoKey) (by rw [kc_size, kc_size, hkl]; rfl) (kc_one _) ?_))
          refine bodyPost_ret (v := .tuple #[.agg (kc KR), .int .i64 0]) ?_ rfl ⟨rfl, below_setRow HO5.out.1.2 (by omega) _⟩
          have hl := run_loadVar_row (P := Tryz.prog) (w5.setRow (w.heap.size + 1) (kc KR)) (w.heap.size + 1) 35 35 (kc KR) (0, 0) _ (setRow_heap _ _ _ _ _ _ HO5.out.2) Tryz.underlying35 rfl (by rw [kc_size, hkl]; exact infoKey)
          simp [results, Tryz.results9, asAddr, hl]
    · have e2 : keyK L len (k : Nat) T = List.replicate 17 0 := by unfold keyK; rw [e1, if_neg hA]
      rw [e1, e2]
      rw [hE] at hf
      obtain ⟨A, hAA⟩ : ∃ A, fitsA L len (k : Nat) T = A := ⟨_, rfl⟩
      rw [hAA] at ht hA ⊢
      obtain ⟨l, hl⟩ : ∃ l, fldL L len (k : Nat) = l := ⟨_, rfl⟩
      rw [hl] at hf
      have hne : (A != 0) = true := by simpa using hA
      have HF := Lib.hid hf
      obtain ⟨Z, hZ⟩ : ∃ Z, List.replicate 17 (0 : UInt8) = Z := ⟨_, rfl⟩
      have hbd : Tryz.prog.built 35 [] = some (kc Z) := by rw [← hZ]; kernel_rfl
      have hzl : Z.length = 17 := by rw [← hZ]; rfl
      rw [hZ]
      clear hZ
      have HT := Lib.hid ht
      clear hf ht e1 e2 hE hA hAA hok h13 h16 hfl hl H HV hcp
      go_enter Tryz.func9, Tryz.ntmps9
      go_upto_region 6 with (first
        | (go_at_call 7; refine (HF.out _ HO.out.1.2).mono ?_; rintro e w2 ⟨⟨v2, rfl, hv2⟩, hb2⟩; obtain ⟨fa, fc, rfl, hfi⟩ := hv2; have HO2 := Lib.hid (HO.out.step hb2); have HFI := Lib.hid (fun j x wx (hb : Below w2.heap.size w2 wx) (hx : l[j]? = some x) => (hfi j x hx).imp fun b h => h.imp fun off h => And.intro h.1 (keep hb h.2)); have b0 := HO2.out.1.c0; have b1 := HO2.out.1.c1; have b2 := HO2.out.1.c2; have b3 := HO2.out.1.c3; clear hb2 hfi)
        | (go_at_call 17; refine (HT.out _ HO2.out.1.2).mono ?_; rintro e w3 ⟨rfl, hb3⟩; have HO3 := Lib.hid (HO2.out.step hb3); have HB3 := Lib.hid hb3; clear hb3 b0 b1 b2 b3))
      refine wp_region_lit ?_
      refine wpList_buildTo rfl 35 _ rfl (some 30) rfl (kc Z) (by simpa using hbd) ?_
      simp only [Act.put, List.setIfInBounds_toArray, List.set_cons_zero, List.set_cons_succ]
      go_wp2_with (first
        | (refine wpList_store_rowTo rfl 35 _ _ rfl rfl (w.heap.size + 1) (kc Z) rfl (by rfl) _ _ HO3.out.2 (by rw [kc_size, hzl]; exact infoKey) (by rw [kc_size, kc_size, hzl]; rfl) (kc_one _) ?_))
      refine bodyPost_ret (v := .tuple #[.agg (kc Z), .int .i64 A]) ?_ rfl ⟨rfl, below_setRow HO3.out.1.2 (by omega) _⟩
      have hl := run_loadVar_row (P := Tryz.prog) (w3.setRow (w.heap.size + 1) (kc Z)) (w.heap.size + 1) 35 35 (kc Z) (0, 0) _ (setRow_heap _ _ _ _ _ _ HO3.out.2) Tryz.underlying35 rfl (by rw [kc_size, hzl]; exact infoKey)
      simp [results, Tryz.results9, asAddr, hl]
  · have e1 : keyE L len t T = fldE L len t := by unfold keyE; rw [if_pos hE]
    have e2 : keyK L len t T = List.replicate 17 0 := by unfold keyK; rw [e1, if_neg hE]
    rw [e1, e2]
    obtain ⟨A, hAA⟩ : ∃ A, fldE L len t = A := ⟨_, rfl⟩
    rw [hAA] at hf hE ⊢
    obtain ⟨l, hl⟩ : ∃ l, fldL L len t = l := ⟨_, rfl⟩
    rw [hl] at hf
    have hne : (A != 0) = true := by simpa using hE
    have HF := Lib.hid hf
    obtain ⟨Z, hZ⟩ : ∃ Z, List.replicate 17 (0 : UInt8) = Z := ⟨_, rfl⟩
    have hbd : Tryz.prog.built 35 [] = some (kc Z) := by rw [← hZ]; kernel_rfl
    have hzl : Z.length = 17 := by rw [← hZ]; rfl
    rw [hZ]
    clear hZ
    clear hf ht e1 e2 hE hAA hl H HV hcp
    go_enter Tryz.func9, Tryz.ntmps9
    go_upto_region 3 with (first
      | (go_at_call 7; refine (HF.out _ HO.out.1.2).mono ?_; rintro e w2 ⟨⟨v2, rfl, hv2⟩, hb2⟩; obtain ⟨fa, fc, rfl, hfi⟩ := hv2; have HO2 := Lib.hid (HO.out.step hb2); have HFI := Lib.hid (fun j x wx (hb : Below w2.heap.size w2 wx) (hx : l[j]? = some x) => (hfi j x hx).imp fun b h => h.imp fun off h => And.intro h.1 (keep hb h.2)); have b0 := HO2.out.1.c0; have b1 := HO2.out.1.c1; have b2 := HO2.out.1.c2; have b3 := HO2.out.1.c3; clear hb2 hfi))
    refine wp_region_lit ?_
    refine wpList_buildTo rfl 35 _ rfl (some 22) rfl (kc Z) (by simpa using hbd) ?_
    simp only [Act.put, List.setIfInBounds_toArray, List.set_cons_zero, List.set_cons_succ]
    go_wp2_with (first
      | (refine wpList_store_rowTo rfl 35 _ _ rfl rfl (w.heap.size + 1) (kc Z) rfl (by rfl) _ _ HO2.out.2 (by rw [kc_size, hzl]; exact infoKey) (by rw [kc_size, kc_size, hzl]; rfl) (kc_one _) ?_))
    refine bodyPost_ret (v := .tuple #[.agg (kc Z), .int .i64 A]) ?_ rfl ⟨rfl, below_setRow HO2.out.1.2 (by omega) _⟩
    have hl := run_loadVar_row (P := Tryz.prog) (w2.setRow (w.heap.size + 1) (kc Z)) (w.heap.size + 1) 35 35 (kc Z) (0, 0) _ (setRow_heap _ _ _ _ _ _ HO2.out.2) Tryz.underlying35 rfl (by rw [kc_size, hzl]; exact infoKey)
    simp [results, Tryz.results9, asAddr, hl]
end Go.Proofs.YtinmdkhafamibaaGreat
