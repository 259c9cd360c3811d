/- The reference's kind and longest. -/
import Derived.Test.YtbejpgoedenpmaaGreatDoorTokRef
namespace Go.Proofs.YtbejpgoedenpmaaGreatDoor
open Go.RowKit
set_option linter.unusedVariables false
def rsigns : List (List UInt8) := [[61], [60, 62], [60], [60, 61], [62], [62, 61], [40], [41], [46], [91], [93], [45]]
def rsAt (i : Nat) : List UInt8 := rsigns.getD i []
def rsObj : Obj := .cells #[.string ⟨#[61]⟩, .string ⟨#[60, 62]⟩, .string ⟨#[60]⟩, .string ⟨#[60, 61]⟩, .string ⟨#[62]⟩, .string ⟨#[62, 61]⟩, .string ⟨#[40]⟩, .string ⟨#[41]⟩, .string ⟨#[46]⟩, .string ⟨#[91]⟩, .string ⟨#[93]⟩, .string ⟨#[45]⟩] 9
theorem rsAt_len : ∀ i : Nat, i < 12 → (rsAt i).length ≤ 2
  | 0, _ => by decide
  | 1, _ => by decide
  | 2, _ => by decide
  | 3, _ => by decide
  | 4, _ => by decide
  | 5, _ => by decide
  | 6, _ => by decide
  | 7, _ => by decide
  | 8, _ => by decide
  | 9, _ => by decide
  | 10, _ => by decide
  | 11, _ => by decide
theorem rs_at (w : World) : ∀ i, i < 12 → StrAt (w.alloc rsObj) (some ⟨w.heap.size, 0, none⟩) i (bs (rsAt i)) := by
  intro i hi
  have h := alloc_at w rsObj
  refine ⟨w.heap.size, 0, rfl, ?_, ?_⟩
  · rw [Nat.zero_add]
    match i, hi with
    | 0, _ => exact cell_at h rfl
    | 1, _ => exact cell_at h rfl
    | 2, _ => exact cell_at h rfl
    | 3, _ => exact cell_at h rfl
    | 4, _ => exact cell_at h rfl
    | 5, _ => exact cell_at h rfl
    | 6, _ => exact cell_at h rfl
    | 7, _ => exact cell_at h rfl
    | 8, _ => exact cell_at h rfl
    | 9, _ => exact cell_at h rfl
    | 10, _ => exact cell_at h rfl
    | 11, _ => exact cell_at h rfl
  · rw [bs_size]; have := rsAt_len i hi; omega
theorem rs_find (l : List UInt8) : (0 ≤ findZ (fun i => bs (rsAt i)) (bs l) 12) ↔ rsigns.contains l = true := by
  unfold findZ
  rcases firstZ_cases (fun k => (bs (rsAt k)).toList == (bs l).toList) 12 with ⟨k, hk, h1, h2, _⟩ | ⟨h1, h2⟩
  · rw [h1]
    refine ⟨fun _ => ?_, fun _ => by omega⟩
    rw [ByteArray.toList_eq, ByteArray.toList_eq, bs_toList, bs_toList] at h2
    have h3 : rsAt k = l := by simpa using h2
    rw [List.contains_iff_mem, ← h3]
    unfold rsAt
    rw [List.getD_eq_getElem?_getD, List.getElem?_eq_getElem (show k < rsigns.length from hk)]
    exact List.getElem_mem _
  · rw [h1]
    refine ⟨fun h => by omega, fun h => ?_⟩
    rw [List.contains_iff_mem] at h
    obtain ⟨k, hk, h3⟩ := List.getElem_of_mem h
    have h4 := h2 k hk
    rw [ByteArray.toList_eq, ByteArray.toList_eq, bs_toList, bs_toList] at h4
    have h5 : rsAt k = l := by
      unfold rsAt; rw [List.getD_eq_getElem?_getD, List.getElem?_eq_getElem hk, h3]; rfl
    rw [h5] at h4
    simp at h4
theorem refLeadL (l : List UInt8) (hl : l.length ≤ 1000) (w : World) : Calls Tryz.prog 82 #[.string (bs l)] w fun e w' => e = .returned (.int .i64 (wl l : Nat)) ∧ w = w' := by
  have h := refLead_any (bs l) (by rw [bs_size]; omega) w
  rwa [leadN_eq, bs_toList] at h
theorem refFindL (l : List UInt8) (w : World) : Calls Tryz.prog 85 #[.slice (some ⟨w.heap.size, 0, none⟩) 12 12, .string (bs l)] (w.alloc rsObj) fun e w' => e = .returned (.int .i64 (findZ (fun i => bs (rsAt i)) (bs l) 12)) ∧ w.alloc rsObj = w' :=
  refFind_any _ 12 12 (fun i => bs (rsAt i)) (bs l) (by omega) _ (rs_at w)
/-- of which kind the token is that some bytes are -/
def kindN (l : List UInt8) : Nat :=
  if wl l = l.length then 1 else if (l.all dig && !l.isEmpty) = true then 2 else if (quoD l).isSome = true then 3
  else if l.length = 2 ∧ l.getD 0 0 = 37 ∧ dig (l.getD 1 0) = true then 4 else if rsigns.contains l = true then 5 else 0
set_option maxRecDepth 100000 in
set_option maxHeartbeats 4000000 in
theorem kind_tail (l : List UInt8) (hl : l.length ≤ 1000) (w : World) (h1 : ¬ wl l = l.length) (h2 : (l.all dig && !l.isEmpty) = false) (h3 : quoD l = none) : Calls Tryz.prog 69 #[.string (bs l)] w fun e w' => e = .returned (.int .i64 (kindN l : Nat)) ∧ Below w.heap.size w w' := by
  have hk : kindN l = if l.length = 2 ∧ l.getD 0 0 = 37 ∧ dig (l.getD 1 0) = true then 4 else if rsigns.contains l = true then 5 else 0 := by
    unfold kindN
    rw [if_neg h1, if_neg (by rw [h2]; decide), if_neg (by rw [h3]; decide)]
  have HL := Lib.hid (fun wx => refLeadL l hl wx)
  have hdd := refDigits_any l hl
  rw [h2] at hdd
  have HD := Lib.hid hdd
  have hqq := refQuoted_any l hl
  rw [h3] at hqq
  have HQ := Lib.hid (show ∀ wx, Calls Tryz.prog 45 #[.string (bs l)] wx fun e w' => e = .returned (.tuple #[.string ⟨#[]⟩, .bool false]) ∧ wx = w' from hqq)
  clear hdd hqq
  have HF := Lib.hid (fun wx => refFindL l wx)
  have hsf := rs_find l
  have HG := Lib.hid (bs_get l)
  have hsz : (bs l).size = l.length := bs_size l
  obtain ⟨R, hR⟩ : ∃ R, kindN l = R := ⟨_, rfl⟩
  rw [hR] at hk ⊢
  have HK := Lib.hid hk
  obtain ⟨Z, hZ⟩ : ∃ Z, findZ (fun i => bs (rsAt i)) (bs l) 12 = Z := ⟨_, rfl⟩
  rw [hZ] at HF hsf
  obtain ⟨s, hs⟩ : ∃ s, bs l = s := ⟨_, rfl⟩
  rw [hs] at HL HD HQ HF HG hsz ⊢
  have hml : s.size ≤ maxLen := by show s.size ≤ 9223372036854775807; omega
  have h1b : (((wl l : Nat) : Int) == (l.length : Int)) = false := beq_eq_false_iff_ne.2 (by omega)
  have HSF := Lib.hid hsf
  have HO := Lib.hid (fun wx : World => (Below.refl wx.heap.size wx).alloc (Nat.le_refl _) rsObj)
  clear hs hR hk hZ h1 h2 h3 hsf
  -- where no parameter stands: the signs
  have sgn : ∀ c : Bool, rsigns.contains l = c → (c = true → 0 ≤ Z) ∧ (c = false → ¬ 0 ≤ Z) := fun c hc => ⟨fun h => HSF.out.2 (hc.trans h), fun h h0 => by rw [HSF.out.1 h0] at hc; rw [← hc] at h; cases h⟩
  obtain ⟨c, hc⟩ : ∃ c, rsigns.contains l = c := ⟨_, rfl⟩
  have hsg := sgn c hc
  rw [hc] at HK
  clear sgn HSF hc
  by_cases hp : l.length = 2
  · have hlt0 : 0 < s.size := by omega
    have hlt1 : 1 < s.size := by omega
    have hg0 := HG.out 0 hlt0 (by omega)
    have hg1 := HG.out 1 hlt1 (by omega)
    have hd0 := getD_get l 0 (by omega)
    have hd1 := getD_get l 1 (by omega)
    obtain ⟨x, hx⟩ : ∃ x, l[0]'(by omega) = x := ⟨_, rfl⟩
    obtain ⟨y, hy⟩ : ∃ y, l[1]'(by omega) = y := ⟨_, rfl⟩
    rw [hx] at hg0 hd0
    rw [hy] at hg1 hd1
    rw [hd0, hd1] at HK
    have HDY := Lib.hid (digit_at y)
    have hpi : ((l.length : Int) == 2) = true := beq_iff_eq.2 (by omega)
    clear hx hy hd0 hd1
    by_cases h37 : x = 37
    · have h37i : ((x.toNat : Int) == 37) = true := by rw [h37]; rfl
      cases hdy : dig y with
      | true =>
        rw [hdy] at HDY
        have HE := Lib.hid (show R = 4 by rw [HK.out, if_pos ⟨hp, h37, hdy⟩])
        clear h37 hp hdy HK
        go_enter Tryz.func69, Tryz.ntmps69
        go_wp2_with (first
          | (go_at_call 82; refine (HL.out _).mono ?_; rintro e w1 ⟨rfl, rfl⟩)
          | (go_at_call 83; refine (HD.out _).mono ?_; rintro e w2 ⟨rfl, rfl⟩)
          | (go_at_call 45; refine (HQ.out _).mono ?_; rintro e w3 ⟨rfl, rfl⟩)
          | (go_at_call 84; refine (HDY.out _).mono ?_; rintro e w4 ⟨rfl, rfl⟩)
          | (go_at_call 85; refine (HF.out _).mono ?_; rintro e w5 ⟨rfl, rfl⟩))
        go_ret
        exact ⟨by rw [HE.out]; rfl, Below.refl _ _⟩
      | false =>
        rw [hdy] at HDY
        have hK := HK.out
        rw [if_neg (fun h => by rw [hdy] at h; exact absurd h.2.2 (by decide))] at hK
        clear h37 hp hdy HK
        have hK2 : R = if c = true then 5 else 0 := hK
        clear hK
        cases c with
        | true =>
          have hz := hsg.1 rfl
          have HE := Lib.hid (show R = 5 from hK2)
          clear hsg hK2
          go_enter Tryz.func69, Tryz.ntmps69
          go_wp2_with (first
            | (go_at_call 82; refine (HL.out _).mono ?_; rintro e w1 ⟨rfl, rfl⟩)
            | (go_at_call 83; refine (HD.out _).mono ?_; rintro e w2 ⟨rfl, rfl⟩)
            | (go_at_call 45; refine (HQ.out _).mono ?_; rintro e w3 ⟨rfl, rfl⟩)
            | (go_at_call 84; refine (HDY.out _).mono ?_; rintro e w4 ⟨rfl, rfl⟩)
            | (go_at_call 85; refine (HF.out _).mono ?_; rintro e w5 ⟨rfl, rfl⟩))
          go_ret
          exact ⟨by rw [HE.out]; rfl, HO.out _⟩
        | false =>
          have hz := hsg.2 rfl
          have HE := Lib.hid (show R = 0 from hK2)
          clear hsg hK2
          go_enter Tryz.func69, Tryz.ntmps69
          go_wp2_with (first
            | (go_at_call 82; refine (HL.out _).mono ?_; rintro e w1 ⟨rfl, rfl⟩)
            | (go_at_call 83; refine (HD.out _).mono ?_; rintro e w2 ⟨rfl, rfl⟩)
            | (go_at_call 45; refine (HQ.out _).mono ?_; rintro e w3 ⟨rfl, rfl⟩)
            | (go_at_call 84; refine (HDY.out _).mono ?_; rintro e w4 ⟨rfl, rfl⟩)
            | (go_at_call 85; refine (HF.out _).mono ?_; rintro e w5 ⟨rfl, rfl⟩))
          go_ret
          exact ⟨by rw [HE.out]; rfl, HO.out _⟩
    · have h37i : ((x.toNat : Int) == 37) = false := beq_eq_false_iff_ne.2 (fun e => h37 (UInt8.toNat_inj.1 (by exact_mod_cast e)))
      have hK := HK.out
      rw [if_neg (fun h => h37 h.2.1)] at hK
      clear h37 hp HK
      have hK2 : R = if c = true then 5 else 0 := hK
      clear hK
      cases c with
      | true =>
        have hz := hsg.1 rfl
        have HE := Lib.hid (show R = 5 from hK2)
        clear hsg hK2
        go_enter Tryz.func69, Tryz.ntmps69
        go_wp2_with (first
          | (go_at_call 82; refine (HL.out _).mono ?_; rintro e w1 ⟨rfl, rfl⟩)
          | (go_at_call 83; refine (HD.out _).mono ?_; rintro e w2 ⟨rfl, rfl⟩)
          | (go_at_call 45; refine (HQ.out _).mono ?_; rintro e w3 ⟨rfl, rfl⟩)
          | (go_at_call 84; refine (HDY.out _).mono ?_; rintro e w4 ⟨rfl, rfl⟩)
          | (go_at_call 85; refine (HF.out _).mono ?_; rintro e w5 ⟨rfl, rfl⟩))
        go_ret
        exact ⟨by rw [HE.out]; rfl, HO.out _⟩
      | false =>
        have hz := hsg.2 rfl
        have HE := Lib.hid (show R = 0 from hK2)
        clear hsg hK2
        go_enter Tryz.func69, Tryz.ntmps69
        go_wp2_with (first
          | (go_at_call 82; refine (HL.out _).mono ?_; rintro e w1 ⟨rfl, rfl⟩)
          | (go_at_call 83; refine (HD.out _).mono ?_; rintro e w2 ⟨rfl, rfl⟩)
          | (go_at_call 45; refine (HQ.out _).mono ?_; rintro e w3 ⟨rfl, rfl⟩)
          | (go_at_call 84; refine (HDY.out _).mono ?_; rintro e w4 ⟨rfl, rfl⟩)
          | (go_at_call 85; refine (HF.out _).mono ?_; rintro e w5 ⟨rfl, rfl⟩))
        go_ret
        exact ⟨by rw [HE.out]; rfl, HO.out _⟩
  · have hpi : ((l.length : Int) == 2) = false := beq_eq_false_iff_ne.2 (by omega)
    have hK := HK.out
    rw [if_neg (fun h => hp h.1)] at hK
    clear hp HK
    have hK2 : R = if c = true then 5 else 0 := hK
    clear hK
    cases c with
    | true =>
      have hz := hsg.1 rfl
      have HE := Lib.hid (show R = 5 from hK2)
      clear hsg hK2
      go_enter Tryz.func69, Tryz.ntmps69
      go_wp2_with (first
        | (go_at_call 82; refine (HL.out _).mono ?_; rintro e w1 ⟨rfl, rfl⟩)
        | (go_at_call 83; refine (HD.out _).mono ?_; rintro e w2 ⟨rfl, rfl⟩)
        | (go_at_call 45; refine (HQ.out _).mono ?_; rintro e w3 ⟨rfl, rfl⟩)
        | (go_at_call 85; refine (HF.out _).mono ?_; rintro e w5 ⟨rfl, rfl⟩))
      go_ret
      exact ⟨by rw [HE.out]; rfl, HO.out _⟩
    | false =>
      have hz := hsg.2 rfl
      have HE := Lib.hid (show R = 0 from hK2)
      clear hsg hK2
      go_enter Tryz.func69, Tryz.ntmps69
      go_wp2_with (first
        | (go_at_call 82; refine (HL.out _).mono ?_; rintro e w1 ⟨rfl, rfl⟩)
        | (go_at_call 83; refine (HD.out _).mono ?_; rintro e w2 ⟨rfl, rfl⟩)
        | (go_at_call 45; refine (HQ.out _).mono ?_; rintro e w3 ⟨rfl, rfl⟩)
        | (go_at_call 85; refine (HF.out _).mono ?_; rintro e w5 ⟨rfl, rfl⟩))
      go_ret
      exact ⟨by rw [HE.out]; rfl, HO.out _⟩
end Go.Proofs.YtbejpgoedenpmaaGreatDoor
