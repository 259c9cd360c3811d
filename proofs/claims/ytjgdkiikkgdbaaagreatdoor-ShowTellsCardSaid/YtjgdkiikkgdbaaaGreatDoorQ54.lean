/- The reference's small functions of chapter 14: digits, Quoted, kind, longest, odd, bad, num. -/
import Derived.Test.YtjgdkiikkgdbaaaGreatDoorQ05
import Derived.Test.YtjgdkiikkgdbaaaGreatDoorQ31
namespace Go.Proofs.YtjgdkiikkgdbaaaGreatDoor
open Go.RowKit
set_option linter.unusedVariables false
theorem getD_get (l : List UInt8) (j : Nat) (h : j < l.length) : l.getD j 0 = l[j] := by rw [List.getD_eq_getElem?_getD, List.getElem?_eq_getElem h]; rfl
theorem digit_at (x : UInt8) (w : World) : Calls Tryz.prog 62 #[.int .u8 (x.toNat : Nat)] w fun e w' => e = .returned (.bool (dig x)) ∧ w = w' := refDigit_any x.toNat (UInt8.toNat_lt x) w
theorem all_of_getD (p : UInt8 → Bool) (l : List UInt8) (h : ∀ i, i < l.length → p (l.getD i 0) = true) : l.all p = true := by
  rw [List.all_eq_true]
  intro x hx
  obtain ⟨i, hi, rfl⟩ := List.getElem_of_mem hx
  rw [← getD_get l i hi]; exact h i hi
set_option maxRecDepth 100000 in
set_option maxHeartbeats 2000000 in
theorem refDigits_any (l : List UInt8) (hl : l.length ≤ 1000) (w : World) : Calls Tryz.prog 136 #[.string (bs l)] w fun e w' => e = .returned (.bool (l.all dig && !l.isEmpty)) ∧ w = w' := by
  have HG := Lib.hid (bs_get l)
  have HALL := Lib.hid (all_of_getD dig l)
  have hsz : (bs l).size = l.length := bs_size l
  have hem : ((bs l).toList == []) = l.isEmpty := by rw [ByteArray.toList_eq, bs_toList]; cases l <;> rfl
  obtain ⟨s, hs⟩ : ∃ s, bs l = s := ⟨_, rfl⟩
  rw [hs] at HG hsz hem ⊢
  have hml : s.size ≤ maxLen := by show s.size ≤ 9223372036854775807; omega
  have HEM := Lib.hid hem
  obtain ⟨R, hR⟩ : ∃ R, (l.all dig && !l.isEmpty) = R := ⟨_, rfl⟩
  rw [hR]
  have HRR := Lib.hid hR
  clear hs hem hR
  go_enter Tryz.func136, Tryz.ntmps136
  go_wp2_with (fail)
  go_loopw [3] (fun i wr => ∃ j : Nat, j ≤ l.length ∧ i = .int .i64 j ∧ Hid (∀ i, i < j → dig (l.getD i 0) = true) ∧ wr = w) (fun i _ => l.length - (intOf i).toNat)
  case atStart => exact ⟨0, Nat.zero_le _, rfl, Lib.hid (fun i hi => absurd hi (Nat.not_lt_zero _)), rfl⟩
  case round =>
    obtain ⟨j, hj, rfl, HR, rfl⟩ := hrel
    by_cases hlt : j < l.length
    · have hlt2 : j < s.size := by omega
      have hg := HG.out j hlt2 hlt
      have hgd := getD_get l j hlt
      obtain ⟨x, hx⟩ : ∃ x, l[j] = x := ⟨_, rfl⟩
      rw [hx] at hg hgd
      have HD := Lib.hid (digit_at x)
      cases hd : dig x with
      | true =>
        rw [hd] at HD
        have HN := Lib.hid (show ∀ i, i < j + 1 → dig (l.getD i 0) = true from fun i hi => by
          rcases Nat.lt_succ_iff_lt_or_eq.1 hi with h | h
          · exact HR.out i h
          · rw [h, hgd]; exact hd)
        clear hd hx hgd
        go_wp2_with (go_at_call 62; refine (HD.out _).mono ?_; rintro e w1 ⟨rfl, rfl⟩)
        go_roundw
        case rel => exact ⟨j + 1, by omega, by go_num, HN, by first | rfl | trivial⟩
        case measure => simp [intOf]; omega
      | false =>
        rw [hd] at HD
        have HN := Lib.hid (show R = false by
          rw [← HRR.out]
          have hmem : x ∈ l := by rw [← hx]; exact List.getElem_mem hlt
          have : l.all dig = false := by
            rw [List.all_eq_false]
            exact ⟨x, hmem, by simp [hd]⟩
          rw [this]; rfl)
        clear hd hx hgd
        go_wp2_with (go_at_call 62; refine (HD.out _).mono ?_; rintro e w1 ⟨rfl, rfl⟩)
        go_ret
        exact ⟨by rw [HN.out]; rfl, rfl⟩
    · have HN := Lib.hid (HALL.out (fun i hi => HR.out i (by omega)))
      obtain ⟨em, hem2⟩ : ∃ em, l.isEmpty = em := ⟨_, rfl⟩
      have heq := HEM.out
      rw [hem2] at heq
      have HX := Lib.hid (show R = !em by rw [← HRR.out, HN.out, hem2]; cases em <;> rfl)
      clear hem2
      cases em with
      | true =>
        go_wp2_with (fail)
        go_ret
        exact ⟨by rw [HX.out]; rfl, rfl⟩
      | false =>
        go_wp2_with (fail)
        go_ret
        exact ⟨by rw [HX.out]; rfl, rfl⟩
/-- what stands between quotes, as the reference reads it -/
def qr : List UInt8 → List UInt8 → Option (List UInt8)
  | [], _ => none
  | [c], out => if c = 39 then some out else none
  | c :: d :: r, out => if c = 39 then (if d = 39 then qr r (out ++ [39]) else none) else qr (d :: r) (out ++ [c])
def quoD (l : List UInt8) : Option (List UInt8) := if 2 ≤ l.length ∧ l.getD 0 0 = 39 then qr (l.drop 1) [] else none
def quV (o : Option (List UInt8)) : Value := match o with
  | some t => .tuple #[.string (bs t), .bool true]
  | none => .tuple #[.string ⟨#[]⟩, .bool false]
theorem qr_next (c : UInt8) (r out : List UInt8) (h : ¬ c = 39) : qr (c :: r) out = qr r (out ++ [c]) := by
  cases r with
  | nil => simp [qr, h]
  | cons d q => rw [qr, if_neg h]
theorem u8_39 {x : UInt8} (h : x = 39) : (x.toNat : Int) = 39 := by rw [h]; rfl
theorem u8_n39 {x : UInt8} (h : ¬ x = 39) : ((x.toNat : Int) == 39) = false := beq_eq_false_iff_ne.2 (fun e => h (UInt8.toNat_inj.1 (by exact_mod_cast e)))
theorem u8_m39 {x : UInt8} (h : ¬ x = 39) : ((x.toNat : Int) != 39) = true := by unfold bne; rw [u8_n39 h]; rfl
set_option maxRecDepth 100000 in
set_option maxHeartbeats 4000000 in
theorem refQuoted_any (l : List UInt8) (hl : l.length ≤ 1000) (w : World) : Calls Tryz.prog 78 #[.string (bs l)] w fun e w' => e = .returned (quV (quoD l)) ∧ w = w' := by
  have HG := Lib.hid (bs_get l)
  have HSM := Lib.hid (sl_mid l)
  have hsz : (bs l).size = l.length := bs_size l
  have hq : quoD l = if 2 ≤ l.length ∧ l.getD 0 0 = 39 then qr (l.drop 1) [] else none := rfl
  obtain ⟨s, hs⟩ : ∃ s, bs l = s := ⟨_, rfl⟩
  obtain ⟨Q, hQ⟩ : ∃ Q, quoD l = Q := ⟨_, rfl⟩
  rw [hQ] at hq ⊢
  rw [hs] at HG HSM hsz ⊢
  have hml : s.size ≤ maxLen := by show s.size ≤ 9223372036854775807; omega
  have HQ := Lib.hid hq
  clear hs hQ hq
  by_cases h2 : 2 ≤ l.length
  · have h0 : 0 < s.size := by omega
    have hg0 := HG.out 0 h0 (by omega)
    have hgd0 := getD_get l 0 (by omega)
    obtain ⟨x0, hx0⟩ : ∃ x, l[0] = x := ⟨_, rfl⟩
    rw [hx0] at hg0 hgd0
    have h2i : ¬ (l.length : Int) < 2 := by omega
    by_cases h39 : x0 = 39
    · have HQ1 := Lib.hid (show qr (l.drop 1) [] = Q by rw [HQ.out, if_pos ⟨h2, by rw [hgd0]; exact h39⟩])
      have h39i := u8_39 h39
      have hsz2 := bs_size
      have HA := Lib.hid bs_append
      clear h39 hx0 hgd0
      go_enter Tryz.func78, Tryz.ntmps78
      go_wp2_with (fail)
      go_loopw [4, 5] (fun o i wr => ∃ (j : Nat) (out : List UInt8), 1 ≤ j ∧ j ≤ l.length ∧ i = .int .i64 j ∧ o = .string (bs out) ∧ out.length ≤ j ∧ Hid (qr (l.drop j) out = Q) ∧ wr = w) (fun _ i _ => l.length - (intOf i).toNat)
      case atStart => exact ⟨1, [], Nat.le_refl _, by omega, rfl, rfl, Nat.zero_le _, HQ1, rfl⟩
      case round =>
        obtain ⟨j, out, hj1, hj, rfl, rfl, ho, HR, rfl⟩ := hrel
        by_cases hlt : j < l.length
        · have hlt2 : j < s.size := by omega
          have hg := HG.out j hlt2 hlt
          have hdr := drop_at l j hlt
          have hst : ∀ wx, (Instr.slice 9 (.string s) (some (.int .i64 (j : Int))) (some (.int .i64 ((j : Int) + 1))) none).run Tryz.prog wx = .ok (.string (bs [l[j]])) wx := fun wx => by
            have h := HSM.out j (j + 1) (by omega) (by omega) wx
            rw [hdr, Nat.add_sub_cancel_left] at h
            exact h
          obtain ⟨x, hx⟩ : ∃ x, l[j] = x := ⟨_, rfl⟩
          rw [hx] at hg hdr hst
          have q1 : ¬ 9223372036854775807 < out.length + 1 := by omega
          by_cases hx39 : x = 39
          · have hxi := u8_39 hx39
            by_cases hend : j + 1 = l.length
            · have hdn : l.drop (j + 1) = [] := List.drop_eq_nil_of_le (by omega)
              have HE := Lib.hid (show Q = some out by rw [← HR.out, hdr, hdn, hx39]; rfl)
              have hei : ((j : Int) == (l.length : Int) - 1) = true := beq_iff_eq.2 (by omega)
              clear hx hdr hdn hst hx39
              go_wp2_with (fail)
              go_ret2
              exact ⟨by rw [HE.out]; rfl, rfl⟩
            · have hlt3 : j + 1 < l.length := by omega
              have hlt4 : j + 1 < s.size := by omega
              have hg2 := HG.out (j + 1) hlt4 hlt3
              have hdr2 := drop_at l (j + 1) hlt3
              have hst2 : ∀ wx, (Instr.slice 9 (.string s) (some (.int .i64 ((j : Int) + 1))) (some (.int .i64 ((j : Int) + 1 + 1))) none).run Tryz.prog wx = .ok (.string (bs [l[j + 1]])) wx := fun wx => by
                have h := HSM.out (j + 1) (j + 1 + 1) (by omega) (by omega) wx
                rw [hdr2, Nat.add_sub_cancel_left] at h
                exact h
              have hst3 : ∀ wx, (Instr.slice 9 (.string s) (some (.int .i64 ((j : Int) + 1))) (some (.int .i64 ((j : Int) + 2))) none).run Tryz.prog wx = .ok (.string (bs [l[j + 1]])) wx := hst2
              obtain ⟨y, hy⟩ : ∃ y, l[j + 1] = y := ⟨_, rfl⟩
              rw [hy] at hg2 hdr2 hst2 hst3
              have hei : ((j : Int) == (l.length : Int) - 1) = false := beq_eq_false_iff_ne.2 (by omega)
              by_cases hy39 : y = 39
              · have HE := Lib.hid (show qr (l.drop (j + 2)) (out ++ [39]) = Q by
                  rw [← HR.out, hdr, hdr2, hx39, hy39, qr, if_pos rfl, if_pos rfl])
                have hyi := u8_39 hy39
                rw [hy39] at hst2 hst3
                clear hx hdr hdr2 hst hx39 hy hy39
                go_wp2_with (fail)
                have HAA := HA.out out [39]
                go_roundw
                case rel => exact ⟨j + 2, out ++ [39], by omega, by omega, by go_num, by rw [HAA], by simp; omega, HE, by first | rfl | trivial⟩
                case measure => simp [intOf]; omega
              · have HE := Lib.hid (show Q = none by rw [← HR.out, hdr, hdr2, hx39, qr, if_pos rfl, if_neg hy39])
                have hyi := u8_m39 hy39
                clear hx hdr hdr2 hst hst2 hst3 hx39 hy hy39
                go_wp2_with (fail)
                go_ret2
                exact ⟨by rw [HE.out]; rfl, rfl⟩
          · have HE := Lib.hid (show qr (l.drop (j + 1)) (out ++ [x]) = Q by rw [← HR.out, hdr, qr_next _ _ _ hx39])
            have hxi := u8_n39 hx39
            clear hx hdr hx39
            go_wp2_with (fail)
            have HAA := HA.out out [x]
            go_roundw
            case rel => exact ⟨j + 1, out ++ [x], by omega, by omega, by go_num, by rw [HAA], by simp; omega, HE, by first | rfl | trivial⟩
            case measure => simp [intOf]; omega
        · have HE := Lib.hid (show Q = none by rw [← HR.out, List.drop_eq_nil_of_le (by omega)]; rfl)
          go_wp2_with (fail)
          go_ret2
          exact ⟨by rw [HE.out]; rfl, rfl⟩
    · have HQ1 := Lib.hid (show Q = none by rw [HQ.out, if_neg (fun h => h39 (by rw [← hgd0]; exact h.2))])
      have h39i := u8_m39 h39
      clear h39 hx0 hgd0
      go_enter Tryz.func78, Tryz.ntmps78
      go_wp2_with (fail)
      go_ret2
      exact ⟨by rw [HQ1.out]; rfl, rfl⟩
  · have HQ1 := Lib.hid (show Q = none by rw [HQ.out, if_neg (fun h => h2 h.1)])
    have h2i : (l.length : Int) < 2 := by omega
    go_enter Tryz.func78, Tryz.ntmps78
    go_wp2_with (fail)
    go_ret2
    exact ⟨by rw [HQ1.out]; rfl, rfl⟩
end Go.Proofs.YtjgdkiikkgdbaaaGreatDoor
/- The reference's kind and longest. -/
namespace Go.Proofs.YtjgdkiikkgdbaaaGreatDoor
open Go.RowKit
set_option linter.unusedVariables false
def rsigns : List (List UInt8) := [[61], [60, 62], [60], [60, 61], [62], [62, 61], [40], [41], [46], [91], [93], [45]]
def rsAt (i : Nat) : List UInt8 := rsigns.getD i []
def rsObj : Obj := .cells #[.string ⟨#[61]⟩, .string ⟨#[60, 62]⟩, .string ⟨#[60]⟩, .string ⟨#[60, 61]⟩, .string ⟨#[62]⟩, .string ⟨#[62, 61]⟩, .string ⟨#[40]⟩, .string ⟨#[41]⟩, .string ⟨#[46]⟩, .string ⟨#[91]⟩, .string ⟨#[93]⟩, .string ⟨#[45]⟩] 9
theorem rsAt_len : ∀ i : Nat, i < 12 → (rsAt i).length ≤ 2
  | 0, _ => by decide
  | 1, _ => by decide
  | 2, _ => by decide
  | 3, _ => by decide
  | 4, _ => by decide
  | 5, _ => by decide
  | 6, _ => by decide
  | 7, _ => by decide
  | 8, _ => by decide
  | 9, _ => by decide
  | 10, _ => by decide
  | 11, _ => by decide
theorem rs_at (w : World) : ∀ i, i < 12 → StrAt (w.alloc rsObj) (some ⟨w.heap.size, 0, none⟩) i (bs (rsAt i)) := by
  intro i hi
  have h := alloc_at w rsObj
  refine ⟨w.heap.size, 0, rfl, ?_, ?_⟩
  · rw [Nat.zero_add]
    match i, hi with
    | 0, _ => exact cell_at h rfl
    | 1, _ => exact cell_at h rfl
    | 2, _ => exact cell_at h rfl
    | 3, _ => exact cell_at h rfl
    | 4, _ => exact cell_at h rfl
    | 5, _ => exact cell_at h rfl
    | 6, _ => exact cell_at h rfl
    | 7, _ => exact cell_at h rfl
    | 8, _ => exact cell_at h rfl
    | 9, _ => exact cell_at h rfl
    | 10, _ => exact cell_at h rfl
    | 11, _ => exact cell_at h rfl
  · rw [bs_size]; have := rsAt_len i hi; omega
theorem rs_find (l : List UInt8) : (0 ≤ findZ (fun i => bs (rsAt i)) (bs l) 12) ↔ rsigns.contains l = true := by
  unfold findZ
  rcases firstZ_cases (fun k => (bs (rsAt k)).toList == (bs l).toList) 12 with ⟨k, hk, h1, h2, _⟩ | ⟨h1, h2⟩
  · rw [h1]
    refine ⟨fun _ => ?_, fun _ => by omega⟩
    rw [ByteArray.toList_eq, ByteArray.toList_eq, bs_toList, bs_toList] at h2
    have h3 : rsAt k = l := by simpa using h2
    rw [List.contains_iff_mem, ← h3]
    unfold rsAt
    rw [List.getD_eq_getElem?_getD, List.getElem?_eq_getElem (show k < rsigns.length from hk)]
    exact List.getElem_mem _
  · rw [h1]
    refine ⟨fun h => by omega, fun h => ?_⟩
    rw [List.contains_iff_mem] at h
    obtain ⟨k, hk, h3⟩ := List.getElem_of_mem h
    have h4 := h2 k hk
    rw [ByteArray.toList_eq, ByteArray.toList_eq, bs_toList, bs_toList] at h4
    have h5 : rsAt k = l := by
      unfold rsAt; rw [List.getD_eq_getElem?_getD, List.getElem?_eq_getElem hk, h3]; rfl
    rw [h5] at h4
    simp at h4
theorem refLeadL (l : List UInt8) (hl : l.length ≤ 1000) (w : World) : Calls Tryz.prog 63 #[.string (bs l)] w fun e w' => e = .returned (.int .i64 (wl l : Nat)) ∧ w = w' := by
  have h := refLead_any (bs l) (by rw [bs_size]; omega) w
  rwa [leadN_eq, bs_toList] at h
theorem refFindL (l : List UInt8) (w : World) : Calls Tryz.prog 93 #[.slice (some ⟨w.heap.size, 0, none⟩) 12 12, .string (bs l)] (w.alloc rsObj) fun e w' => e = .returned (.int .i64 (findZ (fun i => bs (rsAt i)) (bs l) 12)) ∧ w.alloc rsObj = w' :=
  refFind_any _ 12 12 (fun i => bs (rsAt i)) (bs l) (by omega) _ (rs_at w)
/-- of which kind the token is that some bytes are -/
def kindN (l : List UInt8) : Nat :=
  if wl l = l.length then 1 else if (l.all dig && !l.isEmpty) = true then 2 else if (quoD l).isSome = true then 3
  else if l.length = 2 ∧ l.getD 0 0 = 37 ∧ dig (l.getD 1 0) = true then 4 else if rsigns.contains l = true then 5 else 0
set_option maxRecDepth 100000 in
set_option maxHeartbeats 4000000 in
theorem kind_tail (l : List UInt8) (hl : l.length ≤ 1000) (w : World) (h1 : ¬ wl l = l.length) (h2 : (l.all dig && !l.isEmpty) = false) (h3 : quoD l = none) : Calls Tryz.prog 114 #[.string (bs l)] w fun e w' => e = .returned (.int .i64 (kindN l : Nat)) ∧ Below w.heap.size w w' := by
  have hk : kindN l = if l.length = 2 ∧ l.getD 0 0 = 37 ∧ dig (l.getD 1 0) = true then 4 else if rsigns.contains l = true then 5 else 0 := by
    unfold kindN
    rw [if_neg h1, if_neg (by rw [h2]; decide), if_neg (by rw [h3]; decide)]
  have HL := Lib.hid (fun wx => refLeadL l hl wx)
  have hdd := refDigits_any l hl
  rw [h2] at hdd
  have HD := Lib.hid hdd
  have hqq := refQuoted_any l hl
  rw [h3] at hqq
  have HQ := Lib.hid (show ∀ wx, Calls Tryz.prog 78 #[.string (bs l)] wx fun e w' => e = .returned (.tuple #[.string ⟨#[]⟩, .bool false]) ∧ wx = w' from hqq)
  clear hdd hqq
  have HF := Lib.hid (fun wx => refFindL l wx)
  have hsf := rs_find l
  have HG := Lib.hid (bs_get l)
  have hsz : (bs l).size = l.length := bs_size l
  obtain ⟨R, hR⟩ : ∃ R, kindN l = R := ⟨_, rfl⟩
  rw [hR] at hk ⊢
  have HK := Lib.hid hk
  obtain ⟨Z, hZ⟩ : ∃ Z, findZ (fun i => bs (rsAt i)) (bs l) 12 = Z := ⟨_, rfl⟩
  rw [hZ] at HF hsf
  obtain ⟨s, hs⟩ : ∃ s, bs l = s := ⟨_, rfl⟩
  rw [hs] at HL HD HQ HF HG hsz ⊢
  have hml : s.size ≤ maxLen := by show s.size ≤ 9223372036854775807; omega
  have h1b : (((wl l : Nat) : Int) == (l.length : Int)) = false := beq_eq_false_iff_ne.2 (by omega)
  have HSF := Lib.hid hsf
  have HO := Lib.hid (fun wx : World => (Below.refl wx.heap.size wx).alloc (Nat.le_refl _) rsObj)
  clear hs hR hk hZ h1 h2 h3 hsf
  -- where no parameter stands: the signs
  have sgn : ∀ c : Bool, rsigns.contains l = c → (c = true → 0 ≤ Z) ∧ (c = false → ¬ 0 ≤ Z) := fun c hc => ⟨fun h => HSF.out.2 (hc.trans h), fun h h0 => by rw [HSF.out.1 h0] at hc; rw [← hc] at h; cases h⟩
  obtain ⟨c, hc⟩ : ∃ c, rsigns.contains l = c := ⟨_, rfl⟩
  have hsg := sgn c hc
  rw [hc] at HK
  clear sgn HSF hc
  by_cases hp : l.length = 2
  · have hlt0 : 0 < s.size := by omega
    have hlt1 : 1 < s.size := by omega
    have hg0 := HG.out 0 hlt0 (by omega)
    have hg1 := HG.out 1 hlt1 (by omega)
    have hd0 := getD_get l 0 (by omega)
    have hd1 := getD_get l 1 (by omega)
    obtain ⟨x, hx⟩ : ∃ x, l[0]'(by omega) = x := ⟨_, rfl⟩
    obtain ⟨y, hy⟩ : ∃ y, l[1]'(by omega) = y := ⟨_, rfl⟩
    rw [hx] at hg0 hd0
    rw [hy] at hg1 hd1
    rw [hd0, hd1] at HK
    have HDY := Lib.hid (digit_at y)
    have hpi : ((l.length : Int) == 2) = true := beq_iff_eq.2 (by omega)
    clear hx hy hd0 hd1
    by_cases h37 : x = 37
    · have h37i : ((x.toNat : Int) == 37) = true := by rw [h37]; rfl
      cases hdy : dig y with
      | true =>
        rw [hdy] at HDY
        have HE := Lib.hid (show R = 4 by rw [HK.out, if_pos ⟨hp, h37, hdy⟩])
        clear h37 hp hdy HK
        go_enter Tryz.func114, Tryz.ntmps114
        go_wp2_with (first
          | (go_at_call 63; refine (HL.out _).mono ?_; rintro e w1 ⟨rfl, rfl⟩)
          | (go_at_call 136; refine (HD.out _).mono ?_; rintro e w2 ⟨rfl, rfl⟩)
          | (go_at_call 78; refine (HQ.out _).mono ?_; rintro e w3 ⟨rfl, rfl⟩)
          | (go_at_call 62; refine (HDY.out _).mono ?_; rintro e w4 ⟨rfl, rfl⟩)
          | (go_at_call 93; refine (HF.out _).mono ?_; rintro e w5 ⟨rfl, rfl⟩))
        go_ret
        exact ⟨by rw [HE.out]; rfl, Below.refl _ _⟩
      | false =>
        rw [hdy] at HDY
        have hK := HK.out
        rw [if_neg (fun h => by rw [hdy] at h; exact absurd h.2.2 (by decide))] at hK
        clear h37 hp hdy HK
        have hK2 : R = if c = true then 5 else 0 := hK
        clear hK
        cases c with
        | true =>
          have hz := hsg.1 rfl
          have HE := Lib.hid (show R = 5 from hK2)
          clear hsg hK2
          go_enter Tryz.func114, Tryz.ntmps114
          go_wp2_with (first
            | (go_at_call 63; refine (HL.out _).mono ?_; rintro e w1 ⟨rfl, rfl⟩)
            | (go_at_call 136; refine (HD.out _).mono ?_; rintro e w2 ⟨rfl, rfl⟩)
            | (go_at_call 78; refine (HQ.out _).mono ?_; rintro e w3 ⟨rfl, rfl⟩)
            | (go_at_call 62; refine (HDY.out _).mono ?_; rintro e w4 ⟨rfl, rfl⟩)
            | (go_at_call 93; refine (HF.out _).mono ?_; rintro e w5 ⟨rfl, rfl⟩))
          go_ret
          exact ⟨by rw [HE.out]; rfl, HO.out _⟩
        | false =>
          have hz := hsg.2 rfl
          have HE := Lib.hid (show R = 0 from hK2)
          clear hsg hK2
          go_enter Tryz.func114, Tryz.ntmps114
          go_wp2_with (first
            | (go_at_call 63; refine (HL.out _).mono ?_; rintro e w1 ⟨rfl, rfl⟩)
            | (go_at_call 136; refine (HD.out _).mono ?_; rintro e w2 ⟨rfl, rfl⟩)
            | (go_at_call 78; refine (HQ.out _).mono ?_; rintro e w3 ⟨rfl, rfl⟩)
            | (go_at_call 62; refine (HDY.out _).mono ?_; rintro e w4 ⟨rfl, rfl⟩)
            | (go_at_call 93; refine (HF.out _).mono ?_; rintro e w5 ⟨rfl, rfl⟩))
          go_ret
          exact ⟨by rw [HE.out]; rfl, HO.out _⟩
    · have h37i : ((x.toNat : Int) == 37) = false := beq_eq_false_iff_ne.2 (fun e => h37 (UInt8.toNat_inj.1 (by exact_mod_cast e)))
      have hK := HK.out
      rw [if_neg (fun h => h37 h.2.1)] at hK
      clear h37 hp HK
      have hK2 : R = if c = true then 5 else 0 := hK
      clear hK
      cases c with
      | true =>
        have hz := hsg.1 rfl
        have HE := Lib.hid (show R = 5 from hK2)
        clear hsg hK2
        go_enter Tryz.func114, Tryz.ntmps114
        go_wp2_with (first
          | (go_at_call 63; refine (HL.out _).mono ?_; rintro e w1 ⟨rfl, rfl⟩)
          | (go_at_call 136; refine (HD.out _).mono ?_; rintro e w2 ⟨rfl, rfl⟩)
          | (go_at_call 78; refine (HQ.out _).mono ?_; rintro e w3 ⟨rfl, rfl⟩)
          | (go_at_call 62; refine (HDY.out _).mono ?_; rintro e w4 ⟨rfl, rfl⟩)
          | (go_at_call 93; refine (HF.out _).mono ?_; rintro e w5 ⟨rfl, rfl⟩))
        go_ret
        exact ⟨by rw [HE.out]; rfl, HO.out _⟩
      | false =>
        have hz := hsg.2 rfl
        have HE := Lib.hid (show R = 0 from hK2)
        clear hsg hK2
        go_enter Tryz.func114, Tryz.ntmps114
        go_wp2_with (first
          | (go_at_call 63; refine (HL.out _).mono ?_; rintro e w1 ⟨rfl, rfl⟩)
          | (go_at_call 136; refine (HD.out _).mono ?_; rintro e w2 ⟨rfl, rfl⟩)
          | (go_at_call 78; refine (HQ.out _).mono ?_; rintro e w3 ⟨rfl, rfl⟩)
          | (go_at_call 62; refine (HDY.out _).mono ?_; rintro e w4 ⟨rfl, rfl⟩)
          | (go_at_call 93; refine (HF.out _).mono ?_; rintro e w5 ⟨rfl, rfl⟩))
        go_ret
        exact ⟨by rw [HE.out]; rfl, HO.out _⟩
  · have hpi : ((l.length : Int) == 2) = false := beq_eq_false_iff_ne.2 (by omega)
    have hK := HK.out
    rw [if_neg (fun h => hp h.1)] at hK
    clear hp HK
    have hK2 : R = if c = true then 5 else 0 := hK
    clear hK
    cases c with
    | true =>
      have hz := hsg.1 rfl
      have HE := Lib.hid (show R = 5 from hK2)
      clear hsg hK2
      go_enter Tryz.func114, Tryz.ntmps114
      go_wp2_with (first
        | (go_at_call 63; refine (HL.out _).mono ?_; rintro e w1 ⟨rfl, rfl⟩)
        | (go_at_call 136; refine (HD.out _).mono ?_; rintro e w2 ⟨rfl, rfl⟩)
        | (go_at_call 78; refine (HQ.out _).mono ?_; rintro e w3 ⟨rfl, rfl⟩)
        | (go_at_call 93; refine (HF.out _).mono ?_; rintro e w5 ⟨rfl, rfl⟩))
      go_ret
      exact ⟨by rw [HE.out]; rfl, HO.out _⟩
    | false =>
      have hz := hsg.2 rfl
      have HE := Lib.hid (show R = 0 from hK2)
      clear hsg hK2
      go_enter Tryz.func114, Tryz.ntmps114
      go_wp2_with (first
        | (go_at_call 63; refine (HL.out _).mono ?_; rintro e w1 ⟨rfl, rfl⟩)
        | (go_at_call 136; refine (HD.out _).mono ?_; rintro e w2 ⟨rfl, rfl⟩)
        | (go_at_call 78; refine (HQ.out _).mono ?_; rintro e w3 ⟨rfl, rfl⟩)
        | (go_at_call 93; refine (HF.out _).mono ?_; rintro e w5 ⟨rfl, rfl⟩))
      go_ret
      exact ⟨by rw [HE.out]; rfl, HO.out _⟩
end Go.Proofs.YtjgdkiikkgdbaaaGreatDoor
