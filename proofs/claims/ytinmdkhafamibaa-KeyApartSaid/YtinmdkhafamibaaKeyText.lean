/- Contracts of key.Text and of the reference's Text. -/
import Derived.Test.YtinmdkhafamibaaKeyBytes
import Derived.Test.YtinmdkhafamibaaKeyBuild
namespace Go.Proofs.Ytinmdkhafamibaa
open Go.RowKit
set_option linter.unusedVariables false
def hexL (l : List UInt8) : List UInt8 := l.flatMap fun c => [figB (c.toNat / 16), figB (c.toNat % 16)]
theorem hexL_len : ∀ l : List UInt8, (hexL l).length = 2 * l.length
  | [] => rfl
  | c :: r => by
    have := hexL_len r
    unfold hexL at this ⊢
    rw [List.flatMap_cons, List.length_append, this]
    simp; omega
theorem hexL_next (s : ByteArray) (j : Nat) (hj : j < s.size) : hexL (s.data.toList.take (j + 1)) = hexL (s.data.toList.take j) ++ [figB ((s[j]'hj).toNat / 16), figB ((s[j]'hj).toNat % 16)] := by
  have hl : j < s.data.toList.length := by rw [← Lib.size_eq]; exact hj
  unfold hexL
  rw [List.take_succ_eq_append_getElem hl, List.flatMap_append, byte_at s j hj]
  simp
/-- the text of a key -/
def ktx (K : List UInt8) : ByteArray := if kok K = true then (if (kx K).size = 0 then ⟨#[45]⟩ else bs (hexL (kx K).data.toList)) else ⟨#[63]⟩
theorem kx_small (K : List UInt8) : (kx K).size ≤ 16 := by
  unfold kx
  cases hq : kok K with
  | false => rw [if_neg (by decide)]; decide
  | true =>
    rw [if_pos rfl, Lib.size_eq]
    have h3 : kn K ≤ 16 := by unfold kok at hq; simp only [Bool.and_eq_true, decide_eq_true_eq] at hq; exact hq.1
    simp [kt]; omega
theorem KeyIn.keep {g : Nat} {K : List UInt8} {w0 w : World} (h : KeyIn g K w0 w) : w.heap[g]? = some (.cells (kc K) 31 (0, 0)) := h.1
theorem shr4 (c : Nat) (h : c < 256) : (c : Int) >>> (4 : Nat) = ((c / 16 : Nat) : Int) := by
  rw [Int.shiftRight_eq_div_pow]; omega
set_option maxRecDepth 100000 in
set_option maxHeartbeats 4000000 in
theorem text_any13 (K : List UInt8) (hK : K.length = 17) (w : World) : Calls Try.prog 11 #[.agg (kc K)] w fun e w' => e = .returned (.string (ktx K)) ∧ Below w.heap.size w w' := by
  have HI := Lib.hid (KeyIn.new K w)
  have hki : (Try.prog.info? 31).map (·.size) = some (kc K).size := by rw [kc_size, hK]; exact infoKey
  have HKI := Lib.hid hki
  have HB := Lib.hid (fun wx => bytes_any13 K hK wx)
  have hsz := kx_small K
  have hktx : ktx K = if kok K = true then (if (kx K).size = 0 then ⟨#[45]⟩ else bs (hexL (kx K).data.toList)) else ⟨#[63]⟩ := rfl
  obtain ⟨X, hX⟩ : ∃ X, ktx K = X := ⟨_, rfl⟩
  obtain ⟨S, hS⟩ : ∃ S, kx K = S := ⟨_, rfl⟩
  rw [hX, hS] at hktx
  rw [hS] at HB hsz
  rw [hX]
  have hml : S.size ≤ maxLen := by unfold maxLen; omega
  clear hX hS hki
  cases hq : kok K with
  | false =>
    rw [hq, if_neg (by decide)] at hktx
    subst hktx
    rw [hq] at HB
    clear hq
    go_enter Try.func11, Try.ntmps11
    go_wp2_with (first
      | (refine wpList_load_row rfl 31 _ rfl w.heap.size rfl 31 (kc K) (0, 0) _ HI.out.1 Try.underlying31 rfl HKI.out ?_)
      | (go_at_call 9; refine (HB.out _).mono ?_; rintro e w2 ⟨rfl, hb2⟩; have HI2 := Lib.hid (HI.out.step hb2); clear hb2))
    go_ret
    exact ⟨rfl, HI2.out.2⟩
  | true =>
    rw [hq, if_pos rfl] at hktx
    rw [hq] at HB
    clear hq
    by_cases h0 : S.size = 0
    · rw [if_pos h0] at hktx
      subst hktx
      have he2 : S = ⟨#[]⟩ := by apply ByteArray.ext; apply Array.eq_empty_of_size_eq_zero; exact h0
      have he : (⟨#[]⟩ : ByteArray).toList.isEmpty = true := by rw [ByteArray.toList_eq]; rfl
      subst he2
      go_enter Try.func11, Try.ntmps11
      go_wp2_with (first
        | (refine wpList_load_row rfl 31 _ rfl w.heap.size rfl 31 (kc K) (0, 0) _ HI.out.1 Try.underlying31 rfl HKI.out ?_)
        | (go_at_call 9; refine (HB.out _).mono ?_; rintro e w2 ⟨rfl, hb2⟩; have HI2 := Lib.hid (HI.out.step hb2); clear hb2))
      go_ret
      exact ⟨rfl, HI2.out.2⟩
    · rw [if_neg h0] at hktx
      have hne : S.toList.isEmpty = false := by
        rw [ByteArray.toList_eq]
        cases hc : S.data.toList with
        | nil => exact absurd (by rw [Lib.size_eq, hc]; rfl) h0
        | cons x r => rfl
      go_enter Try.func11, Try.ntmps11
      go_wp2_with (first
        | (refine wpList_load_row rfl 31 _ rfl w.heap.size rfl 31 (kc K) (0, 0) _ HI.out.1 Try.underlying31 rfl HKI.out ?_)
        | (go_at_call 9; refine (HB.out _).mono ?_; rintro e w2 ⟨rfl, hb2⟩; have HI2 := Lib.hid (HI.out.step hb2); clear hb2))
      have HW := Lib.hid (fun (l : List UInt8) (c : UInt8) (wx : World) (hx : TxtAt 62 w2.heap.size w2.heap.size l wx) (hl : l.length ≤ 100) (hb : Below w2.heap.size w2 wx) => writeByte8 62 liesBuilder w2.heap.size w2.heap.size l c wx hx (by omega) hb.size)
      have HS := Lib.hid (fun (l : List UInt8) (wx : World) (hx : TxtAt 62 w2.heap.size w2.heap.size l wx) (h0 : l ≠ []) (hb : Below w2.heap.size w2 wx) => string8 62 liesBuilder w2.heap.size w2.heap.size l wx hx h0)
      have HT0 := Lib.hid (show TxtAt 62 w2.heap.size w2.heap.size [] (w2.alloc (.cells #[.pointer none, .slice none 0 0] 62)) from Lib.fresh_isBuilder _ _ w2)
      have HL := Lib.hid (fun l => hexL_len l)
      have HX := Lib.hid hktx
      clear hktx
      go_loopw [20] (fun i wr => ∃ j : Nat, j ≤ S.size ∧ i = .int .i64 j ∧ Hid (TxtAt 62 w2.heap.size w2.heap.size (hexL (S.data.toList.take j)) wr) ∧ Hid (Below w2.heap.size w2 wr)) (fun i _ => S.size - (intOf i).toNat)
      case atStart => exact ⟨0, Nat.zero_le _, rfl, HT0, Lib.hid ((Below.refl _ _).alloc (Nat.le_refl _) _)⟩
      case round =>
        obtain ⟨j, hj, rfl, HR, HBr⟩ := hrel
        have hl : (hexL (S.data.toList.take j)).length ≤ 32 := by rw [HL.out, List.length_take]; omega
        by_cases hlt : j < S.size
        · have hc : (S[j]'hlt).toNat < 256 := UInt8.toNat_lt _
          have HQ := Lib.hid (hexL_next S j hlt)
          go_wp2_with (first
            | (go_at_call 20; refine (HW.out _ _ _ HR.out (by omega) HBr.out).mono ?_; rintro e w4 ⟨rfl, ht4, hb4, _⟩; have HT4 := Lib.hid ht4; have HB4 := Lib.hid (HBr.out.trans hb4); clear HR HBr ht4 hb4)
            | (go_at_call 20; refine (HW.out _ _ _ HT4.out (by simp; omega) HB4.out).mono ?_; rintro e w5 ⟨rfl, ht5, hb5, _⟩; have HT5 := Lib.hid ht5; have HB5 := Lib.hid (HB4.out.trans hb5); clear HT4 HB4 ht5 hb5))
          go_roundw
          case rel => exact ⟨j + 1, by omega, by go_num, Lib.hid (by rw [HQ.out]; have h5 := HT5.out; rw [hex_hi _ hc, hex_lo _] at h5; simpa using h5), HB5⟩
          case measure => simp [intOf]; omega
        · obtain rfl : j = S.size := by omega
          have he : S.data.toList.take S.size = S.data.toList := List.take_of_length_le (by rw [← Lib.size_eq]; exact Nat.le_refl _)
          rw [he] at HR hl
          have hn0 : hexL S.data.toList ≠ [] := by
            intro h
            have h2 := HL.out S.data.toList
            rw [h, ← Lib.size_eq] at h2
            simp at h2; omega
          have HSX := Lib.hid (HS.out _ wr HR.out hn0 HBr.out)
          have HZ := Lib.hid (HI2.out.2.trans (HBr.out.mono HI2.out.2.size))
          clear hn0 he
          go_wp2_with (go_at_call 21; refine (HSX.out).mono ?_; rintro e w3 ⟨rfl, hb3⟩)
          go_ret
          exact ⟨by rw [HX.out]; rfl, HZ.out.trans (hb3.mono HI2.out.2.size)⟩
set_option maxRecDepth 100000 in
set_option maxHeartbeats 4000000 in
theorem refText_any13 (K : List UInt8) (hK : K.length = 17) (w : World) : Calls Try.prog 12 #[.agg (kc K)] w fun e w' => e = .returned (.string (ktx K)) ∧ Below w.heap.size w w' := by
  have HI := Lib.hid (KeyIn.new K w)
  have hki : (Try.prog.info? 31).map (·.size) = some (kc K).size := by rw [kc_size, hK]; exact infoKey
  have HKI := Lib.hid hki
  have HB := Lib.hid (fun wx => refBytes_any K hK wx)
  have hsz := kx_small K
  have hktx : ktx K = if kok K = true then (if (kx K).size = 0 then ⟨#[45]⟩ else bs (hexL (kx K).data.toList)) else ⟨#[63]⟩ := rfl
  obtain ⟨X, hX⟩ : ∃ X, ktx K = X := ⟨_, rfl⟩
  obtain ⟨S, hS⟩ : ∃ S, kx K = S := ⟨_, rfl⟩
  rw [hX, hS] at hktx
  rw [hS] at HB hsz
  rw [hX]
  have hml : S.size ≤ maxLen := by unfold maxLen; omega
  clear hX hS hki
  cases hq : kok K with
  | false =>
    rw [hq, if_neg (by decide)] at hktx
    subst hktx
    rw [hq] at HB
    clear hq
    go_enter Try.func12, Try.ntmps12
    go_wp2_with (first
      | (refine wpList_load_row rfl 31 _ rfl w.heap.size rfl 31 (kc K) (0, 0) _ HI.out.1 Try.underlying31 rfl HKI.out ?_)
      | (go_at_call 10; refine (HB.out _).mono ?_; rintro e w2 ⟨rfl, hb2⟩; have HI2 := Lib.hid (HI.out.step hb2); clear hb2))
    go_ret
    exact ⟨rfl, HI2.out.2⟩
  | true =>
    rw [hq, if_pos rfl] at hktx
    rw [hq] at HB
    clear hq
    by_cases h0 : S.size = 0
    · rw [if_pos h0] at hktx
      subst hktx
      have he2 : S = ⟨#[]⟩ := by apply ByteArray.ext; apply Array.eq_empty_of_size_eq_zero; exact h0
      have he : (⟨#[]⟩ : ByteArray).toList.isEmpty = true := by rw [ByteArray.toList_eq]; rfl
      subst he2
      go_enter Try.func12, Try.ntmps12
      go_wp2_with (first
        | (refine wpList_load_row rfl 31 _ rfl w.heap.size rfl 31 (kc K) (0, 0) _ HI.out.1 Try.underlying31 rfl HKI.out ?_)
        | (go_at_call 10; refine (HB.out _).mono ?_; rintro e w2 ⟨rfl, hb2⟩; have HI2 := Lib.hid (HI.out.step hb2); clear hb2))
      go_ret
      exact ⟨rfl, HI2.out.2⟩
    · rw [if_neg h0] at hktx
      have hne : S.toList.isEmpty = false := by
        rw [ByteArray.toList_eq]
        cases hc : S.data.toList with
        | nil => exact absurd (by rw [Lib.size_eq, hc]; rfl) h0
        | cons x r => rfl
      have HL := Lib.hid (fun l => hexL_len l)
      have HX := Lib.hid hktx
      have HA := Lib.hid bs_append
      have hbz := bs_size
      clear hktx
      go_enter Try.func12, Try.ntmps12
      go_wp2_with (first
        | (refine wpList_load_row rfl 31 _ rfl w.heap.size rfl 31 (kc K) (0, 0) _ HI.out.1 Try.underlying31 rfl HKI.out ?_)
        | (go_at_call 10; refine (HB.out _).mono ?_; rintro e w2 ⟨rfl, hb2⟩; have HI2 := Lib.hid (HI.out.step hb2); clear hb2))
      go_loopw [5, 6] (fun o i wr => ∃ j : Nat, j ≤ S.size ∧ i = .int .i64 j ∧ o = .string (bs (hexL (S.data.toList.take j))) ∧ Hid (Below w.heap.size w wr)) (fun _ i _ => S.size - (intOf i).toNat)
      case atStart => exact ⟨0, Nat.zero_le _, rfl, rfl, Lib.hid HI2.out.2⟩
      case round =>
        obtain ⟨j, hj, rfl, rfl, HBr⟩ := hrel
        have hl : (hexL (S.data.toList.take j)).length ≤ 32 := by rw [HL.out, List.length_take]; omega
        obtain ⟨P, hP⟩ : ∃ P, hexL (S.data.toList.take j) = P := ⟨_, rfl⟩
        have HP := Lib.hid hP
        rw [hP] at hl ⊢
        clear hP
        by_cases hlt : j < S.size
        · have hc : (S[j]'hlt).toNat < 256 := UInt8.toNat_lt _
          have HQ := Lib.hid (hexL_next S j hlt)
          have HH := Lib.hid (fun wx => hex_any (S[j]'hlt).toNat hc wx)
          go_wp2_with (go_at_call 22; refine (HH.out _).mono ?_; rintro e w4 ⟨rfl, hb4⟩; have HB4 := Lib.hid (below_step8' HBr.out hb4); clear hb4)
          have HAA := HA.out P [figB ((S[j]'hlt).toNat / 16), figB ((S[j]'hlt).toNat % 16)]
          go_roundw
          case rel => exact ⟨j + 1, by omega, by go_num, by rw [HQ.out, HAA, HP.out], HB4⟩
          case measure => simp [intOf]; omega
        · obtain rfl : j = S.size := by omega
          have he : S.data.toList.take S.size = S.data.toList := List.take_of_length_le (by rw [← Lib.size_eq]; exact Nat.le_refl _)
          have HX2 := Lib.hid (show X = bs P by rw [HX.out, ← HP.out, he])
          clear he
          go_wp2
          go_ret
          exact ⟨by rw [HX2.out]; rfl, HBr.out⟩
end Go.Proofs.Ytinmdkhafamibaa
