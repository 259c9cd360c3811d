/- Contract of chapter 3's reference: Sum. -/
import Derived.Test.YtagaaomdmjnbbaaCrcRefPoly
import Derived.Laws.OwnMore
import Derived.RegionTactic
import Derived.BigQuiet
namespace Go.Proofs.Ytagaaomdmjnbbaa
open Go.RowKit
set_option linter.unusedVariables false
/-- the register of a text, all bits turned -/
def crcSum (s : ByteArray) : Nat := 4294967295 - crcBytes 4294967295 s.data.toList
theorem cell_bool {w : World} {base g n cap : Nat} {l : List Bool} (h : w.ownsRow base 4 1 (.slice (some ⟨g, 0, none⟩) n cap) n (l.map Value.bool)) (j : Nat) (hj : j < n) : w.cell? ⟨g, j, none⟩ = some (.bool (l.getD j false)) := by
  have hl : l.length = n := by have := h.1; simpa using this
  rw [h.cellAt j (by omega), List.getElem?_map, List.getElem?_eq_getElem (by omega), List.getD_eq_getElem?_getD, List.getElem?_eq_getElem (by omega)]
  rfl
theorem store_bool {w : World} {base g n cap : Nat} {l : List Bool} (h : w.ownsRow base 4 1 (.slice (some ⟨g, 0, none⟩) n cap) n (l.map Value.bool)) (j : Nat) (b : Bool) : (w.setCell ⟨g, j, none⟩ (.bool b)).ownsRow base 4 1 (.slice (some ⟨g, 0, none⟩) n cap) n ((l.set j b).map Value.bool) := by
  have := (h.stored j (.bool b)).1
  rwa [← List.map_set] at this
theorem own_slice {w : World} {base n : Nat} {e : TypeId} {v : Value} {xs : List Value} (h : w.ownsRow base e 1 v n xs) (hn : 0 < n) : ∃ g cap, v = .slice (some ⟨g, 0, none⟩) n cap ∧ base ≤ g ∧ g < w.heap.size := by
  have hlt := h.lt
  rcases h.2 with ⟨_, h0⟩ | ⟨g, cap, cur, rfl, hb, _⟩
  · omega
  · exact ⟨g, cap, rfl, hb, (hlt g rfl).2⟩
theorem start_len (s : ByteArray) : (msgBits s ++ List.replicate 32 false).length = 8 * s.size + 32 := by simp [msgBits_length]
theorem div_yes (D : List Bool) (n : Nat) (h : (divN D n).getD n false = true) : ∀ q, q = 33 → divN D (n + 1) = divAt (divN D n) n q := by
  rintro q rfl
  show (if (divN D n).getD n false then _ else _) = _
  rw [h, if_pos rfl]
theorem div_no (D : List Bool) (n : Nat) (h : (divN D n).getD n false = false) : divN D (n + 1) = divN D n := by
  show (if (divN D n).getD n false then _ else _) = _
  rw [h, if_neg (by decide)]
theorem last_bits (L0 D M : List Bool) (N k : Nat) (hL : M ++ List.replicate 32 false = L0) (hN : M.length = N) (hD : flipN L0 k = D) (hk : k = 32) :
    packB (((divN D N).drop N).map (!·)) = 4294967295 - crcBits 4294967295 M ∧ (((divN D N).drop N).map (!·)).length = 32 := by
  subst hL hN hk hD
  refine ⟨div_sum M, ?_⟩
  have h : (divN (crcStart M) M.length).length = M.length + 32 := by rw [divN_length, crcStart_length]
  rw [List.length_map, List.length_drop]
  show (divN (crcStart M) M.length).length - M.length = 32
  omega
theorem last_get (Y : List Bool) (n : Nat) (X : List Bool) (hX : (Y.drop n).map (!·) = X) (j q : Nat) (h32 : X.length = 32) (hj : j < 32) (hq : q + j = n + 31) : packB (X.drop (32 - (j + 1))) = (!Y.getD q false).toNat + 2 * packB (X.drop (32 - j)) := by
  have hl : 31 - j < X.length := by omega
  rw [show 32 - (j + 1) = 31 - j by omega, List.drop_eq_getElem_cons hl, show 31 - j + 1 = 32 - j by omega]
  have hy : X[31 - j] = !Y.getD q false := by
    subst hX
    have hl2 : q < Y.length := by simp at hl h32; omega
    rw [List.getD_eq_getElem?_getD, List.getElem?_eq_getElem hl2]
    simp [show n + (31 - j) = q by omega]
  rw [hy]; rfl
theorem pack_small (X : List Bool) (j : Nat) (h32 : X.length = 32) (hj : j < 32) : packB (X.drop (32 - j)) ≤ 2147483647 := by
  have h := packB_lt (X.drop (32 - j))
  rw [List.length_drop, h32] at h
  have h2 : 2 ^ (32 - (32 - j)) ≤ 2 ^ 31 := Nat.pow_le_pow_right (by omega) (by omega)
  omega
theorem sum_end (s : ByteArray) (M X : List Bool) (hM : msgBits s = M) (h : packB X = 4294967295 - crcBits 4294967295 M) : ((packB (X.drop (32 - 32)) : Nat) : Int) = (crcSum s : Nat) := by
  subst hM
  rw [Nat.sub_self, List.drop_zero, h]; rfl
theorem ret_u32 {k : IntKind} {a b : Int} (h : a = b) : Ending.returned (.int k a) = .returned (.int k b) := by rw [h]
theorem refPoly_33 (w : World) : Calls Try.prog 11 #[] w fun e w' => ∃ v, e = .returned v ∧ w'.ownsRow w.heap.size 4 1 v 33 (crcP.map Value.bool) ∧ Below w.heap.size w w' := refPoly_row w
theorem refBits_N (s : ByteArray) (hs : s.size ≤ 1000000) (M : List Bool) (N : Nat) (hM : msgBits s = M) (hN : M.length = N) (w : World) : Calls Try.prog 10 #[.string s] w fun e w' => ∃ v, e = .returned v ∧ w'.ownsRow w.heap.size 4 1 v N (M.map Value.bool) ∧ Below w.heap.size w w' := by
  subst hN; subst hM; exact refBits_row s hs w
set_option maxHeartbeats 4000000 in
theorem refSum_any (s : ByteArray) (hs : s.size ≤ 1000000) (w : World) : Calls Try.prog 7 #[.string s] w fun e w' => e = .returned (.int .u32 (crcSum s : Nat)) ∧ Below w.heap.size w w' := by
  obtain ⟨i0, hi, hz0, hz1, hz2⟩ := info_parts infoBool
  have hml := msgBits_length s
  obtain ⟨M, hM⟩ : ∃ M, msgBits s = M := ⟨_, rfl⟩
  rw [hM] at hml
  obtain ⟨N, hN⟩ : ∃ N, M.length = N := ⟨_, rfl⟩
  have hN8 : N ≤ 8000000 := by omega
  have HB := Lib.hid (refBits_N s hs M N hM hN)
  obtain ⟨L0, hL0⟩ : ∃ L0 : List Bool, M ++ List.replicate 32 false = L0 := ⟨_, rfl⟩
  have hrow : ∀ (w2 : World) (v : Value), w2.ownsRow w.heap.size 4 1 v (N + 32) (M.map Value.bool ++ repV 32 (.bool false)) → w2.ownsRow w.heap.size 4 1 v (N + 32) (L0.map Value.bool) := fun w2 v h => by
    rw [← hL0, List.map_append, List.map_replicate]; exact h
  have HR := Lib.hid hrow
  have HL := Lib.hid hL0
  have HN := Lib.hid hN
  have HM := Lib.hid hM
  clear hml hM hN hL0 hrow
  go_enter Try.func7, Try.ntmps7
  go_wp2_with (first
    | (go_at_call 10; refine (HB.out _).mono ?_; rintro e w1 ⟨v1, rfl, h1, b1⟩)
    | (at_builtin; refine wpList_append_zeros_at rfl (.tmp 11) (.const (.int .i64 32)) 32 3 rfl w.heap.size 4 i0 (.bool false) .i64 .i64 Try.underlying32 Try.underlying3 hi hz0 hz1 hz2 rfl rfl _ N _ rfl h1 32 rfl (by omega) (by omega) (by omega) b1.size ?_))
  intro v2 w2 h2 g2 f2
  have h3 := HR.out _ _ h2
  obtain ⟨g, cap, rfl, hgb, hgl⟩ := own_slice h3 (by omega)
  have B2 := Lib.hid (b1.grown g2 b1.size (fun k hk => (h1.lt k hk).1))
  clear h2 g2 f2 h1 b1
  go_wp2
  go_loopw [4] (fun i wr => ∃ k : Nat, k ≤ 32 ∧ i = .int .i64 k ∧ wr.ownsRow w.heap.size 4 1 (.slice (some ⟨g, 0, none⟩) (N + 32) cap) (N + 32) ((flipN L0 k).map Value.bool) ∧ Below w.heap.size w wr ∧ w2.heap.size ≤ wr.heap.size) (fun i _ => 32 - (intOf i).toNat)
  case atStart => exact ⟨0, by omega, rfl, h3, B2.out, Nat.le_refl _⟩
  case round =>
    obtain ⟨k, hk, rfl, hown, hr, hsz⟩ := hrel
    by_cases hlt : k < 32
    · have c0 := cell_bool hown k (by omega)
      have f0 := hown.frozenAt k
      have HS := Lib.hid (store_bool hown k (!(flipN L0 k).getD k false))
      clear hown
      go_wp2
      go_roundw
      case rel => exact ⟨k + 1, by omega, by go_num, HS.out, hr.setCell hgb _, by simpa using hsz⟩
      case measure => simp [intOf]; omega
    · have HK := Lib.hid (show k = 32 by omega)
      obtain ⟨wo, rfl⟩ : ∃ wo : World, wo = wr := ⟨_, rfl⟩
      go_wp2_with (go_at_call 11; refine (refPoly_33 _).mono ?_; rintro e w3 ⟨vp, rfl, h4, b4⟩)
      obtain ⟨gp, cp, rfl, hgpb, hgpl⟩ := own_slice h4 (by decide)
      have h5 : w3.ownsRow w.heap.size 4 1 (.slice (some ⟨g, 0, none⟩) (N + 32) cap) (N + 32) ((flipN L0 k).map Value.bool) := (Only.of_below (S := fun _ => False) b4).row hown (fun _ _ f => f)
      have hr3 := hr.trans (b4.mono hr.size)
      have hne : g ≠ gp := by omega
      obtain ⟨D, hD⟩ : ∃ D, flipN L0 k = D := ⟨_, rfl⟩
      have HD := Lib.hid hD
      rw [hD] at h5
      have H4 : w3.ownsRow wo.heap.size 4 1 (.slice (some ⟨gp, 0, none⟩) 33 cp) 33 (crcP.map Value.bool) := h4
      have H5 := Lib.hid h5
      have HP4 := Lib.hid H4
      have HR3 := Lib.hid hr3
      clear hown hr h4 hD b4 h5 H4 hr3 h3
      go_wp2
      go_loopw [6] (fun i wr => ∃ n : Nat, n ≤ N ∧ i = .int .i64 n ∧ wr.ownsRow w.heap.size 4 1 (.slice (some ⟨g, 0, none⟩) (N + 32) cap) (N + 32) ((divN D n).map Value.bool) ∧ wr.ownsRow wo.heap.size 4 1 (.slice (some ⟨gp, 0, none⟩) 33 cp) 33 (crcP.map Value.bool) ∧ Below w.heap.size w wr) (fun i _ => N - (intOf i).toNat)
      case atStart => exact ⟨0, by omega, rfl, H5.out, HP4.out, HR3.out⟩
      case round =>
        obtain ⟨n, hn, rfl, hl, hp, hb⟩ := hrel
        have HL0 := Lib.hid hl
        have HP0 := Lib.hid hp
        have HB0 := Lib.hid hb
        by_cases hlt : n < N
        · have c0 := cell_bool hl n (by omega)
          clear hl hp hb
          cases hbit : (divN D n).getD n false with
          | false =>
            rw [hbit] at c0
            have HS := Lib.hid (div_no D n hbit)
            clear hbit
            go_wp2
            go_roundw
            case rel => exact ⟨n + 1, by omega, by go_num, (by rw [HS.out]; exact HL0.out), HP0.out, HB0.out⟩
            case measure => simp [intOf]; omega
          | true =>
            rw [hbit] at c0
            have HS := Lib.hid (div_yes D n hbit)
            clear hbit
            obtain ⟨wn, rfl⟩ : ∃ wn : World, wn = wr := ⟨_, rfl⟩
            obtain ⟨E, hE⟩ : ∃ E, divN D n = E := ⟨_, rfl⟩
            rw [hE] at HL0 HS
            clear hE
            go_wp2
            go_loopw [7] (fun i wr => ∃ k : Nat, k ≤ 33 ∧ i = .int .i64 k ∧ wr.ownsRow w.heap.size 4 1 (.slice (some ⟨g, 0, none⟩) (N + 32) cap) (N + 32) ((divAt E n k).map Value.bool) ∧ wr.ownsRow wo.heap.size 4 1 (.slice (some ⟨gp, 0, none⟩) 33 cp) 33 (crcP.map Value.bool) ∧ Below w.heap.size w wr) (fun i _ => 33 - (intOf i).toNat)
            case atStart => exact ⟨0, by omega, rfl, HL0.out, HP0.out, HB0.out⟩
            case round =>
              obtain ⟨k, hk33, rfl, hl1, hp1, hb1⟩ := hrel
              have HL1 := Lib.hid hl1
              have HP1 := Lib.hid hp1
              have HB1 := Lib.hid hb1
              clear hl1 hp1 hb1 c0
              by_cases hlk : k < 33
              · have c1 := cell_bool HL1.out (n + k) (by omega)
                have c2 := cell_bool HP1.out k hlk
                have f1 := HL1.out.frozenAt (n + k)
                have hw1 := IntWalk.i64_in ((n : Int) + (k : Int)) (by omega)
                have hw2 : ((n : Int) + (k : Int)).toNat = n + k := by omega
                have hw3 : (0 : Int) ≤ (n : Int) + (k : Int) := by omega
                go_wp2
                have HS1 := Lib.hid (store_bool HL1.out (n + k) ((divAt E n k).getD (n + k) false != crcP.getD k false))
                have HP2 := Lib.hid ((HP1.out.kept (HL1.out.stored (n + k) (.bool ((divAt E n k).getD (n + k) false != crcP.getD k false))).2 (.inr (by simp [Value.ownBlock]; omega))))
                have HB2 := Lib.hid (HB1.out.setCell (p := ⟨g, n + k, none⟩) hgb (.bool ((divAt E n k).getD (n + k) false != crcP.getD k false)))
                go_region
                clear hw1 hw2 hw3
                go_wp2
                go_roundw
                case rel => exact ⟨k + 1, by omega, by go_num, HS1.out, HP2.out, HB2.out.drew⟩
                case measure => simp [intOf]; omega
              · have HK3 := Lib.hid (show k = 33 by omega)
                go_wp2
                go_roundw
                case rel => exact ⟨n + 1, by omega, by go_num, (by rw [HS.out k HK3.out]; exact HL1.out), HP1.out, HB1.out⟩
                case measure => simp [intOf]; omega
        · clear hl hp hb
          obtain rfl : n = N := by omega
          have HX := Lib.hid (last_bits L0 D M n _ HL.out HN.out HD.out HK.out)
          obtain ⟨X, hX⟩ : ∃ X, ((divN D n).drop n).map (!·) = X := ⟨_, rfl⟩
          rw [hX] at HX
          obtain ⟨hX1, hX2⟩ := HX.out
          have HX1 := Lib.hid hX1
          have HG := Lib.hid (last_get (divN D n) n X hX)
          have HL2 := Lib.hid hX2
          clear hX HX hX1 hX2
          go_wp2
          go_loop [8, 9] (fun v i => ∃ (j : Nat) (a : Int), j ≤ 32 ∧ a = (n : Int) + 31 - j ∧ i = .int .i64 a ∧ v = .int .u32 (packB (X.drop (32 - j)) : Nat)) (fun _ i => (intOf i - n + 1).toNat)
          case atStart => exact ⟨0, _, by omega, by omega, rfl, by rw [List.drop_of_length_le (by rw [HL2.out]; omega)]; rfl⟩
          case round =>
            obtain ⟨j, a, hj, ha, rfl, rfl⟩ := hrel
            by_cases hlj : j < 32
            · obtain ⟨q, rfl⟩ := Int.eq_ofNat_of_zero_le (show 0 ≤ a by omega)
              have hq : q < n + 32 := by omega
              have c0 := cell_bool HL0.out q hq
              have hpk := packB_lt (X.drop (32 - j))
              have HJ := Lib.hid (HG.out j q HL2.out hlj (by omega))
              have hp31 : packB (X.drop (32 - j)) ≤ 2147483647 := pack_small X j HL2.out hlj
              have HQ := Lib.hid ha
              have hnq : n ≤ q := by omega
              clear hpk ha
              cases hb : (divN D n).getD q false with
              | true =>
                rw [hb] at c0 HJ
                clear hb
                go_wp2
                go_round
                case rel => exact ⟨j + 1, _, by omega, by have := HQ.out; omega, rfl, congrArg (Value.int .u32) (by rw [HJ.out]; simp; omega)⟩
                case measure => simp [intOf]; omega
              | false =>
                rw [hb] at c0 HJ
                clear hb
                go_wp2
                go_round
                case rel => exact ⟨j + 1, _, by omega, by have := HQ.out; omega, rfl, congrArg (Value.int .u32) (by rw [HJ.out]; simp; omega)⟩
                case measure => simp [intOf]; omega
            · obtain rfl : j = 32 := by omega
              obtain rfl : a = (n : Int) - 1 := by omega
              have HV := Lib.hid (sum_end s M X HM.out HX1.out)
              go_wp2
              go_ret
              exact ⟨ret_u32 HV.out, HB0.out⟩
end Go.Proofs.Ytagaaomdmjnbbaa
