/- Join: of the code and of the reference; tokens in memory. -/
import Derived.Test.YtcdplpdgokhopaaDoorTokQuote
import Derived.Test.YtcdplpdgokhopaaDoorTokBuild
namespace Go.Proofs.YtcdplpdgokhopaaDoor
open Go.RowKit
set_option linter.unusedVariables false
/-- a token as it lies in memory -/
structure TkV where
  k : Int
  t : ByteArray
  n : Int
  a : Int
instance : Inhabited TkV := ⟨⟨0, ⟨#[]⟩, 0, 0⟩⟩
def TkAt (w : World) (ao : Option Addr) (i : Nat) (x : TkV) : Prop :=
  ∃ b off, ao = some ⟨b, off, none⟩ ∧ w.cell? ⟨b, off + i * 4, none⟩ = some (.int .i64 x.k) ∧ w.cell? ⟨b, off + i * 4 + 1, none⟩ = some (.string x.t) ∧ w.cell? ⟨b, off + i * 4 + 2, none⟩ = some (.int .u64 x.n) ∧ w.cell? ⟨b, off + i * 4 + 3, none⟩ = some (.int .i64 x.a)
theorem TkAt.held {w w1 : World} {ao : Option Addr} {i : Nat} {x : TkV} (h : TkAt w ao i x) (hb : Below w.heap.size w w1) : TkAt w1 ao i x := by
  obtain ⟨b, off, e, h0, h1, h2, h3⟩ := h
  exact ⟨b, off, e, keepL hb h0, keepL hb h1, keepL hb h2, keepL hb h3⟩
def txV (x : TkV) : List UInt8 := if x.k = 3 then quoteL x.t.data.toList else x.t.data.toList
/-- the first n tokens, joined -/
def joinF (L : Nat → TkV) : Nat → List UInt8
  | 0 => []
  | k + 1 => joinF L k ++ (if k = 0 then [] else [32]) ++ txV (L k)
theorem quoteL_le (s : ByteArray) : (quoteL s.data.toList).length ≤ 2 * s.size + 2 := by
  have h1 := dbl_le s.data.toList
  have h2 := (Lib.size_eq s).symm
  unfold quoteL
  simp only [List.length_cons, List.length_append, List.length_nil]
  omega
theorem txV_le (x : TkV) : (txV x).length ≤ 2 * x.t.size + 2 := by
  have h1 := quoteL_le x.t
  have h2 := (Lib.size_eq x.t).symm
  unfold txV
  split <;> omega
theorem joinF_le (L : Nat → TkV) (M n : Nat) (h : ∀ i, i < n → (L i).t.size ≤ M) : ∀ k, k ≤ n → (joinF L k).length ≤ k * (2 * M + 3)
  | 0, _ => Nat.zero_le _
  | k + 1, hk => by
    have h1 := joinF_le L M n h k (by omega)
    have h2 := txV_le (L k)
    have h3 := h k (by omega)
    have h4 : (if k = 0 then ([] : List UInt8) else [32]).length ≤ 1 := by split <;> simp
    rw [joinF, List.length_append, List.length_append, Nat.add_mul]
    omega
set_option maxRecDepth 100000 in
set_option maxHeartbeats 4000000 in
theorem join_any (ao : Option Addr) (len cap : Nat) (L : Nat → TkV) (hlen : len ≤ 1000) (w : World) (H : ∀ i, i < len → TkAt w ao i (L i)) (hM : ∀ i, i < len → (L i).t.size ≤ 1000000) (hV : LibAt w) :
    Calls Tryd.prog 10 #[.slice ao len cap] w fun e w' => e = .returned (.string (bs (joinF L len))) ∧ Below w.heap.size w w' := by
  have HH := Lib.hid H
  have HM := Lib.hid hM
  have HJ := Lib.hid (joinF_le L 1000000 len hM)
  have HQ := Lib.hid (fun (t : ByteArray) (ht : t.size ≤ 1000000) (wx : World) (hb : Below w.heap.size w wx) => quote_any t (by omega) wx (hV.held hb))
  have HQL := Lib.hid quoteL_le
  clear H hM hV
  have HW := Lib.hid (fun (l : List UInt8) (wx : World) (hx : TxtAt 44 w.heap.size w.heap.size l wx) (hl : l.length ≤ 4000000000) (hb : Below w.heap.size w wx) => writeByte8 44 liesBuilder w.heap.size w.heap.size l 32 wx hx (by omega) hb.size)
  have HS := Lib.hid (fun (l : List UInt8) (s : ByteArray) (wx : World) (hx : TxtAt 44 w.heap.size w.heap.size l wx) (hl : l.length ≤ 4000000000) (hs : s.size ≤ 4000000) (hb : Below w.heap.size w wx) => writeString8 44 liesBuilder w.heap.size w.heap.size l s wx hx (by omega) hb.size)
  have HT0 := Lib.hid (show TxtAt 44 w.heap.size w.heap.size [] (w.alloc (.cells #[.pointer none, .slice none 0 0] 44)) from Lib.fresh_isBuilder _ _ w)
  have HG := Lib.hid (fun (l : List UInt8) (wx : World) (hx : TxtAt 44 w.heap.size w.heap.size l wx) (hb : Below w.heap.size w wx) => Tryd.Builder_String_any w.heap.size w.heap.size l wx hx hb.size)
  go_enter Tryd.func10, Tryd.ntmps10
  go_wp2
  go_loopw [8] (fun i wr => ∃ j : Nat, j ≤ len ∧ i = .int .i64 j ∧ Hid (TxtAt 44 w.heap.size w.heap.size (joinF L j) wr) ∧ Hid (Below w.heap.size w wr)) (fun i _ => len - (intOf i).toNat)
  case atStart => exact ⟨0, Nat.zero_le _, rfl, HT0, Lib.hid ((Below.refl _ _).alloc (Nat.le_refl _) _)⟩
  case round =>
    obtain ⟨j, hj, rfl, HR, HBr⟩ := hrel
    by_cases hlt : j < len
    · have hl := HJ.out j (by omega)
      have hm := HM.out j hlt
      obtain ⟨b, off, rfl, c0, c1, c2, c3⟩ := (HH.out j hlt).held HBr.out
      have hx : joinF L (j + 1) = joinF L j ++ (if j = 0 then [] else [32]) ++ txV (L j) := rfl
      obtain ⟨X, hX⟩ : ∃ X, L j = X := ⟨_, rfl⟩
      rw [hX] at hx hm c0 c1 c2 c3
      clear hX
      obtain ⟨k, t, n, a⟩ := X
      have hm : t.size ≤ 1000000 := hm
      have hml : t.size ≤ maxLen := by show t.size ≤ 9223372036854775807; omega
      obtain ⟨P, hP⟩ : ∃ P, joinF L j = P := ⟨_, rfl⟩
      rw [hP] at hx HR hl
      have hPl : P.length ≤ 2100000000 := by have := Nat.mul_le_mul_right 2000003 (show j ≤ 1000 by omega); omega
      have hql := HQL.out t
      obtain ⟨Z, hZ⟩ : ∃ Z, joinF L (j + 1) = Z := ⟨_, rfl⟩
      rw [hZ] at hx
      have HX := Lib.hid hx
      have HZ := Lib.hid hZ
      have hgl := HR.out.lt
      have HA := Lib.hid ((Below.refl wr.heap.size wr).alloc (Nat.le_refl _) (.cells #[.int .i64 k, .string t, .int .u64 n, .int .i64 a] 33))
      have HRA := Lib.hid (HR.out.next HA.out)
      have HBA := Lib.hid (HBr.out.alloc HBr.out.size (.cells #[.int .i64 k, .string t, .int .u64 n, .int .i64 a] 33))
      have HKB := Lib.hid (fun (w4 : World) (h : Kept w.heap.size (wr.alloc (.cells #[.int .i64 k, .string t, .int .u64 n, .int .i64 a] 33)) w4) => h.box (alloc_at wr _) (by omega) (by decide))
      have HKC := Lib.hid (alloc_at wr (.cells #[.int .i64 k, .string t, .int .u64 n, .int .i64 a] 33))
      clear hx hZ hP hl HH HM HJ
      by_cases hj0 : j = 0
      · rw [if_pos hj0] at HX
        have hjp : ¬ (0 : Int) < (j : Int) := by omega
        clear hj0
        by_cases hk3 : k = 3
        · subst hk3
          have HXX := Lib.hid (show Z = P ++ quoteL t.data.toList by rw [HX.out]; simp [txV])
          clear HX
          have hq2 : (bs (quoteL t.data.toList)).size ≤ 4000000 := by rw [bs_size]; omega
          have q5 : (P ++ [32]).length ≤ 4000000000 := by simp; omega
          go_wp2_with (first
            | (go_at_call 12; refine (HQ.out t hm _ HBA.out).mono ?_; rintro e w4 ⟨rfl, hb4⟩; have HT4 := Lib.hid (HRA.out.next hb4); have HB4 := Lib.hid (HBA.out.trans (hb4.mono HBA.out.size)); clear hb4)
            | (go_at_call 18; refine (HS.out _ _ _ HT4.out (by omega) (by exact hq2) HB4.out).mono ?_; rintro e w5 ⟨rfl, ht5, hb5, hk5⟩; have HT5 := Lib.hid ht5; have HB5 := Lib.hid (HB4.out.trans hb5); clear ht5 hb5 hk5))
          go_roundw
          case rel => exact ⟨j + 1, by omega, by go_num, Lib.hid (by rw [HZ.out, HXX.out]; have h5 := HT5.out; simpa [bs] using h5), HB5⟩
          case measure => simp [intOf]; omega
        · skip
          have HXX := Lib.hid (show Z = P ++ t.data.toList by rw [HX.out]; simp [txV, hk3])
          clear HX
          have q5 : (P ++ [32]).length ≤ 4000000000 := by simp; omega
          go_wp2_with (first
            | (go_at_call 18; refine (HS.out _ _ _ HRA.out (by omega) (by omega) HBA.out).mono ?_; rintro e w5 ⟨rfl, ht5, hb5, hk5⟩; have HT5 := Lib.hid ht5; have HB5 := Lib.hid (HBA.out.trans hb5); clear ht5 hb5 hk5))
          go_roundw
          case rel => exact ⟨j + 1, by omega, by go_num, Lib.hid (by rw [HZ.out, HXX.out]; have h5 := HT5.out; simpa [bs] using h5), HB5⟩
          case measure => simp [intOf]; omega
      · rw [if_neg hj0] at HX
        have hjp : (0 : Int) < (j : Int) := by omega
        clear hj0
        by_cases hk3 : k = 3
        · subst hk3
          have HXX := Lib.hid (show Z = P ++ [32] ++ quoteL t.data.toList by rw [HX.out]; simp [txV])
          clear HX
          have hq2 : (bs (quoteL t.data.toList)).size ≤ 4000000 := by rw [bs_size]; omega
          have q5 : (P ++ [32]).length ≤ 4000000000 := by simp; omega
          go_wp2_with (first
            | (go_at_call 17; refine (HW.out _ _ HRA.out (by omega) HBA.out).mono ?_; rintro e w3 ⟨rfl, ht3, hb3, hk3'⟩; have HT3 := Lib.hid ht3; have HB3 := Lib.hid (HBA.out.trans hb3); have r3 := HKB.out w3 hk3'; have HR3 := Lib.hid r3; have k0 : w3.cell? ⟨wr.heap.size, 0, none⟩ = some (.int .i64 3) := cell_at (j := 0) r3 rfl; have k1 : w3.cell? ⟨wr.heap.size, 1, none⟩ = some (.string t) := cell_at (j := 1) r3 rfl; clear r3 ht3 hb3 hk3')
            | (go_at_call 12; refine (HQ.out t hm _ HB3.out).mono ?_; rintro e w4 ⟨rfl, hb4⟩; have HT4 := Lib.hid (HT3.out.next hb4); have HB4 := Lib.hid (HB3.out.trans (hb4.mono HB3.out.size)); clear hb4)
            | (go_at_call 18; refine (HS.out _ _ _ HT4.out (by exact q5) (by exact hq2) HB4.out).mono ?_; rintro e w5 ⟨rfl, ht5, hb5, hk5⟩; have HT5 := Lib.hid ht5; have HB5 := Lib.hid (HB4.out.trans hb5); clear ht5 hb5 hk5))
          go_roundw
          case rel => exact ⟨j + 1, by omega, by go_num, Lib.hid (by rw [HZ.out, HXX.out]; have h5 := HT5.out; simpa [bs] using h5), HB5⟩
          case measure => simp [intOf]; omega
        · skip
          have HXX := Lib.hid (show Z = P ++ [32] ++ t.data.toList by rw [HX.out]; simp [txV, hk3])
          clear HX
          have q5 : (P ++ [32]).length ≤ 4000000000 := by simp; omega
          go_wp2_with (first
            | (go_at_call 17; refine (HW.out _ _ HRA.out (by omega) HBA.out).mono ?_; rintro e w3 ⟨rfl, ht3, hb3, hk3'⟩; have HT3 := Lib.hid ht3; have HB3 := Lib.hid (HBA.out.trans hb3); have r3 := HKB.out w3 hk3'; have HR3 := Lib.hid r3; have k0 : w3.cell? ⟨wr.heap.size, 0, none⟩ = some (.int .i64 k) := cell_at (j := 0) r3 rfl; have k1 : w3.cell? ⟨wr.heap.size, 1, none⟩ = some (.string t) := cell_at (j := 1) r3 rfl; clear r3 ht3 hb3 hk3')
            | (go_at_call 18; refine (HS.out _ _ _ HT3.out (by exact q5) (by omega) HB3.out).mono ?_; rintro e w5 ⟨rfl, ht5, hb5, hk5⟩; have HT5 := Lib.hid ht5; have HB5 := Lib.hid (HB3.out.trans hb5); clear ht5 hb5 hk5))
          go_roundw
          case rel => exact ⟨j + 1, by omega, by go_num, Lib.hid (by rw [HZ.out, HXX.out]; have h5 := HT5.out; simpa [bs] using h5), HB5⟩
          case measure => simp [intOf]; omega
    · obtain rfl : j = len := by omega
      go_wp2_with (go_at_call 19; refine (HG.out _ _ HR.out HBr.out).mono ?_; rintro e w3 ⟨rfl, hb3⟩)
      go_ret
      exact ⟨rfl, HBr.out.trans hb3⟩
set_option maxRecDepth 100000 in
set_option maxHeartbeats 4000000 in
theorem refJoin_any (ao : Option Addr) (len cap : Nat) (L : Nat → TkV) (hlen : len ≤ 1000) (w : World) (H : ∀ i, i < len → TkAt w ao i (L i)) (hM : ∀ i, i < len → (L i).t.size ≤ 1000000) :
    Calls Tryd.prog 11 #[.slice ao len cap] w fun e w' => e = .returned (.string (bs (joinF L len))) ∧ w = w' := by
  have HH := Lib.hid H
  have HM := Lib.hid hM
  have HJ := Lib.hid (joinF_le L 1000000 len hM)
  have HQ := Lib.hid (fun (t : ByteArray) (ht : t.size ≤ 1000000) (wx : World) => refQuote_any t (by omega) wx)
  have HQL := Lib.hid quoteL_le
  have hsz := bs_size
  have HA := Lib.hid bs_append
  clear H hM
  have h0 : (⟨#[]⟩ : ByteArray) = bs [] := rfl
  go_enter Tryd.func11, Tryd.ntmps11
  go_wp2
  clear h0
  go_loopw [3, 4] (fun o i wr => ∃ j : Nat, j ≤ len ∧ i = .int .i64 j ∧ o = .string (bs (joinF L j)) ∧ wr = w) (fun _ i _ => len - (intOf i).toNat)
  case atStart => exact ⟨0, Nat.zero_le _, rfl, rfl, rfl⟩
  case round =>
    obtain ⟨j, hj, rfl, rfl, rfl⟩ := hrel
    by_cases hlt : j < len
    · have hl := HJ.out j (by omega)
      have hm := HM.out j hlt
      obtain ⟨b, off, rfl, c0, c1, c2, c3⟩ := HH.out j hlt
      have hx : joinF L (j + 1) = joinF L j ++ (if j = 0 then [] else [32]) ++ txV (L j) := rfl
      obtain ⟨X, hX⟩ : ∃ X, L j = X := ⟨_, rfl⟩
      rw [hX] at hx hm c0 c1 c2 c3
      clear hX
      obtain ⟨k, t, n, a⟩ := X
      have hm : t.size ≤ 1000000 := hm
      obtain ⟨P, hP⟩ : ∃ P, joinF L j = P := ⟨_, rfl⟩
      rw [hP] at hx hl
      rw [hP]
      have hPl : P.length ≤ 2100000000 := by have := Nat.mul_le_mul_right 2000003 (show j ≤ 1000 by omega); omega
      have hql := HQL.out t
      have htl : t.data.toList.length ≤ 1000000 := by rw [← Lib.size_eq]; exact hm
      have HQT := Lib.hid (HQ.out t hm)
      obtain ⟨Z, hZ⟩ : ∃ Z, joinF L (j + 1) = Z := ⟨_, rfl⟩
      rw [hZ] at hx
      have HX := Lib.hid hx
      have HZ := Lib.hid hZ
      have hs32 : (⟨#[32]⟩ : ByteArray) = bs [32] := rfl
      clear hx hZ hP hl HH HM HJ HQ
      by_cases hj0 : j = 0
      · rw [if_pos hj0] at HX
        have hjp : ¬ (0 : Int) < (j : Int) := by omega
        clear hj0
        by_cases hk3 : k = 3
        · subst hk3
          have HXX := Lib.hid (show Z = P ++ quoteL t.data.toList by rw [HX.out]; simp [txV])
          clear HX
          obtain ⟨D, hD⟩ : ∃ D, quoteL t.data.toList = D := ⟨_, rfl⟩
          rw [hD] at HXX hql HQT
          clear hD
          have q7 : ¬ 9223372036854775807 < P.length + D.length := by omega
          go_wp2_with (go_at_call 13; refine (HQT.out _).mono ?_; rintro e w4 ⟨rfl, rfl⟩)
          have HAB := HA.out P D
          go_roundw
          case rel => exact ⟨j + 1, by omega, by go_num, by rw [HZ.out, HXX.out, HAB], by first | rfl | trivial⟩
          case measure => simp [intOf]; omega
        · skip
          have HXX := Lib.hid (show Z = P ++ t.data.toList by rw [HX.out]; simp [txV, hk3])
          clear HX
          obtain ⟨D, hD⟩ : ∃ D, t.data.toList = D := ⟨_, rfl⟩
          rw [hD] at HXX htl
          have htD : t = bs D := by rw [← hD]; exact (bs_data t).symm
          subst htD
          clear hD
          have q7 : ¬ 9223372036854775807 < P.length + D.length := by omega
          go_wp2
          have HAB := HA.out P D
          go_roundw
          case rel => exact ⟨j + 1, by omega, by go_num, by rw [HZ.out, HXX.out, HAB], by first | rfl | trivial⟩
          case measure => simp [intOf]; omega
      · rw [if_neg hj0] at HX
        have hjp : (0 : Int) < (j : Int) := by omega
        clear hj0
        by_cases hk3 : k = 3
        · subst hk3
          have HXX := Lib.hid (show Z = P ++ [32] ++ quoteL t.data.toList by rw [HX.out]; simp [txV])
          clear HX
          obtain ⟨D, hD⟩ : ∃ D, quoteL t.data.toList = D := ⟨_, rfl⟩
          rw [hD] at HXX hql HQT
          clear hD
          have q5 : ¬ 9223372036854775807 < P.length + 1 := by omega
          have q6 : ¬ 9223372036854775807 < P.length + 1 + D.length := by omega
          have q7 : ¬ 9223372036854775807 < P.length + D.length := by omega
          go_wp2_with (go_at_call 13; refine (HQT.out _).mono ?_; rintro e w4 ⟨rfl, rfl⟩)
          have HAA := HA.out P [32]
          have HAB := HA.out (P ++ [32]) D
          go_roundw
          case rel => exact ⟨j + 1, by omega, by go_num, by rw [HZ.out, HXX.out, HAA, HAB], by first | rfl | trivial⟩
          case measure => simp [intOf]; omega
        · skip
          have HXX := Lib.hid (show Z = P ++ [32] ++ t.data.toList by rw [HX.out]; simp [txV, hk3])
          clear HX
          obtain ⟨D, hD⟩ : ∃ D, t.data.toList = D := ⟨_, rfl⟩
          rw [hD] at HXX htl
          have htD : t = bs D := by rw [← hD]; exact (bs_data t).symm
          subst htD
          clear hD
          have q5 : ¬ 9223372036854775807 < P.length + 1 := by omega
          have q6 : ¬ 9223372036854775807 < P.length + 1 + D.length := by omega
          have q7 : ¬ 9223372036854775807 < P.length + D.length := by omega
          go_wp2
          have HAA := HA.out P [32]
          have HAB := HA.out (P ++ [32]) D
          go_roundw
          case rel => exact ⟨j + 1, by omega, by go_num, by rw [HZ.out, HXX.out, HAA, HAB], by first | rfl | trivial⟩
          case measure => simp [intOf]; omega
    · obtain rfl : j = len := by omega
      go_wp2
      go_ret
      exact ⟨rfl, rfl⟩
end Go.Proofs.YtcdplpdgokhopaaDoor
