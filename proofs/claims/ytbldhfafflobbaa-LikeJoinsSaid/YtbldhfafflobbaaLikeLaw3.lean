/- Chapter 17's third law, walked over what the code's three functions answer (LikeC). -/
import Derived.Test.YtbldhfafflobbaaLikeLaw2
namespace Go.Proofs.Ytbldhfafflobbaa
open Go.RowKit
set_option linter.unusedVariables false
set_option linter.unusedSimpArgs false
theorem row17 {w w1 : World} {b : Nat} {o : Obj} (hb : Below w.heap.size w w1) (h : w.heap[b]? = some o) : w1.heap[b]? = some o := (hb.block b (lt_of_block h)).trans h
/-- has the text been parted so, up to a place? -/
def partL (p q s : List UInt8) : Nat → Bool
  | 0 => false
  | j + 1 => partL p q s j || (likeL p (s.take j) && likeL q (s.drop j))
theorem partL_iff (p q s : List UInt8) : ∀ n, partL p q s n = true ↔ ∃ i, i < n ∧ likeL p (s.take i) = true ∧ likeL q (s.drop i) = true
  | 0 => ⟨fun h => (by cases h), fun ⟨i, hi, _⟩ => absurd hi (Nat.not_lt_zero i)⟩
  | n + 1 => by
    rw [partL, Bool.or_eq_true, partL_iff p q s n, Bool.and_eq_true]
    constructor
    · rintro (⟨i, hi, h⟩ | h)
      · exact ⟨i, by omega, h⟩
      · exact ⟨n, by omega, h⟩
    · rintro ⟨i, hi, h⟩
      rcases Nat.lt_succ_iff_lt_or_eq.1 hi with h1 | rfl
      · exact .inl ⟨i, h1, h⟩
      · exact .inr h
theorem partL_end (p q s : List UInt8) : partL p q s (s.length + 1) = likeL (p ++ q) s := by
  rw [Bool.eq_iff_iff, partL_iff, like_part]
  constructor
  · rintro ⟨i, hi, h⟩; exact ⟨i, by omega, h⟩
  · rintro ⟨i, hi, h⟩; exact ⟨i, by omega, h⟩
def JoinTo (x y z u : ByteArray) (w : World) : Prop := Calls Try.prog 5 #[.string x, .string y, .agg #[.string z, .string u]] w fun e w' => e = .returned (.bool true) ∧ Below w.heap.size w w'
theorem belL {w : World} {o : Obj} : Below w.heap.size w (w.alloc o) := (Below.refl _ _).alloc (Nat.le_refl _) _
set_option maxHeartbeats 2000000 in
theorem joins_out (C : LikeC) (x y z u : ByteArray) (w : World) (h : 60 < x.size ∨ 60 < y.size ∨ 60 < z.size ∨ 60 < u.size) : JoinTo x y z u w := by
  unfold JoinTo
  have HA := Lib.hid (awake17 C)
  clear C
  by_cases h1 : 60 < x.size
  · have h1i : (60 : Int) < (x.size : Int) := by omega
    clear h
    go_enter Try.func5, Try.ntmps5
    go_wp2_with (go_at_call 6; refine (HA.out _).mono ?_; rintro e w1 ⟨rfl, hb⟩; have HB1 := Lib.hid (bthL belL hb); clear hb)
    go_ret
    exact ⟨rfl, HB1.out⟩
  · have h1i : ¬ (60 : Int) < (x.size : Int) := by omega
    by_cases h2 : 60 < y.size
    · have h2i : (60 : Int) < (y.size : Int) := by omega
      clear h
      go_enter Try.func5, Try.ntmps5
      go_wp2_with (go_at_call 6; refine (HA.out _).mono ?_; rintro e w1 ⟨rfl, hb⟩; have HB1 := Lib.hid (bthL belL hb); clear hb)
      go_ret
      exact ⟨rfl, HB1.out⟩
    · have h2i : ¬ (60 : Int) < (y.size : Int) := by omega
      by_cases h3 : 60 < z.size
      · have h3i : (60 : Int) < (z.size : Int) := by omega
        clear h
        go_enter Try.func5, Try.ntmps5
        go_wp2_with (go_at_call 6; refine (HA.out _).mono ?_; rintro e w1 ⟨rfl, hb⟩; have HB1 := Lib.hid (bthL belL hb); clear hb)
        go_ret
        exact ⟨rfl, HB1.out⟩
      · have h3i : ¬ (60 : Int) < (z.size : Int) := by omega
        have h4i : (60 : Int) < (u.size : Int) := by omega
        clear h
        go_enter Try.func5, Try.ntmps5
        go_wp2_with (go_at_call 6; refine (HA.out _).mono ?_; rintro e w1 ⟨rfl, hb⟩; have HB1 := Lib.hid (bthL belL hb); clear hb)
        go_ret
        exact ⟨rfl, HB1.out⟩
set_option maxRecDepth 100000 in
set_option maxHeartbeats 4000000 in
theorem joins_in (C : LikeC) (p q a c : List UInt8) (w : World) (hp : p.length ≤ 60) (hq : q.length ≤ 60) (ha : a.length ≤ 60) (hc : c.length ≤ 60) : JoinTo (bt p) (bt q) (bt a) (bt c) w := by
  unfold JoinTo
  have HA := Lib.hid (awake17 C)
  obtain ⟨s, hs⟩ : ∃ s, a ++ c = s := ⟨_, rfl⟩
  have hsl : s.length ≤ 120 := by rw [← hs, List.length_append]; omega
  have HM1 := Lib.hid (C.mat p a (by omega) (by omega))
  have HM2 := Lib.hid (C.mat q c (by omega) (by omega))
  have HM3 := Lib.hid (C.mat (p ++ q) s (by rw [List.length_append]; omega) (by omega))
  have HT := Lib.hid (fun j => C.mat p (s.take j) (by omega) (by rw [List.length_take]; omega))
  have HD := Lib.hid (fun j => C.mat q (s.drop j) (by omega) (by rw [List.length_drop]; omega))
  have HTS := Lib.hid (fun j (hj : j ≤ s.length) wx => bt_to s j hj wx)
  have HDS := Lib.hid (fun j (hj : j ≤ s.length) wx => bt_from s j hj wx)
  have hand : likeL p a = true → likeL q c = true → likeL (p ++ q) s = true := fun h1 h2 => (like_app p q s).2 ⟨a, c, hs.symm, h1, h2⟩
  have hpq : bt p ++ bt q = bt (p ++ q) := bt_append p q
  have hac : bt a ++ bt c = bt s := by rw [bt_append, hs]
  have hpz := bt_size p
  have hqz := bt_size q
  have haz := bt_size a
  have hcz := bt_size c
  have hsz := bt_size s
  have hend := partL_end p q s
  have HST := Lib.hid (show ∀ j, partL p q s (j + 1) = (partL p q s j || (likeL p (s.take j) && likeL q (s.drop j))) from fun j => rfl)
  obtain ⟨m1, hm1⟩ : ∃ m, likeL p a = m := ⟨_, rfl⟩
  obtain ⟨m2, hm2⟩ : ∃ m, likeL q c = m := ⟨_, rfl⟩
  obtain ⟨m3, hm3⟩ : ∃ m, likeL (p ++ q) s = m := ⟨_, rfl⟩
  rw [hm1] at HM1 hand
  rw [hm2] at HM2 hand
  rw [hm3] at HM3 hand hend
  have HE := Lib.hid hend
  have H0 := Lib.hid (show partL p q s 0 = false from rfl)
  have q1 : ¬ 9223372036854775807 < p.length + q.length := by omega
  have q2 : ¬ 9223372036854775807 < a.length + c.length := by omega
  have z1 : ¬ (60 : Int) < (p.length : Int) := by omega
  have z2 : ¬ (60 : Int) < (q.length : Int) := by omega
  have z3 : ¬ (60 : Int) < (a.length : Int) := by omega
  have z4 : ¬ (60 : Int) < (c.length : Int) := by omega
  clear hm1 hm2 hm3 hs C hp hq ha hc hend
  generalize bt (p ++ q) = PQ at *
  generalize bt p = P at *
  generalize bt q = Q at *
  generalize bt a = A at *
  generalize bt c = K at *
  generalize bt s = S at *
  go_enter Try.func5, Try.ntmps5
  have HB0 := Lib.hid (belL (w := w) (o := .cells #[.string A, .string K] 26))
  have HQ0 := Lib.hid (alloc_at w (.cells #[.string A, .string K] 26))
  cases m1 with
  | false =>
    clear hand
    go_wp2_with ((go_at_call 7; (with_reducible refine (HM1.out _).mono ?_); rintro e wa ⟨rfl, hb⟩; have HBa := Lib.hid (bthL HB0.out hb); have HQa := Lib.hid (row17 hb HQ0.out); have d0a : wa.cell? ⟨w.heap.size, 0, none⟩ = some (.string A) := cell_at HQa.out rfl; have d1a : wa.cell? ⟨w.heap.size, 1, none⟩ = some (.string K) := cell_at HQa.out rfl; clear hb))
    go_loopw [8, 9] (fun t i wr => ∃ j : Nat, j ≤ s.length + 1 ∧ t = .bool (partL p q s j) ∧ i = .int .i64 j ∧ Hid (Below w.heap.size w wr)) (fun _ i _ => s.length + 1 - (intOf i).toNat)
    case atStart => exact ⟨0, Nat.zero_le _, by rw [H0.out], rfl, HBa⟩
    case round =>
      obtain ⟨j, hj, rfl, rfl, HBr⟩ := hrel
      by_cases hlt : j ≤ s.length
      · have hji : (j : Int) ≤ (s.length : Int) := by omega
        have HTj := Lib.hid (HT.out j)
        have HDj := Lib.hid (HD.out j)
        have hst := HST.out j
        have hsl1 := HTS.out j hlt
        have hsl2 := HDS.out j hlt
        obtain ⟨x, hx⟩ : ∃ m, likeL p (s.take j) = m := ⟨_, rfl⟩
        obtain ⟨y, hy⟩ : ∃ m, likeL q (s.drop j) = m := ⟨_, rfl⟩
        obtain ⟨d, hd⟩ : ∃ m, partL p q s j = m := ⟨_, rfl⟩
        rw [hx] at HTj hst
        rw [hy] at HDj hst
        rw [hd] at hst ⊢
        generalize bt (s.take j) = X at *
        generalize bt (s.drop j) = Y at *
        clear hx hy hd
        have HS1 := Lib.hid hst
        clear hst
        cases d with
        | true =>
          clear HTj HDj
          go_wp2_with (fail)
          go_roundw
          case rel => exact ⟨j + 1, by omega, by rw [HS1.out]; rfl, by go_num, HBr⟩
          case measure => simp [intOf]; omega
        | false =>
          cases x with
          | false =>
            clear HDj
            go_wp2_with ((go_at_call 7; (with_reducible refine (HTj.out _).mono ?_); rintro e w2 ⟨rfl, hb⟩; have HB2 := Lib.hid (bthL HBr.out hb); clear hb))
            go_roundw
            case rel => exact ⟨j + 1, by omega, by rw [HS1.out]; rfl, by go_num, HB2⟩
            case measure => simp [intOf]; omega
          | true =>
            go_wp2_with (first | (go_at_call 7; (with_reducible refine (HDj.out _).mono ?_); rintro e w3 ⟨rfl, hb⟩; have HB3 := Lib.hid (bthL HB2.out hb); clear hb) | (go_at_call 7; (with_reducible refine (HTj.out _).mono ?_); rintro e w2 ⟨rfl, hb⟩; have HB2 := Lib.hid (bthL HBr.out hb); clear hb))
            go_roundw
            case rel => exact ⟨j + 1, by omega, by rw [HS1.out]; simp, by go_num, HB3⟩
            case measure => simp [intOf]; omega
      · have hji : ¬ (j : Int) ≤ (s.length : Int) := by omega
        have hjn : j = s.length + 1 := by omega
        have hd : partL p q s j = m3 := by rw [hjn]; exact HE.out
        rw [hd]
        clear hjn hlt hd
        cases m3 with
        | false =>
          go_wp2_with (first | (go_at_call 6; refine (HA.out _).mono ?_; rintro e w4 ⟨rfl, hb⟩; have HB4 := Lib.hid (bthL HB3.out hb); clear hb) | (go_at_call 7; (with_reducible refine (HM3.out _).mono ?_); rintro e w3 ⟨rfl, hb⟩; have HB3 := Lib.hid (bthL HBr.out hb); clear hb))
          go_ret
          exact ⟨rfl, HB4.out⟩
        | true =>
          go_wp2_with (first | (go_at_call 6; refine (HA.out _).mono ?_; rintro e w4 ⟨rfl, hb⟩; have HB4 := Lib.hid (bthL HB3.out hb); clear hb) | (go_at_call 7; (with_reducible refine (HM3.out _).mono ?_); rintro e w3 ⟨rfl, hb⟩; have HB3 := Lib.hid (bthL HBr.out hb); clear hb))
          go_ret
          exact ⟨rfl, HB4.out⟩
  | true =>
    cases m2 with
    | false =>
      clear hand
      go_wp2_with (first | (go_at_call 7; (with_reducible refine (HM2.out _).mono ?_); rintro e wb ⟨rfl, hb⟩; have HBb := Lib.hid (bthL HBa.out hb); have HQb := Lib.hid (row17 hb HQa.out); have d0b : wb.cell? ⟨w.heap.size, 0, none⟩ = some (.string A) := cell_at HQb.out rfl; have d1b : wb.cell? ⟨w.heap.size, 1, none⟩ = some (.string K) := cell_at HQb.out rfl; clear hb) | (go_at_call 7; (with_reducible refine (HM1.out _).mono ?_); rintro e wa ⟨rfl, hb⟩; have HBa := Lib.hid (bthL HB0.out hb); have HQa := Lib.hid (row17 hb HQ0.out); have d0a : wa.cell? ⟨w.heap.size, 0, none⟩ = some (.string A) := cell_at HQa.out rfl; have d1a : wa.cell? ⟨w.heap.size, 1, none⟩ = some (.string K) := cell_at HQa.out rfl; clear hb))
      go_loopw [8, 9] (fun t i wr => ∃ j : Nat, j ≤ s.length + 1 ∧ t = .bool (partL p q s j) ∧ i = .int .i64 j ∧ Hid (Below w.heap.size w wr)) (fun _ i _ => s.length + 1 - (intOf i).toNat)
      case atStart => exact ⟨0, Nat.zero_le _, by rw [H0.out], rfl, HBb⟩
      case round =>
        obtain ⟨j, hj, rfl, rfl, HBr⟩ := hrel
        by_cases hlt : j ≤ s.length
        · have hji : (j : Int) ≤ (s.length : Int) := by omega
          have HTj := Lib.hid (HT.out j)
          have HDj := Lib.hid (HD.out j)
          have hst := HST.out j
          have hsl1 := HTS.out j hlt
          have hsl2 := HDS.out j hlt
          obtain ⟨x, hx⟩ : ∃ m, likeL p (s.take j) = m := ⟨_, rfl⟩
          obtain ⟨y, hy⟩ : ∃ m, likeL q (s.drop j) = m := ⟨_, rfl⟩
          obtain ⟨d, hd⟩ : ∃ m, partL p q s j = m := ⟨_, rfl⟩
          rw [hx] at HTj hst
          rw [hy] at HDj hst
          rw [hd] at hst ⊢
          generalize bt (s.take j) = X at *
          generalize bt (s.drop j) = Y at *
          clear hx hy hd
          have HS1 := Lib.hid hst
          clear hst
          cases d with
          | true =>
            clear HTj HDj
            go_wp2_with (fail)
            go_roundw
            case rel => exact ⟨j + 1, by omega, by rw [HS1.out]; rfl, by go_num, HBr⟩
            case measure => simp [intOf]; omega
          | false =>
            cases x with
            | false =>
              clear HDj
              go_wp2_with ((go_at_call 7; (with_reducible refine (HTj.out _).mono ?_); rintro e w2 ⟨rfl, hb⟩; have HB2 := Lib.hid (bthL HBr.out hb); clear hb))
              go_roundw
              case rel => exact ⟨j + 1, by omega, by rw [HS1.out]; rfl, by go_num, HB2⟩
              case measure => simp [intOf]; omega
            | true =>
              go_wp2_with (first | (go_at_call 7; (with_reducible refine (HDj.out _).mono ?_); rintro e w3 ⟨rfl, hb⟩; have HB3 := Lib.hid (bthL HB2.out hb); clear hb) | (go_at_call 7; (with_reducible refine (HTj.out _).mono ?_); rintro e w2 ⟨rfl, hb⟩; have HB2 := Lib.hid (bthL HBr.out hb); clear hb))
              go_roundw
              case rel => exact ⟨j + 1, by omega, by rw [HS1.out]; simp, by go_num, HB3⟩
              case measure => simp [intOf]; omega
        · have hji : ¬ (j : Int) ≤ (s.length : Int) := by omega
          have hjn : j = s.length + 1 := by omega
          have hd : partL p q s j = m3 := by rw [hjn]; exact HE.out
          rw [hd]
          clear hjn hlt hd
          cases m3 with
          | false =>
            go_wp2_with (first | (go_at_call 6; refine (HA.out _).mono ?_; rintro e w4 ⟨rfl, hb⟩; have HB4 := Lib.hid (bthL HB3.out hb); clear hb) | (go_at_call 7; (with_reducible refine (HM3.out _).mono ?_); rintro e w3 ⟨rfl, hb⟩; have HB3 := Lib.hid (bthL HBr.out hb); clear hb))
            go_ret
            exact ⟨rfl, HB4.out⟩
          | true =>
            go_wp2_with (first | (go_at_call 6; refine (HA.out _).mono ?_; rintro e w4 ⟨rfl, hb⟩; have HB4 := Lib.hid (bthL HB3.out hb); clear hb) | (go_at_call 7; (with_reducible refine (HM3.out _).mono ?_); rintro e w3 ⟨rfl, hb⟩; have HB3 := Lib.hid (bthL HBr.out hb); clear hb))
            go_ret
            exact ⟨rfl, HB4.out⟩
    | true =>
      have hv : m3 = true := hand rfl rfl
      subst hv
      clear hand
      go_wp2_with (first | (go_at_call 7; (with_reducible refine (HM3.out _).mono ?_); rintro e wc ⟨rfl, hb⟩; have HBc := Lib.hid (bthL HBb.out hb); have HQc := Lib.hid (row17 hb HQb.out); have d0c : wc.cell? ⟨w.heap.size, 0, none⟩ = some (.string A) := cell_at HQc.out rfl; have d1c : wc.cell? ⟨w.heap.size, 1, none⟩ = some (.string K) := cell_at HQc.out rfl; clear hb) | (go_at_call 7; (with_reducible refine (HM2.out _).mono ?_); rintro e wb ⟨rfl, hb⟩; have HBb := Lib.hid (bthL HBa.out hb); have HQb := Lib.hid (row17 hb HQa.out); have d0b : wb.cell? ⟨w.heap.size, 0, none⟩ = some (.string A) := cell_at HQb.out rfl; have d1b : wb.cell? ⟨w.heap.size, 1, none⟩ = some (.string K) := cell_at HQb.out rfl; clear hb) | (go_at_call 7; (with_reducible refine (HM1.out _).mono ?_); rintro e wa ⟨rfl, hb⟩; have HBa := Lib.hid (bthL HB0.out hb); have HQa := Lib.hid (row17 hb HQ0.out); have d0a : wa.cell? ⟨w.heap.size, 0, none⟩ = some (.string A) := cell_at HQa.out rfl; have d1a : wa.cell? ⟨w.heap.size, 1, none⟩ = some (.string K) := cell_at HQa.out rfl; clear hb))
      go_loopw [8, 9] (fun t i wr => ∃ j : Nat, j ≤ s.length + 1 ∧ t = .bool (partL p q s j) ∧ i = .int .i64 j ∧ Hid (Below w.heap.size w wr)) (fun _ i _ => s.length + 1 - (intOf i).toNat)
      case atStart => exact ⟨0, Nat.zero_le _, by rw [H0.out], rfl, HBc⟩
      case round =>
        obtain ⟨j, hj, rfl, rfl, HBr⟩ := hrel
        by_cases hlt : j ≤ s.length
        · have hji : (j : Int) ≤ (s.length : Int) := by omega
          have HTj := Lib.hid (HT.out j)
          have HDj := Lib.hid (HD.out j)
          have hst := HST.out j
          have hsl1 := HTS.out j hlt
          have hsl2 := HDS.out j hlt
          obtain ⟨x, hx⟩ : ∃ m, likeL p (s.take j) = m := ⟨_, rfl⟩
          obtain ⟨y, hy⟩ : ∃ m, likeL q (s.drop j) = m := ⟨_, rfl⟩
          obtain ⟨d, hd⟩ : ∃ m, partL p q s j = m := ⟨_, rfl⟩
          rw [hx] at HTj hst
          rw [hy] at HDj hst
          rw [hd] at hst ⊢
          generalize bt (s.take j) = X at *
          generalize bt (s.drop j) = Y at *
          clear hx hy hd
          have HS1 := Lib.hid hst
          clear hst
          cases d with
          | true =>
            clear HTj HDj
            go_wp2_with (fail)
            go_roundw
            case rel => exact ⟨j + 1, by omega, by rw [HS1.out]; rfl, by go_num, HBr⟩
            case measure => simp [intOf]; omega
          | false =>
            cases x with
            | false =>
              clear HDj
              go_wp2_with ((go_at_call 7; (with_reducible refine (HTj.out _).mono ?_); rintro e w2 ⟨rfl, hb⟩; have HB2 := Lib.hid (bthL HBr.out hb); clear hb))
              go_roundw
              case rel => exact ⟨j + 1, by omega, by rw [HS1.out]; rfl, by go_num, HB2⟩
              case measure => simp [intOf]; omega
            | true =>
              go_wp2_with (first | (go_at_call 7; (with_reducible refine (HDj.out _).mono ?_); rintro e w3 ⟨rfl, hb⟩; have HB3 := Lib.hid (bthL HB2.out hb); clear hb) | (go_at_call 7; (with_reducible refine (HTj.out _).mono ?_); rintro e w2 ⟨rfl, hb⟩; have HB2 := Lib.hid (bthL HBr.out hb); clear hb))
              go_roundw
              case rel => exact ⟨j + 1, by omega, by rw [HS1.out]; simp, by go_num, HB3⟩
              case measure => simp [intOf]; omega
        · have hji : ¬ (j : Int) ≤ (s.length : Int) := by omega
          have hjn : j = s.length + 1 := by omega
          have hd : partL p q s j = true := by rw [hjn]; exact HE.out
          rw [hd]
          clear hjn hlt hd
          go_wp2_with (first | (go_at_call 6; refine (HA.out _).mono ?_; rintro e w4 ⟨rfl, hb⟩; have HB4 := Lib.hid (bthL HB3.out hb); clear hb) | (go_at_call 7; (with_reducible refine (HM3.out _).mono ?_); rintro e w3 ⟨rfl, hb⟩; have HB3 := Lib.hid (bthL HBr.out hb); clear hb))
          go_ret
          exact ⟨rfl, HB4.out⟩
theorem joins17 (C : LikeC) (x y z u : ByteArray) (w : World) : JoinTo x y z u w := by
  by_cases h : 60 < x.size ∨ 60 < y.size ∨ 60 < z.size ∨ 60 < u.size
  · exact joins_out C x y z u w h
  · obtain ⟨p, rfl⟩ : ∃ p, x = bt p := ⟨x.data.toList, by apply ByteArray.ext; simp [bt]⟩
    obtain ⟨q, rfl⟩ : ∃ p, y = bt p := ⟨y.data.toList, by apply ByteArray.ext; simp [bt]⟩
    obtain ⟨a, rfl⟩ : ∃ p, z = bt p := ⟨z.data.toList, by apply ByteArray.ext; simp [bt]⟩
    obtain ⟨c, rfl⟩ : ∃ p, u = bt p := ⟨u.data.toList, by apply ByteArray.ext; simp [bt]⟩
    rw [bt_size, bt_size, bt_size, bt_size] at h
    exact joins_in C p q a c w (by omega) (by omega) (by omega) (by omega)
end Go.Proofs.Ytbldhfafflobbaa
