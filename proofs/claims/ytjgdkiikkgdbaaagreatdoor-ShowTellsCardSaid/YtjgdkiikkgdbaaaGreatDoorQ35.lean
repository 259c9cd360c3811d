/- The reference's operand of chapter 16: may an operand be told? -/
import Derived.Test.YtjgdkiikkgdbaaaGreatDoorQ33
namespace Go.Proofs.YtjgdkiikkgdbaaaGreatDoor
open Go.RowKit
set_option linter.unusedVariables false
def RMay1To (k : Int) (s : ByteArray) (ng : Bool) (num : Int) (w : World) : Prop := Calls Tryz.prog 23 #[.agg #[.int .i64 k, .string s, .bool ng, .int .u64 num]] w fun e w' => e = .returned (.bool (mayOB ⟨k, s, ng, num⟩)) ∧ Below w.heap.size w w'
def RBad1To (k : Int) (s : ByteArray) (ng : Bool) (num : Int) (w : World) (b : Bool) : Prop := Calls Tryz.prog 23 #[.agg #[.int .i64 k, .string s, .bool ng, .int .u64 num]] w fun e w' => e = .returned (.bool b) ∧ Below w.heap.size w w'
theorem may1_lo (k : Int) (s : ByteArray) (ng : Bool) (num : Int) (w : World) (h : k < 1) : RBad1To k s ng num w false := by
  unfold RBad1To
  go_enter Tryz.func23, Tryz.ntmps23
  go_wp2_with (fail)
  go_ret
  exact ⟨rfl, (Below.refl _ _).alloc (Nat.le_refl _) _⟩
theorem may1_hi (k : Int) (s : ByteArray) (ng : Bool) (num : Int) (w : World) (h : 5 < k) : RBad1To k s ng num w false := by
  have h1 : ¬ k < 1 := by omega
  unfold RBad1To
  go_enter Tryz.func23, Tryz.ntmps23
  go_wp2_with (fail)
  go_ret
  exact ⟨rfl, (Below.refl _ _).alloc (Nat.le_refl _) _⟩
theorem may1_1 (s : ByteArray) (num : Int) (w : World) (h0 : 0 ≤ num) (hl : s.size ≤ 1000000000) : RBad1To 1 s false num w (num == 0 && pthA s.data.toList) := by
  have HP := Lib.hid (fun wx => shpath_any s.data.toList (by rw [Array.length_toList]; exact hl) wx)
  rw [bs_data] at HP
  obtain ⟨A, hA⟩ : ∃ A, pthA s.data.toList = A := ⟨_, rfl⟩
  rw [hA] at HP ⊢
  obtain ⟨em, hem⟩ : ∃ em, s.toList.isEmpty = em := ⟨_, rfl⟩
  clear hA
  unfold RBad1To
  by_cases hn : num = 0
  · subst hn
    cases em
    all_goals
      go_enter Tryz.func23, Tryz.ntmps23
      go_wp2_with (go_at_call 43; refine (HP.out _).mono ?_; rintro e w1 ⟨rfl, hb⟩; have HB1 := Lib.hid (bthN ((Below.refl _ _).alloc (Nat.le_refl _) _) hb); clear hb)
      go_ret
      exact ⟨rfl, HB1.out⟩
  · have z1 : (num == 0) = false := beq_eq_false_iff_ne.2 hn
    rw [z1]
    cases em
    all_goals
      go_enter Tryz.func23, Tryz.ntmps23
      go_wp2_with (fail)
      go_ret
      exact ⟨rfl, (Below.refl _ _).alloc (Nat.le_refl _) _⟩
theorem may1_neg (k : Int) (s : ByteArray) (num : Int) (w : World) (h1 : 1 ≤ k) (h5 : k ≤ 5) (h2 : k ≠ 2) : RBad1To k s true num w false := by
  obtain ⟨em, hem⟩ : ∃ em, s.toList.isEmpty = em := ⟨_, rfl⟩
  have hk : k = 1 ∨ k = 3 ∨ k = 4 ∨ k = 5 := by omega
  clear h1 h5 h2
  unfold RBad1To
  rcases hk with rfl | rfl | rfl | rfl
  all_goals
    go_enter Tryz.func23, Tryz.ntmps23
    go_wp2_with (fail)
    go_ret
    exact ⟨rfl, (Below.refl _ _).alloc (Nat.le_refl _) _⟩
theorem may1_txt (k : Int) (s : ByteArray) (ng : Bool) (num : Int) (w : World) (h1 : 1 ≤ k) (h5 : k ≤ 5) (hk1 : k ≠ 1) (hk3 : k ≠ 3) (hng : (ng && !(k == 2)) = false) (hs : s ≠ ⟨#[]⟩) : RBad1To k s ng num w false := by
  have hse : s.toList.isEmpty = false := by
    rw [ByteArray.toList_eq]
    cases hq : s.data.toList with
    | nil => exact absurd (by apply ByteArray.ext; exact Array.toList_inj.1 hq) hs
    | cons c r => rfl
  have hk : (k = 2 ∨ k = 4 ∨ k = 5) := by omega
  have hk' : (k = 2 ∧ ng = true) ∨ (k = 2 ∧ ng = false) ∨ (k = 4 ∧ ng = false) ∨ (k = 5 ∧ ng = false) := by
    cases ng with
    | false => rcases hk with h | h | h
               · exact .inr (.inl ⟨h, rfl⟩)
               · exact .inr (.inr (.inl ⟨h, rfl⟩))
               · exact .inr (.inr (.inr ⟨h, rfl⟩))
    | true => exact .inl ⟨by simpa using hng, rfl⟩
  clear h1 h5 hk1 hk3 hng hs hk
  unfold RBad1To
  rcases hk' with ⟨rfl, rfl⟩ | ⟨rfl, rfl⟩ | ⟨rfl, rfl⟩ | ⟨rfl, rfl⟩
  all_goals
    go_enter Tryz.func23, Tryz.ntmps23
    go_wp2_with (fail)
    go_ret
    exact ⟨rfl, (Below.refl _ _).alloc (Nat.le_refl _) _⟩
theorem may1_2 (ng : Bool) (num : Int) (w : World) : RBad1To 2 ⟨#[]⟩ ng num w true := by
  unfold RBad1To
  cases ng
  all_goals
    go_enter Tryz.func23, Tryz.ntmps23
    go_wp2_with (fail)
    go_ret
    exact ⟨rfl, (Below.refl _ _).alloc (Nat.le_refl _) _⟩
theorem may1_4 (num : Int) (w : World) : RBad1To 4 ⟨#[]⟩ false num w (decide (num < 2)) := by
  unfold RBad1To
  go_enter Tryz.func23, Tryz.ntmps23
  go_wp2_with (fail)
  go_ret
  exact ⟨rfl, (Below.refl _ _).alloc (Nat.le_refl _) _⟩
theorem may1_5 (num : Int) (w : World) : RBad1To 5 ⟨#[]⟩ false num w (decide (num < 10)) := by
  unfold RBad1To
  go_enter Tryz.func23, Tryz.ntmps23
  go_wp2_with (fail)
  go_ret
  exact ⟨rfl, (Below.refl _ _).alloc (Nat.le_refl _) _⟩
theorem bad_get (s : ByteArray) (j : Nat) (hj : j < s.size) : ((s.data.toList.drop j).all fun x => !badB x) = (!badB (s[j]'hj) && ((s.data.toList.drop (j + 1)).all fun x => !badB x)) := by
  have hl : j < s.data.toList.length := by rw [Array.length_toList]; exact hj
  rw [List.drop_eq_getElem_cons hl, List.all_cons]
  rfl
set_option maxRecDepth 100000 in
theorem may1_3 (s : ByteArray) (num : Int) (w : World) (hl : s.size ≤ 140737488351232) : RBad1To 3 s false num w ((s.data.toList.all fun x => !badB x) && num == 0) := by
  obtain ⟨B, hB⟩ : ∃ B, (s.data.toList.all fun x => !badB x) = B := ⟨_, rfl⟩
  have H0 := Lib.hid (show ((s.data.toList.drop 0).all fun x => !badB x) = B from hB)
  have HBG := Lib.hid (bad_get s)
  have HE := Lib.hid (show ((s.data.toList.drop s.size).all fun x => !badB x) = true by rw [List.drop_eq_nil_of_le (by rw [Array.length_toList]; exact Nat.le_refl _)]; rfl)
  rw [hB]
  have hml : s.size ≤ maxLen := by show s.size ≤ 9223372036854775807; omega
  obtain ⟨em, hem⟩ : ∃ em, s.toList.isEmpty = em := ⟨_, rfl⟩
  unfold RBad1To
  clear hB
  cases em
  all_goals as_aux_lemma =>
    go_enter Tryz.func23, Tryz.ntmps23
    go_wp2_with (fail)
    go_loopw [3] (fun i wr => ∃ (j : Nat), j ≤ s.size ∧ i = .int .i64 j ∧ Hid (((s.data.toList.drop j).all fun x => !badB x) = B) ∧ Hid (wr.heap[w.heap.size]? = some (.cells #[.int .i64 3, .string s, .bool false, .int .u64 num] 34)) ∧ Hid (Below w.heap.size w wr)) (fun i _ => s.size - (intOf i).toNat)
    case atStart => exact ⟨0, Nat.zero_le _, rfl, H0, Lib.hid (alloc_at w _), Lib.hid ((Below.refl _ _).alloc (Nat.le_refl _) _)⟩
    case round =>
      obtain ⟨j, hj, rfl, HJ, HQ, HBr⟩ := hrel
      obtain ⟨-, d1, -, d3⟩ := bx4 HQ.out
      by_cases hlt : j < s.size
      · have hji : (j : Int) < (s.size : Int) := by omega
        have hx := HBG.out j hlt
        rw [HJ.out] at hx
        have hbd : badB (s[j]'hlt) = (decide ((((s[j]'hlt).toNat : Nat) : Int) < 32) || decide ((126 : Int) < (((s[j]'hlt).toNat : Nat) : Int))) := by
          unfold badB
          generalize (s[j]'hlt).toNat = n
          rw [Bool.eq_iff_iff]; simp; try omega
        rw [hbd] at hx
        clear hbd
        by_cases h32 : (((s[j]'hlt).toNat : Nat) : Int) < 32
        · rw [decide_eq_true h32] at hx
          have hBf : B = false := by rw [hx]; rfl
          clear hx
          subst hBf
          go_wp2_with (fail)
          go_ret
          exact ⟨rfl, HBr.out⟩
        · by_cases h126 : (126 : Int) < (((s[j]'hlt).toNat : Nat) : Int)
          · rw [decide_eq_true h126] at hx
            have hBf : B = false := by rw [hx]; simp
            clear hx
            subst hBf
            go_wp2_with (fail)
            go_ret
            exact ⟨rfl, HBr.out⟩
          · rw [decide_eq_false h32, decide_eq_false h126] at hx
            have HX := Lib.hid (show ((s.data.toList.drop (j + 1)).all fun x => !badB x) = B by rw [hx]; rfl)
            clear hx
            go_wp2_with (fail)
            go_roundw
            case rel => exact ⟨j + 1, by omega, by go_num, HX, HQ, HBr⟩
            case measure => simp [intOf]; omega
      · obtain rfl : j = s.size := by omega
        have hx := HJ.out
        rw [HE.out] at hx
        clear hlt
        subst hx
        go_wp2_with (fail)
        go_ret
        exact ⟨rfl, HBr.out⟩
theorem may1_any (o : Opd) (ho : OpX o) (hl : o.text.size ≤ 1000000000) (w : World) : RMay1To o.kind o.text o.neg o.num w := by
  obtain ⟨k, s, ng, num⟩ := o
  have key : ∀ b, mayOB ⟨k, s, ng, num⟩ = b → RBad1To k s ng num w b → RMay1To k s ng num w := fun b e h => by unfold RMay1To; rw [e]; exact h
  show RMay1To k s ng num w
  obtain ⟨_, hn0, _⟩ := ho
  have hn0 : 0 ≤ num := hn0
  have hl : s.size ≤ 1000000000 := hl
  have hnil : (s.data.toList == ([] : List UInt8)) = false ∨ s = ⟨#[]⟩ := by
    cases hq : (s.data.toList == ([] : List UInt8)) with
    | false => exact .inl rfl
    | true => exact .inr (by apply ByteArray.ext; exact Array.toList_inj.1 (eq_of_beq hq))
  by_cases h1 : k < 1
  · refine key false ?_ (may1_lo k s ng num w h1)
    unfold mayOB
    rw [if_pos]
    show (decide (k < 1) || _ || _ || _) = true
    rw [decide_eq_true h1]; rfl
  by_cases h5 : 5 < k
  · refine key false ?_ (may1_hi k s ng num w h5)
    unfold mayOB
    rw [if_pos]
    show (_ || decide (5 < k) || _ || _) = true
    rw [decide_eq_true h5]; simp
  by_cases hng : (ng && !(k == 2)) = true
  · rw [Bool.and_eq_true] at hng
    obtain ⟨rfl, hk2⟩ := hng
    have hk2' : k ≠ 2 := fun e => by rw [e] at hk2; exact absurd hk2 (by decide)
    refine key false ?_ (may1_neg k s num w (by omega) (by omega) hk2')
    unfold mayOB
    rw [if_pos]
    show (_ || _ || (true && !(k == 2)) || _) = true
    rw [hk2]; simp
  have hngf : (ng && !(k == 2)) = false := by simpa using hng
  by_cases htx : (!(s.data.toList == ([] : List UInt8)) && !(k == 1) && !(k == 3)) = true
  · rw [Bool.and_eq_true, Bool.and_eq_true] at htx
    obtain ⟨⟨ht, hk1⟩, hk3⟩ := htx
    refine key false ?_ (may1_txt k s ng num w (by omega) (by omega) (fun e => by rw [e] at hk1; exact absurd hk1 (by decide)) (fun e => by rw [e] at hk3; exact absurd hk3 (by decide)) hngf (fun e => by rw [e] at ht; exact absurd ht (by decide)))
    unfold mayOB
    rw [if_pos]
    show (_ || _ || _ || (!(s.data.toList == ([] : List UInt8)) && !(k == 1) && !(k == 3))) = true
    rw [ht, hk1, hk3]; simp
  have hhead : ¬ ((decide (k < 1) || decide (5 < k) || (ng && !(k == 2)) || (!(s.data.toList == ([] : List UInt8)) && !(k == 1) && !(k == 3))) = true) := by
    rw [decide_eq_false h1, decide_eq_false h5, hngf, show (!(s.data.toList == ([] : List UInt8)) && !(k == 1) && !(k == 3)) = false by simpa using htx]
    decide
  have hk : k = 1 ∨ k = 2 ∨ k = 3 ∨ k = 4 ∨ k = 5 := by omega
  rcases hk with rfl | rfl | rfl | rfl | rfl
  · have hngg : ng = false := by cases ng with
      | false => rfl
      | true => exact absurd hngf (by decide)
    subst hngg
    refine key _ ?_ (may1_1 s num w hn0 hl)
    unfold mayOB; rw [if_neg hhead]; rfl
  · have hs : s = ⟨#[]⟩ := by
      rcases hnil with h | h
      · exact absurd (by rw [h]; rfl) htx
      · exact h
    subst hs
    refine key _ ?_ (may1_2 ng num w)
    unfold mayOB; rw [if_neg hhead]; rfl
  · have hngg : ng = false := by cases ng with
      | false => rfl
      | true => exact absurd hngf (by decide)
    subst hngg
    refine key _ ?_ (may1_3 s num w (by omega))
    unfold mayOB; rw [if_neg hhead]; rfl
  · have hngg : ng = false := by cases ng with
      | false => rfl
      | true => exact absurd hngf (by decide)
    subst hngg
    have hs : s = ⟨#[]⟩ := by
      rcases hnil with h | h
      · exact absurd (by rw [h]; rfl) htx
      · exact h
    subst hs
    refine key _ ?_ (may1_4 num w)
    unfold mayOB; rw [if_neg hhead]; rfl
  · have hngg : ng = false := by cases ng with
      | false => rfl
      | true => exact absurd hngf (by decide)
    subst hngg
    have hs : s = ⟨#[]⟩ := by
      rcases hnil with h | h
      · exact absurd (by rw [h]; rfl) htx
      · exact h
    subst hs
    refine key _ ?_ (may1_5 num w)
    unfold mayOB; rw [if_neg hhead]; rfl
end Go.Proofs.YtjgdkiikkgdbaaaGreatDoor
