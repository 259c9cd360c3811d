/- The reference's token at a byte: one. -/
import Derived.Test.YtjgdkiikkgdbaaaGreatDoorQ55
namespace Go.Proofs.YtjgdkiikkgdbaaaGreatDoor
open Go.RowKit
set_option linter.unusedVariables false
def oneG (t : List UInt8) : Got :=
  match (if t.getD 0 0 = 39 then (segOf t (lgN t).1).findIdx? badB else none) with
  | some i => .err 10 i
  | none => if (lgN t).1 = 0 then .err (if t.getD 0 0 = 39 then 2 else 11) 0
    else if (lgN t).2 = 2 then (if 1 < (lgN t).1 ∧ t.getD 0 0 = 48 then .err 1 0 else if numOk (t.take (lgN t).1) = true then .tok 2 (t.take (lgN t).1) (nval (t.take (lgN t).1)) (lgN t).1 else .err 7 0)
    else if (lgN t).2 = 3 then .tok 3 ((quoD (t.take (lgN t).1)).getD []) 0 (lgN t).1
    else if (lgN t).2 = 4 then .tok 4 (t.take (lgN t).1) ((t.getD 1 0).toNat - 48) (lgN t).1
    else .tok (lgN t).2 (t.take (lgN t).1) 0 (lgN t).1
/-- what the reference's longest beginning is, as far as one asks -/
structure LgOk (t : List UInt8) : Prop where
  le : (lgN t).1 ≤ t.length
  d2 : (lgN t).2 = 2 → (t.take (lgN t).1).all dig = true
  d4 : (lgN t).2 = 4 → (lgN t).1 = 2 ∧ dig (t.getD 1 0) = true
  q3 : t.getD 0 0 = 39 → (lgN t).1 = 0 ∨ (lgN t).2 = 3
  n3 : t.getD 0 0 ≠ 39 → (lgN t).2 ≠ 3
def OneTo (w : World) (j : Nat) (g : Got) (x : Ending) (w' : World) : Prop := (match g with
  | .err e a => ∃ (K : Int) (T : ByteArray) (N A : Int), x = .returned (.tuple #[.agg #[.int .i64 K, .string T, .int .u64 N, .int .i64 A], .int .i64 0, .agg #[.int .i64 (e : Nat), .int .i64 ((j + a : Nat) : Int)]])
  | .tok k t n len => x = .returned (.tuple #[.agg #[.int .i64 (k : Nat), .string (bs t), .int .u64 (n : Nat), .int .i64 (j : Nat)], .int .i64 (len : Nat), .agg #[.int .i64 0, .int .i64 0]])) ∧ Below w.heap.size w w'
structure OSt (w wx : World) : Prop where
  tk : wx.heap[w.heap.size]? = some zeroTk
  fl : wx.heap[w.heap.size + 1]? = some (fltO 0 0)
  be : Below w.heap.size w wx
theorem OSt.start (w : World) : OSt w ((w.alloc zeroTk).alloc (fltO 0 0)) := by
  have e1 : (w.alloc zeroTk).heap.size = w.heap.size + 1 := by simp
  have h1 := alloc_at w zeroTk
  have h2 := alloc_at (w.alloc zeroTk) (fltO 0 0)
  rw [e1] at h2
  exact ⟨alloc_old h1, h2, ((Below.refl w.heap.size w).alloc (Nat.le_refl _) _).alloc (by omega) _⟩
theorem OSt.step {w wx wy : World} (h : OSt w wx) (hb : Below wx.heap.size wx wy) : OSt w wy :=
  ⟨rowKeep hb h.tk, rowKeep hb h.fl, onBelow h.be (Nat.le_refl _) hb⟩
/-- the call's end: both results' boxes -/
structure OEnd (w V : World) (k : Int) (t : ByteArray) (n a E A : Int) : Prop where
  tk : V.heap[w.heap.size]? = some (.cells #[.int .i64 k, .string t, .int .u64 n, .int .i64 a] 67)
  fl : V.heap[w.heap.size + 1]? = some (fltO E A)
  be : Below w.heap.size w V
theorem OSt.out {w W : World} (h : OSt w W) (k : Int) (t : ByteArray) (n a E A : Int) :
    OEnd w ((((((W.setCell ⟨w.heap.size, 0, none⟩ (.int .i64 k)).setCell ⟨w.heap.size, 1, none⟩ (.string t)).setCell ⟨w.heap.size, 2, none⟩ (.int .u64 n)).setCell ⟨w.heap.size, 3, none⟩ (.int .i64 a)).setCell ⟨w.heap.size + 1, 0, none⟩ (.int .i64 E)).setCell ⟨w.heap.size + 1, 1, none⟩ (.int .i64 A)) k t n a E A := by
  have ne : w.heap.size + 1 ≠ w.heap.size := by omega
  have ne2 : w.heap.size ≠ w.heap.size + 1 := by omega
  have a0 := set_at (j := 0) (u := .int .i64 k) h.tk
  have a1 := set_at (j := 1) (u := .string t) a0
  have a2 := set_at (j := 2) (u := .int .u64 n) a1
  have a3 := set_at (j := 3) (u := .int .i64 a) a2
  have b0 := (set_other (u := .int .i64 a) (p := ⟨w.heap.size, 3, none⟩) ne).trans ((set_other (u := .int .u64 n) (p := ⟨w.heap.size, 2, none⟩) ne).trans ((set_other (u := .string t) (p := ⟨w.heap.size, 1, none⟩) ne).trans ((set_other (u := .int .i64 k) (p := ⟨w.heap.size, 0, none⟩) ne).trans h.fl)))
  have b1 := set_at (j := 0) (u := .int .i64 E) b0
  have b2 := set_at (j := 1) (u := .int .i64 A) b1
  exact ⟨(set_other ne2).trans ((set_other ne2).trans a3), b2, (((((h.be.setCell (Nat.le_refl _) _).setCell (Nat.le_refl _) _).setCell (Nat.le_refl _) _).setCell (Nat.le_refl _) _).setCell (show w.heap.size ≤ w.heap.size + 1 by omega) _).setCell (show w.heap.size ≤ w.heap.size + 1 by omega) _⟩
theorem OSt.fl2 {w W : World} (h : OSt w W) (cs : Array Value) : (W.setRow w.heap.size cs).heap[w.heap.size + 1]? = some (fltO 0 0) := (setRow_other W w.heap.size (w.heap.size + 1) cs (by omega)).trans h.fl
theorem OSt.rows {w W : World} (h : OSt w W) (k : Int) (t : ByteArray) (n a E A : Int) :
    OEnd w ((W.setRow w.heap.size #[.int .i64 k, .string t, .int .u64 n, .int .i64 a]).setRow (w.heap.size + 1) #[.int .i64 E, .int .i64 A]) k t n a E A := by
  have h1 := setRow_heap W w.heap.size _ #[.int .i64 k, .string t, .int .u64 n, .int .i64 a] _ _ h.tk
  have h2 := setRow_heap (W.setRow w.heap.size #[.int .i64 k, .string t, .int .u64 n, .int .i64 a]) (w.heap.size + 1) _ #[.int .i64 E, .int .i64 A] _ _ (h.fl2 _)
  exact ⟨(setRow_other _ (w.heap.size + 1) w.heap.size _ (by omega)).trans h1, h2, below_setRow (below_setRow h.be (Nat.le_refl _) _) (by omega) _⟩
theorem end16 {w V : World} {Q : Ending → World → Prop} {act : Act} (k : Int) (t : ByteArray) (n a E A len : Int) (hd : act.defers = []) (h4 : act.tmps.getD 4 undef = .pointer (some ⟨w.heap.size, 0, none⟩)) (h5 : act.tmps.getD 5 undef = .int .i64 len) (h6 : act.tmps.getD 6 undef = .pointer (some ⟨w.heap.size + 1, 0, none⟩))
    (hr : OEnd w V k t n a E A) (hQ : Q (.returned (.tuple #[.agg #[.int .i64 k, .string t, .int .u64 n, .int .i64 a], .int .i64 len, .agg #[.int .i64 E, .int .i64 A]])) V) : bodyPost Tryz.prog Tryz.f55 Q Exit.ret act V := by
  refine bodyPost_ret (v := .tuple #[.agg #[.int .i64 k, .string t, .int .u64 n, .int .i64 a], .int .i64 len, .agg #[.int .i64 E, .int .i64 A]]) ?_ hd hQ
  have hl1 := run_loadVar_row (P := Tryz.prog) V w.heap.size _ 67 _ _ _ hr.tk Tryz.underlying67 rfl (by kernel_rfl)
  have hl2 := run_loadVar_row (P := Tryz.prog) V (w.heap.size + 1) _ 38 _ _ _ hr.fl Tryz.underlying38 rfl (by kernel_rfl)
  rw [Array.getD_eq_getD_getElem?] at h4 h5 h6
  simp [results, Tryz.results55, asAddr, hl1, hl2, h4, h5, h6]
set_option maxRecDepth 100000 in
set_option maxHeartbeats 8000000 in
theorem one_any (l : List UInt8) (j : Nat) (hj : j < l.length) (hl : l.length ≤ 1000) (hk : LgOk (l.drop j)) (w : World) : Calls Tryz.prog 55 #[.string (bs l), .int .i64 (j : Nat)] w (OneTo w j (oneG (l.drop j))) := by
  have hne : l.drop j ≠ [] := by intro h; rw [List.drop_eq_nil_iff] at h; omega
  have HLG := Lib.hid (fun wx => longest_any (l.drop j) hne (by rw [List.length_drop]; omega) wx)
  have HOD := Lib.hid (fun wx => odd_any l j hj hl hk.le wx)
  have HBD := Lib.hid (fun wx => bad_any l j hj hl wx)
  have HQU := Lib.hid (fun wx => refQuoted_any ((l.drop j).take (lgN (l.drop j)).1) (by rw [List.length_take, List.length_drop]; omega) wx)
  have HNU := Lib.hid (fun (h : (lgN (l.drop j)).2 = 2) wx => num_any ((l.drop j).take (lgN (l.drop j)).1) (by rw [List.length_take, List.length_drop]; omega) (hk.d2 h) wx)
  have hsl := sl_from l j (by omega)
  have hle := hk.le
  rw [List.length_drop] at hle
  have HSM := Lib.hid (fun (n : Nat) (h : n ≤ l.length - j) => show ∀ wx, (Instr.slice 9 (.string (bs l)) (some (.int .i64 (j : Int))) (some (.int .i64 ((j : Int) + (n : Int)))) none).run Tryz.prog wx = .ok (.string (bs ((l.drop j).take n))) wx from fun wx => by
    have h2 := sl_mid l j (j + n) (by omega) (by omega) wx
    rw [Nat.add_sub_cancel_left] at h2
    exact h2)
  have hx0 : l.getD j 0 = (l.drop j).getD 0 0 := (getD_drop l j 0).symm
  have hgx : ∀ h : j < (bs l).size, (bs l)[j]'h = (l.drop j).getD 0 0 := fun h => (bs_get l j h hj).trans ((getD_get l j hj).symm.trans hx0)
  rw [hx0] at HBD
  have hsz : (bs l).size = l.length := bs_size l
  have hml : (bs l).size ≤ maxLen := by show (bs l).size ≤ 9223372036854775807; omega
  have HS0 := Lib.hid (OSt.start w)
  have hg : oneG (l.drop j) = oneG (l.drop j) := rfl
  have htlen : (l.drop j).length = l.length - j := List.length_drop
  obtain ⟨t, ht⟩ : ∃ t, l.drop j = t := ⟨_, rfl⟩
  rw [ht] at htlen HLG HOD HBD HQU HNU hsl hle hk HSM hgx ⊢
  obtain ⟨G, hG⟩ : ∃ G, oneG t = G := ⟨_, rfl⟩
  rw [hG]
  obtain ⟨d2, d4, q3, n3⟩ : ((lgN t).2 = 2 → (t.take (lgN t).1).all dig = true) ∧ ((lgN t).2 = 4 → (lgN t).1 = 2 ∧ dig (t.getD 1 0) = true) ∧ (t.getD 0 0 = 39 → (lgN t).1 = 0 ∨ (lgN t).2 = 3) ∧ (t.getD 0 0 ≠ 39 → (lgN t).2 ≠ 3) := ⟨hk.d2, hk.d4, hk.q3, hk.n3⟩
  have HG := Lib.hid hG
  have HD1 := Lib.hid (getD_take t)
  obtain ⟨x, hx⟩ : ∃ x, t.getD 0 0 = x := ⟨_, rfl⟩
  rw [hx] at HBD hgx q3 n3
  have HX := Lib.hid hx
  obtain ⟨n, hn⟩ : ∃ n, (lgN t).1 = n := ⟨_, rfl⟩
  obtain ⟨k, hk2⟩ : ∃ k, (lgN t).2 = k := ⟨_, rfl⟩
  rw [hn, hk2] at HLG
  rw [hn] at HOD HQU HNU hle d2 d4 q3
  rw [hk2] at HNU d2 d4 q3 n3
  have HN := Lib.hid hn
  have HK := Lib.hid hk2
  have hsm := HSM.out n hle
  obtain ⟨m, hm⟩ : ∃ m, t.take n = m := ⟨_, rfl⟩
  rw [hm] at HQU HNU hsm d2
  have HM := Lib.hid hm
  obtain ⟨s, hs⟩ : ∃ s, bs l = s := ⟨_, rfl⟩
  rw [hs] at HOD HBD hsl hgx hsz hml hsm ⊢
  have hjs : j < s.size := by omega
  have hgj := hgx hjs
  obtain ⟨o, ho⟩ : ∃ o, (segOf t n).findIdx? badB = o := ⟨_, rfl⟩
  rw [ho] at HOD
  have HO := Lib.hid ho
  obtain ⟨X, hX⟩ : ∃ X, bs t = X := ⟨_, rfl⟩
  rw [hX] at hsl HLG
  obtain ⟨Y, hY⟩ : ∃ Y, bs m = Y := ⟨_, rfl⟩
  have HY := Lib.hid hY
  have hml2 : m.length ≤ 1000 := by rw [← hm, List.length_take]; omega
  have hysz : Y.size = m.length := by rw [← hY]; exact bs_size m
  have hym : Y.size ≤ maxLen := by show Y.size ≤ 9223372036854775807; omega
  have HYG := Lib.hid (show ∀ i (h : i < Y.size) (h' : i < m.length), Y[i]'h = m[i]'h' by subst hY; exact bs_get m)
  rw [hY] at hsm HQU HNU
  have HTL := Lib.hid htlen
  have hnl : n ≤ 1000 := by omega
  have hcx : x.toNat < 256 := UInt8.toNat_lt x
  clear htlen hg hG hx hn hk2 hm hs ho hX hY hgx ht hx0 hne HSM hk HD1
  by_cases h39 : x = 39
  · have hxi := u8_39 h39
    rcases hcase : o with _ | i
    · rw [hcase] at HOD HO
      have hodv : oddV j none = -1 := rfl
      rw [hodv] at HOD
      rcases q3 h39 with h0 | h3
      · have HE := Lib.hid (show G = .err 2 0 by rw [← HG.out]; unfold oneG; rw [HX.out, HN.out, if_pos h39, HO.out]; dsimp only; rw [if_pos h0, if_pos h39])
        rw [if_pos h39] at HBD
        clear q3 n3 d2 d4 h39 hcase HNU HQU HG HX HN HK HM HO hsm
        subst h0
        go_enter Tryz.func55, Tryz.ntmps55
        go_wp2_with (first
          | (go_at_call 74; refine (HOD.out _).mono ?_; rintro e w1 ⟨rfl, hb1⟩; have HS1 := Lib.hid (HS0.out.step hb1); clear hb1)
          | (go_at_call 75; refine (HLG.out _).mono ?_; rintro e w2 ⟨rfl, hb2⟩; have HS1b := Lib.hid (HS1.out.step hb2); clear hb2)
          | (go_at_call 76; refine (HBD.out _).mono ?_; rintro e w3 ⟨rfl, hb3⟩; have HS2 := Lib.hid (HS1b.out.step hb3); obtain ⟨t0, g0, t1, g1, t2, g2, t3, g3⟩ := bf4 (HS2.out.tk); have l0 : w3.cell? ⟨w.heap.size + 1, 0, none⟩ = some (.int .i64 0) := cell_at (HS2.out.fl) rfl; have m0 := free_at (j := 0) (HS2.out.fl); have l1 : w3.cell? ⟨w.heap.size + 1, 1, none⟩ = some (.int .i64 0) := cell_at (HS2.out.fl) rfl; have m1 := free_at (j := 1) (HS2.out.fl); have p0 : w.heap.size < w3.heap.size := lt_of_block HS2.out.tk; have p1 : w.heap.size + 1 < w3.heap.size := lt_of_block HS2.out.fl; have p2 : ¬ w.heap.size = w3.heap.size := (by omega); have p3 : ¬ w.heap.size + 1 = w3.heap.size := (by omega); clear hb3))
        have HEND := Lib.hid (HS2.out.out (0) ⟨#[]⟩ (0) (0) (2) ((j : Int)))
        refine end16 (w := w) (0) ⟨#[]⟩ (0) (0) (2) ((j : Int)) (0) rfl rfl rfl rfl (HEND.out) ?_
        rw [HE.out]; exact ⟨⟨_, _, _, _, rfl⟩, (HEND.out).be⟩
      · by_cases h0 : n = 0
        · have HE := Lib.hid (show G = .err 2 0 by rw [← HG.out]; unfold oneG; rw [HX.out, HN.out, if_pos h39, HO.out]; dsimp only; rw [if_pos h0, if_pos h39])
          rw [if_pos h39] at HBD
          clear q3 n3 d2 d4 h39 hcase HNU HQU HG HX HN HK HM HO hsm h3
          subst h0
          go_enter Tryz.func55, Tryz.ntmps55
          go_wp2_with (first
            | (go_at_call 74; refine (HOD.out _).mono ?_; rintro e w1 ⟨rfl, hb1⟩; have HS1 := Lib.hid (HS0.out.step hb1); clear hb1)
            | (go_at_call 75; refine (HLG.out _).mono ?_; rintro e w2 ⟨rfl, hb2⟩; have HS1b := Lib.hid (HS1.out.step hb2); clear hb2)
            | (go_at_call 76; refine (HBD.out _).mono ?_; rintro e w3 ⟨rfl, hb3⟩; have HS2 := Lib.hid (HS1b.out.step hb3); obtain ⟨t0, g0, t1, g1, t2, g2, t3, g3⟩ := bf4 (HS2.out.tk); have l0 : w3.cell? ⟨w.heap.size + 1, 0, none⟩ = some (.int .i64 0) := cell_at (HS2.out.fl) rfl; have m0 := free_at (j := 0) (HS2.out.fl); have l1 : w3.cell? ⟨w.heap.size + 1, 1, none⟩ = some (.int .i64 0) := cell_at (HS2.out.fl) rfl; have m1 := free_at (j := 1) (HS2.out.fl); have p0 : w.heap.size < w3.heap.size := lt_of_block HS2.out.tk; have p1 : w.heap.size + 1 < w3.heap.size := lt_of_block HS2.out.fl; have p2 : ¬ w.heap.size = w3.heap.size := (by omega); have p3 : ¬ w.heap.size + 1 = w3.heap.size := (by omega); clear hb3))
          have HEND := Lib.hid (HS2.out.out (0) ⟨#[]⟩ (0) (0) (2) ((j : Int)))
          refine end16 (w := w) (0) ⟨#[]⟩ (0) (0) (2) ((j : Int)) (0) rfl rfl rfl rfl (HEND.out) ?_
          rw [HE.out]; exact ⟨⟨_, _, _, _, rfl⟩, (HEND.out).be⟩
        · have hn0 : ((n : Int) == 0) = false := beq_eq_false_iff_ne.2 (by omega)
          obtain ⟨q, hq⟩ : ∃ q, quoD m = q := ⟨_, rfl⟩
          rw [hq] at HQU
          have HE := Lib.hid (show G = .tok 3 (q.getD []) 0 n by rw [← HG.out]; unfold oneG; rw [HX.out, HN.out, HK.out, if_pos h39, HO.out, HM.out, hq]; dsimp only; rw [if_neg h0, if_neg (by omega), if_pos h3])
          subst h3
          clear q3 n3 d2 d4 h39 hcase HNU HG HX HN HK HM HO h0 hq
          cases q with
          | none =>
            have HQU2 := Lib.hid (show ∀ wx, Calls Tryz.prog 78 #[.string Y] wx fun e w' => e = .returned (.tuple #[.string ⟨#[]⟩, .bool false]) ∧ wx = w' from HQU.out)
            go_enter Tryz.func55, Tryz.ntmps55
            go_upto_region 21 with (first
              | (go_at_call 74; refine (HOD.out _).mono ?_; rintro e w1 ⟨rfl, hb1⟩; have HS1 := Lib.hid (HS0.out.step hb1); clear hb1)
              | (go_at_call 75; refine (HLG.out _).mono ?_; rintro e w2 ⟨rfl, hb2⟩; have HS2 := Lib.hid (HS1.out.step hb2); obtain ⟨t0, g0, t1, g1, t2, g2, t3, g3⟩ := bf4 (HS2.out.tk); have l0 : w2.cell? ⟨w.heap.size + 1, 0, none⟩ = some (.int .i64 0) := cell_at (HS2.out.fl) rfl; have m0 := free_at (j := 0) (HS2.out.fl); have l1 : w2.cell? ⟨w.heap.size + 1, 1, none⟩ = some (.int .i64 0) := cell_at (HS2.out.fl) rfl; have m1 := free_at (j := 1) (HS2.out.fl); have p0 : w.heap.size < w2.heap.size := lt_of_block HS2.out.tk; have p1 : w.heap.size + 1 < w2.heap.size := lt_of_block HS2.out.fl; have p2 : ¬ w.heap.size = w2.heap.size := (by omega); have p3 : ¬ w.heap.size + 1 = w2.heap.size := (by omega); clear hb2)
              | (go_at_call 78; refine (HQU2.out _).mono ?_; rintro e w5 ⟨rfl, rfl⟩))
            have HW := Lib.hid (HS2.out.step ((Below.refl w2.heap.size w2).alloc (Nat.le_refl _) (.cells #[.int .i64 (3), .string ⟨#[]⟩, .int .u64 (0), .int .i64 ((j : Int))] 67)))
            have HT := Lib.hid (alloc_at w2 (.cells #[.int .i64 (3), .string ⟨#[]⟩, .int .u64 (0), .int .i64 ((j : Int))] 67))
            clear t0 g0 t1 g1 t2 g2 t3 g3 l0 l1 m0 m1 p0 p1 p2 p3
            obtain ⟨b0, hb0⟩ : ∃ b0, w2.heap.size = b0 := ⟨_, rfl⟩
            rw [hb0] at HT
            try simp only [hb0]
            generalize w2.alloc (.cells #[.int .i64 (3), .string ⟨#[]⟩, .int .u64 (0), .int .i64 ((j : Int))] 67) = W at HW HT ⊢
            obtain ⟨d0, d1, d2, d3⟩ := bx4 HT.out
            have HF2 := Lib.hid (HW.out.fl2 #[.int .i64 (3), .string ⟨#[]⟩, .int .u64 (0), .int .i64 ((j : Int))])
            go_wp2_with (first
              | (refine wpList_store_rowTo rfl 67 _ _ rfl rfl w.heap.size #[.int .i64 (3), .string ⟨#[]⟩, .int .u64 (0), .int .i64 ((j : Int))] rfl rfl _ _ HW.out.tk (by kernel_rfl) (by kernel_rfl) (by kernel_rfl) ?_)
              | (refine wpList_store_rowTo rfl 38 _ _ rfl rfl (w.heap.size + 1) #[.int .i64 (0), .int .i64 (0)] rfl rfl _ _ HF2.out (by kernel_rfl) (by kernel_rfl) (by kernel_rfl) ?_))
            have HEND := Lib.hid (HW.out.rows (3) ⟨#[]⟩ (0) ((j : Int)) (0) (0))
            refine end16 (w := w) (3) ⟨#[]⟩ (0) ((j : Int)) (0) (0) ((n : Int)) rfl rfl rfl rfl (HEND.out) ?_
            rw [HE.out]; exact ⟨rfl, (HEND.out).be⟩
          | some q =>
            have HQU2 := Lib.hid (show ∀ wx, Calls Tryz.prog 78 #[.string Y] wx fun e w' => e = .returned (.tuple #[.string (bs q), .bool true]) ∧ wx = w' from HQU.out)
            go_enter Tryz.func55, Tryz.ntmps55
            go_upto_region 21 with (first
              | (go_at_call 74; refine (HOD.out _).mono ?_; rintro e w1 ⟨rfl, hb1⟩; have HS1 := Lib.hid (HS0.out.step hb1); clear hb1)
              | (go_at_call 75; refine (HLG.out _).mono ?_; rintro e w2 ⟨rfl, hb2⟩; have HS2 := Lib.hid (HS1.out.step hb2); obtain ⟨t0, g0, t1, g1, t2, g2, t3, g3⟩ := bf4 (HS2.out.tk); have l0 : w2.cell? ⟨w.heap.size + 1, 0, none⟩ = some (.int .i64 0) := cell_at (HS2.out.fl) rfl; have m0 := free_at (j := 0) (HS2.out.fl); have l1 : w2.cell? ⟨w.heap.size + 1, 1, none⟩ = some (.int .i64 0) := cell_at (HS2.out.fl) rfl; have m1 := free_at (j := 1) (HS2.out.fl); have p0 : w.heap.size < w2.heap.size := lt_of_block HS2.out.tk; have p1 : w.heap.size + 1 < w2.heap.size := lt_of_block HS2.out.fl; have p2 : ¬ w.heap.size = w2.heap.size := (by omega); have p3 : ¬ w.heap.size + 1 = w2.heap.size := (by omega); clear hb2)
              | (go_at_call 78; refine (HQU2.out _).mono ?_; rintro e w5 ⟨rfl, rfl⟩))
            have HW := Lib.hid (HS2.out.step ((Below.refl w2.heap.size w2).alloc (Nat.le_refl _) (.cells #[.int .i64 (3), .string (bs q), .int .u64 (0), .int .i64 ((j : Int))] 67)))
            have HT := Lib.hid (alloc_at w2 (.cells #[.int .i64 (3), .string (bs q), .int .u64 (0), .int .i64 ((j : Int))] 67))
            clear t0 g0 t1 g1 t2 g2 t3 g3 l0 l1 m0 m1 p0 p1 p2 p3
            obtain ⟨b0, hb0⟩ : ∃ b0, w2.heap.size = b0 := ⟨_, rfl⟩
            rw [hb0] at HT
            try simp only [hb0]
            generalize w2.alloc (.cells #[.int .i64 (3), .string (bs q), .int .u64 (0), .int .i64 ((j : Int))] 67) = W at HW HT ⊢
            obtain ⟨d0, d1, d2, d3⟩ := bx4 HT.out
            have HF2 := Lib.hid (HW.out.fl2 #[.int .i64 (3), .string (bs q), .int .u64 (0), .int .i64 ((j : Int))])
            go_wp2_with (first
              | (refine wpList_store_rowTo rfl 67 _ _ rfl rfl w.heap.size #[.int .i64 (3), .string (bs q), .int .u64 (0), .int .i64 ((j : Int))] rfl rfl _ _ HW.out.tk (by kernel_rfl) (by kernel_rfl) (by kernel_rfl) ?_)
              | (refine wpList_store_rowTo rfl 38 _ _ rfl rfl (w.heap.size + 1) #[.int .i64 (0), .int .i64 (0)] rfl rfl _ _ HF2.out (by kernel_rfl) (by kernel_rfl) (by kernel_rfl) ?_))
            have HEND := Lib.hid (HW.out.rows (3) (bs q) (0) ((j : Int)) (0) (0))
            refine end16 (w := w) (3) (bs q) (0) ((j : Int)) (0) (0) ((n : Int)) rfl rfl rfl rfl (HEND.out) ?_
            rw [HE.out]; exact ⟨rfl, (HEND.out).be⟩
    · rw [hcase] at HOD HO
      have HE := Lib.hid (show G = .err 10 i by rw [← HG.out]; unfold oneG; rw [HX.out, HN.out, if_pos h39, HO.out])
      have hodv : oddV j (some i) = ((j + i : Nat) : Int) := rfl
      rw [hodv] at HOD
      obtain ⟨A, hA⟩ : ∃ A, j + i = A := ⟨_, rfl⟩
      rw [hA] at HOD
      have HA := Lib.hid hA
      clear q3 n3 d2 d4 h39 hcase HNU HQU HG HX HN HK HM HO hsm hodv hA
      go_enter Tryz.func55, Tryz.ntmps55
      go_wp2_with (first
        | (go_at_call 74; refine (HOD.out _).mono ?_; rintro e w1 ⟨rfl, hb1⟩; have HS2 := Lib.hid (HS0.out.step hb1); obtain ⟨t0, g0, t1, g1, t2, g2, t3, g3⟩ := bf4 (HS2.out.tk); have l0 : w1.cell? ⟨w.heap.size + 1, 0, none⟩ = some (.int .i64 0) := cell_at (HS2.out.fl) rfl; have m0 := free_at (j := 0) (HS2.out.fl); have l1 : w1.cell? ⟨w.heap.size + 1, 1, none⟩ = some (.int .i64 0) := cell_at (HS2.out.fl) rfl; have m1 := free_at (j := 1) (HS2.out.fl); have p0 : w.heap.size < w1.heap.size := lt_of_block HS2.out.tk; have p1 : w.heap.size + 1 < w1.heap.size := lt_of_block HS2.out.fl; have p2 : ¬ w.heap.size = w1.heap.size := (by omega); have p3 : ¬ w.heap.size + 1 = w1.heap.size := (by omega); clear hb1))
      have HEND := Lib.hid (HS2.out.out (0) ⟨#[]⟩ (0) (0) (10) ((A : Int)))
      refine end16 (w := w) (0) ⟨#[]⟩ (0) (0) (10) ((A : Int)) (0) rfl rfl rfl rfl (HEND.out) ?_
      rw [HE.out, ← HA.out]; exact ⟨⟨_, _, _, _, rfl⟩, (HA.out ▸ HEND.out).be⟩
  · have hxi := u8_n39 h39
    have hk3 := n3 h39
    by_cases h0 : n = 0
    · have HE := Lib.hid (show G = .err 11 0 by rw [← HG.out]; unfold oneG; rw [HX.out, HN.out, if_neg h39]; dsimp only; rw [if_pos h0, if_neg h39])
      rw [if_neg h39] at HBD
      subst h0
      clear q3 n3 d2 d4 h39 HNU HQU HG HX HN HK HM HO hsm hk3
      go_enter Tryz.func55, Tryz.ntmps55
      go_wp2_with (first
        | (go_at_call 75; refine (HLG.out _).mono ?_; rintro e w2 ⟨rfl, hb2⟩; have HS1b := Lib.hid (HS0.out.step hb2); clear hb2)
        | (go_at_call 76; refine (HBD.out _).mono ?_; rintro e w3 ⟨rfl, hb3⟩; have HS2 := Lib.hid (HS1b.out.step hb3); obtain ⟨t0, g0, t1, g1, t2, g2, t3, g3⟩ := bf4 (HS2.out.tk); have l0 : w3.cell? ⟨w.heap.size + 1, 0, none⟩ = some (.int .i64 0) := cell_at (HS2.out.fl) rfl; have m0 := free_at (j := 0) (HS2.out.fl); have l1 : w3.cell? ⟨w.heap.size + 1, 1, none⟩ = some (.int .i64 0) := cell_at (HS2.out.fl) rfl; have m1 := free_at (j := 1) (HS2.out.fl); have p0 : w.heap.size < w3.heap.size := lt_of_block HS2.out.tk; have p1 : w.heap.size + 1 < w3.heap.size := lt_of_block HS2.out.fl; have p2 : ¬ w.heap.size = w3.heap.size := (by omega); have p3 : ¬ w.heap.size + 1 = w3.heap.size := (by omega); clear hb3))
      have HEND := Lib.hid (HS2.out.out (0) ⟨#[]⟩ (0) (0) (11) ((j : Int)))
      refine end16 (w := w) (0) ⟨#[]⟩ (0) (0) (11) ((j : Int)) (0) rfl rfl rfl rfl (HEND.out) ?_
      rw [HE.out]; exact ⟨⟨_, _, _, _, rfl⟩, (HEND.out).be⟩
    · have hn0 : ((n : Int) == 0) = false := beq_eq_false_iff_ne.2 (by omega)
      have hone : G = if k = 2 then (if 1 < n ∧ x = 48 then .err 1 0 else if numOk m = true then .tok 2 m (nval m) n else .err 7 0) else if k = 4 then .tok 4 m ((t.getD 1 0).toNat - 48) n else .tok k m 0 n := by
        rw [← HG.out]; unfold oneG; rw [HX.out, HN.out, HK.out, HM.out, if_neg h39]; dsimp only; rw [if_neg h0, if_neg hk3]
      by_cases h2 : k = 2
      · rw [if_pos h2] at hone
        have hnu := HNU.out h2
        subst h2
        by_cases h48 : 1 < n ∧ x = 48
        · have HE := Lib.hid (hone.trans (if_pos h48))
          have hni : (1 : Int) < (n : Int) := by omega
          have hx48 : ((x.toNat : Int) == 48) = true := by rw [h48.2]; rfl
          clear q3 n3 d2 d4 h39 HNU HQU HG HX HN HK HM HO hk3 hone hnu h48
          go_enter Tryz.func55, Tryz.ntmps55
          go_upto_region 12 with (first
            | (go_at_call 75; refine (HLG.out _).mono ?_; rintro e w2 ⟨rfl, hb2⟩; have HS2 := Lib.hid (HS0.out.step hb2); obtain ⟨t0, g0, t1, g1, t2, g2, t3, g3⟩ := bf4 (HS2.out.tk); have l0 : w2.cell? ⟨w.heap.size + 1, 0, none⟩ = some (.int .i64 0) := cell_at (HS2.out.fl) rfl; have m0 := free_at (j := 0) (HS2.out.fl); have l1 : w2.cell? ⟨w.heap.size + 1, 1, none⟩ = some (.int .i64 0) := cell_at (HS2.out.fl) rfl; have m1 := free_at (j := 1) (HS2.out.fl); have p0 : w.heap.size < w2.heap.size := lt_of_block HS2.out.tk; have p1 : w.heap.size + 1 < w2.heap.size := lt_of_block HS2.out.fl; have p2 : ¬ w.heap.size = w2.heap.size := (by omega); have p3 : ¬ w.heap.size + 1 = w2.heap.size := (by omega); clear hb2))
          have HW := Lib.hid (HS2.out.step ((Below.refl w2.heap.size w2).alloc (Nat.le_refl _) (.cells #[.int .i64 (2), .string Y, .int .u64 (0), .int .i64 ((j : Int))] 67)))
          have HT := Lib.hid (alloc_at w2 (.cells #[.int .i64 (2), .string Y, .int .u64 (0), .int .i64 ((j : Int))] 67))
          clear t0 g0 t1 g1 t2 g2 t3 g3 l0 l1 m0 m1 p0 p1 p2 p3
          obtain ⟨b0, hb0⟩ : ∃ b0, w2.heap.size = b0 := ⟨_, rfl⟩
          rw [hb0] at HT
          try simp only [hb0]
          generalize w2.alloc (.cells #[.int .i64 (2), .string Y, .int .u64 (0), .int .i64 ((j : Int))] 67) = W at HW HT ⊢
          obtain ⟨d0, d1, d2, d3⟩ := bx4 HT.out
          have HF2 := Lib.hid (HW.out.fl2 #[.int .i64 (2), .string Y, .int .u64 (0), .int .i64 ((j : Int))])
          go_wp2_with (first
            | (refine wpList_store_rowTo rfl 67 _ _ rfl rfl w.heap.size #[.int .i64 (2), .string Y, .int .u64 (0), .int .i64 ((j : Int))] rfl rfl _ _ HW.out.tk (by kernel_rfl) (by kernel_rfl) (by kernel_rfl) ?_)
            | (refine wpList_store_rowTo rfl 38 _ _ rfl rfl (w.heap.size + 1) #[.int .i64 (1), .int .i64 ((j : Int))] rfl rfl _ _ HF2.out (by kernel_rfl) (by kernel_rfl) (by kernel_rfl) ?_))
          have HEND := Lib.hid (HW.out.rows (2) Y (0) ((j : Int)) (1) ((j : Int)))
          refine end16 (w := w) (2) Y (0) ((j : Int)) (1) ((j : Int)) (0) rfl rfl rfl rfl (HEND.out) ?_
          rw [HE.out]; exact ⟨⟨_, _, _, _, rfl⟩, (HEND.out).be⟩
        · rw [if_neg h48] at hone
          have hcs : ¬ (1 : Int) < (n : Int) ∨ ((1 : Int) < (n : Int) ∧ ((x.toNat : Int) == 48) = false) := by
            by_cases h1 : 1 < n
            · exact .inr ⟨by omega, beq_eq_false_iff_ne.2 (fun e => h48 ⟨h1, UInt8.toNat_inj.1 (by exact_mod_cast e)⟩)⟩
            · exact .inl (by omega)
          cases hok : numOk m with
          | true =>
            rw [hok, if_pos rfl] at hone
            rw [hok] at hnu
            have HNU2 := Lib.hid (show ∀ wx, Calls Tryz.prog 77 #[.string Y] wx fun e w' => e = .returned (.tuple #[.int .u64 (nval m : Nat), .bool true]) ∧ wx = w' from hnu)
            have HE := Lib.hid hone
            clear q3 n3 d2 d4 h39 HNU HQU HG HX HN HK HM HO hk3 hone hnu h48 hok
            obtain ⟨V, hV⟩ : ∃ V, nval m = V := ⟨_, rfl⟩
            rw [hV] at HNU2 HE
            clear hV
            rcases hcs with hni | ⟨hni, hx48⟩
            all_goals
              go_enter Tryz.func55, Tryz.ntmps55
              go_upto_region 21 with (first
                | (go_at_call 75; refine (HLG.out _).mono ?_; rintro e w2 ⟨rfl, hb2⟩; have HS2 := Lib.hid (HS0.out.step hb2); obtain ⟨t0, g0, t1, g1, t2, g2, t3, g3⟩ := bf4 (HS2.out.tk); have l0 : w2.cell? ⟨w.heap.size + 1, 0, none⟩ = some (.int .i64 0) := cell_at (HS2.out.fl) rfl; have m0 := free_at (j := 0) (HS2.out.fl); have l1 : w2.cell? ⟨w.heap.size + 1, 1, none⟩ = some (.int .i64 0) := cell_at (HS2.out.fl) rfl; have m1 := free_at (j := 1) (HS2.out.fl); have p0 : w.heap.size < w2.heap.size := lt_of_block HS2.out.tk; have p1 : w.heap.size + 1 < w2.heap.size := lt_of_block HS2.out.fl; have p2 : ¬ w.heap.size = w2.heap.size := (by omega); have p3 : ¬ w.heap.size + 1 = w2.heap.size := (by omega); clear hb2)
                | (go_at_call 77; refine (HNU2.out _).mono ?_; rintro e w4 ⟨rfl, rfl⟩))
              have HW := Lib.hid (HS2.out.step ((Below.refl w2.heap.size w2).alloc (Nat.le_refl _) (.cells #[.int .i64 (2), .string Y, .int .u64 ((V : Int)), .int .i64 ((j : Int))] 67)))
              have HT := Lib.hid (alloc_at w2 (.cells #[.int .i64 (2), .string Y, .int .u64 ((V : Int)), .int .i64 ((j : Int))] 67))
              clear t0 g0 t1 g1 t2 g2 t3 g3 l0 l1 m0 m1 p0 p1 p2 p3
              obtain ⟨b0, hb0⟩ : ∃ b0, w2.heap.size = b0 := ⟨_, rfl⟩
              rw [hb0] at HT
              try simp only [hb0]
              generalize w2.alloc (.cells #[.int .i64 (2), .string Y, .int .u64 ((V : Int)), .int .i64 ((j : Int))] 67) = W at HW HT ⊢
              obtain ⟨d0, d1, d2, d3⟩ := bx4 HT.out
              have HF2 := Lib.hid (HW.out.fl2 #[.int .i64 (2), .string Y, .int .u64 ((V : Int)), .int .i64 ((j : Int))])
              go_wp2_with (first
                | (refine wpList_store_rowTo rfl 67 _ _ rfl rfl w.heap.size #[.int .i64 (2), .string Y, .int .u64 ((V : Int)), .int .i64 ((j : Int))] rfl rfl _ _ HW.out.tk (by kernel_rfl) (by kernel_rfl) (by kernel_rfl) ?_)
                | (refine wpList_store_rowTo rfl 38 _ _ rfl rfl (w.heap.size + 1) #[.int .i64 (0), .int .i64 (0)] rfl rfl _ _ HF2.out (by kernel_rfl) (by kernel_rfl) (by kernel_rfl) ?_))
              have HEND := Lib.hid (HW.out.rows (2) Y ((V : Int)) ((j : Int)) (0) (0))
              refine end16 (w := w) (2) Y ((V : Int)) ((j : Int)) (0) (0) ((n : Int)) rfl rfl rfl rfl (HEND.out) ?_
              rw [HE.out]; exact ⟨by rw [← HY.out]; rfl, (HEND.out).be⟩
          | false =>
            rw [hok, if_neg (by decide)] at hone
            rw [hok] at hnu
            have HNU2 := Lib.hid (show ∀ wx, Calls Tryz.prog 77 #[.string Y] wx fun e w' => e = .returned (.tuple #[.int .u64 0, .bool false]) ∧ wx = w' from hnu)
            have HE := Lib.hid hone
            clear q3 n3 d2 d4 h39 HNU HQU HG HX HN HK HM HO hk3 hone hnu h48 hok
            rcases hcs with hni | ⟨hni, hx48⟩
            all_goals
              go_enter Tryz.func55, Tryz.ntmps55
              go_upto_region 15 with (first
                | (go_at_call 75; refine (HLG.out _).mono ?_; rintro e w2 ⟨rfl, hb2⟩; have HS2 := Lib.hid (HS0.out.step hb2); obtain ⟨t0, g0, t1, g1, t2, g2, t3, g3⟩ := bf4 (HS2.out.tk); have l0 : w2.cell? ⟨w.heap.size + 1, 0, none⟩ = some (.int .i64 0) := cell_at (HS2.out.fl) rfl; have m0 := free_at (j := 0) (HS2.out.fl); have l1 : w2.cell? ⟨w.heap.size + 1, 1, none⟩ = some (.int .i64 0) := cell_at (HS2.out.fl) rfl; have m1 := free_at (j := 1) (HS2.out.fl); have p0 : w.heap.size < w2.heap.size := lt_of_block HS2.out.tk; have p1 : w.heap.size + 1 < w2.heap.size := lt_of_block HS2.out.fl; have p2 : ¬ w.heap.size = w2.heap.size := (by omega); have p3 : ¬ w.heap.size + 1 = w2.heap.size := (by omega); clear hb2)
                | (go_at_call 77; refine (HNU2.out _).mono ?_; rintro e w4 ⟨rfl, rfl⟩))
              have HW := Lib.hid (HS2.out.step ((Below.refl w2.heap.size w2).alloc (Nat.le_refl _) (.cells #[.int .i64 (2), .string Y, .int .u64 (0), .int .i64 ((j : Int))] 67)))
              have HT := Lib.hid (alloc_at w2 (.cells #[.int .i64 (2), .string Y, .int .u64 (0), .int .i64 ((j : Int))] 67))
              clear t0 g0 t1 g1 t2 g2 t3 g3 l0 l1 m0 m1 p0 p1 p2 p3
              obtain ⟨b0, hb0⟩ : ∃ b0, w2.heap.size = b0 := ⟨_, rfl⟩
              rw [hb0] at HT
              try simp only [hb0]
              generalize w2.alloc (.cells #[.int .i64 (2), .string Y, .int .u64 (0), .int .i64 ((j : Int))] 67) = W at HW HT ⊢
              obtain ⟨d0, d1, d2, d3⟩ := bx4 HT.out
              have HF2 := Lib.hid (HW.out.fl2 #[.int .i64 (2), .string Y, .int .u64 (0), .int .i64 ((j : Int))])
              go_wp2_with (first
                | (refine wpList_store_rowTo rfl 67 _ _ rfl rfl w.heap.size #[.int .i64 (2), .string Y, .int .u64 (0), .int .i64 ((j : Int))] rfl rfl _ _ HW.out.tk (by kernel_rfl) (by kernel_rfl) (by kernel_rfl) ?_)
                | (refine wpList_store_rowTo rfl 38 _ _ rfl rfl (w.heap.size + 1) #[.int .i64 (7), .int .i64 ((j : Int))] rfl rfl _ _ HF2.out (by kernel_rfl) (by kernel_rfl) (by kernel_rfl) ?_))
              have HEND := Lib.hid (HW.out.rows (2) Y (0) ((j : Int)) (7) ((j : Int)))
              refine end16 (w := w) (2) Y (0) ((j : Int)) (7) ((j : Int)) (0) rfl rfl rfl rfl (HEND.out) ?_
              rw [HE.out]; exact ⟨⟨_, _, _, _, rfl⟩, (HEND.out).be⟩
      · rw [if_neg h2] at hone
        by_cases h4 : k = 4
        · rw [if_pos h4] at hone
          obtain ⟨hn2, hd⟩ := d4 h4
          have hlen : m.length = n := by rw [← HM.out, List.length_take, HTL.out]; omega
          have hlt1 : 1 < Y.size := by omega
          have hg1 := HYG.out 1 hlt1 (by omega)
          have hd1 : m[1]'(by omega) = t.getD 1 0 := by rw [← getD_get m 1 (by omega), ← HM.out]; exact getD_take t n 1 (by omega)
          obtain ⟨d, hdd⟩ : ∃ d, t.getD 1 0 = d := ⟨_, rfl⟩
          rw [hd1, hdd] at hg1
          rw [hdd] at hd hone
          have hd2 := dig_le hd
          have hd3 := UInt8.toNat_lt d
          have HE := Lib.hid hone
          have HNN := Lib.hid (show ((d.toNat - 48 : Nat) : Int) = (d.toNat : Int) - 48 by omega)
          have hu8 : IntKind.u8.wrap ((d.toNat : Int) - 48) = (d.toNat : Int) - 48 := by rw [IntKind.wrap_u8]; omega
          have hu64 : IntKind.u64.wrap ((d.toNat : Int) - 48) = (d.toNat : Int) - 48 := by rw [IntKind.wrap_u64]; omega
          subst h4
          clear q3 n3 d2 d4 h39 HNU HQU HG HX HN HK HM HO hk3 hone hd hd1 hdd hlen hn2
          go_enter Tryz.func55, Tryz.ntmps55
          go_upto_region 21 with (first
            | (go_at_call 75; refine (HLG.out _).mono ?_; rintro e w2 ⟨rfl, hb2⟩; have HS2 := Lib.hid (HS0.out.step hb2); obtain ⟨t0, g0, t1, g1, t2, g2, t3, g3⟩ := bf4 (HS2.out.tk); have l0 : w2.cell? ⟨w.heap.size + 1, 0, none⟩ = some (.int .i64 0) := cell_at (HS2.out.fl) rfl; have m0 := free_at (j := 0) (HS2.out.fl); have l1 : w2.cell? ⟨w.heap.size + 1, 1, none⟩ = some (.int .i64 0) := cell_at (HS2.out.fl) rfl; have m1 := free_at (j := 1) (HS2.out.fl); have p0 : w.heap.size < w2.heap.size := lt_of_block HS2.out.tk; have p1 : w.heap.size + 1 < w2.heap.size := lt_of_block HS2.out.fl; have p2 : ¬ w.heap.size = w2.heap.size := (by omega); have p3 : ¬ w.heap.size + 1 = w2.heap.size := (by omega); clear hb2))
          have HW := Lib.hid (HS2.out.step ((Below.refl w2.heap.size w2).alloc (Nat.le_refl _) (.cells #[.int .i64 (4), .string Y, .int .u64 ((d.toNat : Int) - 48), .int .i64 ((j : Int))] 67)))
          have HT := Lib.hid (alloc_at w2 (.cells #[.int .i64 (4), .string Y, .int .u64 ((d.toNat : Int) - 48), .int .i64 ((j : Int))] 67))
          clear t0 g0 t1 g1 t2 g2 t3 g3 l0 l1 m0 m1 p0 p1 p2 p3
          obtain ⟨b0, hb0⟩ : ∃ b0, w2.heap.size = b0 := ⟨_, rfl⟩
          rw [hb0] at HT
          try simp only [hb0]
          generalize w2.alloc (.cells #[.int .i64 (4), .string Y, .int .u64 ((d.toNat : Int) - 48), .int .i64 ((j : Int))] 67) = W at HW HT ⊢
          obtain ⟨d0, d1, d2, d3⟩ := bx4 HT.out
          have HF2 := Lib.hid (HW.out.fl2 #[.int .i64 (4), .string Y, .int .u64 ((d.toNat : Int) - 48), .int .i64 ((j : Int))])
          go_wp2_with (first
            | (refine wpList_store_rowTo rfl 67 _ _ rfl rfl w.heap.size #[.int .i64 (4), .string Y, .int .u64 ((d.toNat : Int) - 48), .int .i64 ((j : Int))] rfl rfl _ _ HW.out.tk (by kernel_rfl) (by kernel_rfl) (by kernel_rfl) ?_)
            | (refine wpList_store_rowTo rfl 38 _ _ rfl rfl (w.heap.size + 1) #[.int .i64 (0), .int .i64 (0)] rfl rfl _ _ HF2.out (by kernel_rfl) (by kernel_rfl) (by kernel_rfl) ?_))
          have HEND := Lib.hid (HW.out.rows (4) Y ((d.toNat : Int) - 48) ((j : Int)) (0) (0))
          refine end16 (w := w) (4) Y ((d.toNat : Int) - 48) ((j : Int)) (0) (0) ((n : Int)) rfl rfl rfl rfl (HEND.out) ?_
          rw [HE.out]; exact ⟨by show Ending.returned (.tuple #[.agg #[.int .i64 4, .string Y, .int .u64 ((d.toNat : Int) - 48), .int .i64 (j : Nat)], .int .i64 (n : Nat), .agg #[.int .i64 0, .int .i64 0]]) = .returned (.tuple #[.agg #[.int .i64 ((4 : Nat) : Int), .string (bs m), .int .u64 ((d.toNat - 48 : Nat) : Int), .int .i64 (j : Nat)], .int .i64 (n : Nat), .agg #[.int .i64 0, .int .i64 0]]); rw [HNN.out, HY.out]; rfl, (HEND.out).be⟩
        · rw [if_neg h4] at hone
          have HE := Lib.hid hone
          have c2 : ((k : Int) == 2) = false := beq_eq_false_iff_ne.2 (by omega)
          have c3 : ((k : Int) == 3) = false := beq_eq_false_iff_ne.2 (by omega)
          have c4 : ((k : Int) == 4) = false := beq_eq_false_iff_ne.2 (by omega)
          clear q3 n3 d2 d4 h39 HNU HQU HG HX HN HK HM HO hk3 hone h2 h4
          go_enter Tryz.func55, Tryz.ntmps55
          go_upto_region 21 with (first
            | (go_at_call 75; refine (HLG.out _).mono ?_; rintro e w2 ⟨rfl, hb2⟩; have HS2 := Lib.hid (HS0.out.step hb2); obtain ⟨t0, g0, t1, g1, t2, g2, t3, g3⟩ := bf4 (HS2.out.tk); have l0 : w2.cell? ⟨w.heap.size + 1, 0, none⟩ = some (.int .i64 0) := cell_at (HS2.out.fl) rfl; have m0 := free_at (j := 0) (HS2.out.fl); have l1 : w2.cell? ⟨w.heap.size + 1, 1, none⟩ = some (.int .i64 0) := cell_at (HS2.out.fl) rfl; have m1 := free_at (j := 1) (HS2.out.fl); have p0 : w.heap.size < w2.heap.size := lt_of_block HS2.out.tk; have p1 : w.heap.size + 1 < w2.heap.size := lt_of_block HS2.out.fl; have p2 : ¬ w.heap.size = w2.heap.size := (by omega); have p3 : ¬ w.heap.size + 1 = w2.heap.size := (by omega); clear hb2))
          have HW := Lib.hid (HS2.out.step ((Below.refl w2.heap.size w2).alloc (Nat.le_refl _) (.cells #[.int .i64 ((k : Int)), .string Y, .int .u64 (0), .int .i64 ((j : Int))] 67)))
          have HT := Lib.hid (alloc_at w2 (.cells #[.int .i64 ((k : Int)), .string Y, .int .u64 (0), .int .i64 ((j : Int))] 67))
          clear t0 g0 t1 g1 t2 g2 t3 g3 l0 l1 m0 m1 p0 p1 p2 p3
          obtain ⟨b0, hb0⟩ : ∃ b0, w2.heap.size = b0 := ⟨_, rfl⟩
          rw [hb0] at HT
          try simp only [hb0]
          generalize w2.alloc (.cells #[.int .i64 ((k : Int)), .string Y, .int .u64 (0), .int .i64 ((j : Int))] 67) = W at HW HT ⊢
          obtain ⟨d0, d1, d2, d3⟩ := bx4 HT.out
          have HF2 := Lib.hid (HW.out.fl2 #[.int .i64 ((k : Int)), .string Y, .int .u64 (0), .int .i64 ((j : Int))])
          go_wp2_with (first
            | (refine wpList_store_rowTo rfl 67 _ _ rfl rfl w.heap.size #[.int .i64 ((k : Int)), .string Y, .int .u64 (0), .int .i64 ((j : Int))] rfl rfl _ _ HW.out.tk (by kernel_rfl) (by kernel_rfl) (by kernel_rfl) ?_)
            | (refine wpList_store_rowTo rfl 38 _ _ rfl rfl (w.heap.size + 1) #[.int .i64 (0), .int .i64 (0)] rfl rfl _ _ HF2.out (by kernel_rfl) (by kernel_rfl) (by kernel_rfl) ?_))
          have HEND := Lib.hid (HW.out.rows ((k : Int)) Y (0) ((j : Int)) (0) (0))
          refine end16 (w := w) ((k : Int)) Y (0) ((j : Int)) (0) (0) ((n : Int)) rfl rfl rfl rfl (HEND.out) ?_
          rw [HE.out]; exact ⟨by rw [← HY.out]; rfl, (HEND.out).be⟩
end Go.Proofs.YtjgdkiikkgdbaaaGreatDoor
