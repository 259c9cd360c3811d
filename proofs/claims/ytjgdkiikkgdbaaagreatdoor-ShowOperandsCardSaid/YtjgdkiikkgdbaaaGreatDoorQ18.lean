/- The printer's small functions: a relation's sign, a text's bytes, a tree's form; operands that are the same. -/
import Derived.Test.YtjgdkiikkgdbaaaGreatDoorQ10
namespace Go.Proofs.YtjgdkiikkgdbaaaGreatDoor
open Go.RowKit
set_option linter.unusedVariables false
set_option linter.unusedSimpArgs false
theorem sign_any (r : Int) (w : World) : Calls Tryz.prog 32 #[.int .i64 r] w fun e w' => e = .returned (.string (bs (relS r.toNat))) ∧ w' = w := by
  by_cases h : 1 ≤ r ∧ r ≤ 6
  · have h : r = 1 ∨ r = 2 ∨ r = 3 ∨ r = 4 ∨ r = 5 ∨ r = 6 := by omega
    rcases h with rfl | rfl | rfl | rfl | rfl | rfl
    all_goals
      go_enter Tryz.func32, Tryz.ntmps32
      go_wp2_with (fail)
      go_ret
      exact ⟨rfl, rfl⟩
  · have e : bs (relS r.toNat) = ⟨#[]⟩ := by
      have h0 : relS r.toNat = [] := by
        have h1 : r.toNat = 0 ∨ 6 < r.toNat := by omega
        generalize r.toNat = n at h1
        match n, h1 with
        | 0, _ => rfl
        | 1, h1 => omega
        | 2, h1 => omega
        | 3, h1 => omega
        | 4, h1 => omega
        | 5, h1 => omega
        | 6, h1 => omega
        | n + 7, _ => rfl
      rw [h0]; rfl
    rw [e]
    clear e
    have z1 : (r == 1) = false := beq_eq_false_iff_ne.2 (by omega)
    have z2 : (r == 2) = false := beq_eq_false_iff_ne.2 (by omega)
    have z3 : (r == 3) = false := beq_eq_false_iff_ne.2 (by omega)
    have z4 : (r == 4) = false := beq_eq_false_iff_ne.2 (by omega)
    have z5 : (r == 5) = false := beq_eq_false_iff_ne.2 (by omega)
    have z6 : (r == 6) = false := beq_eq_false_iff_ne.2 (by omega)
    clear h
    go_enter Tryz.func32, Tryz.ntmps32
    go_wp2_with (fail)
    go_ret
    exact ⟨rfl, rfl⟩
theorem sign_empty (r : Int) : (bs (relS r.toNat)).toList.isEmpty = !(decide (1 ≤ r) && decide (r ≤ 6)) := by
  rw [ByteArray.toList_eq]
  show (relS r.toNat).isEmpty = _
  by_cases h : 1 ≤ r ∧ r ≤ 6
  · have h : r = 1 ∨ r = 2 ∨ r = 3 ∨ r = 4 ∨ r = 5 ∨ r = 6 := by omega
    rcases h with rfl | rfl | rfl | rfl | rfl | rfl <;> rfl
  · have h2 : (decide (1 ≤ r) && decide (r ≤ 6)) = false := by
      rw [Bool.and_eq_false_iff, decide_eq_false_iff_not, decide_eq_false_iff_not]; omega
    rw [h2]
    have h1 : r.toNat = 0 ∨ 6 < r.toNat := by omega
    generalize r.toNat = n at h1
    match n, h1 with
    | 0, _ => rfl
    | 1, h1 => omega
    | 2, h1 => omega
    | 3, h1 => omega
    | 4, h1 => omega
    | 5, h1 => omega
    | 6, h1 => omega
    | n + 7, _ => rfl
theorem badGet (s : ByteArray) (j : Nat) (hj : j < s.size) : ((s.data.toList.drop j).all fun x => !badB x) = (!badB (s[j]'hj) && ((s.data.toList.drop (j + 1)).all fun x => !badB x)) := by
  have hl : j < s.data.toList.length := by rw [Array.length_toList]; exact hj
  rw [List.drop_eq_getElem_cons hl, List.all_cons]
  rfl
theorem isText_any (s : ByteArray) (hl : s.size ≤ 140737488351232) (w : World) : Calls Tryz.prog 39 #[.string s] w fun e w' => e = .returned (.bool (s.data.toList.all fun x => !badB x)) ∧ w' = w := by
  obtain ⟨B, hB⟩ : ∃ B, (s.data.toList.all fun x => !badB x) = B := ⟨_, rfl⟩
  have H0 := Lib.hid (show ((s.data.toList.drop 0).all fun x => !badB x) = B from hB)
  have HBG := Lib.hid (badGet s)
  have HE := Lib.hid (show ((s.data.toList.drop s.size).all fun x => !badB x) = true by rw [List.drop_eq_nil_of_le (by rw [Array.length_toList]; exact Nat.le_refl _)]; rfl)
  rw [hB]
  have hml : s.size ≤ maxLen := by show s.size ≤ 9223372036854775807; omega
  clear hB
  go_enter Tryz.func39, Tryz.ntmps39
  go_wp2_with (fail)
  go_loopw [3, 6] (fun _ i wr => ∃ (j : Nat), j ≤ s.size ∧ i = .int .i64 j ∧ Hid (((s.data.toList.drop j).all fun x => !badB x) = B) ∧ wr = w) (fun _ i _ => s.size - (intOf i).toNat)
  case atStart => exact ⟨0, Nat.zero_le _, rfl, H0, rfl⟩
  case round =>
    obtain ⟨j, hj, rfl, HJ, rfl⟩ := hrel
    by_cases hlt : j < s.size
    · have hji : (j : Int) < (s.size : Int) := by omega
      have hx := HBG.out j hlt
      rw [HJ.out] at hx
      have hbd : badB (s[j]'hlt) = (decide ((((s[j]'hlt).toNat : Nat) : Int) < 32) || decide ((126 : Int) < (((s[j]'hlt).toNat : Nat) : Int))) := by
        unfold badB
        generalize (s[j]'hlt).toNat = n
        rw [Bool.eq_iff_iff]; simp; try omega
      rw [hbd] at hx
      clear hbd
      by_cases h32 : (((s[j]'hlt).toNat : Nat) : Int) < 32
      · rw [decide_eq_true h32] at hx
        have hBf : B = false := by rw [hx]; rfl
        clear hx
        subst hBf
        go_wp2_with (fail)
        go_ret
        exact ⟨rfl, rfl⟩
      · by_cases h126 : (126 : Int) < (((s[j]'hlt).toNat : Nat) : Int)
        · rw [decide_eq_true h126] at hx
          have hBf : B = false := by rw [hx]; simp
          clear hx
          subst hBf
          go_wp2_with (fail)
          go_ret
          exact ⟨rfl, rfl⟩
        · rw [decide_eq_false h32, decide_eq_false h126] at hx
          have HX := Lib.hid (show ((s.data.toList.drop (j + 1)).all fun x => !badB x) = B by rw [hx]; rfl)
          clear hx
          go_wp2_with (fail)
          go_roundw
          case rel => exact ⟨j + 1, by omega, by go_num, HX, trivial⟩
          case measure => simp [intOf]; omega
    · obtain rfl : j = s.size := by omega
      have hx := HJ.out
      rw [HE.out] at hx
      clear hlt
      subst hx
      go_wp2_with (fail)
      go_ret
      exact ⟨rfl, rfl⟩
theorem shp_eq (a b c a' b' c' : Int) (w : World) : (binOp .eql 94 (.agg #[.int .i64 a, .int .i64 b, .int .i64 c]) (.agg #[.int .i64 a', .int .i64 b', .int .i64 c'])).run Tryz.prog w = .ok (.bool (a == a' && (b == b' && c == c'))) w := by
  have hu := Tryz.underlying94
  have hi := Tryz.underlying3
  have p0 := fun w => run_equalIn_int (P := Tryz.prog) w 9998 3 .i64 .i64 a a' hi
  have p1 := fun w => run_equalIn_int (P := Tryz.prog) w 9998 3 .i64 .i64 b b' hi
  have p2 := fun w => run_equalIn_int (P := Tryz.prog) w 9998 3 .i64 .i64 c c' hi
  rw [run_eql_struct, run_equalIn_agg _ 9999 _ _ _ (by kernel_rfl) (by kernel_rfl)]
  simp only [Program.fieldsOf, hu]
  simp [Op.eqFields, go_sem, p0, p1, p2]
  (repeat' split) <;> simp_all
theorem opd_eq (k : Int) (s s' : ByteArray) (g g' : Bool) (n n' : Int) (w : World) : (binOp .eql 34 (.agg #[.int .i64 k, .string s, .bool g, .int .u64 n]) (.agg #[.int .i64 k, .string s', .bool g', .int .u64 n'])).run Tryz.prog w = .ok (.bool (s.toList == s'.toList && (g == g' && n == n'))) w := by
  have hu := Tryz.underlying34
  have hi := Tryz.underlying3
  have hb := Tryz.underlying4
  have hn := Tryz.underlying32
  have hs := Tryz.underlying9
  have p0 := fun w => run_equalIn_int (P := Tryz.prog) w 9998 3 .i64 .i64 k k hi
  have p1 := fun w => run_equalIn_string (P := Tryz.prog) w 9998 9 s s' hs
  have p2 := fun w => run_equalIn_bool' (P := Tryz.prog) w 9998 4 g g' hb
  have p3 := fun w => run_equalIn_int (P := Tryz.prog) w 9998 32 .u64 .u64 n n' hn
  rw [run_eql_struct, run_equalIn_agg _ 9999 _ _ _ (by kernel_rfl) (by kernel_rfl)]
  simp only [Program.fieldsOf, hu]
  simp [Op.eqFields, go_sem, p0, p1, p2, p3]
  (repeat' split) <;> simp_all
theorem two_al (w : World) (a b : Obj) : ((w.alloc a).alloc b).heap[w.heap.size]? = some a ∧ ((w.alloc a).alloc b).heap[w.heap.size + 1]? = some b ∧ Below w.heap.size w ((w.alloc a).alloc b) := by
  have e1 : (w.alloc a).heap.size = w.heap.size + 1 := World.size_alloc ..
  have b1 : Below (w.alloc a).heap.size (w.alloc a) ((w.alloc a).alloc b) := (Below.refl _ _).alloc (Nat.le_refl _) b
  refine ⟨rowKeep b1 (alloc_at w a), by rw [← e1]; exact alloc_at (w.alloc a) b, ((Below.refl _ _).alloc (Nat.le_refl _) a).trans (b1.mono (by omega))⟩
def FormTo (o r : Int) (aa : Option Addr) (an ac : Nat) (ka : Option Addr) (kn kc : Nat) (w : World) (b : Bool) : Prop := Calls Tryz.prog 30 #[.agg #[.int .i64 o, .int .i64 r, .slice aa an ac, .slice ka kn kc]] w fun e w' => e = .returned (.bool b) ∧ Below w.heap.size w w'
theorem form_1 (r : Int) (aa : Option Addr) (an ac : Nat) (ka : Option Addr) (kn kc : Nat) (w : World) : FormTo 1 r aa an ac ka kn kc w (((an : Int) == 2 && (kn : Int) == 0) && (decide (1 ≤ r) && decide (r ≤ 6))) := by
  have HS := Lib.hid (sign_any r)
  have hem := sign_empty r
  obtain ⟨s, hs⟩ : ∃ s, bs (relS r.toNat) = s := ⟨_, rfl⟩
  obtain ⟨m, hm⟩ : ∃ m, (decide (1 ≤ r) && decide (r ≤ 6)) = m := ⟨_, rfl⟩
  rw [hs, hm] at hem
  rw [hs] at HS
  rw [hm]
  have hq := fun wx => shp_eq r an kn r 2 0 wx
  rw [show (r == r) = true from beq_self_eq_true r, Bool.true_and] at hq
  obtain ⟨q, hqq⟩ : ∃ q, ((an : Int) == 2 && (kn : Int) == 0) = q := ⟨_, rfl⟩
  rw [hqq] at hq ⊢
  clear hs hm hqq
  unfold FormTo
  cases q
  · go_enter Tryz.func30, Tryz.ntmps30
    go_wp2_with (fail)
    go_ret
    exact ⟨rfl, (two_al w _ _).2.2⟩
  · cases m
    all_goals
      go_enter Tryz.func30, Tryz.ntmps30
      go_wp2_with (go_at_call 32; refine (HS.out _).mono ?_; rintro e w1 ⟨rfl, rfl⟩)
      go_ret
      exact ⟨rfl, (two_al w _ _).2.2⟩
theorem form_234 (o r : Int) (aa : Option Addr) (an ac : Nat) (ka : Option Addr) (kn kc : Nat) (n k : Int) (h : o = 2 ∧ n = 3 ∧ k = 0 ∨ o = 3 ∧ n = 2 ∧ k = 0 ∨ o = 4 ∧ n = 0 ∧ k = 1) (w : World) : FormTo o r aa an ac ka kn kc w (r == 0 && ((an : Int) == n && (kn : Int) == k)) := by
  have hq := fun wx => shp_eq r an kn 0 n k wx
  obtain ⟨q, hqq⟩ : ∃ q, (r == 0 && ((an : Int) == n && (kn : Int) == k)) = q := ⟨_, rfl⟩
  rw [hqq] at hq ⊢
  clear hqq
  unfold FormTo
  rcases h with ⟨rfl, rfl, rfl⟩ | ⟨rfl, rfl, rfl⟩ | ⟨rfl, rfl, rfl⟩
  all_goals
    go_enter Tryz.func30, Tryz.ntmps30
    go_wp2_with (fail)
    go_ret
    exact ⟨rfl, (two_al w _ _).2.2⟩
theorem form_56 (o r : Int) (aa : Option Addr) (an ac : Nat) (ka : Option Addr) (kn kc : Nat) (h : o = 5 ∨ o = 6) (w : World) : FormTo o r aa an ac ka kn kc w ((r == 0 && (an : Int) == 0) && decide ((2 : Int) ≤ kn)) := by
  have hq := fun wx => shp_eq r an kn 0 0 kn wx
  rw [show ((kn : Int) == (kn : Int)) = true from beq_self_eq_true _, Bool.and_true] at hq
  obtain ⟨q, hqq⟩ : ∃ q, (r == 0 && (an : Int) == 0) = q := ⟨_, rfl⟩
  rw [hqq] at hq ⊢
  clear hqq
  unfold FormTo
  rcases h with rfl | rfl
  all_goals
    cases q
    all_goals
      go_enter Tryz.func30, Tryz.ntmps30
      go_wp2_with (fail)
      go_ret
      exact ⟨rfl, (two_al w _ _).2.2⟩
theorem form_no (o r : Int) (aa : Option Addr) (an ac : Nat) (ka : Option Addr) (kn kc : Nat) (h : o < 1 ∨ 6 < o) (w : World) : FormTo o r aa an ac ka kn kc w false := by
  have z1 : (o == 1) = false := beq_eq_false_iff_ne.2 (by omega)
  have z2 : (o == 2) = false := beq_eq_false_iff_ne.2 (by omega)
  have z3 : (o == 3) = false := beq_eq_false_iff_ne.2 (by omega)
  have z4 : (o == 4) = false := beq_eq_false_iff_ne.2 (by omega)
  have z5 : (o == 5) = false := beq_eq_false_iff_ne.2 (by omega)
  have z6 : (o == 6) = false := beq_eq_false_iff_ne.2 (by omega)
  clear h
  unfold FormTo
  go_enter Tryz.func30, Tryz.ntmps30
  go_wp2_with (fail)
  go_ret
  exact ⟨rfl, (two_al w _ _).2.2⟩
theorem form_any (o r : Int) (aa : Option Addr) (an ac : Nat) (ka : Option Addr) (kn kc : Nat) (w : World) : FormTo o r aa an ac ka kn kc w (formB o r an kn) := by
  have key : ∀ b, formB o r an kn = b → FormTo o r aa an ac ka kn kc w b → FormTo o r aa an ac ka kn kc w (formB o r an kn) := fun b e h => by rw [e]; exact h
  by_cases h : o < 1 ∨ 6 < o
  · refine key false ?_ (form_no o r aa an ac ka kn kc h w)
    have z1 : (o == 1) = false := beq_eq_false_iff_ne.2 (by omega)
    have z2 : (o == 2) = false := beq_eq_false_iff_ne.2 (by omega)
    have z3 : (o == 3) = false := beq_eq_false_iff_ne.2 (by omega)
    have z4 : (o == 4) = false := beq_eq_false_iff_ne.2 (by omega)
    have z5 : (o == 5) = false := beq_eq_false_iff_ne.2 (by omega)
    have z6 : (o == 6) = false := beq_eq_false_iff_ne.2 (by omega)
    unfold formB; rw [z1, z2, z3, z4, z5, z6]; rfl
  · have h : o = 1 ∨ o = 2 ∨ o = 3 ∨ o = 4 ∨ o = 5 ∨ o = 6 := by omega
    rcases h with rfl | rfl | rfl | rfl | rfl | rfl
    · refine key _ ?_ (form_1 r aa an ac ka kn kc w)
      rw [Bool.eq_iff_iff]; simp [formB]; omega
    · refine key _ ?_ (form_234 2 r aa an ac ka kn kc 3 0 (by simp) w)
      rw [Bool.eq_iff_iff]; simp [formB]; omega
    · refine key _ ?_ (form_234 3 r aa an ac ka kn kc 2 0 (by simp) w)
      rw [Bool.eq_iff_iff]; simp [formB]; omega
    · refine key _ ?_ (form_234 4 r aa an ac ka kn kc 0 1 (by simp) w)
      rw [Bool.eq_iff_iff]; simp [formB]; omega
    · refine key _ ?_ (form_56 5 r aa an ac ka kn kc (by simp) w)
      rw [Bool.eq_iff_iff]; simp [formB]; omega
    · refine key _ ?_ (form_56 6 r aa an ac ka kn kc (by simp) w)
      rw [Bool.eq_iff_iff]; simp [formB]; omega
end Go.Proofs.YtjgdkiikkgdbaaaGreatDoor
/- Tokens: the code's, whatever the text. -/
namespace Go.Proofs.YtjgdkiikkgdbaaaGreatDoor
open Go.RowKit
set_option linter.unusedVariables false
set_option maxRecDepth 100000 in
set_option maxHeartbeats 8000000 in
theorem tokens_any (l : List UInt8) (hl : l.length ≤ 256) (w : World) (hV : LibAt w) : Calls Tryz.prog 26 #[.string (bs l)] w (AnsTo w (tokA l)) := by
  obtain ⟨i0, hi, hz0, hz1, hz2⟩ := info_parts infoTok
  have HRUN := Lib.hid (fun (m : List UInt8) (hm : m.length ≤ 256) (wx : World) => runBlanks m (by omega) wx)
  have HFI := Lib.hid (fun (c : UInt8) (r : List UInt8) (hm : (c :: r).length ≤ 256) (wx : World) (hb : Below w.heap.size w wx) => first_any c r (by omega) wx (hV.held hb))
  have HSL := Lib.hid (sl_from l)
  have HFB := Lib.hid (fst_bounds)
  have HSK := Lib.hid TA_skip
  have HNB := Lib.hid drop_nb
  have HS0 := Lib.hid (TSt.start w)
  have hsz : (bs l).size = l.length := bs_size l
  have hA : tokA l = TA (l.length + 1) l 0 [] := if_neg (by omega)
  rw [hA]
  have HR0 := Lib.hid (runBlanks l (by omega))
  have HTW := Lib.hid (fun m : List UInt8 => (tw_spec blk m).2.2)
  obtain ⟨s, hs⟩ : ∃ s, bs l = s := ⟨_, rfl⟩
  rw [hs] at HSL HR0 hsz ⊢
  have hml : s.size ≤ maxLen := by show s.size ≤ 9223372036854775807; omega
  have h256 : ¬ (256 : Int) < (l.length : Int) := by omega
  obtain ⟨AA, hAA⟩ : ∃ AA, TA (l.length + 1) l 0 [] = AA := ⟨_, rfl⟩
  rw [hAA]
  have HAA := Lib.hid hAA
  clear hA hs hAA hV
  go_enter Tryz.func26, Tryz.ntmps26
  go_wp2_with (go_at_call 45; refine (HR0.out _).mono ?_; rintro e w1 ⟨rfl, hb1⟩; have HS1 := Lib.hid (HS0.out.step hb1); clear hb1)
  go_loopw [4, 5] (fun v a wr => ∃ (out : List Tk) (j f : Nat) (ao : Option Addr) (cap : Nat), j ≤ l.length ∧ out.length ≤ 64 ∧ v = .slice ao out.length cap ∧ a = .int .i64 j ∧ l.length - j < f ∧ Hid (TA f (l.drop j) j out = AA) ∧ Hid (∀ c r, l.drop j = c :: r → blk c = false) ∧ Hid (TSt w (.slice ao out.length cap) out wr)) (fun _ a _ => l.length - (intOf a).toNat)
  case atStart =>
    have hk := HTW.out l
    refine ⟨[], (l.takeWhile blk).length, l.length + 1 - (l.takeWhile blk).length, none, 0, hk, by simp, rfl, by go_num, by omega, Lib.hid ?_, Lib.hid (HNB.out l), HS1⟩
    have h := HSK.out (l.takeWhile blk).length (l.length + 1 - (l.takeWhile blk).length) l 0 [] (Nat.le_refl _)
    rw [Nat.sub_add_cancel (by omega), Nat.zero_add] at h
    rw [← h]; exact HAA.out
  case round =>
    obtain ⟨out, j, f, ao, cap, hj, hout, rfl, rfl, hf, HTA, HB, HS⟩ := hrel
    by_cases hlt : j < l.length
    · obtain ⟨c, r, hcr⟩ : ∃ c r, l.drop j = c :: r := ⟨_, _, List.drop_eq_getElem_cons hlt⟩
      have hnb := HB.out c r hcr
      have hlen : (c :: r).length = l.length - j := by rw [← hcr, List.length_drop]
      obtain ⟨g, rfl⟩ : ∃ g, f = g + 1 := ⟨f - 1, by omega⟩
      have hta := HTA.out
      rw [hcr, TA_step, if_neg (by rw [hnb]; decide)] at hta
      have hfi := fun wx hb => HFI.out c r (by omega) wx hb
      have hfb := HFB.out (c :: r) (by simp)
      have hsl := HSL.out j hj
      rw [hcr] at hsl
      have hcr2 := HRUN.out
      have hdr : ∀ len, l.drop (j + len) = (c :: r).drop len := fun len => by rw [← List.drop_drop, hcr]
      obtain ⟨m, hm⟩ : ∃ m, c :: r = m := ⟨_, rfl⟩
      rw [hm] at hta hfi hfb hsl hlen
      simp only [hm] at hdr
      obtain ⟨G, hG⟩ : ∃ G, fstG m = G := ⟨_, rfl⟩
      rw [hG] at hta hfi hfb
      obtain ⟨X, hX⟩ : ∃ X, bs m = X := ⟨_, rfl⟩
      rw [hX] at hfi hsl
      have HFC := Lib.hid hfi
      have HDR := Lib.hid hdr
      clear hfi hdr hm hX hG hcr hnb hcr2
      cases G with
      | err e a =>
        have HTX := Lib.hid (show AA = .bad e (j + a) from hta.symm)
        have heb : ((e : Int) != 0) = true := by have := hfb.1; simpa using (show ((e : Nat) : Int) ≠ 0 by omega)
        have hae := hfb.2
        have HWR := Lib.hid (show wrap64 ((j : Int) + (a : Int)) = (j : Int) + (a : Int) by unfold wrap64; omega)
        clear hae
        clear hta hfb
        have HFD := Lib.hid (show ∀ wx, Below w.heap.size w wx → Calls Tryz.prog 46 #[.string X] wx fun x w' => x = .returned (.tuple #[.agg #[.int .i64 0, .string ⟨#[]⟩, .int .u64 0, .int .i64 0], .int .i64 0, .agg #[.int .i64 (e : Nat), .int .i64 (a : Nat)]]) ∧ Below wx.heap.size wx w' from HFC.out)
        go_wp2_with (go_at_call 46; refine (HFD.out _ HS.out.be).mono ?_; rintro x w1 ⟨rfl, hb1⟩; have HS1 := Lib.hid (HS.out.step hb1); have l0 : w1.cell? ⟨w.heap.size, 0, none⟩ = some (.int .i64 0) := cell_at HS1.out.fl rfl; have l1 : w1.cell? ⟨w.heap.size, 1, none⟩ = some (.int .i64 0) := cell_at HS1.out.fl rfl; have m0 := free_at (j := 0) HS1.out.fl; have m1 := free_at (j := 1) HS1.out.fl; have p0 : w.heap.size < w1.heap.size := lt_of_block HS1.out.fl; have p1 : ¬ w.heap.size = w1.heap.size := (by omega); clear hb1)
        go_region
        all_goals go_wp2_with (fail)
        all_goals
          rw [HWR.out]
          have HV := Lib.hid (outErr HS1.out.fl HS1.out.be (e : Nat) ((j : Int) + (a : Int)) (.cells #[.int .i64 0, .string ⟨#[]⟩, .int .u64 0, .int .i64 0] 67) (.cells #[.int .i64 (e : Nat), .int .i64 (a : Nat)] 38))
          refine end6 (w := w) (.slice none 0 0) (e : Nat) ((j : Int) + (a : Int)) rfl rfl rfl HV.out.1 ?_
          rw [HTX.out]
          exact ⟨rfl, HV.out.2⟩
      | tok k t n len =>
        obtain ⟨b1, b2, b3, b4, b5⟩ := hfb
        have hta2 : (if out.length = 64 then Ans.bad 3 j else TA g (m.drop len) (j + len) (out ++ [⟨k, t, n, j⟩])) = AA := hta
        clear hta
        by_cases h64 : out.length = 64
        · rw [if_pos h64] at hta2
          have HTX := Lib.hid hta2.symm
          clear hta2
          have HFD := Lib.hid (show ∀ wx, Below w.heap.size w wx → Calls Tryz.prog 46 #[.string X] wx fun x w' => x = .returned (.tuple #[.agg #[.int .i64 (k : Nat), .string (bs t), .int .u64 (n : Nat), .int .i64 0], .int .i64 (len : Nat), .agg #[.int .i64 0, .int .i64 0]]) ∧ Below wx.heap.size wx w' from HFC.out)
          go_wp2_with (go_at_call 46; refine (HFD.out _ HS.out.be).mono ?_; rintro x w1 ⟨rfl, hb1⟩; have HS1 := Lib.hid (HS.out.step hb1); have l0 : w1.cell? ⟨w.heap.size, 0, none⟩ = some (.int .i64 0) := cell_at HS1.out.fl rfl; have l1 : w1.cell? ⟨w.heap.size, 1, none⟩ = some (.int .i64 0) := cell_at HS1.out.fl rfl; have m0 := free_at (j := 0) HS1.out.fl; have m1 := free_at (j := 1) HS1.out.fl; have p0 : w.heap.size < w1.heap.size := lt_of_block HS1.out.fl; have p1 : ¬ w.heap.size = w1.heap.size := (by omega); clear hb1)
          have HV := Lib.hid (outErr2 HS1.out.fl HS1.out.be 3 (j : Int) (.cells #[.int .i64 (k : Nat), .string (bs t), .int .u64 (n : Nat), .int .i64 0] 67) (.cells #[.int .i64 0, .int .i64 0] 38))
          refine end6 (w := w) (.slice none 0 0) 3 (j : Int) rfl rfl rfl HV.out.1 ?_
          rw [HTX.out]
          exact ⟨rfl, HV.out.2⟩
        · rw [if_neg h64] at hta2
          have HTX := Lib.hid hta2
          clear hta2
          have HFD := Lib.hid (show ∀ wx, Below w.heap.size w wx → Calls Tryz.prog 46 #[.string X] wx fun x w' => x = .returned (.tuple #[.agg #[.int .i64 (k : Nat), .string (bs t), .int .u64 (n : Nat), .int .i64 0], .int .i64 (len : Nat), .agg #[.int .i64 0, .int .i64 0]]) ∧ Below wx.heap.size wx w' from HFC.out)
          have h64b : ((out.length : Int) == 64) = false := beq_eq_false_iff_ne.2 (by omega)
          have hlj : j + len ≤ l.length := by omega
          have hsl2 : ∀ wx, (Instr.slice 9 (.string s) (some (.int .i64 ((j : Int) + (len : Int)))) none none).run Tryz.prog wx = .ok (.string (bs (l.drop (j + len)))) wx := fun wx => HSL.out (j + len) hlj wx
          have hrun := HRUN.out (l.drop (j + len)) (by rw [List.length_drop]; omega)
          have hnbx := HNB.out (l.drop (j + len))
          have hskx := HSK.out ((l.drop (j + len)).takeWhile blk).length (g - ((l.drop (j + len)).takeWhile blk).length) (l.drop (j + len)) (j + len) (out ++ [⟨k, t, n, j⟩]) (Nat.le_refl _)
          have htw := HTW.out (l.drop (j + len))
          rw [List.length_drop] at htw
          rw [List.drop_drop] at hskx hnbx
          obtain ⟨nb, hnb⟩ : ∃ nb, ((l.drop (j + len)).takeWhile blk).length = nb := ⟨_, rfl⟩
          rw [hnb] at hrun hnbx hskx htw
          rw [Nat.sub_add_cancel (by omega)] at hskx
          have HTY := Lib.hid (show TA (g - nb) (l.drop (j + len + nb)) (j + len + nb) (out ++ [⟨k, t, n, j⟩]) = AA by rw [← hskx, HDR.out]; exact HTX.out)
          have HNX := Lib.hid hnbx
          obtain ⟨Y, hY⟩ : ∃ Y, bs (l.drop (j + len)) = Y := ⟨_, rfl⟩
          rw [hY] at hrun hsl2
          have HRX := Lib.hid hrun
          have HX := Lib.hid (show ∀ (wx wy : World) (v' : Value), TSt w (.slice ao out.length cap) out wx → wy.ownsRow (w.heap.size + 1) 67 4 v' (out.length + 1) (out.flatMap tkC ++ tkC ⟨k, t, n, j⟩) → wx.grownBy wy (Value.slice ao out.length cap).ownBlock → TSt w v' (out ++ [⟨k, t, n, j⟩]) wy from fun _ _ _ h1 h2 h3 => h1.grown h2 h3)
          have HL1 := Lib.hid (show (out ++ [(⟨k, t, n, j⟩ : Tk)]).length = out.length + 1 by rw [List.length_append]; rfl)
          have HNT := Lib.hid (newTk ⟨k, t, n, j⟩)
          clear hrun hnbx hskx hnb hY b3 b4 b5 HRUN HNB HSK HTW HFB HFI
          go_wp2_with (first
            | (go_at_call 46; refine (HFD.out _ HS.out.be).mono ?_; rintro x w1 ⟨rfl, hb1⟩; have HS1 := Lib.hid (HS.out.step hb1); have l0 : w1.cell? ⟨w.heap.size, 0, none⟩ = some (.int .i64 0) := cell_at HS1.out.fl rfl; have l1 : w1.cell? ⟨w.heap.size, 1, none⟩ = some (.int .i64 0) := cell_at HS1.out.fl rfl; have m0 := free_at (j := 0) HS1.out.fl; have m1 := free_at (j := 1) HS1.out.fl; have p0 : w.heap.size < w1.heap.size := lt_of_block HS1.out.fl; have p1 : ¬ w.heap.size = w1.heap.size := (by omega); clear hb1)
            | (at_builtin; refine wpList_append_lies _ rfl _ _ 55 rfl (w.heap.size + 1) 67 i0 _ 4 40 Tryz.underlying55 hi hz0 hz1 hz2 rfl (by decide) _ _ _ rfl (((HS1.out.own.alloc _).alloc _).alloc _) ⟨_, 0, none⟩ 1 1 (tkC ⟨k, t, n, j⟩) rfl rfl (HNT.out _ _ _) (fun u hu => by (simp [tkC] at hu; rcases hu with rfl | rfl | rfl | rfl <;> rfl)) (by decide) (by unfold maxLen; omega) (by omega) (by simp; omega) _ rfl ?_; intro gg cp w2 hown2 hg2 _ _; have HS2 := Lib.hid (HX.out _ _ _ (HS1.out.step ((((Below.refl w1.heap.size w1).alloc (Nat.le_refl _) _).alloc (by simp) _).alloc (by simp; omega) _)) hown2 hg2); clear hown2 hg2)
            | (go_at_call 45; refine (HRX.out _).mono ?_; rintro e w3 ⟨rfl, hb3⟩; have HS3 := Lib.hid (HS2.out.step hb3); clear hb3))
          go_roundw
          case rel => exact ⟨out ++ [⟨k, t, n, j⟩], j + len + nb, g - nb, some ⟨gg, 0, none⟩, cp, by omega, by rw [HL1.out]; omega, by rw [HL1.out], by go_num, by omega, HTY, HNX, by rw [HL1.out]; exact HS3⟩
          case measure => simp [intOf]; omega
    · obtain rfl : j = l.length := by omega
      obtain ⟨g, rfl⟩ : ∃ g, f = g + 1 := ⟨f - 1, by omega⟩
      have hta := HTA.out
      rw [List.drop_eq_nil_of_le (Nat.le_refl _)] at hta
      have HTX := Lib.hid (show AA = .good (out ++ [⟨6, [], 0, l.length⟩]) from hta.symm)
      have HX := Lib.hid (show ∀ (wx wy : World) (v' : Value), TSt w (.slice ao out.length cap) out wx → wy.ownsRow (w.heap.size + 1) 67 4 v' (out.length + 1) (out.flatMap tkC ++ tkC ⟨6, [], 0, l.length⟩) → wx.grownBy wy (Value.slice ao out.length cap).ownBlock → TSt w v' (out ++ [⟨6, [], 0, l.length⟩]) wy from fun _ _ _ h1 h2 h3 => h1.grown h2 h3)
      have HNT := Lib.hid (newTk1 ⟨6, [], 0, l.length⟩)
      have HL1 := Lib.hid (show (out ++ [(⟨6, [], 0, l.length⟩ : Tk)]).length = out.length + 1 by rw [List.length_append]; rfl)
      clear hta
      go_wp2_with (first
        | (at_builtin; refine wpList_append_lies _ rfl _ _ 55 rfl (w.heap.size + 1) 67 i0 _ 4 40 Tryz.underlying55 hi hz0 hz1 hz2 rfl (by decide) _ _ _ rfl (HS.out.own.alloc _) ⟨_, 0, none⟩ 1 1 (tkC ⟨6, [], 0, l.length⟩) rfl rfl (HNT.out _) (fun u hu => by (simp [tkC] at hu; rcases hu with rfl | rfl | rfl | rfl <;> rfl)) (by decide) (by unfold maxLen; omega) (by omega) (by have := HS.out.be.size; have := lt_of_block HS.out.fl; simp; omega) _ rfl ?_; intro gg cp w2 hown2 hg2 _ _; have HS2 := Lib.hid (HX.out _ _ _ (HS.out.step ((Below.refl wr.heap.size wr).alloc (Nat.le_refl _) _)) hown2 hg2); have l0 : w2.cell? ⟨w.heap.size, 0, none⟩ = some (.int .i64 0) := cell_at HS2.out.fl rfl; have l1 : w2.cell? ⟨w.heap.size, 1, none⟩ = some (.int .i64 0) := cell_at HS2.out.fl rfl; have m0 := free_at (j := 0) HS2.out.fl; have m1 := free_at (j := 1) HS2.out.fl; clear hown2 hg2))
      have HF := Lib.hid HS2.out.fin
      refine end6 (w := w) (.slice (some ⟨gg, 0, none⟩) (out.length + 1) cp) 0 0 rfl rfl rfl HF.out.fl ?_
      rw [HTX.out]
      refine ⟨⟨some ⟨gg, 0, none⟩, cp, by rw [HL1.out], ?_⟩, HF.out.be⟩
      exact ⟨HF.out.at, HF.out.cap⟩
end Go.Proofs.YtjgdkiikkgdbaaaGreatDoor
