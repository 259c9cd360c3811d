/- Contract of chapter 8's reference: Text. -/
import Derived.Test.YtpclpghmahlieaaDoorValRQuoted
namespace Go.Proofs.YtpclpghmahlieaaDoor
open Go.RowKit
set_option linter.unusedVariables false
theorem refDigits8 (u : Int) (h0 : 0 ≤ u) (h1 : u < 18446744073709551616) (w : World) : Calls Tryd.prog 23 #[.int .u64 u] w fun e w' => e = .returned (.string (bs (Lib.decDigits u.toNat))) ∧ Below w.heap.size w w' := by
  have h := refDigits_any u.toNat (by omega) w
  rwa [show ((u.toNat : Nat) : Int) = u by omega] at h
def RTextTo (T : VT) (w : World) : Prop := Calls Tryd.prog 15 #[.agg #[.int .i64 T.kind, .int .u64 T.num, .string T.text, .slice T.ia T.len T.cap]] w fun e w' => e = .returned (.string (bs (textT T))) ∧ Below w.heap.size w w'
theorem ret_s8 {a b : List UInt8} (h : a = b) : Ending.returned (.string (bs a)) = .returned (.string (bs b)) := by rw [h]
set_option maxHeartbeats 2000000 in
theorem refText_num (T : VT) (w : World) (hw : ValWf T) (hk : numK T.kind = true) : RTextTo T w := by
  have hsz := bs_size
  have hwn := hw.2.1
  have hkk : 1 ≤ T.kind ∧ T.kind ≤ 9 := by unfold numK at hk; simpa using hk
  have HN := Lib.hid (fun wx => refNumber_any T.kind wx)
  rw [hk] at HN
  have HD := Lib.hid (fun wx => refDatum_any T.kind T.num hwn wx)
  unfold datV at HD
  have hdn := dat_num T.kind T.num
  have hdk : (datK T.kind T.num).kind = 3 ∨ (datK T.kind T.num).kind = 1 := by
    unfold datK; rw [hk, if_pos rfl]; show dkK T.kind = 3 ∨ dkK T.kind = 1
    unfold dkK; split
    · exact .inl rfl
    · exact .inr rfl
  unfold RTextTo
  rw [textT_num (by omega) (by omega) (by omega) (by omega) (by omega)]
  obtain ⟨d, hd⟩ : ∃ d, datK T.kind T.num = d := ⟨_, rfl⟩
  rw [hd] at HD hdn hdk ⊢
  have HG := Lib.hid (fun wx => refDigits8 d.num hdn.1 (by omega) wx)
  have hdl := dec_len d.num.toNat (by omega)
  have h45 : (⟨#[45]⟩ : ByteArray) = bs [45] := rfl
  have HB0 := Lib.hid ((Below.refl w.heap.size w).alloc (Nat.le_refl _) (valO T))
  have HQ0 := Lib.hid (alloc_at w (valO T))
  have HA := Lib.hid bs_append
  unfold valO at HB0 HQ0
  clear hk hkk hd
  rcases hdk with k3 | k1
  · have t3 : (d.kind == 3) = true := by simpa using k3
    have HE := Lib.hid (show datL d = if d.num = 1 then trueL else falseL by unfold datL; rw [if_pos k3])
    clear k3
    cases hb : (d.num == 1) with
    | true =>
      have he : datL d = trueL := by rw [HE.out, if_pos (by simpa using hb)]
      rw [he]
      clear he HE
      go_enter Tryd.func15, Tryd.ntmps15
      go_wp2_with (first
        | (go_at_call 21; refine (HN.out _).mono ?_; rintro e w1 ⟨rfl, rfl⟩)
        | (go_at_call 22; refine (HD.out _).mono ?_; rintro e w2 ⟨rfl, hb2⟩; have HB2 := Lib.hid (below_step8' HB0.out hb2); clear hb2))
      go_ret
      exact ⟨rfl, HB2.out.alloc (by have := HB2.out.size; omega) _⟩
    | false =>
      have he : datL d = falseL := by rw [HE.out, if_neg (by simpa using hb)]
      rw [he]
      clear he HE
      go_enter Tryd.func15, Tryd.ntmps15
      go_wp2_with (first
        | (go_at_call 21; refine (HN.out _).mono ?_; rintro e w1 ⟨rfl, rfl⟩)
        | (go_at_call 22; refine (HD.out _).mono ?_; rintro e w2 ⟨rfl, hb2⟩; have HB2 := Lib.hid (below_step8' HB0.out hb2); clear hb2))
      go_ret
      exact ⟨rfl, HB2.out.alloc (by have := HB2.out.size; omega) _⟩
  · have t3 : (d.kind == 3) = false := by simp; omega
    have HE := Lib.hid (show datL d = if d.neg then 45 :: Lib.decDigits d.num.toNat else Lib.decDigits d.num.toNat by unfold datL; rw [if_neg (by omega), if_pos k1])
    clear k1
    cases hb : d.neg with
    | true =>
      have he : datL d = [45] ++ Lib.decDigits d.num.toNat := by rw [HE.out, if_pos hb]; rfl
      rw [he]
      rw [hb] at HD
      clear he HE hb
      go_enter Tryd.func15, Tryd.ntmps15
      go_wp2_with (first
        | (go_at_call 21; refine (HN.out _).mono ?_; rintro e w1 ⟨rfl, rfl⟩)
        | (go_at_call 22; refine (HD.out _).mono ?_; rintro e w2 ⟨rfl, hb2⟩; have HB2 := Lib.hid (below_step8' HB0.out hb2); clear hb2)
        | (go_at_call 23; refine (HG.out _).mono ?_; rintro e w3 ⟨rfl, hb3⟩))
      go_ret
      exact ⟨congrArg (fun x => Ending.returned (Value.string x)) (HA.out _ _), below_step8' (HB2.out.alloc (by have := HB2.out.size; omega) _) hb3⟩
    | false =>
      have he : datL d = Lib.decDigits d.num.toNat := by rw [HE.out, if_neg (by simp [hb])]
      rw [he]
      rw [hb] at HD
      clear he HE hb
      go_enter Tryd.func15, Tryd.ntmps15
      go_wp2_with (first
        | (go_at_call 21; refine (HN.out _).mono ?_; rintro e w1 ⟨rfl, rfl⟩)
        | (go_at_call 22; refine (HD.out _).mono ?_; rintro e w2 ⟨rfl, hb2⟩; have HB2 := Lib.hid (below_step8' HB0.out hb2); clear hb2)
        | (go_at_call 23; refine (HG.out _).mono ?_; rintro e w3 ⟨rfl, hb3⟩))
      go_ret
      exact ⟨rfl, below_step8' (HB2.out.alloc (by have := HB2.out.size; omega) _) hb3⟩
end Go.Proofs.YtpclpghmahlieaaDoor
