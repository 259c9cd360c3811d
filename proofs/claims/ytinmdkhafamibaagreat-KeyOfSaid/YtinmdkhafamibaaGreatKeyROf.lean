/- The contract of the reference's Of. -/
import Derived.Test.YtinmdkhafamibaaGreatKeyRef
import Derived.Test.YtinmdkhafamibaaGreatKeyVal
import Derived.Deep.RegionHeld3
namespace Go.Proofs.YtinmdkhafamibaaGreat
open Go.RowKit
set_option linter.unusedVariables false
/-- a field's box, the value's box, the result's row -/
def RIn (g : Nat) (X T : VT) (w0 w2 w : World) : Prop := VIn g X w0 w ∧ OIn T w0 w ∧ Below w2.heap.size w2 w
theorem RIn.drew {g : Nat} {X T : VT} {w0 w2 w : World} (h : RIn g X T w0 w2 w) : RIn g X T w0 w2 w.drew := ⟨h.1.drew, ⟨h.2.1.1.drew, h.2.1.2⟩, h.2.2.drew⟩
theorem RIn.step {g : Nat} {X T : VT} {w0 w2 w w' : World} (h : RIn g X T w0 w2 w) (hb : Below w.heap.size w w') : RIn g X T w0 w2 w' := ⟨h.1.step hb, h.2.1.step hb, below_step8' h.2.2 hb⟩
set_option maxRecDepth 100000 in
set_option maxHeartbeats 8000000 in
theorem rof13_any (ao : Option Addr) (len cap : Nat) (L : Nat → TypeV) (hlen : len ≤ 1000000) (hcap : len ≤ cap) (hcp : ∀ i, i < len → (L i).ilen ≤ (L i).icap) (S : Nat → Prop) (t : Int) (T : VT) (w : World) (HV : ValAt w S T) (H : ∀ i, i < len → TypeAt w ao i (L i)) :
    Calls Tryz.prog 10 #[.slice ao len cap, .int .i64 t, .agg #[.int .i64 T.kind, .int .u64 T.num, .string T.text, .slice T.ia T.len T.cap]] w fun e w' => e = .returned (.tuple #[.agg (kc (keyK L len t T)), .int .i64 (keyE L len t T)]) ∧ Below w.heap.size w w' := by
  have hf := fun wx (hb : Below w.heap.size w wx) => rfields13_any ao len cap L t hlen wx (hold H hb)
  have ht := fun wx (hb : Below w.heap.size w wx) => rfits9_any ao len cap L hlen S t T wx (HV.next hb) (hold H hb)
  have HO := Lib.hid (OIn.new T w)
  unfold FldTo at hf
  by_cases hE : fldE L len t = 0
  · obtain ⟨k, rfl, hk, hok, h13, h16, hfl⟩ := fld_zero hE
    have e1 : keyE L len (k : Nat) T = fitsA L len (k : Nat) T := by unfold keyE; rw [if_neg (by rw [hE]; decide)]
    by_cases hA : fitsA L len (k : Nat) T = 0
    · obtain ⟨k', hkk, _, _, hft⟩ : ∃ k' : Nat, ((k : Nat) : Int) = k' ∧ k' < len ∧ fErr (oneR L len) len = 0 ∧ fitsT L T k' = 0 := by
        unfold fitsA at hA
        split at hA
        · rename_i hc; exact ⟨k, rfl, hk, hok, by rw [Int.toNat_natCast] at hA; exact hA⟩
        · cases hA
      obtain rfl : k = k' := by omega
      have e2 : keyK L len (k : Nat) T = kb (keyB T.kid (fldL L len (k : Nat))) := by unfold keyK; rw [e1, if_pos hA]
      have hle := keyB_le hok hk h13 hft (L k).ilen (Nat.le_refl _)
      rw [← hfl] at hle
      have hko := kid_ok hft h13
      have hmem : ∀ j x, (fldL L len (k : Nat))[j]? = some x → x < (L k).ilen ∧ ((L k).items x).key = true := fun j x hx => by
        rw [hfl] at hx
        have := List.mem_filter.1 (List.mem_of_getElem? hx)
        exact ⟨List.mem_range.1 this.1, this.2⟩
      have hv := ok_all hok
      have hty := fun x (hx : x < (L k).ilen) => (hv k hk).items (.inl h13) x hx
      have hVI := (valAt_iff T).1 HV
      have HFK := Lib.hid (fun (j x : Nat) (hx : (fldL L len (k : Nat))[j]? = some x) => (show ValWf (T.kid x) ∧ (numK (T.kid x).kind = true ∨ (T.kid x).kind = 10) ∧ (T.kid x).text.size ≤ 255 from by
        have hm := hmem j x hx
        have ho := hko.2 x hm.1
        have hkk := key_kind hok hk h13 hm.1 hm.2
        have hwf := ((valAt_iff (T.kid x)).1 (hVI.2 x (by rw [hko.1]; exact hm.1)).2).1
        refine ⟨hwf, by rw [ho.kind]; exact hkk, ?_⟩
        by_cases c : (L ((L k).items x).type.toNat).kind = 10
        · have h1 := ho.text c
          have h2 := ((hv _ (by have := hty x hm.1; omega)).bound (.inl c)).2
          omega
        · have h1 := (form_parts ho.form).2.1
          rcases h1 with h1 | h1
          · exact absurd (ho.kind.symm.trans h1) c
          · rw [Lib.size_eq, h1]; simp))
      have HCA := Lib.hid (fun j x (hx : (fldL L len (k : Nat))[j]? = some x) wx (hb : Below w.heap.size w wx) => (hVI.2 x (by rw [hko.1]; exact (hmem j x hx).1)).1.next hb)
      have HXL := Lib.hid (fun j x (hx : (fldL L len (k : Nat))[j]? = some x) => (by rw [hko.1]; exact (hmem j x hx).1 : x < T.len))
      rw [e1, hA, e2]
      rw [hE] at hf
      rw [hA] at ht
      obtain ⟨l, hl⟩ : ∃ l, fldL L len (k : Nat) = l := ⟨_, rfl⟩
      rw [hl] at hf hle HFK HCA HXL ⊢
      have hle16 : (keyB T.kid l).length ≤ 16 := by omega
      have HKB := Lib.hid (fun j => (by rw [← keyB_append, List.take_append_drop] : keyB T.kid (l.take j) ++ keyB T.kid (l.drop j) = keyB T.kid l))
      have HKN := Lib.hid (fun j x (hx : l[j]? = some x) => (by
        obtain ⟨h1, h2⟩ := List.getElem?_eq_some_iff.1 hx
        rw [List.take_succ_eq_append_getElem h1, keyB_append, h2]
        show _ ++ (fbL (T.kid x) ++ []) = _
        rw [List.append_nil] : keyB T.kid (l.take (j + 1)) = keyB T.kid (l.take j) ++ fbL (T.kid x)))
      have HKL := Lib.hid (fun j => (by
        have h1 := congrArg List.length (HKB.out j)
        rw [List.length_append] at h1
        omega : (keyB T.kid (l.take j)).length ≤ 16))
      obtain ⟨m, hm⟩ : ∃ m, l.length = m := ⟨_, rfl⟩
      have HLM := Lib.hid hm
      have hml : m ≤ 140737488351232 := by
        have h1 : l = keyF (L k) (L k).ilen := hl.symm.trans hfl
        have h2 := keyF_len (L k) (L k).ilen
        have h3 := ((hv k hk).count (.inl h13)).2
        rw [← hm, h1]; omega
      have HF := Lib.hid hf
      have HT := Lib.hid ht
      have HKO := Lib.hid (fun wx => refKey_any (bs (keyB T.kid l)) (by rw [bs_size]; exact hle16) wx)
      rw [show (bs (keyB T.kid l)).data.toList = keyB T.kid l from rfl] at HKO
      have HALL := Lib.hid (show keyB T.kid (l.take m) = keyB T.kid l by rw [← hm, List.take_length])
      have hkl := kb_len (keyB T.kid l)
      have HS := Lib.hid bs_append
      have hbz := bs_size
      have HS0 := Lib.hid (show bs (keyB T.kid (l.take 0)) = ⟨#[]⟩ from rfl)
      obtain ⟨tia, htia⟩ : ∃ x, T.ia = x := ⟨_, rfl⟩
      have HIA := Lib.hid htia
      obtain ⟨KR, hKR⟩ : ∃ x, kb (keyB T.kid l) = x := ⟨_, rfl⟩
      rw [hKR] at HKO hkl ⊢
      clear hf ht e1 e2 hle hko hmem hv hty hVI hE hA hok h13 h16 hfl hft hl hkk H HV hle16 hm hcp htia hKR
      go_enter Tryz.func10, Tryz.ntmps10
      go_wp2_with (first
        | (go_at_call 8; refine (HF.out _ HO.out.1.2).mono ?_; rintro e w2 ⟨⟨v2, rfl, hv2⟩, hb2⟩; unfold IntsAt at hv2; rw [HLM.out] at hv2; obtain ⟨fa, fc, rfl, hfi⟩ := hv2; have HO2 := Lib.hid (HO.out.step hb2); have HFI := Lib.hid (fun j x wx (hb : Below w2.heap.size w2 wx) (hx : l[j]? = some x) => (hfi j x hx).imp fun b h => h.imp fun off h => And.intro h.1 (keep hb h.2)); have b0 := HO2.out.1.c0; have b1 := HO2.out.1.c1; have b2 := HO2.out.1.c2; have b3 := HO2.out.1.c3; clear hb2 hfi)
        | (go_at_call 20; refine (HT.out _ HO2.out.1.2).mono ?_; rintro e w3 ⟨rfl, hb3⟩; have HO3 := Lib.hid (HO2.out.step hb3); have HB3 := Lib.hid hb3; clear hb3 b0 b1 b2 b3))
      go_loopw [10, 11] (fun b i wr => ∃ j : Nat, j ≤ m ∧ i = .int .i64 j ∧ b = .string (bs (keyB T.kid (l.take j))) ∧ Hid (OIn T w wr) ∧ Hid (Below w2.heap.size w2 wr)) (fun _ i _ => m - (intOf i).toNat)
      case atStart => exact ⟨0, Nat.zero_le _, rfl, by rw [HS0.out], HO3, HB3⟩
      case round =>
        obtain ⟨j, hj, rfl, rfl, HOr, HBr⟩ := hrel
        have hpl := HKL.out j
        obtain ⟨P, hP⟩ : ∃ P, keyB T.kid (l.take j) = P := ⟨_, rfl⟩
        have HP := Lib.hid hP
        rw [hP] at hpl ⊢
        clear hP
        by_cases hlt : j < m
        · obtain ⟨x, hx⟩ : ∃ x, l[j]? = some x := ⟨_, List.getElem?_eq_getElem (by rw [HLM.out]; exact hlt)⟩
          obtain ⟨fb, fo, rfl, c0⟩ := HFI.out j x wr HBr.out hx
          obtain ⟨hwf, hkd, htx⟩ := HFK.out j x hx
          have hxl := HXL.out j x hx
          have HN := Lib.hid (HKN.out j x hx)
          have hpl2 := HKL.out (j + 1)
          rw [HN.out, HP.out, List.length_append] at hpl2
          rw [HP.out] at HN
          have hca := HCA.out j x hx wr HOr.out.1.2
          have c3 := HOr.out.1.c3
          rw [HIA.out] at hca c3
          obtain ⟨cb, co, rfl, _, _, d0, d1, d2, d3⟩ := hca
          obtain ⟨X, hX⟩ : ∃ X, T.kid x = X := ⟨_, rfl⟩
          rw [hX] at hwf hkd htx HN hpl2 d0 d1 d2 d3
          clear hx hX
          go_upto_region 11 with (fail)
          have hAL := (Below.refl wr.heap.size wr).alloc (Nat.le_refl _) (.cells #[.int .i64 0, .int .u64 0, .string ⟨#[]⟩, .slice none 0 0] 26)
          have a0 := keep hAL c0
          have a3 := keep hAL c3
          have e0 := keep hAL d0
          have e1 := keep hAL d1
          have e2 := keep hAL d2
          have e3 := keep hAL d3
          clear hAL
          go_region
          have hA2 := ((Below.refl wr.heap.size wr).alloc (Nat.le_refl _) (.cells #[.int .i64 X.kind, .int .u64 X.num, .string X.text, .slice X.ia X.len X.cap] 26)).drew
          have HI := Lib.hid (show RIn wr.heap.size X T w w2 (wr.alloc (.cells #[.int .i64 X.kind, .int .u64 X.num, .string X.text, .slice X.ia X.len X.cap] 26)).drew from ⟨⟨alloc_at wr _, below_step8' HOr.out.1.2 hA2⟩, HOr.out.step hA2, below_step8' HBr.out hA2⟩)
          clear hA2 a0 a3 e0 e1 e2 e3 c0 c3 d0 d1 d2 d3 HOr HBr
          generalize (wr.alloc (.cells #[.int .i64 X.kind, .int .u64 X.num, .string X.text, .slice X.ia X.len X.cap] 26)).drew = W1 at HI ⊢
          generalize wr.heap.size = g at HI ⊢
          have c0 := HI.out.1.c0
          obtain ⟨Q, hQ⟩ : ∃ Q, fbL X = Q := ⟨_, rfl⟩
          have HSS := HS.out P Q
          by_cases h10 : X.kind = 10
          · have hk1 : (X.kind == 10) = true := by simpa using h10
            have hF : bs [UInt8.ofNat X.text.size] ++ X.text = bs Q := by rw [← hQ]; unfold fbL; rw [if_pos h10, ← one_text]; rfl
            have hb := fun wx => refByte8 ((X.text.size : Nat) : Int) wx (by omega) (by omega)
            simp only [Int.toNat_natCast] at hb
            have HB := Lib.hid hb
            have hz1 : (bs [UInt8.ofNat X.text.size]).size = 1 := rfl
            rw [hQ] at HN hpl2
            obtain ⟨C, hC⟩ : ∃ C : ByteArray, bs [UInt8.ofNat X.text.size] = C := ⟨_, rfl⟩
            rw [hC] at hF HB hz1
            have q1 : ¬ 9223372036854775807 < C.size + X.text.size := by omega
            have q2 : C.size + X.text.size ≤ 9223372036854775807 := by omega
            have q3 : ¬ (9223372036854775807 : Int) < (C.size : Int) + (X.text.size : Int) := by omega
            have q4 : (C.size : Int) + (X.text.size : Int) ≤ 9223372036854775807 := by omega
            have q5 : ¬ 9223372036854775807 < P.length + Q.length := by omega
            have q6 : P.length + Q.length ≤ 9223372036854775807 := by omega
            have q7 : ¬ (9223372036854775807 : Int) < (P.length : Int) + (Q.length : Int) := by omega
            have q8 : (P.length : Int) + (Q.length : Int) ≤ 9223372036854775807 := by omega
            clear hb hC h10 hkd hwf hQ hz1
            go_upto_region 13 with (fail)
            refine wp_region_held_drew (S := (fun w' => w'.cell? ⟨g, 2, none⟩ = some (.string X.text) ∧ Hid (RIn g X T w w2 w'))) (by kernel_rfl) (⟨HI.out.drew.1.c2, Lib.hid HI.out.drew⟩) (fun hHeld => ?_)
            refine wpAnyH_take (i := 0) (oi := { dst := some 50, op := Op.move (Go.Operand.tmp 10), type := 9, pos := "ref.go:54", after := #[], guard := none }) (v := ?_) rfl (by kernel_rfl) (by kernel_rfl) (by kernel_rfl) (fun _ _ _ h => h) (Or.inl ⟨by rfl, ?_⟩) hHeld ?_
            rotate_left 1
            · (intro wx hSw; obtain ⟨q0w, q1w⟩ := hSw; go_simp; try with_reducible rfl)
            try simp only [Act.put, List.setIfInBounds_toArray, List.set_cons_zero, List.set_cons_succ]
            refine wpAnyH_take (i := 1) (oi := { dst := some 51, op := Op.fieldAddr 26 (Go.Operand.tmp 12) 2, type := 0, pos := "ref.go:54", after := #[], guard := none }) (v := ?_) rfl (by kernel_rfl) (by kernel_rfl) (by kernel_rfl) (fun _ _ _ h => h) (Or.inl ⟨by rfl, ?_⟩) hHeld ?_
            rotate_left 1
            · (intro wx hSw; obtain ⟨q0w, q1w⟩ := hSw; go_simp; try with_reducible rfl)
            try simp only [Act.put, List.setIfInBounds_toArray, List.set_cons_zero, List.set_cons_succ]
            refine wpAnyH_take (i := 2) (oi := { dst := some 52, op := Op.load 9 (Go.Operand.tmp 51), type := 9, pos := "ref.go:54", after := #[{ on := 1, ground := Go.Ground.data }], guard := none }) (v := ?_) rfl (by kernel_rfl) (by kernel_rfl) (by kernel_rfl) (fun _ _ _ h => h) (Or.inl ⟨by rfl, ?_⟩) hHeld ?_
            rotate_left 1
            · (intro wx hSw; obtain ⟨q0w, q1w⟩ := hSw; go_simp; try with_reducible rfl)
            try simp only [Act.put, List.setIfInBounds_toArray, List.set_cons_zero, List.set_cons_succ]
            refine wpAnyH_take (i := 3) (oi := { dst := some 53, op := Op.call { callee := Go.Callee.builtin Go.Builtin.len, args := #[Go.Operand.tmp 52], argTypes := #[9] }, type := 3, pos := "ref.go:54", after := #[{ on := 2, ground := Go.Ground.data }], guard := none }) (v := ?_) rfl (by kernel_rfl) (by kernel_rfl) (by kernel_rfl) (fun _ _ _ h => h) (Or.inl ⟨by rfl, ?_⟩) hHeld ?_
            rotate_left 1
            · (intro wx hSw; obtain ⟨q0w, q1w⟩ := hSw; go_simp; try with_reducible rfl)
            try simp only [Act.put, List.setIfInBounds_toArray, List.set_cons_zero, List.set_cons_succ]
            refine wpAnyH_take (i := 5) (oi := { dst := some 55, op := Op.fieldAddr 26 (Go.Operand.tmp 12) 2, type := 0, pos := "ref.go:54", after := #[], guard := none }) (v := ?_) rfl (by kernel_rfl) (by kernel_rfl) (by kernel_rfl) (fun _ _ _ h => h) (Or.inl ⟨by rfl, ?_⟩) hHeld ?_
            rotate_left 1
            · (intro wx hSw; obtain ⟨q0w, q1w⟩ := hSw; go_simp; try with_reducible rfl)
            try simp only [Act.put, List.setIfInBounds_toArray, List.set_cons_zero, List.set_cons_succ]
            refine wpAnyH_take (i := 6) (oi := { dst := some 56, op := Op.load 9 (Go.Operand.tmp 55), type := 9, pos := "ref.go:54", after := #[{ on := 5, ground := Go.Ground.data }], guard := none }) (v := ?_) rfl (by kernel_rfl) (by kernel_rfl) (by kernel_rfl) (fun _ _ _ h => h) (Or.inl ⟨by rfl, ?_⟩) hHeld ?_
            rotate_left 1
            · (intro wx hSw; obtain ⟨q0w, q1w⟩ := hSw; go_simp; try with_reducible rfl)
            try simp only [Act.put, List.setIfInBounds_toArray, List.set_cons_zero, List.set_cons_succ]
            refine wpAnyH_ready (rs := [4]) (by kernel_rfl) (by simp) ?_
            refine AllReadyH.cons (o := { dst := some 54, op := Op.call { callee := Go.Callee.value (Go.Operand.func 21), args := #[Go.Operand.tmp 53], argTypes := #[3] }, type := 9, pos := "ref.go:54", after := #[{ on := 3, ground := Go.Ground.data }], guard := none }) rfl (fun K0 hK0 => ?_) AllReadyH.nil
            go_simp
            (go_at_call 21; (with_reducible refine (HB.out _).mono ?_); rintro e w5 ⟨rfl, hb5⟩)
            refine hK0.out _ _ (⟨keep hb5 hHeld.1, Lib.hid (RIn.step hHeld.2.out hb5)⟩) (fun hHeld => ?_)
            clear hK0 K0
            try simp only [Act.put, List.setIfInBounds_toArray, List.set_cons_zero, List.set_cons_succ]
            refine wpAnyH_take (i := 7) (oi := { dst := some 57, op := Op.binOp Go.BinOp.add 9 (Go.Operand.tmp 54) (Go.Operand.tmp 56) 9, type := 9, pos := "ref.go:54", after := #[{ on := 4, ground := Go.Ground.data }, { on := 6, ground := Go.Ground.data }], guard := none }) (v := ?_) rfl (by kernel_rfl) (by kernel_rfl) (by kernel_rfl) (fun _ _ _ h => h) (Or.inl ⟨by rfl, ?_⟩) hHeld ?_
            rotate_left 1
            · (intro wx hSw; obtain ⟨q0w, q1w⟩ := hSw; go_simp; try with_reducible rfl)
            try simp only [Act.put, List.setIfInBounds_toArray, List.set_cons_zero, List.set_cons_succ]
            refine wpAnyH_take (i := 8) (oi := { dst := some 58, op := Op.binOp Go.BinOp.add 9 (Go.Operand.tmp 50) (Go.Operand.tmp 57) 9, type := 9, pos := "ref.go:54", after := #[{ on := 0, ground := Go.Ground.data }, { on := 7, ground := Go.Ground.data }], guard := none }) (v := ?_) rfl (by kernel_rfl) (by kernel_rfl) (by kernel_rfl) (fun _ _ _ h => h) (Or.inl ⟨by rfl, ?_⟩) hHeld ?_
            rotate_left 1
            · (intro wx hSw; obtain ⟨q0w, q1w⟩ := hSw; go_simp; try with_reducible rfl)
            try simp only [Act.put, List.setIfInBounds_toArray, List.set_cons_zero, List.set_cons_succ]
            refine wpAnyH_take (i := 9) (oi := { dst := some 10, op := Op.assign (Go.Operand.tmp 58), type := 9, pos := "ref.go:54", after := #[{ on := 8, ground := Go.Ground.data }, { on := 4, ground := Go.Ground.chain }, { on := 0, ground := Go.Ground.phase }, { on := 1, ground := Go.Ground.phase }, { on := 2, ground := Go.Ground.phase }, { on := 3, ground := Go.Ground.phase }, { on := 4, ground := Go.Ground.phase }, { on := 5, ground := Go.Ground.phase }, { on := 6, ground := Go.Ground.phase }, { on := 7, ground := Go.Ground.phase }, { on := 8, ground := Go.Ground.phase }], guard := none }) (v := ?_) rfl (by kernel_rfl) (by kernel_rfl) (by kernel_rfl) (fun _ _ _ h => h) (Or.inl ⟨by rfl, ?_⟩) hHeld ?_
            rotate_left 1
            · (intro wx hSw; obtain ⟨q0w, q1w⟩ := hSw; go_simp; try with_reducible rfl)
            try simp only [Act.put, List.setIfInBounds_toArray, List.set_cons_zero, List.set_cons_succ]
            refine wpAnyH_done (by kernel_rfl) ?_ _
            go_wp2
            go_roundw
            case rel => exact ⟨j + 1, by omega, by go_num, by rw [HN.out], Lib.hid hHeld.2.out.2.1, Lib.hid hHeld.2.out.2.2⟩
            case measure => simp [intOf]; omega
          · have hk1 : (X.kind == 10) = false := by simpa using h10
            have hn : numK X.kind = true := hkd.resolve_right h10
            have hlr := low_range (k := X.kind) (n := X.num)
            have hlw : (Lit.int .u64 (lowK X.kind X.num)).wf = true := by
              have e1 : IntKind.u64.min = 0 := rfl
              have e2 : IntKind.u64.max = 18446744073709551615 := rfl
              simp only [Lit.wf, e1, e2, Bool.and_eq_true, decide_eq_true_eq]
              exact hlr
            have hokp := low_ok (n := X.num) hn
            have hz := szK_sz hn
            have hfit : fits (lowK X.kind X.num) (szK X.kind) = true := hokp.2.1
            have HL := Lib.hid (fun wx => (show Calls Tryz.prog 23 #[.int .i64 X.kind, .int .u64 X.num] wx (fun e w' => e = .returned (.int .u64 (lowK X.kind X.num)) ∧ Below wx.heap.size wx w') from (refKLow_any X.kind X.num hwf.2.1 wx).mono (by rintro e w' ⟨rfl, m, rfl⟩; exact ⟨rfl, drewN_below (Below.refl _ _) m⟩)))
            have HZ := Lib.hid (fun wx => (show Calls Tryz.prog 16 #[.int .i64 X.kind] wx (fun e w' => e = .returned (.int .i64 (szK X.kind)) ∧ Below wx.heap.size wx w') from (refSize_any X.kind wx).mono (by rintro e w' ⟨rfl, rfl⟩; exact ⟨rfl, Below.refl _ _⟩)))
            have hp := fun wx => refPut_any (lowK X.kind X.num) (szK X.kind) hlw wx
            rw [(put_in hz hfit).1, (put_in hz hfit).2] at hp
            have hF : putS (lowK X.kind X.num) (szK X.kind) = bs Q := by rw [← hQ]; unfold fbL; rw [if_neg h10]; rfl
            rw [hF] at hp
            have HP2 := Lib.hid hp
            rw [hQ] at HN hpl2
            have c1 := HI.out.1.c1
            clear hp hF hn hlr hlw hokp hz hfit hkd h10 hwf hQ
            obtain ⟨lo, hlo⟩ : ∃ Y, lowK X.kind X.num = Y := ⟨_, rfl⟩
            obtain ⟨sz, hsz⟩ : ∃ Y, szK X.kind = Y := ⟨_, rfl⟩
            rw [hlo] at HP2 HL
            rw [hsz] at HP2 HZ
            clear hlo hsz
            go_upto_region 14 with (fail)
            go_region_held3 (fun w' => w'.cell? ⟨g, 0, none⟩ = some (.int .i64 X.kind) ∧ w'.cell? ⟨g, 1, none⟩ = some (.int .u64 X.num) ∧ Hid (RIn g X T w w2 w')) (first | exact ⟨HI.out.1.c0, HI.out.1.c1, HI⟩ | exact ⟨HI.out.drew.1.c0, HI.out.drew.1.c1, Lib.hid HI.out.drew⟩ | fail)
              (first
                | (go_at_call 23; refine (HL.out _).mono ?_; rintro e w4 ⟨rfl, hb4⟩; have HI := Lib.hid (RIn.step (by first | exact HI.out | exact HI.out.drew) hb4); clear hb4)
                | (go_at_call 16; refine (HZ.out _).mono ?_; rintro e w5 ⟨rfl, hb5⟩; have HI := Lib.hid (RIn.step (by first | exact HI.out | exact HI.out.drew) hb5); clear hb5)
                | (go_at_call 22; refine (HP2.out _).mono ?_; rintro e w6 ⟨rfl, hb6⟩; have HI := Lib.hid (RIn.step (by first | exact HI.out | exact HI.out.drew) hb6); clear hb6))
            all_goals
              go_wp2
              go_roundw
              case rel => exact ⟨j + 1, by omega, by go_num, by rw [HN.out], Lib.hid HI.out.2.1, Lib.hid HI.out.2.2⟩
              case measure => simp [intOf]; omega
        · obtain rfl : j = m := by omega
          have hPX := HP.out
          rw [HALL.out] at hPX
          rw [hPX] at HKO
          clear hPX
          go_wp2_with (first
            | (go_at_call 24; refine (HKO.out _).mono ?_; rintro e w5 ⟨rfl, hb5⟩; have HO5 := Lib.hid (HOr.out.step hb5); clear hb5)
            | (refine wpList_store_rowTo rfl 35 _ _ rfl rfl (w.heap.size + 1) (kc KR) rfl (by rfl) _ _ HO5.out.2 (by rw [kc_size, hkl]; exact infoKey) (by rw [kc_size, kc_size, hkl]; rfl) (kc_one _) ?_))
          refine bodyPost_ret (v := .tuple #[.agg (kc KR), .int .i64 0]) ?_ rfl ⟨rfl, below_setRow HO5.out.1.2 (by omega) _⟩
          have hl := run_loadVar_row (P := Tryz.prog) (w5.setRow (w.heap.size + 1) (kc KR)) (w.heap.size + 1) 35 35 (kc KR) (0, 0) _ (setRow_heap _ _ _ _ _ _ HO5.out.2) Tryz.underlying35 rfl (by rw [kc_size, hkl]; exact infoKey)
          simp [results, Tryz.results10, asAddr, hl]
    · have e2 : keyK L len (k : Nat) T = List.replicate 17 0 := by unfold keyK; rw [e1, if_neg hA]
      rw [e1, e2]
      rw [hE] at hf
      obtain ⟨A, hAA⟩ : ∃ A, fitsA L len (k : Nat) T = A := ⟨_, rfl⟩
      rw [hAA] at ht hA ⊢
      obtain ⟨l, hl⟩ : ∃ l, fldL L len (k : Nat) = l := ⟨_, rfl⟩
      rw [hl] at hf
      have hne : (A != 0) = true := by simpa using hA
      have HF := Lib.hid hf
      obtain ⟨Z, hZ⟩ : ∃ Z, List.replicate 17 (0 : UInt8) = Z := ⟨_, rfl⟩
      have hbd : Tryz.prog.built 35 [] = some (kc Z) := by rw [← hZ]; kernel_rfl
      have hzl : Z.length = 17 := by rw [← hZ]; rfl
      rw [hZ]
      clear hZ
      have HT := Lib.hid ht
      clear hf ht e1 e2 hE hA hAA hok h13 h16 hfl hl H HV hcp
      go_enter Tryz.func10, Tryz.ntmps10
      go_upto_region 6 with (first
        | (go_at_call 8; refine (HF.out _ HO.out.1.2).mono ?_; rintro e w2 ⟨⟨v2, rfl, hv2⟩, hb2⟩; obtain ⟨fa, fc, rfl, hfi⟩ := hv2; have HO2 := Lib.hid (HO.out.step hb2); have HFI := Lib.hid (fun j x wx (hb : Below w2.heap.size w2 wx) (hx : l[j]? = some x) => (hfi j x hx).imp fun b h => h.imp fun off h => And.intro h.1 (keep hb h.2)); have b0 := HO2.out.1.c0; have b1 := HO2.out.1.c1; have b2 := HO2.out.1.c2; have b3 := HO2.out.1.c3; clear hb2 hfi)
        | (go_at_call 20; refine (HT.out _ HO2.out.1.2).mono ?_; rintro e w3 ⟨rfl, hb3⟩; have HO3 := Lib.hid (HO2.out.step hb3); have HB3 := Lib.hid hb3; clear hb3 b0 b1 b2 b3))
      refine wp_region_lit ?_
      refine wpList_buildTo rfl 35 _ rfl (some 31) rfl (kc Z) (by simpa using hbd) ?_
      simp only [Act.put, List.setIfInBounds_toArray, List.set_cons_zero, List.set_cons_succ]
      go_wp2_with (first
        | (refine wpList_store_rowTo rfl 35 _ _ rfl rfl (w.heap.size + 1) (kc Z) rfl (by rfl) _ _ HO3.out.2 (by rw [kc_size, hzl]; exact infoKey) (by rw [kc_size, kc_size, hzl]; rfl) (kc_one _) ?_))
      refine bodyPost_ret (v := .tuple #[.agg (kc Z), .int .i64 A]) ?_ rfl ⟨rfl, below_setRow HO3.out.1.2 (by omega) _⟩
      have hl := run_loadVar_row (P := Tryz.prog) (w3.setRow (w.heap.size + 1) (kc Z)) (w.heap.size + 1) 35 35 (kc Z) (0, 0) _ (setRow_heap _ _ _ _ _ _ HO3.out.2) Tryz.underlying35 rfl (by rw [kc_size, hzl]; exact infoKey)
      simp [results, Tryz.results10, asAddr, hl]
  · have e1 : keyE L len t T = fldE L len t := by unfold keyE; rw [if_pos hE]
    have e2 : keyK L len t T = List.replicate 17 0 := by unfold keyK; rw [e1, if_neg hE]
    rw [e1, e2]
    obtain ⟨A, hAA⟩ : ∃ A, fldE L len t = A := ⟨_, rfl⟩
    rw [hAA] at hf hE ⊢
    obtain ⟨l, hl⟩ : ∃ l, fldL L len t = l := ⟨_, rfl⟩
    rw [hl] at hf
    have hne : (A != 0) = true := by simpa using hE
    have HF := Lib.hid hf
    obtain ⟨Z, hZ⟩ : ∃ Z, List.replicate 17 (0 : UInt8) = Z := ⟨_, rfl⟩
    have hbd : Tryz.prog.built 35 [] = some (kc Z) := by rw [← hZ]; kernel_rfl
    have hzl : Z.length = 17 := by rw [← hZ]; rfl
    rw [hZ]
    clear hZ
    clear hf ht e1 e2 hE hAA hl H HV hcp
    go_enter Tryz.func10, Tryz.ntmps10
    go_upto_region 3 with (first
      | (go_at_call 8; refine (HF.out _ HO.out.1.2).mono ?_; rintro e w2 ⟨⟨v2, rfl, hv2⟩, hb2⟩; obtain ⟨fa, fc, rfl, hfi⟩ := hv2; have HO2 := Lib.hid (HO.out.step hb2); have HFI := Lib.hid (fun j x wx (hb : Below w2.heap.size w2 wx) (hx : l[j]? = some x) => (hfi j x hx).imp fun b h => h.imp fun off h => And.intro h.1 (keep hb h.2)); have b0 := HO2.out.1.c0; have b1 := HO2.out.1.c1; have b2 := HO2.out.1.c2; have b3 := HO2.out.1.c3; clear hb2 hfi))
    refine wp_region_lit ?_
    refine wpList_buildTo rfl 35 _ rfl (some 23) rfl (kc Z) (by simpa using hbd) ?_
    simp only [Act.put, List.setIfInBounds_toArray, List.set_cons_zero, List.set_cons_succ]
    go_wp2_with (first
      | (refine wpList_store_rowTo rfl 35 _ _ rfl rfl (w.heap.size + 1) (kc Z) rfl (by rfl) _ _ HO2.out.2 (by rw [kc_size, hzl]; exact infoKey) (by rw [kc_size, kc_size, hzl]; rfl) (kc_one _) ?_))
    refine bodyPost_ret (v := .tuple #[.agg (kc Z), .int .i64 A]) ?_ rfl ⟨rfl, below_setRow HO2.out.1.2 (by omega) _⟩
    have hl := run_loadVar_row (P := Tryz.prog) (w2.setRow (w.heap.size + 1) (kc Z)) (w.heap.size + 1) 35 35 (kc Z) (0, 0) _ (setRow_heap _ _ _ _ _ _ HO2.out.2) Tryz.underlying35 rfl (by rw [kc_size, hzl]; exact infoKey)
    simp [results, Tryz.results10, asAddr, hl]
end Go.Proofs.YtinmdkhafamibaaGreat
