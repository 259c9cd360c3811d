/- Contracts of package fits: checkUnion, (list).check, Fits; chapter 9's example. -/
import Derived.Test.YtficmdomnilhnaaGreatFitsCheck
namespace Go.Proofs.YtficmdomnilhnaaGreat
open Go.RowKit
set_option linter.unusedVariables false
set_option maxHeartbeats 1000000 in
theorem union9_any (ao : Option Addr) (len cap : Nat) (L : Nat → TypeV) (hlen : len ≤ 1000000) (t : Nat) (ht : t < len) (T : VT) (hl : T.len ≤ 2513169434843) (hn : (Lit.int .u64 T.num).wf = true) (hcp : (L t).ilen ≤ (L t).icap) (k : Nat) (htg : (L t).tag = k) (hk : k < len) (x : Int) (w : World) (H : ∀ i, i < len → TypeAt w ao i (L i))
    (hA : ∀ a c g1 g2 wx, Below w.heap.size w wx → wx.cell? ⟨g1, 0, none⟩ = some (.slice ao len cap) → wx.cell? ⟨g2, 0, none⟩ = some (.slice a (brN (L t) T.num) c) → (∀ i, i < brN (L t) T.num → ItemAt wx a i ((L t).items ((branchZ (L t) T.num).toNat + i))) →
      Calls Tryz.prog 43 #[.int .i64 (brN (L t) T.num : Nat), .slice T.ia T.len T.cap, .func (.func 70) #[] #[.pointer (some ⟨g1, 0, none⟩), .pointer (some ⟨g2, 0, none⟩)]] wx fun e w' => e = .returned (.int .i64 x) ∧ Below wx.heap.size wx w') :
    Calls Tryz.prog 45 #[.slice ao len cap, .int .i64 t, .agg #[.int .i64 T.kind, .int .u64 T.num, .string T.text, .slice T.ia T.len T.cap]] w fun e w' => e = .returned (.int .i64 (if numE9 L k T.num ≠ 0 then numE9 L k T.num else x)) ∧ Below w.heap.size w w' := by
  have HN := Lib.hid (fun wx (hb : Below w.heap.size w wx) => num9_any ao len cap L hlen k hk T.num hn wx (hold H hb))
  have HBR := Lib.hid (fun wx (hb : Below w.heap.size w wx) => branch9_any ao len cap L hlen t ht T.num hcp wx (hold H hb))
  have HA := Lib.hid hA
  obtain ⟨b, off, rfl, c0, c1, c2, c3, c4, c5, wf, hi⟩ := H t ht
  rw [htg] at c4
  have hbl : b < w.heap.size := World.block_lt_of_cell? w _ c0
  have hne : ¬ b = w.heap.size := by omega
  obtain ⟨N, hN⟩ : ∃ N, numE9 L k T.num = N := ⟨_, rfl⟩
  rw [hN] at HN ⊢
  obtain ⟨R, hR⟩ : ∃ R, (if N ≠ 0 then N else x) = R := ⟨_, rfl⟩
  rw [hR]
  have HR := Lib.hid hR
  clear hR
  obtain ⟨m, hm⟩ : ∃ m, brN (L t) T.num = m := ⟨_, rfl⟩
  rw [hm] at HBR HA
  obtain ⟨I, hI⟩ : ∃ I : Nat → ItemV, (fun i => (L t).items ((branchZ (L t) T.num).toNat + i)) = I := ⟨_, rfl⟩
  have HBR2 := Lib.hid (show ∀ wx, Below w.heap.size w wx → Calls Tryz.prog 71 #[.slice (some ⟨b, off, none⟩) len cap, .int .i64 t, .int .u64 T.num] wx fun e w' => ∃ a c, e = .returned (.slice a m c) ∧ Hid (∀ i, i < m → ItemAt w' a i (I i)) ∧ Below wx.heap.size wx w' from fun wx hb => (HBR.out wx hb).mono fun _ _ ⟨a, c, h1, h2, h3⟩ => ⟨a, c, h1, Lib.hid (by subst hI; exact h2), h3⟩)
  have hml : m ≤ 1 := by rw [← hm]; unfold brN; split <;> omega
  have HA2 := Lib.hid (show ∀ a c g1 g2 wx, Below w.heap.size w wx → wx.cell? ⟨g1, 0, none⟩ = some (.slice (some ⟨b, off, none⟩) len cap) → wx.cell? ⟨g2, 0, none⟩ = some (.slice a m c) → (∀ i, i < m → ItemAt wx a i (I i)) → Calls Tryz.prog 43 #[.int .i64 m, .slice T.ia T.len T.cap, .func (.func 70) #[] #[.pointer (some ⟨g1, 0, none⟩), .pointer (some ⟨g2, 0, none⟩)]] wx fun e w' => e = .returned (.int .i64 x) ∧ Below wx.heap.size wx w' from fun a c g1 g2 wx h1 h2 h3 h4 => HA.out a c g1 g2 wx h1 h2 h3 (by subst hI; exact h4))
  clear HBR HA hI hm hN hi wf c1 c2 c3 c5 H hA hn hcp htg
  have HB := Lib.hid ((Below.refl w.heap.size w).alloc (Nat.le_refl _) (.cells #[.int .i64 T.kind, .int .u64 T.num, .string T.text, .slice T.ia T.len T.cap] 26))
  have HQ := Lib.hid (alloc_at w (.cells #[.int .i64 T.kind, .int .u64 T.num, .string T.text, .slice T.ia T.len T.cap] 26))
  have c4 := keep HB.out c4
  go_enter Tryz.func45, Tryz.ntmps45
  go_wp2_with fail
  generalize w.alloc (.cells #[.int .i64 T.kind, .int .u64 T.num, .string T.text, .slice T.ia T.len T.cap] 26) = W0 at *
  have d1 : W0.cell? ⟨w.heap.size, 1, none⟩ = some (.int .u64 T.num) := cell_at HQ.out rfl
  have d3 : W0.cell? ⟨w.heap.size, 3, none⟩ = some (.slice T.ia T.len T.cap) := cell_at HQ.out rfl
  go_region_held3 (fun w' => w'.cell? ⟨b, off + t * 6 + 4, none⟩ = some (.int .i64 k) ∧ w'.cell? ⟨w.heap.size, 1, none⟩ = some (.int .u64 T.num) ∧ w'.cell? ⟨w.heap.size, 3, none⟩ = some (.slice T.ia T.len T.cap))
    (first | exact ⟨c4, d1, d3⟩ | fail)
    (first | (go_at_call 46; refine (HN.out _ (by first | exact HB.out | exact HB.out.drew)).mono ?_; rintro e w1 ⟨rfl, hb1⟩; have HB1 := Lib.hid (below_step8' (by first | exact HB.out | exact HB.out.drew) hb1); have c4 := keep hb1 (by exact c4); have d1 := keep hb1 (by exact d1); have d3 := keep hb1 (by exact d3)))
  by_cases hN0 : N = 0
  · have hN0' : (N != 0) = false := by simpa using hN0
    have HF := Lib.hid (show x = R by rw [← HR.out, if_neg (by simpa using hN0)])
    clear hN0 HR
    go_wp2_with (go_at_call 71; refine (HBR2.out _ (by first | exact HB1.out | exact HB1.out.drew)).mono ?_; rintro e w2 ⟨a, c, rfl, HIT, hb2⟩; have HB2 := Lib.hid (below_step8' (by first | exact HB1.out | exact HB1.out.drew) hb2); have d3 := keep hb2 (by exact d3); clear hb2)
    have HM := Lib.hid (memb9_any (some ⟨b, off, none⟩) len cap a m c)
    go_region_held3 (fun w' => w'.cell? ⟨w.heap.size, 3, none⟩ = some (.slice T.ia T.len T.cap))
      (first | exact d3 | fail)
      (first
        | (go_at_call 44; refine (HM.out _).mono ?_; rintro e w3 ⟨g1, g2, rfl, q1, q2, hb3⟩; have HI3 := Lib.hid (show ∀ i, i < m → ItemAt w3 a i (I i) from fun i hi => (HIT.out i hi).held (by first | exact hb3 | exact (Below.refl _ _).drew.trans (hb3.mono (by simp)))); have HB3 := Lib.hid (below_step8' (by first | exact HB2.out | exact HB2.out.drew) hb3); have d3 := keep hb3 (by exact d3))
        | (go_at_call 43; refine (HA2.out _ _ _ _ _ (by first | exact HB3.out | exact HB3.out.drew) (by first | exact q1 | (rw [World.cell?_drew]; exact q1)) (by first | exact q2 | (rw [World.cell?_drew]; exact q2)) (by first | exact HI3.out | exact fun i hi => (HI3.out i hi).held (Below.refl _ _).drew)).mono ?_; rintro e w4 ⟨rfl, hb4⟩; have HB4 := Lib.hid (below_step8' (by first | exact HB3.out | exact HB3.out.drew) hb4); have d3 := keep hb4 (by exact d3)))
    go_wp2
    go_ret
    exact ⟨ret_i HF.out, HB4.out⟩
  · have hN0' : (N != 0) = true := by simpa using hN0
    have HF := Lib.hid (show N = R by rw [← HR.out, if_pos hN0])
    clear hN0 HR
    go_wp2
    go_ret
    exact ⟨ret_i HF.out, HB1.out⟩
def CFitTo (L : Nat → TypeV) (ao : Option Addr) (len cap : Nat) (T : VT) (t : Nat) (w : World) : Prop :=
  Calls Tryz.prog 25 #[.slice ao len cap, .int .i64 t, .agg #[.int .i64 T.kind, .int .u64 T.num, .string T.text, .slice T.ia T.len T.cap]] w fun e w' => e = .returned (.int .i64 (fitsT L T t)) ∧ Below w.heap.size w w'
theorem fits_leaf {L : Nat → TypeV} {T : VT} {t : Nat} (h : T.len = 0) : fitsT L T t = headE L t T := by
  rw [fitsT_eq, h, firstE_zero]
  by_cases c : headE L t T ≠ 0
  · rw [if_pos c]
  · rw [if_neg c]; exact (Classical.not_not.1 c).symm
theorem form_len {T : VT} (hf : formT T = true) (h : T.kind = 10 ∨ (1 ≤ T.kind ∧ T.kind < 10)) : T.len = 0 := by
  unfold formT at hf
  simp only [Bool.and_eq_true, Bool.or_eq_true, Bool.not_eq_true', beq_iff_eq, beq_eq_false_iff_ne] at hf
  obtain ⟨_, _, hl⟩ := hf
  rcases hl with ⟨h1, h2⟩ | h3
  · rcases h with h | h
    · exact absurd h h2
    · have : numK T.kind = true := by unfold numK; simp; omega
      rw [this] at h1; cases h1
  · omega
/-- a closure's calls, Item by Item -/
theorem elems9 {L : Nat → TypeV} {ao : Option Addr} {len cap : Nat} {S : Nat → Prop} {T : VT} {t p : Nat} {w : World} (HV : ValAt w S T) (HI : ∀ i, i < T.len → ∀ p, p < len → ∀ wx, Below w.heap.size w wx → CFitTo L ao len cap (T.kid i) p wx) (hp : p < len) (hpt : ∀ i, i < T.len → partT L t T.num i = p)
    {g1 g2 : Nat} {wx : World} (hb : Below w.heap.size w wx) (h1 : wx.cell? ⟨g1, 0, none⟩ = some (.slice ao len cap)) (h2 : wx.cell? ⟨g2, 0, none⟩ = some (.int .i64 p)) :
    Calls Tryz.prog 68 #[.slice T.ia T.len T.cap, .func (.func 69) #[] #[.pointer (some ⟨g1, 0, none⟩), .pointer (some ⟨g2, 0, none⟩)]] wx fun r w' => r = .returned (.int .i64 (firstE (fun i => fitsT L (T.kid i) (partT L t T.num i)) T.len)) ∧ Below wx.heap.size wx w' := by
  refine each9_any T.ia T.len T.cap T.kid S _ _ _ (val_len HV) wx (fun i hi wy hy => (kids_at HV (below_step8' hb hy) hi).1) eElem9 (fun i hi W hW => ?_)
  refine elemF9_any ao len cap p i (T.kid i) g1 g2 _ W (keep hW h1) (keep hW h2) (fun wy hy => ?_)
  rw [hpt i hi]
  exact HI i hi p hp wy (below_step8' (below_step8' hb hW) hy)
theorem membs9 {L : Nat → TypeV} {ao : Option Addr} {len cap : Nat} {S : Nat → Prop} {T : VT} {t : Nat} {w : World} (HV : ValAt w S T) (HI : ∀ i, i < T.len → ∀ p, p < len → ∀ wx, Below w.heap.size w wx → CFitTo L ao len cap (T.kid i) p wx)
    {ia : Option Addr} {n c : Nat} {I : Nat → ItemV} (hn : n ≤ 3518437208780) (hln : T.len = n) (hpt : ∀ i, i < T.len → (I i).type = (partT L t T.num i : Nat) ∧ partT L t T.num i < len)
    {g1 g2 : Nat} {wx : World} (hb : Below w.heap.size w wx) (hIt : ∀ i, i < n → ItemAt wx ia i (I i)) (h1 : wx.cell? ⟨g1, 0, none⟩ = some (.slice ao len cap)) (h2 : wx.cell? ⟨g2, 0, none⟩ = some (.slice ia n c)) :
    Calls Tryz.prog 68 #[.slice T.ia T.len T.cap, .func (.func 70) #[] #[.pointer (some ⟨g1, 0, none⟩), .pointer (some ⟨g2, 0, none⟩)]] wx fun r w' => r = .returned (.int .i64 (firstE (fun i => fitsT L (T.kid i) (partT L t T.num i)) T.len)) ∧ Below wx.heap.size wx w' := by
  refine each9_any T.ia T.len T.cap T.kid S _ _ _ (val_len HV) wx (fun i hi wy hy => (kids_at HV (below_step8' hb hy) hi).1) eMemb9 (fun i hi W hW => ?_)
  refine membF9_any ao len cap ia n c i (I i) (T.kid i) g1 g2 _ hn (by omega) W (keep hW h1) (keep hW h2) ((hIt i (by omega)).held hW) (fun wy hy => ?_)
  rw [(hpt i hi).1]
  exact HI i hi _ (hpt i hi).2 wy (below_step8' (below_step8' hb hW) hy)
theorem head_unf {L : Nat → TypeV} {T : VT} {t : Nat} (hk : T.kind = (L t).kind) (hf : formT T = true) : headE L t T = (if (L t).kind = 10 then textE T.text (L t).bound
  else if (L t).kind = 11 then (if (L t).bound < T.len then 3 else 0)
  else if (L t).kind = 12 then (if (T.len : Int) ≠ (L t).bound then 18 else 0)
  else if (L t).kind = 13 then (if T.len ≠ (L t).ilen then 18 else 0)
  else if (L t).kind = 14 then (if numE9 L (L t).tag.toNat T.num ≠ 0 then numE9 L (L t).tag.toNat T.num else if T.len ≠ brN (L t) T.num then 18 else 0)
  else numE9 L t T.num) := by
  unfold headE
  rw [if_neg (by simpa using hk), if_neg (by rw [hf]; decide)]
theorem check9_any (ao : Option Addr) (len cap : Nat) (L : Nat → TypeV) (hlen : len ≤ 1000000) (hv : ∀ i, i < len → OkT L i) (hcp : ∀ i, i < len → (L i).ilen ≤ (L i).icap) (S : Nat → Prop) :
    ∀ (T : VT) (t : Nat) (w : World), ValAt w S T → (∀ i, i < len → TypeAt w ao i (L i)) → t < len → CFitTo L ao len cap T t w := by
  refine VT.ind fun T ih t w HV H ht => ?_
  have HI := fun i (hi : i < T.len) p (hp : p < len) wx (hb : Below w.heap.size w wx) => ih i hi p wx (kids_at HV hb hi).2 (hold H hb) hp
  have hX := H t ht
  have hl := val_len HV
  have hwf := ((valAt_iff T).1 HV).1
  have okt := hv t ht
  obtain ⟨bX, offX, haoX, _, _, _, _, _, _, wfX, hiX⟩ := H t ht
  unfold CFitTo
  by_cases hk : T.kind = (L t).kind
  case neg =>
    have e : headE L t T = 4 := by unfold headE; rw [if_pos hk]
    rw [fits_head (by rw [e]; decide), e]
    exact chk_kind ao len cap t T (L t) hlen ht hl w hX hk
  cases hf : formT T with
  | false =>
    have e : headE L t T = 1 := by unfold headE; rw [if_neg (by simpa using hk), if_pos hf]
    rw [fits_head (by rw [e]; decide), e]
    exact chk_form ao len cap t T (L t) hlen ht hl w hX hk hf
  | true =>
    have eh := head_unf (L := L) (t := t) hk hf
    by_cases h10 : (L t).kind = 10
    · rw [if_pos h10] at eh
      rw [fits_leaf (form_len hf (.inl (hk.trans h10))), eh]
      exact chk_text ao len cap t T (L t) hlen ht hl w hX hk hf h10 _ (fun wx hb => (text9_any T.text (L t).bound hwf.2.2.1 wx).mono fun _ _ ⟨h1, h2⟩ => ⟨h1, h2 ▸ Below.refl _ _⟩)
    rw [if_neg h10] at eh
    by_cases h11 : (L t).kind = 11
    · rw [if_pos h11] at eh
      have ho := okt.of (.inl h11)
      obtain ⟨p, hp⟩ := Int.eq_ofNat_of_zero_le ho.1
      have hpt : ∀ i, i < T.len → partT L t T.num i = p := fun i _ => by unfold partT; rw [if_neg (by omega), if_neg (by omega), hp]; rfl
      have e : fitsT L T t = if (L t).bound < T.len then 3 else firstE (fun i => fitsT L (T.kid i) (partT L t T.num i)) T.len := by
        rw [fitsT_eq]
        by_cases c : (L t).bound < T.len
        · rw [if_pos c] at eh; rw [eh, if_pos (by decide), if_pos c]
        · rw [if_neg c] at eh; rw [eh, if_neg (by decide), if_neg c]
      rw [e]
      refine chk_seq ao len cap t T (L t) hlen ht hl w hX hk hf h11 hiX.1 _ (fun g1 g2 wx hb q1 q2 => ?_)
      exact upTo9_any _ T.ia T.len T.cap hl _ _ _ wx (elems9 HV HI (by omega) hpt hb q1 (by rw [q2, hp]))
    rw [if_neg h11] at eh
    by_cases h12 : (L t).kind = 12
    · rw [if_pos h12] at eh
      have ho := okt.of (.inr h12)
      obtain ⟨p, hp⟩ := Int.eq_ofNat_of_zero_le ho.1
      have hpt : ∀ i, i < T.len → partT L t T.num i = p := fun i _ => by unfold partT; rw [if_neg (by omega), if_neg (by omega), hp]; rfl
      have e : fitsT L T t = if (T.len : Int) ≠ (L t).bound then 18 else firstE (fun i => fitsT L (T.kid i) (partT L t T.num i)) T.len := by
        rw [fitsT_eq]
        by_cases c : (T.len : Int) ≠ (L t).bound
        · rw [if_pos c] at eh; rw [eh, if_pos (by decide), if_pos c]
        · rw [if_neg c] at eh; rw [eh, if_neg (by decide), if_neg c]
      rw [e]
      refine chk_array ao len cap t T (L t) hlen ht hl w hX hk hf h12 hiX.1 _ (fun g1 g2 wx hb q1 q2 => ?_)
      exact all9_any _ T.ia T.len T.cap hl _ _ _ wx (fun _ => elems9 HV HI (by omega) hpt hb q1 (by rw [q2, hp]))
    rw [if_neg h12] at eh
    by_cases h13 : (L t).kind = 13
    · rw [if_pos h13] at eh
      have e : fitsT L T t = if (T.len : Int) ≠ ((L t).ilen : Nat) then 18 else firstE (fun i => fitsT L (T.kid i) (partT L t T.num i)) T.len := by
        rw [fitsT_eq]
        by_cases c : T.len ≠ (L t).ilen
        · rw [if_pos c] at eh; rw [eh, if_pos (by decide), if_pos (by omega)]
        · rw [if_neg c] at eh; rw [eh, if_neg (by decide), if_neg (by omega)]
      rw [e]
      refine chk_struct ao len cap t T (L t) hlen ht hl w hX hk hf h13 hiX.1 _ (fun g1 g2 wx hb q1 q2 => ?_)
      refine all9_any _ T.ia T.len T.cap hl _ _ _ wx (fun hln => ?_)
      refine membs9 HV HI (I := (L t).items) hiX.1 (by omega) (fun i hi => ?_) hb (hiX.held hb).2 q1 q2
      have h2 := okt.items (.inl h13) i (by omega)
      unfold partT
      rw [if_pos h13]
      omega
    rw [if_neg h13] at eh
    by_cases h14 : (L t).kind = 14
    · rw [if_pos h14] at eh
      have htg := okt.tag h14
      obtain ⟨k, hkt⟩ := Int.eq_ofNat_of_zero_le htg.1
      rw [hkt, Int.toNat_natCast] at eh
      have e : fitsT L T t = if numE9 L k T.num ≠ 0 then numE9 L k T.num else if (T.len : Int) ≠ (brN (L t) T.num : Nat) then 18 else firstE (fun i => fitsT L (T.kid i) (partT L t T.num i)) T.len := by
        rw [fitsT_eq]
        by_cases c : numE9 L k T.num ≠ 0
        · rw [if_pos c] at eh; rw [eh, if_pos c, if_pos c]
        · rw [if_neg c] at eh
          rw [if_neg c]
          by_cases c : T.len ≠ brN (L t) T.num
          · rw [if_pos c] at eh; rw [eh, if_pos (by decide), if_pos (by omega)]
          · rw [if_neg c] at eh; rw [eh, if_neg (by decide), if_neg (by omega)]
      rw [e]
      refine chk_union ao len cap t T (L t) hlen ht hl w hX hk hf h14 _ (fun wx hb => ?_)
      refine union9_any ao len cap L hlen t ht T hl hwf.2.1 (hcp t ht) k hkt (by omega) _ wx (hold H hb) (fun a c g1 g2 wy hy q1 q2 hit => ?_)
      refine all9_any _ T.ia T.len T.cap hl _ _ _ wy (fun hln => ?_)
      have hbr : brN (L t) T.num ≤ 1 := by unfold brN; split <;> omega
      refine membs9 HV HI (I := fun i => (L t).items ((branchZ (L t) T.num).toNat + i)) (by omega) (by omega) (fun i hi => ?_) (below_step8' hb hy) hit q1 q2
      have hz : 0 ≤ branchZ (L t) T.num := by
        unfold brN at hln
        split at hln
        · rename_i ho; unfold okZ at ho; simpa using ho
        · omega
      have hz2 := branchZ_lt hz
      have h2 := okt.items (.inr h14) ((branchZ (L t) T.num).toNat + i) (by omega)
      unfold partT
      rw [if_neg h13, if_pos h14]
      omega
    rw [if_neg h14] at eh
    have hk14 := okt.kind
    rw [fits_leaf (form_len hf (.inr (by omega))), eh]
    exact chk_num ao len cap t T (L t) hlen ht hl w hX hk hf (by omega) _ (fun wx hb => num9_any ao len cap L hlen t ht T.num hwf.2.1 wx (hold H hb))
theorem fits9_any (ao : Option Addr) (len cap : Nat) (L : Nat → TypeV) (hlen : len ≤ 1000000) (hcap : len ≤ cap) (hcp : ∀ i, i < len → (L i).ilen ≤ (L i).icap) (S : Nat → Prop) (t : Int) (T : VT) (w : World) (HV : ValAt w S T) (H : ∀ i, i < len → TypeAt w ao i (L i)) :
    Calls Tryz.prog 12 #[.slice ao len cap, .int .i64 t, .agg #[.int .i64 T.kind, .int .u64 T.num, .string T.text, .slice T.ia T.len T.cap]] w fun e w' => e = .returned (.int .i64 (fitsA L len t T)) ∧ Below w.heap.size w w' := by
  have HH := Lib.hid (fun wx (hb : Below w.heap.size w wx) => has9_any ao len cap L t hlen hcap wx (hold H hb))
  have HB := Lib.hid ((Below.refl w.heap.size w).alloc (Nat.le_refl _) (.cells #[.int .i64 T.kind, .int .u64 T.num, .string T.text, .slice T.ia T.len T.cap] 26))
  have HQ := Lib.hid (alloc_at w (.cells #[.int .i64 T.kind, .int .u64 T.num, .string T.text, .slice T.ia T.len T.cap] 26))
  unfold fitsA
  cases hT : hasT L len t with
  | true =>
    obtain ⟨k, rfl, hk, hok⟩ := hasT_in hT
    rw [if_pos rfl, Int.toNat_natCast]
    rw [hT] at HH
    have hv := ok_all hok
    have HC := Lib.hid (fun wx (hb : Below w.heap.size w wx) => check9_any ao len cap L hlen hv hcp S T k wx (HV.next hb) (hold H hb) hk)
    unfold CFitTo at HC
    obtain ⟨x, hx⟩ : ∃ x, fitsT L T k = x := ⟨_, rfl⟩
    rw [hx] at HC ⊢
    clear hx hT hok hv HV H
    go_enter Tryz.func12, Tryz.ntmps12
    go_wp2_with (first
      | (go_at_call 24; refine (HH.out _ HB.out).mono ?_; rintro e w1 ⟨rfl, hb1⟩; have HB1 := Lib.hid (below_step8' HB.out hb1); have HQ1 := Lib.hid (box_keep HQ.out hb1); have d0 : w1.cell? ⟨w.heap.size, 0, none⟩ = some (.int .i64 T.kind) := cell_at HQ1.out rfl; have d1 : w1.cell? ⟨w.heap.size, 1, none⟩ = some (.int .u64 T.num) := cell_at HQ1.out rfl; have d2 : w1.cell? ⟨w.heap.size, 2, none⟩ = some (.string T.text) := cell_at HQ1.out rfl; have d3 : w1.cell? ⟨w.heap.size, 3, none⟩ = some (.slice T.ia T.len T.cap) := cell_at HQ1.out rfl; clear hb1)
      | (go_at_call 25; refine (HC.out _ HB1.out).mono ?_; rintro e w2 ⟨rfl, hb2⟩; have HB2 := Lib.hid (below_step8' HB1.out hb2); clear hb2))
    go_ret
    exact ⟨rfl, HB2.out⟩
  | false =>
    rw [if_neg (by decide)]
    rw [hT] at HH
    clear hT HV H
    go_enter Tryz.func12, Tryz.ntmps12
    go_wp2_with (go_at_call 24; refine (HH.out _ HB.out).mono ?_; rintro e w1 ⟨rfl, hb1⟩; have HB1 := Lib.hid (below_step8' HB.out hb1); clear hb1)
    go_ret
    exact ⟨rfl, HB1.out⟩
end Go.Proofs.YtficmdomnilhnaaGreat
