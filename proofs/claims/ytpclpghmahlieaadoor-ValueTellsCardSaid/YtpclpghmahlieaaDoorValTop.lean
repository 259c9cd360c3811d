/- Contracts of package value: the writer's value, Text. -/
import Derived.Test.YtpclpghmahlieaaDoorValText
namespace Go.Proofs.YtpclpghmahlieaaDoor
open Go.RowKit
set_option linter.unusedVariables false
theorem TabB.wide {B B' : Nat} {w : World} (h : TabB B w) (hB : B ≤ B') : TabB B' w := fun w' hb => h w' (hb.mono hB)
theorem CellsAt.below {w w' : World} {S : Nat → Prop} {ao : Option Addr} {i B : Nat} {T : VT} (h : CellsAt w S ao i T) (hb : Below B w w') (hS : ∀ b, S b → b < B) : CellsAt w' S ao i T :=
  h.held (fun _ s => s) hb.size (fun b s _ => hb.block b (hS b s))
theorem ValAt.old {w : World} {S : Nat → Prop} : ∀ T : VT, ValAt w S T → ValAt w (fun b => b < w.heap.size) T := by
  refine VT.ind fun T ih h => ?_
  obtain ⟨h1, h2⟩ := (valAt_iff T).1 h
  refine (valAt_iff T).2 ⟨h1, fun i hi => ⟨?_, ih i hi (h2 i hi).2⟩⟩
  obtain ⟨b, off, e, hs, hl, hc⟩ := (h2 i hi).1
  exact ⟨b, off, e, hl, hl, hc⟩
theorem valueW_any (S : Nat → Prop) (B b : Nat) (hS : ∀ b, S b → b < B) : ∀ (T : VT) (l : List UInt8) (w : World), ValAt w S T → TxtAt 41 B b l w → TabB B w → l.length + 24 * greatT T ≤ 1099511627776 → B ≤ w.heap.size → CValTo T B b l w := by
  refine VT.ind fun T ih l w H h htab hlen hBw => ?_
  obtain ⟨hw, hk⟩ := (valAt_iff T).1 H
  have hwf := valAt_wf T H
  obtain ⟨h0, h1, hwk⟩ := (wfN_iff T).1 hwf
  exact value_step S T B b l w hw hwk h0 h1 (fun i hi wx hb => (hk i hi).1.below hb hS)
    (fun i hi l' wx hb hx hl => ih i hi l' wx ((hk i hi).2.held hb hS) hx (htab.on hb) hl (by have := hb.size; omega)) h htab hlen hBw
theorem dec_ne (n : Nat) : Lib.decDigits n ≠ [] := by
  intro h
  have := Lib.nDigits_pos n
  have h2 := Lib.decDigits_length n
  rw [h] at h2
  simp at h2; omega
theorem text_nonempty (T : VT) : textT T ≠ [] := by
  rw [textT_eq]
  unfold textOf
  split
  · simp
  · split
    · simp
    · split
      · simp
      · split
        · simp
        · unfold datL
          split
          · split <;> simp [trueL, falseL]
          · split
            · split
              · simp
              · exact dec_ne _
            · simp
def CTextTo (T : VT) (w : World) : Prop := Calls Tryd.prog 14 #[.agg #[.int .i64 T.kind, .int .u64 T.num, .string T.text, .slice T.ia T.len T.cap]] w fun e w' => e = .returned (.string ⟨(textT T).toArray⟩) ∧ Below w.heap.size w w'
set_option maxHeartbeats 2000000 in
theorem text8_any (S : Nat → Prop) (T : VT) (w : World) (H : ValAt w S T) (hg : greatT T ≤ 1000000) (htab : Tab w) : CTextTo T w := by
  have hb0 := (Below.refl w.heap.size w).alloc (Nat.le_refl _) (valO T)
  have es : (w.alloc (valO T)).heap.size = w.heap.size + 1 := by simp
  have hb1 := hb0.alloc (by rw [es]; omega) (.cells #[.pointer none, .slice none 0 0] 41)
  have hB := Lib.hid hb1
  have hx : TxtAt 41 (w.alloc (valO T)).heap.size (w.alloc (valO T)).heap.size [] ((w.alloc (valO T)).alloc (.cells #[.pointer none, .slice none 0 0] 41)) := Lib.fresh_isBuilder _ _ _
  rw [es] at hx
  have HV := Lib.hid (valueW_any (fun b => b < w.heap.size) (w.heap.size + 1) (w.heap.size + 1) (fun b hb => by omega) T [] _ ((ValAt.old T H).next hb1) hx (((TabB.of htab (Nat.le_refl _)).on hb1).wide (by omega)) (by simp only [List.length_nil]; omega) (by simp))
  have hne := text_nonempty T
  unfold CValTo at HV
  rw [List.nil_append] at HV
  unfold CTextTo
  obtain ⟨t, ht⟩ : ∃ t, textT T = t := ⟨_, rfl⟩
  rw [ht] at HV hne ⊢
  have HS := Lib.hid (fun wx (hx : TxtAt 41 (w.heap.size + 1) (w.heap.size + 1) t wx) => string8 41 liesWriter (w.heap.size + 1) (w.heap.size + 1) t wx hx hne)
  unfold valO at HV hB
  clear ht H htab hb0 hb1 hx hne es
  go_enter Tryd.func14, Tryd.ntmps14
  go_wp2_with (first
    | (go_at_call 19; refine (HV.out).mono ?_; rintro e w2 ⟨rfl, ht2, hb2, hk2⟩; have HT2 := Lib.hid ht2; have HB2 := Lib.hid (hB.out.trans (hb2.mono (by omega))); clear ht2 hb2 hk2)
    | (go_at_call 20; refine (HS.out _ HT2.out).mono ?_; rintro e w3 ⟨rfl, hb3⟩; have HB3 := Lib.hid (HB2.out.trans (hb3.mono (by omega))); clear hb3))
  go_ret
  exact ⟨rfl, HB3.out⟩
end Go.Proofs.YtpclpghmahlieaaDoor
