/- Parse: the tree of a text, or what is wrong with it first. -/
import Derived.Test.YtbejpgoedenpmaaGreatDoorExprNot
import Derived.Test.YtbejpgoedenpmaaGreatDoorExprTok
import Derived.Test.YtbejpgoedenpmaaGreatDoorTokCode
namespace Go.Proofs.YtbejpgoedenpmaaGreatDoor
open Go.RowKit
set_option linter.unusedVariables false
def zeroX : Value := .agg #[.int .i64 0, .int .i64 0, .slice none 0 0, .slice none 0 0]
/-- what Parse answers -/
def ParseTo (w : World) (A : Tree) (x : Ending) (w' : World) : Prop := Below w.heap.size w w' ∧ match A with
  | .bad e a => x = .returned (.tuple #[.agg #[.int .i64 0, .int .i64 0, .slice none 0 0, .slice none 0 0], .agg #[.int .i64 (e : Nat), .int .i64 (a : Nat)]])
  | .good t => ∃ T : XT, x = .returned (.tuple #[.agg #[.int .i64 T.op, .int .i64 T.rel, .slice T.aa T.an T.ac, .slice T.ka T.kn T.kc], .agg #[.int .i64 0, .int .i64 0]]) ∧ SameX T t ∧ XAt w' (fun b => w.heap.size ≤ b) T
theorem endParse {V : World} {act : Act} {Q : Ending → World → Prop} {a0 a1 a2 a3 f0 f1 : Value} (hd : act.defers = []) (rb fb : Nat) (h2 : act.tmps.getD 2 undef = .pointer (some ⟨rb, 0, none⟩)) (h3 : act.tmps.getD 3 undef = .pointer (some ⟨fb, 0, none⟩)) (hr : V.heap[rb]? = some (.cells #[a0, a1, a2, a3] 25)) (hf : V.heap[fb]? = some (.cells #[f0, f1] 28))
    (hQ : Q (.returned (.tuple #[.agg #[a0, a1, a2, a3], .agg #[f0, f1]])) V) : bodyPost Tryz.prog Tryz.f6 Q Exit.ret act V := by
  refine bodyPost_ret (v := .tuple #[.agg #[a0, a1, a2, a3], .agg #[f0, f1]]) ?_ hd hQ
  have hl2 := run_loadVar_row (P := Tryz.prog) V rb 25 25 #[a0, a1, a2, a3] _ _ hr Tryz.underlying25 rfl (by kernel_rfl)
  have hl3 := run_loadVar_row (P := Tryz.prog) V fb 28 28 #[f0, f1] _ _ hf Tryz.underlying28 rfl (by kernel_rfl)
  rw [Array.getD_eq_getD_getElem?] at h2 h3
  simp [results, Tryz.results6, asAddr, hl2, hl3, h2, h3]
theorem put42p {W : World} {rb fb : Nat} {o0 o1 o2 o3 p0 p1 : Value} {t u : TypeId} (hz : W.heap[rb]? = some (.cells #[o0, o1, o2, o3] t)) (hy : W.heap[fb]? = some (.cells #[p0, p1] u)) (hne : rb ≠ fb) (a0 a1 a2 a3 f0 f1 : Value) :
    (((set4 W rb a0 a1 a2 a3).setCell ⟨fb, 0, none⟩ f0).setCell ⟨fb, 1, none⟩ f1).heap[rb]? = some (.cells #[a0, a1, a2, a3] t) ∧ (((set4 W rb a0 a1 a2 a3).setCell ⟨fb, 0, none⟩ f0).setCell ⟨fb, 1, none⟩ f1).heap[fb]? = some (.cells #[f0, f1] u) := by
  have h4 := put4 hz a0 a1 a2 a3
  have h5 := (only4 (b := rb) (S := fun k => k = rb) (Only.refl _ W) (.inl rfl) a0 a1 a2 a3).same hy (fun e => hne e.symm)
  generalize set4 W rb a0 a1 a2 a3 = V at *
  exact ⟨(set_other (p := ⟨fb, 1, none⟩) hne).trans ((set_other (p := ⟨fb, 0, none⟩) hne).trans h4), set_at (j := 1) (set_at (j := 0) h5)⟩
theorem put42 {W : World} {rb fb : Nat} {o0 o1 o2 o3 p0 p1 : Value} {t u : TypeId} (hz : W.heap[rb]? = some (.cells #[o0, o1, o2, o3] t)) (hy : W.heap[fb]? = some (.cells #[p0, p1] u)) (hne : rb ≠ fb) (a0 a1 a2 a3 f0 f1 : Value) :
    (((set4 W rb a0 a1 a2 a3).setCell ⟨fb, 0, none⟩ f0).setCell ⟨fb, 1, none⟩ f1).drew.heap[rb]? = some (.cells #[a0, a1, a2, a3] t) ∧ (((set4 W rb a0 a1 a2 a3).setCell ⟨fb, 0, none⟩ f0).setCell ⟨fb, 1, none⟩ f1).drew.heap[fb]? = some (.cells #[f0, f1] u) := by
  have h4 := put4 hz a0 a1 a2 a3
  have h5 := (only4 (b := rb) (S := fun k => k = rb) (Only.refl _ W) (.inl rfl) a0 a1 a2 a3).same hy (fun e => hne e.symm)
  generalize set4 W rb a0 a1 a2 a3 = V at *
  exact ⟨(set_other (p := ⟨fb, 1, none⟩) hne).trans ((set_other (p := ⟨fb, 0, none⟩) hne).trans h4), set_at (j := 1) (set_at (j := 0) h5)⟩
theorem below42 {w W : World} {N rb fb : Nat} (hB : Below N w W) (hr : N ≤ rb) (hf : N ≤ fb) (a0 a1 a2 a3 f0 f1 : Value) : Below N w (((set4 W rb a0 a1 a2 a3).setCell ⟨fb, 0, none⟩ f0).setCell ⟨fb, 1, none⟩ f1) :=
  (((((hB.setCell (p := ⟨rb, 0, none⟩) hr _).setCell (p := ⟨rb, 1, none⟩) hr _).setCell (p := ⟨rb, 2, none⟩) hr _).setCell (p := ⟨rb, 3, none⟩) hr _).setCell (p := ⟨fb, 0, none⟩) hf _).setCell (p := ⟨fb, 1, none⟩) hf _
abbrev W2 (w : World) : World := (w.alloc (.cells #[.int .i64 0, .int .i64 0, .slice none 0 0, .slice none 0 0] 25)).alloc (.cells #[.int .i64 0, .int .i64 0] 28)
theorem w2_facts (w : World) : Below w.heap.size w (W2 w) ∧ (W2 w).heap[w.heap.size]? = some (.cells #[.int .i64 0, .int .i64 0, .slice none 0 0, .slice none 0 0] 25) ∧ (W2 w).heap[w.heap.size + 1]? = some (.cells #[.int .i64 0, .int .i64 0] 28) ∧ (W2 w).heap.size = w.heap.size + 2 := by
  refine ⟨((Below.refl w.heap.size w).alloc (Nat.le_refl _) _).alloc (by simp) _, alloc_old (alloc_at w _), ?_, by simp⟩
  have := alloc_at (w.alloc (.cells #[.int .i64 0, .int .i64 0, .slice none 0 0, .slice none 0 0] 25)) (.cells #[.int .i64 0, .int .i64 0] 28)
  have e : (w.alloc (.cells #[.int .i64 0, .int .i64 0, .slice none 0 0, .slice none 0 0] 25)).heap.size = w.heap.size + 1 := by simp
  rw [e] at this
  exact this
set_option maxRecDepth 100000 in
set_option maxHeartbeats 1000000 in
theorem parse_bad (s : ByteArray) (e a : Nat) (he : e ≠ 0) (w : World) (hT : Calls Tryz.prog 16 #[.string s] (W2 w) (AnsTo (W2 w) (.bad e a))) :
    Calls Tryz.prog 6 #[.string s] w (ParseTo w (.bad e a)) := by
  have hf := w2_facts w
  have HF := Lib.hid hf
  have HT := Lib.hid hT
  have q2 : (((e : Nat) : Int) != 0) = true := by simp; omega
  clear hf hT
  go_enter Tryz.func6, Tryz.ntmps6
  go_wp2_with (go_at_call 16; refine (HT.out).mono ?_; rintro x w1 ⟨rfl, hb1⟩; have HW1 := Lib.hid (And.intro (rowKeep hb1 HF.out.2.1) (And.intro (rowKeep hb1 HF.out.2.2.1) (bthen HF.out.1 hb1))); clear hb1)
  obtain ⟨h1, h2, h3⟩ := HW1.out
  have hz := alloc_old (o := (.cells #[.int .i64 (e : Nat), .int .i64 (a : Nat)] 28)) h1
  have hy := alloc_old (o := (.cells #[.int .i64 (e : Nat), .int .i64 (a : Nat)] 28)) h2
  have hx := alloc_at w1 (.cells #[.int .i64 (e : Nat), .int .i64 (a : Nat)] 28)
  have hB := h3.alloc h3.size (.cells #[.int .i64 (e : Nat), .int .i64 (a : Nat)] 28)
  have s1 := lt_of_block h1
  have s2 := lt_of_block h2
  obtain ⟨b5, hb5⟩ : ∃ b, w1.heap.size = b := ⟨_, rfl⟩
  rw [hb5] at hx s1 s2 ⊢
  generalize w1.alloc (.cells #[.int .i64 (e : Nat), .int .i64 (a : Nat)] 28) = W at *
  clear h1 h2 h3 HW1 hb5
  have c0 : W.cell? ⟨b5, 0, none⟩ = some (.int .i64 (e : Nat)) := cell_at hx rfl
  have c1 : W.cell? ⟨b5, 1, none⟩ = some (.int .i64 (a : Nat)) := cell_at hx rfl
  have r0 : W.cell? ⟨w.heap.size, 0, none⟩ = some (.int .i64 0) := cell_at hz rfl
  have f0 := free_at (j := 0) hz
  have r1 : W.cell? ⟨w.heap.size, 1, none⟩ = some (.int .i64 0) := cell_at hz rfl
  have f1 := free_at (j := 1) hz
  have r2 : W.cell? ⟨w.heap.size, 2, none⟩ = some (.slice none 0 0) := cell_at hz rfl
  have f2 := free_at (j := 2) hz
  have r3 : W.cell? ⟨w.heap.size, 3, none⟩ = some (.slice none 0 0) := cell_at hz rfl
  have f3 := free_at (j := 3) hz
  have g0 : W.cell? ⟨w.heap.size + 1, 0, none⟩ = some (.int .i64 0) := cell_at hy rfl
  have g1 : W.cell? ⟨w.heap.size + 1, 1, none⟩ = some (.int .i64 0) := cell_at hy rfl
  have k0 := free_at (j := 0) hy
  have k1 := free_at (j := 1) hy
  have HZ := Lib.hid hz
  have HY := Lib.hid hy
  have HB := Lib.hid hB
  clear hz hy hx hB
  go_region
  all_goals go_wp2_with (fail)
  all_goals
    have hP := put42 HZ.out HY.out (by omega) (.int .i64 0) (.int .i64 0) (.slice none 0 0) (.slice none 0 0) (.int .i64 (e : Nat)) (.int .i64 (a : Nat))
    exact endParse rfl w.heap.size (w.heap.size + 1) rfl rfl hP.1 hP.2 ⟨(below42 HB.out (Nat.le_refl _) (by omega) _ _ _ _ _ _).drew, rfl⟩

theorem parse_or (w1 : World) (ao : Option Addr) (cap : Nat) (L : List Tk) (hv : Vd L) (hL : L.length ≤ 65) (hat : ∀ i, i < L.length → TkAt w1 ao i (atV L i)) (hcap : L.length ≤ cap) :
    Calls Tryz.prog 17 #[.pointer (some ⟨w1.heap.size + 1, 0, none⟩), .int .i64 0] ((w1.alloc (.cells #[.int .i64 0, .int .i64 0] 28)).alloc (.cells #[.slice ao L.length cap] 42)) (fun x w' => ∃ tb, tb < w1.heap.size ∧ XTo ((w1.alloc (.cells #[.int .i64 0, .int .i64 0] 28)).alloc (.cells #[.slice ao L.length cap] 42)) (w1.heap.size + 1) tb (orP 8 L) x w') := by
  obtain ⟨tb, off, rfl, hlt, ht⟩ := toks_row hv.pos hat
  have hb0 : Below w1.heap.size w1 (w1.alloc (.cells #[.int .i64 0, .int .i64 0] 28)) := (Below.refl _ _).alloc (Nat.le_refl _) _
  have hb1 : Below w1.heap.size w1 ((w1.alloc (.cells #[.int .i64 0, .int .i64 0] 28)).alloc (.cells #[.slice (some ⟨tb, off, none⟩) L.length cap] 42)) := hb0.alloc hb0.size _
  have hx := alloc_at (w1.alloc (.cells #[.int .i64 0, .int .i64 0] 28)) (.cells #[.slice (some ⟨tb, off, none⟩) L.length cap] 42)
  have e : (w1.alloc (.cells #[.int .i64 0, .int .i64 0] 28)).heap.size = w1.heap.size + 1 := by simp
  rw [e] at hx
  have hp : PAt ((w1.alloc (.cells #[.int .i64 0, .int .i64 0] 28)).alloc (.cells #[.slice (some ⟨tb, off, none⟩) L.length cap] 42)) (w1.heap.size + 1) tb L := ⟨by omega, by have := hb1.size; omega, off, cap, hx, hcap, ht.held (hb1.block tb hlt)⟩
  exact (orC_any (w1.heap.size + 1) tb 8 0 rfl L _ hp hv (by omega)).mono fun x w' h => ⟨tb, hlt, h⟩
end Go.Proofs.YtbejpgoedenpmaaGreatDoor
