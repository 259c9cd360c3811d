/- Parse, behind the tokens. -/
import Derived.Test.YtjgdkiikkgdbaaaGreatDoorQ22
namespace Go.Proofs.YtjgdkiikkgdbaaaGreatDoor
open Go.RowKit
set_option linter.unusedVariables false
/-- Parse's world behind the tokens -/
structure PS (w : World) (bp tb : Nat) (l : List Tk) (W : World) : Prop where
  res : W.heap[w.heap.size]? = some (.cells #[.int .i64 0, .int .i64 0, .slice none 0 0, .slice none 0 0] 25)
  flt : W.heap[w.heap.size + 1]? = some (.cells #[.int .i64 0, .int .i64 0] 38)
  be : Below w.heap.size w W
  pat : PAt W bp tb l
  lt : w.heap.size + 1 < bp
theorem PS.next {w W V : World} {bp tb : Nat} {l : List Tk} (h : PS w bp tb l W) (hb : Below W.heap.size W V) : PS w bp tb l V := ⟨rowKeep hb h.res, rowKeep hb h.flt, bthen h.be hb, h.pat.next hb, h.lt⟩
theorem ps3 {w w1 w3 : World} {tb n cap : Nat} {ao : Option Addr} {l : List Tk} (h : w1.heap[w.heap.size]? = some (.cells #[.int .i64 0, .int .i64 0, .slice none 0 0, .slice none 0 0] 25) ∧ w1.heap[w.heap.size + 1]? = some (.cells #[.int .i64 0, .int .i64 0] 38) ∧ Below w.heap.size w w1) (ho : Only (fun k => k = w1.heap.size + 1) ((w1.alloc (.cells #[.int .i64 0, .int .i64 0] 38)).alloc (.cells #[.slice ao n cap] 59)) w3) (hp : PAt w3 (w1.heap.size + 1) tb l) : PS w (w1.heap.size + 1) tb l w3 := by
  have s2 := lt_of_block h.2.1
  have hb := (h.2.2.alloc h.2.2.size (.cells #[.int .i64 0, .int .i64 0] 38))
  have hb2 := hb.alloc hb.size (.cells #[.slice ao n cap] 59)
  refine ⟨ho.same (alloc_old (alloc_old h.1)) (by omega), ho.same (alloc_old (alloc_old h.2.1)) (by omega), hb2.trans (ho.below (fun k hk => by omega) hb2.size), hp, by omega⟩
theorem tok_ne {W : World} {tb off b : Nat} {x : Tk} {cs : Array Value} {u : TypeId} (h : W.heap[b]? = some (.cells cs u)) (hs : ∀ (i : Nat) (s : ByteArray), cs[i]? ≠ some (.string s)) (hh : LiesAt W tb off (tkCs x)) : tb ≠ b := by
  intro e
  subst e
  have h1 := hh 1 _ rfl
  simp [World.cell?, h] at h1
  exact hs _ _ h1
theorem noStr4 : ∀ (i : Nat) (s : ByteArray), (#[.int .i64 0, .int .i64 0, .slice none 0 0, .slice none 0 0] : Array Value)[i]? ≠ some (.string s) := by
  intro i s
  match i with
  | 0 => simp
  | 1 => simp
  | 2 => simp
  | 3 => simp
  | i + 4 => simp
theorem noStr2 : ∀ (i : Nat) (s : ByteArray), (#[.int .i64 0, .int .i64 0] : Array Value)[i]? ≠ some (.string s) := by
  intro i s
  match i with
  | 0 => simp
  | 1 => simp
  | i + 2 => simp
theorem xat42 {W : World} {S : Nat → Prop} {T : XT} {rb fb : Nat} (h : XAt W S T) (hS : ∀ b, S b → b < W.heap.size → b ≠ rb ∧ b ≠ fb) (a0 a1 a2 a3 f0 f1 : Value) : XAt (((set4 W rb a0 a1 a2 a3).setCell ⟨fb, 0, none⟩ f0).setCell ⟨fb, 1, none⟩ f1) S T := by
  have h4 := only4 (b := rb) (S := fun k => k = rb ∨ k = fb) (Only.refl _ W) (.inl (.inl rfl)) a0 a1 a2 a3
  have h6 := (h4.setCell (p := ⟨fb, 0, none⟩) (.inl (.inr rfl)) f0).setCell (p := ⟨fb, 1, none⟩) (.inl (.inr rfl)) f1
  exact h.only h6 (fun b hb hl e => by have := hS b hb hl; omega)
set_option maxRecDepth 100000 in
set_option maxHeartbeats 4000000 in
theorem parse_err (s : ByteArray) (L : List Tk) (hv : Vd L) (hL : L.length ≤ 65) (e0 : Nat) (l0 : List Tk) (hor : orP 8 L = .err e0 l0) (w : World) (hT : Calls Tryz.prog 26 #[.string s] (W2 w) (AnsTo (W2 w) (.good L))) :
    Calls Tryz.prog 12 #[.string s] w (ParseTo w (.bad e0 (hd l0).a)) := by
  have hf := w2_facts w
  have HF := Lib.hid hf
  have HT := Lib.hid hT
  have hless := orP_less 8 L hv (by omega)
  have HOR := Lib.hid (fun (w1 : World) (ao : Option Addr) (cap : Nat) (hat : ∀ i, i < L.length → TkAt w1 ao i (atV L i)) (hcap : L.length ≤ cap) => parse_or w1 ao cap L hv hL hat hcap)
  rw [hor] at HOR hless
  have q1 : (((e0 : Nat) : Int) == 0) = false := beq_eq_false_iff_ne.2 (by have := hless.2.2; omega)
  have q2 : (((e0 : Nat) : Int) != 0) = true := by have := hless.2.2; simp; omega
  have hp0 := hless.1.pos
  clear hf hT hor hv
  go_enter Tryz.func12, Tryz.ntmps12
  clear hless
  go_wp2_with (first
    | (go_at_call 27; refine (HOR.out w1 ao cap HAT.out hcap1).mono ?_; rintro x w3 ⟨tb, htb, hx3⟩; obtain ⟨T, e3, l3, rfl, hp3, ho3, hxt3, ha3⟩ := hx3.cases; obtain ⟨he3, hl3, hT3⟩ := ha3.err_of; subst hl3; subst he3; clear hT3; have HS3 := Lib.hid (ps3 HW1.out ho3 hp3); have hbig := ho3.size; have hbig1 := HS3.out.lt; have HXT := Lib.hid (hxt3.next ((Below.refl _ _).alloc (Nat.le_refl _) (.cells #[.int .i64 T.op, .int .i64 T.rel, .slice T.aa T.an T.ac, .slice T.ka T.kn T.kc] 25))); have HS3b := Lib.hid (HS3.out.next ((Below.refl _ _).alloc (Nat.le_refl _) (.cells #[.int .i64 T.op, .int .i64 T.rel, .slice T.aa T.an T.ac, .slice T.ka T.kn T.kc] 25))); have HBX3 := Lib.hid (alloc_at w3 (.cells #[.int .i64 T.op, .int .i64 T.rel, .slice T.aa T.an T.ac, .slice T.ka T.kn T.kc] 25)); clear hx3 hp3 ho3 hxt3 ha3)
    | (go_at_call 26; refine (HT.out).mono ?_; rintro x w1 ⟨⟨ao, cap, rfl, hat, hcap1⟩, hb1⟩; have HAT := Lib.hid hat; have HW1 := Lib.hid (And.intro (rowKeep hb1 HF.out.2.1) (And.intro (rowKeep hb1 HF.out.2.2.1) (bthen HF.out.1 hb1))); clear hb1 hat))
  have HS := HS3b
  generalize w3.alloc (.cells #[.int .i64 T.op, .int .i64 T.rel, .slice T.aa T.an T.ac, .slice T.ka T.kn T.kc] 25) = W at *
  clear HS3b HS3 HW1 HAT HXT HBX3 HT HF HOR hbig
  obtain ⟨bp, hbp⟩ : ∃ bp, w1.heap.size + 1 = bp := ⟨_, rfl⟩
  rw [hbp] at HS ⊢
  obtain ⟨_, _, off, cp, hbx, hcap, htk⟩ := HS.out.pat
  have p0 : W.cell? ⟨bp, 0, none⟩ = some (.slice (some ⟨tb, off, none⟩) l3.length cp) := cell_at hbx rfl
  have hh := htk.head hp0
  have z1 : ¬ tb = w.heap.size := tok_ne HS.out.res noStr4 hh
  have z2 : ¬ tb = w.heap.size + 1 := tok_ne HS.out.flt noStr2 hh
  have z3 : ¬ w.heap.size = tb := fun e => z1 e.symm
  have z4 : ¬ w.heap.size + 1 = tb := fun e => z2 e.symm
  have t3 : W.cell? ⟨tb, off + 3, none⟩ = some (.int .i64 ((hd l3).a : Nat)) := hh 3 _ rfl
  obtain ⟨n, hn⟩ : ∃ n, l3.length = n := ⟨_, rfl⟩
  rw [hn] at p0 hp0 hcap
  obtain ⟨A, hA⟩ : ∃ A, (hd l3).a = A := ⟨_, rfl⟩
  rw [hA] at t3
  have HA := Lib.hid hA
  clear hA
  clear hh htk hbx hn
  have hzz := HS.out.res
  obtain ⟨r0, f0, r1, f1, r2, f2, r3, f3⟩ := bf4 hzz
  clear hzz
  have hzz := HS.out.flt
  have g0 : W.cell? ⟨w.heap.size + 1, 0, none⟩ = some (.int .i64 0) := cell_at hzz rfl
  have k0 := free_at (j := 0) hzz
  have g1 : W.cell? ⟨w.heap.size + 1, 1, none⟩ = some (.int .i64 0) := cell_at hzz rfl
  have k1 := free_at (j := 1) hzz
  clear hzz
  go_region
  all_goals go_wp2_with (fail)
  all_goals
    have hP := put42 HS.out.res HS.out.flt (by omega) (.int .i64 0) (.int .i64 0) (.slice none 0 0) (.slice none 0 0) (.int .i64 (e3 : Nat)) (.int .i64 (A : Nat))
    exact endParse rfl w.heap.size (w.heap.size + 1) rfl rfl hP.1 hP.2 ⟨(below42 HS.out.be (Nat.le_refl _) (by omega) _ _ _ _ _ _).drew, (by rw [← HA.out])⟩
set_option maxRecDepth 100000 in
set_option maxHeartbeats 4000000 in
theorem parse_good (s : ByteArray) (L : List Tk) (hv : Vd L) (hL : L.length ≤ 65) (t0 : XT) (l0 : List Tk) (hor : orP 8 L = .ok t0 l0) (h6 : (Cl.kd 6).test (hd l0) = true) (w : World) (hT : Calls Tryz.prog 26 #[.string s] (W2 w) (AnsTo (W2 w) (.good L))) :
    Calls Tryz.prog 12 #[.string s] w (ParseTo w (.good t0)) := by
  have hf := w2_facts w
  have HF := Lib.hid hf
  have HT := Lib.hid hT
  have hless := orP_less 8 L hv (by omega)
  have HOR := Lib.hid (fun (w1 : World) (ao : Option Addr) (cap : Nat) (hat : ∀ i, i < L.length → TkAt w1 ao i (atV L i)) (hcap : L.length ≤ cap) => parse_or w1 ao cap L hv hL hat hcap)
  rw [hor] at HOR hless
  have hl0 := hless.1
  have hp0 := hl0.pos
  have h099 : l0.length ≤ 99 := by have := hless.2; omega
  have HAT6 := Lib.hid (show ∀ (bp tb : Nat) (v : Value) wx, PAt wx bp tb l0 → ClAt wx (.kd 6) v → Calls Tryz.prog 28 #[.pointer (some ⟨bp, 0, none⟩), v] wx fun e w' => e = .returned (.bool true) ∧ Below wx.heap.size wx w' from fun bp tb v wx hp2 hc => by have := at_any bp tb l0 (.kd 6) v wx hp2 hc hp0 h099 (Short.hd hl0.short); rwa [h6] at this)
  clear hf hT hor hv
  go_enter Tryz.func12, Tryz.ntmps12
  clear hless h6 hl0
  go_wp2_with (first
    | (go_at_call 28; refine (HAT6.out _ _ _ _ HS4.out.pat HC4.out).mono ?_; rintro e w5 ⟨rfl, hb5⟩; have HS5 := Lib.hid (HS4.out.next hb5); have HB35 := Lib.hid (bthen HB34.out hb5); have hbx5 := rowKeep HB35.out HBX3.out; obtain ⟨c0, c1, c2, c3⟩ := bx4 hbx5; clear hbx5; have hzz := HS5.out.res; obtain ⟨r0, f0, r1, f1, r2, f2, r3, f3⟩ := bf4 hzz; clear hzz; have hzz := HS5.out.flt; have g0 : w5.cell? ⟨w.heap.size + 1, 0, none⟩ = some (.int .i64 0) := cell_at hzz rfl; have k0 := free_at (j := 0) hzz; have g1 : w5.cell? ⟨w.heap.size + 1, 1, none⟩ = some (.int .i64 0) := cell_at hzz rfl; have k1 := free_at (j := 1) hzz; clear hzz; clear hb5)
    | (go_at_call 29; refine (kindF_any 6 _).mono ?_; rintro e w4 ⟨g4, lb4, rfl, hc4, hb4⟩; have HS4 := Lib.hid (HS3b.out.next hb4); have HB34 := Lib.hid hb4; have HC4 := Lib.hid hc4; clear hc4 hb4)
    | (go_at_call 27; refine (HOR.out w1 ao cap HAT.out hcap1).mono ?_; rintro x w3 ⟨tb, htb, hx3⟩; obtain ⟨T, e3, l3, rfl, hp3, ho3, hxt3, ha3⟩ := hx3.cases; obtain ⟨he3, hl3, hs3⟩ := ha3.ok_of; subst hl3; subst he3; have HSM := Lib.hid hs3; clear hs3; have HS3 := Lib.hid (ps3 HW1.out ho3 hp3); have hbig := ho3.size; have hbig1 := HS3.out.lt; have HXT := Lib.hid (hxt3.next ((Below.refl _ _).alloc (Nat.le_refl _) (.cells #[.int .i64 T.op, .int .i64 T.rel, .slice T.aa T.an T.ac, .slice T.ka T.kn T.kc] 25))); have HS3b := Lib.hid (HS3.out.next ((Below.refl _ _).alloc (Nat.le_refl _) (.cells #[.int .i64 T.op, .int .i64 T.rel, .slice T.aa T.an T.ac, .slice T.ka T.kn T.kc] 25))); have HBX3 := Lib.hid (alloc_at w3 (.cells #[.int .i64 T.op, .int .i64 T.rel, .slice T.aa T.an T.ac, .slice T.ka T.kn T.kc] 25)); clear hx3 hp3 ho3 hxt3 ha3)
    | (go_at_call 26; refine (HT.out).mono ?_; rintro x w1 ⟨⟨ao, cap, rfl, hat, hcap1⟩, hb1⟩; have HAT := Lib.hid hat; have HW1 := Lib.hid (And.intro (rowKeep hb1 HF.out.2.1) (And.intro (rowKeep hb1 HF.out.2.2.1) (bthen HF.out.1 hb1))); clear hb1 hat))
  have hP := put42p HS5.out.res HS5.out.flt (by omega) (.int .i64 T.op) (.int .i64 T.rel) (.slice T.aa T.an T.ac) (.slice T.ka T.kn T.kc) (.int .i64 0) (.int .i64 0)
  refine endParse rfl w.heap.size (w.heap.size + 1) rfl rfl hP.1 hP.2 ⟨below42 HS5.out.be (Nat.le_refl _) (by omega) _ _ _ _ _ _, T, rfl, HSM.out, ?_⟩
  have hx := xat42 (rb := w.heap.size) (fb := w.heap.size + 1) (HXT.out.next HB35.out) (fun b hb hl => by simp at hb; omega) (.int .i64 T.op) (.int .i64 T.rel) (.slice T.aa T.an T.ac) (.slice T.ka T.kn T.kc) (.int .i64 0) (.int .i64 0)
  exact hx.sub (fun b hb hl => by simp at hb; omega)
set_option maxRecDepth 100000 in
set_option maxHeartbeats 4000000 in
theorem parse_tail (s : ByteArray) (L : List Tk) (hv : Vd L) (hL : L.length ≤ 65) (t0 : XT) (l0 : List Tk) (hor : orP 8 L = .ok t0 l0) (h6 : (Cl.kd 6).test (hd l0) = false) (w : World) (hT : Calls Tryz.prog 26 #[.string s] (W2 w) (AnsTo (W2 w) (.good L))) :
    Calls Tryz.prog 12 #[.string s] w (ParseTo w (.bad 11 (hd l0).a)) := by
  have hf := w2_facts w
  have HF := Lib.hid hf
  have HT := Lib.hid hT
  have hless := orP_less 8 L hv (by omega)
  have HOR := Lib.hid (fun (w1 : World) (ao : Option Addr) (cap : Nat) (hat : ∀ i, i < L.length → TkAt w1 ao i (atV L i)) (hcap : L.length ≤ cap) => parse_or w1 ao cap L hv hL hat hcap)
  rw [hor] at HOR hless
  have hl0 := hless.1
  have hp0 := hl0.pos
  have h099 : l0.length ≤ 99 := by have := hless.2; omega
  have HAT6 := Lib.hid (show ∀ (bp tb : Nat) (v : Value) wx, PAt wx bp tb l0 → ClAt wx (.kd 6) v → Calls Tryz.prog 28 #[.pointer (some ⟨bp, 0, none⟩), v] wx fun e w' => e = .returned (.bool false) ∧ Below wx.heap.size wx w' from fun bp tb v wx hp2 hc => by have := at_any bp tb l0 (.kd 6) v wx hp2 hc hp0 h099 (Short.hd hl0.short); rwa [h6] at this)
  clear hf hT hor hv
  go_enter Tryz.func12, Tryz.ntmps12
  clear hless h6 hl0
  go_wp2_with (first
    | (go_at_call 28; refine (HAT6.out _ _ _ _ HS4.out.pat HC4.out).mono ?_; rintro e w5 ⟨rfl, hb5⟩; have HS5 := Lib.hid (HS4.out.next hb5); have HB35 := Lib.hid (bthen HB34.out hb5); skip; clear hb5)
    | (go_at_call 29; refine (kindF_any 6 _).mono ?_; rintro e w4 ⟨g4, lb4, rfl, hc4, hb4⟩; have HS4 := Lib.hid (HS3b.out.next hb4); have HB34 := Lib.hid hb4; have HC4 := Lib.hid hc4; clear hc4 hb4)
    | (go_at_call 27; refine (HOR.out w1 ao cap HAT.out hcap1).mono ?_; rintro x w3 ⟨tb, htb, hx3⟩; obtain ⟨T, e3, l3, rfl, hp3, ho3, hxt3, ha3⟩ := hx3.cases; obtain ⟨he3, hl3, hs3⟩ := ha3.ok_of; subst hl3; subst he3; have HSM := Lib.hid hs3; clear hs3; have HS3 := Lib.hid (ps3 HW1.out ho3 hp3); have hbig := ho3.size; have hbig1 := HS3.out.lt; have HXT := Lib.hid (hxt3.next ((Below.refl _ _).alloc (Nat.le_refl _) (.cells #[.int .i64 T.op, .int .i64 T.rel, .slice T.aa T.an T.ac, .slice T.ka T.kn T.kc] 25))); have HS3b := Lib.hid (HS3.out.next ((Below.refl _ _).alloc (Nat.le_refl _) (.cells #[.int .i64 T.op, .int .i64 T.rel, .slice T.aa T.an T.ac, .slice T.ka T.kn T.kc] 25))); have HBX3 := Lib.hid (alloc_at w3 (.cells #[.int .i64 T.op, .int .i64 T.rel, .slice T.aa T.an T.ac, .slice T.ka T.kn T.kc] 25)); clear hx3 hp3 ho3 hxt3 ha3)
    | (go_at_call 26; refine (HT.out).mono ?_; rintro x w1 ⟨⟨ao, cap, rfl, hat, hcap1⟩, hb1⟩; have HAT := Lib.hid hat; have HW1 := Lib.hid (And.intro (rowKeep hb1 HF.out.2.1) (And.intro (rowKeep hb1 HF.out.2.2.1) (bthen HF.out.1 hb1))); clear hb1 hat))
  have HS := HS5
  clear HS5 HS4 HS3b HS3 HW1 HAT HXT HBX3 HT HF HOR HAT6 HSM HB35 HB34 HC4 hbig
  obtain ⟨bp, hbp⟩ : ∃ bp, w1.heap.size + 1 = bp := ⟨_, rfl⟩
  rw [hbp] at HS ⊢
  obtain ⟨_, _, off, cp, hbx, hcap, htk⟩ := HS.out.pat
  have p0 : w5.cell? ⟨bp, 0, none⟩ = some (.slice (some ⟨tb, off, none⟩) l3.length cp) := cell_at hbx rfl
  have hh := htk.head hp0
  have z1 : ¬ tb = w.heap.size := tok_ne HS.out.res noStr4 hh
  have z2 : ¬ tb = w.heap.size + 1 := tok_ne HS.out.flt noStr2 hh
  have z3 : ¬ w.heap.size = tb := fun e => z1 e.symm
  have z4 : ¬ w.heap.size + 1 = tb := fun e => z2 e.symm
  have t3 : w5.cell? ⟨tb, off + 3, none⟩ = some (.int .i64 ((hd l3).a : Nat)) := hh 3 _ rfl
  obtain ⟨n, hn⟩ : ∃ n, l3.length = n := ⟨_, rfl⟩
  rw [hn] at p0 hp0 hcap
  obtain ⟨A, hA⟩ : ∃ A, (hd l3).a = A := ⟨_, rfl⟩
  rw [hA] at t3
  have HA := Lib.hid hA
  clear hA
  clear hh htk hbx hn
  have hzz := HS.out.res
  obtain ⟨r0, f0, r1, f1, r2, f2, r3, f3⟩ := bf4 hzz
  clear hzz
  have hzz := HS.out.flt
  have g0 : w5.cell? ⟨w.heap.size + 1, 0, none⟩ = some (.int .i64 0) := cell_at hzz rfl
  have k0 := free_at (j := 0) hzz
  have g1 : w5.cell? ⟨w.heap.size + 1, 1, none⟩ = some (.int .i64 0) := cell_at hzz rfl
  have k1 := free_at (j := 1) hzz
  clear hzz
  go_region
  all_goals go_wp2_with (fail)
  all_goals
    have hP := put42 HS.out.res HS.out.flt (by omega) (.int .i64 0) (.int .i64 0) (.slice none 0 0) (.slice none 0 0) (.int .i64 (11 : Nat)) (.int .i64 (A : Nat))
    exact endParse rfl w.heap.size (w.heap.size + 1) rfl rfl hP.1 hP.2 ⟨(below42 HS.out.be (Nat.le_refl _) (by omega) _ _ _ _ _ _).drew, (by rw [← HA.out])⟩
/-- Parse, whatever the text -/
theorem parse_any (l : List UInt8) (hl : l.length ≤ 256) (w : World) (hV : LibAt w) : Calls Tryz.prog 12 #[.string (bs l)] w (ParseTo w (parseA l)) := by
  have hT := tokens_any l hl (W2 w) (hV.held (w2_facts w).1)
  unfold parseA
  cases hA : tokA l with
  | bad e a =>
    rw [hA] at hT
    exact parse_bad (bs l) e a (tokA_bad hA) w hT
  | good L =>
    rw [hA] at hT
    obtain ⟨hv, hL⟩ := tokA_good hA
    show Calls _ _ _ w (ParseTo w (parseL L))
    unfold parseL
    cases hor : orP 8 L with
    | err e l0 => exact parse_err (bs l) L hv hL e l0 hor w hT
    | ok x l0 =>
      show Calls _ _ _ w (ParseTo w (if (Cl.kd 6).test (hd l0) = true then .good x else .bad 11 (hd l0).a))
      cases h6 : (Cl.kd 6).test (hd l0) with
      | true => exact parse_good (bs l) L hv hL x l0 hor h6 w hT
      | false => exact parse_tail (bs l) L hv hL x l0 hor h6 w hT
theorem parse_long (s : ByteArray) (h : 256 < s.size) (hs : s.size ≤ 281474976710656) (w : World) : Calls Tryz.prog 12 #[.string s] w (ParseTo w (.bad 3 0)) :=
  parse_bad s 3 0 (by decide) w (tokens_long s h hs (W2 w))
end Go.Proofs.YtjgdkiikkgdbaaaGreatDoor
/- What a walk carries of Parse's answers: boxes, trees, errors. -/
namespace Go.Proofs.YtjgdkiikkgdbaaaGreatDoor
open Go.RowKit
set_option linter.unusedVariables false
def XHas (w : World) (T : XT) : Prop := ∃ S : Nat → Prop, XAt w S T
theorem XHas.next {w w' : World} {T : XT} (h : XHas w T) (hb : Below w.heap.size w w') : XHas w' T := by obtain ⟨S, h⟩ := h; exact ⟨S, h.next hb⟩
theorem parseA_ne {s : List UInt8} {e a : Nat} (h : parseA s = .bad e a) : e ≠ 0 := by
  unfold parseA at h
  cases hk : tokA s with
  | bad e' a' =>
    rw [hk] at h
    have h2 : Tree.bad e' a' = Tree.bad e a := h
    injection h2 with h2 _
    rw [← h2]; exact tokA_bad hk
  | good L =>
    rw [hk] at h
    obtain ⟨hv2, hl⟩ := tokA_good hk
    have h2 : parseL L = Tree.bad e a := h
    unfold parseL at h2
    have hls := orP_less 8 L hv2 (by omega)
    cases ho : orP 8 L with
    | err e' l' =>
      rw [ho] at h2 hls
      have h3 : Tree.bad e' (hd l').a = Tree.bad e a := h2
      injection h3 with h3 _
      rw [← h3]; exact hls.2.2
    | ok x l' =>
      rw [ho] at h2
      have h3 : (if (Cl.kd 6).test (hd l') = true then Tree.good x else Tree.bad 11 (hd l').a) = Tree.bad e a := h2
      by_cases h6 : (Cl.kd 6).test (hd l') = true
      · rw [if_pos h6] at h3; cases h3
      · rw [if_neg h6] at h3; injection h3 with h3 _; omega
end Go.Proofs.YtjgdkiikkgdbaaaGreatDoor
/- The code's Operand and Text. -/
namespace Go.Proofs.YtjgdkiikkgdbaaaGreatDoor
open Go.RowKit
set_option linter.unusedVariables false
set_option linter.unusedSimpArgs false
theorem dec_ne (n : Nat) : Lib.decDigits n ≠ [] := fun e => by
  have h := Lib.decDigits_length n
  rw [e] at h
  have := Lib.nDigits_pos n
  simp at h
  omega
theorem opTx_ne {o : Opd} (h : mayOB o = true) : opTx o ≠ [] := by
  obtain ⟨hk, _⟩ := mayO_kind h
  obtain ⟨k, s, ng, n⟩ := o
  have hk : k = 1 ∨ k = 2 ∨ k = 3 ∨ k = 4 ∨ k = 5 := hk
  rcases hk with rfl | rfl | rfl | rfl | rfl
  · show s.data.toList ≠ []
    intro e
    unfold mayOB at h
    dsimp only at h
    rw [e] at h
    simp [pthA, pthB, wl] at h
  · show (if ng = true then 45 :: Lib.decDigits n.toNat else Lib.decDigits n.toNat) ≠ []
    cases ng with
    | true => rw [if_pos rfl]; simp
    | false => rw [if_neg (by decide)]; exact dec_ne _
  · show quoteL s.data.toList ≠ []; unfold quoteL; simp
  · show (if n = 1 then kTRUE else kFALSE) ≠ []; split <;> decide
  · show 37 :: Lib.decDigits n.toNat ≠ []; simp
theorem argsP_ne {o r : Int} {g : Nat → Opd} {n : Nat} (hn : 0 < n) (h : mayOB (g 0) = true) : argsP o r g n ≠ [] := by
  have key : ∀ k, argsP o r g (k + 1) ≠ [] := by
    intro k
    induction k with
    | zero => show argsP o r g 0 ++ sepA o r 0 ++ opTx (g 0) ≠ []; intro e; exact opTx_ne h (List.append_eq_nil_iff.1 e).2
    | succ k ih => show argsP o r g (k + 1) ++ sepA o r (k + 1) ++ opTx (g (k + 1)) ≠ []; intro e; exact ih (List.append_eq_nil_iff.1 (List.append_eq_nil_iff.1 e).1).1
  obtain ⟨k, rfl⟩ : ∃ k, n = k + 1 := ⟨n - 1, by omega⟩
  exact key k
theorem showX_ne : ∀ T : XT, mayB T = true → showX T ≠ [] := by
  refine XT.ind fun T ih hm => ?_
  obtain ⟨hf, hmo, hmk⟩ := mayC_of hm
  rw [show_split T hf]
  intro e
  obtain ⟨e1, e3⟩ := List.append_eq_nil_iff.1 e
  obtain ⟨e1, e2⟩ := List.append_eq_nil_iff.1 e1
  have hk0 : 0 < T.kn → T.op ≠ 5 → T.op ≠ 6 → False ∨ T.op = 4 ∨ True := fun _ _ _ => .inr (.inr trivial)
  by_cases ha : 0 < T.an
  · exact argsP_ne ha (hmo 0 ha) e2
  · have hkn : 0 < T.kn := by
      unfold formB at hf
      simp only [Bool.or_eq_true, Bool.and_eq_true, beq_iff_eq, decide_eq_true_eq] at hf
      omega
    have key : ∀ k, k + 1 ≤ T.kn → kidsP T.op T.kid (k + 1) ≠ [] := by
      intro k
      induction k with
      | zero =>
        intro hk e4
        have e5 : kidsP T.op T.kid 0 ++ sepK T.op 0 ++ kidS T.op (T.kid 0).op (showX (T.kid 0)) = [] := e4
        have := kidS_ge T.op (T.kid 0).op (showX (T.kid 0))
        rw [(List.append_eq_nil_iff.1 e5).2] at this
        exact ih 0 (by omega) (hmk 0 (by omega)) (List.eq_nil_of_length_eq_zero (by simpa using this))
      | succ k ih2 =>
        intro hk e4
        have e5 : kidsP T.op T.kid (k + 1) ++ sepK T.op (k + 1) ++ kidS T.op (T.kid (k + 1)).op (showX (T.kid (k + 1))) = [] := e4
        exact ih2 (by omega) (List.append_eq_nil_iff.1 (List.append_eq_nil_iff.1 e5).1).1
    obtain ⟨k, hk⟩ : ∃ k, T.kn = k + 1 := ⟨T.kn - 1, by omega⟩
    rw [hk] at e3
    exact key k (by omega) e3
theorem env_of {w : World} (hV : LibAt w) (hT : Tab w) {w1 : World} (hb : Below w.heap.size w w1) : EnvAt w1.heap.size w1 := fun wx hx => ⟨hV.held (bthN hb hx), hT.next (bthN hb hx)⟩
theorem parse16 (l : List UInt8) (hl : l.length ≤ 1000000000) (w : World) (hV : LibAt w) : Calls Tryz.prog 12 #[.string (bs l)] w (ParseTo w (parseA l)) := by
  by_cases h : l.length ≤ 256
  · exact parse_any l h w hV
  · have e : parseA l = .bad 3 0 := by unfold parseA tokA; rw [if_pos (by omega)]
    rw [e]
    exact parse_long (bs l) (by rw [bs_size]; omega) (by rw [bs_size]; omega) w
theorem parseA_cut {s t : List UInt8} (h : CutS [] s t) : parseA s = parseA t := by
  rcases h.1 with rfl | ⟨h1, h2⟩
  · rfl
  · simp only [List.length_nil, Nat.zero_add] at h1 h2
    unfold parseA tokA; rw [if_pos h1, if_pos h2]
theorem cut_good {s t : List UInt8} {x : XT} (h : CutS [] s t) (hp : parseA t = .good x) : s = t := by
  rcases h.1 with h1 | ⟨h1, h2⟩
  · exact h1
  · simp only [List.length_nil, Nat.zero_add] at h2
    unfold parseA tokA at hp; rw [if_pos h2] at hp; cases hp
theorem great_smc : ∀ (T : XT) (d : Nat), greatX T d = false → SmC T := by
  refine XT.ind fun T ih d h => ?_
  obtain ⟨_, h3, _, h5, _⟩ := great_size T d h
  exact (smc_iff T).2 ⟨fun i hi => Nat.le_trans (h3 i hi) (by decide), fun i hi => ih i hi (d + 1) (h5 i hi)⟩
def CTextTo (T : XT) (w : World) (s : ByteArray) (e : Int) : Prop := Calls Tryz.prog 8 #[.agg #[.int .i64 T.op, .int .i64 T.rel, .slice T.aa T.an T.ac, .slice T.ka T.kn T.kc]] w fun x w' => x = .returned (.tuple #[.string s, .int .i64 e]) ∧ Below w.heap.size w w'
theorem cText_no (S : Nat → Prop) (T : XT) (w : World) (H : XAt w S T) (HX : XTx T) (hg : greatX T 0 = false) (hV : LibAt w) (hm : mayB T = false) : CTextTo T w ⟨#[]⟩ 1 := by
  have HM := Lib.hid (fun wx (hb : Below w.heap.size w wx) => isT_any S T wx (H.next hb) HX (great_smc T 0 hg) (hV.held hb))
  rw [hm] at HM
  unfold IsTTo at HM
  clear H HX hg hm hV
  unfold CTextTo
  go_enter Tryz.func8, Tryz.ntmps8
  go_wp2_with (go_at_call 15; refine (HM.out _ bel1).mono ?_; rintro e w1 ⟨rfl, hb⟩; have HB1 := Lib.hid (bthN bel1 hb); clear hb)
  go_ret2
  exact ⟨rfl, HB1.out⟩
/-- what the walk carries behind the printing -/
structure Printed (w w1 w2 : World) (s t : List UInt8) : Prop where
  cur : Cur w1.heap.size w1.heap.size s (w1.alloc (.cells #[.pointer none, .slice none 0 0] 48)) w2
  cut : CutS [] s t
  ne : s ≠ []
  bel : Below w.heap.size w w2
  lib : LibAt w2
theorem cut_ne {s t : List UInt8} (h : CutS [] s t) (ht : t ≠ []) : s ≠ [] := by
  rcases h.1 with rfl | ⟨h1, _⟩
  · exact ht
  · intro e; rw [e] at h1; simp at h1
set_option maxRecDepth 100000 in
set_option maxHeartbeats 4000000 in
theorem cText_ok (S : Nat → Prop) (T : XT) (w : World) (H : XAt w S T) (hS : ∀ k, S k → k < w.heap.size) (HX : XTx T) (hg : greatX T 0 = false) (hV : LibAt w) (hT : Tab w) (hm : mayB T = true) (x : XT) (hp : parseA (showX T) = .good x) : CTextTo T w (bs (showX T)) 0 := by
  have HM := Lib.hid (fun wx (hb : Below w.heap.size w wx) => isT_any S T wx (H.next hb) HX (great_smc T 0 hg) (hV.held hb))
  have hlen := show_len T 0 hg HX hm
  have hgs := (great_size T 0 hg).1.2
  have hne := showX_ne T hm
  have HP := Lib.hid (fun w1 wx (hb : Below w.heap.size w w1) (hx : TxtAt 48 w1.heap.size w1.heap.size [] wx) (hbx : Below w1.heap.size w1 wx) => pTree_any S w1.heap.size w1.heap.size (fun k hk => Nat.lt_of_lt_of_le (hS k hk) hb.size) T 0 [] wx ((H.next hb).below (B := w1.heap.size) (fun k hk => Nat.lt_of_lt_of_le (hS k hk) hb.size) hbx) HX hm hg hx ((env_of hV hT hb).next hbx) hbx.size (by simp; omega))
  rw [hm] at HM
  unfold IsTTo at HM
  unfold PTreeTo at HP
  have HPR := Lib.hid (fun s (hc : CutS [] s (showX T)) wx (hl : LibAt wx) => by
    have h := parse16 s (by have := hc.2; omega) wx hl
    rw [parseA_cut hc, hp] at h
    exact h)
  have HCG := Lib.hid (fun s (hc : CutS [] s (showX T)) => cut_good hc hp)
  have HL1 := Lib.hid (fun w1 wx (hb : Below w.heap.size w w1) (hbx : Below w1.heap.size w1 wx) => (env_of hV hT hb wx hbx).1)
  obtain ⟨t, ht⟩ : ∃ t, showX T = t := ⟨_, rfl⟩
  rw [ht] at HP HPR HCG hne ⊢
  have HCN := Lib.hid (fun s (h : CutS [] s t) => cut_ne h hne)
  have HST := Lib.hid (fun s (hn : s ≠ []) (B b : Nat) (wx : World) (hx : TxtF 48 B b s wx) => stringF _ B b s wx hx hn)
  clear H HX hg hV hT hm hp ht hne hlen hgs hS
  unfold CTextTo
  go_enter Tryz.func8, Tryz.ntmps8
  go_wp2_with (first
    | (go_at_call 17; refine (HST.out _ H2.out.ne _ _ _ HF4.out).mono ?_; rintro e w5 ⟨rfl, hb, _⟩; have HB5 := Lib.hid (show Below w.heap.size w w5 from HB4.out.trans (hb.mono HB1.out.size)); clear hb)
    | (go_at_call 12; refine (HPR.out _ H2.out.cut _ HL3.out).mono ?_; rintro e w4 ⟨hb, T2, rfl, _, _⟩; have HB4 := Lib.hid (bthN (bthN (bthN HB3.out hb) (bel1 (o := .cells #[.int .i64 T2.op, .int .i64 T2.rel, .slice T2.aa T2.an T2.ac, .slice T2.ka T2.kn T2.kc] 25))) (bel1 (o := .cells #[.int .i64 0, .int .i64 0] 38))); have HF4 := Lib.hid (((HF3.out.next hb).next (bel1 (o := .cells #[.int .i64 T2.op, .int .i64 T2.rel, .slice T2.aa T2.an T2.ac, .slice T2.ka T2.kn T2.kc] 25))).next (bel1 (o := .cells #[.int .i64 0, .int .i64 0] 38))); clear hb)
    | (go_at_call 17; refine (HST.out _ H2.out.ne _ _ _ H2.out.cur.txt.toF).mono ?_; rintro e w3 ⟨rfl, hb, hf⟩; have HB3 := Lib.hid (show Below w.heap.size w w3 from H2.out.bel.trans (hb.mono HB1.out.size)); have HF3 := Lib.hid hf; have HL3 := Lib.hid (HL1.out w1 w3 HB1.out ((bel1.trans H2.out.cur.bel).trans hb)); clear hb hf)
    | (go_at_call 16; refine (HP.out w1 _ HB1.out (Lib.fresh_isBuilder _ _ w1) bel1).mono ?_; rintro e w2 ⟨rfl, s, h2, h3⟩; have H2 : Hid (Printed w w1 w2 s t) := Lib.hid ⟨h2, h3, HCN.out s h3, HB1.out.trans ((bel1.trans h2.bel).mono HB1.out.size), HL1.out w1 w2 HB1.out (bel1.trans h2.bel)⟩; clear h2 h3)
    | (go_at_call 15; refine (HM.out _ bel1).mono ?_; rintro e w1 ⟨rfl, hb⟩; have HB1 := Lib.hid (bthN bel1 hb); have Q1 := Lib.hid (rowKeep hb (alloc_at w _)); have hlt1 : w.heap.size < w1.heap.size := lt_of_block Q1.out; have hne1 : ¬ w.heap.size = w1.heap.size := (by omega); obtain ⟨d0, d1, d2, d3⟩ := bx4 Q1.out; clear hb))
  go_ret2
  exact ⟨by rw [← HCG.out _ H2.out.cut]; rfl, HB5.out⟩
set_option maxRecDepth 100000 in
set_option maxHeartbeats 4000000 in
theorem cText_bad (S : Nat → Prop) (T : XT) (w : World) (H : XAt w S T) (hS : ∀ k, S k → k < w.heap.size) (HX : XTx T) (hg : greatX T 0 = false) (hV : LibAt w) (hT : Tab w) (hm : mayB T = true) (e a : Nat) (he : e ≠ 0) (hp : parseA (showX T) = .bad e a) : CTextTo T w ⟨#[]⟩ e := by
  have HM := Lib.hid (fun wx (hb : Below w.heap.size w wx) => isT_any S T wx (H.next hb) HX (great_smc T 0 hg) (hV.held hb))
  have hlen := show_len T 0 hg HX hm
  have hgs := (great_size T 0 hg).1.2
  have hne := showX_ne T hm
  have HP := Lib.hid (fun w1 wx (hb : Below w.heap.size w w1) (hx : TxtAt 48 w1.heap.size w1.heap.size [] wx) (hbx : Below w1.heap.size w1 wx) => pTree_any S w1.heap.size w1.heap.size (fun k hk => Nat.lt_of_lt_of_le (hS k hk) hb.size) T 0 [] wx ((H.next hb).below (B := w1.heap.size) (fun k hk => Nat.lt_of_lt_of_le (hS k hk) hb.size) hbx) HX hm hg hx ((env_of hV hT hb).next hbx) hbx.size (by simp; omega))
  rw [hm] at HM
  unfold IsTTo at HM
  unfold PTreeTo at HP
  have HPR := Lib.hid (fun s (hc : CutS [] s (showX T)) wx (hl : LibAt wx) => by
    have h := parse16 s (by have := hc.2; omega) wx hl
    rw [parseA_cut hc, hp] at h
    exact h)
  have q1 : ¬ (e : Int) = 0 := by omega
  have q2 : ((e : Int) == 0) = false := beq_eq_false_iff_ne.2 q1
  have HL1 := Lib.hid (fun w1 wx (hb : Below w.heap.size w w1) (hbx : Below w1.heap.size w1 wx) => (env_of hV hT hb wx hbx).1)
  obtain ⟨t, ht⟩ : ∃ t, showX T = t := ⟨_, rfl⟩
  rw [ht] at HP HPR hne
  have HCN := Lib.hid (fun s (h : CutS [] s t) => cut_ne h hne)
  have HST := Lib.hid (fun s (hn : s ≠ []) (B b : Nat) (wx : World) (hx : TxtF 48 B b s wx) => stringF _ B b s wx hx hn)
  clear H HX hg hV hT hm hp ht hne hlen hgs hS he q1
  unfold CTextTo
  go_enter Tryz.func8, Tryz.ntmps8
  go_wp2_with (first
    | (go_at_call 12; refine (HPR.out _ H2.out.cut _ HL3.out).mono ?_; rintro x w4 ⟨hb, rfl⟩; have HB4 := Lib.hid (bthN (bthN (bthN HB3.out hb) (bel1 (o := .cells #[.int .i64 0, .int .i64 0, .slice none 0 0, .slice none 0 0] 25))) (bel1 (o := .cells #[.int .i64 (e : Nat), .int .i64 (a : Nat)] 38))); clear hb)
    | (go_at_call 17; refine (HST.out _ H2.out.ne _ _ _ H2.out.cur.txt.toF).mono ?_; rintro e w3 ⟨rfl, hb, hf⟩; have HB3 := Lib.hid (show Below w.heap.size w w3 from H2.out.bel.trans (hb.mono HB1.out.size)); have HF3 := Lib.hid hf; have HL3 := Lib.hid (HL1.out w1 w3 HB1.out ((bel1.trans H2.out.cur.bel).trans hb)); clear hb hf)
    | (go_at_call 16; refine (HP.out w1 _ HB1.out (Lib.fresh_isBuilder _ _ w1) bel1).mono ?_; rintro e w2 ⟨rfl, s, h2, h3⟩; have H2 : Hid (Printed w w1 w2 s t) := Lib.hid ⟨h2, h3, HCN.out s h3, HB1.out.trans ((bel1.trans h2.bel).mono HB1.out.size), HL1.out w1 w2 HB1.out (bel1.trans h2.bel)⟩; clear h2 h3)
    | (go_at_call 15; refine (HM.out _ bel1).mono ?_; rintro e w1 ⟨rfl, hb⟩; have HB1 := Lib.hid (bthN bel1 hb); have Q1 := Lib.hid (rowKeep hb (alloc_at w _)); have hlt1 : w.heap.size < w1.heap.size := lt_of_block Q1.out; have hne1 : ¬ w.heap.size = w1.heap.size := (by omega); obtain ⟨d0, d1, d2, d3⟩ := bx4 Q1.out; clear hb))
  all_goals go_quiet (fail)
  all_goals go_wp2_with (fail)
  go_ret2
  exact ⟨rfl, below_drewN HB4.out _⟩
end Go.Proofs.YtjgdkiikkgdbaaaGreatDoor
