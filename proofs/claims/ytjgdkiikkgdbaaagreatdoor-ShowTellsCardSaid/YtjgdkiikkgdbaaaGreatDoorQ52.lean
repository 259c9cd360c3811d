/- The reference's test. -/
import Derived.Test.YtjgdkiikkgdbaaaGreatDoorQ28
import Derived.Test.YtjgdkiikkgdbaaaGreatDoorQ51
namespace Go.Proofs.YtjgdkiikkgdbaaaGreatDoor
open Go.RowKit
set_option linter.unusedVariables false
def RXTo (L : List Tk) (r : PR XT) (n : Int) (w : World) (x : Ending) (w' : World) : Prop := ∃ (T : XT) (z' e' a' : Int), x = .returned (.tuple #[.agg #[.int .i64 T.op, .int .i64 T.rel, .slice T.aa T.an T.ac, .slice T.ka T.kn T.kc], pV z' n e' a']) ∧ Stt L r z' e' a' ∧ (∀ t l', r = .ok t l' → SameX T t) ∧ XAt w' (fun b => w.heap.size ≤ b) T ∧ Below w.heap.size w w'
theorem RSt.drew {w wr : World} {tb off : Nat} {L : List Tk} {z n e a : Int} {zs : List (Nat × Obj)} (h : RSt w tb off L z n e a zs wr) : RSt w tb off L z n e a zs wr.drew := ⟨h.be.drew, h.box, h.own, h.lat⟩
theorem RSt.newAt {w wr : World} {tb off : Nat} {L : List Tk} {z n e a : Int} {zs : List (Nat × Obj)} (h : RSt w tb off L z n e a zs wr) {b : Nat} (hb : wr.heap.size = b) (o : Obj) : RSt w tb off L z n e a ((b, o) :: zs) (wr.alloc o) := by
  subst hb; exact h.new o
theorem rels_at (k : Nat) (hk : k < 7) : ∃ B, bs (relL k) = B ∧ (#[.string ⟨#[]⟩, .string ⟨#[61]⟩, .string ⟨#[60, 62]⟩, .string ⟨#[60]⟩, .string ⟨#[60, 61]⟩, .string ⟨#[62]⟩, .string ⟨#[62, 61]⟩] : Array Value)[k]? = some (.string B) := by
  refine ⟨_, rfl, ?_⟩
  match k, hk with
  | 0, _ => rfl
  | 1, _ => rfl
  | 2, _ => rfl
  | 3, _ => rfl
  | 4, _ => rfl
  | 5, _ => rfl
  | 6, _ => rfl
theorem relT_none (t : Tk) (h : ∀ j, 1 ≤ j → j < 7 → (Cl.sg (relL j)).test t = false) : relT t = 0 := by
  by_cases h5 : t.k = 5
  · have hx : ∀ j, 1 ≤ j → j < 7 → (t.t == relL j) = false := fun j h1 h2 => by
      have h3 : (t.k == 5 && t.t == relL j) = false := h j h1 h2
      rw [h5] at h3; simpa using h3
    have x1 : (t.t == [61]) = false := hx 1 (by omega) (by omega)
    have x2 : (t.t == [60, 62]) = false := hx 2 (by omega) (by omega)
    have x3 : (t.t == [60]) = false := hx 3 (by omega) (by omega)
    have x4 : (t.t == [60, 61]) = false := hx 4 (by omega) (by omega)
    have x5 : (t.t == [62]) = false := hx 5 (by omega) (by omega)
    have x6 : (t.t == [62, 61]) = false := hx 6 (by omega) (by omega)
    unfold relT relN
    rw [if_pos h5, x1, x2, x3, x4, x5, x6]
    rfl
  · unfold relT; rw [if_neg h5]
theorem fur_no (op rel : Int) (c : Cl) (cs : List Cl) (l : List Tk) (a : List Opd) (h : c.test (hd l) = false) : furX op rel (c :: cs) l a = .err 11 l := by
  unfold furX
  rw [furP, if_neg (by rw [h]; decide)]
theorem tell_one {op rel : Int} {c : Cl} {l : List Tk} {o : Opd} (h : c.test (hd l) = true) : restR (operandP l.tail) = restR (furX op rel [c] l [o]) ∧ ∀ t l', furX op rel [c] l [o] = .ok t l' → ∃ o2, operandP l.tail = .ok o2 l' ∧ t = mkX op rel [o, o2] [] := by
  rw [furX_one op rel c l o h]
  cases operandP l.tail with
  | err e l' => exact ⟨rfl, fun t l' h => by cases h⟩
  | ok o2 l1 => exact ⟨rfl, fun t l' h => by injection h with h1 h2; subst h2; exact ⟨o2, rfl, h1.symm⟩⟩
theorem mustR_ok {α : Type} {x : α} {l : List Tk} {c : Cl} (h : c.test (hd l) = true) : mustR (PR.ok x l) c = .ok () l.tail := by
  show (if c.test (hd l) = true then PR.ok () l.tail else .err 11 l) = _
  rw [if_pos h]
theorem testP_err {m : List Tk} {e : Nat} {l : List Tk} (h : operandP m = .err e l) : testP m = .err e l := by unfold testP; rw [h]
theorem rel_case {m : List Tk} {k : Nat} (hk1 : 1 ≤ k) (hk : k < 7) (hq : isR (operandP m) (.sg (relL k)) = true) : restR (opR (mustR (operandP m) (.sg (relL k)))) = restR (testP m) ∧
    ∀ t l', testP m = .ok t l' → ∃ o o2 l1, operandP m = .ok o l1 ∧ opR (mustR (operandP m) (.sg (relL k))) = .ok o2 l' ∧ t = mkX 1 (k : Nat) [o, o2] [] := by
  obtain ⟨o, l, ho, ht⟩ := isR_yes hq
  rw [testP_ok ho, ho, mustR_ok ht]
  obtain ⟨h1, h2⟩ := sg_text ht
  have hw : ∀ s, (Cl.wd s).test (hd l) = false := fun s => by show ((hd l).k == 1 && _) = false; rw [h1]; rfl
  have hr := relT_of (hd l) k hk1 hk ht
  have hrl : Cl.rl.test (hd l) = true := by show (!(relT (hd l) == 0)) = true; rw [hr]; simp; omega
  unfold testO
  rw [if_neg (by rw [hw]; decide), if_neg (by rw [hw]; decide), if_neg (by rw [hw]; decide), hr]
  have h3 := tell_one (op := 1) (rel := (k : Nat)) (o := o) hrl
  exact ⟨h3.1, fun t l' ht => by obtain ⟨o2, h4, h5⟩ := h3.2 t l' ht; exact ⟨o, o2, l, rfl, h4, h5⟩⟩
theorem like_case {m : List Tk} (hq : isR (operandP m) (.wd kLIKE) = true) : restR (opR (mustR (operandP m) (.wd kLIKE))) = restR (testP m) ∧
    ∀ t l', testP m = .ok t l' → ∃ o o2 l1, operandP m = .ok o l1 ∧ opR (mustR (operandP m) (.wd kLIKE)) = .ok o2 l' ∧ t = mkX 3 0 [o, o2] [] := by
  obtain ⟨o, l, ho, ht⟩ := isR_yes hq
  rw [testP_ok ho, ho, mustR_ok ht]
  unfold testO
  rw [if_neg (by rw [wd_ne ht (by decide)]; decide), if_neg (by rw [wd_ne ht (by decide)]; decide), if_pos ht]
  have h3 := tell_one (op := 3) (rel := 0) (o := o) ht
  exact ⟨h3.1, fun t l' ht => by obtain ⟨o2, h4, h5⟩ := h3.2 t l' ht; exact ⟨o, o2, l, rfl, h4, h5⟩⟩
theorem RSt.pick3 {w wr : World} {tb off : Nat} {L : List Tk} {z n e a : Int} {p1 p2 p3 p4 p5 p6 p7 p8 : Nat × Obj} (h : RSt w tb off L z n e a [p1, p2, p3, p4, p5, p6, p7, p8] wr) : RSt w tb off L z n e a [p1, p7, p8] wr :=
  h.sub (by intro p hp; simp at hp; rcases hp with h | h | h <;> simp [h])
theorem RSt.drop1 {w wr : World} {tb off : Nat} {L : List Tk} {z n e a : Int} {p1 : Nat × Obj} {zs : List (Nat × Obj)} (h : RSt w tb off L z n e a (p1 :: zs) wr) : RSt w tb off L z n e a zs wr :=
  h.sub (fun p hp => List.mem_cons_of_mem _ hp)
/-- a tree of one part that has just been laid -/
theorem kid_x {W : World} {g : Nat} {S S' : Nat → Prop} {T : XT} (op rel : Int) (h : XAt W S T) (hk : W.heap[g]? = some (.cells #[.int .i64 T.op, .int .i64 T.rel, .slice T.aa T.an T.ac, .slice T.ka T.kn T.kc] 25)) (hS : ∀ b, S b → S' b) (hg : S' g) : XAt W S' (.node op rel none 0 0 (fun _ => default) (some ⟨g, 0, none⟩) 1 1 (fun i => [T].getD i .nil)) := by
  refine (xat_iff _).2 ⟨⟨Nat.zero_le _, by show 1 ≤ _; omega⟩, fun i hi => absurd hi (Nat.not_lt_zero i), fun i hi => ?_⟩
  have hi : i < 1 := hi
  obtain rfl : i = 0 := by omega
  refine ⟨⟨g, 0, rfl, hg, lt_of_block hk, ?_⟩, h.sub (fun b hb _ => hS b hb)⟩
  exact lies_block (cs := xtC T) hk
theorem same_kid (op rel : Int) (T U : XT) (h : SameX T U) (aa ka : Option Addr) (ac kc : Nat) (f : Nat → Opd) : SameX (.node op rel aa 0 ac f ka 1 kc (fun i => [T].getD i .nil)) (mkX op rel [] [U]) := by
  refine (sameX_iff _ _).2 ⟨rfl, rfl, rfl, fun i hi => absurd hi (Nat.not_lt_zero i), rfl, fun i hi => ?_⟩
  have hi : i < 1 := hi
  obtain rfl : i = 0 := by omega
  exact h
def negX (b : Bool) (x : XT) : XT := if b then mkX 4 0 [] [x] else x
def r0N (b : Bool) (r : PR Opd) : PR Unit := if b then mustR r (.wd kNOT) else restR r
def btwR (r : PR Unit) : PR Opd := opR (mustR (opR (mustR r (.wd kBETWEEN))) (.wd kAND))
theorem btw_chain (o : Opd) (l : List Tk) : restR (btwR (.ok () l)) = restR (furX 2 0 betw l [o]) ∧
    ∀ t l', furX 2 0 betw l [o] = .ok t l' → ∃ o2 o3 l2, opR (mustR (PR.ok () l) (.wd kBETWEEN)) = .ok o2 l2 ∧ btwR (.ok () l) = .ok o3 l' ∧ t = mkX 2 0 [o, o2, o3] [] := by
  have hm : mustR (PR.ok () l) (.wd kBETWEEN) = if (Cl.wd kBETWEEN).test (hd l) = true then .ok () l.tail else .err 11 l := rfl
  unfold btwR
  rw [hm]
  unfold furX betw
  rw [furP]
  by_cases h1 : (Cl.wd kBETWEEN).test (hd l) = true
  · rw [if_pos h1, if_pos h1]
    have e2 : opR (PR.ok () l.tail) = operandP l.tail := rfl
    rw [e2]
    cases hp : operandP l.tail with
    | err e l' => exact ⟨rfl, fun t l' h => by cases h⟩
    | ok o2 l2 =>
      have hm2 : mustR (PR.ok o2 l2) (.wd kAND) = if (Cl.wd kAND).test (hd l2) = true then .ok () l2.tail else .err 11 l2 := rfl
      rw [hm2]
      show restR _ = restR (match furP [.wd kAND] l2 ([o] ++ [o2]) with | .err e l' => PR.err e l' | .ok b l' => .ok (mkX 2 0 b []) l') ∧ ∀ t l', (match furP [.wd kAND] l2 ([o] ++ [o2]) with | .err e l' => PR.err e l' | .ok b l' => .ok (mkX 2 0 b []) l') = .ok t l' → _
      rw [furP]
      by_cases h2 : (Cl.wd kAND).test (hd l2) = true
      · rw [if_pos h2, if_pos h2]
        have e3 : opR (PR.ok () l2.tail) = operandP l2.tail := rfl
        rw [e3]
        cases hp3 : operandP l2.tail with
        | err e l' => exact ⟨rfl, fun t l' h => by cases h⟩
        | ok o3 l3 => exact ⟨rfl, fun t l' h => by injection h with h4 h5; subst h5; exact ⟨o2, o3, l2, rfl, rfl, h4.symm⟩⟩
      · rw [if_neg h2, if_neg h2]
        exact ⟨rfl, fun t l' h => by cases h⟩
  · rw [if_neg h1, if_neg h1]
    exact ⟨rfl, fun t l' h => by cases h⟩
theorem btw_case {m : List Tk} {b : Bool} (hno : ∀ j, 1 ≤ j → j < 7 → isR (operandP m) (.sg (relL j)) = false) (hl : isR (operandP m) (.wd kLIKE) = false) (hb : isR (operandP m) (.wd kNOT) = b) : restR (btwR (r0N b (operandP m))) = restR (testP m) ∧
    ∀ t l', testP m = .ok t l' → ∃ o o2 o3 l1 l2, operandP m = .ok o l1 ∧ opR (mustR (r0N b (operandP m)) (.wd kBETWEEN)) = .ok o2 l2 ∧ btwR (r0N b (operandP m)) = .ok o3 l' ∧ t = negX b (mkX 2 0 [o, o2, o3] []) := by
  cases ho : operandP m with
  | err e l =>
    rw [testP_err ho]
    rw [ho] at hb
    have hb : false = b := hb
    subst hb
    exact ⟨rfl, fun t l' h => by cases h⟩
  | ok o l =>
    rw [testP_ok ho]
    rw [ho] at hno hl hb
    have hl : (Cl.wd kLIKE).test (hd l) = false := hl
    have hb : (Cl.wd kNOT).test (hd l) = b := hb
    cases b with
    | true =>
      have e1 : r0N true (PR.ok o l) = .ok () l.tail := mustR_ok (x := o) hb
      rw [e1]
      unfold testO
      rw [if_pos hb]
      have h3 := btw_chain o l.tail
      refine ⟨h3.1.trans ?_, fun t l' h => ?_⟩
      · cases furX 2 0 betw l.tail [o] <;> rfl
      · cases hf : furX 2 0 betw l.tail [o] with
        | err e l2 => rw [hf] at h; cases h
        | ok x l2 =>
          rw [hf] at h
          injection h with h4 h5
          subst h5
          obtain ⟨o2, o3, l3, k1, k2, k3⟩ := h3.2 x l2 hf
          exact ⟨o, o2, o3, l, l3, rfl, k1, k2, by rw [← h4, k3]; rfl⟩
    | false =>
      have e1 : r0N false (PR.ok o l) = .ok () l := rfl
      rw [e1]
      unfold testO
      rw [if_neg (by rw [hb]; decide)]
      by_cases hbt : (Cl.wd kBETWEEN).test (hd l) = true
      · rw [if_pos hbt]
        have h3 := btw_chain o l
        exact ⟨h3.1, fun t l' h => by obtain ⟨o2, o3, l3, k1, k2, k3⟩ := h3.2 t l' h; exact ⟨o, o2, o3, l, l3, rfl, k1, k2, k3⟩⟩
      · rw [if_neg hbt, if_neg (by rw [hl]; decide)]
        have hr := relT_none (hd l) hno
        rw [fur_no _ _ _ _ _ _ (show Cl.rl.test (hd l) = false by show (!(relT (hd l) == 0)) = false; rw [hr]; rfl)]
        have e2 : mustR (PR.ok () l) (.wd kBETWEEN) = .err 11 l := by
          show (if (Cl.wd kBETWEEN).test (hd l) = true then PR.ok () l.tail else .err 11 l) = _
          rw [if_neg hbt]
        unfold btwR
        rw [e2]
        exact ⟨rfl, fun t l' h => by cases h⟩
/-- a tree of operands alone, where its row lies -/
theorem args_x {W : World} {g : Nat} {S : Nat → Prop} (os : List Opd) (op rel : Int) (c : Nat) (h : W.heap[g]? = some (.cells (os.flatMap opdC).toArray 34)) (hS : S g) (hl : os.length ≤ 10) : XAt W S (.node op rel (some ⟨g, 0, none⟩) os.length c (fun i => os.getD i default) none 0 0 (fun _ => .nil)) := by
  refine (xat_iff _).2 ⟨⟨by show os.length ≤ _; omega, Nat.zero_le _⟩, fun i hi => ?_, fun i hi => absurd hi (Nat.not_lt_zero i)⟩
  refine ⟨g, 0, rfl, hS, lt_of_block h, fun r u hu => ?_⟩
  have hr : r < 4 := (List.getElem?_eq_some_iff.1 hu).1
  have h2 : (os.flatMap opdC).toArray[i * 4 + r]? = some u := by
    rw [List.getElem?_toArray, opdC_get os i r hi hr]; exact hu
  rw [Nat.zero_add]
  exact cell_at h h2
theorem same_args (os : List Opd) (op rel : Int) (aa : Option Addr) (c : Nat) (ka : Option Addr) (kc : Nat) (f : Nat → XT) : SameX (.node op rel aa os.length c (fun i => os.getD i default) ka 0 kc f) (mkX op rel os []) :=
  (sameX_iff _ _).2 ⟨rfl, rfl, rfl, fun i hi => rfl, rfl, fun i hi => absurd hi (Nat.not_lt_zero i)⟩
theorem XAt.set44 {W : World} {S : Nat → Prop} {T : XT} (h : XAt W S T) {rb sb : Nat} (hS : ∀ b, S b → b ≠ rb ∧ b ≠ sb) (a0 a1 a2 a3 c0 c1 c2 c3 : Value) : XAt (set4 (set4 W rb a0 a1 a2 a3) sb c0 c1 c2 c3).drew S T := by
  have h1 := h.only (only4 (b := rb) (S := fun k => k = rb) (Only.refl _ W) (.inl rfl) a0 a1 a2 a3) (fun b s _ e => (hS b s).1 e)
  have h2 := h1.only (only4 (b := sb) (S := fun k => k = sb) (Only.refl _ _) (.inl rfl) c0 c1 c2 c3) (fun b s _ e => (hS b s).2 e)
  generalize set4 (set4 W rb a0 a1 a2 a3) sb c0 c1 c2 c3 = V at *
  exact XAt.held_of (w := V) (w' := V.drew) (S := S) (S' := S) (fun _ s _ => s) (Nat.le_refl _) (fun _ _ _ => rfl) T h2
theorem endRTest {V : World} {act : Act} {Q : Ending → World → Prop} {a0 a1 a2 a3 : Value} {z n e a : Int} (hd : act.defers = []) (rb sb : Nat) (h1 : act.tmps.getD 4 undef = .pointer (some ⟨rb, 0, none⟩)) (h2 : act.tmps.getD 5 undef = .pointer (some ⟨sb, 0, none⟩)) (hr : V.heap[rb]? = some (.cells #[a0, a1, a2, a3] 25) ∧ V.heap[sb]? = some (pO z n e a))
    (hQ : Q (.returned (.tuple #[.agg #[a0, a1, a2, a3], pV z n e a])) V) : bodyPost Tryz.prog Tryz.f79 Q Exit.ret act V := by
  refine bodyPost_ret (v := .tuple #[.agg #[a0, a1, a2, a3], pV z n e a]) ?_ hd hQ
  have hl1 := run_loadVar_row (P := Tryz.prog) V rb 25 25 #[a0, a1, a2, a3] _ _ hr.1 Tryz.underlying25 rfl (by kernel_rfl)
  have hl2 := run_loadVar_row (P := Tryz.prog) V sb 80 80 #[.int .i64 z, .int .i64 n, .int .i64 e, .int .i64 a] _ _ hr.2 Tryz.underlying80 rfl (by kernel_rfl)
  rw [Array.getD_eq_getD_getElem?] at h1 h2
  simp [results, Tryz.results79, asAddr, hl1, hl2, h1, h2]
set_option maxRecDepth 100000 in
set_option maxHeartbeats 16000000 in
theorem rtest_live {L : List Tk} {tb off cap : Nat} {n : Int} {w : World} (hL : LAt w tb off L) (hv : Vd L) (hl99 : L.length ≤ 99) {m : List Tk} {i : Nat} (hi : i < L.length) (hmi : L.drop i = m) :
    Calls Tryz.prog 79 #[.slice (some ⟨tb, off, none⟩) L.length cap, pV ((i : Nat) : Int) n 0 0] w (RXTo L (testP m) n w) := by
  have hst : Stt L (PR.ok () m) ((i : Nat) : Int) 0 0 := ⟨i, rfl, hi, hmi, rfl, rfl⟩
  have htbw := hL.lt
  have htb : ¬ tb = w.heap.size := by omega
  have htc : ¬ w.heap.size = tb := by omega
  have htb1 : ¬ tb = w.heap.size + 1 := by omega
  have htb2 : ¬ tb = w.heap.size + 1 + 1 := by omega
  have HS0 := Lib.hid (((RSt.start hL ((i : Nat) : Int) n 0 0).new (.cells #[.int .i64 0, .int .i64 0, .slice none 0 0, .slice none 0 0] 25)).new (pO 0 0 0 0))
  have hz1 : (w.alloc (pO ((i : Nat) : Int) n 0 0)).heap.size = w.heap.size + 1 := by simp
  have hz2 : ((w.alloc (pO ((i : Nat) : Int) n 0 0)).alloc (.cells #[.int .i64 0, .int .i64 0, .slice none 0 0, .slice none 0 0] 25)).heap.size = w.heap.size + 1 + 1 := by simp
  rw [hz1, hz2] at HS0
  clear hz1 hz2
  have HOP := Lib.hid (fun wx (h : LAt wx tb off L) => ropd_any (cap := cap) (n := n) h hv hl99 hst)
  rw [show opR (PR.ok () m) = operandP m from rfl] at HOP
  have HVL := Lib.hid hv
  clear hst hv hL hmi
  go_enter Tryz.func79, Tryz.ntmps79
  go_upto_region 1 with (fail)
  generalize ((w.alloc (pO ((i : Nat) : Int) n 0 0)).alloc (.cells #[.int .i64 0, .int .i64 0, .slice none 0 0, .slice none 0 0] 25)).alloc (pO 0 0 0 0) = W at *
  have hbx := HS0.out.box
  obtain ⟨p0, fp0, p1, fp1, p2, fp2, p3, fp3⟩ := bf4 hbx
  clear hbx
  go_cut [6] (fun p wx => ∃ (g6 : Nat) (o : Opd) (z1 e1 a1 : Int), p = .pointer (some ⟨g6, 0, none⟩) ∧ w.heap.size + 1 + 1 < g6 ∧ Hid (Stt L (operandP m) z1 e1 a1) ∧ Hid (∀ o' l', operandP m = .ok o' l' → o = o') ∧ Hid (RSt w tb off L z1 n e1 a1 ((g6, (.cells #[.int .i64 o.kind, .string o.text, .bool o.neg, .int .u64 o.num] 34)) :: [(w.heap.size + 1 + 1, pO 0 0 0 0), (w.heap.size + 1, (.cells #[.int .i64 0, .int .i64 0, .slice none 0 0, .slice none 0 0] 25))]) wx))
  case first =>
    go_wp2_with (go_at_call 115; refine (HOP.out _ HS0.out.at).mono ?_; rintro x w2 ⟨o, z1, e1, a1, rfl, hs2, ho2, hb2⟩; have HS2 := Lib.hid (HS0.out.next hb2); have HST := Lib.hid hs2; have HSO := Lib.hid ho2; have hbx := HS2.out.box; obtain ⟨p0, fp0, p1, fp1, p2, fp2, p3, fp3⟩ := bf4 hbx; clear hbx; have zl := lt_of_block HS2.out.box; have zn : ¬ w.heap.size = w2.heap.size := (by omega); have zm : ¬ w2.heap.size = w.heap.size := (by omega); clear hs2 ho2 hb2)
    go_meet
    have hlast := lt_of_block (HS2.out.own _ List.mem_cons_self).1
    exact ⟨w2.heap.size, o, z1, e1, a1, rfl, hlast, HST, HSO, Lib.hid ((HS2.out.put z1 n e1 a1).newAt (by simp) _)⟩
  case rest =>
    obtain ⟨g6, o, z1, e1, a1, rfl, hg6, HST, HSO, HS1⟩ := hcut
    clear HS0 HOP p0 p1 p2 p3 fp0 fp1 fp2 fp3
    go_upto_region 2 with (fail)
    go_cut [7] (fun p wx => ∃ g7 : Nat, p = .slice (some ⟨g7, 0, none⟩) 7 7 ∧ g6 < g7 ∧ Hid (RSt w tb off L z1 n e1 a1 ((g7, (.cells #[.string ⟨#[]⟩, .string ⟨#[61]⟩, .string ⟨#[60, 62]⟩, .string ⟨#[60]⟩, .string ⟨#[60, 61]⟩, .string ⟨#[62]⟩, .string ⟨#[62, 61]⟩] 9)) :: (g6, (.cells #[.int .i64 o.kind, .string o.text, .bool o.neg, .int .u64 o.num] 34)) :: [(w.heap.size + 1 + 1, pO 0 0 0 0), (w.heap.size + 1, (.cells #[.int .i64 0, .int .i64 0, .slice none 0 0, .slice none 0 0] 25))]) wx))
    case first =>
      have hlast := lt_of_block (HS1.out.own _ List.mem_cons_self).1
      go_wp2_with (fail)
      go_meet
      exact ⟨wc.heap.size, rfl, hlast, Lib.hid (HS1.out.new _)⟩
    case rest =>
      obtain ⟨g7, rfl, hg7, HS2⟩ := hcut
      have hz0 := HST.out.lt
      go_wp2_with (fail)
      go_loopw [8] (fun v wr => ∃ k : Nat, 1 ≤ k ∧ k ≤ 7 ∧ v = .int .i64 k ∧ Hid (∀ j, 1 ≤ j → j < k → isR (operandP m) (.sg (relL j)) = false) ∧ Hid (RSt w tb off L z1 n e1 a1 ((g7, (.cells #[.string ⟨#[]⟩, .string ⟨#[61]⟩, .string ⟨#[60, 62]⟩, .string ⟨#[60]⟩, .string ⟨#[60, 61]⟩, .string ⟨#[62]⟩, .string ⟨#[62, 61]⟩] 9)) :: (g6, (.cells #[.int .i64 o.kind, .string o.text, .bool o.neg, .int .u64 o.num] 34)) :: [(w.heap.size + 1 + 1, pO 0 0 0 0), (w.heap.size + 1, (.cells #[.int .i64 0, .int .i64 0, .slice none 0 0, .slice none 0 0] 25))]) wr)) (fun v _ => 7 - (intOf v).toNat)
      case atStart => exact ⟨1, Nat.le_refl _, by omega, rfl, Lib.hid (fun j h1 h2 => by omega), HS2⟩
      case round =>
        obtain ⟨k, hk1, hk, rfl, HNO, HS3⟩ := hrel
        by_cases hk7 : k < 7
        · obtain ⟨B, hB, hBr⟩ := rels_at k hk7
          have HIS := Lib.hid (fun wx (h : LAt wx tb off L) => ris_sg (cap := cap) (n := n) (relL k) h hl99 HST.out)
          rw [hB] at HIS
          have c7 : wr.cell? ⟨g7, k, none⟩ = some (.string B) := cell_at (HS3.out.own _ List.mem_cons_self).1 hBr
          have hbx := HS3.out.box; obtain ⟨p0, fp0, p1, fp1, p2, fp2, p3, fp3⟩ := bf4 hbx; clear hbx
          cases hq : isR (operandP m) (.sg (relL k)) with
          | true =>
            rw [hq] at HIS
            have HRL := Lib.hid (And.intro hk1 (And.intro hk7 hq))
            have HOP2 := Lib.hid (fun wx (h : LAt wx tb off L) => ropd_any (cap := cap) (n := n) h HVL.out hl99 (HST.out.over HVL.out (c := .sg (relL k)) trivial hq))
            clear hq hB hBr HNO
            go_wp2_with fail
            go_region_held3 (fun w' => w'.cell? ⟨w.heap.size, 0, none⟩ = some (.int .i64 z1) ∧ w'.cell? ⟨w.heap.size, 1, none⟩ = some (.int .i64 n) ∧ w'.cell? ⟨w.heap.size, 2, none⟩ = some (.int .i64 e1) ∧ w'.cell? ⟨w.heap.size, 3, none⟩ = some (.int .i64 a1) ∧ w'.cell? ⟨g7, k, none⟩ = some (.string B))
              (first | exact ⟨p0, p1, p2, p3, c7⟩ | exact ⟨keepL hb3 (by exact p0), keepL hb3 (by exact p1), keepL hb3 (by exact p2), keepL hb3 (by exact p3), keepL hb3 (by exact c7)⟩ | fail)
              (first | (go_at_call 57; refine (HIS.out _ (by first | exact HS3.out.at | exact HS3.out.drew.at)).mono ?_; rintro x w3 ⟨rfl, hb3⟩; have HS4 := Lib.hid (RSt.next (by first | exact HS3.out | exact HS3.out.drew) hb3); obtain ⟨y0, fy0, y1, fy1, y2, fy2, y3, fy3⟩ := bf4 (HS4.out.box)))
            clear p0 p1 p2 p3 c7
            go_upto_region 8 with (fail)
            have HS5 := Lib.hid (HS4.out.inc (z1 + 1))
            generalize w3.setCell ⟨w.heap.size, 0, none⟩ (.int .i64 (z1 + 1)) = V at *
            have hbx := HS5.out.box
            obtain ⟨p0, fp0, p1, fp1, p2, fp2, p3, fp3⟩ := bf4 hbx
            clear hbx
            go_cut [9, 10] (fun p q wx => ∃ (g9 g10 : Nat) (o2 : Opd) (z2 e2 a2 : Int), p = .pointer (some ⟨g9, 0, none⟩) ∧ q = .pointer (some ⟨g10, 0, none⟩) ∧ g7 < g9 ∧ g9 < g10 ∧ Hid (Stt L (opR (mustR (operandP m) (.sg (relL k)))) z2 e2 a2) ∧ Hid (∀ o' l', opR (mustR (operandP m) (.sg (relL k))) = .ok o' l' → o2 = o') ∧ Hid (RSt w tb off L (z1 + 1) n e1 a1 ((g10, pO z2 n e2 a2) :: (g9, (.cells #[.int .i64 o2.kind, .string o2.text, .bool o2.neg, .int .u64 o2.num] 34)) :: (g7, (.cells #[.string ⟨#[]⟩, .string ⟨#[61]⟩, .string ⟨#[60, 62]⟩, .string ⟨#[60]⟩, .string ⟨#[60, 61]⟩, .string ⟨#[62]⟩, .string ⟨#[62, 61]⟩] 9)) :: (g6, (.cells #[.int .i64 o.kind, .string o.text, .bool o.neg, .int .u64 o.num] 34)) :: [(w.heap.size + 1 + 1, pO 0 0 0 0), (w.heap.size + 1, (.cells #[.int .i64 0, .int .i64 0, .slice none 0 0, .slice none 0 0] 25))]) wx))
            case first =>
              go_wp2_with (go_at_call 115; refine (HOP2.out _ HS5.out.at).mono ?_; rintro x w5 ⟨o2, z2, e2, a2, rfl, hs2, ho2, hb2⟩; have HS6 := Lib.hid (HS5.out.next hb2); have HST2 := Lib.hid hs2; have HSO2 := Lib.hid ho2; have zl := lt_of_block HS6.out.box; have zn : ¬ w.heap.size = w5.heap.size := (by omega); have zm : ¬ w5.heap.size = w.heap.size := (by omega); clear hs2 ho2 hb2)
              go_meet
              have hlast := lt_of_block (HS6.out.own _ List.mem_cons_self).1
              exact ⟨w5.heap.size, w5.heap.size + 1, o2, z2, e2, a2, rfl, rfl, hlast, by omega, HST2, HSO2, Lib.hid ((HS6.out.new _).newAt (by simp) _)⟩
            case rest =>
              obtain ⟨g9, g10, o2, z2, e2, a2, rfl, rfl, hg9, hg10, HST2, HSO2, HS6⟩ := hcut
              have hr := (HS6.out.own _ List.mem_cons_self).1; obtain ⟨q0, fq0, q1, fq1, q2, fq2, q3, fq3⟩ := bf4 hr; clear hr
              have hr := (HS6.out.own _ (List.mem_cons_of_mem _ List.mem_cons_self)).1; obtain ⟨t0, ft0, t1, ft1, t2, ft2, t3, ft3⟩ := bf4 hr; clear hr
              have hr := (HS6.out.own _ (List.mem_cons_of_mem _ (List.mem_cons_of_mem _ (List.mem_cons_of_mem _ List.mem_cons_self)))).1; obtain ⟨u0, fu0, u1, fu1, u2, fu2, u3, fu3⟩ := bf4 hr; clear hr
              have hr := (HS6.out.own _ (List.mem_cons_of_mem _ (List.mem_cons_of_mem _ (List.mem_cons_of_mem _ (List.mem_cons_of_mem _ (List.mem_cons_of_mem _ List.mem_cons_self)))))).1; obtain ⟨r0, fr0, r1, fr1, r2, fr2, r3, fr3⟩ := bf4 hr; clear hr
              have hr := (HS6.out.own _ (List.mem_cons_of_mem _ (List.mem_cons_of_mem _ (List.mem_cons_of_mem _ (List.mem_cons_of_mem _ List.mem_cons_self))))).1; obtain ⟨s0, fs0, s1, fs1, s2, fs2, s3, fs3⟩ := bf4 hr; clear hr
              have y4 := lt_of_block (HS6.out.own _ List.mem_cons_self).1
              have y5 : ¬ w.heap.size + 1 = wc.heap.size := by omega
              have y6 : ¬ w.heap.size + 1 + 1 = wc.heap.size := by omega
              clear HS5 HS4 HS3 HS2 HS1 p0 p1 p2 p3 fp0 fp1 fp2 fp3
              have HS7 := Lib.hid (HS6.out.new (.cells #[.int .i64 o.kind, .string o.text, .bool o.neg, .int .u64 o.num, .int .i64 o2.kind, .string o2.text, .bool o2.neg, .int .u64 o2.num] 34))
              have hr := (HS7.out.own _ (List.mem_cons_of_mem _ List.mem_cons_self)).1; have aq0 : (wc.alloc (.cells #[.int .i64 o.kind, .string o.text, .bool o.neg, .int .u64 o.num, .int .i64 o2.kind, .string o2.text, .bool o2.neg, .int .u64 o2.num] 34)).cell? ⟨g10, 0, none⟩ = some (.int .i64 z2) := cell_at hr rfl; have faq0 := free_at (j := 0) hr; have aq1 : (wc.alloc (.cells #[.int .i64 o.kind, .string o.text, .bool o.neg, .int .u64 o.num, .int .i64 o2.kind, .string o2.text, .bool o2.neg, .int .u64 o2.num] 34)).cell? ⟨g10, 1, none⟩ = some (.int .i64 n) := cell_at hr rfl; have faq1 := free_at (j := 1) hr; have aq2 : (wc.alloc (.cells #[.int .i64 o.kind, .string o.text, .bool o.neg, .int .u64 o.num, .int .i64 o2.kind, .string o2.text, .bool o2.neg, .int .u64 o2.num] 34)).cell? ⟨g10, 2, none⟩ = some (.int .i64 e2) := cell_at hr rfl; have faq2 := free_at (j := 2) hr; have aq3 : (wc.alloc (.cells #[.int .i64 o.kind, .string o.text, .bool o.neg, .int .u64 o.num, .int .i64 o2.kind, .string o2.text, .bool o2.neg, .int .u64 o2.num] 34)).cell? ⟨g10, 3, none⟩ = some (.int .i64 a2) := cell_at hr rfl; have faq3 := free_at (j := 3) hr; clear hr
              have hr := (HS7.out.own _ (List.mem_cons_of_mem _ (List.mem_cons_of_mem _ (List.mem_cons_of_mem _ (List.mem_cons_of_mem _ (List.mem_cons_of_mem _ (List.mem_cons_of_mem _ List.mem_cons_self))))))).1; have ar0 : (wc.alloc (.cells #[.int .i64 o.kind, .string o.text, .bool o.neg, .int .u64 o.num, .int .i64 o2.kind, .string o2.text, .bool o2.neg, .int .u64 o2.num] 34)).cell? ⟨w.heap.size + 1, 0, none⟩ = some (.int .i64 0) := cell_at hr rfl; have far0 := free_at (j := 0) hr; have ar1 : (wc.alloc (.cells #[.int .i64 o.kind, .string o.text, .bool o.neg, .int .u64 o.num, .int .i64 o2.kind, .string o2.text, .bool o2.neg, .int .u64 o2.num] 34)).cell? ⟨w.heap.size + 1, 1, none⟩ = some (.int .i64 0) := cell_at hr rfl; have far1 := free_at (j := 1) hr; have ar2 : (wc.alloc (.cells #[.int .i64 o.kind, .string o.text, .bool o.neg, .int .u64 o.num, .int .i64 o2.kind, .string o2.text, .bool o2.neg, .int .u64 o2.num] 34)).cell? ⟨w.heap.size + 1, 2, none⟩ = some (.slice none 0 0) := cell_at hr rfl; have far2 := free_at (j := 2) hr; have ar3 : (wc.alloc (.cells #[.int .i64 o.kind, .string o.text, .bool o.neg, .int .u64 o.num, .int .i64 o2.kind, .string o2.text, .bool o2.neg, .int .u64 o2.num] 34)).cell? ⟨w.heap.size + 1, 3, none⟩ = some (.slice none 0 0) := cell_at hr rfl; have far3 := free_at (j := 3) hr; clear hr
              have hr := (HS7.out.own _ (List.mem_cons_of_mem _ (List.mem_cons_of_mem _ (List.mem_cons_of_mem _ (List.mem_cons_of_mem _ (List.mem_cons_of_mem _ List.mem_cons_self)))))).1; have as0 : (wc.alloc (.cells #[.int .i64 o.kind, .string o.text, .bool o.neg, .int .u64 o.num, .int .i64 o2.kind, .string o2.text, .bool o2.neg, .int .u64 o2.num] 34)).cell? ⟨w.heap.size + 1 + 1, 0, none⟩ = some (.int .i64 0) := cell_at hr rfl; have fas0 := free_at (j := 0) hr; have as1 : (wc.alloc (.cells #[.int .i64 o.kind, .string o.text, .bool o.neg, .int .u64 o.num, .int .i64 o2.kind, .string o2.text, .bool o2.neg, .int .u64 o2.num] 34)).cell? ⟨w.heap.size + 1 + 1, 1, none⟩ = some (.int .i64 0) := cell_at hr rfl; have fas1 := free_at (j := 1) hr; have as2 : (wc.alloc (.cells #[.int .i64 o.kind, .string o.text, .bool o.neg, .int .u64 o.num, .int .i64 o2.kind, .string o2.text, .bool o2.neg, .int .u64 o2.num] 34)).cell? ⟨w.heap.size + 1 + 1, 2, none⟩ = some (.int .i64 0) := cell_at hr rfl; have fas2 := free_at (j := 2) hr; have as3 : (wc.alloc (.cells #[.int .i64 o.kind, .string o.text, .bool o.neg, .int .u64 o.num, .int .i64 o2.kind, .string o2.text, .bool o2.neg, .int .u64 o2.num] 34)).cell? ⟨w.heap.size + 1 + 1, 3, none⟩ = some (.int .i64 0) := cell_at hr rfl; have fas3 := free_at (j := 3) hr; clear hr
              go_upto_region 9 with (fail)
              go_region
              all_goals
                have hX := (args_x (W := (wc.alloc (.cells #[.int .i64 o.kind, .string o.text, .bool o.neg, .int .u64 o.num, .int .i64 o2.kind, .string o2.text, .bool o2.neg, .int .u64 o2.num] 34))) (g := wc.heap.size) (S := fun b => b = wc.heap.size) [o, o2] 1 (k : Nat) 2 (alloc_at wc _) rfl (by simp)).set44 (rb := w.heap.size + 1) (sb := w.heap.size + 1 + 1) (by intro b hb; subst hb; omega) (.int .i64 1) (.int .i64 (k : Nat)) (.slice (some ⟨wc.heap.size, 0, none⟩) 2 2) (.slice none 0 0) (.int .i64 z2) (.int .i64 n) (.int .i64 e2) (.int .i64 a2)
                have hP := put44d (HS7.out.own _ (List.mem_cons_of_mem _ (List.mem_cons_of_mem _ (List.mem_cons_of_mem _ (List.mem_cons_of_mem _ (List.mem_cons_of_mem _ (List.mem_cons_of_mem _ List.mem_cons_self))))))).1 (HS7.out.own _ (List.mem_cons_of_mem _ (List.mem_cons_of_mem _ (List.mem_cons_of_mem _ (List.mem_cons_of_mem _ (List.mem_cons_of_mem _ List.mem_cons_self)))))).1 (by omega) (.int .i64 1) (.int .i64 (k : Nat)) (.slice (some ⟨wc.heap.size, 0, none⟩) 2 2) (.slice none 0 0) (.int .i64 z2) (.int .i64 n) (.int .i64 e2) (.int .i64 a2)
                have hB := (below44 (rb := w.heap.size + 1) (sb := w.heap.size + 1 + 1) HS7.out.be (by omega) (by omega) (.int .i64 1) (.int .i64 (k : Nat)) (.slice (some ⟨wc.heap.size, 0, none⟩) 2 2) (.slice none 0 0) (.int .i64 z2) (.int .i64 n) (.int .i64 e2) (.int .i64 a2)).drew
                generalize (set4 (set4 (wc.alloc (.cells #[.int .i64 o.kind, .string o.text, .bool o.neg, .int .u64 o.num, .int .i64 o2.kind, .string o2.text, .bool o2.neg, .int .u64 o2.num] 34)) (w.heap.size + 1) (.int .i64 1) (.int .i64 (k : Nat)) (.slice (some ⟨wc.heap.size, 0, none⟩) 2 2) (.slice none 0 0)) (w.heap.size + 1 + 1) (.int .i64 z2) (.int .i64 n) (.int .i64 e2) (.int .i64 a2)).drew = VV at hP hB hX ⊢
                have hE := fun (act : Act) h1 h2 h3 => endRTest (Q := RXTo L (testP m) n w) (act := act) h1 (w.heap.size + 1) (w.heap.size + 1 + 1) h2 h3 hP ⟨_, _, _, _, rfl, HST2.out.rest (rel_case HRL.out.1 HRL.out.2.1 HRL.out.2.2).1, (by intro t l' ht; obtain ⟨p, p2, l1, h1, h2, rfl⟩ := (rel_case HRL.out.1 HRL.out.2.1 HRL.out.2.2).2 t l' ht; rw [← HSO.out _ _ h1, ← HSO2.out _ _ h2]; exact same_args [o, o2] 1 (k : Nat) _ _ _ _ _), hX.sub (fun b hb _ => by omega), hB⟩
                first
                  | (rename_i hKK; refine hKK _ _ (wp_ret ?_); exact hE _ rfl rfl rfl)
                  | (go_wp2_with (fail); exact hE _ rfl rfl rfl)
          | false =>
            rw [hq] at HIS
            have HNX := Lib.hid (show ∀ j, 1 ≤ j → j < k + 1 → isR (operandP m) (.sg (relL j)) = false from fun j h1 h2 => by
              rcases Nat.lt_or_ge j k with h | h
              · exact HNO.out j h1 h
              · rw [show j = k by omega]; exact hq)
            clear hq hB hBr HNO
            go_wp2_with fail
            go_region_held3 (fun w' => w'.cell? ⟨w.heap.size, 0, none⟩ = some (.int .i64 z1) ∧ w'.cell? ⟨w.heap.size, 1, none⟩ = some (.int .i64 n) ∧ w'.cell? ⟨w.heap.size, 2, none⟩ = some (.int .i64 e1) ∧ w'.cell? ⟨w.heap.size, 3, none⟩ = some (.int .i64 a1) ∧ w'.cell? ⟨g7, k, none⟩ = some (.string B))
              (first | exact ⟨p0, p1, p2, p3, c7⟩ | exact ⟨keepL hb3 (by exact p0), keepL hb3 (by exact p1), keepL hb3 (by exact p2), keepL hb3 (by exact p3), keepL hb3 (by exact c7)⟩ | fail)
              (first | (go_at_call 57; refine (HIS.out _ (by first | exact HS3.out.at | exact HS3.out.drew.at)).mono ?_; rintro x w3 ⟨rfl, hb3⟩; have HS4 := Lib.hid (RSt.next (by first | exact HS3.out | exact HS3.out.drew) hb3); obtain ⟨y0, fy0, y1, fy1, y2, fy2, y3, fy3⟩ := bf4 (HS4.out.box)))
            clear p0 p1 p2 p3 c7
            go_wp2
            go_roundw
            case rel => exact ⟨k + 1, by omega, by omega, by go_num, HNX, HS4⟩
            case measure => simp [intOf]; omega
        · obtain rfl : k = 7 := by omega
          have hbx := HS3.out.box
          obtain ⟨p0, fp0, p1, fp1, p2, fp2, p3, fp3⟩ := bf4 hbx
          clear hbx
          have HNO : Hid (∀ j, 1 ≤ j → j < 7 → isR (operandP m) (.sg (relL j)) = false) := HNO
          cases hlk : isR (operandP m) (.wd kLIKE) with
          | true =>
            have HLK := Lib.hid (show ∀ wx, LAt wx tb off L → Calls Tryz.prog 57 #[.slice (some ⟨tb, off, none⟩) L.length cap, .agg #[.int .i64 z1, .int .i64 n, .int .i64 e1, .int .i64 a1], .int .i64 1, .string ⟨#[76, 73, 75, 69]⟩] wx fun x w' => x = .returned (.bool true) ∧ Below wx.heap.size wx w' from fun wx h => by have h2 := ris_wd (r := operandP m) (cap := cap) (n := n) kLIKE h hl99 HST.out; rw [hlk] at h2; exact h2)
            have HOP2 := Lib.hid (fun wx (h : LAt wx tb off L) => ropd_any (cap := cap) (n := n) h HVL.out hl99 (HST.out.over HVL.out (c := .wd kLIKE) trivial hlk))
            have HRL := Lib.hid hlk
            clear hlk
            go_upto_region 12 with (go_at_call 57; (with_reducible refine (HLK.out _ HS3.out.at).mono ?_); rintro x w3 ⟨rfl, hb⟩; have HS4 := Lib.hid (HS3.out.next hb); have hbx := HS4.out.box; obtain ⟨p0, fp0, p1, fp1, p2, fp2, p3, fp3⟩ := bf4 hbx; clear hbx; clear hb)
            have HS5 := Lib.hid (HS4.out.inc (z1 + 1))
            generalize w3.setCell ⟨w.heap.size, 0, none⟩ (.int .i64 (z1 + 1)) = V at *
            have hbx := HS5.out.box
            obtain ⟨p0, fp0, p1, fp1, p2, fp2, p3, fp3⟩ := bf4 hbx
            clear hbx
            go_cut [11, 12] (fun p q wx => ∃ (g9 g10 : Nat) (o2 : Opd) (z2 e2 a2 : Int), p = .pointer (some ⟨g9, 0, none⟩) ∧ q = .pointer (some ⟨g10, 0, none⟩) ∧ g7 < g9 ∧ g9 < g10 ∧ Hid (Stt L (opR (mustR (operandP m) (.wd kLIKE))) z2 e2 a2) ∧ Hid (∀ o' l', opR (mustR (operandP m) (.wd kLIKE)) = .ok o' l' → o2 = o') ∧ Hid (RSt w tb off L (z1 + 1) n e1 a1 ((g10, pO z2 n e2 a2) :: (g9, (.cells #[.int .i64 o2.kind, .string o2.text, .bool o2.neg, .int .u64 o2.num] 34)) :: (g7, (.cells #[.string ⟨#[]⟩, .string ⟨#[61]⟩, .string ⟨#[60, 62]⟩, .string ⟨#[60]⟩, .string ⟨#[60, 61]⟩, .string ⟨#[62]⟩, .string ⟨#[62, 61]⟩] 9)) :: (g6, (.cells #[.int .i64 o.kind, .string o.text, .bool o.neg, .int .u64 o.num] 34)) :: [(w.heap.size + 1 + 1, pO 0 0 0 0), (w.heap.size + 1, (.cells #[.int .i64 0, .int .i64 0, .slice none 0 0, .slice none 0 0] 25))]) wx))
            case first =>
              go_wp2_with (go_at_call 115; refine (HOP2.out _ HS5.out.at).mono ?_; rintro x w5 ⟨o2, z2, e2, a2, rfl, hs2, ho2, hb2⟩; have HS6 := Lib.hid (HS5.out.next hb2); have HST2 := Lib.hid hs2; have HSO2 := Lib.hid ho2; have zl := lt_of_block HS6.out.box; have zn : ¬ w.heap.size = w5.heap.size := (by omega); have zm : ¬ w5.heap.size = w.heap.size := (by omega); clear hs2 ho2 hb2)
              go_meet
              have hlast := lt_of_block (HS6.out.own _ List.mem_cons_self).1
              exact ⟨w5.heap.size, w5.heap.size + 1, o2, z2, e2, a2, rfl, rfl, hlast, by omega, HST2, HSO2, Lib.hid ((HS6.out.new _).newAt (by simp) _)⟩
            case rest =>
              obtain ⟨g9, g10, o2, z2, e2, a2, rfl, rfl, hg9, hg10, HST2, HSO2, HS6⟩ := hcut
              have hr := (HS6.out.own _ List.mem_cons_self).1; obtain ⟨q0, fq0, q1, fq1, q2, fq2, q3, fq3⟩ := bf4 hr; clear hr
              have hr := (HS6.out.own _ (List.mem_cons_of_mem _ List.mem_cons_self)).1; obtain ⟨t0, ft0, t1, ft1, t2, ft2, t3, ft3⟩ := bf4 hr; clear hr
              have hr := (HS6.out.own _ (List.mem_cons_of_mem _ (List.mem_cons_of_mem _ (List.mem_cons_of_mem _ List.mem_cons_self)))).1; obtain ⟨u0, fu0, u1, fu1, u2, fu2, u3, fu3⟩ := bf4 hr; clear hr
              have hr := (HS6.out.own _ (List.mem_cons_of_mem _ (List.mem_cons_of_mem _ (List.mem_cons_of_mem _ (List.mem_cons_of_mem _ (List.mem_cons_of_mem _ List.mem_cons_self)))))).1; obtain ⟨r0, fr0, r1, fr1, r2, fr2, r3, fr3⟩ := bf4 hr; clear hr
              have hr := (HS6.out.own _ (List.mem_cons_of_mem _ (List.mem_cons_of_mem _ (List.mem_cons_of_mem _ (List.mem_cons_of_mem _ List.mem_cons_self))))).1; obtain ⟨s0, fs0, s1, fs1, s2, fs2, s3, fs3⟩ := bf4 hr; clear hr
              have y4 := lt_of_block (HS6.out.own _ List.mem_cons_self).1
              have y5 : ¬ w.heap.size + 1 = wc.heap.size := by omega
              have y6 : ¬ w.heap.size + 1 + 1 = wc.heap.size := by omega
              clear HS5 HS4 HS3 HS2 HS1 p0 p1 p2 p3 fp0 fp1 fp2 fp3
              have HS7 := Lib.hid (HS6.out.new (.cells #[.int .i64 o.kind, .string o.text, .bool o.neg, .int .u64 o.num, .int .i64 o2.kind, .string o2.text, .bool o2.neg, .int .u64 o2.num] 34))
              have hr := (HS7.out.own _ (List.mem_cons_of_mem _ List.mem_cons_self)).1; have aq0 : (wc.alloc (.cells #[.int .i64 o.kind, .string o.text, .bool o.neg, .int .u64 o.num, .int .i64 o2.kind, .string o2.text, .bool o2.neg, .int .u64 o2.num] 34)).cell? ⟨g10, 0, none⟩ = some (.int .i64 z2) := cell_at hr rfl; have faq0 := free_at (j := 0) hr; have aq1 : (wc.alloc (.cells #[.int .i64 o.kind, .string o.text, .bool o.neg, .int .u64 o.num, .int .i64 o2.kind, .string o2.text, .bool o2.neg, .int .u64 o2.num] 34)).cell? ⟨g10, 1, none⟩ = some (.int .i64 n) := cell_at hr rfl; have faq1 := free_at (j := 1) hr; have aq2 : (wc.alloc (.cells #[.int .i64 o.kind, .string o.text, .bool o.neg, .int .u64 o.num, .int .i64 o2.kind, .string o2.text, .bool o2.neg, .int .u64 o2.num] 34)).cell? ⟨g10, 2, none⟩ = some (.int .i64 e2) := cell_at hr rfl; have faq2 := free_at (j := 2) hr; have aq3 : (wc.alloc (.cells #[.int .i64 o.kind, .string o.text, .bool o.neg, .int .u64 o.num, .int .i64 o2.kind, .string o2.text, .bool o2.neg, .int .u64 o2.num] 34)).cell? ⟨g10, 3, none⟩ = some (.int .i64 a2) := cell_at hr rfl; have faq3 := free_at (j := 3) hr; clear hr
              have hr := (HS7.out.own _ (List.mem_cons_of_mem _ (List.mem_cons_of_mem _ (List.mem_cons_of_mem _ (List.mem_cons_of_mem _ (List.mem_cons_of_mem _ (List.mem_cons_of_mem _ List.mem_cons_self))))))).1; have ar0 : (wc.alloc (.cells #[.int .i64 o.kind, .string o.text, .bool o.neg, .int .u64 o.num, .int .i64 o2.kind, .string o2.text, .bool o2.neg, .int .u64 o2.num] 34)).cell? ⟨w.heap.size + 1, 0, none⟩ = some (.int .i64 0) := cell_at hr rfl; have far0 := free_at (j := 0) hr; have ar1 : (wc.alloc (.cells #[.int .i64 o.kind, .string o.text, .bool o.neg, .int .u64 o.num, .int .i64 o2.kind, .string o2.text, .bool o2.neg, .int .u64 o2.num] 34)).cell? ⟨w.heap.size + 1, 1, none⟩ = some (.int .i64 0) := cell_at hr rfl; have far1 := free_at (j := 1) hr; have ar2 : (wc.alloc (.cells #[.int .i64 o.kind, .string o.text, .bool o.neg, .int .u64 o.num, .int .i64 o2.kind, .string o2.text, .bool o2.neg, .int .u64 o2.num] 34)).cell? ⟨w.heap.size + 1, 2, none⟩ = some (.slice none 0 0) := cell_at hr rfl; have far2 := free_at (j := 2) hr; have ar3 : (wc.alloc (.cells #[.int .i64 o.kind, .string o.text, .bool o.neg, .int .u64 o.num, .int .i64 o2.kind, .string o2.text, .bool o2.neg, .int .u64 o2.num] 34)).cell? ⟨w.heap.size + 1, 3, none⟩ = some (.slice none 0 0) := cell_at hr rfl; have far3 := free_at (j := 3) hr; clear hr
              have hr := (HS7.out.own _ (List.mem_cons_of_mem _ (List.mem_cons_of_mem _ (List.mem_cons_of_mem _ (List.mem_cons_of_mem _ (List.mem_cons_of_mem _ List.mem_cons_self)))))).1; have as0 : (wc.alloc (.cells #[.int .i64 o.kind, .string o.text, .bool o.neg, .int .u64 o.num, .int .i64 o2.kind, .string o2.text, .bool o2.neg, .int .u64 o2.num] 34)).cell? ⟨w.heap.size + 1 + 1, 0, none⟩ = some (.int .i64 0) := cell_at hr rfl; have fas0 := free_at (j := 0) hr; have as1 : (wc.alloc (.cells #[.int .i64 o.kind, .string o.text, .bool o.neg, .int .u64 o.num, .int .i64 o2.kind, .string o2.text, .bool o2.neg, .int .u64 o2.num] 34)).cell? ⟨w.heap.size + 1 + 1, 1, none⟩ = some (.int .i64 0) := cell_at hr rfl; have fas1 := free_at (j := 1) hr; have as2 : (wc.alloc (.cells #[.int .i64 o.kind, .string o.text, .bool o.neg, .int .u64 o.num, .int .i64 o2.kind, .string o2.text, .bool o2.neg, .int .u64 o2.num] 34)).cell? ⟨w.heap.size + 1 + 1, 2, none⟩ = some (.int .i64 0) := cell_at hr rfl; have fas2 := free_at (j := 2) hr; have as3 : (wc.alloc (.cells #[.int .i64 o.kind, .string o.text, .bool o.neg, .int .u64 o.num, .int .i64 o2.kind, .string o2.text, .bool o2.neg, .int .u64 o2.num] 34)).cell? ⟨w.heap.size + 1 + 1, 3, none⟩ = some (.int .i64 0) := cell_at hr rfl; have fas3 := free_at (j := 3) hr; clear hr
              go_upto_region 13 with (fail)
              go_region
              all_goals
                have hX := (args_x (W := (wc.alloc (.cells #[.int .i64 o.kind, .string o.text, .bool o.neg, .int .u64 o.num, .int .i64 o2.kind, .string o2.text, .bool o2.neg, .int .u64 o2.num] 34))) (g := wc.heap.size) (S := fun b => b = wc.heap.size) [o, o2] 3 0 2 (alloc_at wc _) rfl (by simp)).set44 (rb := w.heap.size + 1) (sb := w.heap.size + 1 + 1) (by intro b hb; subst hb; omega) (.int .i64 3) (.int .i64 0) (.slice (some ⟨wc.heap.size, 0, none⟩) 2 2) (.slice none 0 0) (.int .i64 z2) (.int .i64 n) (.int .i64 e2) (.int .i64 a2)
                have hP := put44d (HS7.out.own _ (List.mem_cons_of_mem _ (List.mem_cons_of_mem _ (List.mem_cons_of_mem _ (List.mem_cons_of_mem _ (List.mem_cons_of_mem _ (List.mem_cons_of_mem _ List.mem_cons_self))))))).1 (HS7.out.own _ (List.mem_cons_of_mem _ (List.mem_cons_of_mem _ (List.mem_cons_of_mem _ (List.mem_cons_of_mem _ (List.mem_cons_of_mem _ List.mem_cons_self)))))).1 (by omega) (.int .i64 3) (.int .i64 0) (.slice (some ⟨wc.heap.size, 0, none⟩) 2 2) (.slice none 0 0) (.int .i64 z2) (.int .i64 n) (.int .i64 e2) (.int .i64 a2)
                have hB := (below44 (rb := w.heap.size + 1) (sb := w.heap.size + 1 + 1) HS7.out.be (by omega) (by omega) (.int .i64 3) (.int .i64 0) (.slice (some ⟨wc.heap.size, 0, none⟩) 2 2) (.slice none 0 0) (.int .i64 z2) (.int .i64 n) (.int .i64 e2) (.int .i64 a2)).drew
                generalize (set4 (set4 (wc.alloc (.cells #[.int .i64 o.kind, .string o.text, .bool o.neg, .int .u64 o.num, .int .i64 o2.kind, .string o2.text, .bool o2.neg, .int .u64 o2.num] 34)) (w.heap.size + 1) (.int .i64 3) (.int .i64 0) (.slice (some ⟨wc.heap.size, 0, none⟩) 2 2) (.slice none 0 0)) (w.heap.size + 1 + 1) (.int .i64 z2) (.int .i64 n) (.int .i64 e2) (.int .i64 a2)).drew = VV at hP hB hX ⊢
                have hE := fun (act : Act) h1 h2 h3 => endRTest (Q := RXTo L (testP m) n w) (act := act) h1 (w.heap.size + 1) (w.heap.size + 1 + 1) h2 h3 hP ⟨_, _, _, _, rfl, HST2.out.rest (like_case HRL.out).1, (by intro t l' ht; obtain ⟨p, p2, l1, h1, h2, rfl⟩ := (like_case HRL.out).2 t l' ht; rw [← HSO.out _ _ h1, ← HSO2.out _ _ h2]; exact same_args [o, o2] 3 0 _ _ _ _ _), hX.sub (fun b hb _ => by omega), hB⟩
                first
                  | (rename_i hKK; refine hKK _ _ (wp_ret ?_); exact hE _ rfl rfl rfl)
                  | (go_wp2_with (fail); exact hE _ rfl rfl rfl)
          | false =>
            have HLK := Lib.hid (show ∀ wx, LAt wx tb off L → Calls Tryz.prog 57 #[.slice (some ⟨tb, off, none⟩) L.length cap, .agg #[.int .i64 z1, .int .i64 n, .int .i64 e1, .int .i64 a1], .int .i64 1, .string ⟨#[76, 73, 75, 69]⟩] wx fun x w' => x = .returned (.bool false) ∧ Below wx.heap.size wx w' from fun wx h => by have h2 := ris_wd (r := operandP m) (cap := cap) (n := n) kLIKE h hl99 HST.out; rw [hlk] at h2; exact h2)
            obtain ⟨b, hb⟩ : ∃ b, isR (operandP m) (.wd kNOT) = b := ⟨_, rfl⟩
            have HNT := Lib.hid (show ∀ wx, LAt wx tb off L → Calls Tryz.prog 57 #[.slice (some ⟨tb, off, none⟩) L.length cap, .agg #[.int .i64 z1, .int .i64 n, .int .i64 e1, .int .i64 a1], .int .i64 1, .string ⟨#[78, 79, 84]⟩] wx fun x w' => x = .returned (.bool b) ∧ Below wx.heap.size wx w' from fun wx h => by have h2 := ris_wd (r := operandP m) (cap := cap) (n := n) kNOT h hl99 HST.out; rw [hb] at h2; exact h2)
            have HBC := Lib.hid (btw_case HNO.out hlk hb)
            have HSN := Lib.hid (show b = true → Stt L (r0N b (operandP m)) (z1 + 1) e1 a1 from fun e => by
              subst e; exact HST.out.over HVL.out (c := .wd kNOT) trivial hb)
            have HSM := Lib.hid (show b = false → Stt L (r0N b (operandP m)) z1 e1 a1 from fun e => by
              subst e; exact HST.out.rest (by unfold r0N; cases operandP m <;> rfl))
            clear hlk hb
            go_upto_if 74 with (first
              | (go_at_call 57; (with_reducible refine (HNT.out _ HS4.out.at).mono ?_); rintro x w4 ⟨rfl, hb⟩; have HS5 := Lib.hid (HS4.out.next hb); have hbx := HS5.out.box; obtain ⟨p0, fp0, p1, fp1, p2, fp2, p3, fp3⟩ := bf4 hbx; clear hbx; clear hb)
              | (go_at_call 57; (with_reducible refine (HLK.out _ HS3.out.at).mono ?_); rintro x w3 ⟨rfl, hb⟩; have HS4 := Lib.hid (HS3.out.next hb); have hbx := HS4.out.box; obtain ⟨p0, fp0, p1, fp1, p2, fp2, p3, fp3⟩ := bf4 hbx; clear hbx; clear hb))
            go_cut [] (fun wx => ∃ zn : Int, Hid (Stt L (r0N b (operandP m)) zn e1 a1) ∧ Hid (RSt w tb off L zn n e1 a1 ((g7, (.cells #[.string ⟨#[]⟩, .string ⟨#[61]⟩, .string ⟨#[60, 62]⟩, .string ⟨#[60]⟩, .string ⟨#[60, 61]⟩, .string ⟨#[62]⟩, .string ⟨#[62, 61]⟩] 9)) :: (g6, (.cells #[.int .i64 o.kind, .string o.text, .bool o.neg, .int .u64 o.num] 34)) :: [(w.heap.size + 1 + 1, pO 0 0 0 0), (w.heap.size + 1, (.cells #[.int .i64 0, .int .i64 0, .slice none 0 0, .slice none 0 0] 25))]) wx))
            case first =>
              cases b with
              | true =>
                go_wp2_with (fail)
                go_meet
                exact ⟨z1 + 1, Lib.hid (HSN.out (by first | rfl | trivial)), Lib.hid (HS5.out.inc (z1 + 1))⟩
              | false =>
                go_wp2_with (fail)
                go_meet
                exact ⟨z1, Lib.hid (HSM.out (by first | rfl | trivial)), HS5⟩
            case rest =>
              obtain ⟨zn, HSTN, HS6⟩ := hcut
              clear HS5 HS4 HS3 HS2 HS1 p0 p1 p2 p3 fp0 fp1 fp2 fp3
              have HMU3 := Lib.hid (show ∀ wx, LAt wx tb off L → Calls Tryz.prog 80 #[.slice (some ⟨tb, off, none⟩) L.length cap, .agg #[.int .i64 zn, .int .i64 n, .int .i64 e1, .int .i64 a1], .int .i64 1, .string ⟨#[66, 69, 84, 87, 69, 69, 78]⟩] wx (MustTo L (mustR (r0N b (operandP m)) (.wd kBETWEEN)) n wx) from fun wx h => rmust_wd (cap := cap) (n := n) kBETWEEN h HVL.out hl99 HSTN.out)
              have hbx := HS6.out.box
              obtain ⟨p0, fp0, p1, fp1, p2, fp2, p3, fp3⟩ := bf4 hbx
              clear hbx
              go_upto_region 17 with (fail)
              go_cut [] (fun wx => ∃ z3 e3 a3 : Int, Hid (Stt L (mustR (r0N b (operandP m)) (.wd kBETWEEN)) z3 e3 a3) ∧ Hid (RSt w tb off L z3 n e3 a3 ((g7, (.cells #[.string ⟨#[]⟩, .string ⟨#[61]⟩, .string ⟨#[60, 62]⟩, .string ⟨#[60]⟩, .string ⟨#[60, 61]⟩, .string ⟨#[62]⟩, .string ⟨#[62, 61]⟩] 9)) :: (g6, (.cells #[.int .i64 o.kind, .string o.text, .bool o.neg, .int .u64 o.num] 34)) :: [(w.heap.size + 1 + 1, pO 0 0 0 0), (w.heap.size + 1, (.cells #[.int .i64 0, .int .i64 0, .slice none 0 0, .slice none 0 0] 25))]) wx))
              case first =>
                go_wp2_with (go_at_call 80; refine (HMU3.out _ HS6.out.at).mono ?_; rintro x w5 ⟨z3, e3, a3, rfl, hs, hb⟩; have HSS := Lib.hid (HS6.out.next hb); have HSST := Lib.hid hs; have hbx := HSS.out.box; obtain ⟨p0, fp0, p1, fp1, p2, fp2, p3, fp3⟩ := bf4 hbx; clear hbx; clear hs hb)
                go_meet
                exact ⟨z3, e3, a3, HSST, Lib.hid (HSS.out.put z3 n e3 a3)⟩
              case rest =>
                obtain ⟨z3, e3, a3, HT3, HR3⟩ := hcut
                clear p0 p1 p2 p3 fp0 fp1 fp2 fp3 HS6
                have HOP4 := Lib.hid (fun wx (h : LAt wx tb off L) => ropd_any (r := (mustR (r0N b (operandP m)) (.wd kBETWEEN))) (cap := cap) (n := n) h HVL.out hl99 HT3.out)
                have hbx := HR3.out.box
                obtain ⟨p0, fp0, p1, fp1, p2, fp2, p3, fp3⟩ := bf4 hbx
                clear hbx
                go_upto_region 18 with (fail)
                go_cut [14] (fun p wx => ∃ (g14 : Nat) (o2 : Opd) (z4 e4 a4 : Int), p = .pointer (some ⟨g14, 0, none⟩) ∧ g7 < g14 ∧ Hid (Stt L (opR (mustR (r0N b (operandP m)) (.wd kBETWEEN))) z4 e4 a4) ∧ Hid (∀ o' l', (opR (mustR (r0N b (operandP m)) (.wd kBETWEEN))) = .ok o' l' → o2 = o') ∧ Hid (RSt w tb off L z4 n e4 a4 ((g14, (.cells #[.int .i64 o2.kind, .string o2.text, .bool o2.neg, .int .u64 o2.num] 34)) :: (g7, (.cells #[.string ⟨#[]⟩, .string ⟨#[61]⟩, .string ⟨#[60, 62]⟩, .string ⟨#[60]⟩, .string ⟨#[60, 61]⟩, .string ⟨#[62]⟩, .string ⟨#[62, 61]⟩] 9)) :: (g6, (.cells #[.int .i64 o.kind, .string o.text, .bool o.neg, .int .u64 o.num] 34)) :: [(w.heap.size + 1 + 1, pO 0 0 0 0), (w.heap.size + 1, (.cells #[.int .i64 0, .int .i64 0, .slice none 0 0, .slice none 0 0] 25))]) wx))
                case first =>
                  go_wp2_with (go_at_call 115; refine (HOP4.out _ HR3.out.at).mono ?_; rintro x w5 ⟨o2, z4, e4, a4, rfl, hs, ho, hb⟩; have HSS := Lib.hid (HR3.out.next hb); have HSST := Lib.hid hs; have HSSO := Lib.hid ho; have hbx := HSS.out.box; obtain ⟨p0, fp0, p1, fp1, p2, fp2, p3, fp3⟩ := bf4 hbx; clear hbx; have zl := lt_of_block HSS.out.box; have zn : ¬ w.heap.size = w5.heap.size := (by omega); have zm : ¬ w5.heap.size = w.heap.size := (by omega); clear hs ho hb)
                  go_meet
                  have hlast := lt_of_block (HSS.out.own _ List.mem_cons_self).1
                  exact ⟨w5.heap.size, o2, z4, e4, a4, rfl, hlast, HSST, HSSO, Lib.hid ((HSS.out.put z4 n e4 a4).newAt (by simp) _)⟩
                case rest =>
                  obtain ⟨g14, o2, z4, e4, a4, rfl, hg14, HT4, HO4, HR4⟩ := hcut
                  clear p0 p1 p2 p3 fp0 fp1 fp2 fp3 HR3
                  have HMU5 := Lib.hid (show ∀ wx, LAt wx tb off L → Calls Tryz.prog 80 #[.slice (some ⟨tb, off, none⟩) L.length cap, .agg #[.int .i64 z4, .int .i64 n, .int .i64 e4, .int .i64 a4], .int .i64 1, .string ⟨#[65, 78, 68]⟩] wx (MustTo L (mustR (opR (mustR (r0N b (operandP m)) (.wd kBETWEEN))) (.wd kAND)) n wx) from fun wx h => rmust_wd (cap := cap) (n := n) kAND h HVL.out hl99 HT4.out)
                  have hbx := HR4.out.box
                  obtain ⟨p0, fp0, p1, fp1, p2, fp2, p3, fp3⟩ := bf4 hbx
                  clear hbx
                  go_upto_region 19 with (fail)
                  go_cut [] (fun wx => ∃ z5 e5 a5 : Int, Hid (Stt L (mustR (opR (mustR (r0N b (operandP m)) (.wd kBETWEEN))) (.wd kAND)) z5 e5 a5) ∧ Hid (RSt w tb off L z5 n e5 a5 ((g14, (.cells #[.int .i64 o2.kind, .string o2.text, .bool o2.neg, .int .u64 o2.num] 34)) :: (g7, (.cells #[.string ⟨#[]⟩, .string ⟨#[61]⟩, .string ⟨#[60, 62]⟩, .string ⟨#[60]⟩, .string ⟨#[60, 61]⟩, .string ⟨#[62]⟩, .string ⟨#[62, 61]⟩] 9)) :: (g6, (.cells #[.int .i64 o.kind, .string o.text, .bool o.neg, .int .u64 o.num] 34)) :: [(w.heap.size + 1 + 1, pO 0 0 0 0), (w.heap.size + 1, (.cells #[.int .i64 0, .int .i64 0, .slice none 0 0, .slice none 0 0] 25))]) wx))
                  case first =>
                    go_wp2_with (go_at_call 80; refine (HMU5.out _ HR4.out.at).mono ?_; rintro x w5 ⟨z5, e5, a5, rfl, hs, hb⟩; have HSS := Lib.hid (HR4.out.next hb); have HSST := Lib.hid hs; have hbx := HSS.out.box; obtain ⟨p0, fp0, p1, fp1, p2, fp2, p3, fp3⟩ := bf4 hbx; clear hbx; clear hs hb)
                    go_meet
                    exact ⟨z5, e5, a5, HSST, Lib.hid (HSS.out.put z5 n e5 a5)⟩
                  case rest =>
                    obtain ⟨z5, e5, a5, HT5, HR5⟩ := hcut
                    clear p0 p1 p2 p3 fp0 fp1 fp2 fp3 HR4
                    have HOP6 := Lib.hid (fun wx (h : LAt wx tb off L) => ropd_any (r := (mustR (opR (mustR (r0N b (operandP m)) (.wd kBETWEEN))) (.wd kAND))) (cap := cap) (n := n) h HVL.out hl99 HT5.out)
                    have hbx := HR5.out.box
                    obtain ⟨p0, fp0, p1, fp1, p2, fp2, p3, fp3⟩ := bf4 hbx
                    clear hbx
                    go_upto_region 20 with (fail)
                    go_cut [15] (fun p wx => ∃ (g15 : Nat) (o3 : Opd) (z6 e6 a6 : Int), p = .pointer (some ⟨g15, 0, none⟩) ∧ g14 < g15 ∧ Hid (Stt L (opR (mustR (opR (mustR (r0N b (operandP m)) (.wd kBETWEEN))) (.wd kAND))) z6 e6 a6) ∧ Hid (∀ o' l', (opR (mustR (opR (mustR (r0N b (operandP m)) (.wd kBETWEEN))) (.wd kAND))) = .ok o' l' → o3 = o') ∧ Hid (RSt w tb off L z6 n e6 a6 ((g15, (.cells #[.int .i64 o3.kind, .string o3.text, .bool o3.neg, .int .u64 o3.num] 34)) :: (g14, (.cells #[.int .i64 o2.kind, .string o2.text, .bool o2.neg, .int .u64 o2.num] 34)) :: (g7, (.cells #[.string ⟨#[]⟩, .string ⟨#[61]⟩, .string ⟨#[60, 62]⟩, .string ⟨#[60]⟩, .string ⟨#[60, 61]⟩, .string ⟨#[62]⟩, .string ⟨#[62, 61]⟩] 9)) :: (g6, (.cells #[.int .i64 o.kind, .string o.text, .bool o.neg, .int .u64 o.num] 34)) :: [(w.heap.size + 1 + 1, pO 0 0 0 0), (w.heap.size + 1, (.cells #[.int .i64 0, .int .i64 0, .slice none 0 0, .slice none 0 0] 25))]) wx))
                    case first =>
                      go_wp2_with (go_at_call 115; refine (HOP6.out _ HR5.out.at).mono ?_; rintro x w5 ⟨o3, z6, e6, a6, rfl, hs, ho, hb⟩; have HSS := Lib.hid (HR5.out.next hb); have HSST := Lib.hid hs; have HSSO := Lib.hid ho; have hbx := HSS.out.box; obtain ⟨p0, fp0, p1, fp1, p2, fp2, p3, fp3⟩ := bf4 hbx; clear hbx; have zl := lt_of_block HSS.out.box; have zn : ¬ w.heap.size = w5.heap.size := (by omega); have zm : ¬ w5.heap.size = w.heap.size := (by omega); clear hs ho hb)
                      go_meet
                      have hlast := lt_of_block (HSS.out.own _ List.mem_cons_self).1
                      exact ⟨w5.heap.size, o3, z6, e6, a6, rfl, hlast, HSST, HSSO, Lib.hid ((HSS.out.put z6 n e6 a6).newAt (by simp) _)⟩
                    case rest =>
                      obtain ⟨g15, o3, z6, e6, a6, rfl, hg15, HT6, HO6, HR6⟩ := hcut
                      clear p0 p1 p2 p3 fp0 fp1 fp2 fp3 HR5
                      have hr := (HR6.out.own _ List.mem_cons_self).1; obtain ⟨v0, fv0, v1, fv1, v2, fv2, v3, fv3⟩ := bf4 hr; clear hr
                      have hr := (HR6.out.own _ (List.mem_cons_of_mem _ List.mem_cons_self)).1; obtain ⟨t0, ft0, t1, ft1, t2, ft2, t3, ft3⟩ := bf4 hr; clear hr
                      have hr := (HR6.out.own _ (List.mem_cons_of_mem _ (List.mem_cons_of_mem _ (List.mem_cons_of_mem _ List.mem_cons_self)))).1; obtain ⟨u0, fu0, u1, fu1, u2, fu2, u3, fu3⟩ := bf4 hr; clear hr
                      have y4 := lt_of_block (HR6.out.own _ List.mem_cons_self).1
                      have y5 := lt_of_block (HR6.out.own _ (List.mem_cons_of_mem _ List.mem_cons_self)).1
                      go_upto_region 21 with (fail)
                      go_cut [16] (fun p wx => ∃ g16 gr : Nat, p = .pointer (some ⟨g16, 0, none⟩) ∧ g15 < gr ∧ gr < g16 ∧ Hid (RSt w tb off L z6 n e6 a6 ((g16, (.cells #[.int .i64 2, .int .i64 0, .slice (some ⟨gr, 0, none⟩) 3 3, .slice none 0 0] 25)) :: (gr, (.cells #[.int .i64 o.kind, .string o.text, .bool o.neg, .int .u64 o.num, .int .i64 o2.kind, .string o2.text, .bool o2.neg, .int .u64 o2.num, .int .i64 o3.kind, .string o3.text, .bool o3.neg, .int .u64 o3.num] 34)) :: (g15, (.cells #[.int .i64 o3.kind, .string o3.text, .bool o3.neg, .int .u64 o3.num] 34)) :: (g14, (.cells #[.int .i64 o2.kind, .string o2.text, .bool o2.neg, .int .u64 o2.num] 34)) :: (g7, (.cells #[.string ⟨#[]⟩, .string ⟨#[61]⟩, .string ⟨#[60, 62]⟩, .string ⟨#[60]⟩, .string ⟨#[60, 61]⟩, .string ⟨#[62]⟩, .string ⟨#[62, 61]⟩] 9)) :: (g6, (.cells #[.int .i64 o.kind, .string o.text, .bool o.neg, .int .u64 o.num] 34)) :: [(w.heap.size + 1 + 1, pO 0 0 0 0), (w.heap.size + 1, (.cells #[.int .i64 0, .int .i64 0, .slice none 0 0, .slice none 0 0] 25))]) wx))
                      case first =>
                        go_wp2_with (fail)
                        go_meet
                        exact ⟨wc.heap.size + 1, wc.heap.size, rfl, y4, by omega, Lib.hid ((HR6.out.new _).newAt (by simp) _)⟩
                      case rest =>
                        obtain ⟨g16, gr, rfl, hg16, hgr, HR7⟩ := hcut
                        clear HR6
                        have hr := (HR7.out.own _ List.mem_cons_self).1; obtain ⟨x0, fx0, x1, fx1, x2, fx2, x3, fx3⟩ := bf4 hr; clear hr
                        have HX0 := Lib.hid (args_x (W := wc) (g := gr) (S := fun c => c = gr) [o, o2, o3] 2 0 3 (HR7.out.own _ (List.mem_cons_of_mem _ List.mem_cons_self)).1 rfl (by simp))
                        have hl16 := lt_of_block (HR7.out.own _ List.mem_cons_self).1
                        go_upto_if 102 with (fail)
                        go_cut [] (fun wx => ∃ T : XT, Hid (SameX T (negX b (mkX 2 0 [o, o2, o3] []))) ∧ Hid (XAt wx (fun c => w.heap.size + 1 + 1 < c ∧ c ≠ g16) T) ∧ Hid (RSt w tb off L z6 n e6 a6 ((g16, (.cells #[.int .i64 T.op, .int .i64 T.rel, .slice T.aa T.an T.ac, .slice T.ka T.kn T.kc] 25)) :: [(w.heap.size + 1 + 1, pO 0 0 0 0), (w.heap.size + 1, (.cells #[.int .i64 0, .int .i64 0, .slice none 0 0, .slice none 0 0] 25))]) wx))
                        case first =>
                          cases b with
                          | false =>
                            go_wp2_with (fail)
                            go_meet
                            exact ⟨.node 2 0 (some ⟨gr, 0, none⟩) 3 3 (fun i => [o, o2, o3].getD i default) none 0 0 (fun _ => .nil), Lib.hid (same_args [o, o2, o3] 2 0 _ _ _ _ _), Lib.hid (HX0.out.sub (fun c hc _ => by subst hc; omega)), Lib.hid HR7.out.pick3⟩
                          | true =>
                            go_wp2_with (fail)
                            go_meet
                            have hp3 := HR7.out.pick3
                            have hRN := (hp3.put1 (by intro p hp; simp at hp; rcases hp with h | h <;> (rw [h]; show _ ≠ g16; omega)) (.int .i64 4) (.int .i64 0) (.slice none 0 0) (.slice (some ⟨wc.heap.size, 0, none⟩) 1 1)).newAt (b := wc.heap.size) (by simp) (.cells #[.int .i64 2, .int .i64 0, .slice (some ⟨gr, 0, none⟩) 3 3, .slice none 0 0] 25)
                            have hX1 := (HX0.out.only (only4 (b := g16) (S := fun k => k = g16) (Only.refl _ wc) (.inl rfl) (.int .i64 4) (.int .i64 0) (.slice none 0 0) (.slice (some ⟨wc.heap.size, 0, none⟩) 1 1)) (by intro b hb _ e; omega)).next ((Below.refl _ _).alloc (Nat.le_refl _) (.cells #[.int .i64 2, .int .i64 0, .slice (some ⟨gr, 0, none⟩) 3 3, .slice none 0 0] 25))
                            exact ⟨.node 4 0 none 0 0 (fun _ => default) (some ⟨wc.heap.size, 0, none⟩) 1 1 (fun i => [((.node 2 0 (some ⟨gr, 0, none⟩) 3 3 (fun i => [o, o2, o3].getD i default) none 0 0 (fun _ => .nil)) : XT)].getD i .nil), Lib.hid (same_kid 4 0 _ _ (same_args [o, o2, o3] 2 0 _ _ _ _ _) _ _ _ _ _), Lib.hid (kid_x 4 0 hX1 (hRN.own _ List.mem_cons_self).1 (by intro b hb; omega) (by omega)), Lib.hid hRN.drop1⟩
                        case rest =>
                          obtain ⟨T, HSA, HXT, HR8⟩ := hcut
                          clear HR7 HX0
                          have hr := (HR8.out.own _ List.mem_cons_self).1; obtain ⟨y0, fy0, y1, fy1, y2, fy2, y3, fy3⟩ := bf4 hr; clear hr
                          have hr := (HR8.out.own _ (List.mem_cons_of_mem _ (List.mem_cons_of_mem _ List.mem_cons_self))).1; obtain ⟨r0, fr0, r1, fr1, r2, fr2, r3, fr3⟩ := bf4 hr; clear hr
                          have hr := (HR8.out.own _ (List.mem_cons_of_mem _ List.mem_cons_self)).1; obtain ⟨s0, fs0, s1, fs1, s2, fs2, s3, fs3⟩ := bf4 hr; clear hr
                          have hbx := HR8.out.box; obtain ⟨p0, fp0, p1, fp1, p2, fp2, p3, fp3⟩ := bf4 hbx; clear hbx
                          go_upto_region 24 with (fail)
                          go_region
                          all_goals
                            have hX := HXT.out.set44 (rb := w.heap.size + 1) (sb := w.heap.size + 1 + 1) (by intro b hb; omega) (.int .i64 T.op) (.int .i64 T.rel) (.slice T.aa T.an T.ac) (.slice T.ka T.kn T.kc) (.int .i64 z6) (.int .i64 n) (.int .i64 e6) (.int .i64 a6)
                            have hP := put44d (HR8.out.own _ (List.mem_cons_of_mem _ (List.mem_cons_of_mem _ List.mem_cons_self))).1 (HR8.out.own _ (List.mem_cons_of_mem _ List.mem_cons_self)).1 (by omega) (.int .i64 T.op) (.int .i64 T.rel) (.slice T.aa T.an T.ac) (.slice T.ka T.kn T.kc) (.int .i64 z6) (.int .i64 n) (.int .i64 e6) (.int .i64 a6)
                            have hB := (below44 (rb := w.heap.size + 1) (sb := w.heap.size + 1 + 1) HR8.out.be (by omega) (by omega) (.int .i64 T.op) (.int .i64 T.rel) (.slice T.aa T.an T.ac) (.slice T.ka T.kn T.kc) (.int .i64 z6) (.int .i64 n) (.int .i64 e6) (.int .i64 a6)).drew
                            generalize (set4 (set4 wc (w.heap.size + 1) (.int .i64 T.op) (.int .i64 T.rel) (.slice T.aa T.an T.ac) (.slice T.ka T.kn T.kc)) (w.heap.size + 1 + 1) (.int .i64 z6) (.int .i64 n) (.int .i64 e6) (.int .i64 a6)).drew = VV at hP hB hX ⊢
                            have hE := fun (act : Act) h1 h2 h3 => endRTest (Q := RXTo L (testP m) n w) (act := act) h1 (w.heap.size + 1) (w.heap.size + 1 + 1) h2 h3 hP ⟨T, _, _, _, rfl, HT6.out.rest HBC.out.1, (by intro t l' ht; obtain ⟨p, p2, p3, l1, l2, h1, h2, h3, rfl⟩ := HBC.out.2 t l' ht; rw [← HSO.out _ _ h1, ← HO4.out _ _ h2, ← HO6.out _ _ h3]; exact HSA.out), hX.sub (fun b hb _ => by omega), hB⟩
                            first
                              | (rename_i hKK; refine hKK _ _ (wp_ret ?_); exact hE _ rfl rfl rfl)
                              | (go_wp2_with (fail); exact hE _ rfl rfl rfl)
              
end Go.Proofs.YtjgdkiikkgdbaaaGreatDoor
