/- The reference's Parse, whatever the text. -/
import Derived.Test.YtjgdkiikkgdbaaaGreatDoorQ23
import Derived.Test.YtjgdkiikkgdbaaaGreatDoorQ53
import Derived.Test.YtjgdkiikkgdbaaaGreatDoorQ60
namespace Go.Proofs.YtjgdkiikkgdbaaaGreatDoor
open Go.RowKit
set_option linter.unusedVariables false
/-- a world, and boxes that have been made in it -/
structure OwnSt (w : World) (zs : List (Nat × Obj)) (wr : World) : Prop where
  be : Below w.heap.size w wr
  own : ∀ p ∈ zs, wr.heap[p.1]? = some p.2 ∧ w.heap.size ≤ p.1
theorem OwnSt.next {w wr w' : World} {zs : List (Nat × Obj)} (h : OwnSt w zs wr) (hb : Below wr.heap.size wr w') : OwnSt w zs w' :=
  ⟨bthen h.be hb, fun p hp => ⟨rowKeep hb (h.own p hp).1, (h.own p hp).2⟩⟩
theorem OwnSt.newAt {w wr : World} {zs : List (Nat × Obj)} (h : OwnSt w zs wr) {b : Nat} (hb : wr.heap.size = b) (o : Obj) : OwnSt w ((b, o) :: zs) (wr.alloc o) := by
  subst hb
  have h2 := h.next ((Below.refl wr.heap.size wr).alloc (Nat.le_refl _) o)
  refine ⟨h2.be, fun p hp => ?_⟩
  rcases List.mem_cons.1 hp with rfl | hp
  · exact ⟨alloc_at wr o, h.be.size⟩
  · exact h2.own p hp
theorem OwnSt.put1 {w wr : World} {zs : List (Nat × Obj)} {b : Nat} {o0 o1 o2 o3 : Value} {t : TypeId} (h : OwnSt w ((b, .cells #[o0, o1, o2, o3] t) :: zs) wr) (hz : ∀ p ∈ zs, p.1 ≠ b) (a0 a1 a2 a3 : Value) :
    OwnSt w ((b, .cells #[a0, a1, a2, a3] t) :: zs) (set4 wr b a0 a1 a2 a3) := by
  have h0 := h.own _ List.mem_cons_self
  have ho := only4 (b := b) (S := fun k => k = b) (Only.refl _ wr) (.inl rfl) a0 a1 a2 a3
  have hlt : w.heap.size ≤ b := h0.2
  refine ⟨h.be.trans (ho.below (fun k hk => by omega) h.be.size), fun p hp => ?_⟩
  rcases List.mem_cons.1 hp with rfl | hp
  · exact ⟨put4 h0.1 _ _ _ _, h0.2⟩
  · have := h.own p (List.mem_cons_of_mem _ hp)
    exact ⟨ho.same this.1 (hz p hp), this.2⟩
theorem endRParse {V : World} {act : Act} {Q : Ending → World → Prop} {a0 a1 a2 a3 f0 f1 : Value} (hd : act.defers = []) (rb fb : Nat) (h2 : act.tmps.getD 2 undef = .pointer (some ⟨rb, 0, none⟩)) (h3 : act.tmps.getD 3 undef = .pointer (some ⟨fb, 0, none⟩)) (hr : V.heap[rb]? = some (.cells #[a0, a1, a2, a3] 25)) (hf : V.heap[fb]? = some (.cells #[f0, f1] 38))
    (hQ : Q (.returned (.tuple #[.agg #[a0, a1, a2, a3], .agg #[f0, f1]])) V) : bodyPost Tryz.prog Tryz.f20 Q Exit.ret act V := by
  refine bodyPost_ret (v := .tuple #[.agg #[a0, a1, a2, a3], .agg #[f0, f1]]) ?_ hd hQ
  have hl2 := run_loadVar_row (P := Tryz.prog) V rb 25 25 #[a0, a1, a2, a3] _ _ hr Tryz.underlying25 rfl (by kernel_rfl)
  have hl3 := run_loadVar_row (P := Tryz.prog) V fb 38 38 #[f0, f1] _ _ hf Tryz.underlying38 rfl (by kernel_rfl)
  rw [Array.getD_eq_getD_getElem?] at h2 h3
  simp [results, Tryz.results20, asAddr, hl2, hl3, h2, h3]
/-- what comes of the tokens' end -/
def endR (b : Bool) (r : PR XT) : PR Unit := if b then restR r else badR r 11
theorem parse_tell {L : List Tk} {r : PR XT} {z e a : Int} {b : Bool} (hr : orP 8 L = r) (hb : ∀ x l, r = .ok x l → (Cl.kd 6).test (hd l) = b) (h : Stt L (endR b r) z e a) : (e = 0 → ∃ x l, r = .ok x l ∧ parseL L = .good x) ∧ (e ≠ 0 → ∃ e0 a0 : Nat, e = (e0 : Nat) ∧ a = (a0 : Nat) ∧ parseL L = .bad e0 a0) := by
  unfold parseL
  rw [hr]
  cases r with
  | err e0 l =>
    have h : Stt L (PR.err e0 l : PR Unit) z e a := by cases b <;> exact h
    obtain ⟨i, h1, h2, h3, h4, h5⟩ := h
    exact ⟨fun he => absurd he h4, fun _ => ⟨e0, (hd l).a, h3, h5, rfl⟩⟩
  | ok x l =>
    have h6 := hb x l rfl
    cases b with
    | true =>
      obtain ⟨i, h1, h2, h3, h4, h5⟩ := h.ok_of (x := ()) (l := l)
      exact ⟨fun _ => ⟨x, l, rfl, by show (if (Cl.kd 6).test (hd l) = true then Tree.good x else .bad 11 (hd l).a) = _; rw [if_pos h6]⟩, fun he => absurd h4 he⟩
    | false =>
      have h : Stt L (PR.err 11 l : PR Unit) z e a := h
      obtain ⟨i, h1, h2, h3, h4, h5⟩ := h
      exact ⟨fun he => absurd he h4, fun _ => ⟨11, (hd l).a, h3, h5, by show (if (Cl.kd 6).test (hd l) = true then Tree.good x else .bad 11 (hd l).a) = _; rw [if_neg (by rw [h6]; decide)]⟩⟩
set_option maxRecDepth 100000 in
set_option maxHeartbeats 8000000 in
theorem rparse_bad (s : ByteArray) (e a : Nat) (he : e ≠ 0) (w : World) (hT : Calls Tryz.prog 35 #[.string s] (W2 w) (AnsTo (W2 w) (.bad e a))) :
    Calls Tryz.prog 20 #[.string s] w (ParseTo w (.bad e a)) := by
  have OS0 := Lib.hid (show OwnSt w [(w.heap.size + 1, (.cells #[.int .i64 0, .int .i64 0] 38)), (w.heap.size, (.cells #[.int .i64 0, .int .i64 0, .slice none 0 0, .slice none 0 0] 25))] ((w.alloc (.cells #[.int .i64 0, .int .i64 0, .slice none 0 0, .slice none 0 0] 25)).alloc (.cells #[.int .i64 0, .int .i64 0] 38)) from ((OwnSt.mk (Below.refl _ _) (fun p hp => by simp at hp) : OwnSt w [] w).newAt rfl (.cells #[.int .i64 0, .int .i64 0, .slice none 0 0, .slice none 0 0] 25)).newAt (by simp) (.cells #[.int .i64 0, .int .i64 0] 38))
  have HT := Lib.hid hT
  have q0 : (((e : Nat) : Int) != 0) = true := by simpa using he
  clear hT
  go_enter Tryz.func20, Tryz.ntmps20
  go_upto_region 3 with (go_at_call 35; refine (HT.out).mono ?_; rintro x w1 ⟨rfl, hb1⟩; have OS1 := Lib.hid (OS0.out.next hb1); clear hb1)
  have OS2 := Lib.hid (OS1.out.newAt (b := w1.heap.size) rfl (.cells #[.int .i64 ((e : Nat) : Int), .int .i64 ((a : Nat) : Int)] 38))
  have y1 := lt_of_block (OS1.out.own _ List.mem_cons_self).1
  generalize w1.alloc (.cells #[.int .i64 ((e : Nat) : Int), .int .i64 ((a : Nat) : Int)] 38) = V at *
  have hr := (OS2.out.own _ List.mem_cons_self).1; have t0 : V.cell? ⟨w1.heap.size, 0, none⟩ = some (.int .i64 ((e : Nat) : Int)) := cell_at hr rfl; have ft0 := free_at (j := 0) hr; have t1 : V.cell? ⟨w1.heap.size, 1, none⟩ = some (.int .i64 ((a : Nat) : Int)) := cell_at hr rfl; have ft1 := free_at (j := 1) hr; clear hr
  have hr := (OS2.out.own _ (List.mem_cons_of_mem _ List.mem_cons_self)).1; have f0 : V.cell? ⟨w.heap.size + 1, 0, none⟩ = some (.int .i64 0) := cell_at hr rfl; have ff0 := free_at (j := 0) hr; have f1 : V.cell? ⟨w.heap.size + 1, 1, none⟩ = some (.int .i64 0) := cell_at hr rfl; have ff1 := free_at (j := 1) hr; clear hr
  have hr := (OS2.out.own _ (List.mem_cons_of_mem _ (List.mem_cons_of_mem _ List.mem_cons_self))).1; obtain ⟨r0, fr0, r1, fr1, r2, fr2, r3, fr3⟩ := bf4 hr; clear hr
  go_region
  all_goals
    have hP := put42 (OS2.out.own _ (List.mem_cons_of_mem _ (List.mem_cons_of_mem _ List.mem_cons_self))).1 (OS2.out.own _ (List.mem_cons_of_mem _ List.mem_cons_self)).1 (by omega) (.int .i64 0) (.int .i64 0) (.slice none 0 0) (.slice none 0 0) (.int .i64 (e : Nat)) (.int .i64 (a : Nat))
    have hB := (below42 (rb := w.heap.size) (fb := w.heap.size + 1) OS2.out.be (Nat.le_refl _) (by omega) (.int .i64 0) (.int .i64 0) (.slice none 0 0) (.slice none 0 0) (.int .i64 (e : Nat)) (.int .i64 (a : Nat))).drew
    have hE := fun (act : Act) h1 h2 h3 => endRParse (Q := ParseTo w (.bad e a)) (act := act) h1 (w.heap.size) (w.heap.size + 1) h2 h3 hP.1 hP.2 ⟨hB, rfl⟩
    first
      | (rename_i hKK; refine hKK _ _ (wp_ret ?_); exact hE _ rfl rfl rfl)
      | (go_wp2_with (fail); exact hE _ rfl rfl rfl)
theorem XAt.set42 {W : World} {S : Nat → Prop} {T : XT} (h : XAt W S T) {rb fb : Nat} (hS : ∀ b, S b → b ≠ rb ∧ b ≠ fb) (a0 a1 a2 a3 f0 f1 : Value) : XAt (((set4 W rb a0 a1 a2 a3).setCell ⟨fb, 0, none⟩ f0).setCell ⟨fb, 1, none⟩ f1).drew S T := by
  have h1 := h.only (only4 (b := rb) (S := fun k => k = rb) (Only.refl _ W) (.inl rfl) a0 a1 a2 a3) (fun b s _ e => (hS b s).1 e)
  generalize set4 W rb a0 a1 a2 a3 = V at *
  have h2 := h1.only (((Only.refl (fun k => k = fb) V).setCell (p := ⟨fb, 0, none⟩) (.inl rfl) f0).setCell (p := ⟨fb, 1, none⟩) (.inl rfl) f1) (fun b s _ e => (hS b s).2 e)
  generalize (V.setCell ⟨fb, 0, none⟩ f0).setCell ⟨fb, 1, none⟩ f1 = U at *
  exact XAt.held_of (w := U) (w' := U.drew) (S := S) (S' := S) (fun _ s _ => s) (Nat.le_refl _) (fun _ _ _ => rfl) T h2
set_option maxRecDepth 100000 in
set_option maxHeartbeats 8000000 in
theorem rparse_good (s : ByteArray) (L : List Tk) (hv : Vd L) (hL65 : L.length ≤ 65) (w : World) (hT : Calls Tryz.prog 35 #[.string s] (W2 w) (AnsTo (W2 w) (.good L))) :
    Calls Tryz.prog 20 #[.string s] w (ParseTo w (parseL L)) := by
  have OS0 := Lib.hid (show OwnSt w [(w.heap.size + 1, (.cells #[.int .i64 0, .int .i64 0] 38)), (w.heap.size, (.cells #[.int .i64 0, .int .i64 0, .slice none 0 0, .slice none 0 0] 25))] ((w.alloc (.cells #[.int .i64 0, .int .i64 0, .slice none 0 0, .slice none 0 0] 25)).alloc (.cells #[.int .i64 0, .int .i64 0] 38)) from ((OwnSt.mk (Below.refl _ _) (fun p hp => by simp at hp) : OwnSt w [] w).newAt rfl (.cells #[.int .i64 0, .int .i64 0, .slice none 0 0, .slice none 0 0] 25)).newAt (by simp) (.cells #[.int .i64 0, .int .i64 0] 38))
  have HT := Lib.hid hT
  have HVL := Lib.hid hv
  have hpos := hv.pos
  obtain ⟨r, hr⟩ : ∃ r, orP 8 L = r := ⟨_, rfl⟩
  have HOR := Lib.hid (fun (wx : World) (tb off cap : Nat) (h : LAt wx tb off L) => ror_any (tb := tb) (off := off) (cap := cap) hv (by omega) (l := L) (z := 0) (e := 0) (a := 0) h ⟨0, rfl, hpos, rfl, rfl, rfl⟩)
  rw [hr] at HOR
  have HR := Lib.hid hr
  clear hT hv hr
  go_enter Tryz.func20, Tryz.ntmps20
  go_upto_region 4 with (go_at_call 35; refine (HT.out).mono ?_; rintro x w1 ⟨⟨ao, cap, rfl, hat, hcap⟩, hb1⟩; have OS1 := Lib.hid (OS0.out.next hb1); obtain ⟨tb, off, rfl, htl, htk⟩ := toks_row hpos hat; have HLA := Lib.hid (LAt.mk htl htk); clear hb1 hat htl htk)
  have OS2 := Lib.hid (OS1.out.newAt (b := w1.heap.size) rfl (.cells #[.int .i64 0, .int .i64 0] 38))
  have HLB := Lib.hid (HLA.out.next ((Below.refl _ _).alloc (Nat.le_refl _) (.cells #[.int .i64 0, .int .i64 0] 38)))
  have y1 := lt_of_block (OS1.out.own _ List.mem_cons_self).1
  obtain ⟨g5, hg5⟩ : ∃ g, w1.heap.size = g := ⟨_, rfl⟩
  generalize w1.alloc (.cells #[.int .i64 0, .int .i64 0] 38) = V at *
  rw [hg5] at OS2 ⊢
  have hV5 := lt_of_block (OS2.out.own _ List.mem_cons_self).1
  go_cut [6, 7] (fun p q wx => ∃ (g6 g7 : Nat) (T : XT) (z e a : Int), p = .pointer (some ⟨g6, 0, none⟩) ∧ q = .pointer (some ⟨g7, 0, none⟩) ∧ g5 < g6 ∧ g6 < g7 ∧ Hid (Stt L r z e a) ∧ Hid (∀ t l', r = .ok t l' → SameX T t) ∧ Hid (XAt wx (fun b => V.heap.size ≤ b ∧ b < g6) T) ∧ Hid (LAt wx tb off L) ∧ Hid (OwnSt w ((g7, pO z 0 e a) :: (g6, (.cells #[.int .i64 T.op, .int .i64 T.rel, .slice T.aa T.an T.ac, .slice T.ka T.kn T.kc] 25)) :: (g5, (.cells #[.int .i64 0, .int .i64 0] 38)) :: [(w.heap.size + 1, (.cells #[.int .i64 0, .int .i64 0] 38)), (w.heap.size, (.cells #[.int .i64 0, .int .i64 0, .slice none 0 0, .slice none 0 0] 25))]) wx))
  case first =>
    go_wp2_with (go_at_call 36; refine (HOR.out _ _ _ _ HLB.out).mono ?_; rintro x w2 ⟨T, z, e, a, rfl, hs, hsa, hxt, hb2⟩; have OS3 := Lib.hid (OS2.out.next hb2); have HLC := Lib.hid (HLB.out.next hb2); have HST := Lib.hid hs; have HSA := Lib.hid hsa; have HXT := Lib.hid (hxt.sub (S' := fun b => V.heap.size ≤ b ∧ b < w2.heap.size) (fun b hb hl => ⟨hb, hl⟩)); clear hs hsa hxt hb2)
    go_meet
    have hlast := lt_of_block (OS3.out.own _ List.mem_cons_self).1
    have hb1 : Below w2.heap.size w2 (w2.alloc (.cells #[.int .i64 T.op, .int .i64 T.rel, .slice T.aa T.an T.ac, .slice T.ka T.kn T.kc] 25)) := (Below.refl _ _).alloc (Nat.le_refl _) _
    have hb2 : Below (w2.alloc (.cells #[.int .i64 T.op, .int .i64 T.rel, .slice T.aa T.an T.ac, .slice T.ka T.kn T.kc] 25)).heap.size (w2.alloc (.cells #[.int .i64 T.op, .int .i64 T.rel, .slice T.aa T.an T.ac, .slice T.ka T.kn T.kc] 25)) ((w2.alloc (.cells #[.int .i64 T.op, .int .i64 T.rel, .slice T.aa T.an T.ac, .slice T.ka T.kn T.kc] 25)).alloc (pO z 0 e a)) := (Below.refl _ _).alloc (Nat.le_refl _) _
    exact ⟨w2.heap.size, w2.heap.size + 1, T, z, e, a, rfl, rfl, hlast, by omega, HST, HSA, Lib.hid ((HXT.out.next hb1).next hb2), Lib.hid ((HLC.out.next hb1).next hb2), Lib.hid ((OS3.out.newAt rfl _).newAt (by simp) _)⟩
  case rest =>
    obtain ⟨g6, g7, T, z, e, a, rfl, rfl, hg6, hg7, HST, HSA, HXT, HLC, OS3⟩ := hcut
    clear HLB HLA OS2 OS1 OS0 HT HOR
    obtain ⟨i, hzi, hil, hrest⟩ := HST.out
    subst hzi
    obtain ⟨t, ht⟩ : ∃ t, hd (L.drop i) = t := ⟨_, rfl⟩
    obtain ⟨b, hb⟩ : ∃ b, (Cl.kd 6).test t = b := ⟨_, rfl⟩
    have HB6 := Lib.hid (show ∀ x l, r = .ok x l → (Cl.kd 6).test (hd l) = b from fun x l hx => by
      subst hx
      rw [← hrest.1, ht]; exact hb)
    have hh := HLC.out.tok hil
    rw [ht] at hh
    have k0 : wc.cell? ⟨tb, off + i * 4, none⟩ = some (.int .i64 ((t.k : Nat) : Int)) := hh 0 _ rfl
    have hkb : (((t.k : Nat) : Int) != 6) = !b := by
      rw [← hb]; show (!(((t.k : Nat) : Int) == 6)) = !(t.k == 6); congr 1; rw [Bool.eq_iff_iff]; simp; omega
    have hlb := HLC.out.lt
    have hr := (OS3.out.own _ List.mem_cons_self).1; obtain ⟨p0, fp0, p1, fp1, p2, fp2, p3, fp3⟩ := bf4 hr; clear hr
    clear hh ht hb hrest
    have HBD := Lib.hid (fun wx (h : LAt wx tb off L) => rbad_any (cap := cap) (n := 0) 11 (by decide) h (by omega) HST.out)
    go_upto_if 30 with (fail)
    go_cut [] (fun wx => ∃ (z e a : Int), Hid (Stt L (endR b r) z e a) ∧ Hid (XAt wx (fun b => V.heap.size ≤ b ∧ b < g6) T) ∧ Hid (OwnSt w ((g7, pO z 0 e a) :: (g6, (.cells #[.int .i64 T.op, .int .i64 T.rel, .slice T.aa T.an T.ac, .slice T.ka T.kn T.kc] 25)) :: (g5, (.cells #[.int .i64 0, .int .i64 0] 38)) :: [(w.heap.size + 1, (.cells #[.int .i64 0, .int .i64 0] 38)), (w.heap.size, (.cells #[.int .i64 0, .int .i64 0, .slice none 0 0, .slice none 0 0] 25))]) wx))
    case first =>
      cases b with
      | true =>
        go_wp2_with (fail)
        go_meet
        exact ⟨_, e, a, Lib.hid (HST.out.rest (show restR r = restR (restR r) by cases r <;> rfl)), HXT, OS3⟩
      | false =>
        go_wp2_with (go_at_call 37; refine (HBD.out _ HLC.out).mono ?_; rintro x w4 ⟨e', a', rfl, hs3, hb3⟩; have OS4 := Lib.hid (OS3.out.next hb3); have HX4 := Lib.hid (HXT.out.next hb3); have HT2 := Lib.hid hs3; have hr := (OS4.out.own _ List.mem_cons_self).1; obtain ⟨p0, fp0, p1, fp1, p2, fp2, p3, fp3⟩ := bf4 hr; clear hr; clear hs3 hb3)
        go_meet
        exact ⟨_, e', a', HT2, Lib.hid (HX4.out.only (only4 (b := g7) (S := fun k => k = g7) (Only.refl _ w4) (.inl rfl) (.int .i64 (i : Nat)) (.int .i64 0) (.int .i64 e') (.int .i64 a')) (by intro b hb _ e; omega)), Lib.hid (OS4.out.put1 (by intro p hp; simp at hp; rcases hp with h | h | h | h <;> (rw [h]; show _ ≠ g7; omega)) _ _ _ _)⟩
    case rest =>
      obtain ⟨z, e, a, HT2, HX4, OS4⟩ := hcut
      have HPT := Lib.hid (parse_tell HR.out HB6.out HT2.out)
      have hr := (OS4.out.own _ List.mem_cons_self).1; obtain ⟨p0, fp0, p1, fp1, p2, fp2, p3, fp3⟩ := bf4 hr; clear hr
      have hr := (OS4.out.own _ (List.mem_cons_of_mem _ List.mem_cons_self)).1; obtain ⟨x0, fx0, x1, fx1, x2, fx2, x3, fx3⟩ := bf4 hr; clear hr
      have hr := (OS4.out.own _ (List.mem_cons_of_mem _ (List.mem_cons_of_mem _ (List.mem_cons_of_mem _ List.mem_cons_self)))).1; have f0 : wc.cell? ⟨w.heap.size + 1, 0, none⟩ = some (.int .i64 0) := cell_at hr rfl; have ff0 := free_at (j := 0) hr; have f1 : wc.cell? ⟨w.heap.size + 1, 1, none⟩ = some (.int .i64 0) := cell_at hr rfl; have ff1 := free_at (j := 1) hr; clear hr
      have hr := (OS4.out.own _ (List.mem_cons_of_mem _ (List.mem_cons_of_mem _ (List.mem_cons_of_mem _ (List.mem_cons_of_mem _ List.mem_cons_self))))).1; obtain ⟨r0, fr0, r1, fr1, r2, fr2, r3, fr3⟩ := bf4 hr; clear hr
      clear HBD HXT OS3 k0
      by_cases he : e = 0
      · have q2 : (e != 0) = false := by simpa using he
        have HE0 := Lib.hid he
        clear he
        go_upto_region 9 with (fail)
        go_region
        all_goals
          have hP := put42 (OS4.out.own _ (List.mem_cons_of_mem _ (List.mem_cons_of_mem _ (List.mem_cons_of_mem _ (List.mem_cons_of_mem _ List.mem_cons_self))))).1 (OS4.out.own _ (List.mem_cons_of_mem _ (List.mem_cons_of_mem _ (List.mem_cons_of_mem _ List.mem_cons_self)))).1 (by omega) (.int .i64 T.op) (.int .i64 T.rel) (.slice T.aa T.an T.ac) (.slice T.ka T.kn T.kc) (.int .i64 e) (.int .i64 a)
          have hB := (below42 (rb := w.heap.size) (fb := w.heap.size + 1) OS4.out.be (Nat.le_refl _) (by omega) (.int .i64 T.op) (.int .i64 T.rel) (.slice T.aa T.an T.ac) (.slice T.ka T.kn T.kc) (.int .i64 e) (.int .i64 a)).drew
          have hXX := HX4.out.set42 (rb := w.heap.size) (fb := w.heap.size + 1) (by intro b hb; omega) (.int .i64 T.op) (.int .i64 T.rel) (.slice T.aa T.an T.ac) (.slice T.ka T.kn T.kc) (.int .i64 e) (.int .i64 a)
          obtain ⟨x, l, hrx, hpl⟩ := HPT.out.1 HE0.out
          have ha0 : a = 0 := by
            obtain ⟨i2, _, _, h3⟩ := HT2.out
            rw [hrx] at h3
            cases b with
            | true => exact h3.2.2
            | false => exact absurd HE0.out h3.2.1
          have he0 := HE0.out
          have hE := fun (act : Act) h1 h2 h3 => endRParse (Q := ParseTo w (parseL L)) (act := act) h1 (w.heap.size) (w.heap.size + 1) h2 h3 hP.1 hP.2 (by rw [hpl]; exact ⟨hB, T, by rw [he0, ha0], HSA.out x l hrx, XAt.sub (T := T) hXX (fun b hb _ => by omega)⟩)
          first
            | (rename_i hKK; refine hKK _ _ (wp_ret ?_); exact hE _ rfl rfl rfl)
            | (go_wp2_with (fail); exact hE _ rfl rfl rfl)
      · have q2 : (e != 0) = true := by simpa using he
        have HE0 := Lib.hid he
        clear he
        go_upto_region 8 with (fail)
        go_region
        all_goals
          have hP := put42 (OS4.out.own _ (List.mem_cons_of_mem _ (List.mem_cons_of_mem _ (List.mem_cons_of_mem _ (List.mem_cons_of_mem _ List.mem_cons_self))))).1 (OS4.out.own _ (List.mem_cons_of_mem _ (List.mem_cons_of_mem _ (List.mem_cons_of_mem _ List.mem_cons_self)))).1 (by omega) (.int .i64 0) (.int .i64 0) (.slice none 0 0) (.slice none 0 0) (.int .i64 e) (.int .i64 a)
          have hB := (below42 (rb := w.heap.size) (fb := w.heap.size + 1) OS4.out.be (Nat.le_refl _) (by omega) (.int .i64 0) (.int .i64 0) (.slice none 0 0) (.slice none 0 0) (.int .i64 e) (.int .i64 a)).drew
          obtain ⟨e0, a0, h3, h4, hpl⟩ := HPT.out.2 HE0.out
          have hE := fun (act : Act) h1 h2 h3' => endRParse (Q := ParseTo w (parseL L)) (act := act) h1 (w.heap.size) (w.heap.size + 1) h2 h3' hP.1 hP.2 (by rw [hpl]; exact ⟨hB, by rw [h3, h4]⟩)
          first
            | (rename_i hKK; refine hKK _ _ (wp_ret ?_); exact hE _ rfl rfl rfl)
            | (go_wp2_with (fail); exact hE _ rfl rfl rfl)
/-- the reference's Parse, whatever the text -/
theorem rparse_any (l : List UInt8) (hl : l.length ≤ 256) (w : World) : Calls Tryz.prog 20 #[.string (bs l)] w (ParseTo w (parseA l)) := by
  have hT := rtokens_any one_first l hl (W2 w)
  unfold parseA
  cases hA : tokA l with
  | bad e a =>
    rw [hA] at hT
    exact rparse_bad (bs l) e a (tokA_bad hA) w hT
  | good L =>
    rw [hA] at hT
    obtain ⟨hv, hL⟩ := tokA_good hA
    exact rparse_good (bs l) L hv hL w hT
theorem rparse_long (s : ByteArray) (h : 256 < s.size) (hs : s.size ≤ 281474976710656) (w : World) : Calls Tryz.prog 20 #[.string s] w (ParseTo w (.bad 3 0)) :=
  rparse_bad s 3 0 (by decide) w (rtokens_long s h hs (W2 w))
end Go.Proofs.YtjgdkiikkgdbaaaGreatDoor
