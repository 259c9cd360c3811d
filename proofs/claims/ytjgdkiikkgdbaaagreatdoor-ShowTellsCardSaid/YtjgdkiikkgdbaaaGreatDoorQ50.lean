/- The reference's parser: a place in the tokens that is handed on; bad, is, must. -/
import Derived.Test.YtjgdkiikkgdbaaaGreatDoorQ27
import Derived.Test.YtjgdkiikkgdbaaaGreatDoorQ30
namespace Go.Proofs.YtjgdkiikkgdbaaaGreatDoor
open Go.RowKit
set_option linter.unusedVariables false
abbrev pV (z n e a : Int) : Value := .agg #[.int .i64 z, .int .i64 n, .int .i64 e, .int .i64 a]
abbrev pO (z n e a : Int) : Obj := .cells #[.int .i64 z, .int .i64 n, .int .i64 e, .int .i64 a] 80
/-- the tokens, where they lie -/
structure LAt (w : World) (tb off : Nat) (L : List Tk) : Prop where
  lt : tb < w.heap.size
  toks : TksAt w tb off L
theorem LAt.next {w w' : World} {tb off : Nat} {L : List Tk} (h : LAt w tb off L) (hb : Below w.heap.size w w') : LAt w' tb off L := ⟨Nat.lt_of_lt_of_le h.lt hb.size, h.toks.held (hb.block tb h.lt)⟩
theorem hd_drop (L : List Tk) (i : Nat) : hd (L.drop i) = L.getD i tk0 := by
  unfold hd
  rw [List.headD_eq_head?_getD, List.head?_drop, List.getD_eq_getElem?_getD]
theorem LAt.tok {w : World} {tb off : Nat} {L : List Tk} (h : LAt w tb off L) {i : Nat} (hi : i < L.length) : LiesAt w tb (off + i * 4) (tkCs (hd (L.drop i))) := by
  rw [hd_drop]; exact h.toks i hi
theorem Vd.drop : ∀ {L : List Tk}, Vd L → ∀ i, i < L.length → Vd (L.drop i)
  | L, h, 0, _ => h
  | _, .one hk h0, i + 1, hi => by simp at hi
  | _, .cons ho hl, i + 1, hi => hl.drop i (by simpa using hi)
/-- is a token of a class next, and nothing wrong? -/
def isR {α : Type} : PR α → Cl → Bool
  | .ok _ l, c => c.test (hd l)
  | .err _ _, _ => false
def mustR {α : Type} : PR α → Cl → PR Unit
  | .ok _ l, c => if c.test (hd l) then .ok () l.tail else .err 11 l
  | .err e l, _ => .err e l
def badR {α : Type} : PR α → Nat → PR Unit
  | .ok _ l, e => .err e l
  | .err e l, _ => .err e l
def opR {α : Type} : PR α → PR Opd
  | .ok _ l => operandP l
  | .err e l => .err e l
def restR {α : Type} : PR α → PR Unit
  | .ok _ l => .ok () l
  | .err e l => .err e l
/-- a place that says where the parser is, or what is wrong -/
def Stt (L : List Tk) {α : Type} (r : PR α) (z e a : Int) : Prop := ∃ i : Nat, z = (i : Nat) ∧ i < L.length ∧ match r with
  | .ok _ l => L.drop i = l ∧ e = 0 ∧ a = 0
  | .err e0 l => e = (e0 : Nat) ∧ e ≠ 0 ∧ a = ((hd l).a : Nat)
theorem Stt.rest {L : List Tk} {α β : Type} {r : PR α} {r' : PR β} {z e a : Int} (h : Stt L r z e a) (hr : restR r = restR r') : Stt L r' z e a := by
  obtain ⟨i, h1, h2, h3⟩ := h
  refine ⟨i, h1, h2, ?_⟩
  cases r with
  | ok x l =>
    cases r' with
    | ok x' l' => injection hr with _ hr; subst hr; exact h3
    | err e' l' => cases hr
  | err e0 l =>
    cases r' with
    | ok x' l' => cases hr
    | err e' l' => injection hr with h4 h5; subst h4; subst h5; exact h3
theorem Stt.ok_of {L : List Tk} {α : Type} {x : α} {l : List Tk} {z e a : Int} (h : Stt L (.ok x l) z e a) : ∃ i : Nat, z = (i : Nat) ∧ i < L.length ∧ L.drop i = l ∧ e = 0 ∧ a = 0 := h
theorem Stt.lt {L : List Tk} {α : Type} {r : PR α} {z e a : Int} (h : Stt L r z e a) : 0 ≤ z ∧ z < L.length := by
  obtain ⟨i, h1, h2, _⟩ := h
  omega
/-- over a token that is there -/
theorem Stt.inc {L : List Tk} {α : Type} {x : α} {l : List Tk} {z e a : Int} (h : Stt L (.ok x l) z e a) (hv : Vd L) {c : Cl} (hc : c.inner) (ht : c.test (hd l) = true) : Stt L (PR.ok () l.tail) (z + 1) e a := by
  obtain ⟨i, h1, h2, h3, h4, h5⟩ := h
  have hvl := hv.drop i h2
  rw [h3] at hvl
  obtain ⟨h6, h7⟩ := hvl.tail hc ht
  have hlen := congrArg List.length h3
  rw [List.length_drop] at hlen
  have := h6.pos
  refine ⟨i + 1, by omega, by omega, ?_, h4, h5⟩
  rw [← h3, List.tail_drop]
theorem Stt.vd {L : List Tk} {α : Type} {x : α} {l : List Tk} {z e a : Int} (h : Stt L (.ok x l) z e a) (hv : Vd L) : Vd l ∧ l.length ≤ L.length := by
  obtain ⟨i, h1, h2, h3, _⟩ := h
  rw [← h3]
  exact ⟨hv.drop i h2, by rw [List.length_drop]; omega⟩
/-- the world of a function of the reference: its place in a box of its own, and other boxes -/
structure RSt (w : World) (tb off : Nat) (L : List Tk) (z n e a : Int) (zs : List (Nat × Obj)) (wr : World) : Prop where
  be : Below w.heap.size w wr
  box : wr.heap[w.heap.size]? = some (pO z n e a)
  own : ∀ p ∈ zs, wr.heap[p.1]? = some p.2 ∧ w.heap.size < p.1
  lat : LAt w tb off L
theorem RSt.at {w wr : World} {tb off : Nat} {L : List Tk} {z n e a : Int} {zs : List (Nat × Obj)} (h : RSt w tb off L z n e a zs wr) : LAt wr tb off L := h.lat.next h.be
theorem RSt.start {w : World} {tb off : Nat} {L : List Tk} (h : LAt w tb off L) (z n e a : Int) : RSt w tb off L z n e a [] (w.alloc (pO z n e a)) := ⟨(Below.refl _ _).alloc (Nat.le_refl _) _, alloc_at w _, fun p hp => by simp at hp, h⟩
theorem RSt.next {w wr w' : World} {tb off : Nat} {L : List Tk} {z n e a : Int} {zs : List (Nat × Obj)} (h : RSt w tb off L z n e a zs wr) (hb : Below wr.heap.size wr w') : RSt w tb off L z n e a zs w' :=
  ⟨bthen h.be hb, rowKeep hb h.box, fun p hp => ⟨rowKeep hb (h.own p hp).1, (h.own p hp).2⟩, h.lat⟩
theorem RSt.new {w wr : World} {tb off : Nat} {L : List Tk} {z n e a : Int} {zs : List (Nat × Obj)} (h : RSt w tb off L z n e a zs wr) (o : Obj) : RSt w tb off L z n e a ((wr.heap.size, o) :: zs) (wr.alloc o) := by
  have h2 := h.next ((Below.refl wr.heap.size wr).alloc (Nat.le_refl _) o)
  refine ⟨h2.be, h2.box, fun p hp => ?_, h.lat⟩
  rcases List.mem_cons.1 hp with rfl | hp
  · exact ⟨alloc_at wr o, lt_of_block h.box⟩
  · exact h2.own p hp
theorem RSt.sub {w wr : World} {tb off : Nat} {L : List Tk} {z n e a : Int} {zs zs' : List (Nat × Obj)} (h : RSt w tb off L z n e a zs wr) (hz : ∀ p ∈ zs', p ∈ zs) : RSt w tb off L z n e a zs' wr := ⟨h.be, h.box, fun p hp => h.own p (hz p hp), h.lat⟩
theorem RSt.turn {w wr w' : World} {tb off : Nat} {L : List Tk} {z n e a z' n' e' a' : Int} {zs : List (Nat × Obj)} (h : RSt w tb off L z n e a zs wr) (ho : Only (fun k => k = w.heap.size) wr w') (hb : w'.heap[w.heap.size]? = some (pO z' n' e' a')) : RSt w tb off L z' n' e' a' zs w' :=
  ⟨h.be.trans (ho.below (fun k hk => by omega) h.be.size), hb, fun p hp => ⟨ho.same (h.own p hp).1 (by have := (h.own p hp).2; omega), (h.own p hp).2⟩, h.lat⟩
theorem RSt.inc {w wr : World} {tb off : Nat} {L : List Tk} {z n e a : Int} {zs : List (Nat × Obj)} (h : RSt w tb off L z n e a zs wr) (z' : Int) : RSt w tb off L z' n e a zs (wr.setCell ⟨w.heap.size, 0, none⟩ (.int .i64 z')) :=
  h.turn ((Only.refl (fun k => k = w.heap.size) wr).setCell (p := ⟨w.heap.size, 0, none⟩) (.inl rfl) _) (set_at (j := 0) h.box)
theorem RSt.nest {w wr : World} {tb off : Nat} {L : List Tk} {z n e a : Int} {zs : List (Nat × Obj)} (h : RSt w tb off L z n e a zs wr) (n' : Int) : RSt w tb off L z n' e a zs (wr.setCell ⟨w.heap.size, 1, none⟩ (.int .i64 n')) :=
  h.turn ((Only.refl (fun k => k = w.heap.size) wr).setCell (p := ⟨w.heap.size, 1, none⟩) (.inl rfl) _) (set_at (j := 1) h.box)
theorem RSt.put {w wr : World} {tb off : Nat} {L : List Tk} {z n e a : Int} {zs : List (Nat × Obj)} (h : RSt w tb off L z n e a zs wr) (z' n' e' a' : Int) : RSt w tb off L z' n' e' a' zs (set4 wr w.heap.size (.int .i64 z') (.int .i64 n') (.int .i64 e') (.int .i64 a')) :=
  h.turn (only4 (S := fun k => k = w.heap.size) (Only.refl _ wr) (.inl rfl) _ _ _ _) (put4 h.box _ _ _ _)
theorem below4 {w W : World} {N b : Nat} (hB : Below N w W) (hb : N ≤ b) (a0 a1 a2 a3 : Value) : Below N w (set4 W b a0 a1 a2 a3) :=
  (((hB.setCell (p := ⟨b, 0, none⟩) hb _).setCell (p := ⟨b, 1, none⟩) hb _).setCell (p := ⟨b, 2, none⟩) hb _).setCell (p := ⟨b, 3, none⟩) hb _
theorem endBad {V : World} {act : Act} {Q : Ending → World → Prop} {z n e a : Int} (hd : act.defers = []) (rb : Nat) (h2 : act.tmps.getD 6 undef = .pointer (some ⟨rb, 0, none⟩)) (hr : V.heap[rb]? = some (pO z n e a))
    (hQ : Q (.returned (pV z n e a)) V) : bodyPost Tryz.prog Tryz.f37 Q Exit.ret act V := by
  refine bodyPost_ret (v := pV z n e a) ?_ hd hQ
  have hl2 := run_loadVar_row (P := Tryz.prog) V rb 80 80 #[.int .i64 z, .int .i64 n, .int .i64 e, .int .i64 a] _ _ hr Tryz.underlying80 rfl (by kernel_rfl)
  rw [Array.getD_eq_getD_getElem?] at h2
  simp [results, Tryz.results37, asAddr, hl2, h2]
/-- with a fault at the token that is next -/
def BadTo (L : List Tk) (r : PR Unit) (z n : Int) (w : World) (x : Ending) (w' : World) : Prop := ∃ e' a' : Int, x = .returned (pV z n e' a') ∧ Stt L r z e' a' ∧ Below w.heap.size w w'
set_option maxRecDepth 100000 in
set_option maxHeartbeats 4000000 in
theorem rbad_any {α : Type} {r : PR α} {L : List Tk} {tb off cap : Nat} {z n e a : Int} (er : Nat) (her : er ≠ 0) {w : World} (hL : LAt w tb off L) (hl99 : L.length ≤ 99) (hS : Stt L r z e a) :
    Calls Tryz.prog 37 #[.slice (some ⟨tb, off, none⟩) L.length cap, pV z n e a, .int .i64 (er : Nat)] w (BadTo L (badR r er) z n w) := by
  obtain ⟨i, rfl, hi, h3⟩ := hS
  have hlt := hL.lt
  have HS := Lib.hid ((RSt.start hL (i : Nat) n e a).new (pO 0 0 0 0))
  have hne : ¬ tb = w.heap.size := by omega
  have hne1 : ¬ tb = w.heap.size + 1 := by omega
  have hz : (w.alloc (pO (i : Nat) n e a)).heap.size = w.heap.size + 1 := by simp
  rw [hz] at HS
  cases r with
  | ok x l =>
    obtain ⟨h4, rfl, rfl⟩ := h3
    have HX := Lib.hid (show BadTo L (badR (.ok x l) er) (i : Nat) n w (.returned (pV (i : Nat) n (er : Nat) ((hd l).a : Nat))) = fun w' => Below w.heap.size w w' from by
      funext w'
      refine propext ⟨fun ⟨e', a', _, _, h⟩ => h, fun h => ⟨_, _, rfl, ⟨i, rfl, hi, rfl, by omega, rfl⟩, h⟩⟩)
    have hh := HS.out.at.tok hi
    rw [h4] at hh
    have t3 := hh 3 _ rfl
    obtain ⟨A, hA⟩ : ∃ A, (hd l).a = A := ⟨_, rfl⟩
    rw [hA] at t3 HX
    have hbx := HS.out.box
    have p0 : ((w.alloc (pO (i : Nat) n 0 0)).alloc (pO 0 0 0 0)).cell? ⟨w.heap.size, 0, none⟩ = some (.int .i64 (i : Nat)) := cell_at hbx rfl
    have fp0 := free_at (j := 0) hbx
    have p1 : ((w.alloc (pO (i : Nat) n 0 0)).alloc (pO 0 0 0 0)).cell? ⟨w.heap.size, 1, none⟩ = some (.int .i64 n) := cell_at hbx rfl
    have fp1 := free_at (j := 1) hbx
    have p2 : ((w.alloc (pO (i : Nat) n 0 0)).alloc (pO 0 0 0 0)).cell? ⟨w.heap.size, 2, none⟩ = some (.int .i64 0) := cell_at hbx rfl
    have fp2 := free_at (j := 2) hbx
    have p3 : ((w.alloc (pO (i : Nat) n 0 0)).alloc (pO 0 0 0 0)).cell? ⟨w.heap.size, 3, none⟩ = some (.int .i64 0) := cell_at hbx rfl
    have fp3 := free_at (j := 3) hbx
    have hr := (HS.out.own _ List.mem_cons_self).1
    have r0 : ((w.alloc (pO (i : Nat) n 0 0)).alloc (pO 0 0 0 0)).cell? ⟨w.heap.size + 1, 0, none⟩ = some (.int .i64 0) := cell_at hr rfl
    have fr0 := free_at (j := 0) hr
    have r1 : ((w.alloc (pO (i : Nat) n 0 0)).alloc (pO 0 0 0 0)).cell? ⟨w.heap.size + 1, 1, none⟩ = some (.int .i64 0) := cell_at hr rfl
    have fr1 := free_at (j := 1) hr
    have r2 : ((w.alloc (pO (i : Nat) n 0 0)).alloc (pO 0 0 0 0)).cell? ⟨w.heap.size + 1, 2, none⟩ = some (.int .i64 0) := cell_at hr rfl
    have fr2 := free_at (j := 2) hr
    have r3 : ((w.alloc (pO (i : Nat) n 0 0)).alloc (pO 0 0 0 0)).cell? ⟨w.heap.size + 1, 3, none⟩ = some (.int .i64 0) := cell_at hr rfl
    have fr3 := free_at (j := 3) hr
    have HSR := Lib.hid hr
    clear hr hbx hh hA h4
    go_enter Tryz.func37, Tryz.ntmps37
    go_upto_region 1 with (fail)
    generalize (w.alloc (pO (i : Nat) n 0 0)).alloc (pO 0 0 0 0) = W at *
    go_wp2_with (fail)
    have hO := ((Only.refl (fun k => k = w.heap.size) W).setCell (p := ⟨w.heap.size, 2, none⟩) (.inl rfl) (.int .i64 (er : Nat))).setCell (p := ⟨w.heap.size, 3, none⟩) (.inl rfl) (.int .i64 (A : Nat))
    have hR := hO.same HSR.out (by omega)
    refine endBad rfl (w.heap.size + 1) rfl (put4 hR _ _ _ _) ?_
    rw [HX.out]
    have hB := HS.out.be.trans (hO.below (fun k hk => by omega) HS.out.be.size)
    exact below4 hB (by omega) _ _ _ _
  | err e0 l =>
    obtain ⟨rfl, h5, rfl⟩ := h3
    have HX := Lib.hid (show BadTo L (badR (.err e0 l : PR α) er) (i : Nat) n w (.returned (pV (i : Nat) n (e0 : Nat) ((hd l).a : Nat))) = fun w' => Below w.heap.size w w' from by
      funext w'
      refine propext ⟨fun ⟨e', a', _, _, h⟩ => h, fun h => ⟨_, _, rfl, ⟨i, rfl, hi, rfl, h5, rfl⟩, h⟩⟩)
    have q0 : (((e0 : Nat) : Int) == 0) = false := beq_eq_false_iff_ne.2 h5
    obtain ⟨A, hA⟩ : ∃ A, (hd l).a = A := ⟨_, rfl⟩
    rw [hA] at HX HS ⊢
    have hbx := HS.out.box
    have p0 : ((w.alloc (pO (i : Nat) n (e0 : Nat) (A : Nat))).alloc (pO 0 0 0 0)).cell? ⟨w.heap.size, 0, none⟩ = some (.int .i64 (i : Nat)) := cell_at hbx rfl
    have fp0 := free_at (j := 0) hbx
    have p1 : ((w.alloc (pO (i : Nat) n (e0 : Nat) (A : Nat))).alloc (pO 0 0 0 0)).cell? ⟨w.heap.size, 1, none⟩ = some (.int .i64 n) := cell_at hbx rfl
    have fp1 := free_at (j := 1) hbx
    have p2 : ((w.alloc (pO (i : Nat) n (e0 : Nat) (A : Nat))).alloc (pO 0 0 0 0)).cell? ⟨w.heap.size, 2, none⟩ = some (.int .i64 (e0 : Nat)) := cell_at hbx rfl
    have fp2 := free_at (j := 2) hbx
    have p3 : ((w.alloc (pO (i : Nat) n (e0 : Nat) (A : Nat))).alloc (pO 0 0 0 0)).cell? ⟨w.heap.size, 3, none⟩ = some (.int .i64 (A : Nat)) := cell_at hbx rfl
    have fp3 := free_at (j := 3) hbx
    have hr := (HS.out.own _ List.mem_cons_self).1
    have r0 : ((w.alloc (pO (i : Nat) n (e0 : Nat) (A : Nat))).alloc (pO 0 0 0 0)).cell? ⟨w.heap.size + 1, 0, none⟩ = some (.int .i64 0) := cell_at hr rfl
    have fr0 := free_at (j := 0) hr
    have r1 : ((w.alloc (pO (i : Nat) n (e0 : Nat) (A : Nat))).alloc (pO 0 0 0 0)).cell? ⟨w.heap.size + 1, 1, none⟩ = some (.int .i64 0) := cell_at hr rfl
    have fr1 := free_at (j := 1) hr
    have r2 : ((w.alloc (pO (i : Nat) n (e0 : Nat) (A : Nat))).alloc (pO 0 0 0 0)).cell? ⟨w.heap.size + 1, 2, none⟩ = some (.int .i64 0) := cell_at hr rfl
    have fr2 := free_at (j := 2) hr
    have r3 : ((w.alloc (pO (i : Nat) n (e0 : Nat) (A : Nat))).alloc (pO 0 0 0 0)).cell? ⟨w.heap.size + 1, 3, none⟩ = some (.int .i64 0) := cell_at hr rfl
    have fr3 := free_at (j := 3) hr
    have HSR := Lib.hid hr
    clear hr hbx hA
    go_enter Tryz.func37, Tryz.ntmps37
    go_upto_region 1 with (fail)
    generalize (w.alloc (pO (i : Nat) n (e0 : Nat) (A : Nat))).alloc (pO 0 0 0 0) = W at *
    go_wp2_with (fail)
    refine endBad rfl (w.heap.size + 1) rfl (put4 HSR.out _ _ _ _) ?_
    rw [HX.out]
    exact below4 HS.out.be (by omega) _ _ _ _
end Go.Proofs.YtjgdkiikkgdbaaaGreatDoor
namespace Go.Proofs.YtjgdkiikkgdbaaaGreatDoor
open Go.RowKit
set_option linter.unusedVariables false
set_option maxRecDepth 100000 in
set_option maxHeartbeats 4000000 in
theorem ris_wd {α : Type} {r : PR α} {L : List Tk} {tb off cap : Nat} {z n e a : Int} (s : List UInt8) {w : World} (hL : LAt w tb off L) (hl99 : L.length ≤ 99) (hS : Stt L r z e a) :
    Calls Tryz.prog 57 #[.slice (some ⟨tb, off, none⟩) L.length cap, pV z n e a, .int .i64 1, .string (bs s)] w fun x w' => x = .returned (.bool (isR r (.wd s))) ∧ Below w.heap.size w w' := by
  obtain ⟨i, rfl, hi, h3⟩ := hS
  have hlt := hL.lt
  have HS := Lib.hid (RSt.start hL (i : Nat) n e a)
  have hne : ¬ tb = w.heap.size := by omega
  cases r with
  | ok x l =>
    obtain ⟨h4, rfl, rfl⟩ := h3
    have hh := HS.out.at.tok hi
    rw [h4] at hh
    show Calls _ _ _ w fun x w' => x = .returned (.bool ((Cl.wd s).test (hd l))) ∧ Below w.heap.size w w'
    obtain ⟨t, ht⟩ : ∃ t, hd l = t := ⟨_, rfl⟩
    rw [ht] at hh ⊢
    have t0 := hh 0 _ rfl
    have t1 := hh 1 _ rfl
    rw [Nat.add_zero] at t0
    have hbx := HS.out.box
    have p0 : (w.alloc (pO (i : Nat) n 0 0)).cell? ⟨w.heap.size, 0, none⟩ = some (.int .i64 (i : Nat)) := cell_at hbx rfl
    have p1 : (w.alloc (pO (i : Nat) n 0 0)).cell? ⟨w.heap.size, 1, none⟩ = some (.int .i64 n) := cell_at hbx rfl
    have p2 : (w.alloc (pO (i : Nat) n 0 0)).cell? ⟨w.heap.size, 2, none⟩ = some (.int .i64 0) := cell_at hbx rfl
    have p3 : (w.alloc (pO (i : Nat) n 0 0)).cell? ⟨w.heap.size, 3, none⟩ = some (.int .i64 0) := cell_at hbx rfl
    have he := bs_eq t.t s
    have hk : (((t.k : Nat) : Int) == 1) = (t.k == 1) := by rw [Bool.eq_iff_iff]; simp; omega
    have hT : (Cl.wd s).test t = (t.k == 1 && t.t == s) := rfl
    rw [hT]
    obtain ⟨p, hp⟩ : ∃ p, (t.k == 1) = p := ⟨_, rfl⟩
    obtain ⟨q, hq⟩ : ∃ q, (t.t == s) = q := ⟨_, rfl⟩
    rw [hp] at hk ⊢
    rw [hq] at he ⊢
    clear hp hq hT hbx hh ht h4
    cases p
    all_goals
      go_enter Tryz.func57, Tryz.ntmps57
      go_wp2
      go_ret
      exact ⟨ret_b15 (by first | rfl | exact he | simp [*]), HS.out.be⟩
  | err e0 l =>
    obtain ⟨rfl, h5, rfl⟩ := h3
    have q0 : (((e0 : Nat) : Int) == 0) = false := beq_eq_false_iff_ne.2 h5
    obtain ⟨A, hA⟩ : ∃ A, (hd l).a = A := ⟨_, rfl⟩
    rw [hA] at HS ⊢
    have hbx := HS.out.box
    have p0 : (w.alloc (pO (i : Nat) n (e0 : Nat) (A : Nat))).cell? ⟨w.heap.size, 0, none⟩ = some (.int .i64 (i : Nat)) := cell_at hbx rfl
    have p1 : (w.alloc (pO (i : Nat) n (e0 : Nat) (A : Nat))).cell? ⟨w.heap.size, 1, none⟩ = some (.int .i64 n) := cell_at hbx rfl
    have p2 : (w.alloc (pO (i : Nat) n (e0 : Nat) (A : Nat))).cell? ⟨w.heap.size, 2, none⟩ = some (.int .i64 (e0 : Nat)) := cell_at hbx rfl
    have p3 : (w.alloc (pO (i : Nat) n (e0 : Nat) (A : Nat))).cell? ⟨w.heap.size, 3, none⟩ = some (.int .i64 (A : Nat)) := cell_at hbx rfl
    clear hbx hA
    go_enter Tryz.func57, Tryz.ntmps57
    go_wp2
    go_ret
    exact ⟨rfl, HS.out.be⟩
set_option maxRecDepth 100000 in
set_option maxHeartbeats 4000000 in
theorem ris_sg {α : Type} {r : PR α} {L : List Tk} {tb off cap : Nat} {z n e a : Int} (s : List UInt8) {w : World} (hL : LAt w tb off L) (hl99 : L.length ≤ 99) (hS : Stt L r z e a) :
    Calls Tryz.prog 57 #[.slice (some ⟨tb, off, none⟩) L.length cap, pV z n e a, .int .i64 5, .string (bs s)] w fun x w' => x = .returned (.bool (isR r (.sg s))) ∧ Below w.heap.size w w' := by
  obtain ⟨i, rfl, hi, h3⟩ := hS
  have hlt := hL.lt
  have HS := Lib.hid (RSt.start hL (i : Nat) n e a)
  have hne : ¬ tb = w.heap.size := by omega
  cases r with
  | ok x l =>
    obtain ⟨h4, rfl, rfl⟩ := h3
    have hh := HS.out.at.tok hi
    rw [h4] at hh
    show Calls _ _ _ w fun x w' => x = .returned (.bool ((Cl.sg s).test (hd l))) ∧ Below w.heap.size w w'
    obtain ⟨t, ht⟩ : ∃ t, hd l = t := ⟨_, rfl⟩
    rw [ht] at hh ⊢
    have t0 := hh 0 _ rfl
    have t1 := hh 1 _ rfl
    rw [Nat.add_zero] at t0
    have hbx := HS.out.box
    have p0 : (w.alloc (pO (i : Nat) n 0 0)).cell? ⟨w.heap.size, 0, none⟩ = some (.int .i64 (i : Nat)) := cell_at hbx rfl
    have p1 : (w.alloc (pO (i : Nat) n 0 0)).cell? ⟨w.heap.size, 1, none⟩ = some (.int .i64 n) := cell_at hbx rfl
    have p2 : (w.alloc (pO (i : Nat) n 0 0)).cell? ⟨w.heap.size, 2, none⟩ = some (.int .i64 0) := cell_at hbx rfl
    have p3 : (w.alloc (pO (i : Nat) n 0 0)).cell? ⟨w.heap.size, 3, none⟩ = some (.int .i64 0) := cell_at hbx rfl
    have he := bs_eq t.t s
    have hk : (((t.k : Nat) : Int) == 5) = (t.k == 5) := by rw [Bool.eq_iff_iff]; simp; omega
    have hT : (Cl.sg s).test t = (t.k == 5 && t.t == s) := rfl
    rw [hT]
    obtain ⟨p, hp⟩ : ∃ p, (t.k == 5) = p := ⟨_, rfl⟩
    obtain ⟨q, hq⟩ : ∃ q, (t.t == s) = q := ⟨_, rfl⟩
    rw [hp] at hk ⊢
    rw [hq] at he ⊢
    clear hp hq hT hbx hh ht h4
    cases p
    all_goals
      go_enter Tryz.func57, Tryz.ntmps57
      go_wp2
      go_ret
      exact ⟨ret_b15 (by first | rfl | exact he | simp [*]), HS.out.be⟩
  | err e0 l =>
    obtain ⟨rfl, h5, rfl⟩ := h3
    have q0 : (((e0 : Nat) : Int) == 0) = false := beq_eq_false_iff_ne.2 h5
    obtain ⟨A, hA⟩ : ∃ A, (hd l).a = A := ⟨_, rfl⟩
    rw [hA] at HS ⊢
    have hbx := HS.out.box
    have p0 : (w.alloc (pO (i : Nat) n (e0 : Nat) (A : Nat))).cell? ⟨w.heap.size, 0, none⟩ = some (.int .i64 (i : Nat)) := cell_at hbx rfl
    have p1 : (w.alloc (pO (i : Nat) n (e0 : Nat) (A : Nat))).cell? ⟨w.heap.size, 1, none⟩ = some (.int .i64 n) := cell_at hbx rfl
    have p2 : (w.alloc (pO (i : Nat) n (e0 : Nat) (A : Nat))).cell? ⟨w.heap.size, 2, none⟩ = some (.int .i64 (e0 : Nat)) := cell_at hbx rfl
    have p3 : (w.alloc (pO (i : Nat) n (e0 : Nat) (A : Nat))).cell? ⟨w.heap.size, 3, none⟩ = some (.int .i64 (A : Nat)) := cell_at hbx rfl
    clear hbx hA
    go_enter Tryz.func57, Tryz.ntmps57
    go_wp2
    go_ret
    exact ⟨rfl, HS.out.be⟩
def MustTo (L : List Tk) (r : PR Unit) (n : Int) (w : World) (x : Ending) (w' : World) : Prop := ∃ z' e' a' : Int, x = .returned (pV z' n e' a') ∧ Stt L r z' e' a' ∧ Below w.heap.size w w'
theorem mustR_no {α : Type} {r : PR α} {c : Cl} (h : isR r c = false) : mustR r c = badR r 11 := by
  cases r with
  | ok x l => show (if c.test (hd l) = true then PR.ok () l.tail else .err 11 l) = .err 11 l; rw [if_neg]; rw [show c.test (hd l) = false from h]; decide
  | err e l => rfl
theorem isR_yes {α : Type} {r : PR α} {c : Cl} (h : isR r c = true) : ∃ x l, r = .ok x l ∧ c.test (hd l) = true := by
  cases r with
  | ok x l => exact ⟨x, l, rfl, h⟩
  | err e l => cases h
/-- over a token, if it is there -/
theorem Stt.over {L : List Tk} {α : Type} {r : PR α} {z e a : Int} (h : Stt L r z e a) (hv : Vd L) {c : Cl} (hc : c.inner) (ht : isR r c = true) : Stt L (mustR r c) (z + 1) e a := by
  obtain ⟨x, l, rfl, h2⟩ := isR_yes ht
  have := h.inc hv hc h2
  show Stt L (if c.test (hd l) = true then PR.ok () l.tail else .err 11 l) _ _ _
  rw [if_pos h2]; exact this
theorem endMust {V : World} {act : Act} {Q : Ending → World → Prop} {z n e a : Int} (hd : act.defers = []) (rb : Nat) (h2 : act.tmps.getD 8 undef = .pointer (some ⟨rb, 0, none⟩)) (hr : V.heap[rb]? = some (pO z n e a))
    (hQ : Q (.returned (pV z n e a)) V) : bodyPost Tryz.prog Tryz.f80 Q Exit.ret act V := by
  refine bodyPost_ret (v := pV z n e a) ?_ hd hQ
  have hl2 := run_loadVar_row (P := Tryz.prog) V rb 80 80 #[.int .i64 z, .int .i64 n, .int .i64 e, .int .i64 a] _ _ hr Tryz.underlying80 rfl (by kernel_rfl)
  rw [Array.getD_eq_getD_getElem?] at h2
  simp [results, Tryz.results80, asAddr, hl2, h2]
set_option maxRecDepth 100000 in
set_option maxHeartbeats 4000000 in
theorem rmust_wd {α : Type} {r : PR α} {L : List Tk} {tb off cap : Nat} {z n e a : Int} (s : List UInt8) {w : World} (hL : LAt w tb off L) (hv : Vd L) (hl99 : L.length ≤ 99) (hS : Stt L r z e a) :
    Calls Tryz.prog 80 #[.slice (some ⟨tb, off, none⟩) L.length cap, pV z n e a, .int .i64 1, .string (bs s)] w (MustTo L (mustR r (.wd s)) n w) := by
  have HS0 := Lib.hid ((RSt.start hL z n e a).new (pO 0 0 0 0))
  have hz : (w.alloc (pO z n e a)).heap.size = w.heap.size + 1 := by simp
  rw [hz] at HS0
  have HIS := Lib.hid (fun wx (h : LAt wx tb off L) => ris_wd (cap := cap) (n := n) s h hl99 hS)
  have hlt := hS.lt
  have hbx := HS0.out.box
  have p0 : ((w.alloc (pO z n e a)).alloc (pO 0 0 0 0)).cell? ⟨w.heap.size, 0, none⟩ = some (.int .i64 z) := cell_at hbx rfl
  have fp0 := free_at (j := 0) hbx
  have p1 : ((w.alloc (pO z n e a)).alloc (pO 0 0 0 0)).cell? ⟨w.heap.size, 1, none⟩ = some (.int .i64 n) := cell_at hbx rfl
  have fp1 := free_at (j := 1) hbx
  have p2 : ((w.alloc (pO z n e a)).alloc (pO 0 0 0 0)).cell? ⟨w.heap.size, 2, none⟩ = some (.int .i64 e) := cell_at hbx rfl
  have fp2 := free_at (j := 2) hbx
  have p3 : ((w.alloc (pO z n e a)).alloc (pO 0 0 0 0)).cell? ⟨w.heap.size, 3, none⟩ = some (.int .i64 a) := cell_at hbx rfl
  have fp3 := free_at (j := 3) hbx
  have hr := (HS0.out.own _ List.mem_cons_self).1
  have r0 : ((w.alloc (pO z n e a)).alloc (pO 0 0 0 0)).cell? ⟨w.heap.size + 1, 0, none⟩ = some (.int .i64 0) := cell_at hr rfl
  have fr0 := free_at (j := 0) hr
  have r1 : ((w.alloc (pO z n e a)).alloc (pO 0 0 0 0)).cell? ⟨w.heap.size + 1, 1, none⟩ = some (.int .i64 0) := cell_at hr rfl
  have fr1 := free_at (j := 1) hr
  have r2 : ((w.alloc (pO z n e a)).alloc (pO 0 0 0 0)).cell? ⟨w.heap.size + 1, 2, none⟩ = some (.int .i64 0) := cell_at hr rfl
  have fr2 := free_at (j := 2) hr
  have r3 : ((w.alloc (pO z n e a)).alloc (pO 0 0 0 0)).cell? ⟨w.heap.size + 1, 3, none⟩ = some (.int .i64 0) := cell_at hr rfl
  have fr3 := free_at (j := 3) hr
  clear hbx hr hz
  cases hq : isR r (.wd s) with
  | true =>
    rw [hq] at HIS
    have HOV := Lib.hid (hS.over hv (c := .wd s) trivial hq)
    clear hq hS hv
    go_enter Tryz.func80, Tryz.ntmps80
    go_upto_region 1 with (fail)
    generalize (w.alloc (pO z n e a)).alloc (pO 0 0 0 0) = W at *
    go_wp2_with (go_at_call 57; refine (HIS.out _ HS0.out.at).mono ?_; rintro x w2 ⟨rfl, hb2⟩; have HS2 := Lib.hid (HS0.out.next hb2); have hbx := HS2.out.box; obtain ⟨p0, fp0, p1, fp1, p2, fp2, p3, fp3⟩ := bf4 hbx; have hr := (HS2.out.own _ List.mem_cons_self).1; obtain ⟨r0, fr0, r1, fr1, r2, fr2, r3, fr3⟩ := bf4 hr; clear hbx hr hb2)
    have HS3 := HS2.out.inc (z + 1)
    refine endMust rfl (w.heap.size + 1) rfl (put4 (HS3.own _ List.mem_cons_self).1 _ _ _ _) ⟨_, _, _, rfl, HOV.out, ?_⟩
    exact below4 HS3.be (by omega) _ _ _ _
  | false =>
    rw [hq] at HIS
    have HBD := Lib.hid (fun wx (h : LAt wx tb off L) => rbad_any (r := r) (cap := cap) (n := n) 11 (by decide) h hl99 hS)
    rw [mustR_no hq]
    clear hq hS hv
    go_enter Tryz.func80, Tryz.ntmps80
    go_upto_region 1 with (fail)
    generalize (w.alloc (pO z n e a)).alloc (pO 0 0 0 0) = W at *
    go_wp2_with (first
      | (go_at_call 37; refine (HBD.out _ HS2.out.at).mono ?_; rintro x w3 ⟨e', a', rfl, hs3, hb3⟩; have HS3 := Lib.hid (HS2.out.next hb3); have HST := Lib.hid hs3; have hr := (HS3.out.own _ List.mem_cons_self).1; obtain ⟨r0, fr0, r1, fr1, r2, fr2, r3, fr3⟩ := bf4 hr; clear hr hb3 hs3)
      | (go_at_call 57; refine (HIS.out _ HS0.out.at).mono ?_; rintro x w2 ⟨rfl, hb2⟩; have HS2 := Lib.hid (HS0.out.next hb2); have hbx := HS2.out.box; obtain ⟨p0, fp0, p1, fp1, p2, fp2, p3, fp3⟩ := bf4 hbx; clear hbx hb2))
    refine endMust rfl (w.heap.size + 1) rfl (put4 (HS3.out.own _ List.mem_cons_self).1 _ _ _ _) ⟨_, _, _, rfl, HST.out, ?_⟩
    exact below4 HS3.out.be (by omega) _ _ _ _
set_option maxRecDepth 100000 in
set_option maxHeartbeats 4000000 in
theorem rmust_sg {α : Type} {r : PR α} {L : List Tk} {tb off cap : Nat} {z n e a : Int} (s : List UInt8) {w : World} (hL : LAt w tb off L) (hv : Vd L) (hl99 : L.length ≤ 99) (hS : Stt L r z e a) :
    Calls Tryz.prog 80 #[.slice (some ⟨tb, off, none⟩) L.length cap, pV z n e a, .int .i64 5, .string (bs s)] w (MustTo L (mustR r (.sg s)) n w) := by
  have HS0 := Lib.hid ((RSt.start hL z n e a).new (pO 0 0 0 0))
  have hz : (w.alloc (pO z n e a)).heap.size = w.heap.size + 1 := by simp
  rw [hz] at HS0
  have HIS := Lib.hid (fun wx (h : LAt wx tb off L) => ris_sg (cap := cap) (n := n) s h hl99 hS)
  have hlt := hS.lt
  have hbx := HS0.out.box
  have p0 : ((w.alloc (pO z n e a)).alloc (pO 0 0 0 0)).cell? ⟨w.heap.size, 0, none⟩ = some (.int .i64 z) := cell_at hbx rfl
  have fp0 := free_at (j := 0) hbx
  have p1 : ((w.alloc (pO z n e a)).alloc (pO 0 0 0 0)).cell? ⟨w.heap.size, 1, none⟩ = some (.int .i64 n) := cell_at hbx rfl
  have fp1 := free_at (j := 1) hbx
  have p2 : ((w.alloc (pO z n e a)).alloc (pO 0 0 0 0)).cell? ⟨w.heap.size, 2, none⟩ = some (.int .i64 e) := cell_at hbx rfl
  have fp2 := free_at (j := 2) hbx
  have p3 : ((w.alloc (pO z n e a)).alloc (pO 0 0 0 0)).cell? ⟨w.heap.size, 3, none⟩ = some (.int .i64 a) := cell_at hbx rfl
  have fp3 := free_at (j := 3) hbx
  have hr := (HS0.out.own _ List.mem_cons_self).1
  have r0 : ((w.alloc (pO z n e a)).alloc (pO 0 0 0 0)).cell? ⟨w.heap.size + 1, 0, none⟩ = some (.int .i64 0) := cell_at hr rfl
  have fr0 := free_at (j := 0) hr
  have r1 : ((w.alloc (pO z n e a)).alloc (pO 0 0 0 0)).cell? ⟨w.heap.size + 1, 1, none⟩ = some (.int .i64 0) := cell_at hr rfl
  have fr1 := free_at (j := 1) hr
  have r2 : ((w.alloc (pO z n e a)).alloc (pO 0 0 0 0)).cell? ⟨w.heap.size + 1, 2, none⟩ = some (.int .i64 0) := cell_at hr rfl
  have fr2 := free_at (j := 2) hr
  have r3 : ((w.alloc (pO z n e a)).alloc (pO 0 0 0 0)).cell? ⟨w.heap.size + 1, 3, none⟩ = some (.int .i64 0) := cell_at hr rfl
  have fr3 := free_at (j := 3) hr
  clear hbx hr hz
  cases hq : isR r (.sg s) with
  | true =>
    rw [hq] at HIS
    have HOV := Lib.hid (hS.over hv (c := .sg s) trivial hq)
    clear hq hS hv
    go_enter Tryz.func80, Tryz.ntmps80
    go_upto_region 1 with (fail)
    generalize (w.alloc (pO z n e a)).alloc (pO 0 0 0 0) = W at *
    go_wp2_with (go_at_call 57; refine (HIS.out _ HS0.out.at).mono ?_; rintro x w2 ⟨rfl, hb2⟩; have HS2 := Lib.hid (HS0.out.next hb2); have hbx := HS2.out.box; obtain ⟨p0, fp0, p1, fp1, p2, fp2, p3, fp3⟩ := bf4 hbx; have hr := (HS2.out.own _ List.mem_cons_self).1; obtain ⟨r0, fr0, r1, fr1, r2, fr2, r3, fr3⟩ := bf4 hr; clear hbx hr hb2)
    have HS3 := HS2.out.inc (z + 1)
    refine endMust rfl (w.heap.size + 1) rfl (put4 (HS3.own _ List.mem_cons_self).1 _ _ _ _) ⟨_, _, _, rfl, HOV.out, ?_⟩
    exact below4 HS3.be (by omega) _ _ _ _
  | false =>
    rw [hq] at HIS
    have HBD := Lib.hid (fun wx (h : LAt wx tb off L) => rbad_any (r := r) (cap := cap) (n := n) 11 (by decide) h hl99 hS)
    rw [mustR_no hq]
    clear hq hS hv
    go_enter Tryz.func80, Tryz.ntmps80
    go_upto_region 1 with (fail)
    generalize (w.alloc (pO z n e a)).alloc (pO 0 0 0 0) = W at *
    go_wp2_with (first
      | (go_at_call 37; refine (HBD.out _ HS2.out.at).mono ?_; rintro x w3 ⟨e', a', rfl, hs3, hb3⟩; have HS3 := Lib.hid (HS2.out.next hb3); have HST := Lib.hid hs3; have hr := (HS3.out.own _ List.mem_cons_self).1; obtain ⟨r0, fr0, r1, fr1, r2, fr2, r3, fr3⟩ := bf4 hr; clear hr hb3 hs3)
      | (go_at_call 57; refine (HIS.out _ HS0.out.at).mono ?_; rintro x w2 ⟨rfl, hb2⟩; have HS2 := Lib.hid (HS0.out.next hb2); have hbx := HS2.out.box; obtain ⟨p0, fp0, p1, fp1, p2, fp2, p3, fp3⟩ := bf4 hbx; clear hbx hb2))
    refine endMust rfl (w.heap.size + 1) rfl (put4 (HS3.out.own _ List.mem_cons_self).1 _ _ _ _) ⟨_, _, _, rfl, HST.out, ?_⟩
    exact below4 HS3.out.be (by omega) _ _ _ _
end Go.Proofs.YtjgdkiikkgdbaaaGreatDoor
namespace Go.Proofs.YtjgdkiikkgdbaaaGreatDoor
open Go.RowKit
set_option linter.unusedVariables false
/-- what the loop still has to do, or what is wrong -/
def leftR (n : Nat) (w : World) (b : Nat) : Nat := match w.cell? ⟨b, 2, none⟩, w.cell? ⟨b, 0, none⟩ with
  | some (.int _ e), some (.int _ z) => if e = 0 then 1 + (n - z.toNat) else 0
  | _, _ => 0
theorem RSt.leftR {w wr : World} {tb off : Nat} {L : List Tk} {z n e a : Int} {zs : List (Nat × Obj)} (h : RSt w tb off L z n e a zs wr) (m : Nat) : leftR m wr w.heap.size = if e = 0 then 1 + (m - z.toNat) else 0 := by
  unfold Go.Proofs.YtjgdkiikkgdbaaaGreatDoor.leftR
  have c2 : wr.cell? ⟨w.heap.size, 2, none⟩ = some (.int .i64 e) := cell_at h.box rfl
  have c0 : wr.cell? ⟨w.heap.size, 0, none⟩ = some (.int .i64 z) := cell_at h.box rfl
  rw [c2, c0]
def PIn (L : List Tk) (RR : PR (List UInt8)) (S : List UInt8) (z e a : Int) : Prop :=
  (S = [] ∧ ∃ l, Stt L (PR.ok () l) z e a ∧ pathS l = RR ∧ l.length ≤ 99) ∨ (S ≠ [] ∧ ∃ f m, Stt L (PR.ok () m) z e a ∧ pathL f m S = RR ∧ m.length < f ∧ m.length ≤ 99 ∧ S.length + 300 * m.length ≤ 30000) ∨ (e ≠ 0 ∧ S.length ≤ 60000 ∧ ∃ e0 l, RR = .err e0 l ∧ Stt L RR z e a)
def PathTo (L : List Tk) (r : PR (List UInt8)) (n : Int) (w : World) (x : Ending) (w' : World) : Prop := ∃ (S : ByteArray) (z' e' a' : Int), x = .returned (.tuple #[.string S, pV z' n e' a']) ∧ Stt L r z' e' a' ∧ (∀ t l', r = .ok t l' → S = bs t) ∧ Below w.heap.size w w'
theorem endRPath {V : World} {act : Act} {Q : Ending → World → Prop} {S : ByteArray} {z n e a : Int} (hd : act.defers = []) (rb : Nat) (h1 : act.tmps.getD 4 undef = .string S) (h2 : act.tmps.getD 5 undef = .pointer (some ⟨rb, 0, none⟩)) (hr : V.heap[rb]? = some (pO z n e a))
    (hQ : Q (.returned (.tuple #[.string S, pV z n e a])) V) : bodyPost Tryz.prog Tryz.f137 Q Exit.ret act V := by
  refine bodyPost_ret (v := .tuple #[.string S, pV z n e a]) ?_ hd hQ
  have hl2 := run_loadVar_row (P := Tryz.prog) V rb 80 80 #[.int .i64 z, .int .i64 n, .int .i64 e, .int .i64 a] _ _ hr Tryz.underlying80 rfl (by kernel_rfl)
  rw [Array.getD_eq_getD_getElem?] at h1 h2
  simp [results, Tryz.results137, asAddr, hl2, h1, h2]
theorem put4d {w : World} {b : Nat} {o0 o1 o2 o3 : Value} {t : TypeId} (h : w.heap[b]? = some (.cells #[o0, o1, o2, o3] t)) (a0 a1 a2 a3 : Value) :
    (set4 w b a0 a1 a2 a3).drew.heap[b]? = some (.cells #[a0, a1, a2, a3] t) := put4 h a0 a1 a2 a3
theorem below4d {w W : World} {N b : Nat} (hB : Below N w W) (hb : N ≤ b) (a0 a1 a2 a3 : Value) : Below N w (set4 W b a0 a1 a2 a3).drew := (below4 hB hb a0 a1 a2 a3).drew
theorem pin_item {L : List Tk} {RR : PR (List UInt8)} {S : List UInt8} {f : Nat} {m : List Tk} {z e a : Int} (hR : contR f (if cShut.test (hd m) then .ok S m.tail else .err 11 m) = RR) (h : Stt L (mustR (PR.ok () m) (.sg [93])) z e a) (hv : Vd m) (hS : S ≠ []) (hl : S.length + 300 * m.length ≤ 30300) (h99 : m.length ≤ 99) (hf : m.length ≤ f) : PIn L RR S z e a := by
  have hm : mustR (PR.ok () m) (.sg [93]) = if cShut.test (hd m) = true then .ok () m.tail else .err 11 m := rfl
  rw [hm] at h
  cases ht : cShut.test (hd m) with
  | true =>
    rw [ht, if_pos rfl] at h hR
    obtain ⟨h1, h2⟩ := hv.tail (c := cShut) trivial ht
    exact .inr (.inl ⟨hS, f, m.tail, h, hR, by omega, by omega, by omega⟩)
  | false =>
    rw [ht, if_neg (by decide)] at h hR
    have hR : PR.err 11 m = RR := hR
    subst hR
    obtain ⟨i, h1, h2, h3, h4, h5⟩ := h
    exact .inr (.inr ⟨h4, by omega, 11, m, rfl, ⟨i, h1, h2, h3, h4, h5⟩⟩)
theorem Vd.word {l : List Tk} (h : Vd l) (hk : (hd l).k = 1) : (hd l).t ≠ [] := by
  cases h with
  | one h6 h0 => exact absurd (h6.symm.trans hk) (by decide)
  | cons ho hl => exact ho.2.1 hk
theorem left_less {n : Nat} {w w' : World} {b : Nat} {z z' e' : Int} (h' : leftR n w' b = if e' = 0 then 1 + (n - z'.toNat) else 0) (h : leftR n w b = if (0 : Int) = 0 then 1 + (n - z.toNat) else 0) (hz : e' = 0 → z < z' ∧ 0 ≤ z ∧ z' ≤ n) (hn : True) : leftR n w' b < leftR n w b := by
  rw [h', h, if_pos rfl]
  split
  · rename_i he
    have := hz he
    omega
  · omega
theorem must_less {L : List Tk} {m : List Tk} {c : Cl} {z e a : Int} {i : Nat} (h : Stt L (mustR (PR.ok () m) c) z e a) (hi : L.drop i = m) (hil : i < L.length) : e = 0 → (i : Int) < z ∧ z < L.length := by
  intro he
  obtain ⟨j, h1, h2, h3⟩ := h
  have hm : mustR (PR.ok () m) c = if c.test (hd m) = true then .ok () m.tail else .err 11 m := rfl
  rw [hm] at h3
  by_cases ht : c.test (hd m) = true
  · rw [if_pos ht] at h3
    obtain ⟨h4, _, _⟩ := h3
    have e1 := congrArg List.length h4
    have e2 := congrArg List.length hi
    rw [List.length_drop] at e1 e2
    rw [List.length_tail] at e1
    omega
  · rw [if_neg ht] at h3
    exact absurd he h3.2.1
set_option maxRecDepth 100000 in
set_option maxHeartbeats 8000000 in
theorem rpath_any {L : List Tk} {tb off cap : Nat} {z n e a : Int} {l : List Tk} {w : World} (hL : LAt w tb off L) (hv : Vd L) (hl99 : L.length ≤ 99) (hS : Stt L (PR.ok () l) z e a) :
    Calls Tryz.prog 137 #[.slice (some ⟨tb, off, none⟩) L.length cap, pV z n e a] w (PathTo L (pathS l) n w) := by
  have HS0 := Lib.hid ((RSt.start hL z n e a).new (pO 0 0 0 0))
  have hz : (w.alloc (pO z n e a)).heap.size = w.heap.size + 1 := by simp
  rw [hz] at HS0
  have htbw := hL.lt
  have htb : ¬ tb = w.heap.size := by omega
  have htc : ¬ w.heap.size = tb := by omega
  have HVL := Lib.hid hv
  have hll := (hS.vd hv).2
  have HI0 := Lib.hid (show PIn L (pathS l) [] z e a from .inl ⟨rfl, l, hS, rfl, by omega⟩)
  obtain ⟨RR, hRR⟩ : ∃ RR, pathS l = RR := ⟨_, rfl⟩
  rw [hRR] at HI0 ⊢
  have hsz := bs_size
  clear hRR hS hv hll hz hL htbw
  go_enter Tryz.func137, Tryz.ntmps137
  go_upto_region 1 with (fail)
  generalize (w.alloc (pO z n e a)).alloc (pO 0 0 0 0) = W at *
  go_wp2_with (fail)
  go_loopw [6] (fun s wr => ∃ (S : List UInt8) (z e a : Int), s = .string (bs S) ∧ Hid (PIn L RR S z e a) ∧ Hid (RSt w tb off L z n e a [(w.heap.size + 1, pO 0 0 0 0)] wr)) (fun _ wr => leftR L.length wr w.heap.size)
  case atStart => exact ⟨[], z, e, a, rfl, HI0, HS0⟩
  case round =>
    obtain ⟨S, z, e, a, rfl, HI, HS⟩ := hrel
    have hmz := HS.out.leftR L.length
    have hbx := HS.out.box
    obtain ⟨p0, fp0, p1, fp1, p2, fp2, p3, fp3⟩ := bf4 hbx
    have hr := (HS.out.own _ List.mem_cons_self).1
    obtain ⟨r0, fr0, r1, fr1, r2, fr2, r3, fr3⟩ := bf4 hr
    clear hbx hr
    have hI := HI.out
    unfold PIn at hI
    rcases hI with ⟨rfl, m, hst, hRR, hm99⟩ | ⟨hne, f, m, hst, hRR, hmf, hm99, hlen⟩ | ⟨he, hlen, e0, m, hRR, hst⟩
    · obtain ⟨i, rfl, hi, hmi, rfl, rfl⟩ := hst.ok_of
      have hv := HVL.out
      cases ho : cOpen.test (hd m) with
      | true =>
        rw [pathS_cont, step_item _ _ _ ho] at hRR
        cases hk : (Cl.kd 2).test (hd m.tail) with
        | true =>
          rw [if_pos hk] at hRR
          have HMZ := Lib.hid hmz
          have HML := Lib.hid (show m.length = L.length - i by rw [← hmi, List.length_drop])
          clear hmz
          have HOP := Lib.hid (show ∀ wx, LAt wx tb off L → Calls Tryz.prog 57 #[.slice (some ⟨tb, off, none⟩) L.length cap, .agg #[.int .i64 (i : Nat), .int .i64 n, .int .i64 0, .int .i64 0], .int .i64 5, .string ⟨#[91]⟩] wx fun x w' => x = .returned (.bool true) ∧ Below wx.heap.size wx w' from fun wx h => by have h2 := ris_sg (r := PR.ok () m) (cap := cap) (n := n) [91] h hl99 hst; rw [show isR (PR.ok () m) (.sg [91]) = true from ho] at h2; exact h2)
          have hst1 := hst.inc hv (c := cOpen) trivial ho
          obtain ⟨j1, hj1, hi1, hm1, _, _⟩ := hst1.ok_of
          obtain rfl : j1 = i + 1 := by omega
          obtain ⟨T, hT⟩ : ∃ T, hd m.tail = T := ⟨_, rfl⟩
          have HTK := Lib.hid (fun wx (h : LAt wx tb off L) => show LiesAt wx tb (off + (i + 1) * 4) (tkCs T) from by have := h.tok hi1; rwa [hm1, hT] at this)
          have hTl : T.t.length ≤ 256 := by rw [← hT]; exact Short.hd (hst1.vd hv).1.short
          have hst2 := hst1.inc hv (c := .kd 2) (by simp [Cl.inner]) hk
          have hvm2 := hst2.vd hv
          rw [hT] at hk hRR
          have hk2 : (((T.k : Nat) : Int) == 2) = true := by have h : (T.k == 2) = true := hk; rw [beq_iff_eq] at h; rw [h]; rfl
          have HMU := Lib.hid (fun wx (h : LAt wx tb off L) => rmust_sg (r := PR.ok () m.tail.tail) (cap := cap) (n := n) [93] h hv hl99 hst2)
          obtain ⟨j2, hj2, hi2, hm2, _, _⟩ := hst2.ok_of
          have q1 : (⟨#[91]⟩ : ByteArray) ++ bs T.t = bs (91 :: T.t) := bs_append [91] T.t
          have q2 : bs (91 :: T.t) ++ (⟨#[93]⟩ : ByteArray) = bs (91 :: (T.t ++ [93])) := bs_append (91 :: T.t) [93]
          have q3 : (⟨#[]⟩ : ByteArray) ++ bs (91 :: (T.t ++ [93])) = bs (91 :: (T.t ++ [93])) := bs_append [] _
          have HRX := Lib.hid hRR
          have HS2T := Lib.hid hst2
          have HLN := Lib.hid hm99
          have hb0 : bs [] = (⟨#[]⟩ : ByteArray) := rfl
          have HV := Lib.hid hv
          obtain rfl : j2 = i + 1 + 1 := by omega
          have HM2 := Lib.hid (And.intro hm2 hi2)
          have HVM := Lib.hid hvm2.2
          clear hRR hst hmi hv ho hst1 hm1 hT hj1 hst2 hvm2 hm2 hj2 hk
          go_wp2_with (first
            | (go_at_call 80; refine (HMU.out _ ((HS2.out.inc (((i : Nat) : Int) + 1)).inc (((i : Nat) : Int) + 1 + 1)).at).mono ?_; rintro x w4 ⟨z', e', a', rfl, hs4, hb4⟩; have HS4 := Lib.hid (((HS2.out.inc (((i : Nat) : Int) + 1)).inc (((i : Nat) : Int) + 1 + 1)).next hb4); have HS4T := Lib.hid hs4; have hbx := HS4.out.box; obtain ⟨p0, fp0, p1, fp1, p2, fp2, p3, fp3⟩ := bf4 hbx; clear hbx hs4 hb4)
            | (go_at_call 57; (with_reducible refine (HOP.out _ HS.out.at).mono ?_); rintro x w2 ⟨rfl, hb2⟩; have HS2 := Lib.hid (HS.out.next hb2); have hbx := HS2.out.box; obtain ⟨p0, fp0, p1, fp1, p2, fp2, p3, fp3⟩ := bf4 hbx; clear hbx; have hr := (HS2.out.own _ List.mem_cons_self).1; obtain ⟨r0, fr0, r1, fr1, r2, fr2, r3, fr3⟩ := bf4 hr; clear hr; have hh := HTK.out _ HS2.out.at; have t0 : w2.cell? ⟨tb, off + (i + 1) * 4, none⟩ = some (.int .i64 ((T.k : Nat) : Int)) := hh 0 _ rfl; have t1 : w2.cell? ⟨tb, off + (i + 1) * 4 + 1, none⟩ = some (.string (bs T.t)) := hh 1 _ rfl; have t2 : w2.cell? ⟨tb, off + (i + 1) * 4 + 2, none⟩ = some (.int .u64 ((T.n : Nat) : Int)) := hh 2 _ rfl; have t3 : w2.cell? ⟨tb, off + (i + 1) * 4 + 3, none⟩ = some (.int .i64 ((T.a : Nat) : Int)) := hh 3 _ rfl; clear hh; clear hb2))
          have hmz := ((HS4.out.put z' n e' a').leftR L.length)
          have hz0 := HS4T.out.lt
          go_roundw
          have hml := HML.out; have hln := HLN.out
          case rel => exact ⟨91 :: (T.t ++ [93]), z', e', a', by trivial, Lib.hid (pin_item HRX.out HS4T.out (HS2T.out.vd HV.out).1 (by simp) (by simp [List.length_tail]; omega) (by simp [List.length_tail]; omega) (by simp [List.length_tail]; omega)), Lib.hid (HS4.out.put z' n e' a')⟩
          case measure => exact left_less hmz HMZ.out (fun he => by have := must_less HS4T.out HM2.out.1 HM2.out.2 he; omega) trivial
        | false =>
          rw [if_neg (by rw [hk]; decide)] at hRR
          have HMZ := Lib.hid hmz
          have HML := Lib.hid (show m.length = L.length - i by rw [← hmi, List.length_drop])
          clear hmz
          have HOP := Lib.hid (show ∀ wx, LAt wx tb off L → Calls Tryz.prog 57 #[.slice (some ⟨tb, off, none⟩) L.length cap, .agg #[.int .i64 (i : Nat), .int .i64 n, .int .i64 0, .int .i64 0], .int .i64 5, .string ⟨#[91]⟩] wx fun x w' => x = .returned (.bool true) ∧ Below wx.heap.size wx w' from fun wx h => by have h2 := ris_sg (r := PR.ok () m) (cap := cap) (n := n) [91] h hl99 hst; rw [show isR (PR.ok () m) (.sg [91]) = true from ho] at h2; exact h2)
          have hst1 := hst.inc hv (c := cOpen) trivial ho
          obtain ⟨j1, hj1, hi1, hm1, _, _⟩ := hst1.ok_of
          obtain rfl : j1 = i + 1 := by omega
          obtain ⟨T, hT⟩ : ∃ T, hd m.tail = T := ⟨_, rfl⟩
          have HTK := Lib.hid (fun wx (h : LAt wx tb off L) => show LiesAt wx tb (off + (i + 1) * 4) (tkCs T) from by have := h.tok hi1; rwa [hm1, hT] at this)
          have hTl : T.t.length ≤ 256 := by rw [← hT]; exact Short.hd (hst1.vd hv).1.short
          rw [hT] at hk
          have hk2 : (((T.k : Nat) : Int) == 2) = false := by have h : (T.k == 2) = false := hk; rw [beq_eq_false_iff_ne] at h; rw [beq_eq_false_iff_ne]; omega
          have HBD := Lib.hid (fun wx (h : LAt wx tb off L) => rbad_any (r := PR.ok () m.tail) (cap := cap) (n := n) 11 (by decide) h hl99 hst1)
          have HRX := Lib.hid hRR
          have HLN := Lib.hid hm99
          have hb0 : bs [] = (⟨#[]⟩ : ByteArray) := rfl
          have HV := Lib.hid hv
          clear hRR hst hmi hv ho hst1 hm1 hT hj1 hk
          go_wp2_with (first
            | (go_at_call 37; refine (HBD.out _ (HS2.out.inc (((i : Nat) : Int) + 1)).at).mono ?_; rintro x w4 ⟨e', a', rfl, hs4, hb4⟩; have HS4 := Lib.hid ((HS2.out.inc (((i : Nat) : Int) + 1)).next hb4); have HS4T := Lib.hid hs4; have hr := (HS4.out.own _ List.mem_cons_self).1; obtain ⟨r0, fr0, r1, fr1, r2, fr2, r3, fr3⟩ := bf4 hr; clear hr hs4 hb4)
            | (go_at_call 57; (with_reducible refine (HOP.out _ HS.out.at).mono ?_); rintro x w2 ⟨rfl, hb2⟩; have HS2 := Lib.hid (HS.out.next hb2); have hbx := HS2.out.box; obtain ⟨p0, fp0, p1, fp1, p2, fp2, p3, fp3⟩ := bf4 hbx; clear hbx; have hr := (HS2.out.own _ List.mem_cons_self).1; obtain ⟨r0, fr0, r1, fr1, r2, fr2, r3, fr3⟩ := bf4 hr; clear hr; have hh := HTK.out _ HS2.out.at; have t0 : w2.cell? ⟨tb, off + (i + 1) * 4, none⟩ = some (.int .i64 ((T.k : Nat) : Int)) := hh 0 _ rfl; have t1 : w2.cell? ⟨tb, off + (i + 1) * 4 + 1, none⟩ = some (.string (bs T.t)) := hh 1 _ rfl; have t2 : w2.cell? ⟨tb, off + (i + 1) * 4 + 2, none⟩ = some (.int .u64 ((T.n : Nat) : Int)) := hh 2 _ rfl; have t3 : w2.cell? ⟨tb, off + (i + 1) * 4 + 3, none⟩ = some (.int .i64 ((T.a : Nat) : Int)) := hh 3 _ rfl; clear hh; clear hb2))
          refine endRPath rfl (w.heap.size + 1) rfl rfl (put4 (HS4.out.own _ List.mem_cons_self).1 _ _ _ _) ⟨_, _, _, _, rfl, (by rw [← HRX.out]; exact HS4T.out), (by intro t l' h; rw [← HRX.out] at h; cases h), ?_⟩
          exact below4 HS4.out.be (by omega) _ _ _ _
      | false =>
        rw [pathS_cont, step_name _ _ ho] at hRR
        cases hn : Cl.nm.test (hd m) with
        | true =>
          rw [if_pos hn] at hRR
          have HMZ := Lib.hid hmz
          have HML := Lib.hid (show m.length = L.length - i by rw [← hmi, List.length_drop])
          clear hmz
          have HOP := Lib.hid (show ∀ wx, LAt wx tb off L → Calls Tryz.prog 57 #[.slice (some ⟨tb, off, none⟩) L.length cap, .agg #[.int .i64 (i : Nat), .int .i64 n, .int .i64 0, .int .i64 0], .int .i64 5, .string ⟨#[91]⟩] wx fun x w' => x = .returned (.bool false) ∧ Below wx.heap.size wx w' from fun wx h => by have h2 := ris_sg (r := PR.ok () m) (cap := cap) (n := n) [91] h hl99 hst; rw [show isR (PR.ok () m) (.sg [91]) = false from ho] at h2; exact h2)
          have hst1 := hst
          have hi1 := hi
          have hm1 := hmi
          obtain ⟨T, hT⟩ : ∃ T, hd m = T := ⟨_, rfl⟩
          have HTK := Lib.hid (fun wx (h : LAt wx tb off L) => show LiesAt wx tb (off + i * 4) (tkCs T) from by have := h.tok hi1; rwa [hm1, hT] at this)
          have hTl : T.t.length ≤ 256 := by rw [← hT]; exact Short.hd (hst1.vd hv).1.short
          rw [hT] at hn
          have hn : (T.k == 1 && !wordsL.contains T.t) = true := hn
          have HWD := Lib.hid (fun wx => refWord_any (bs T.t) wx)
          have hwS : wordS (bs T.t) = wordsL.contains T.t := rfl
          rw [hwS] at HWD
          have HNN := Lib.hid (show T.t ≠ [] by rw [← hT]; exact (hst1.vd hv).1.word (by rw [hT]; have h : (T.k == 1 && !wordsL.contains T.t) = true := hn; rw [Bool.and_eq_true] at h; simpa using h.1))
          rw [Bool.and_eq_true] at hn
          rw [show wordsL.contains T.t = false from by simpa using hn.2] at HWD
          have hk1 : (((T.k : Nat) : Int) == 1) = true := by have h := hn.1; rw [beq_iff_eq] at h; rw [h]; rfl
          have hst2 := hst1.inc hv (c := .nm) trivial (by rw [hT]; exact (show (T.k == 1 && !wordsL.contains T.t) = true by rw [Bool.and_eq_true]; exact hn))
          have hvm2 := hst2.vd hv
          rw [hT] at hRR
          obtain ⟨j2, hj2, hi2, hm2, _, _⟩ := hst2.ok_of
          have q3 : (⟨#[]⟩ : ByteArray) ++ bs T.t = bs T.t := bs_append [] _
          have HRX := Lib.hid hRR
          have HS2T := Lib.hid hst2
          have HLN := Lib.hid hm99
          have hb0 : bs [] = (⟨#[]⟩ : ByteArray) := rfl
          have HV := Lib.hid hv
          have HVM := Lib.hid hvm2.2
          clear hRR hst hmi hv ho hst1 hm1 hT hst2 hvm2 hm2 hj2 hn hwS
          go_wp2_with (first
            | (go_at_call 64; refine (HWD.out _).mono ?_; rintro x w5 ⟨rfl, hb5⟩; have HS5 := Lib.hid (HS2.out.next hb5); have hbx := HS5.out.box; obtain ⟨p0, fp0, p1, fp1, p2, fp2, p3, fp3⟩ := bf4 hbx; clear hbx; have hr := (HS5.out.own _ List.mem_cons_self).1; obtain ⟨r0, fr0, r1, fr1, r2, fr2, r3, fr3⟩ := bf4 hr; clear hr; have hh := HTK.out _ HS5.out.at; have t0 : w5.cell? ⟨tb, off + i * 4, none⟩ = some (.int .i64 ((T.k : Nat) : Int)) := hh 0 _ rfl; have t1 : w5.cell? ⟨tb, off + i * 4 + 1, none⟩ = some (.string (bs T.t)) := hh 1 _ rfl; have t2 : w5.cell? ⟨tb, off + i * 4 + 2, none⟩ = some (.int .u64 ((T.n : Nat) : Int)) := hh 2 _ rfl; have t3 : w5.cell? ⟨tb, off + i * 4 + 3, none⟩ = some (.int .i64 ((T.a : Nat) : Int)) := hh 3 _ rfl; clear hh hb5)
            | (go_at_call 57; (with_reducible refine (HOP.out _ HS.out.at).mono ?_); rintro x w2 ⟨rfl, hb2⟩; have HS2 := Lib.hid (HS.out.next hb2); have hbx := HS2.out.box; obtain ⟨p0, fp0, p1, fp1, p2, fp2, p3, fp3⟩ := bf4 hbx; clear hbx; have hr := (HS2.out.own _ List.mem_cons_self).1; obtain ⟨r0, fr0, r1, fr1, r2, fr2, r3, fr3⟩ := bf4 hr; clear hr; have hh := HTK.out _ HS2.out.at; have t0 : w2.cell? ⟨tb, off + i * 4, none⟩ = some (.int .i64 ((T.k : Nat) : Int)) := hh 0 _ rfl; have t1 : w2.cell? ⟨tb, off + i * 4 + 1, none⟩ = some (.string (bs T.t)) := hh 1 _ rfl; have t2 : w2.cell? ⟨tb, off + i * 4 + 2, none⟩ = some (.int .u64 ((T.n : Nat) : Int)) := hh 2 _ rfl; have t3 : w2.cell? ⟨tb, off + i * 4 + 3, none⟩ = some (.int .i64 ((T.a : Nat) : Int)) := hh 3 _ rfl; clear hh; clear hb2))
          go_roundw
          have hml := HML.out; have hln := HLN.out
          case rel => exact ⟨T.t, (((i : Nat) : Int) + 1), 0, 0, by first | rfl | simp, Lib.hid (.inr (.inl ⟨HNN.out, 100, m.tail, HS2T.out, HRX.out, by simp [List.length_tail]; omega, by simp [List.length_tail]; omega, by simp [List.length_tail]; omega⟩)), Lib.hid (HS5.out.inc (((i : Nat) : Int) + 1))⟩
          case measure => exact left_less ((HS5.out.inc (((i : Nat) : Int) + 1)).leftR L.length) HMZ.out (fun _ => by omega) trivial
        | false =>
          rw [if_neg (by rw [hn]; decide)] at hRR
          by_cases hkk : (hd m).k = 1
          · skip
            have HMZ := Lib.hid hmz
            have HML := Lib.hid (show m.length = L.length - i by rw [← hmi, List.length_drop])
            clear hmz
            have HOP := Lib.hid (show ∀ wx, LAt wx tb off L → Calls Tryz.prog 57 #[.slice (some ⟨tb, off, none⟩) L.length cap, .agg #[.int .i64 (i : Nat), .int .i64 n, .int .i64 0, .int .i64 0], .int .i64 5, .string ⟨#[91]⟩] wx fun x w' => x = .returned (.bool false) ∧ Below wx.heap.size wx w' from fun wx h => by have h2 := ris_sg (r := PR.ok () m) (cap := cap) (n := n) [91] h hl99 hst; rw [show isR (PR.ok () m) (.sg [91]) = false from ho] at h2; exact h2)
            have hst1 := hst
            have hi1 := hi
            have hm1 := hmi
            obtain ⟨T, hT⟩ : ∃ T, hd m = T := ⟨_, rfl⟩
            have HTK := Lib.hid (fun wx (h : LAt wx tb off L) => show LiesAt wx tb (off + i * 4) (tkCs T) from by have := h.tok hi1; rwa [hm1, hT] at this)
            have hTl : T.t.length ≤ 256 := by rw [← hT]; exact Short.hd (hst1.vd hv).1.short
            have HBD := Lib.hid (fun wx (h : LAt wx tb off L) => rbad_any (r := PR.ok () m) (cap := cap) (n := n) 11 (by decide) h hl99 hst1)
            rw [hT] at hn hkk
            have hn : (T.k == 1 && !wordsL.contains T.t) = false := hn
            have HWD := Lib.hid (fun wx => refWord_any (bs T.t) wx)
            have hwS : wordS (bs T.t) = wordsL.contains T.t := rfl
            rw [hwS] at HWD
            have hk1 : (((T.k : Nat) : Int) == 1) = true := by rw [beq_iff_eq]; omega
            have hk0 : (T.k == 1) = true := by simpa using hkk
            rw [hk0] at hn
            have hwt : wordsL.contains T.t = true := by simpa using hn
            rw [hwt] at HWD
            have HRX := Lib.hid hRR
            have HLN := Lib.hid hm99
            have hb0 : bs [] = (⟨#[]⟩ : ByteArray) := rfl
            have HV := Lib.hid hv
            clear hRR hst hmi hv ho hst1 hm1 hT hn hkk hwS hwt hk0
            go_wp2_with (first
              | (go_at_call 37; refine (HBD.out _ HS5.out.at).mono ?_; rintro x w4 ⟨e', a', rfl, hs4, hb4⟩; have HS4 := Lib.hid (HS5.out.next hb4); have HS4T := Lib.hid hs4; have hr := (HS4.out.own _ List.mem_cons_self).1; obtain ⟨r0, fr0, r1, fr1, r2, fr2, r3, fr3⟩ := bf4 hr; clear hr hs4 hb4)
              | (go_at_call 64; refine (HWD.out _).mono ?_; rintro x w5 ⟨rfl, hb5⟩; have HS5 := Lib.hid (HS2.out.next hb5); have hbx := HS5.out.box; obtain ⟨p0, fp0, p1, fp1, p2, fp2, p3, fp3⟩ := bf4 hbx; clear hbx; have hr := (HS5.out.own _ List.mem_cons_self).1; obtain ⟨r0, fr0, r1, fr1, r2, fr2, r3, fr3⟩ := bf4 hr; clear hr; have hh := HTK.out _ HS5.out.at; have t0 : w5.cell? ⟨tb, off + i * 4, none⟩ = some (.int .i64 ((T.k : Nat) : Int)) := hh 0 _ rfl; have t1 : w5.cell? ⟨tb, off + i * 4 + 1, none⟩ = some (.string (bs T.t)) := hh 1 _ rfl; have t2 : w5.cell? ⟨tb, off + i * 4 + 2, none⟩ = some (.int .u64 ((T.n : Nat) : Int)) := hh 2 _ rfl; have t3 : w5.cell? ⟨tb, off + i * 4 + 3, none⟩ = some (.int .i64 ((T.a : Nat) : Int)) := hh 3 _ rfl; clear hh hb5)
              | (go_at_call 57; (with_reducible refine (HOP.out _ HS.out.at).mono ?_); rintro x w2 ⟨rfl, hb2⟩; have HS2 := Lib.hid (HS.out.next hb2); have hbx := HS2.out.box; obtain ⟨p0, fp0, p1, fp1, p2, fp2, p3, fp3⟩ := bf4 hbx; clear hbx; have hr := (HS2.out.own _ List.mem_cons_self).1; obtain ⟨r0, fr0, r1, fr1, r2, fr2, r3, fr3⟩ := bf4 hr; clear hr; have hh := HTK.out _ HS2.out.at; have t0 : w2.cell? ⟨tb, off + i * 4, none⟩ = some (.int .i64 ((T.k : Nat) : Int)) := hh 0 _ rfl; have t1 : w2.cell? ⟨tb, off + i * 4 + 1, none⟩ = some (.string (bs T.t)) := hh 1 _ rfl; have t2 : w2.cell? ⟨tb, off + i * 4 + 2, none⟩ = some (.int .u64 ((T.n : Nat) : Int)) := hh 2 _ rfl; have t3 : w2.cell? ⟨tb, off + i * 4 + 3, none⟩ = some (.int .i64 ((T.a : Nat) : Int)) := hh 3 _ rfl; clear hh; clear hb2))
            refine endRPath rfl (w.heap.size + 1) rfl rfl (put4 (HS4.out.own _ List.mem_cons_self).1 _ _ _ _) ⟨_, _, _, _, rfl, (by rw [← HRX.out]; exact HS4T.out), (by intro t l' h; rw [← HRX.out] at h; cases h), ?_⟩
            exact below4 HS4.out.be (by omega) _ _ _ _
          · skip
            have HMZ := Lib.hid hmz
            have HML := Lib.hid (show m.length = L.length - i by rw [← hmi, List.length_drop])
            clear hmz
            have HOP := Lib.hid (show ∀ wx, LAt wx tb off L → Calls Tryz.prog 57 #[.slice (some ⟨tb, off, none⟩) L.length cap, .agg #[.int .i64 (i : Nat), .int .i64 n, .int .i64 0, .int .i64 0], .int .i64 5, .string ⟨#[91]⟩] wx fun x w' => x = .returned (.bool false) ∧ Below wx.heap.size wx w' from fun wx h => by have h2 := ris_sg (r := PR.ok () m) (cap := cap) (n := n) [91] h hl99 hst; rw [show isR (PR.ok () m) (.sg [91]) = false from ho] at h2; exact h2)
            have hst1 := hst
            have hi1 := hi
            have hm1 := hmi
            obtain ⟨T, hT⟩ : ∃ T, hd m = T := ⟨_, rfl⟩
            have HTK := Lib.hid (fun wx (h : LAt wx tb off L) => show LiesAt wx tb (off + i * 4) (tkCs T) from by have := h.tok hi1; rwa [hm1, hT] at this)
            have hTl : T.t.length ≤ 256 := by rw [← hT]; exact Short.hd (hst1.vd hv).1.short
            have HBD := Lib.hid (fun wx (h : LAt wx tb off L) => rbad_any (r := PR.ok () m) (cap := cap) (n := n) 11 (by decide) h hl99 hst1)
            rw [hT] at hn hkk
            have hn : (T.k == 1 && !wordsL.contains T.t) = false := hn
            have HWD := Lib.hid (fun wx => refWord_any (bs T.t) wx)
            have hwS : wordS (bs T.t) = wordsL.contains T.t := rfl
            rw [hwS] at HWD
            have hk1 : (((T.k : Nat) : Int) == 1) = false := by rw [beq_eq_false_iff_ne]; exact fun e => hkk (by omega)
            have HRX := Lib.hid hRR
            have HLN := Lib.hid hm99
            have hb0 : bs [] = (⟨#[]⟩ : ByteArray) := rfl
            have HV := Lib.hid hv
            clear hRR hst hmi hv ho hst1 hm1 hT hn hkk hwS
            go_wp2_with (first
              | (go_at_call 37; refine (HBD.out _ HS2.out.at).mono ?_; rintro x w4 ⟨e', a', rfl, hs4, hb4⟩; have HS4 := Lib.hid (HS2.out.next hb4); have HS4T := Lib.hid hs4; have hr := (HS4.out.own _ List.mem_cons_self).1; obtain ⟨r0, fr0, r1, fr1, r2, fr2, r3, fr3⟩ := bf4 hr; clear hr hs4 hb4)
              | (go_at_call 57; (with_reducible refine (HOP.out _ HS.out.at).mono ?_); rintro x w2 ⟨rfl, hb2⟩; have HS2 := Lib.hid (HS.out.next hb2); have hbx := HS2.out.box; obtain ⟨p0, fp0, p1, fp1, p2, fp2, p3, fp3⟩ := bf4 hbx; clear hbx; have hr := (HS2.out.own _ List.mem_cons_self).1; obtain ⟨r0, fr0, r1, fr1, r2, fr2, r3, fr3⟩ := bf4 hr; clear hr; have hh := HTK.out _ HS2.out.at; have t0 : w2.cell? ⟨tb, off + i * 4, none⟩ = some (.int .i64 ((T.k : Nat) : Int)) := hh 0 _ rfl; have t1 : w2.cell? ⟨tb, off + i * 4 + 1, none⟩ = some (.string (bs T.t)) := hh 1 _ rfl; have t2 : w2.cell? ⟨tb, off + i * 4 + 2, none⟩ = some (.int .u64 ((T.n : Nat) : Int)) := hh 2 _ rfl; have t3 : w2.cell? ⟨tb, off + i * 4 + 3, none⟩ = some (.int .i64 ((T.a : Nat) : Int)) := hh 3 _ rfl; clear hh; clear hb2))
            refine endRPath rfl (w.heap.size + 1) rfl rfl (put4 (HS4.out.own _ List.mem_cons_self).1 _ _ _ _) ⟨_, _, _, _, rfl, (by rw [← HRX.out]; exact HS4T.out), (by intro t l' h; rw [← HRX.out] at h; cases h), ?_⟩
            exact below4 HS4.out.be (by omega) _ _ _ _
    · obtain ⟨i, rfl, hi, hmi, rfl, rfl⟩ := hst.ok_of
      have hv := HVL.out
      obtain ⟨g, rfl⟩ : ∃ g, f = g + 1 := ⟨f - 1, by omega⟩
      cases hdt : cDot.test (hd m) with
      | true =>
        have ho := dot_open hdt
        rw [pathL_cont _ _ _ (by rw [hdt]; rfl), step_dot _ _ hdt ho] at hRR
        cases hn : Cl.nm.test (hd m.tail) with
        | true =>
          rw [if_pos hn] at hRR
          have HMZ := Lib.hid hmz
          have HML := Lib.hid (show m.length = L.length - i by rw [← hmi, List.length_drop])
          clear hmz
          have HOP := Lib.hid (show ∀ wx, LAt wx tb off L → Calls Tryz.prog 57 #[.slice (some ⟨tb, off, none⟩) L.length cap, .agg #[.int .i64 (i : Nat), .int .i64 n, .int .i64 0, .int .i64 0], .int .i64 5, .string ⟨#[91]⟩] wx fun x w' => x = .returned (.bool false) ∧ Below wx.heap.size wx w' from fun wx h => by have h2 := ris_sg (r := PR.ok () m) (cap := cap) (n := n) [91] h hl99 hst; rw [show isR (PR.ok () m) (.sg [91]) = false from ho] at h2; exact h2)
          have HDT := Lib.hid (show ∀ wx, LAt wx tb off L → Calls Tryz.prog 57 #[.slice (some ⟨tb, off, none⟩) L.length cap, .agg #[.int .i64 (i : Nat), .int .i64 n, .int .i64 0, .int .i64 0], .int .i64 5, .string ⟨#[46]⟩] wx fun x w' => x = .returned (.bool true) ∧ Below wx.heap.size wx w' from fun wx h => by have h2 := ris_sg (r := PR.ok () m) (cap := cap) (n := n) [46] h hl99 hst; rw [show isR (PR.ok () m) (.sg [46]) = true from hdt] at h2; exact h2)
          have hS0 : ((bs S).toList == []) = false := by rw [bs_list]; simpa using hne
          have hst1 := hst.inc hv (c := cDot) trivial hdt
          obtain ⟨j1, hj1, hi1, hm1, _, _⟩ := hst1.ok_of
          obtain rfl : j1 = i + 1 := by omega
          obtain ⟨T, hT⟩ : ∃ T, hd m.tail = T := ⟨_, rfl⟩
          have HTK := Lib.hid (fun wx (h : LAt wx tb off L) => show LiesAt wx tb (off + (i + 1) * 4) (tkCs T) from by have := h.tok hi1; rwa [hm1, hT] at this)
          have hTl : T.t.length ≤ 256 := by rw [← hT]; exact Short.hd (hst1.vd hv).1.short
          rw [hT] at hn
          have hn : (T.k == 1 && !wordsL.contains T.t) = true := hn
          have HWD := Lib.hid (fun wx => refWord_any (bs T.t) wx)
          have hwS : wordS (bs T.t) = wordsL.contains T.t := rfl
          rw [hwS] at HWD
          rw [Bool.and_eq_true] at hn
          rw [show wordsL.contains T.t = false from by simpa using hn.2] at HWD
          have hk1 : (((T.k : Nat) : Int) == 1) = true := by have h := hn.1; rw [beq_iff_eq] at h; rw [h]; rfl
          have hst2 := hst1.inc hv (c := .nm) trivial (by rw [hT]; exact (show (T.k == 1 && !wordsL.contains T.t) = true by rw [Bool.and_eq_true]; exact hn))
          have hvm2 := hst2.vd hv
          rw [hT] at hRR
          obtain ⟨j2, hj2, hi2, hm2, _, _⟩ := hst2.ok_of
          have q3 : bs (S ++ [46]) ++ bs T.t = bs (S ++ [46] ++ T.t) := bs_append _ _
          have q4 : bs S ++ (⟨#[46]⟩ : ByteArray) = bs (S ++ [46]) := bs_append S [46]
          have HRX := Lib.hid hRR
          have HS2T := Lib.hid hst2
          have HNE := Lib.hid hne
          have HLN := Lib.hid (And.intro hmf (And.intro hm99 hlen))
          have HV := Lib.hid hv
          have HVM := Lib.hid hvm2.2
          clear hRR hst hmi hv hne hdt ho hmf hst1 hm1 hT hj1 hst2 hvm2 hm2 hj2 hn hwS
          go_wp2_with (first
            | (go_at_call 64; refine (HWD.out _).mono ?_; rintro x w5 ⟨rfl, hb5⟩; have HS5 := Lib.hid ((HS3.out.inc (((i : Nat) : Int) + 1)).next hb5); have hbx := HS5.out.box; obtain ⟨p0, fp0, p1, fp1, p2, fp2, p3, fp3⟩ := bf4 hbx; clear hbx; have hr := (HS5.out.own _ List.mem_cons_self).1; obtain ⟨r0, fr0, r1, fr1, r2, fr2, r3, fr3⟩ := bf4 hr; clear hr; have hh := HTK.out _ HS5.out.at; have t0 : w5.cell? ⟨tb, off + (i + 1) * 4, none⟩ = some (.int .i64 ((T.k : Nat) : Int)) := hh 0 _ rfl; have t1 : w5.cell? ⟨tb, off + (i + 1) * 4 + 1, none⟩ = some (.string (bs T.t)) := hh 1 _ rfl; have t2 : w5.cell? ⟨tb, off + (i + 1) * 4 + 2, none⟩ = some (.int .u64 ((T.n : Nat) : Int)) := hh 2 _ rfl; have t3 : w5.cell? ⟨tb, off + (i + 1) * 4 + 3, none⟩ = some (.int .i64 ((T.a : Nat) : Int)) := hh 3 _ rfl; clear hh hb5)
            | (go_at_call 57; (with_reducible refine (HOP.out _ HS2.out.at).mono ?_); rintro x w3 ⟨rfl, hb3⟩; have HS3 := Lib.hid (HS2.out.next hb3); have hbx := HS3.out.box; obtain ⟨p0, fp0, p1, fp1, p2, fp2, p3, fp3⟩ := bf4 hbx; clear hbx; have hr := (HS3.out.own _ List.mem_cons_self).1; obtain ⟨r0, fr0, r1, fr1, r2, fr2, r3, fr3⟩ := bf4 hr; clear hr; have hh := HTK.out _ HS3.out.at; have t0 : w3.cell? ⟨tb, off + (i + 1) * 4, none⟩ = some (.int .i64 ((T.k : Nat) : Int)) := hh 0 _ rfl; have t1 : w3.cell? ⟨tb, off + (i + 1) * 4 + 1, none⟩ = some (.string (bs T.t)) := hh 1 _ rfl; have t2 : w3.cell? ⟨tb, off + (i + 1) * 4 + 2, none⟩ = some (.int .u64 ((T.n : Nat) : Int)) := hh 2 _ rfl; have t3 : w3.cell? ⟨tb, off + (i + 1) * 4 + 3, none⟩ = some (.int .i64 ((T.a : Nat) : Int)) := hh 3 _ rfl; clear hh; clear hb3)
            | (go_at_call 57; (with_reducible refine (HDT.out _ HS.out.at).mono ?_); rintro x w2 ⟨rfl, hb2⟩; have HS2 := Lib.hid (HS.out.next hb2); have hbx := HS2.out.box; obtain ⟨p0, fp0, p1, fp1, p2, fp2, p3, fp3⟩ := bf4 hbx; clear hbx; have hr := (HS2.out.own _ List.mem_cons_self).1; obtain ⟨r0, fr0, r1, fr1, r2, fr2, r3, fr3⟩ := bf4 hr; clear hr; clear hb2))
          go_roundw
          have hml := HML.out; have hln := HLN.out
          case rel => exact ⟨S ++ [46] ++ T.t, (((i : Nat) : Int) + 1 + 1), 0, 0, by first | rfl | simp, Lib.hid (.inr (.inl ⟨by simp, g, m.tail.tail, HS2T.out, HRX.out, by simp [List.length_tail]; omega, by simp [List.length_tail]; omega, by simp [List.length_tail]; omega⟩)), Lib.hid (HS5.out.inc (((i : Nat) : Int) + 1 + 1))⟩
          case measure => exact left_less ((HS5.out.inc (((i : Nat) : Int) + 1 + 1)).leftR L.length) HMZ.out (fun _ => by omega) trivial
        | false =>
          rw [if_neg (by rw [hn]; decide)] at hRR
          by_cases hkk : (hd m.tail).k = 1
          · skip
            have HMZ := Lib.hid hmz
            have HML := Lib.hid (show m.length = L.length - i by rw [← hmi, List.length_drop])
            clear hmz
            have HOP := Lib.hid (show ∀ wx, LAt wx tb off L → Calls Tryz.prog 57 #[.slice (some ⟨tb, off, none⟩) L.length cap, .agg #[.int .i64 (i : Nat), .int .i64 n, .int .i64 0, .int .i64 0], .int .i64 5, .string ⟨#[91]⟩] wx fun x w' => x = .returned (.bool false) ∧ Below wx.heap.size wx w' from fun wx h => by have h2 := ris_sg (r := PR.ok () m) (cap := cap) (n := n) [91] h hl99 hst; rw [show isR (PR.ok () m) (.sg [91]) = false from ho] at h2; exact h2)
            have HDT := Lib.hid (show ∀ wx, LAt wx tb off L → Calls Tryz.prog 57 #[.slice (some ⟨tb, off, none⟩) L.length cap, .agg #[.int .i64 (i : Nat), .int .i64 n, .int .i64 0, .int .i64 0], .int .i64 5, .string ⟨#[46]⟩] wx fun x w' => x = .returned (.bool true) ∧ Below wx.heap.size wx w' from fun wx h => by have h2 := ris_sg (r := PR.ok () m) (cap := cap) (n := n) [46] h hl99 hst; rw [show isR (PR.ok () m) (.sg [46]) = true from hdt] at h2; exact h2)
            have hS0 : ((bs S).toList == []) = false := by rw [bs_list]; simpa using hne
            have hst1 := hst.inc hv (c := cDot) trivial hdt
            obtain ⟨j1, hj1, hi1, hm1, _, _⟩ := hst1.ok_of
            obtain rfl : j1 = i + 1 := by omega
            obtain ⟨T, hT⟩ : ∃ T, hd m.tail = T := ⟨_, rfl⟩
            have HTK := Lib.hid (fun wx (h : LAt wx tb off L) => show LiesAt wx tb (off + (i + 1) * 4) (tkCs T) from by have := h.tok hi1; rwa [hm1, hT] at this)
            have hTl : T.t.length ≤ 256 := by rw [← hT]; exact Short.hd (hst1.vd hv).1.short
            have HBD := Lib.hid (fun wx (h : LAt wx tb off L) => rbad_any (r := PR.ok () m.tail) (cap := cap) (n := n) 11 (by decide) h hl99 hst1)
            rw [hT] at hn hkk
            have hn : (T.k == 1 && !wordsL.contains T.t) = false := hn
            have HWD := Lib.hid (fun wx => refWord_any (bs T.t) wx)
            have hwS : wordS (bs T.t) = wordsL.contains T.t := rfl
            rw [hwS] at HWD
            have hk1 : (((T.k : Nat) : Int) == 1) = true := by rw [beq_iff_eq]; omega
            have hk0 : (T.k == 1) = true := by simpa using hkk
            rw [hk0] at hn
            have hwt : wordsL.contains T.t = true := by simpa using hn
            rw [hwt] at HWD
            have q4 : bs S ++ (⟨#[46]⟩ : ByteArray) = bs (S ++ [46]) := bs_append S [46]
            have HRX := Lib.hid hRR
            have HNE := Lib.hid hne
            have HLN := Lib.hid (And.intro hmf (And.intro hm99 hlen))
            have HV := Lib.hid hv
            clear hRR hst hmi hv hne hdt ho hmf hst1 hm1 hT hj1 hn hkk hwS hwt hk0
            go_wp2_with (first
              | (go_at_call 37; refine (HBD.out _ HS5.out.at).mono ?_; rintro x w4 ⟨e', a', rfl, hs4, hb4⟩; have HS4 := Lib.hid (HS5.out.next hb4); have HS4T := Lib.hid hs4; have hr := (HS4.out.own _ List.mem_cons_self).1; obtain ⟨r0, fr0, r1, fr1, r2, fr2, r3, fr3⟩ := bf4 hr; clear hr hs4 hb4)
              | (go_at_call 64; refine (HWD.out _).mono ?_; rintro x w5 ⟨rfl, hb5⟩; have HS5 := Lib.hid ((HS3.out.inc (((i : Nat) : Int) + 1)).next hb5); have hbx := HS5.out.box; obtain ⟨p0, fp0, p1, fp1, p2, fp2, p3, fp3⟩ := bf4 hbx; clear hbx; have hr := (HS5.out.own _ List.mem_cons_self).1; obtain ⟨r0, fr0, r1, fr1, r2, fr2, r3, fr3⟩ := bf4 hr; clear hr; have hh := HTK.out _ HS5.out.at; have t0 : w5.cell? ⟨tb, off + (i + 1) * 4, none⟩ = some (.int .i64 ((T.k : Nat) : Int)) := hh 0 _ rfl; have t1 : w5.cell? ⟨tb, off + (i + 1) * 4 + 1, none⟩ = some (.string (bs T.t)) := hh 1 _ rfl; have t2 : w5.cell? ⟨tb, off + (i + 1) * 4 + 2, none⟩ = some (.int .u64 ((T.n : Nat) : Int)) := hh 2 _ rfl; have t3 : w5.cell? ⟨tb, off + (i + 1) * 4 + 3, none⟩ = some (.int .i64 ((T.a : Nat) : Int)) := hh 3 _ rfl; clear hh hb5)
              | (go_at_call 57; (with_reducible refine (HOP.out _ HS2.out.at).mono ?_); rintro x w3 ⟨rfl, hb3⟩; have HS3 := Lib.hid (HS2.out.next hb3); have hbx := HS3.out.box; obtain ⟨p0, fp0, p1, fp1, p2, fp2, p3, fp3⟩ := bf4 hbx; clear hbx; have hr := (HS3.out.own _ List.mem_cons_self).1; obtain ⟨r0, fr0, r1, fr1, r2, fr2, r3, fr3⟩ := bf4 hr; clear hr; have hh := HTK.out _ HS3.out.at; have t0 : w3.cell? ⟨tb, off + (i + 1) * 4, none⟩ = some (.int .i64 ((T.k : Nat) : Int)) := hh 0 _ rfl; have t1 : w3.cell? ⟨tb, off + (i + 1) * 4 + 1, none⟩ = some (.string (bs T.t)) := hh 1 _ rfl; have t2 : w3.cell? ⟨tb, off + (i + 1) * 4 + 2, none⟩ = some (.int .u64 ((T.n : Nat) : Int)) := hh 2 _ rfl; have t3 : w3.cell? ⟨tb, off + (i + 1) * 4 + 3, none⟩ = some (.int .i64 ((T.a : Nat) : Int)) := hh 3 _ rfl; clear hh; clear hb3)
              | (go_at_call 57; (with_reducible refine (HDT.out _ HS.out.at).mono ?_); rintro x w2 ⟨rfl, hb2⟩; have HS2 := Lib.hid (HS.out.next hb2); have hbx := HS2.out.box; obtain ⟨p0, fp0, p1, fp1, p2, fp2, p3, fp3⟩ := bf4 hbx; clear hbx; have hr := (HS2.out.own _ List.mem_cons_self).1; obtain ⟨r0, fr0, r1, fr1, r2, fr2, r3, fr3⟩ := bf4 hr; clear hr; clear hb2))
            refine endRPath rfl (w.heap.size + 1) rfl rfl (put4 (HS4.out.own _ List.mem_cons_self).1 _ _ _ _) ⟨_, _, _, _, rfl, (by rw [← HRX.out]; exact HS4T.out), (by intro t l' h; rw [← HRX.out] at h; cases h), ?_⟩
            exact below4 HS4.out.be (by omega) _ _ _ _
          · skip
            have HMZ := Lib.hid hmz
            have HML := Lib.hid (show m.length = L.length - i by rw [← hmi, List.length_drop])
            clear hmz
            have HOP := Lib.hid (show ∀ wx, LAt wx tb off L → Calls Tryz.prog 57 #[.slice (some ⟨tb, off, none⟩) L.length cap, .agg #[.int .i64 (i : Nat), .int .i64 n, .int .i64 0, .int .i64 0], .int .i64 5, .string ⟨#[91]⟩] wx fun x w' => x = .returned (.bool false) ∧ Below wx.heap.size wx w' from fun wx h => by have h2 := ris_sg (r := PR.ok () m) (cap := cap) (n := n) [91] h hl99 hst; rw [show isR (PR.ok () m) (.sg [91]) = false from ho] at h2; exact h2)
            have HDT := Lib.hid (show ∀ wx, LAt wx tb off L → Calls Tryz.prog 57 #[.slice (some ⟨tb, off, none⟩) L.length cap, .agg #[.int .i64 (i : Nat), .int .i64 n, .int .i64 0, .int .i64 0], .int .i64 5, .string ⟨#[46]⟩] wx fun x w' => x = .returned (.bool true) ∧ Below wx.heap.size wx w' from fun wx h => by have h2 := ris_sg (r := PR.ok () m) (cap := cap) (n := n) [46] h hl99 hst; rw [show isR (PR.ok () m) (.sg [46]) = true from hdt] at h2; exact h2)
            have hS0 : ((bs S).toList == []) = false := by rw [bs_list]; simpa using hne
            have hst1 := hst.inc hv (c := cDot) trivial hdt
            obtain ⟨j1, hj1, hi1, hm1, _, _⟩ := hst1.ok_of
            obtain rfl : j1 = i + 1 := by omega
            obtain ⟨T, hT⟩ : ∃ T, hd m.tail = T := ⟨_, rfl⟩
            have HTK := Lib.hid (fun wx (h : LAt wx tb off L) => show LiesAt wx tb (off + (i + 1) * 4) (tkCs T) from by have := h.tok hi1; rwa [hm1, hT] at this)
            have hTl : T.t.length ≤ 256 := by rw [← hT]; exact Short.hd (hst1.vd hv).1.short
            have HBD := Lib.hid (fun wx (h : LAt wx tb off L) => rbad_any (r := PR.ok () m.tail) (cap := cap) (n := n) 11 (by decide) h hl99 hst1)
            rw [hT] at hn hkk
            have hn : (T.k == 1 && !wordsL.contains T.t) = false := hn
            have HWD := Lib.hid (fun wx => refWord_any (bs T.t) wx)
            have hwS : wordS (bs T.t) = wordsL.contains T.t := rfl
            rw [hwS] at HWD
            have hk1 : (((T.k : Nat) : Int) == 1) = false := by rw [beq_eq_false_iff_ne]; exact fun e => hkk (by omega)
            have q4 : bs S ++ (⟨#[46]⟩ : ByteArray) = bs (S ++ [46]) := bs_append S [46]
            have HRX := Lib.hid hRR
            have HNE := Lib.hid hne
            have HLN := Lib.hid (And.intro hmf (And.intro hm99 hlen))
            have HV := Lib.hid hv
            clear hRR hst hmi hv hne hdt ho hmf hst1 hm1 hT hj1 hn hkk hwS
            go_wp2_with (first
              | (go_at_call 37; refine (HBD.out _ (HS3.out.inc (((i : Nat) : Int) + 1)).at).mono ?_; rintro x w4 ⟨e', a', rfl, hs4, hb4⟩; have HS4 := Lib.hid ((HS3.out.inc (((i : Nat) : Int) + 1)).next hb4); have HS4T := Lib.hid hs4; have hr := (HS4.out.own _ List.mem_cons_self).1; obtain ⟨r0, fr0, r1, fr1, r2, fr2, r3, fr3⟩ := bf4 hr; clear hr hs4 hb4)
              | (go_at_call 57; (with_reducible refine (HOP.out _ HS2.out.at).mono ?_); rintro x w3 ⟨rfl, hb3⟩; have HS3 := Lib.hid (HS2.out.next hb3); have hbx := HS3.out.box; obtain ⟨p0, fp0, p1, fp1, p2, fp2, p3, fp3⟩ := bf4 hbx; clear hbx; have hr := (HS3.out.own _ List.mem_cons_self).1; obtain ⟨r0, fr0, r1, fr1, r2, fr2, r3, fr3⟩ := bf4 hr; clear hr; have hh := HTK.out _ HS3.out.at; have t0 : w3.cell? ⟨tb, off + (i + 1) * 4, none⟩ = some (.int .i64 ((T.k : Nat) : Int)) := hh 0 _ rfl; have t1 : w3.cell? ⟨tb, off + (i + 1) * 4 + 1, none⟩ = some (.string (bs T.t)) := hh 1 _ rfl; have t2 : w3.cell? ⟨tb, off + (i + 1) * 4 + 2, none⟩ = some (.int .u64 ((T.n : Nat) : Int)) := hh 2 _ rfl; have t3 : w3.cell? ⟨tb, off + (i + 1) * 4 + 3, none⟩ = some (.int .i64 ((T.a : Nat) : Int)) := hh 3 _ rfl; clear hh; clear hb3)
              | (go_at_call 57; (with_reducible refine (HDT.out _ HS.out.at).mono ?_); rintro x w2 ⟨rfl, hb2⟩; have HS2 := Lib.hid (HS.out.next hb2); have hbx := HS2.out.box; obtain ⟨p0, fp0, p1, fp1, p2, fp2, p3, fp3⟩ := bf4 hbx; clear hbx; have hr := (HS2.out.own _ List.mem_cons_self).1; obtain ⟨r0, fr0, r1, fr1, r2, fr2, r3, fr3⟩ := bf4 hr; clear hr; clear hb2))
            refine endRPath rfl (w.heap.size + 1) rfl rfl (put4 (HS4.out.own _ List.mem_cons_self).1 _ _ _ _) ⟨_, _, _, _, rfl, (by rw [← HRX.out]; exact HS4T.out), (by intro t l' h; rw [← HRX.out] at h; cases h), ?_⟩
            exact below4 HS4.out.be (by omega) _ _ _ _
      | false =>
        cases ho : cOpen.test (hd m) with
        | true =>
          rw [pathL_cont _ _ _ (by rw [ho, Bool.or_true]), step_item _ _ _ ho] at hRR
          cases hk : (Cl.kd 2).test (hd m.tail) with
          | true =>
            rw [if_pos hk] at hRR
            have HMZ := Lib.hid hmz
            have HML := Lib.hid (show m.length = L.length - i by rw [← hmi, List.length_drop])
            clear hmz
            have HOP := Lib.hid (show ∀ wx, LAt wx tb off L → Calls Tryz.prog 57 #[.slice (some ⟨tb, off, none⟩) L.length cap, .agg #[.int .i64 (i : Nat), .int .i64 n, .int .i64 0, .int .i64 0], .int .i64 5, .string ⟨#[91]⟩] wx fun x w' => x = .returned (.bool true) ∧ Below wx.heap.size wx w' from fun wx h => by have h2 := ris_sg (r := PR.ok () m) (cap := cap) (n := n) [91] h hl99 hst; rw [show isR (PR.ok () m) (.sg [91]) = true from ho] at h2; exact h2)
            have HDT := Lib.hid (show ∀ wx, LAt wx tb off L → Calls Tryz.prog 57 #[.slice (some ⟨tb, off, none⟩) L.length cap, .agg #[.int .i64 (i : Nat), .int .i64 n, .int .i64 0, .int .i64 0], .int .i64 5, .string ⟨#[46]⟩] wx fun x w' => x = .returned (.bool false) ∧ Below wx.heap.size wx w' from fun wx h => by have h2 := ris_sg (r := PR.ok () m) (cap := cap) (n := n) [46] h hl99 hst; rw [show isR (PR.ok () m) (.sg [46]) = false from hdt] at h2; exact h2)
            have hS0 : ((bs S).toList == []) = false := by rw [bs_list]; simpa using hne
            have hst1 := hst.inc hv (c := cOpen) trivial ho
            obtain ⟨j1, hj1, hi1, hm1, _, _⟩ := hst1.ok_of
            obtain rfl : j1 = i + 1 := by omega
            obtain ⟨T, hT⟩ : ∃ T, hd m.tail = T := ⟨_, rfl⟩
            have HTK := Lib.hid (fun wx (h : LAt wx tb off L) => show LiesAt wx tb (off + (i + 1) * 4) (tkCs T) from by have := h.tok hi1; rwa [hm1, hT] at this)
            have hTl : T.t.length ≤ 256 := by rw [← hT]; exact Short.hd (hst1.vd hv).1.short
            have hst2 := hst1.inc hv (c := .kd 2) (by simp [Cl.inner]) hk
            have hvm2 := hst2.vd hv
            rw [hT] at hk hRR
            have hk2 : (((T.k : Nat) : Int) == 2) = true := by have h : (T.k == 2) = true := hk; rw [beq_iff_eq] at h; rw [h]; rfl
            have HMU := Lib.hid (fun wx (h : LAt wx tb off L) => rmust_sg (r := PR.ok () m.tail.tail) (cap := cap) (n := n) [93] h hv hl99 hst2)
            obtain ⟨j2, hj2, hi2, hm2, _, _⟩ := hst2.ok_of
            have q1 : (⟨#[91]⟩ : ByteArray) ++ bs T.t = bs (91 :: T.t) := bs_append [91] T.t
            have q2 : bs (91 :: T.t) ++ (⟨#[93]⟩ : ByteArray) = bs (91 :: (T.t ++ [93])) := bs_append (91 :: T.t) [93]
            have q3 : bs S ++ bs (91 :: (T.t ++ [93])) = bs (S ++ 91 :: (T.t ++ [93])) := bs_append _ _
            have HRX := Lib.hid hRR
            have HS2T := Lib.hid hst2
            have HNE := Lib.hid hne
            have HLN := Lib.hid (And.intro hmf (And.intro hm99 hlen))
            have HV := Lib.hid hv
            obtain rfl : j2 = i + 1 + 1 := by omega
            have HM2 := Lib.hid (And.intro hm2 hi2)
            have HVM := Lib.hid hvm2.2
            clear hRR hst hmi hv hne hdt ho hmf hst1 hm1 hT hj1 hst2 hvm2 hm2 hj2 hk
            go_wp2_with (first
              | (go_at_call 80; refine (HMU.out _ ((HS3.out.inc (((i : Nat) : Int) + 1)).inc (((i : Nat) : Int) + 1 + 1)).at).mono ?_; rintro x w4 ⟨z', e', a', rfl, hs4, hb4⟩; have HS4 := Lib.hid (((HS3.out.inc (((i : Nat) : Int) + 1)).inc (((i : Nat) : Int) + 1 + 1)).next hb4); have HS4T := Lib.hid hs4; have hbx := HS4.out.box; obtain ⟨p0, fp0, p1, fp1, p2, fp2, p3, fp3⟩ := bf4 hbx; clear hbx hs4 hb4)
              | (go_at_call 57; (with_reducible refine (HOP.out _ HS2.out.at).mono ?_); rintro x w3 ⟨rfl, hb3⟩; have HS3 := Lib.hid (HS2.out.next hb3); have hbx := HS3.out.box; obtain ⟨p0, fp0, p1, fp1, p2, fp2, p3, fp3⟩ := bf4 hbx; clear hbx; have hr := (HS3.out.own _ List.mem_cons_self).1; obtain ⟨r0, fr0, r1, fr1, r2, fr2, r3, fr3⟩ := bf4 hr; clear hr; have hh := HTK.out _ HS3.out.at; have t0 : w3.cell? ⟨tb, off + (i + 1) * 4, none⟩ = some (.int .i64 ((T.k : Nat) : Int)) := hh 0 _ rfl; have t1 : w3.cell? ⟨tb, off + (i + 1) * 4 + 1, none⟩ = some (.string (bs T.t)) := hh 1 _ rfl; have t2 : w3.cell? ⟨tb, off + (i + 1) * 4 + 2, none⟩ = some (.int .u64 ((T.n : Nat) : Int)) := hh 2 _ rfl; have t3 : w3.cell? ⟨tb, off + (i + 1) * 4 + 3, none⟩ = some (.int .i64 ((T.a : Nat) : Int)) := hh 3 _ rfl; clear hh; clear hb3)
              | (go_at_call 57; (with_reducible refine (HDT.out _ HS.out.at).mono ?_); rintro x w2 ⟨rfl, hb2⟩; have HS2 := Lib.hid (HS.out.next hb2); have hbx := HS2.out.box; obtain ⟨p0, fp0, p1, fp1, p2, fp2, p3, fp3⟩ := bf4 hbx; clear hbx; have hr := (HS2.out.own _ List.mem_cons_self).1; obtain ⟨r0, fr0, r1, fr1, r2, fr2, r3, fr3⟩ := bf4 hr; clear hr; clear hb2))
            have hmz := ((HS4.out.put z' n e' a').leftR L.length)
            have hz0 := HS4T.out.lt
            go_roundw
            have hml := HML.out; have hln := HLN.out
            case rel => exact ⟨S ++ 91 :: (T.t ++ [93]), z', e', a', by trivial, Lib.hid (pin_item HRX.out HS4T.out (HS2T.out.vd HV.out).1 (by simp) (by simp [List.length_tail]; omega) (by simp [List.length_tail]; omega) (by simp [List.length_tail]; omega)), Lib.hid (HS4.out.put z' n e' a')⟩
            case measure => exact left_less hmz HMZ.out (fun he => by have := must_less HS4T.out HM2.out.1 HM2.out.2 he; omega) trivial
          | false =>
            rw [if_neg (by rw [hk]; decide)] at hRR
            have HMZ := Lib.hid hmz
            have HML := Lib.hid (show m.length = L.length - i by rw [← hmi, List.length_drop])
            clear hmz
            have HOP := Lib.hid (show ∀ wx, LAt wx tb off L → Calls Tryz.prog 57 #[.slice (some ⟨tb, off, none⟩) L.length cap, .agg #[.int .i64 (i : Nat), .int .i64 n, .int .i64 0, .int .i64 0], .int .i64 5, .string ⟨#[91]⟩] wx fun x w' => x = .returned (.bool true) ∧ Below wx.heap.size wx w' from fun wx h => by have h2 := ris_sg (r := PR.ok () m) (cap := cap) (n := n) [91] h hl99 hst; rw [show isR (PR.ok () m) (.sg [91]) = true from ho] at h2; exact h2)
            have HDT := Lib.hid (show ∀ wx, LAt wx tb off L → Calls Tryz.prog 57 #[.slice (some ⟨tb, off, none⟩) L.length cap, .agg #[.int .i64 (i : Nat), .int .i64 n, .int .i64 0, .int .i64 0], .int .i64 5, .string ⟨#[46]⟩] wx fun x w' => x = .returned (.bool false) ∧ Below wx.heap.size wx w' from fun wx h => by have h2 := ris_sg (r := PR.ok () m) (cap := cap) (n := n) [46] h hl99 hst; rw [show isR (PR.ok () m) (.sg [46]) = false from hdt] at h2; exact h2)
            have hS0 : ((bs S).toList == []) = false := by rw [bs_list]; simpa using hne
            have hst1 := hst.inc hv (c := cOpen) trivial ho
            obtain ⟨j1, hj1, hi1, hm1, _, _⟩ := hst1.ok_of
            obtain rfl : j1 = i + 1 := by omega
            obtain ⟨T, hT⟩ : ∃ T, hd m.tail = T := ⟨_, rfl⟩
            have HTK := Lib.hid (fun wx (h : LAt wx tb off L) => show LiesAt wx tb (off + (i + 1) * 4) (tkCs T) from by have := h.tok hi1; rwa [hm1, hT] at this)
            have hTl : T.t.length ≤ 256 := by rw [← hT]; exact Short.hd (hst1.vd hv).1.short
            rw [hT] at hk
            have hk2 : (((T.k : Nat) : Int) == 2) = false := by have h : (T.k == 2) = false := hk; rw [beq_eq_false_iff_ne] at h; rw [beq_eq_false_iff_ne]; omega
            have HBD := Lib.hid (fun wx (h : LAt wx tb off L) => rbad_any (r := PR.ok () m.tail) (cap := cap) (n := n) 11 (by decide) h hl99 hst1)
            have HRX := Lib.hid hRR
            have HNE := Lib.hid hne
            have HLN := Lib.hid (And.intro hmf (And.intro hm99 hlen))
            have HV := Lib.hid hv
            clear hRR hst hmi hv hne hdt ho hmf hst1 hm1 hT hj1 hk
            go_wp2_with (first
              | (go_at_call 37; refine (HBD.out _ (HS3.out.inc (((i : Nat) : Int) + 1)).at).mono ?_; rintro x w4 ⟨e', a', rfl, hs4, hb4⟩; have HS4 := Lib.hid ((HS3.out.inc (((i : Nat) : Int) + 1)).next hb4); have HS4T := Lib.hid hs4; have hr := (HS4.out.own _ List.mem_cons_self).1; obtain ⟨r0, fr0, r1, fr1, r2, fr2, r3, fr3⟩ := bf4 hr; clear hr hs4 hb4)
              | (go_at_call 57; (with_reducible refine (HOP.out _ HS2.out.at).mono ?_); rintro x w3 ⟨rfl, hb3⟩; have HS3 := Lib.hid (HS2.out.next hb3); have hbx := HS3.out.box; obtain ⟨p0, fp0, p1, fp1, p2, fp2, p3, fp3⟩ := bf4 hbx; clear hbx; have hr := (HS3.out.own _ List.mem_cons_self).1; obtain ⟨r0, fr0, r1, fr1, r2, fr2, r3, fr3⟩ := bf4 hr; clear hr; have hh := HTK.out _ HS3.out.at; have t0 : w3.cell? ⟨tb, off + (i + 1) * 4, none⟩ = some (.int .i64 ((T.k : Nat) : Int)) := hh 0 _ rfl; have t1 : w3.cell? ⟨tb, off + (i + 1) * 4 + 1, none⟩ = some (.string (bs T.t)) := hh 1 _ rfl; have t2 : w3.cell? ⟨tb, off + (i + 1) * 4 + 2, none⟩ = some (.int .u64 ((T.n : Nat) : Int)) := hh 2 _ rfl; have t3 : w3.cell? ⟨tb, off + (i + 1) * 4 + 3, none⟩ = some (.int .i64 ((T.a : Nat) : Int)) := hh 3 _ rfl; clear hh; clear hb3)
              | (go_at_call 57; (with_reducible refine (HDT.out _ HS.out.at).mono ?_); rintro x w2 ⟨rfl, hb2⟩; have HS2 := Lib.hid (HS.out.next hb2); have hbx := HS2.out.box; obtain ⟨p0, fp0, p1, fp1, p2, fp2, p3, fp3⟩ := bf4 hbx; clear hbx; have hr := (HS2.out.own _ List.mem_cons_self).1; obtain ⟨r0, fr0, r1, fr1, r2, fr2, r3, fr3⟩ := bf4 hr; clear hr; clear hb2))
            refine endRPath rfl (w.heap.size + 1) rfl rfl (put4 (HS4.out.own _ List.mem_cons_self).1 _ _ _ _) ⟨_, _, _, _, rfl, (by rw [← HRX.out]; exact HS4T.out), (by intro t l' h; rw [← HRX.out] at h; cases h), ?_⟩
            exact below4 HS4.out.be (by omega) _ _ _ _
        | false =>
          rw [pathL_end _ _ _ hdt ho] at hRR
          have HMZ := Lib.hid hmz
          have HML := Lib.hid (show m.length = L.length - i by rw [← hmi, List.length_drop])
          clear hmz
          have HOP := Lib.hid (show ∀ wx, LAt wx tb off L → Calls Tryz.prog 57 #[.slice (some ⟨tb, off, none⟩) L.length cap, .agg #[.int .i64 (i : Nat), .int .i64 n, .int .i64 0, .int .i64 0], .int .i64 5, .string ⟨#[91]⟩] wx fun x w' => x = .returned (.bool false) ∧ Below wx.heap.size wx w' from fun wx h => by have h2 := ris_sg (r := PR.ok () m) (cap := cap) (n := n) [91] h hl99 hst; rw [show isR (PR.ok () m) (.sg [91]) = false from ho] at h2; exact h2)
          have HDT := Lib.hid (show ∀ wx, LAt wx tb off L → Calls Tryz.prog 57 #[.slice (some ⟨tb, off, none⟩) L.length cap, .agg #[.int .i64 (i : Nat), .int .i64 n, .int .i64 0, .int .i64 0], .int .i64 5, .string ⟨#[46]⟩] wx fun x w' => x = .returned (.bool false) ∧ Below wx.heap.size wx w' from fun wx h => by have h2 := ris_sg (r := PR.ok () m) (cap := cap) (n := n) [46] h hl99 hst; rw [show isR (PR.ok () m) (.sg [46]) = false from hdt] at h2; exact h2)
          have hS0 : ((bs S).toList == []) = false := by rw [bs_list]; simpa using hne
          have HRX := Lib.hid hRR
          have HST := Lib.hid hst
          have HNE := Lib.hid hne
          have HLN := Lib.hid (And.intro hmf (And.intro hm99 hlen))
          have HV := Lib.hid hv
          clear hRR hst hmi hv hne hdt ho hmf
          go_wp2_with (first
            | (go_at_call 57; (with_reducible refine (HOP.out _ HS2.out.at).mono ?_); rintro x w3 ⟨rfl, hb3⟩; have HS3 := Lib.hid (HS2.out.next hb3); have hbx := HS3.out.box; obtain ⟨p0, fp0, p1, fp1, p2, fp2, p3, fp3⟩ := bf4 hbx; clear hbx; have hr := (HS3.out.own _ List.mem_cons_self).1; obtain ⟨r0, fr0, r1, fr1, r2, fr2, r3, fr3⟩ := bf4 hr; clear hr; clear hb3)
            | (go_at_call 57; (with_reducible refine (HDT.out _ HS.out.at).mono ?_); rintro x w2 ⟨rfl, hb2⟩; have HS2 := Lib.hid (HS.out.next hb2); have hbx := HS2.out.box; obtain ⟨p0, fp0, p1, fp1, p2, fp2, p3, fp3⟩ := bf4 hbx; clear hbx; have hr := (HS2.out.own _ List.mem_cons_self).1; obtain ⟨r0, fr0, r1, fr1, r2, fr2, r3, fr3⟩ := bf4 hr; clear hr; clear hb2))
          go_region
          all_goals go_wp2_with (fail)
          all_goals
            refine endRPath rfl (w.heap.size + 1) rfl rfl (put4d (HS3.out.own _ List.mem_cons_self).1 _ _ _ _) ⟨_, _, _, _, rfl, (by rw [← HRX.out]; exact HST.out), (by intro t l' h; rw [← HRX.out] at h; injection h with h1 h2; rw [h1]), ?_⟩
            exact below4d HS3.out.be (by omega) _ _ _ _
    · have q0 : (e == 0) = false := beq_eq_false_iff_ne.2 he
      have HST := Lib.hid hst
      have HRX := Lib.hid hRR
      clear hst hRR hmz
      go_wp2_with (fail)
      go_region
      all_goals go_wp2_with (fail)
      all_goals
        refine endRPath rfl (w.heap.size + 1) rfl rfl (put4d (HS.out.own _ List.mem_cons_self).1 _ _ _ _) ⟨_, _, _, _, rfl, HST.out, (by intro t l' h; rw [HRX.out] at h; cases h), ?_⟩
        exact below4d HS.out.be (by omega) _ _ _ _
end Go.Proofs.YtjgdkiikkgdbaaaGreatDoor
