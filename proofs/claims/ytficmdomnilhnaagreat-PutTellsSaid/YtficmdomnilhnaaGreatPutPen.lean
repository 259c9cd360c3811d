/- The pen in memory; what putNumber and putText write with it; which encoding a kind has. -/
import Derived.Test.YtficmdomnilhnaaGreatPutMath
import Derived.Deep.RegionHeld3
namespace Go.Proofs.YtficmdomnilhnaaGreat
open Go.RowKit
set_option linter.unusedVariables false
/-- a pen in memory: block P; without a page, or with one in block b that has the bytes s -/
def PenAt (P : Nat) (ao : Option Addr) (len cap : Nat) (bo : Option Nat) (v : Value) (a : Nat) (s : ByteArray) (w : World) : Prop :=
  w.heap[P]? = some (.cells #[.slice ao len cap, .int .i64 (a : Nat), .pointer (bo.map fun b => ⟨b, 0, none⟩)] 52 (0, 0)) ∧ ∀ b, bo = some b → b ≠ P ∧ v.ownBlock ≠ some P ∧ BufAt b v s w
def PenFoot (P : Nat) (bo : Option Nat) (v : Value) (k : Nat) : Prop := k = P ∨ ∃ b, bo = some b ∧ BufFoot b v k
/-- the pen has written: only its blocks have turned -/
def PenNow (P : Nat) (ao : Option Addr) (len cap : Nat) (bo : Option Nat) (v : Value) (a : Nat) (s : ByteArray) (w w' : World) : Prop :=
  ∃ v', PenAt P ao len cap bo v' a s w' ∧ Only (PenFoot P bo v) w w' ∧ ∀ k, v'.ownBlock = some k → v.ownBlock = some k ∨ w.heap.size ≤ k
def PenTo (P : Nat) (ao : Option Addr) (len cap : Nat) (bo : Option Nat) (v : Value) (a : Nat) (s : ByteArray) (w : World) (e : Ending) (w' : World) : Prop :=
  e = .returned (.tuple #[]) ∧ PenNow P ao len cap bo v a s w w'
theorem PenAt.lt {P : Nat} {ao : Option Addr} {len cap : Nat} {bo : Option Nat} {v : Value} {a : Nat} {s : ByteArray} {w : World} (h : PenAt P ao len cap bo v a s w) {k : Nat} (hk : PenFoot P bo v k) : k < w.heap.size := by
  rcases hk with rfl | ⟨b, hb, hk⟩
  · exact lt_of_block h.1
  · exact ((h.2 b hb).2.2.foot hk).2
theorem PenAt.step {P : Nat} {ao : Option Addr} {len cap : Nat} {bo : Option Nat} {v : Value} {a : Nat} {s : ByteArray} {w w' : World} (h : PenAt P ao len cap bo v a s w) (hb : Below w.heap.size w w') : PenAt P ao len cap bo v a s w' :=
  ⟨(hb.block P (lt_of_block h.1)).trans h.1, fun b e => ⟨(h.2 b e).1, (h.2 b e).2.1, (h.2 b e).2.2.step hb⟩⟩
theorem PenNow.refl {P : Nat} {ao : Option Addr} {len cap : Nat} {bo : Option Nat} {v : Value} {a : Nat} {s : ByteArray} {w : World} (h : PenAt P ao len cap bo v a s w) : PenNow P ao len cap bo v a s w w := ⟨v, h, Only.refl _ _, fun _ hk => .inl hk⟩
/-- from an elder world on -/
theorem PenNow.from {P : Nat} {ao : Option Addr} {len cap : Nat} {bo : Option Nat} {v : Value} {a : Nat} {s : ByteArray} {w w1 w' : World} (h : PenNow P ao len cap bo v a s w1 w') (hb : Below w.heap.size w w1) : PenNow P ao len cap bo v a s w w' := by
  obtain ⟨v', h1, h2, h3⟩ := h
  refine ⟨v', h1, (Only.of_below (S := PenFoot P bo v) hb).trans h2 (fun _ _ k => k), fun k hk => ?_⟩
  rcases h3 k hk with e | e
  · exact .inl e
  · exact .inr (Nat.le_trans hb.size e)
/-- and into a later one -/
theorem PenNow.to {P : Nat} {ao : Option Addr} {len cap : Nat} {bo : Option Nat} {v : Value} {a : Nat} {s : ByteArray} {w w1 w' : World} (h : PenNow P ao len cap bo v a s w w1) (hb : Below w1.heap.size w1 w') : PenNow P ao len cap bo v a s w w' := by
  obtain ⟨v', h1, h2, h3⟩ := h
  exact ⟨v', h1.step hb, h2.step hb, h3⟩
theorem PenNow.drew {P : Nat} {ao : Option Addr} {len cap : Nat} {bo : Option Nat} {v : Value} {a : Nat} {s : ByteArray} {w w1 : World} (h : PenNow P ao len cap bo v a s w w1) : PenNow P ao len cap bo v a s w w1.drew := h.to ((Below.refl w1.heap.size w1).drew)
theorem PenNow.trans {P : Nat} {ao : Option Addr} {len cap : Nat} {bo : Option Nat} {v v1 : Value} {a : Nat} {s : ByteArray} {w w1 w' : World} (h : Only (PenFoot P bo v) w w1) (hf : ∀ k, v1.ownBlock = some k → v.ownBlock = some k ∨ w.heap.size ≤ k) (k : PenNow P ao len cap bo v1 a s w1 w') : PenNow P ao len cap bo v a s w w' := by
  obtain ⟨v', h1, h2, h3⟩ := k
  refine ⟨v', h1, h.trans h2 (fun i hi hk => ?_), fun k hk => ?_⟩
  · rcases hk with rfl | ⟨b, hb, rfl | hk⟩
    · exact .inl rfl
    · exact .inr ⟨i, hb, .inl rfl⟩
    · rcases hf i hk with e | e
      · exact .inr ⟨b, hb, .inr e⟩
      · omega
  · rcases h3 k hk with e | e
    · exact hf k e
    · exact .inr (Nat.le_trans h.size e)
/-- a block beside the pen stays beside it -/
theorem foot_not {P : Nat} {bo : Option Nat} {v v1 : Value} {w : World} {g : Nat} (hg : g < w.heap.size) (h : ¬ PenFoot P bo v g) (hf : ∀ k, v1.ownBlock = some k → v.ownBlock = some k ∨ w.heap.size ≤ k) : ¬ PenFoot P bo v1 g := by
  rintro (rfl | ⟨b, hb, rfl | hk⟩)
  · exact h (.inl rfl)
  · exact h (.inr ⟨g, hb, .inl rfl⟩)
  · rcases hf g hk with e | e
    · exact h (.inr ⟨b, hb, .inr e⟩)
    · omega
/-- the pen's blocks are all above N -/
def PenUp (N P : Nat) (bo : Option Nat) : Prop := N ≤ P ∧ ∀ b, bo = some b → N ≤ b
theorem PenAt.up {N P : Nat} {ao : Option Addr} {len cap : Nat} {bo : Option Nat} {v : Value} {a : Nat} {s : ByteArray} {w : World} (h : PenAt P ao len cap bo v a s w) (hu : PenUp N P bo) {k : Nat} (hk : PenFoot P bo v k) : N ≤ k := by
  rcases hk with rfl | ⟨b, hb, hk⟩
  · exact hu.1
  · exact Nat.le_trans (hu.2 b hb) ((h.2 b hb).2.2.foot hk).1
theorem PenNow.below {P : Nat} {ao : Option Addr} {len cap : Nat} {bo : Option Nat} {v : Value} {a a' : Nat} {s s' : ByteArray} {w0 w w' : World} (h0 : Below w0.heap.size w0 w) (h : PenAt P ao len cap bo v a s w) (hu : PenUp w0.heap.size P bo) (k : PenNow P ao len cap bo v a' s' w w') : Below w0.heap.size w0 w' := by
  obtain ⟨v', h1, h2, h3⟩ := k
  exact Only.below_step h0 h2 (fun i hi => h.up hu hi) (Nat.le_refl _)
/-- a row that can be written -/
def RowOk (bo : Option Nat) (s : ByteArray) (r : List RPart) (a : Nat) : Prop := (∀ p ∈ r, okPart p) ∧ endR r a ≤ 4611686018427387904 ∧ ∀ b, bo = some b → s.size = a ∧ endR r a ≤ 1000000
theorem RowOk.fst {bo : Option Nat} {s : ByteArray} {r q : List RPart} {a : Nat} (h : RowOk bo s (r ++ q) a) : RowOk bo s r a := by
  obtain ⟨h1, h2, h3⟩ := h
  have e := endR_app r q a
  have := endR_ge q (endR r a)
  refine ⟨fun p hp => h1 p (List.mem_append_left _ hp), by omega, fun b hb => ?_⟩
  have := h3 b hb
  omega
theorem RowOk.snd {bo : Option Nat} {s : ByteArray} {r q : List RPart} {a : Nat} (h : RowOk bo s (r ++ q) a) : RowOk bo (bytR r s) q (endR r a) := by
  obtain ⟨h1, h2, h3⟩ := h
  have e := endR_app r q a
  refine ⟨fun p hp => h1 p (List.mem_append_right _ hp), by omega, fun b hb => ?_⟩
  have h4 := h3 b hb
  rw [bytR_size r (fun p hp => h1 p (List.mem_append_left _ hp)), h4.1]
  omega
theorem pen_set0 {P : Nat} {ao : Option Addr} {len cap : Nat} {v : Value} {a : Nat} {s : ByteArray} {w w1 : World} (h : PenAt P ao len cap none v a s w) (hb : Below w.heap.size w w1) (E : Nat) (s' : ByteArray) {x : Int} (hx : x = (E : Nat)) : PenNow P ao len cap none v E s' w (w1.setCell ⟨P, 1, none⟩ (.int .i64 x)) := by
  subst hx
  refine ⟨v, ⟨?_, fun b e => by cases e⟩, (Only.of_below hb).setCell (.inl (.inl rfl)) _, fun k hk => .inl hk⟩
  have := set_at (j := 1) (u := .int .i64 (E : Nat)) (h.step hb).1
  simpa using this
theorem pen_set {P : Nat} {ao : Option Addr} {len cap b : Nat} {v : Value} {a : Nat} {s s' : ByteArray} {w w1 w2 : World} (h : PenAt P ao len cap (some b) v a s w) (hn : BufNow b v s' w w1) (hb : Below w1.heap.size w1 w2) (E : Nat) {x : Int} (hx : x = (E : Nat)) : PenNow P ao len cap (some b) v E s' w (w2.setCell ⟨P, 1, none⟩ (.int .i64 x)) := by
  subst hx
  obtain ⟨q1, q2, q3⟩ := h.2 b rfl
  obtain ⟨v1, h1, o1, f1⟩ := hn
  have hP := lt_of_block h.1
  have hP1 : w1.heap[P]? = _ := o1.same h.1 (fun hk => hk.elim (fun e => q1 e.symm) q2)
  have hP2 : w2.heap[P]? = _ := (hb.block P (lt_of_block hP1)).trans hP1
  have hv1 : v1.ownBlock ≠ some P := fun e => by
    rcases f1 P e with c | c
    · exact q2 c
    · omega
  refine ⟨v1, ⟨?_, fun b' e => ?_⟩, ?_, f1⟩
  · have := set_at (j := 1) (u := .int .i64 (E : Nat)) hP2
    simpa using this
  · cases e
    refine ⟨q1, hv1, (h1.step hb).only (S := fun k => k = P) (Only.setCell (S := fun k => k = P) (Only.refl _ _) (.inl rfl) _) ?_⟩
    rintro k (rfl | hk) rfl
    · exact q1 rfl
    · exact hv1 hk
  · exact ((o1.mono (fun k _ hk => .inr ⟨b, rfl, hk⟩)).step hb).setCell (.inl (.inl rfl)) _
theorem pen_cells {P : Nat} {ao : Option Addr} {len cap : Nat} {b : Nat} {v : Value} {a : Nat} {s s' : ByteArray} {w w1 : World} (h : PenAt P ao len cap (some b) v a s w) (hn : BufNow b v s' w w1) : w1.heap[P]? = some (.cells #[.slice ao len cap, .int .i64 (a : Nat), .pointer (some ⟨b, 0, none⟩)] 52 (0, 0)) := by
  obtain ⟨q1, q2, q3⟩ := h.2 b rfl
  obtain ⟨v1, h1, o1, f1⟩ := hn
  exact o1.same h.1 (fun hk => hk.elim (fun e => q1 e.symm) q2)
set_option maxHeartbeats 4000000 in
theorem pnum_any (P : Nat) (ao : Option Addr) (len cap : Nat) (bo : Option Nat) (v : Value) (a : Nat) (s : ByteArray) (n z : Int) (w : World) (h : PenAt P ao len cap bo v a s w) (hr : RowOk bo s [.num n z] a) :
    Calls Tryz.prog 76 #[.pointer (some ⟨P, 0, none⟩), .int .u64 n, .int .i64 z] w (PenTo P ao len cap bo v (numE z.toNat a) (bytP (.num n z) s) w) := by
  obtain ⟨r1, r2, r3⟩ := hr
  obtain ⟨hz, hf, h0, h1⟩ : okPart (.num n z) := r1 _ List.mem_cons_self
  have hn : (Lit.int .u64 n).wf = true := WalkArith.wf_u64 (by omega)
  obtain ⟨hs1, hs2⟩ := sz_nat hz
  have hgap := numE_gap hs1 a
  rw [hs2] at hgap
  have hge : a ≤ numE z.toNat a := endP_ge (.num n z) a
  have hend : numE z.toNat a ≤ 4611686018427387904 := r2
  have hgr := gapZ_rng (a : Nat) z
  have hzz : 0 ≤ z ∧ z ≤ 8 := by rcases isSz_cases hz with rfl | rfl | rfl | rfl <;> omega
  obtain ⟨E, hE⟩ : ∃ E, numE z.toNat a = E := ⟨_, rfl⟩
  have hput : putE n z = 0 := (put_in hz hf).2
  have hr3 : ∀ b, bo = some b → s.size = a ∧ E ≤ 1000000 := fun b e => by have := r3 b e; rw [← hE]; exact this
  rw [hE] at hgap hge hend ⊢
  obtain ⟨g, hg⟩ : ∃ g, gapZ (a : Nat) z = g := ⟨_, rfl⟩
  have HG := Lib.hid (fun w => gap_any (a : Nat) z (WalkArith.wf_i64 (by omega)) w)
  rw [hg] at HG hgap hgr
  have hx : IntKind.i64.wrap ((a : Nat) + IntKind.i64.wrap (g + z)) = (E : Nat) := by
    have e1 : IntKind.i64.wrap (g + z) = g + z := IntWalk.i64_in _ (by omega)
    rw [e1]
    have e2 : IntKind.i64.wrap ((a : Nat) + (g + z)) = (a : Nat) + (g + z) := IntWalk.i64_in _ (by omega)
    rw [e2]; omega
  cases bo with
  | none =>
    have c1 : w.cell? ⟨P, 1, none⟩ = some (.int .i64 (a : Nat)) := cell_at (j := 1) h.1 rfl
    have c2 : w.cell? ⟨P, 2, none⟩ = some (.pointer none) := cell_at (j := 2) h.1 rfl
    have f1 := free_at (j := 1) h.1
    have H := Lib.hid h
    have HN := Lib.hid (fun w => bput_nil n z w)
    clear h hg hE hs1 hs2 hf r1 r2 r3 hr3 hput hn hz
    go_enter Tryz.func76, Tryz.ntmps76
    go_wp2_with (go_at_call 109; refine (HN.out _).mono ?_; rintro e w1 ⟨rfl, rfl⟩)
    go_region_with (go_at_call 110; refine (HG.out _).mono ?_; rintro e w2 ⟨rfl, rfl⟩)
    all_goals
      go_returns
      exact ⟨rfl, (pen_set0 H.out (Below.refl _ _) E _ rfl).drew⟩
  | some b =>
    obtain ⟨es, eE⟩ := hr3 b rfl
    have hbuf := bput_ok b v s n z w (h.2 b rfl).2.2 hn hput (by omega)
    have c2 : w.cell? ⟨P, 2, none⟩ = some (.pointer (some ⟨b, 0, none⟩)) := cell_at (j := 2) h.1 rfl
    have H := Lib.hid h
    have HN := Lib.hid hbuf
    clear h hg hE hs1 hs2 hf r1 r2 r3 hr3 hput hn hz hbuf
    go_enter Tryz.func76, Tryz.ntmps76
    go_wp2_with (go_at_call 109; refine HN.out.mono ?_; rintro e w1 ⟨rfl, hb1⟩; have HB1 := Lib.hid hb1; have hp1 := pen_cells H.out hb1; have c1 : w1.cell? ⟨P, 1, none⟩ = some (.int .i64 (a : Nat)) := cell_at (j := 1) hp1 rfl; have f1 := free_at (j := 1) hp1; clear hb1 hp1)
    go_region_with (go_at_call 110; refine (HG.out _).mono ?_; rintro e w2 ⟨rfl, rfl⟩)
    all_goals
      go_returns
      exact ⟨rfl, (pen_set H.out HB1.out (Below.refl _ _) E rfl).drew⟩
theorem ptext_any (P : Nat) (ao : Option Addr) (len cap : Nat) (bo : Option Nat) (v : Value) (a : Nat) (s u : ByteArray) (w : World) (h : PenAt P ao len cap bo v a s w) (hr : RowOk bo s [.text u] a) :
    Calls Tryz.prog 77 #[.pointer (some ⟨P, 0, none⟩), .string u] w (PenTo P ao len cap bo v (a + u.size) (s ++ u) w) := by
  obtain ⟨r1, r2, r3⟩ := hr
  obtain ⟨hu0, hu1⟩ : okPart (.text u) := r1 _ List.mem_cons_self
  have hend : a + u.size ≤ 4611686018427387904 := r2
  have hr3 : ∀ b, bo = some b → s.size = a ∧ a + u.size ≤ 1000000 := fun b e => r3 b e
  have hm : u.size ≤ maxLen := by unfold maxLen; omega
  cases bo with
  | none =>
    have c1 : w.cell? ⟨P, 1, none⟩ = some (.int .i64 (a : Nat)) := cell_at (j := 1) h.1 rfl
    have c2 : w.cell? ⟨P, 2, none⟩ = some (.pointer none) := cell_at (j := 2) h.1 rfl
    have f1 := free_at (j := 1) h.1
    have H := Lib.hid h
    have HN := Lib.hid (fun w => text_nil u w)
    clear h r1 r2 r3 hr3
    go_enter Tryz.func77, Tryz.ntmps77
    go_wp2_with (go_at_call 111; refine (HN.out _).mono ?_; rintro e w1 ⟨rfl, rfl⟩)
    go_returns
    refine ⟨rfl, pen_set0 H.out ?_ _ _ (by omega)⟩
    first | exact Below.refl _ _ | go_grown | exact drewN_below _ _
  | some b =>
    obtain ⟨es, eE⟩ := hr3 b rfl
    have hbuf := text_any b v s u w (h.2 b rfl).2.2 (by omega)
    have c2 : w.cell? ⟨P, 2, none⟩ = some (.pointer (some ⟨b, 0, none⟩)) := cell_at (j := 2) h.1 rfl
    have H := Lib.hid h
    have HN := Lib.hid hbuf
    clear h r1 r2 r3 hr3 hbuf
    go_enter Tryz.func77, Tryz.ntmps77
    go_wp2_with (go_at_call 111; refine HN.out.mono ?_; rintro e w1 ⟨rfl, hb1⟩; have HB1 := Lib.hid hb1; have hp1 := pen_cells H.out hb1; have c1 : w1.cell? ⟨P, 1, none⟩ = some (.int .i64 (a : Nat)) := cell_at (j := 1) hp1 rfl; have f1 := free_at (j := 1) hp1; clear hb1 hp1)
    go_returns
    refine ⟨rfl, pen_set H.out HB1.out ?_ _ (by omega)⟩
    first | exact Below.refl _ _ | go_grown | exact drewN_below _ _
/-- which function encodes a kind -/
def encN (k : Int) : Nat := if k = 10 then 53 else if k = 11 then 54 else if k = 12 then 55 else if k = 13 then 56 else if k = 14 then 57 else 58
theorem ret_fn {a b : Nat} (h : a = b) : Ending.returned (.func (.func a) #[] #[]) = .returned (.func (.func b) #[] #[]) := by rw [h]
theorem enc_any (k : Int) (w : World) : Calls Tryz.prog 34 #[.int .i64 k] w fun e w' => e = .returned (.func (.func (encN k)) #[] #[]) ∧ w = w' := by
  go_enter Tryz.func34, Tryz.ntmps34
  go_wp2
  all_goals
    go_ret
    exact ⟨ret_fn (by unfold encN; simp_all), rfl⟩
end Go.Proofs.YtficmdomnilhnaaGreat
