/- The pen in memory; what putNumber and putText write with it; which encoding a kind has. -/
import Derived.Test.YtmnemddagcfjgaaGreatDoorPutSame
import Derived.Deep.RegionHeld3
import Derived.StillTailTactics
namespace Go.Proofs.YtmnemddagcfjgaaGreatDoor
open Go.RowKit
set_option linter.unusedVariables false
/-- a pen in memory: block P; without a page, or with one in block b that has the bytes s -/
def PenAt (P : Nat) (ao : Option Addr) (len cap : Nat) (bo : Option Nat) (v : Value) (a : Nat) (s : ByteArray) (w : World) : Prop :=
  w.heap[P]? = some (.cells #[.slice ao len cap, .int .i64 (a : Nat), .pointer (bo.map fun b => ⟨b, 0, none⟩)] 74 (0, 0)) ∧ ∀ b, bo = some b → b ≠ P ∧ v.ownBlock ≠ some P ∧ BufAt b v s w
def PenFoot (P : Nat) (bo : Option Nat) (v : Value) (k : Nat) : Prop := k = P ∨ ∃ b, bo = some b ∧ BufFoot b v k
/-- the pen has written: only its blocks have turned -/
def PenNow (P : Nat) (ao : Option Addr) (len cap : Nat) (bo : Option Nat) (v : Value) (a : Nat) (s : ByteArray) (w w' : World) : Prop :=
  ∃ v', PenAt P ao len cap bo v' a s w' ∧ Only (PenFoot P bo v) w w' ∧ ∀ k, v'.ownBlock = some k → v.ownBlock = some k ∨ w.heap.size ≤ k
def PenTo (P : Nat) (ao : Option Addr) (len cap : Nat) (bo : Option Nat) (v : Value) (a : Nat) (s : ByteArray) (w : World) (e : Ending) (w' : World) : Prop :=
  e = .returned (.tuple #[]) ∧ PenNow P ao len cap bo v a s w w'
theorem PenAt.lt {P : Nat} {ao : Option Addr} {len cap : Nat} {bo : Option Nat} {v : Value} {a : Nat} {s : ByteArray} {w : World} (h : PenAt P ao len cap bo v a s w) {k : Nat} (hk : PenFoot P bo v k) : k < w.heap.size := by
  rcases hk with rfl | ⟨b, hb, hk⟩
  · exact lt_of_block h.1
  · exact ((h.2 b hb).2.2.foot hk).2
theorem PenAt.step {P : Nat} {ao : Option Addr} {len cap : Nat} {bo : Option Nat} {v : Value} {a : Nat} {s : ByteArray} {w w' : World} (h : PenAt P ao len cap bo v a s w) (hb : Below w.heap.size w w') : PenAt P ao len cap bo v a s w' :=
  ⟨(hb.block P (lt_of_block h.1)).trans h.1, fun b e => ⟨(h.2 b e).1, (h.2 b e).2.1, (h.2 b e).2.2.step hb⟩⟩
theorem PenNow.refl {P : Nat} {ao : Option Addr} {len cap : Nat} {bo : Option Nat} {v : Value} {a : Nat} {s : ByteArray} {w : World} (h : PenAt P ao len cap bo v a s w) : PenNow P ao len cap bo v a s w w := ⟨v, h, Only.refl _ _, fun _ hk => .inl hk⟩
/-- from an elder world on -/
theorem PenNow.from {P : Nat} {ao : Option Addr} {len cap : Nat} {bo : Option Nat} {v : Value} {a : Nat} {s : ByteArray} {w w1 w' : World} (h : PenNow P ao len cap bo v a s w1 w') (hb : Below w.heap.size w w1) : PenNow P ao len cap bo v a s w w' := by
  obtain ⟨v', h1, h2, h3⟩ := h
  refine ⟨v', h1, (Only.of_below (S := PenFoot P bo v) hb).trans h2 (fun _ _ k => k), fun k hk => ?_⟩
  rcases h3 k hk with e | e
  · exact .inl e
  · exact .inr (Nat.le_trans hb.size e)
/-- and into a later one -/
theorem PenNow.to {P : Nat} {ao : Option Addr} {len cap : Nat} {bo : Option Nat} {v : Value} {a : Nat} {s : ByteArray} {w w1 w' : World} (h : PenNow P ao len cap bo v a s w w1) (hb : Below w1.heap.size w1 w') : PenNow P ao len cap bo v a s w w' := by
  obtain ⟨v', h1, h2, h3⟩ := h
  exact ⟨v', h1.step hb, h2.step hb, h3⟩
theorem PenNow.drew {P : Nat} {ao : Option Addr} {len cap : Nat} {bo : Option Nat} {v : Value} {a : Nat} {s : ByteArray} {w w1 : World} (h : PenNow P ao len cap bo v a s w w1) : PenNow P ao len cap bo v a s w w1.drew := h.to ((Below.refl w1.heap.size w1).drew)
theorem PenNow.trans {P : Nat} {ao : Option Addr} {len cap : Nat} {bo : Option Nat} {v v1 : Value} {a : Nat} {s : ByteArray} {w w1 w' : World} (h : Only (PenFoot P bo v) w w1) (hf : ∀ k, v1.ownBlock = some k → v.ownBlock = some k ∨ w.heap.size ≤ k) (k : PenNow P ao len cap bo v1 a s w1 w') : PenNow P ao len cap bo v a s w w' := by
  obtain ⟨v', h1, h2, h3⟩ := k
  refine ⟨v', h1, h.trans h2 (fun i hi hk => ?_), fun k hk => ?_⟩
  · rcases hk with rfl | ⟨b, hb, rfl | hk⟩
    · exact .inl rfl
    · exact .inr ⟨i, hb, .inl rfl⟩
    · rcases hf i hk with e | e
      · exact .inr ⟨b, hb, .inr e⟩
      · omega
  · rcases h3 k hk with e | e
    · exact hf k e
    · exact .inr (Nat.le_trans h.size e)
/-- a block beside the pen stays beside it -/
theorem foot_not {P : Nat} {bo : Option Nat} {v v1 : Value} {w : World} {g : Nat} (hg : g < w.heap.size) (h : ¬ PenFoot P bo v g) (hf : ∀ k, v1.ownBlock = some k → v.ownBlock = some k ∨ w.heap.size ≤ k) : ¬ PenFoot P bo v1 g := by
  rintro (rfl | ⟨b, hb, rfl | hk⟩)
  · exact h (.inl rfl)
  · exact h (.inr ⟨g, hb, .inl rfl⟩)
  · rcases hf g hk with e | e
    · exact h (.inr ⟨b, hb, .inr e⟩)
    · omega
/-- the pen's blocks are all above N -/
def PenUp (N P : Nat) (bo : Option Nat) : Prop := N ≤ P ∧ ∀ b, bo = some b → N ≤ b
theorem PenAt.up {N P : Nat} {ao : Option Addr} {len cap : Nat} {bo : Option Nat} {v : Value} {a : Nat} {s : ByteArray} {w : World} (h : PenAt P ao len cap bo v a s w) (hu : PenUp N P bo) {k : Nat} (hk : PenFoot P bo v k) : N ≤ k := by
  rcases hk with rfl | ⟨b, hb, hk⟩
  · exact hu.1
  · exact Nat.le_trans (hu.2 b hb) ((h.2 b hb).2.2.foot hk).1
theorem PenNow.below {P : Nat} {ao : Option Addr} {len cap : Nat} {bo : Option Nat} {v : Value} {a a' : Nat} {s s' : ByteArray} {w0 w w' : World} (h0 : Below w0.heap.size w0 w) (h : PenAt P ao len cap bo v a s w) (hu : PenUp w0.heap.size P bo) (k : PenNow P ao len cap bo v a' s' w w') : Below w0.heap.size w0 w' := by
  obtain ⟨v', h1, h2, h3⟩ := k
  exact Only.below_step h0 h2 (fun i hi => h.up hu hi) (Nat.le_refl _)
/-- a row that can be written -/
def RowOk (bo : Option Nat) (s : ByteArray) (r : List RPart) (a : Nat) : Prop := (∀ p ∈ r, okPart p) ∧ endR r a ≤ 4611686018427387904 ∧ ∀ b, bo = some b → s.size = a ∧ endR r a ≤ 1000000
theorem RowOk.fst {bo : Option Nat} {s : ByteArray} {r q : List RPart} {a : Nat} (h : RowOk bo s (r ++ q) a) : RowOk bo s r a := by
  obtain ⟨h1, h2, h3⟩ := h
  have e := endR_app r q a
  have := endR_ge q (endR r a)
  refine ⟨fun p hp => h1 p (List.mem_append_left _ hp), by omega, fun b hb => ?_⟩
  have := h3 b hb
  omega
theorem RowOk.snd {bo : Option Nat} {s : ByteArray} {r q : List RPart} {a : Nat} (h : RowOk bo s (r ++ q) a) : RowOk bo (bytR r s) q (endR r a) := by
  obtain ⟨h1, h2, h3⟩ := h
  have e := endR_app r q a
  refine ⟨fun p hp => h1 p (List.mem_append_right _ hp), by omega, fun b hb => ?_⟩
  have h4 := h3 b hb
  rw [bytR_size r (fun p hp => h1 p (List.mem_append_left _ hp)), h4.1]
  omega
theorem pen_set0 {P : Nat} {ao : Option Addr} {len cap : Nat} {v : Value} {a : Nat} {s : ByteArray} {w w1 : World} (h : PenAt P ao len cap none v a s w) (hb : Below w.heap.size w w1) (E : Nat) (s' : ByteArray) {x : Int} (hx : x = (E : Nat)) : PenNow P ao len cap none v E s' w (w1.setCell ⟨P, 1, none⟩ (.int .i64 x)) := by
  subst hx
  refine ⟨v, ⟨?_, fun b e => by cases e⟩, (Only.of_below hb).setCell (.inl (.inl rfl)) _, fun k hk => .inl hk⟩
  have := set_at (j := 1) (u := .int .i64 (E : Nat)) (h.step hb).1
  simpa using this
theorem pen_set {P : Nat} {ao : Option Addr} {len cap b : Nat} {v : Value} {a : Nat} {s s' : ByteArray} {w w1 w2 : World} (h : PenAt P ao len cap (some b) v a s w) (hn : BufNow b v s' w w1) (hb : Below w1.heap.size w1 w2) (E : Nat) {x : Int} (hx : x = (E : Nat)) : PenNow P ao len cap (some b) v E s' w (w2.setCell ⟨P, 1, none⟩ (.int .i64 x)) := by
  subst hx
  obtain ⟨q1, q2, q3⟩ := h.2 b rfl
  obtain ⟨v1, h1, o1, f1⟩ := hn
  have hP := lt_of_block h.1
  have hP1 : w1.heap[P]? = _ := o1.same h.1 (fun hk => hk.elim (fun e => q1 e.symm) q2)
  have hP2 : w2.heap[P]? = _ := (hb.block P (lt_of_block hP1)).trans hP1
  have hv1 : v1.ownBlock ≠ some P := fun e => by
    rcases f1 P e with c | c
    · exact q2 c
    · omega
  refine ⟨v1, ⟨?_, fun b' e => ?_⟩, ?_, f1⟩
  · have := set_at (j := 1) (u := .int .i64 (E : Nat)) hP2
    simpa using this
  · cases e
    refine ⟨q1, hv1, (h1.step hb).only (S := fun k => k = P) (Only.setCell (S := fun k => k = P) (Only.refl _ _) (.inl rfl) _) ?_⟩
    rintro k (rfl | hk) rfl
    · exact q1 rfl
    · exact hv1 hk
  · exact ((o1.mono (fun k _ hk => .inr ⟨b, rfl, hk⟩)).step hb).setCell (.inl (.inl rfl)) _
theorem pen_cells {P : Nat} {ao : Option Addr} {len cap : Nat} {b : Nat} {v : Value} {a : Nat} {s s' : ByteArray} {w w1 : World} (h : PenAt P ao len cap (some b) v a s w) (hn : BufNow b v s' w w1) : w1.heap[P]? = some (.cells #[.slice ao len cap, .int .i64 (a : Nat), .pointer (some ⟨b, 0, none⟩)] 74 (0, 0)) := by
  obtain ⟨q1, q2, q3⟩ := h.2 b rfl
  obtain ⟨v1, h1, o1, f1⟩ := hn
  exact o1.same h.1 (fun hk => hk.elim (fun e => q1 e.symm) q2)
set_option maxHeartbeats 4000000 in
theorem pnum_any (P : Nat) (ao : Option Addr) (len cap : Nat) (bo : Option Nat) (v : Value) (a : Nat) (s : ByteArray) (n z : Int) (w : World) (h : PenAt P ao len cap bo v a s w) (hr : RowOk bo s [.num n z] a) :
    Calls Tryz.prog 138 #[.pointer (some ⟨P, 0, none⟩), .int .u64 n, .int .i64 z] w (PenTo P ao len cap bo v (numE z.toNat a) (bytP (.num n z) s) w) := by
  obtain ⟨r1, r2, r3⟩ := hr
  obtain ⟨hz, hf, h0, h1⟩ : okPart (.num n z) := r1 _ List.mem_cons_self
  have hn : (Lit.int .u64 n).wf = true := WalkArith.wf_u64 (by omega)
  obtain ⟨hs1, hs2⟩ := sz_nat hz
  have hgap := numE_gap hs1 a
  rw [hs2] at hgap
  have hge : a ≤ numE z.toNat a := endP_ge (.num n z) a
  have hend : numE z.toNat a ≤ 4611686018427387904 := r2
  have hgr := gapZ_rng (a : Nat) z
  have hzz : 0 ≤ z ∧ z ≤ 8 := by rcases isSz_cases hz with rfl | rfl | rfl | rfl <;> omega
  obtain ⟨E, hE⟩ : ∃ E, numE z.toNat a = E := ⟨_, rfl⟩
  have hput : putE n z = 0 := (put_in hz hf).2
  have hr3 : ∀ b, bo = some b → s.size = a ∧ E ≤ 1000000 := fun b e => by have := r3 b e; rw [← hE]; exact this
  rw [hE] at hgap hge hend ⊢
  obtain ⟨g, hg⟩ : ∃ g, gapZ (a : Nat) z = g := ⟨_, rfl⟩
  have HG := Lib.hid (fun w => gap_any (a : Nat) z (WalkArith.wf_i64 (by omega)) w)
  rw [hg] at HG hgap hgr
  have hx : IntKind.i64.wrap ((a : Nat) + IntKind.i64.wrap (g + z)) = (E : Nat) := by
    have e1 : IntKind.i64.wrap (g + z) = g + z := IntWalk.i64_in _ (by omega)
    rw [e1]
    have e2 : IntKind.i64.wrap ((a : Nat) + (g + z)) = (a : Nat) + (g + z) := IntWalk.i64_in _ (by omega)
    rw [e2]; omega
  cases bo with
  | none =>
    have c1 : w.cell? ⟨P, 1, none⟩ = some (.int .i64 (a : Nat)) := cell_at (j := 1) h.1 rfl
    have c2 : w.cell? ⟨P, 2, none⟩ = some (.pointer none) := cell_at (j := 2) h.1 rfl
    have f1 := free_at (j := 1) h.1
    have H := Lib.hid h
    have HN := Lib.hid (fun w => bput_nil n z w)
    clear h hg hE hs1 hs2 hf r1 r2 r3 hr3 hput hn hz
    go_enter Tryz.func138, Tryz.ntmps138
    go_wp2_with (go_at_call 168; refine (HN.out _).mono ?_; rintro e w1 ⟨rfl, rfl⟩)
    go_region_with (go_at_call 169; refine (HG.out _).mono ?_; rintro e w2 ⟨rfl, rfl⟩)
    all_goals
      go_returns
      exact ⟨rfl, (pen_set0 H.out (Below.refl _ _) E _ rfl).drew⟩
  | some b =>
    obtain ⟨es, eE⟩ := hr3 b rfl
    have hbuf := bput_ok b v s n z w (h.2 b rfl).2.2 hn hput (by omega)
    have c2 : w.cell? ⟨P, 2, none⟩ = some (.pointer (some ⟨b, 0, none⟩)) := cell_at (j := 2) h.1 rfl
    have H := Lib.hid h
    have HN := Lib.hid hbuf
    clear h hg hE hs1 hs2 hf r1 r2 r3 hr3 hput hn hz hbuf
    go_enter Tryz.func138, Tryz.ntmps138
    go_wp2_with (go_at_call 168; refine HN.out.mono ?_; rintro e w1 ⟨rfl, hb1⟩; have HB1 := Lib.hid hb1; have hp1 := pen_cells H.out hb1; have c1 : w1.cell? ⟨P, 1, none⟩ = some (.int .i64 (a : Nat)) := cell_at (j := 1) hp1 rfl; have f1 := free_at (j := 1) hp1; clear hb1 hp1)
    go_region_with (go_at_call 169; refine (HG.out _).mono ?_; rintro e w2 ⟨rfl, rfl⟩)
    all_goals
      go_returns
      exact ⟨rfl, (pen_set H.out HB1.out (Below.refl _ _) E rfl).drew⟩
theorem ptext_any (P : Nat) (ao : Option Addr) (len cap : Nat) (bo : Option Nat) (v : Value) (a : Nat) (s u : ByteArray) (w : World) (h : PenAt P ao len cap bo v a s w) (hr : RowOk bo s [.text u] a) :
    Calls Tryz.prog 139 #[.pointer (some ⟨P, 0, none⟩), .string u] w (PenTo P ao len cap bo v (a + u.size) (s ++ u) w) := by
  obtain ⟨r1, r2, r3⟩ := hr
  obtain ⟨hu0, hu1⟩ : okPart (.text u) := r1 _ List.mem_cons_self
  have hend : a + u.size ≤ 4611686018427387904 := r2
  have hr3 : ∀ b, bo = some b → s.size = a ∧ a + u.size ≤ 1000000 := fun b e => r3 b e
  have hm : u.size ≤ maxLen := by unfold maxLen; omega
  cases bo with
  | none =>
    have c1 : w.cell? ⟨P, 1, none⟩ = some (.int .i64 (a : Nat)) := cell_at (j := 1) h.1 rfl
    have c2 : w.cell? ⟨P, 2, none⟩ = some (.pointer none) := cell_at (j := 2) h.1 rfl
    have f1 := free_at (j := 1) h.1
    have H := Lib.hid h
    have HN := Lib.hid (fun w => text_nil u w)
    clear h r1 r2 r3 hr3
    go_enter Tryz.func139, Tryz.ntmps139
    go_wp2_with (go_at_call 170; refine (HN.out _).mono ?_; rintro e w1 ⟨rfl, rfl⟩)
    go_returns
    refine ⟨rfl, pen_set0 H.out ?_ _ _ (by omega)⟩
    first | exact Below.refl _ _ | go_grown | exact drewN_below _ _
  | some b =>
    obtain ⟨es, eE⟩ := hr3 b rfl
    have hbuf := text_any b v s u w (h.2 b rfl).2.2 (by omega)
    have c2 : w.cell? ⟨P, 2, none⟩ = some (.pointer (some ⟨b, 0, none⟩)) := cell_at (j := 2) h.1 rfl
    have H := Lib.hid h
    have HN := Lib.hid hbuf
    clear h r1 r2 r3 hr3 hbuf
    go_enter Tryz.func139, Tryz.ntmps139
    go_wp2_with (go_at_call 170; refine HN.out.mono ?_; rintro e w1 ⟨rfl, hb1⟩; have HB1 := Lib.hid hb1; have hp1 := pen_cells H.out hb1; have c1 : w1.cell? ⟨P, 1, none⟩ = some (.int .i64 (a : Nat)) := cell_at (j := 1) hp1 rfl; have f1 := free_at (j := 1) hp1; clear hb1 hp1)
    go_returns
    refine ⟨rfl, pen_set H.out HB1.out ?_ _ (by omega)⟩
    first | exact Below.refl _ _ | go_grown | exact drewN_below _ _
/-- which function encodes a kind -/
def encN (k : Int) : Nat := if k = 10 then 90 else if k = 11 then 91 else if k = 12 then 92 else if k = 13 then 93 else if k = 14 then 94 else 95
theorem ret_fn {a b : Nat} (h : a = b) : Ending.returned (.func (.func a) #[] #[]) = .returned (.func (.func b) #[] #[]) := by rw [h]
theorem enc_any (k : Int) (w : World) : Calls Tryz.prog 51 #[.int .i64 k] w fun e w' => e = .returned (.func (.func (encN k)) #[] #[]) ∧ w = w' := by
  go_enter Tryz.func51, Tryz.ntmps51
  go_wp2
  all_goals
    go_ret
    exact ⟨ret_fn (by unfold encN; simp_all), rfl⟩
end Go.Proofs.YtmnemddagcfjgaaGreatDoor
namespace Go.Proofs.YtmnemddagcfjgaaGreatDoor
open Go.RowKit
set_option linter.unusedVariables false
/-- a value's box -/
def boxV (T : VT) : Obj := .cells #[.int .i64 T.kind, .int .u64 T.num, .string T.text, .slice T.ia T.len T.cap] 28
theorem eEnc (k : Int) : Enters (encN k) := by
  unfold encN
  split; · exact enters_of Tryz.func90 (by kernel_rfl) rfl
  split; · exact enters_of Tryz.func91 (by kernel_rfl) rfl
  split; · exact enters_of Tryz.func92 (by kernel_rfl) rfl
  split; · exact enters_of Tryz.func93 (by kernel_rfl) rfl
  split; · exact enters_of Tryz.func94 (by kernel_rfl) rfl
  exact enters_of Tryz.func95 (by kernel_rfl) rfl
/-- a box beside the pen's blocks stays -/
theorem box_now {P : Nat} {ao : Option Addr} {len cap : Nat} {bo : Option Nat} {v : Value} {a a' : Nat} {s s' : ByteArray} {w w1 : World} {o : Obj} (h : PenAt P ao len cap bo v a s w) (hn : PenNow P ao len cap bo v a' s' (w.alloc o) w1) : w1.heap[w.heap.size]? = some o := by
  obtain ⟨v', h1, h2, h3⟩ := hn
  exact h2.same (alloc_at w o) (fun hk => Nat.lt_irrefl _ (h.lt hk))
set_option maxHeartbeats 2000000 in
theorem cnum_any (P : Nat) (ao : Option Addr) (len cap : Nat) (bo : Option Nat) (v : Value) (a : Nat) (s : ByteArray) (t : Nat) (X : TypeV) (T : VT) (hlen : len ≤ 1000000) (ht : t < len) (hn : (Lit.int .u64 T.num).wf = true) (w : World) (h : PenAt P ao len cap bo v a s w) (HT : TypeAt w ao t X)
    (hr : RowOk bo s [.num (lowK X.kind T.num) (szK X.kind)] a) :
    Calls Tryz.prog 95 #[.pointer (some ⟨P, 0, none⟩), .int .i64 (t : Nat), .agg #[.int .i64 T.kind, .int .u64 T.num, .string T.text, .slice T.ia T.len T.cap]] w (PenTo P ao len cap bo v (numE (szK X.kind).toNat a) (bytP (.num (lowK X.kind T.num) (szK X.kind)) s) w) := by
  have HL := Lib.hid (fun w => low_any X.kind T.num hn w)
  have HS := Lib.hid (fun w => size_any X.kind w)
  obtain ⟨tb, toff, rfl, c0, _, _, _, _, _, wf, _⟩ := HT
  have HP := Lib.hid (h.step ((Below.refl w.heap.size w).alloc (Nat.le_refl _) (boxV T)))
  have HB := Lib.hid ((Below.refl w.heap.size w).alloc (Nat.le_refl _) (boxV T))
  have p0 : (w.alloc (boxV T)).cell? ⟨P, 0, none⟩ = some (.slice (some ⟨tb, toff, none⟩) len cap) := cell_at (j := 0) HP.out.1 rfl
  have c0 : (w.alloc (boxV T)).cell? ⟨tb, toff + t * 6, none⟩ = some (.int .i64 X.kind) := keep HB.out c0
  obtain ⟨k, hk⟩ : ∃ k, X.kind = k := ⟨_, rfl⟩
  rw [hk] at hr c0 HL HS ⊢
  have HC := Lib.hid (fun w h => pnum_any P (some ⟨tb, toff, none⟩) len cap bo v a s (lowK k T.num) (szK k) w h hr)
  obtain ⟨lo, hlo⟩ : ∃ lo, lowK k T.num = lo := ⟨_, rfl⟩
  obtain ⟨sz, hsz⟩ : ∃ sz, szK k = sz := ⟨_, rfl⟩
  rw [hlo] at HL HC ⊢
  rw [hsz] at HS HC ⊢
  unfold boxV at p0 c0 HP HB
  clear h hr hk hlo hsz hn wf
  go_enter Tryz.func95, Tryz.ntmps95
  go_wp2_with (first
    | (go_at_call 122; refine (HL.out _).mono ?_; rintro e w1 ⟨rfl, hb1⟩; have HB1 := Lib.hid hb1; clear hb1)
    | (go_at_call 72; refine (HS.out _).mono ?_; rintro e w2 ⟨rfl, hb2⟩; have HB2 := Lib.hid hb2; clear hb2)
    | (go_at_call 138; refine (HC.out _ ((HP.out.step HB1.out).step HB2.out)).mono ?_; rintro e w3 ⟨rfl, hn3⟩))
  go_returns
  exact ⟨rfl, ((hn3.from HB2.out).from HB1.out).from HB.out⟩
set_option maxHeartbeats 2000000 in
theorem etext_any (P : Nat) (ao : Option Addr) (len cap : Nat) (bo : Option Nat) (v : Value) (a : Nat) (s : ByteArray) (t : Nat) (T : VT) (hts : T.text.size ≤ 1000) (w : World) (h : PenAt P ao len cap bo v a s w)
    (hr : RowOk bo s [.num ((T.text.size : Nat) + 1) 4, .text (T.text ++ ⟨#[0]⟩)] a) :
    Calls Tryz.prog 90 #[.pointer (some ⟨P, 0, none⟩), .int .i64 (t : Nat), .agg #[.int .i64 T.kind, .int .u64 T.num, .string T.text, .slice T.ia T.len T.cap]] w (PenTo P ao len cap bo v (endR [.num ((T.text.size : Nat) + 1) 4, .text (T.text ++ ⟨#[0]⟩)] a) (bytR [.num ((T.text.size : Nat) + 1) 4, .text (T.text ++ ⟨#[0]⟩)] s) w) := by
  have r1 := RowOk.fst (r := [.num ((T.text.size : Nat) + 1) 4]) (q := [.text (T.text ++ ⟨#[0]⟩)]) hr
  have r2 := RowOk.snd (r := [.num ((T.text.size : Nat) + 1) 4]) (q := [.text (T.text ++ ⟨#[0]⟩)]) hr
  have HB := Lib.hid ((Below.refl w.heap.size w).alloc (Nat.le_refl _) (boxV T))
  have HC := Lib.hid (fun w h => pnum_any P ao len cap bo v a s ((T.text.size : Nat) + 1) 4 w h r1)
  have HD := Lib.hid (fun v w h => ptext_any P ao len cap bo v _ _ (T.text ++ ⟨#[0]⟩) w h (r2 : RowOk bo (bytP (.num ((T.text.size : Nat) + 1) 4) s) [.text (T.text ++ ⟨#[0]⟩)] (numE 4 a)))
  have HH := Lib.hid h
  have HP := Lib.hid (h.step HB.out)
  have hm : T.text.size ≤ maxLen := by unfold maxLen; omega
  have hu : IntKind.u64.wrap ((T.text.size : Nat) + 1) = (T.text.size : Nat) + 1 := IntWalk.u64_in _ (by omega)
  show Calls _ _ _ _ (PenTo P ao len cap bo v (numE 4 a + (T.text ++ ⟨#[0]⟩).size) (bytP (.num ((T.text.size : Nat) + 1) 4) s ++ (T.text ++ ⟨#[0]⟩)) w)
  unfold boxV at HP HB
  clear h hr r1 r2
  go_enter Tryz.func90, Tryz.ntmps90
  go_wp2_with (first
    | (go_at_call 138; refine (HC.out _ HP.out).mono ?_; rintro e w1 ⟨rfl, hn1⟩; have d2 : w1.cell? ⟨w.heap.size, 2, none⟩ = some (.string T.text) := cell_at (box_now HH.out hn1) rfl; obtain ⟨v1, q1, o1, f1⟩ := hn1; have Q1 := Lib.hid q1; have F1 := Lib.hid f1; clear q1 f1)
    | (go_at_call 139; refine (HD.out _ _ Q1.out).mono ?_; rintro e w2 ⟨rfl, hn2⟩))
  go_returns
  exact ⟨rfl, (PenNow.trans o1 F1.out hn2).from HB.out⟩
end Go.Proofs.YtmnemddagcfjgaaGreatDoor
namespace Go.Proofs.YtmnemddagcfjgaaGreatDoor
open Go.RowKit
set_option linter.unusedVariables false
theorem RowOk.pre {bo : Option Nat} {s : ByteArray} {f : Nat → List RPart} {a : Nat} : ∀ {n j : Nat}, j ≤ n → RowOk bo s (catTo f n) a → RowOk bo s (catTo f j) a
  | 0, j, hj, h => by obtain rfl : j = 0 := by omega
                      exact h
  | n + 1, j, hj, h => by
    by_cases c : j = n + 1
    · subst c; exact h
    · exact RowOk.pre (n := n) (by omega) (RowOk.fst (r := catTo f n) (q := f n) h)
theorem RowOk.kid {bo : Option Nat} {s : ByteArray} {f : Nat → List RPart} {a n j : Nat} (h : RowOk bo s (catTo f n) a) (hj : j < n) : RowOk bo (bytR (catTo f j) s) (f j) (endR (catTo f j) a) :=
  RowOk.snd (r := catTo f j) (q := f j) (RowOk.pre (n := n) (j := j + 1) hj h)
/-- what the pen writes of a value -/
def CPut (P : Nat) (ao : Option Addr) (len cap : Nat) (bo : Option Nat) (v : Value) (a : Nat) (s : ByteArray) (r : List RPart) (p : Nat) (M : VT) (wx : World) : Prop :=
  Calls Tryz.prog 31 #[.pointer (some ⟨P, 0, none⟩), .int .i64 (p : Nat), .agg #[.int .i64 M.kind, .int .u64 M.num, .string M.text, .slice M.ia M.len M.cap]] wx (PenTo P ao len cap bo v (endR r a) (bytR r s) wx)
theorem box_at {P : Nat} {ao : Option Addr} {len cap : Nat} {bo : Option Nat} {v : Value} {a a' : Nat} {s s' : ByteArray} {wr wx w3 : World} {o : Obj} (h : PenAt P ao len cap bo v a s wr) (hb : wx.heap[wr.heap.size]? = some o) (hn : PenNow P ao len cap bo v a' s' wx w3) : w3.heap[wr.heap.size]? = some o := by
  obtain ⟨v', h1, h2, h3⟩ := hn
  exact h2.same hb (fun hk => Nat.lt_irrefl _ (h.lt hk))
theorem PenNow.cell0 {P : Nat} {ao : Option Addr} {len cap : Nat} {bo : Option Nat} {v : Value} {a : Nat} {s : ByteArray} {w w1 : World} (h : PenNow P ao len cap bo v a s w w1) : w1.cell? ⟨P, 0, none⟩ = some (.slice ao len cap) := by
  obtain ⟨v', h1, h2, h3⟩ := h
  exact cell_at (j := 0) h1.1 rfl
theorem PenNow.snoc {P : Nat} {ao : Option Addr} {len cap : Nat} {bo : Option Nat} {v v1 : Value} {a j : Nat} {s : ByteArray} {f : Nat → List RPart} {w w1 w' : World} (h : Only (PenFoot P bo v) w w1) (hf : ∀ k, v1.ownBlock = some k → v.ownBlock = some k ∨ w.heap.size ≤ k)
    (k : PenNow P ao len cap bo v1 (endR (f j) (endR (catTo f j) a)) (bytR (f j) (bytR (catTo f j) s)) w1 w') : PenNow P ao len cap bo v (endR (catTo f (j + 1)) a) (bytR (catTo f (j + 1)) s) w w' := by
  show PenNow P ao len cap bo v (endR (catTo f j ++ f j) a) (bytR (catTo f j ++ f j) s) w w'
  rw [endR_app, bytR_app]
  exact PenNow.trans h hf k
set_option maxHeartbeats 4000000 in
theorem celem_any (P : Nat) (ao : Option Addr) (len cap : Nat) (bo : Option Nat) (v : Value) (a : Nat) (s : ByteArray) (t : Nat) (X : TypeV) (kd nm : Int) (tx : ByteArray) (ia : Option Addr) (n cp : Nat) (K : Nat → VT) (S : Nat → Prop) (f : Nat → List RPart) (p : Nat)
    (hlen : len ≤ 1000000) (ht : t < len) (hof : X.of = (p : Nat)) (hn : n ≤ 2513169434843) (w0 w : World) (hb : Below w0.heap.size w0 w) (hu : PenUp w0.heap.size P bo) (h : PenAt P ao len cap bo v a s w) (HT : TypeAt w0 ao t X)
    (HC : ∀ i, i < n → ∀ wx, Below w0.heap.size w0 wx → CellsAt wx S ia i (K i)) (hr : RowOk bo s (catTo f n) a)
    (HK : ∀ i, i < n → ∀ v a s wx, Below w0.heap.size w0 wx → PenAt P ao len cap bo v a s wx → RowOk bo s (f i) a → CPut P ao len cap bo v a s (f i) p (K i) wx) :
    Calls Tryz.prog 92 #[.pointer (some ⟨P, 0, none⟩), .int .i64 (t : Nat), .agg #[.int .i64 kd, .int .u64 nm, .string tx, .slice ia n cp]] w (PenTo P ao len cap bo v (endR (catTo f n) a) (bytR (catTo f n) s) w) := by
  obtain ⟨tb, toff, rfl, _, _, _, c3, _, _, wf, _⟩ := HT
  rw [hof] at c3
  have hB := (Below.refl w.heap.size w).alloc (Nat.le_refl _) (.cells #[.int .i64 kd, .int .u64 nm, .string tx, .slice ia n cp] 28)
  have HP := Lib.hid (h.step hB)
  have HBW := Lib.hid (below_step8' (w := w0) (a := w) hb (hB))
  have HB := Lib.hid hB
  have HC := Lib.hid HC
  have HK := Lib.hid HK
  have HR := Lib.hid hr
  have C3 := Lib.hid c3
  clear h hb hB hr c3 wf hof
  go_enter Tryz.func92, Tryz.ntmps92
  go_wp2
  go_loopw [11] (fun i wr => ∃ j : Nat, j ≤ n ∧ i = .int .i64 j ∧ Hid (PenNow P (some ⟨tb, toff, none⟩) len cap bo v (endR (catTo f j) a) (bytR (catTo f j) s) (w.alloc (.cells #[.int .i64 kd, .int .u64 nm, .string tx, .slice ia n cp] 28)) wr)) (fun i _ => n - (intOf i).toNat)
  case atStart => exact ⟨0, Nat.zero_le _, rfl, Lib.hid (PenNow.refl HP.out)⟩
  case round =>
    obtain ⟨j, hj, rfl, HN⟩ := hrel
    by_cases hlt : j < n
    · have HW := Lib.hid (PenNow.below HBW.out HP.out hu HN.out)
      obtain ⟨b, off, rfl, _, _, c0, c1, c2, c3⟩ := HC.out j hlt wr HW.out
      obtain ⟨v1, q1, o1, f1⟩ := HN.out
      have hk := fun wx hbx hpx => HK.out j hlt v1 _ _ wx hbx hpx (HR.out.kid hlt)
      obtain ⟨M, hM⟩ : ∃ M, K j = M := ⟨_, rfl⟩
      rw [hM] at hk c0 c1 c2 c3
      unfold CPut at hk
      have hA := (Below.refl wr.heap.size wr).alloc (Nat.le_refl _) (.cells #[.int .i64 M.kind, .int .u64 M.num, .string M.text, .slice M.ia M.len M.cap] 28)
      have HQ := Lib.hid (alloc_at wr (.cells #[.int .i64 M.kind, .int .u64 M.num, .string M.text, .slice M.ia M.len M.cap] 28))
      have HA := Lib.hid hA
      have HX := Lib.hid (q1.step hA)
      have HY := Lib.hid (below_step8' (w := w0) HW.out hA)
      have Q1 := Lib.hid q1
      have F1 := Lib.hid f1
      have HD := Lib.hid hk
      clear hk hM hA q1 f1 HN
      go_upto_region 4 with (fail)
      clear c0 c1 c2 c3
      generalize wr.alloc (.cells #[.int .i64 M.kind, .int .u64 M.num, .string M.text, .slice M.ia M.len M.cap] 28) = wb at *
      have p0 : wb.cell? ⟨P, 0, none⟩ = some (.slice (some ⟨tb, toff, none⟩) len cap) := cell_at (j := 0) HX.out.1 rfl
      have k3 : wb.cell? ⟨tb, toff + t * 6 + 3, none⟩ = some (.int .i64 (p : Nat)) := keep HY.out C3.out
      have d0 : wb.cell? ⟨wr.heap.size, 0, none⟩ = some (.int .i64 M.kind) := cell_at HQ.out rfl
      have d1 : wb.cell? ⟨wr.heap.size, 1, none⟩ = some (.int .u64 M.num) := cell_at HQ.out rfl
      have d2 : wb.cell? ⟨wr.heap.size, 2, none⟩ = some (.string M.text) := cell_at HQ.out rfl
      have d3 : wb.cell? ⟨wr.heap.size, 3, none⟩ = some (.slice M.ia M.len M.cap) := cell_at HQ.out rfl
      go_region_held3 (fun w' => w'.cell? ⟨P, 0, none⟩ = some (.slice (some ⟨tb, toff, none⟩) len cap) ∧ w'.cell? ⟨tb, toff + t * 6 + 3, none⟩ = some (.int .i64 (p : Nat)) ∧ w'.cell? ⟨wr.heap.size, 0, none⟩ = some (.int .i64 M.kind) ∧ w'.cell? ⟨wr.heap.size, 1, none⟩ = some (.int .u64 M.num) ∧ w'.cell? ⟨wr.heap.size, 2, none⟩ = some (.string M.text) ∧ w'.cell? ⟨wr.heap.size, 3, none⟩ = some (.slice M.ia M.len M.cap))
        (first | exact ⟨p0, k3, d0, d1, d2, d3⟩ | fail)
        (first | (go_at_call 31; refine (HD.out _ (by first | exact HY.out | exact HY.out.drew) (by first | exact HX.out | exact HX.out.step (Below.refl _ _).drew)).mono ?_; rintro e w3 ⟨rfl, hn3⟩; have HN3 := Lib.hid (hn3.from (w := wr) (by first | exact HA.out | exact HA.out.drew)); have hbx := box_at Q1.out (by exact HQ.out) hn3; have p0 := hn3.cell0; have k3 := keep (PenNow.below HW.out Q1.out hu HN3.out) C3.out; have d0 : w3.cell? ⟨wr.heap.size, 0, none⟩ = some (.int .i64 M.kind) := cell_at hbx rfl; have d1 : w3.cell? ⟨wr.heap.size, 1, none⟩ = some (.int .u64 M.num) := cell_at hbx rfl; have d2 : w3.cell? ⟨wr.heap.size, 2, none⟩ = some (.string M.text) := cell_at hbx rfl; have d3 : w3.cell? ⟨wr.heap.size, 3, none⟩ = some (.slice M.ia M.len M.cap) := cell_at hbx rfl; clear hn3 hbx))
      go_wp2
      go_roundw
      case rel => exact ⟨j + 1, by omega, by go_num, Lib.hid (PenNow.snoc o1 F1.out (by first | exact HN3.out | exact HN3.out.drew))⟩
      case measure => simp [intOf]; omega
    · obtain rfl : j = n := by omega
      go_wp2
      go_returns
      exact ⟨rfl, HN.out.from HB.out⟩
end Go.Proofs.YtmnemddagcfjgaaGreatDoor
namespace Go.Proofs.YtmnemddagcfjgaaGreatDoor
open Go.RowKit
set_option linter.unusedVariables false
set_option maxHeartbeats 4000000 in
theorem cfield_any (P : Nat) (ao : Option Addr) (len cap : Nat) (bo : Option Nat) (v : Value) (a : Nat) (s : ByteArray) (t : Nat) (X : TypeV) (kd nm : Int) (tx : ByteArray) (ia : Option Addr) (n cp : Nat) (K : Nat → VT) (S : Nat → Prop) (f : Nat → List RPart)
    (hlen : len ≤ 1000000) (ht : t < len) (hof : ∀ i, i < n → i < X.ilen ∧ (X.items i).type = ((X.items i).type.toNat : Nat)) (hn : n ≤ 2513169434843) (w0 w : World) (hb : Below w0.heap.size w0 w) (hu : PenUp w0.heap.size P bo) (h : PenAt P ao len cap bo v a s w) (HT : TypeAt w0 ao t X)
    (HC : ∀ i, i < n → ∀ wx, Below w0.heap.size w0 wx → CellsAt wx S ia i (K i)) (hr : RowOk bo s (catTo f n) a)
    (HK : ∀ i, i < n → ∀ v a s wx, Below w0.heap.size w0 wx → PenAt P ao len cap bo v a s wx → RowOk bo s (f i) a → CPut P ao len cap bo v a s (f i) (X.items i).type.toNat (K i) wx) :
    Calls Tryz.prog 93 #[.pointer (some ⟨P, 0, none⟩), .int .i64 (t : Nat), .agg #[.int .i64 kd, .int .u64 nm, .string tx, .slice ia n cp]] w (PenTo P ao len cap bo v (endR (catTo f n) a) (bytR (catTo f n) s) w) := by
  obtain ⟨tb, toff, rfl, _, _, _, _, _, c5, wf, hi⟩ := HT
  have hB := (Below.refl w.heap.size w).alloc (Nat.le_refl _) (.cells #[.int .i64 kd, .int .u64 nm, .string tx, .slice ia n cp] 28)
  have HP := Lib.hid (h.step hB)
  have HBW := Lib.hid (below_step8' (w := w0) (a := w) hb (hB))
  have HB := Lib.hid hB
  have HC := Lib.hid HC
  have HK := Lib.hid HK
  have HR := Lib.hid hr
  have HI := Lib.hid hi
  have HO := Lib.hid hof
  have hil := hi.1
  have C5 := Lib.hid c5
  clear h hb hB hr c5 wf hof hi
  go_enter Tryz.func93, Tryz.ntmps93
  go_wp2
  go_loopw [11] (fun i wr => ∃ j : Nat, j ≤ n ∧ i = .int .i64 j ∧ Hid (PenNow P (some ⟨tb, toff, none⟩) len cap bo v (endR (catTo f j) a) (bytR (catTo f j) s) (w.alloc (.cells #[.int .i64 kd, .int .u64 nm, .string tx, .slice ia n cp] 28)) wr)) (fun i _ => n - (intOf i).toNat)
  case atStart => exact ⟨0, Nat.zero_le _, rfl, Lib.hid (PenNow.refl HP.out)⟩
  case round =>
    obtain ⟨j, hj, rfl, HN⟩ := hrel
    by_cases hlt : j < n
    · have HW := Lib.hid (PenNow.below HBW.out HP.out hu HN.out)
      obtain ⟨b, off, rfl, _, _, c0, c1, c2, c3⟩ := HC.out j hlt wr HW.out
      obtain ⟨v1, q1, o1, f1⟩ := HN.out
      have hk := fun wx hbx hpx => HK.out j hlt v1 _ _ wx hbx hpx (HR.out.kid hlt)
      obtain ⟨hji, hjt⟩ := HO.out j hlt
      obtain ⟨ib, ioff, eia, _, _, i2, _, _, _⟩ := HI.out.2 j hji
      obtain ⟨p, hp⟩ : ∃ p, (X.items j).type.toNat = p := ⟨_, rfl⟩
      rw [hp] at hjt hk
      rw [hjt] at i2
      have c5 := C5.out
      rw [eia] at c5
      have K2 := Lib.hid i2
      have K5 := Lib.hid c5
      obtain ⟨M, hM⟩ : ∃ M, K j = M := ⟨_, rfl⟩
      rw [hM] at hk c0 c1 c2 c3
      unfold CPut at hk
      have hA := (Below.refl wr.heap.size wr).alloc (Nat.le_refl _) (.cells #[.int .i64 M.kind, .int .u64 M.num, .string M.text, .slice M.ia M.len M.cap] 28)
      have HQ := Lib.hid (alloc_at wr (.cells #[.int .i64 M.kind, .int .u64 M.num, .string M.text, .slice M.ia M.len M.cap] 28))
      have HA := Lib.hid hA
      have HX := Lib.hid (q1.step hA)
      have HY := Lib.hid (below_step8' (w := w0) HW.out hA)
      have Q1 := Lib.hid q1
      have F1 := Lib.hid f1
      have HD := Lib.hid hk
      clear hk hM hA q1 f1 HN i2 c5 eia hp hjt
      go_upto_region 4 with (fail)
      clear c0 c1 c2 c3
      generalize wr.alloc (.cells #[.int .i64 M.kind, .int .u64 M.num, .string M.text, .slice M.ia M.len M.cap] 28) = wb at *
      have p0 : wb.cell? ⟨P, 0, none⟩ = some (.slice (some ⟨tb, toff, none⟩) len cap) := cell_at (j := 0) HX.out.1 rfl
      have k5 : wb.cell? ⟨tb, toff + t * 6 + 5, none⟩ = some (.slice (some ⟨ib, ioff, none⟩) X.ilen X.icap) := keep HY.out K5.out
      have k2 : wb.cell? ⟨ib, ioff + j * 5 + 2, none⟩ = some (.int .i64 (p : Nat)) := keep HY.out K2.out
      have d0 : wb.cell? ⟨wr.heap.size, 0, none⟩ = some (.int .i64 M.kind) := cell_at HQ.out rfl
      have d1 : wb.cell? ⟨wr.heap.size, 1, none⟩ = some (.int .u64 M.num) := cell_at HQ.out rfl
      have d2 : wb.cell? ⟨wr.heap.size, 2, none⟩ = some (.string M.text) := cell_at HQ.out rfl
      have d3 : wb.cell? ⟨wr.heap.size, 3, none⟩ = some (.slice M.ia M.len M.cap) := cell_at HQ.out rfl
      go_region_held3 (fun w' => w'.cell? ⟨P, 0, none⟩ = some (.slice (some ⟨tb, toff, none⟩) len cap) ∧ w'.cell? ⟨tb, toff + t * 6 + 5, none⟩ = some (.slice (some ⟨ib, ioff, none⟩) X.ilen X.icap) ∧ w'.cell? ⟨ib, ioff + j * 5 + 2, none⟩ = some (.int .i64 (p : Nat)) ∧ w'.cell? ⟨wr.heap.size, 0, none⟩ = some (.int .i64 M.kind) ∧ w'.cell? ⟨wr.heap.size, 1, none⟩ = some (.int .u64 M.num) ∧ w'.cell? ⟨wr.heap.size, 2, none⟩ = some (.string M.text) ∧ w'.cell? ⟨wr.heap.size, 3, none⟩ = some (.slice M.ia M.len M.cap))
        (first | exact ⟨p0, k5, k2, d0, d1, d2, d3⟩ | fail)
        (first | (go_at_call 31; refine (HD.out _ (by first | exact HY.out | exact HY.out.drew) (by first | exact HX.out | exact HX.out.step (Below.refl _ _).drew)).mono ?_; rintro e w3 ⟨rfl, hn3⟩; have HN3 := Lib.hid (hn3.from (w := wr) (by first | exact HA.out | exact HA.out.drew)); have hbx := box_at Q1.out (by exact HQ.out) hn3; have p0 := hn3.cell0; have k5 := keep (PenNow.below HW.out Q1.out hu HN3.out) K5.out; have k2 := keep (PenNow.below HW.out Q1.out hu HN3.out) K2.out; have d0 : w3.cell? ⟨wr.heap.size, 0, none⟩ = some (.int .i64 M.kind) := cell_at hbx rfl; have d1 : w3.cell? ⟨wr.heap.size, 1, none⟩ = some (.int .u64 M.num) := cell_at hbx rfl; have d2 : w3.cell? ⟨wr.heap.size, 2, none⟩ = some (.string M.text) := cell_at hbx rfl; have d3 : w3.cell? ⟨wr.heap.size, 3, none⟩ = some (.slice M.ia M.len M.cap) := cell_at hbx rfl; clear hn3 hbx))
      go_wp2
      go_roundw
      case rel => exact ⟨j + 1, by omega, by go_num, Lib.hid (PenNow.snoc o1 F1.out (by first | exact HN3.out | exact HN3.out.drew))⟩
      case measure => simp [intOf]; omega
    · obtain rfl : j = n := by omega
      go_wp2
      go_returns
      exact ⟨rfl, HN.out.from HB.out⟩
theorem btF_any (x : ItemV) (b : Nat) (n : Int) (w : World) (hc : w.cell? ⟨b, 0, none⟩ = some (.int .u64 n)) :
    Calls Tryz.prog 171 #[itmV x, .pointer (some ⟨b, 0, none⟩)] w fun e w' => e = .returned (.bool (x.num == n || x.rest)) ∧ Below w.heap.size w w' := by
  have hlt := World.block_lt_of_cell? w _ hc
  have hne : ¬ b = w.heap.size := by simp at hlt; omega
  obtain ⟨q, hq⟩ : ∃ q, (x.num == n) = q := ⟨_, rfl⟩
  unfold itmV
  rw [hq]
  go_enter Tryz.func171, Tryz.ntmps171
  cases q
  all_goals
    go_wp2
    all_goals
      go_ret
      exact ⟨ret_b (by first | rfl | simp [*]), (Below.refl _ _).alloc (Nat.le_refl _) _⟩
theorem eBT : Enters 171 := enters_of Tryz.func171 (by kernel_rfl) rfl
theorem bt_pays {b : Nat} {n : Int} {w : World} (hc : w.cell? ⟨b, 0, none⟩ = some (.int .u64 n)) : Pays 171 #[.pointer (some ⟨b, 0, none⟩)] (fun x => x.num == n || x.rest) w :=
  fun W x hb => btF_any x b n W (keep6 hb hc)
set_option maxHeartbeats 2000000 in
theorem btype_any (T : TypeV) (n : Int) (w : World) (hi : ItemsAt w T) (h14 : T.kind = 14) (hl : RestLast T) (hb : okZ (branchZ T n) = true) :
    Calls Tryz.prog 140 #[typV T, .int .u64 n] w fun e w' => e = .returned (.int .i64 (T.items (branchZ T n).toNat).type) ∧ Below w.heap.size w w' := by
  have hmf' := hmf
  have hz : 0 ≤ branchZ T n := by unfold okZ at hb; simpa using hb
  have hlt := branchZ_lt hz
  have hbr := branch_is h14 hl hb
  obtain ⟨k, hk⟩ : ∃ k : Nat, branchZ T n = k := ⟨(branchZ T n).toNat, by omega⟩
  rw [hk] at hlt hbr ⊢
  have hkl : k < T.ilen := by omega
  have HB := Lib.hid (((Below.refl w.heap.size w).alloc (Nat.le_refl _) (typO T)).alloc (by simp) (.cells #[.int .u64 n] 25))
  have hx := fun wx (hb : Below w.heap.size w wx) (hc : wx.cell? ⟨w.heap.size + 1, 0, none⟩ = some (.int .u64 n)) =>
    idxFunc_any T.ia T.ilen T.icap T.items 171 #[.pointer (some ⟨w.heap.size + 1, 0, none⟩)] (fun x => x.num == n || x.rest) hi.1 wx eBT (bt_pays hc) (hi.held hb).2
  rw [hbr] at hx
  obtain ⟨y, hy⟩ : ∃ y, (T.items ((k : Nat) : Int).toNat).type = y := ⟨_, rfl⟩
  rw [hy]
  have hit := hi.2 k hkl
  have hil := hi.1
  unfold typV
  unfold typO at HB
  obtain ⟨ia, hia⟩ : ∃ ia, T.ia = ia := ⟨_, rfl⟩
  rw [hia] at hit hx HB ⊢
  obtain ⟨ib, ioff, rfl, _, _, i2, _, _, _⟩ := hit
  have hy' : (T.items k).type = y := hy
  rw [hy'] at i2
  have I2 := Lib.hid i2
  have HI := Lib.hid hx
  clear hx hy hy' i2 hi hb hl hbr hk hz hia h14
  go_enter Tryz.func140, Tryz.ntmps140
  go_wp2_with (go_at_call 162; refine (HI.out _ HB.out (by go_cell)).mono ?_; rintro e w3 ⟨rfl, hb3⟩; have HB3 := Lib.hid (below_step8' HB.out hb3); have g2 : w3.cell? ⟨ib, ioff + k * 5 + 2, none⟩ = some (.int .i64 y) := keep HB3.out I2.out; have g5 : w3.cell? ⟨w.heap.size, 5, none⟩ = some (.slice (some ⟨ib, ioff, none⟩) T.ilen T.icap) := keep hb3 (by go_cell); clear hb3)
  go_ret
  exact ⟨rfl, HB3.out⟩
end Go.Proofs.YtmnemddagcfjgaaGreatDoor
namespace Go.Proofs.YtmnemddagcfjgaaGreatDoor
open Go.RowKit
set_option linter.unusedVariables false
theorem PenNow.other {P : Nat} {ao : Option Addr} {len cap : Nat} {bo : Option Nat} {v : Value} {a g : Nat} {s : ByteArray} {w w1 : World} {o : Obj} (h : PenNow P ao len cap bo v a s w w1) (hb : w.heap[g]? = some o) (hg : ¬ PenFoot P bo v g) : w1.heap[g]? = some o := by
  obtain ⟨v', h1, h2, h3⟩ := h
  exact h2.same hb hg
set_option maxHeartbeats 8000000 in
theorem cunion_any (P : Nat) (ao : Option Addr) (len cap : Nat) (bo : Option Nat) (v : Value) (a : Nat) (s : ByteArray) (t : Nat) (X : TypeV) (q : Nat) (Y : TypeV) (kd nm : Int) (tx : ByteArray) (ia : Option Addr) (n cp : Nat) (K : Nat → VT) (S : Nat → Prop) (f : Nat → List RPart) (p : Nat)
    (hlen : len ≤ 1000000) (ht : t < len) (hq : q < len) (htag : X.tag = (q : Nat)) (h14 : X.kind = 14) (hrl : RestLast X) (hbz : 0 < n → okZ (branchZ X nm) = true) (hpt : (X.items (branchZ X nm).toNat).type = (p : Nat) ∨ n = 0) (hnm : (Lit.int .u64 nm).wf = true) (hn : n ≤ 2513169434843)
    (w0 w : World) (hb : Below w0.heap.size w0 w) (hu : PenUp w0.heap.size P bo) (h : PenAt P ao len cap bo v a s w) (HT : TypeAt w0 ao t X) (HTg : TypeAt w0 ao q Y)
    (HC : ∀ i, i < n → ∀ wx, Below w0.heap.size w0 wx → CellsAt wx S ia i (K i)) (hr : RowOk bo s ([.num (lowK Y.kind nm) (szK Y.kind)] ++ catTo f n) a)
    (HK : ∀ i, i < n → ∀ v a s wx, Below w0.heap.size w0 wx → PenAt P ao len cap bo v a s wx → RowOk bo s (f i) a → CPut P ao len cap bo v a s (f i) p (K i) wx) :
    Calls Tryz.prog 94 #[.pointer (some ⟨P, 0, none⟩), .int .i64 (t : Nat), .agg #[.int .i64 kd, .int .u64 nm, .string tx, .slice ia n cp]] w (PenTo P ao len cap bo v (endR ([.num (lowK Y.kind nm) (szK Y.kind)] ++ catTo f n) a) (bytR ([.num (lowK Y.kind nm) (szK Y.kind)] ++ catTo f n) s) w) := by
  rw [endR_app, bytR_app]
  have r1 := RowOk.fst hr
  have r2 := RowOk.snd hr
  have hcn : ∀ wx, Below w0.heap.size w0 wx → PenAt P ao len cap bo v a s wx → Calls Tryz.prog 95 #[.pointer (some ⟨P, 0, none⟩), .int .i64 (q : Nat), .agg #[.int .i64 kd, .int .u64 nm, .string tx, .slice ia n cp]] wx (PenTo P ao len cap bo v (endR [.num (lowK Y.kind nm) (szK Y.kind)] a) (bytR [.num (lowK Y.kind nm) (szK Y.kind)] s) wx) :=
    fun wx hbx hpx => cnum_any P ao len cap bo v a s q Y (.node kd nm tx ia n cp K) hlen hq hnm wx hpx (HTg.held hbx) r1
  obtain ⟨a1, ha1⟩ : ∃ a1, endR [.num (lowK Y.kind nm) (szK Y.kind)] a = a1 := ⟨_, rfl⟩
  obtain ⟨s1, hs1⟩ : ∃ s1, bytR [.num (lowK Y.kind nm) (szK Y.kind)] s = s1 := ⟨_, rfl⟩
  rw [ha1, hs1] at hcn r2 ⊢
  have hbt : 0 < n → ∀ wx, Below w0.heap.size w0 wx → Calls Tryz.prog 140 #[typV X, .int .u64 nm] wx fun e w' => e = .returned (.int .i64 (p : Nat)) ∧ Below wx.heap.size wx w' := fun hn0 wx hbx => by
    have hxx := HT.held hbx
    obtain ⟨_, _, _, _, _, _, _, _, _, _, hi⟩ := hxx
    have := btype_any X nm wx hi h14 hrl (hbz hn0)
    rw [hpt.resolve_right (by omega)] at this
    exact this
  obtain ⟨tb, toff, rfl, c0, c1, c2, c3, c4, c5, wf, _⟩ := HT
  rw [htag] at c4
  unfold typV at hbt
  rw [htag] at hbt
  have hB := (Below.refl w.heap.size w).alloc (Nat.le_refl _) (.cells #[.int .i64 kd, .int .u64 nm, .string tx, .slice ia n cp] 28)
  have HH := Lib.hid h
  have HP := Lib.hid (h.step hB)
  have HBW := Lib.hid (below_step8' (w := w0) (a := w) hb (hB))
  have HB := Lib.hid hB
  have HG := Lib.hid (alloc_at w (.cells #[.int .i64 kd, .int .u64 nm, .string tx, .slice ia n cp] 28))
  have HC := Lib.hid HC
  have HK := Lib.hid HK
  have HR := Lib.hid r2
  have HNC := Lib.hid hcn
  have HBT := Lib.hid hbt
  have C0 := Lib.hid c0
  have C1 := Lib.hid c1
  have C2 := Lib.hid c2
  have C3 := Lib.hid c3
  have C4 := Lib.hid c4
  have C5 := Lib.hid c5
  have hgw : w.heap.size < (w.alloc (.cells #[.int .i64 kd, .int .u64 nm, .string tx, .slice ia n cp] 28)).heap.size := by simp
  have HGW := Lib.hid hgw
  clear h hb hB hr c0 c1 c2 c3 c4 c5 wf r1 r2 hcn hbt hbz hpt hrl h14 htag ha1 hs1 HTg hnm hgw
  go_enter Tryz.func94, Tryz.ntmps94
  go_upto_region 1 with (fail)
  generalize hwa : w.alloc (.cells #[.int .i64 kd, .int .u64 nm, .string tx, .slice ia n cp] 28) = wa at *
  have p0 : wa.cell? ⟨P, 0, none⟩ = some (.slice (some ⟨tb, toff, none⟩) len cap) := cell_at (j := 0) HP.out.1 rfl
  have k4 : wa.cell? ⟨tb, toff + t * 6 + 4, none⟩ = some (.int .i64 (q : Nat)) := keep HBW.out C4.out
  have e0 : wa.cell? ⟨w.heap.size, 0, none⟩ = some (.int .i64 kd) := cell_at HG.out rfl
  have e1 : wa.cell? ⟨w.heap.size, 1, none⟩ = some (.int .u64 nm) := cell_at HG.out rfl
  have e2 : wa.cell? ⟨w.heap.size, 2, none⟩ = some (.string tx) := cell_at HG.out rfl
  have e3 : wa.cell? ⟨w.heap.size, 3, none⟩ = some (.slice ia n cp) := cell_at HG.out rfl
  clear hwa
  go_region_held3 (fun w' => w'.cell? ⟨P, 0, none⟩ = some (.slice (some ⟨tb, toff, none⟩) len cap) ∧ w'.cell? ⟨tb, toff + t * 6 + 4, none⟩ = some (.int .i64 (q : Nat)) ∧ w'.cell? ⟨w.heap.size, 0, none⟩ = some (.int .i64 kd) ∧ w'.cell? ⟨w.heap.size, 1, none⟩ = some (.int .u64 nm) ∧ w'.cell? ⟨w.heap.size, 2, none⟩ = some (.string tx) ∧ w'.cell? ⟨w.heap.size, 3, none⟩ = some (.slice ia n cp))
    (first | exact ⟨p0, k4, e0, e1, e2, e3⟩ | fail)
    (first | (go_at_call 95; refine (HNC.out _ (by first | exact HBW.out | exact HBW.out.drew) (by first | exact HP.out | exact HP.out.step (Below.refl _ _).drew)).mono ?_; rintro e w1 ⟨rfl, hn1⟩; have HN1 := Lib.hid (hn1.from (w := wa) (by first | exact Below.refl _ _ | exact (Below.refl _ _).drew)); have hbx := box_at HH.out (by exact HG.out) hn1; have p0 := hn1.cell0; have HW1 := Lib.hid (PenNow.below HBW.out HP.out hu HN1.out); have k4 := keep HW1.out C4.out; have e0 : w1.cell? ⟨w.heap.size, 0, none⟩ = some (.int .i64 kd) := cell_at hbx rfl; have e1 : w1.cell? ⟨w.heap.size, 1, none⟩ = some (.int .u64 nm) := cell_at hbx rfl; have e2 : w1.cell? ⟨w.heap.size, 2, none⟩ = some (.string tx) := cell_at hbx rfl; have e3 : w1.cell? ⟨w.heap.size, 3, none⟩ = some (.slice ia n cp) := cell_at hbx rfl; have HBX := Lib.hid hbx; clear hn1 hbx))
  obtain ⟨v1, q1, o1, f1⟩ := HN1.out
  have HQ1 := Lib.hid q1
  have HO1 := Lib.hid o1
  have HF1 := Lib.hid f1
  have HNF := Lib.hid (foot_not (v1 := v1) (g := w.heap.size) HGW.out (fun hk => Nat.lt_irrefl _ (HH.out.lt hk)) f1)
  clear q1 o1 f1
  go_wp2
  go_loopw [22] (fun i wr => ∃ j : Nat, j ≤ n ∧ i = .int .i64 j ∧ Hid (PenNow P (some ⟨tb, toff, none⟩) len cap bo v1 (endR (catTo f j) a1) (bytR (catTo f j) s1) w1 wr)) (fun i _ => n - (intOf i).toNat)
  case atStart => exact ⟨0, Nat.zero_le _, rfl, Lib.hid (by first | exact PenNow.refl HQ1.out | exact (PenNow.refl HQ1.out).drew)⟩
  case round =>
    obtain ⟨j, hj, rfl, HN⟩ := hrel
    by_cases hlt : j < n
    · have HW := Lib.hid (PenNow.below HW1.out HQ1.out hu HN.out)
      obtain ⟨b, off, rfl, _, _, c0, c1, c2, c3⟩ := HC.out j hlt wr HW.out
      obtain ⟨v2, q2, o2, f2⟩ := HN.out
      have hk := fun wx hbx hpx => HK.out j hlt v2 _ _ wx hbx hpx (HR.out.kid hlt)
      have HBT := Lib.hid (HBT.out (by omega))
      obtain ⟨M, hM⟩ : ∃ M, K j = M := ⟨_, rfl⟩
      rw [hM] at hk c0 c1 c2 c3
      unfold CPut at hk
      have hbr := o2.same HBX.out HNF.out
      have hA := (Below.refl wr.heap.size wr).alloc (Nat.le_refl _) (.cells #[.int .i64 M.kind, .int .u64 M.num, .string M.text, .slice M.ia M.len M.cap] 28)
      have HQ := Lib.hid (alloc_at wr (.cells #[.int .i64 M.kind, .int .u64 M.num, .string M.text, .slice M.ia M.len M.cap] 28))
      have HG2 := Lib.hid (alloc_old (o := (.cells #[.int .i64 M.kind, .int .u64 M.num, .string M.text, .slice M.ia M.len M.cap] 28)) hbr)
      have HNF2 := Lib.hid (foot_not (v1 := v2) (g := w.heap.size) (lt_of_block HBX.out) HNF.out f2)
      have HA := Lib.hid hA
      have HX := Lib.hid (q2.step hA)
      have HY := Lib.hid (below_step8' (w := w0) HW.out hA)
      have Q1 := Lib.hid q2
      have F1 := Lib.hid f2
      have HD := Lib.hid hk
      clear hk hM hA q2 f2 HN hbr p0 k4 e0 e1 e2 e3
      go_upto_region 5 with (fail)
      clear c0 c1 c2 c3
      generalize wr.alloc (.cells #[.int .i64 M.kind, .int .u64 M.num, .string M.text, .slice M.ia M.len M.cap] 28) = wb at *
      have p0 : wb.cell? ⟨P, 0, none⟩ = some (.slice (some ⟨tb, toff, none⟩) len cap) := cell_at (j := 0) HX.out.1 rfl
      have k0 : wb.cell? ⟨tb, toff + t * 6, none⟩ = some (.int .i64 X.kind) := keep HY.out C0.out
      have k1 : wb.cell? ⟨tb, toff + t * 6 + 1, none⟩ = some (.string X.name) := keep HY.out C1.out
      have k2 : wb.cell? ⟨tb, toff + t * 6 + 2, none⟩ = some (.int .i64 X.bound) := keep HY.out C2.out
      have k3 : wb.cell? ⟨tb, toff + t * 6 + 3, none⟩ = some (.int .i64 X.of) := keep HY.out C3.out
      have k4 : wb.cell? ⟨tb, toff + t * 6 + 4, none⟩ = some (.int .i64 (q : Nat)) := keep HY.out C4.out
      have k5 : wb.cell? ⟨tb, toff + t * 6 + 5, none⟩ = some (.slice X.ia X.ilen X.icap) := keep HY.out C5.out
      have e1 : wb.cell? ⟨w.heap.size, 1, none⟩ = some (.int .u64 nm) := cell_at HG2.out rfl
      have d0 : wb.cell? ⟨wr.heap.size, 0, none⟩ = some (.int .i64 M.kind) := cell_at HQ.out rfl
      have d1 : wb.cell? ⟨wr.heap.size, 1, none⟩ = some (.int .u64 M.num) := cell_at HQ.out rfl
      have d2 : wb.cell? ⟨wr.heap.size, 2, none⟩ = some (.string M.text) := cell_at HQ.out rfl
      have d3 : wb.cell? ⟨wr.heap.size, 3, none⟩ = some (.slice M.ia M.len M.cap) := cell_at HQ.out rfl
      go_region_held3 (fun w' => w'.cell? ⟨P, 0, none⟩ = some (.slice (some ⟨tb, toff, none⟩) len cap) ∧ w'.cell? ⟨tb, toff + t * 6, none⟩ = some (.int .i64 X.kind) ∧ w'.cell? ⟨tb, toff + t * 6 + 1, none⟩ = some (.string X.name) ∧ w'.cell? ⟨tb, toff + t * 6 + 2, none⟩ = some (.int .i64 X.bound) ∧ w'.cell? ⟨tb, toff + t * 6 + 3, none⟩ = some (.int .i64 X.of) ∧ w'.cell? ⟨tb, toff + t * 6 + 4, none⟩ = some (.int .i64 (q : Nat)) ∧ w'.cell? ⟨tb, toff + t * 6 + 5, none⟩ = some (.slice X.ia X.ilen X.icap) ∧ w'.cell? ⟨w.heap.size, 1, none⟩ = some (.int .u64 nm) ∧ w'.cell? ⟨wr.heap.size, 0, none⟩ = some (.int .i64 M.kind) ∧ w'.cell? ⟨wr.heap.size, 1, none⟩ = some (.int .u64 M.num) ∧ w'.cell? ⟨wr.heap.size, 2, none⟩ = some (.string M.text) ∧ w'.cell? ⟨wr.heap.size, 3, none⟩ = some (.slice M.ia M.len M.cap))
        (first | exact ⟨p0, k0, k1, k2, k3, k4, k5, e1, d0, d1, d2, d3⟩ | fail)
        (first
          | (go_at_call 140; refine (HBT.out _ (by first | exact HY.out | exact HY.out.drew)).mono ?_; rintro e w2 ⟨rfl, hb2⟩; have HX := Lib.hid (PenAt.step (by first | exact HX.out | exact HX.out.step (Below.refl _ _).drew) hb2); have HA := Lib.hid (below_step8' (w := wr) (by first | exact HA.out | exact HA.out.drew) hb2); have HY := Lib.hid (below_step8' (w := w0) (by first | exact HY.out | exact HY.out.drew) hb2); have HQ := Lib.hid (box_keep (by exact HQ.out) hb2); have HG2 := Lib.hid (box_keep (by exact HG2.out) hb2); have p0 := keep hb2 (by exact p0); have k0 := keep hb2 (by exact k0); have k1 := keep hb2 (by exact k1); have k2 := keep hb2 (by exact k2); have k3 := keep hb2 (by exact k3); have k4 := keep hb2 (by exact k4); have k5 := keep hb2 (by exact k5); have e1 := keep hb2 (by exact e1); have d0 := keep hb2 (by exact d0); have d1 := keep hb2 (by exact d1); have d2 := keep hb2 (by exact d2); have d3 := keep hb2 (by exact d3); clear hb2)
          | (go_at_call 31; refine (HD.out _ (by first | exact HY.out | exact HY.out.drew) (by first | exact HX.out | exact HX.out.step (Below.refl _ _).drew)).mono ?_; rintro e w3 ⟨rfl, hn3⟩; have HN3 := Lib.hid (hn3.from (w := wr) (by first | exact HA.out | exact HA.out.drew)); have hbx := box_at Q1.out (by exact HQ.out) hn3; have hgx := PenNow.other hn3 (by exact HG2.out) HNF2.out; have p0 := hn3.cell0; have HY3 := Lib.hid (PenNow.below HW.out Q1.out hu HN3.out); have k0 : w3.cell? ⟨tb, toff + t * 6, none⟩ = some (.int .i64 X.kind) := keep HY3.out C0.out; have k1 : w3.cell? ⟨tb, toff + t * 6 + 1, none⟩ = some (.string X.name) := keep HY3.out C1.out; have k2 : w3.cell? ⟨tb, toff + t * 6 + 2, none⟩ = some (.int .i64 X.bound) := keep HY3.out C2.out; have k3 : w3.cell? ⟨tb, toff + t * 6 + 3, none⟩ = some (.int .i64 X.of) := keep HY3.out C3.out; have k4 : w3.cell? ⟨tb, toff + t * 6 + 4, none⟩ = some (.int .i64 (q : Nat)) := keep HY3.out C4.out; have k5 : w3.cell? ⟨tb, toff + t * 6 + 5, none⟩ = some (.slice X.ia X.ilen X.icap) := keep HY3.out C5.out; have e1 : w3.cell? ⟨w.heap.size, 1, none⟩ = some (.int .u64 nm) := cell_at hgx rfl; have d0 : w3.cell? ⟨wr.heap.size, 0, none⟩ = some (.int .i64 M.kind) := cell_at hbx rfl; have d1 : w3.cell? ⟨wr.heap.size, 1, none⟩ = some (.int .u64 M.num) := cell_at hbx rfl; have d2 : w3.cell? ⟨wr.heap.size, 2, none⟩ = some (.string M.text) := cell_at hbx rfl; have d3 : w3.cell? ⟨wr.heap.size, 3, none⟩ = some (.slice M.ia M.len M.cap) := cell_at hbx rfl; clear hn3 hbx hgx))
      go_wp2
      go_roundw
      case rel => exact ⟨j + 1, by omega, by go_num, Lib.hid (PenNow.snoc o2 F1.out (by first | exact HN3.out | exact HN3.out.drew))⟩
      case measure => simp [intOf]; omega
    · obtain rfl : j = n := by omega
      go_wp2
      go_returns
      exact ⟨rfl, (PenNow.trans HO1.out HF1.out HN.out).from HB.out⟩
set_option maxHeartbeats 4000000 in
theorem cseq_any (P : Nat) (ao : Option Addr) (len cap : Nat) (bo : Option Nat) (v : Value) (a : Nat) (s : ByteArray) (t : Nat) (X : TypeV) (kd nm : Int) (tx : ByteArray) (ia : Option Addr) (n cp : Nat) (K : Nat → VT) (S : Nat → Prop) (f : Nat → List RPart) (p : Nat)
    (hlen : len ≤ 1000000) (ht : t < len) (hof : X.of = (p : Nat)) (hn : n ≤ 2513169434843) (w0 w : World) (hb : Below w0.heap.size w0 w) (hu : PenUp w0.heap.size P bo) (h : PenAt P ao len cap bo v a s w) (HT : TypeAt w0 ao t X)
    (HC : ∀ i, i < n → ∀ wx, Below w0.heap.size w0 wx → CellsAt wx S ia i (K i)) (hr : RowOk bo s ([.num (n : Nat) 4] ++ catTo f n) a)
    (HK : ∀ i, i < n → ∀ v a s wx, Below w0.heap.size w0 wx → PenAt P ao len cap bo v a s wx → RowOk bo s (f i) a → CPut P ao len cap bo v a s (f i) p (K i) wx) :
    Calls Tryz.prog 91 #[.pointer (some ⟨P, 0, none⟩), .int .i64 (t : Nat), .agg #[.int .i64 kd, .int .u64 nm, .string tx, .slice ia n cp]] w (PenTo P ao len cap bo v (endR ([.num (n : Nat) 4] ++ catTo f n) a) (bytR ([.num (n : Nat) 4] ++ catTo f n) s) w) := by
  rw [endR_app, bytR_app]
  have r1 := RowOk.fst hr
  have r2 := RowOk.snd hr
  have hcn : ∀ wx, PenAt P ao len cap bo v a s wx → Calls Tryz.prog 138 #[.pointer (some ⟨P, 0, none⟩), .int .u64 (n : Nat), .int .i64 4] wx (PenTo P ao len cap bo v (endR [.num (n : Nat) 4] a) (bytR [.num (n : Nat) 4] s) wx) := fun wx hpx => pnum_any P ao len cap bo v a s (n : Nat) 4 wx hpx r1
  obtain ⟨a1, ha1⟩ : ∃ a1, endR [.num (n : Nat) 4] a = a1 := ⟨_, rfl⟩
  obtain ⟨s1, hs1⟩ : ∃ s1, bytR [.num (n : Nat) 4] s = s1 := ⟨_, rfl⟩
  rw [ha1, hs1] at hcn r2 ⊢
  have hel := fun v1 w1 hbx hpx => celem_any P ao len cap bo v1 a1 s1 t X kd nm tx ia n cp K S f p hlen ht hof hn w0 w1 hbx hu hpx HT HC r2 HK
  have hB := (Below.refl w.heap.size w).alloc (Nat.le_refl _) (.cells #[.int .i64 kd, .int .u64 nm, .string tx, .slice ia n cp] 28)
  have HH := Lib.hid h
  have HP := Lib.hid (h.step hB)
  have HBW := Lib.hid (below_step8' (w := w0) (a := w) hb (hB))
  have HB := Lib.hid hB
  have HN := Lib.hid hcn
  have HE := Lib.hid hel
  have hun : IntKind.u64.wrap (n : Nat) = (n : Nat) := IntWalk.u64_in _ (by omega)
  clear h hb hB hr r1 r2 hcn hel ha1 hs1 HT HC HK hof
  go_enter Tryz.func91, Tryz.ntmps91
  go_wp2_with (first
    | (go_at_call 138; refine (HN.out _ HP.out).mono ?_; rintro e w1 ⟨rfl, hn1⟩; have hbx := box_now HH.out hn1; have HW1 := Lib.hid (PenNow.below HBW.out HP.out hu hn1); have e0 : w1.cell? ⟨w.heap.size, 0, none⟩ = some (.int .i64 kd) := cell_at hbx rfl; have e1 : w1.cell? ⟨w.heap.size, 1, none⟩ = some (.int .u64 nm) := cell_at hbx rfl; have e2 : w1.cell? ⟨w.heap.size, 2, none⟩ = some (.string tx) := cell_at hbx rfl; have e3 : w1.cell? ⟨w.heap.size, 3, none⟩ = some (.slice ia n cp) := cell_at hbx rfl; obtain ⟨v1, q1, o1, f1⟩ := hn1; have Q1 := Lib.hid q1; have F1 := Lib.hid f1; clear q1 f1 hbx)
    | (go_at_call 92; refine (HE.out _ _ HW1.out Q1.out).mono ?_; rintro e w2 ⟨rfl, hn2⟩))
  go_returns
  exact ⟨rfl, (PenNow.trans o1 F1.out hn2).from HB.out⟩
set_option maxHeartbeats 4000000 in
/-- value: the encoding of the type's kind is called -/
theorem cvalue_any (P : Nat) (ao : Option Addr) (len cap : Nat) (bo : Option Nat) (v : Value) (a : Nat) (s : ByteArray) (t : Nat) (X : TypeV) (M : VT) (r : List RPart) (hlen : len ≤ 1000000) (ht : t < len) (w0 w : World) (hb : Below w0.heap.size w0 w) (hu : PenUp w0.heap.size P bo) (h : PenAt P ao len cap bo v a s w) (HT : TypeAt w0 ao t X)
    (HE : ∀ wx, Below w0.heap.size w0 wx → PenAt P ao len cap bo v a s wx → Calls Tryz.prog (encN X.kind) #[.pointer (some ⟨P, 0, none⟩), .int .i64 (t : Nat), .agg #[.int .i64 M.kind, .int .u64 M.num, .string M.text, .slice M.ia M.len M.cap]] wx (PenTo P ao len cap bo v (endR r a) (bytR r s) wx)) :
    CPut P ao len cap bo v a s r t M w := by
  unfold CPut
  obtain ⟨tb, toff, rfl, c0, _, _, _, _, _, wf, _⟩ := HT
  have heg := eEnc X.kind
  have henc := fun w => enc_any X.kind w
  obtain ⟨k, hk⟩ : ∃ k, X.kind = k := ⟨_, rfl⟩
  rw [hk] at c0 heg henc HE
  obtain ⟨g, hg⟩ : ∃ g, encN k = g := ⟨_, rfl⟩
  rw [hg] at heg henc HE
  have hA := (Below.refl w.heap.size w).alloc (Nat.le_refl _) (.cells #[.int .i64 M.kind, .int .u64 M.num, .string M.text, .slice M.ia M.len M.cap] 28)
  have HH := Lib.hid h
  have HP := Lib.hid (h.step hA)
  have HY := Lib.hid (below_step8' (w := w0) (a := w) hb hA)
  have HA := Lib.hid hA
  have HQ := Lib.hid (alloc_at w (.cells #[.int .i64 M.kind, .int .u64 M.num, .string M.text, .slice M.ia M.len M.cap] 28))
  have HD := Lib.hid HE
  have HN := Lib.hid henc
  have C0 := Lib.hid c0
  unfold Enters at heg
  clear HE henc h hb hA c0 hk hg wf
  go_enter Tryz.func31, Tryz.ntmps31
  go_upto_region 1 with (fail)
  generalize w.alloc (.cells #[.int .i64 M.kind, .int .u64 M.num, .string M.text, .slice M.ia M.len M.cap] 28) = wb at *
  have p0 : wb.cell? ⟨P, 0, none⟩ = some (.slice (some ⟨tb, toff, none⟩) len cap) := cell_at (j := 0) HP.out.1 rfl
  have k0 : wb.cell? ⟨tb, toff + t * 6, none⟩ = some (.int .i64 k) := keep HY.out C0.out
  have d0 : wb.cell? ⟨w.heap.size, 0, none⟩ = some (.int .i64 M.kind) := cell_at HQ.out rfl
  have d1 : wb.cell? ⟨w.heap.size, 1, none⟩ = some (.int .u64 M.num) := cell_at HQ.out rfl
  have d2 : wb.cell? ⟨w.heap.size, 2, none⟩ = some (.string M.text) := cell_at HQ.out rfl
  have d3 : wb.cell? ⟨w.heap.size, 3, none⟩ = some (.slice M.ia M.len M.cap) := cell_at HQ.out rfl
  go_region_held3 (fun w' => w'.cell? ⟨P, 0, none⟩ = some (.slice (some ⟨tb, toff, none⟩) len cap) ∧ w'.cell? ⟨tb, toff + t * 6, none⟩ = some (.int .i64 k) ∧ w'.cell? ⟨w.heap.size, 0, none⟩ = some (.int .i64 M.kind) ∧ w'.cell? ⟨w.heap.size, 1, none⟩ = some (.int .u64 M.num) ∧ w'.cell? ⟨w.heap.size, 2, none⟩ = some (.string M.text) ∧ w'.cell? ⟨w.heap.size, 3, none⟩ = some (.slice M.ia M.len M.cap))
    (first | exact ⟨p0, k0, d0, d1, d2, d3⟩ | fail)
    (first
      | (go_at_call 51; refine (HN.out _).mono ?_; rintro e w2 ⟨rfl, rfl⟩)
      | (go_at_fn g; refine (HD.out _ (by first | exact HY.out | exact HY.out.drew) (by first | exact HP.out | exact HP.out.step (Below.refl _ _).drew)).mono ?_; rintro e w3 ⟨rfl, hn3⟩; have HN3 := Lib.hid (hn3.from (w := w) (by first | exact HA.out | exact HA.out.drew)); have hbx := box_at HH.out (by exact HQ.out) hn3; have p0 := hn3.cell0; have k0 := keep (PenNow.below HY.out HP.out hu (hn3.from (w := wb) (by first | exact Below.refl _ _ | exact (Below.refl _ _).drew))) C0.out; have d0 : w3.cell? ⟨w.heap.size, 0, none⟩ = some (.int .i64 M.kind) := cell_at hbx rfl; have d1 : w3.cell? ⟨w.heap.size, 1, none⟩ = some (.int .u64 M.num) := cell_at hbx rfl; have d2 : w3.cell? ⟨w.heap.size, 2, none⟩ = some (.string M.text) := cell_at hbx rfl; have d3 : w3.cell? ⟨w.heap.size, 3, none⟩ = some (.slice M.ia M.len M.cap) := cell_at hbx rfl; clear hn3 hbx))
  go_wp2
  go_returns
  exact ⟨rfl, by first | exact HN3.out | exact HN3.out.drew⟩
end Go.Proofs.YtmnemddagcfjgaaGreatDoor
