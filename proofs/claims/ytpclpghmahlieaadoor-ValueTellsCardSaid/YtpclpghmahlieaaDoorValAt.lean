/- Values as memory holds them: trees; what an argument of the type api.Value leads to. -/
import Derived.Test.YtpclpghmahlieaaDoorValMath
import Derived.Test.YtpclpghmahlieaaDoorRdgSlice
import Derived.Lib.Hide
namespace Go.Proofs.YtpclpghmahlieaaDoor
open Go.ChangeShapes Go.WideShapes Go.ChangeAt Go.RowKit
set_option linter.unusedVariables false
/-- a value by value -/
def valV (T : VT) : Value := .agg #[.int .i64 T.kind, .int .u64 T.num, .string T.text, .slice T.ia T.len T.cap]
def valO (T : VT) : Obj := .cells #[.int .i64 T.kind, .int .u64 T.num, .string T.text, .slice T.ia T.len T.cap] 25
def ValWf (T : VT) : Prop := (Lit.int .i64 T.kind).wf = true ∧ (Lit.int .u64 T.num).wf = true ∧ T.text.size ≤ 140737488351232 ∧ T.len ≤ 2513169434843
/-- an Item's cells, in a block of which S speaks -/
def CellsAt (w : World) (S : Nat → Prop) (ao : Option Addr) (i : Nat) (T : VT) : Prop :=
  ∃ b off, ao = some ⟨b, off, none⟩ ∧ S b ∧ b < w.heap.size ∧ w.cell? ⟨b, off + i * 4, none⟩ = some (.int .i64 T.kind) ∧ w.cell? ⟨b, off + i * 4 + 1, none⟩ = some (.int .u64 T.num) ∧
    w.cell? ⟨b, off + i * 4 + 2, none⟩ = some (.string T.text) ∧ w.cell? ⟨b, off + i * 4 + 3, none⟩ = some (.slice T.ia T.len T.cap)
/-- all that lies within a value lies in blocks of which S speaks -/
def ValAt (w : World) (S : Nat → Prop) : VT → Prop
  | .nil => True
  | .node k n s a l c f => ValWf (.node k n s a l c f) ∧ ∀ i, i < l → CellsAt w S a i (f i) ∧ ValAt w S (f i)
theorem valWf_nil : ValWf .nil := ⟨by kernel_rfl, by kernel_rfl, by decide, by decide⟩
theorem valAt_iff {w : World} {S : Nat → Prop} (T : VT) : ValAt w S T ↔ ValWf T ∧ ∀ i, i < T.len → CellsAt w S T.ia i (T.kid i) ∧ ValAt w S (T.kid i) := by
  cases T with
  | nil => exact ⟨fun _ => ⟨valWf_nil, fun i hi => absurd hi (Nat.not_lt_zero i)⟩, fun _ => trivial⟩
  | node => exact Iff.rfl
theorem cell_same {w w' : World} {a : Addr} (h : w'.heap[a.block]? = w.heap[a.block]?) : w'.cell? a = w.cell? a := by
  unfold World.cell?
  rw [h]
theorem CellsAt.held {w w' : World} {S S' : Nat → Prop} {ao : Option Addr} {i : Nat} {T : VT} (h : CellsAt w S ao i T) (hS : ∀ b, S b → S' b) (hn : w.heap.size ≤ w'.heap.size) (hw : ∀ b, S b → b < w.heap.size → w'.heap[b]? = w.heap[b]?) : CellsAt w' S' ao i T := by
  obtain ⟨b, off, e, hs, hl, h0, h1, h2, h3⟩ := h
  have hb := hw b hs hl
  exact ⟨b, off, e, hS b hs, by omega, (cell_same hb).trans h0, (cell_same hb).trans h1, (cell_same hb).trans h2, (cell_same hb).trans h3⟩
theorem ValAt.held_of {w w' : World} {S S' : Nat → Prop} (hS : ∀ b, S b → S' b) (hn : w.heap.size ≤ w'.heap.size) (hw : ∀ b, S b → b < w.heap.size → w'.heap[b]? = w.heap[b]?) : ∀ T : VT, ValAt w S T → ValAt w' S' T := by
  refine VT.ind fun T ih h => ?_
  obtain ⟨h1, h2⟩ := (valAt_iff T).1 h
  exact (valAt_iff T).2 ⟨h1, fun i hi => ⟨(h2 i hi).1.held hS hn hw, ih i hi (h2 i hi).2⟩⟩
theorem ValAt.held {w w' : World} {S : Nat → Prop} {T : VT} {N : Nat} (h : ValAt w S T) (hb : Below N w w') (hS : ∀ b, S b → b < N) : ValAt w' S T :=
  ValAt.held_of (fun _ s => s) hb.size (fun b s _ => hb.block b (hS b s)) T h
theorem ValAt.next {w w' : World} {S : Nat → Prop} {T : VT} (h : ValAt w S T) (hb : Below w.heap.size w w') : ValAt w' S T :=
  ValAt.held_of (fun _ s => s) hb.size (fun b _ hl => hb.block b hl) T h
theorem CellsAt.next {w w' : World} {S : Nat → Prop} {ao : Option Addr} {i : Nat} {T : VT} (h : CellsAt w S ao i T) (hb : Below w.heap.size w w') : CellsAt w' S ao i T :=
  h.held (fun _ s => s) hb.size (fun b _ hl => hb.block b hl)
theorem ValAt.sub {w : World} {S S' : Nat → Prop} {T : VT} (h : ValAt w S T) (hS : ∀ b, S b → S' b) : ValAt w S' T :=
  ValAt.held_of hS (Nat.le_refl _) (fun _ _ _ => rfl) T h
theorem valAt_wf {w : World} {S : Nat → Prop} : ∀ T : VT, ValAt w S T → T.wfN := by
  refine VT.ind fun T ih h => ?_
  obtain ⟨h1, h2⟩ := (valAt_iff T).1 h
  have := bounds_u64 h1.2.1
  exact (wfN_iff T).2 ⟨by omega, by omega, fun i hi => ih i hi (h2 i hi).2⟩
section
variable {H : Type} {enc : TypeId × Value → H} {P : Program} {w : World}
/-- a reading of at most this depth -/
def RdgF (enc : TypeId × Value → H) (P : Program) (w : World) (fuel : Nat) (t : TypeId) (cs : List Value) : Prop :=
  ∃ (d : DataW H) (p : List MemPlace), DataW.trod enc P w 0 (fun _ => true) true fuel t cs = some (d, p) ∧ ∀ n ∈ d.weights P t, n ≤ reachBytes
theorem RdgF.rdg {fuel : Nat} {t : TypeId} {cs : List Value} (h : RdgF enc P w fuel t cs) : Rdg enc P w t cs := by
  obtain ⟨d, p, h⟩ := h; exact ⟨fuel, d, p, h⟩
theorem rdgF_field {fuel : Nat} {t : TypeId} {fs : Array Field} {cs : List Value} (ht : P.underlying t = some (.struct fs)) (h : RdgF enc P w fuel t cs) (i : Nat) (ty : TypeId) (off n : Nat)
    (hf : fs[i]?.map (fun f => (f.type, f.offset)) = some (ty, off)) (hc : P.cellsOf ty = n) : ∃ m, fuel = m + 1 ∧ RdgF enc P w m ty ((cs.drop off).take n) := by
  obtain ⟨d, p, h, hw⟩ := h
  obtain ⟨xs, m, hfu, hx, _, hl, hfl⟩ := DataW.trod_struct ht h
  obtain ⟨rfl, _⟩ := Prod.mk.inj hx
  cases hq : fs[i]? with
  | none => rw [hq] at hf; cases hf
  | some f =>
    rw [hq] at hf
    simp at hf
    obtain ⟨rfl, rfl⟩ := hf
    subst hc
    have hi : i < xs.length := by
      have := (Array.getElem?_eq_some_iff.1 hq).1
      omega
    refine ⟨m, hfu, xs[i].1, xs[i].2, by rw [hfl i f hq, List.getElem?_eq_getElem hi], fun k hk => hw k ?_⟩
    simp only [DataW.weights, ht]
    refine DataW.weights_mem_each (j := i) (t := f.type) (d := xs[i].1) ?_ ?_ k hk
    · have := Array.getElem?_toList (xs := fs) (i := i)
      rw [List.getElem?_map, this, hq]; rfl
    · rw [List.getElem?_map, List.getElem?_eq_getElem hi]; rfl
theorem rdgF_slice {fuel : Nat} {t e : TypeId} {cs : List Value} (n : Nat) (ht : P.underlying t = some (.slice e)) (hc : P.cellsOf e = n) (h : RdgF enc P w fuel t cs) :
    cs = [.slice none 0 0] ∨ ∃ (a : Addr) (len cap m : Nat), fuel = m + 1 ∧ cs = [.slice (some a) len cap] ∧ len ≤ cap ∧ cap * P.bytesOf e ≤ 140737488351232 ∧
      ∀ i, i < len → ∃ c : List Value, w.cells? 0 (a.add (i * n)) n = some c ∧ RdgF enc P w m e c := by
  obtain ⟨d, p, h, hw⟩ := h
  subst hc
  rcases DataW.trod_slice ht h with ⟨h0, _⟩ | ⟨a, len, cap, elems, rest, m, hfu, h1, h2, _, hl, hm, hlen, hel, hsp, _⟩
  · exact .inl h0
  · obtain ⟨hr, hrj⟩ := hsp rfl
    obtain ⟨rfl, _⟩ := Prod.mk.inj h2
    have e0 : reachBytes = 140737488351232 := by decide
    refine .inr ⟨a, len, cap, m, hfu, h1, hl, ?_, ?_⟩
    · have := hw ((elems.length + rest.length) * P.bytesOf e) (by simp [DataW.weights, ht])
      rw [e0, hlen, hr] at this
      rwa [Nat.add_sub_cancel' hl] at this
    · intro i hi
      have hq := hel i hi
      have hi' : i < elems.length := by omega
      rw [List.getElem?_eq_getElem hi'] at hq
      obtain ⟨cs', hcs, hx⟩ := Option.bind_eq_some_iff.1 hq
      refine ⟨cs', hcs, elems[i].1, elems[i].2, hx, fun k hk => hw k ?_⟩
      simp only [DataW.weights, ht, List.mem_cons, List.mem_append]
      exact .inr (.inl (weights_mem_all (j := i) (d := elems[i].1) (by rw [List.getElem?_map, List.getElem?_eq_getElem hi']; rfl) k hk))
end
section
variable {H : Type} {enc : TypeId × Value → H} {w : World}
theorem slice_at' {b' : Nat} {a : Addr} {n len : Nat} {Q : Nat → List Value → Prop} (hn : 0 < n) (hc : 0 < len) (h : ∀ i, i < len → ∃ c : List Value, w.cells? 0 (a.add (i * n)) n = some c ∧ Q i c) :
    ∃ b off, a = ⟨b, off, none⟩ ∧ ∀ i, i < len → ∃ c : List Value, c.length = n ∧ (∀ j, j < n → w.cell? ⟨b, off + i * n + j, none⟩ = c[j]?) ∧ Q i c := by
  have h0 : a = ⟨a.block, a.off, none⟩ := by
    obtain ⟨c, hcc, _⟩ := h 0 hc
    obtain ⟨_, hl, hat⟩ := World.cells?_some hcc
    have h1 := hat 0 hn
    have hl0 : 0 < c.length := by omega
    rw [List.getElem?_eq_getElem hl0, Nat.zero_mul] at h1
    have e2 : (a.add 0).add 0 = a := by unfold Addr.add; simp
    rw [e2] at h1
    exact spot_of_cell h1
  refine ⟨a.block, a.off, h0, fun i hi => ?_⟩
  obtain ⟨c, hcc, hr⟩ := h i hi
  obtain ⟨_, hl, hat⟩ := World.cells?_some hcc
  refine ⟨c, hl, fun j hj => ?_, hr⟩
  have h1 := hat j hj
  rw [Go.Deep.add_add, h0, add_plain, ← Nat.add_assoc] at h1
  exact h1
/-- a reading of a value: a tree -/
theorem tree_of : ∀ (n fuel : Nat) (cs : List Value), fuel ≤ n → cs.length = 4 → RdgF enc Tryd.prog w fuel 25 cs →
    ∃ T : VT, cs = [.int .i64 T.kind, .int .u64 T.num, .string T.text, .slice T.ia T.len T.cap] ∧ ValAt w (· < w.heap.size) T
  | 0, fuel, cs, hn, _, h => by
    obtain ⟨m, hm, _⟩ := rdgF_field Tryd.underlying25 h 0 3 0 1 rfl (by kernel_rfl)
    omega
  | n + 1, fuel, cs, hn, hl, h => by
    obtain ⟨_, _, f0⟩ := rdgF_field Tryd.underlying25 h 0 3 0 1 rfl (by kernel_rfl)
    obtain ⟨_, _, f1⟩ := rdgF_field Tryd.underlying25 h 1 22 1 1 rfl (by kernel_rfl)
    obtain ⟨_, _, f2⟩ := rdgF_field Tryd.underlying25 h 2 9 2 1 rfl (by kernel_rfl)
    obtain ⟨m, hm, f3⟩ := rdgF_field Tryd.underlying25 h 3 23 3 1 rfl (by kernel_rfl)
    obtain ⟨x0, e0, w0⟩ := rdg_int Tryd.underlying3 f0.rdg
    obtain ⟨x1, e1, w1⟩ := rdg_int Tryd.underlying22 f1.rdg
    obtain ⟨x2, e2, w2⟩ := rdg_string Tryd.underlying9 f2.rdg
    match cs, hl with
    | [c0, c1, c2, c3], _ =>
      simp at e0 e1 e2
      subst e0 e1 e2
      have hz : Tryd.prog.bytesOf 25 = 56 := by kernel_rfl
      rcases rdgF_slice 4 Tryd.underlying23 (by kernel_rfl) f3 with e3 | ⟨a, len, cap, m', hm', e3, hlc, hby, hel⟩
      · simp at e3
        subst e3
        exact ⟨.node x0 x1 x2 none 0 0 (fun _ => .nil), rfl, ⟨⟨w0, w1, w2, Nat.zero_le _⟩, fun i hi => absurd hi (Nat.not_lt_zero i)⟩⟩
      · simp at e3
        subst e3
        rw [hz] at hby
        have hq : ∀ i, i < len → ∃ T : VT, CellsAt w (· < w.heap.size) (some a) i T ∧ ValAt w (· < w.heap.size) T := by
          intro i hi
          obtain ⟨b, off, rfl, hc⟩ := slice_at' (b' := 0) (n := 4) (Q := fun _ c => RdgF enc Tryd.prog w m' 25 c) (by omega) (by omega) hel
          obtain ⟨c, hcl, hat, hr⟩ := hc i hi
          obtain ⟨T, rfl, hT⟩ := tree_of n m' c (by omega) hcl hr
          have h0 := hat 0 (by omega); have h1 := hat 1 (by omega); have h2 := hat 2 (by omega); have h3 := hat 3 (by omega)
          exact ⟨T, ⟨b, off, rfl, lt_of_cell h0, lt_of_cell h0, h0, h1, h2, h3⟩, hT⟩
        obtain ⟨L, hL⟩ := skolem hq
        exact ⟨.node x0 x1 x2 (some a) len cap L, rfl, ⟨⟨w0, w1, w2, by show len ≤ _; omega⟩, hL⟩⟩
theorem val_of {cs : Array Value} (hl : cs.size = Tryd.prog.cellsOf 25) (h : Rdg enc Tryd.prog w 25 (Value.agg cs).cells.toList) : ∃ T : VT, Value.agg cs = valV T ∧ ValAt w (· < w.heap.size) T := by
  obtain ⟨fuel, d, p, h1, h2⟩ := h
  have hc : Tryd.prog.cellsOf 25 = 4 := by kernel_rfl
  obtain ⟨T, hT, hv⟩ := tree_of (enc := enc) (w := w) fuel fuel cs.toList (Nat.le_refl _) (by simp; omega) ⟨d, p, by simpa [Value.cells] using h1, h2⟩
  refine ⟨T, ?_, hv⟩
  unfold valV
  congr 1
  exact Array.toList_inj.1 (by simpa using hT)
end
end Go.Proofs.YtpclpghmahlieaaDoor
