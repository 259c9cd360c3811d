/- Readings of arguments, with the form's own reach: what a reading of a type says of the cells (integers, bools, strings, structs, arrays, slices). -/
import Derived.Test.YtohphejhlgnciaaGreatFrame
import Derived.SizedLaws
namespace Go.Proofs.YtohphejhlgnciaaGreat
open Go.ChangeShapes Go.WideShapes Go.ChangeAt Go.RowKit
section
variable {H : Type} (enc : TypeId × Value → H) (P : Program) (w : World)
/-- the cells read as data of the type, each string, slice and map within the reach -/
def Rdg (t : TypeId) (cs : List Value) : Prop :=
  ∃ (fuel : Nat) (d : DataW H) (p : List MemPlace), DataW.trod enc P w 0 (fun _ => true) true fuel t cs = some (d, p) ∧ ∀ n ∈ d.weights P t, n ≤ reachBytes
variable {enc P w}
theorem rdg_all : ∀ (ts : List TypeId) (vs : List Value) (ds : List (DataW H)) (ps : List MemPlace), DataW.TrodAll enc P w 0 (fun _ => true) true ts vs ds ps →
    (∀ n ∈ DataW.weightsEach P ts ds, n ≤ reachBytes) → ∀ (j : Nat) (t : TypeId) (v : Value), ts[j]? = some t → vs[j]? = some v → Rdg enc P w t v.cells.toList
  | [], _, _, _, _, _, _, _, _, ht, _ => by simp at ht
  | t0 :: ts, vs, ds, ps, h, hs, j, t, v, ht, hv => by
    obtain ⟨v0, vs', d, ds', p, q, rfl, rfl, rfl, h1, h2⟩ := trodAll_cons h
    cases j with
    | zero =>
      simp at ht hv
      subst ht hv
      obtain ⟨fuel, hf⟩ := h1
      exact ⟨fuel, d, p, hf, fun n hn => hs n (by simp only [DataW.weightsEach, List.mem_append]; exact .inl hn)⟩
    | succ j =>
      exact rdg_all ts vs' ds' q h2 (fun n hn => hs n (by simp only [DataW.weightsEach, List.mem_append]; exact .inr hn)) j t v (by simpa using ht) (by simpa using hv)
theorem rdg_int {t : TypeId} {k : IntKind} {cs : List Value} (ht : P.underlying t = some (.int k)) (h : Rdg enc P w t cs) : ∃ n, cs = [.int k n] ∧ (Lit.int k n).wf = true := by
  obtain ⟨_, _, _, hf, _⟩ := h
  obtain ⟨n, h1, _, h2⟩ := DataW.trod_int ht hf
  exact ⟨n, h1, h2⟩
theorem rdg_bool {t : TypeId} {cs : List Value} (ht : P.underlying t = some .bool) (h : Rdg enc P w t cs) : ∃ b, cs = [.bool b] := by
  obtain ⟨_, _, _, hf, _⟩ := h
  obtain ⟨b, h1, _⟩ := DataW.trod_bool ht hf
  exact ⟨b, h1⟩
theorem rdg_string {t : TypeId} {cs : List Value} (ht : P.underlying t = some .string) (h : Rdg enc P w t cs) : ∃ s : ByteArray, cs = [.string s] ∧ s.size ≤ 140737488351232 := by
  obtain ⟨_, d, p, hf, hw⟩ := h
  obtain ⟨s, h1, h2, _⟩ := DataW.trod_string ht hf
  refine ⟨s, h1, ?_⟩
  obtain ⟨rfl, _⟩ := Prod.mk.inj h2
  have := hw s.data.toList.length (by simp [DataW.weights])
  have e : reachBytes = 140737488351232 := by decide
  rw [e] at this
  simpa using this
theorem rdg_struct_len {t : TypeId} {fs : Array Field} {cs : List Value} (ht : P.underlying t = some (.struct fs)) (h : Rdg enc P w t cs) : cs.length = P.cellsOf t := by
  obtain ⟨_, _, _, hf, _⟩ := h
  obtain ⟨_, _, _, _, hl, _⟩ := DataW.trod_struct ht hf
  exact hl
theorem rdg_array_len {t e : TypeId} {k : Nat} {cs : List Value} (ht : P.underlying t = some (.array k e)) (h : Rdg enc P w t cs) : cs.length = P.cellsOf t := by
  obtain ⟨_, _, _, hf, _⟩ := h
  obtain ⟨_, _, _, _, hl, _⟩ := DataW.trod_array ht hf
  exact hl
theorem rdg_field {t : TypeId} {fs : Array Field} {cs : List Value} (ht : P.underlying t = some (.struct fs)) (h : Rdg enc P w t cs)
    (i : Nat) (ty : TypeId) (off n : Nat) (hf : fs[i]?.map (fun f => (f.type, f.offset)) = some (ty, off)) (hc : P.cellsOf ty = n) : Rdg enc P w ty ((cs.drop off).take n) := by
  obtain ⟨fuel, d, p, h, hw⟩ := h
  obtain ⟨xs, m, _, hx, _, hl, hfl⟩ := DataW.trod_struct ht h
  obtain ⟨rfl, _⟩ := Prod.mk.inj hx
  cases hq : fs[i]? with
  | none => rw [hq] at hf; cases hf
  | some f =>
    rw [hq] at hf
    simp at hf
    obtain ⟨rfl, rfl⟩ := hf
    subst hc
    have hi : i < xs.length := by
      have := (Array.getElem?_eq_some_iff.1 hq).1
      omega
    refine ⟨m, xs[i].1, xs[i].2, by rw [hfl i f hq, List.getElem?_eq_getElem hi], fun k hk => hw k ?_⟩
    simp only [DataW.weights, ht]
    refine DataW.weights_mem_each (j := i) (t := f.type) (d := xs[i].1) ?_ ?_ k hk
    · have := Array.getElem?_toList (xs := fs) (i := i)
      rw [List.getElem?_map, this, hq]; rfl
    · rw [List.getElem?_map, List.getElem?_eq_getElem hi]; rfl
theorem weights_mem_all {e : TypeId} : ∀ {ds : List (DataW H)} {j : Nat} {d : DataW H}, ds[j]? = some d → ∀ n ∈ d.weights P e, n ∈ DataW.weightsAll P e ds
  | d0 :: ds, 0, d, hd, n, hn => by
    simp only [List.getElem?_cons_zero, Option.some.injEq] at hd
    subst hd
    simp only [DataW.weightsAll, List.mem_append]
    exact .inl hn
  | d0 :: ds, j + 1, d, hd, n, hn => by
    simp only [List.getElem?_cons_succ] at hd
    simp only [DataW.weightsAll, List.mem_append]
    exact .inr (weights_mem_all hd n hn)
  | [], _, _, hd, _, _ => by simp at hd
theorem rdg_elem {t e : TypeId} {k : Nat} {cs : List Value} (ht : P.underlying t = some (.array k e)) (h : Rdg enc P w t cs) (i n : Nat) (hi : i < k) (hc : P.cellsOf e = n) : Rdg enc P w e ((cs.drop (i * n)).take n) := by
  obtain ⟨fuel, d, p, h, hw⟩ := h
  obtain ⟨xs, m, _, hx, _, hl, hfl⟩ := DataW.trod_array ht h
  obtain ⟨rfl, _⟩ := Prod.mk.inj hx
  subst hc
  have hi' : i < xs.length := by omega
  refine ⟨m, xs[i].1, xs[i].2, by rw [hfl i hi, List.getElem?_eq_getElem hi'], fun k hk => hw k ?_⟩
  simp only [DataW.weights, ht]
  refine weights_mem_all (j := i) (d := xs[i].1) ?_ k hk
  rw [List.getElem?_map, List.getElem?_eq_getElem hi']; rfl
/-- a slice: nil, or elements up to the capacity, each of whose cells read as the element's type -/
theorem rdg_slice {t e : TypeId} {cs : List Value} (n : Nat) (ht : P.underlying t = some (.slice e)) (hc : P.cellsOf e = n) (h : Rdg enc P w t cs) :
    cs = [.slice none 0 0] ∨ ∃ (a : Addr) (len cap : Nat), cs = [.slice (some a) len cap] ∧ len ≤ cap ∧ cap ≤ maxLen ∧ cap * P.bytesOf e ≤ 140737488351232 ∧
      ∀ i, i < cap → ∃ c : List Value, w.cells? 0 (a.add (i * n)) n = some c ∧ Rdg enc P w e c := by
  obtain ⟨fuel, d, p, h, hw⟩ := h
  subst hc
  rcases DataW.trod_slice ht h with ⟨h0, _⟩ | ⟨a, len, cap, elems, rest, m, _, h1, h2, _, hl, hm, hlen, hel, hsp, _⟩
  · exact .inl h0
  · obtain ⟨hr, hrj⟩ := hsp rfl
    obtain ⟨rfl, _⟩ := Prod.mk.inj h2
    have e0 : reachBytes = 140737488351232 := by decide
    refine .inr ⟨a, len, cap, h1, hl, hm, ?_, ?_⟩
    · have := hw ((elems.length + rest.length) * P.bytesOf e) (by simp [DataW.weights, ht])
      rw [e0, hlen, hr] at this
      rwa [Nat.add_sub_cancel' hl] at this
    · intro i hi
      by_cases c : i < len
      · have hq := hel i c
        have hi' : i < elems.length := by omega
        rw [List.getElem?_eq_getElem hi'] at hq
        obtain ⟨cs', hcs, hx⟩ := Option.bind_eq_some_iff.1 hq
        refine ⟨cs', hcs, m, elems[i].1, elems[i].2, hx, fun k hk => hw k ?_⟩
        simp only [DataW.weights, ht, List.mem_cons, List.mem_append]
        exact .inr (.inl (weights_mem_all (j := i) (d := elems[i].1) (by rw [List.getElem?_map, List.getElem?_eq_getElem hi']; rfl) k hk))
      · have hq := hrj (i - len) (by omega)
        rw [show len + (i - len) = i by omega] at hq
        have hi' : i - len < rest.length := by omega
        rw [List.getElem?_eq_getElem hi'] at hq
        obtain ⟨cs', hcs, hx⟩ := Option.bind_eq_some_iff.1 hq
        refine ⟨cs', hcs, m, rest[i - len].1, rest[i - len].2, hx, fun k hk => hw k ?_⟩
        simp only [DataW.weights, ht, List.mem_cons, List.mem_append]
        exact .inr (.inr (weights_mem_all (j := i - len) (d := rest[i - len].1) (by rw [List.getElem?_map, List.getElem?_eq_getElem hi']; rfl) k hk))
end
section
variable {P : Program} {w : World} {r : Reach} {b0 : Nat}
/-- the value of a struct or an array is its cells -/
theorem ok_agg {t : TypeId} {v : Value} (ht : (∃ fs, P.underlying t = some (.struct fs)) ∨ ∃ n e, P.underlying t = some (.array n e)) (hv : Value.okWide P w r b0 t v) : ∃ cs : Array Value, v = .agg cs ∧ cs.size = P.cellsOf t := by
  rcases ht with ⟨fs, ht⟩ | ⟨n, e, ht⟩
  · exact okWide_struct ht hv
  · simp only [Value.okWide, ht] at hv
    obtain ⟨cs, h1, h2, _⟩ := hv
    exact ⟨cs, h1, h2⟩
variable {H : Type} {enc : TypeId × Value → H}
theorem rop_int {t : TypeId} {k : IntKind} {v : Value} (ht : P.underlying t = some (.int k)) (hv : Value.okWide P w r b0 t v) (h : Rdg enc P w t v.cells.toList) : ∃ n, v = .int k n ∧ (Lit.int k n).wf = true := by
  obtain ⟨n, rfl⟩ := okWide_int ht hv
  obtain ⟨n', e, hw⟩ := rdg_int ht h
  simp [Value.cells] at e
  exact ⟨n, rfl, e ▸ hw⟩
theorem rop_bool {t : TypeId} {v : Value} (ht : P.underlying t = some .bool) (hv : Value.okWide P w r b0 t v) (_ : Rdg enc P w t v.cells.toList) : ∃ b, v = .bool b :=
  okWide_bool ht hv
theorem rop_string {t : TypeId} {v : Value} (ht : P.underlying t = some .string) (hv : Value.okWide P w r b0 t v) (h : Rdg enc P w t v.cells.toList) : ∃ s : ByteArray, v = .string s ∧ s.size ≤ 140737488351232 := by
  obtain ⟨n, rfl⟩ := okWide_string ht hv
  obtain ⟨n', e, hw⟩ := rdg_string ht h
  simp [Value.cells] at e
  exact ⟨n, rfl, e ▸ hw⟩
theorem rop_slice {t e : TypeId} {v : Value} (n : Nat) (ht : P.underlying t = some (.slice e)) (hc : P.cellsOf e = n) (hv : Value.okWide P w r b0 t v) (h : Rdg enc P w t v.cells.toList) :
    v = .slice none 0 0 ∨ ∃ (a : Addr) (len cap : Nat), v = .slice (some a) len cap ∧ len ≤ cap ∧ cap ≤ maxLen ∧ cap * P.bytesOf e ≤ 140737488351232 ∧
      ∀ i, i < cap → ∃ c : List Value, w.cells? 0 (a.add (i * n)) n = some c ∧ Rdg enc P w e c := by
  obtain ⟨a0, len0, cap0, rfl⟩ := okWide_slice ht hv
  rcases rdg_slice n ht hc h with e | ⟨a, len, cap, e, h1, h2, h3, h4⟩
  · simp [Value.cells] at e
    obtain ⟨rfl, rfl, rfl⟩ := e
    exact .inl rfl
  · simp [Value.cells] at e
    obtain ⟨rfl, rfl, rfl⟩ := e
    exact .inr ⟨a, len0, cap0, rfl, h1, h2, h3, h4⟩
end
end Go.Proofs.YtohphejhlgnciaaGreat
