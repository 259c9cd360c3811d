/- Trees that come in: how deep, how great; Deep, Size and Great, of the code and of the reference. -/
import Derived.Test.YtcojomkpogikiaaGreatDoorQ27
import Derived.Test.YtcojomkpogikiaaGreatDoorQ52
namespace Go.Proofs.YtcojomkpogikiaaGreatDoor
open Go.RowKit
set_option linter.unusedVariables false
theorem maxTo_le {f : Nat → Nat} {m : Nat} : ∀ n, (∀ i, i < n → f i ≤ m) → maxTo f n ≤ m
  | 0, _ => Nat.zero_le _
  | n + 1, h => by have := maxTo_le n (fun i hi => h i (by omega)); have := h n (by omega); rw [maxTo]; omega
theorem anyTo_false {f : Nat → Bool} {n : Nat} (h : anyTo f n = false) (i : Nat) (hi : i < n) : f i = false := by
  cases hx : f i with
  | false => rfl
  | true => rw [(anyTo_iff n).2 ⟨i, hi, hx⟩] at h; cases h
theorem great_deep : ∀ (T : XT) (d : Nat), greatX T d = false → deepX T + d ≤ 41 := by
  refine XT.ind fun T ih d h => ?_
  rw [greatX_eq] at h
  simp only [Bool.or_eq_false_iff, decide_eq_false_iff_not, Nat.not_lt] at h
  obtain ⟨⟨⟨⟨h1, h2⟩, h3⟩, h4⟩, h5⟩ := h
  rw [deepX_eq]
  have := maxTo_le (f := fun i => deepX (T.kid i)) (m := 40 - d) T.kn (fun i hi => by
    have := ih i hi _ (anyTo_false h4 i hi)
    show deepX (T.kid i) ≤ _
    omega)
  omega
end Go.Proofs.YtcojomkpogikiaaGreatDoor
/- A tree that comes in, read. -/
namespace Go.Proofs.YtcojomkpogikiaaGreatDoor
open Go.ChangeShapes Go.WideShapes Go.ChangeAt Go.RowKit
set_option linter.unusedVariables false
section
variable {H : Type} {enc : TypeId × Value → H} {P : Program} {w : World}
theorem rdgF_slice {fuel : Nat} {t e : TypeId} {cs : List Value} (n : Nat) (ht : P.underlying t = some (.slice e)) (hc : P.cellsOf e = n) (h : RdgF enc P w fuel t cs) :
    cs = [.slice none 0 0] ∨ ∃ (a : Addr) (len cap m : Nat), fuel = m + 1 ∧ cs = [.slice (some a) len cap] ∧ len ≤ cap ∧ cap * P.bytesOf e ≤ 140737488351232 ∧
      ∀ i, i < len → ∃ c : List Value, w.cells? 0 (a.add (i * n)) n = some c ∧ RdgF enc P w m e c := by
  obtain ⟨d, p, h, hw⟩ := h
  subst hc
  rcases DataW.trod_slice ht h with ⟨h0, _⟩ | ⟨a, len, cap, elems, rest, m, hfu, h1, h2, _, hl, hm, hlen, hel, hsp, _⟩
  · exact .inl h0
  · obtain ⟨hr, hrj⟩ := hsp rfl
    obtain ⟨rfl, _⟩ := Prod.mk.inj h2
    have e0 : reachBytes = 140737488351232 := by decide
    refine .inr ⟨a, len, cap, m, hfu, h1, hl, ?_, ?_⟩
    · have := hw ((elems.length + rest.length) * P.bytesOf e) (by simp [DataW.weights, ht])
      rw [e0, hlen, hr] at this
      rwa [Nat.add_sub_cancel' hl] at this
    · intro i hi
      have hq := hel i hi
      have hi' : i < elems.length := by omega
      rw [List.getElem?_eq_getElem hi'] at hq
      obtain ⟨cs', hcs, hx⟩ := Option.bind_eq_some_iff.1 hq
      refine ⟨cs', hcs, elems[i].1, elems[i].2, hx, fun k hk => hw k ?_⟩
      simp only [DataW.weights, ht, List.mem_cons, List.mem_append]
      exact .inr (.inl (weights_mem_all (j := i) (d := elems[i].1) (by rw [List.getElem?_map, List.getElem?_eq_getElem hi']; rfl) k hk))
end
section
variable {H : Type} {enc : TypeId × Value → H} {w : World}
theorem slice_at' {b' : Nat} {a : Addr} {n len : Nat} {Q : Nat → List Value → Prop} (hn : 0 < n) (hc : 0 < len) (h : ∀ i, i < len → ∃ c : List Value, w.cells? 0 (a.add (i * n)) n = some c ∧ Q i c) :
    ∃ b off, a = ⟨b, off, none⟩ ∧ ∀ i, i < len → ∃ c : List Value, c.length = n ∧ (∀ j, j < n → w.cell? ⟨b, off + i * n + j, none⟩ = c[j]?) ∧ Q i c := by
  have h0 : a = ⟨a.block, a.off, none⟩ := by
    obtain ⟨c, hcc, _⟩ := h 0 hc
    obtain ⟨_, hl, hat⟩ := World.cells?_some hcc
    have h1 := hat 0 hn
    have hl0 : 0 < c.length := by omega
    rw [List.getElem?_eq_getElem hl0, Nat.zero_mul] at h1
    have e2 : (a.add 0).add 0 = a := by unfold Addr.add; simp
    rw [e2] at h1
    exact spot_of_cell h1
  refine ⟨a.block, a.off, h0, fun i hi => ?_⟩
  obtain ⟨c, hcc, hr⟩ := h i hi
  obtain ⟨_, hl, hat⟩ := World.cells?_some hcc
  refine ⟨c, hl, fun j hj => ?_, hr⟩
  have h1 := hat j hj
  rw [Go.Deep.add_add, h0, add_plain, ← Nat.add_assoc] at h1
  exact h1
theorem lies_of {b off : Nat} {c : List Value} {n : Nat} (hcl : c.length = n) (hat : ∀ j, j < n → w.cell? ⟨b, off + j, none⟩ = c[j]?) : LiesAt w b off c := by
  intro r u hu
  have hr : r < n := by have := (List.getElem?_eq_some_iff.1 hu).1; omega
  rw [hat r hr, hu]
/-- a reading of a tree -/
theorem xtree_of : ∀ (n fuel : Nat) (cs : List Value), fuel ≤ n → cs.length = 4 → RdgF enc Tryz.prog w fuel 26 cs →
    ∃ T : XT, cs = [.int .i64 T.op, .int .i64 T.rel, .slice T.aa T.an T.ac, .slice T.ka T.kn T.kc] ∧ XAt w (· < w.heap.size) T ∧ XTx T
  | 0, fuel, cs, hn, _, h => by
    obtain ⟨m, hm, _⟩ := rdgF_field Tryz.underlying26 h 0 3 0 1 rfl (by kernel_rfl)
    omega
  | n + 1, fuel, cs, hn, hl, h => by
    obtain ⟨_, _, f0⟩ := rdgF_field Tryz.underlying26 h 0 3 0 1 rfl (by kernel_rfl)
    obtain ⟨_, _, f1⟩ := rdgF_field Tryz.underlying26 h 1 3 1 1 rfl (by kernel_rfl)
    obtain ⟨m2, hm2, f2⟩ := rdgF_field Tryz.underlying26 h 2 23 2 1 rfl (by kernel_rfl)
    obtain ⟨m, hm, f3⟩ := rdgF_field Tryz.underlying26 h 3 24 3 1 rfl (by kernel_rfl)
    obtain ⟨x0, e0, w0⟩ := rdg_int Tryz.underlying3 f0.rdg
    obtain ⟨x1, e1, w1⟩ := rdg_int Tryz.underlying3 f1.rdg
    match cs, hl with
    | [c0, c1, c2, c3], _ =>
      simp at e0 e1
      subst e0 e1
      have ha : ∃ (aa : Option Addr) (an ac : Nat) (g : Nat → Opd), c2 = .slice aa an ac ∧ an ≤ 3518437208780 ∧ ∀ i, i < an → CellsAt w (· < w.heap.size) aa i (opdC (g i)) ∧ OpX (g i) := by
        have hz : Tryz.prog.bytesOf 40 = 40 := by kernel_rfl
        rcases rdgF_slice 4 Tryz.underlying23 (by kernel_rfl) f2 with e3 | ⟨a, len, cap, m', hm', e3, hlc, hby, hel⟩
        · simp at e3; subst e3
          exact ⟨none, 0, 0, fun _ => default, rfl, Nat.zero_le _, fun i hi => absurd hi (Nat.not_lt_zero i)⟩
        · simp at e3; subst e3
          rw [hz] at hby
          have hq : ∀ i, i < len → ∃ o : Opd, CellsAt w (· < w.heap.size) (some a) i (opdC o) ∧ OpX o := by
            intro i hi
            obtain ⟨b, off, rfl, hc⟩ := slice_at' (b' := 0) (n := 4) (Q := fun _ c => RdgF enc Tryz.prog w m' 40 c) (by omega) (by omega) hel
            obtain ⟨c, hcl, hat, hr⟩ := hc i hi
            obtain ⟨o, rfl, ho⟩ := opd_of hcl hr
            have h0 := hat 0 (by omega)
            exact ⟨o, ⟨b, off, rfl, lt_of_cell h0, lt_of_cell h0, lies_of hcl hat⟩, ho⟩
          obtain ⟨L, hL⟩ := skolem hq
          exact ⟨some a, len, cap, L, rfl, by omega, hL⟩
      obtain ⟨aa, an, ac, g, rfl, han, hag⟩ := ha
      have hz : Tryz.prog.bytesOf 26 = 64 := by kernel_rfl
      rcases rdgF_slice 4 Tryz.underlying24 (by kernel_rfl) f3 with e3 | ⟨a, len, cap, m', hm', e3, hlc, hby, hel⟩
      · simp at e3
        subst e3
        exact ⟨.node x0 x1 aa an ac g none 0 0 (fun _ => .nil), rfl, (xat_iff _).2 ⟨⟨han, Nat.zero_le _⟩, fun i hi => (hag i hi).1, fun i hi => absurd hi (Nat.not_lt_zero i)⟩, (xtx_iff _).2 ⟨fun i hi => (hag i hi).2, fun i hi => absurd hi (Nat.not_lt_zero i)⟩⟩
      · simp at e3
        subst e3
        rw [hz] at hby
        have hq : ∀ i, i < len → ∃ T : XT, CellsAt w (· < w.heap.size) (some a) i (xtC T) ∧ XAt w (· < w.heap.size) T ∧ XTx T := by
          intro i hi
          obtain ⟨b, off, rfl, hc⟩ := slice_at' (b' := 0) (n := 4) (Q := fun _ c => RdgF enc Tryz.prog w m' 26 c) (by omega) (by omega) hel
          obtain ⟨c, hcl, hat, hr⟩ := hc i hi
          obtain ⟨T, rfl, hT⟩ := xtree_of n m' c (by omega) hcl hr
          have h0 := hat 0 (by omega)
          exact ⟨T, ⟨b, off, rfl, lt_of_cell h0, lt_of_cell h0, lies_of hcl hat⟩, hT⟩
        obtain ⟨L, hL⟩ := skolem hq
        exact ⟨.node x0 x1 aa an ac g (some a) len cap L, rfl, (xat_iff _).2 ⟨⟨han, by show len ≤ _; omega⟩, fun i hi => (hag i hi).1, fun i hi => ⟨(hL i hi).1, (hL i hi).2.1⟩⟩, (xtx_iff _).2 ⟨fun i hi => (hag i hi).2, fun i hi => (hL i hi).2.2⟩⟩
theorem x_of {cs : Array Value} (hl : cs.size = Tryz.prog.cellsOf 26) (h : Rdg enc Tryz.prog w 26 (Value.agg cs).cells.toList) : ∃ T : XT, Value.agg cs = .agg #[.int .i64 T.op, .int .i64 T.rel, .slice T.aa T.an T.ac, .slice T.ka T.kn T.kc] ∧ XAt w (· < w.heap.size) T ∧ XTx T := by
  obtain ⟨fuel, d, p, h1, h2⟩ := h
  have hc : Tryz.prog.cellsOf 26 = 4 := by kernel_rfl
  obtain ⟨T, hT, hv⟩ := xtree_of (enc := enc) (w := w) fuel fuel cs.toList (Nat.le_refl _) (by simp; omega) ⟨d, p, by simpa [Value.cells] using h1, h2⟩
  refine ⟨T, ?_, hv⟩
  refine congrArg Value.agg ?_
  exact Array.toList_inj.1 (by simpa using hT)
end
end Go.Proofs.YtcojomkpogikiaaGreatDoor
