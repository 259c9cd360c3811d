/- What a walk carries of Parse's answers: boxes, trees, errors. -/
import Derived.Test.YtbejpgoedenpmaaGreatDoorExprSame
import Derived.Test.YtbejpgoedenpmaaGreatDoorExprAwake
import Derived.Test.YtbejpgoedenpmaaGreatDoorExprBrk2
namespace Go.Proofs.YtbejpgoedenpmaaGreatDoor
open Go.RowKit
set_option linter.unusedVariables false
def XHas (w : World) (T : XT) : Prop := ∃ S : Nat → Prop, XAt w S T
def BoxX (w : World) (v : Value) (T : XT) : Prop := ∃ b, v = .pointer (some ⟨b, 0, none⟩) ∧ w.heap[b]? = some (.cells #[.int .i64 T.op, .int .i64 T.rel, .slice T.aa T.an T.ac, .slice T.ka T.kn T.kc] 25)
def BoxF (w : World) (v : Value) (f : Int) : Prop := ∃ (b : Nat) (g : Int), v = .pointer (some ⟨b, 0, none⟩) ∧ w.heap[b]? = some (.cells #[.int .i64 f, .int .i64 g] 28)
def Res (A : Tree) (T : XT) (f : Int) : Prop := match A with
  | .bad e _ => f = ((e : Nat) : Int) ∧ f ≠ 0
  | .good t => f = 0 ∧ SameX T t
def PTo (w : World) (A : Tree) (x : Ending) (w' : World) : Prop := Below w.heap.size w w' ∧ ∃ (T : XT) (f g : Int), x = .returned (.tuple #[.agg #[.int .i64 T.op, .int .i64 T.rel, .slice T.aa T.an T.ac, .slice T.ka T.kn T.kc], .agg #[.int .i64 f, .int .i64 g]]) ∧ Res A T f ∧ XHas w' T
theorem XHas.next {w w' : World} {T : XT} (h : XHas w T) (hb : Below w.heap.size w w') : XHas w' T := by obtain ⟨S, h⟩ := h; exact ⟨S, h.next hb⟩
theorem BoxX.next {w w' : World} {v : Value} {T : XT} (h : BoxX w v T) (hb : Below w.heap.size w w') : BoxX w' v T := by obtain ⟨b, e, h⟩ := h; exact ⟨b, e, rowKeep hb h⟩
theorem BoxF.next {w w' : World} {v : Value} {f : Int} (h : BoxF w v f) (hb : Below w.heap.size w w') : BoxF w' v f := by obtain ⟨b, g, e, h⟩ := h; exact ⟨b, g, e, rowKeep hb h⟩
theorem parseA_ne {s : List UInt8} {e a : Nat} (h : parseA s = .bad e a) : e ≠ 0 := by
  unfold parseA at h
  cases hk : tokA s with
  | bad e' a' =>
    rw [hk] at h
    have h2 : Tree.bad e' a' = Tree.bad e a := h
    injection h2 with h2 _
    rw [← h2]; exact tokA_bad hk
  | good L =>
    rw [hk] at h
    obtain ⟨hv2, hl⟩ := tokA_good hk
    have h2 : parseL L = Tree.bad e a := h
    unfold parseL at h2
    have hls := orP_less 8 L hv2 (by omega)
    cases ho : orP 8 L with
    | err e' l' =>
      rw [ho] at h2 hls
      have h3 : Tree.bad e' (hd l').a = Tree.bad e a := h2
      injection h3 with h3 _
      rw [← h3]; exact hls.2.2
    | ok x l' =>
      rw [ho] at h2
      have h3 : (if (Cl.kd 6).test (hd l') = true then Tree.good x else Tree.bad 11 (hd l').a) = Tree.bad e a := h2
      by_cases h6 : (Cl.kd 6).test (hd l') = true
      · rw [if_pos h6] at h3; cases h3
      · rw [if_neg h6] at h3; injection h3 with h3 _; omega
theorem pto_of {w w' : World} {s : List UInt8} {x : Ending} (h : ParseTo w (parseA s) x w') : PTo w (parseA s) x w' := by
  obtain ⟨hb, h⟩ := h
  refine ⟨hb, ?_⟩
  cases hp : parseA s with
  | bad e a =>
    rw [hp] at h
    exact ⟨.nil, (e : Nat), (a : Nat), h, ⟨rfl, by have := parseA_ne hp; omega⟩, ⟨fun _ => True, trivial⟩⟩
  | good t =>
    rw [hp] at h
    obtain ⟨T, he, hs, hx⟩ := h
    exact ⟨T, 0, 0, he, ⟨rfl, hs⟩, ⟨_, hx⟩⟩
theorem parse_has (l : List UInt8) (hl : l.length ≤ 256) (w : World) (hV : LibAt w) : Calls Tryz.prog 6 #[.string (bs l)] w (PTo w (parseA l)) :=
  (parse_any l hl w hV).mono fun _ _ h => pto_of h
theorem same_has {T U : XT} {w : World} (h : XHas w T) (k : XHas w U) (hs : SameX T U) : RSameTo T U w := by
  obtain ⟨S, h⟩ := h; obtain ⟨S', k⟩ := k; exact sameX_any S S' T U w h k hs
theorem Res.zero {s : List UInt8} {T : XT} (h : Res (parseA s) T 0) : ∃ x, parseA s = .good x ∧ SameX T x := by
  cases hp : parseA s with
  | bad e a => rw [hp] at h; exact absurd rfl h.2
  | good t => rw [hp] at h; exact ⟨t, rfl, h.2⟩
theorem Res.bad {s : List UInt8} {T : XT} {f : Int} (h : Res (parseA s) T f) (hf : f ≠ 0) : ∃ e a, parseA s = .bad e a ∧ f = ((e : Nat) : Int) := by
  cases hp : parseA s with
  | bad e a => rw [hp] at h; exact ⟨e, a, rfl, h.1⟩
  | good t => rw [hp] at h; exact absurd h.1 hf
/-- the first two calls: a text, and the text in brackets -/
theorem brk_res {s : List UInt8} {T U : XT} {g : Int} (hs : s.length ≤ 120) (h : Res (parseA s) T 0) (k : Res (parseA (brk s)) U g) : (g = 0 ∧ SameX T U) ∨ g = 9 ∨ g = 3 := by
  obtain ⟨x, hx, hT⟩ := h.zero
  rcases brackets hs hx with hb | ⟨e, a, hb, he⟩
  · rw [hb] at k; exact .inl ⟨k.1, sameX_trans _ _ _ hT (sameX_symm _ _ k.2)⟩
  · rw [hb] at k
    have := k.1
    rcases he with rfl | rfl
    · exact .inr (.inl k.1)
    · exact .inr (.inr k.1)
theorem unbrk_res {s : List UInt8} {T U : XT} {f : Int} (hs : s.length ≤ 120) (h : Res (parseA s) T f) (hf : f ≠ 0) (k : Res (parseA (brk s)) U 0) : 41 ∈ s := by
  by_cases hm : 41 ∈ s
  · exact hm
  · obtain ⟨y, hy, _⟩ := k.zero
    obtain ⟨x, hx⟩ := unbrk hs hy hm
    rw [hx] at h
    exact absurd h.1 hf
/-- the kids of a tree of one, and of two -/
theorem kid_cells {w : World} {T : XT} (h : XHas w T) {i : Nat} (hi : i < T.kn) : ∃ b off, T.ka = some ⟨b, off, none⟩ ∧ w.cell? ⟨b, off + i * 4, none⟩ = some (.int .i64 (T.kid i).op) ∧ w.cell? ⟨b, off + i * 4 + 1, none⟩ = some (.int .i64 (T.kid i).rel) ∧
    w.cell? ⟨b, off + i * 4 + 2, none⟩ = some (.slice (T.kid i).aa (T.kid i).an (T.kid i).ac) ∧ w.cell? ⟨b, off + i * 4 + 3, none⟩ = some (.slice (T.kid i).ka (T.kid i).kn (T.kid i).kc) ∧ XHas w (T.kid i) := by
  obtain ⟨S, h⟩ := h
  obtain ⟨⟨b, off, e, _, _, c⟩, y⟩ := ((xat_iff T).1 h).2.2 i hi
  exact ⟨b, off, e, c 0 _ rfl, c 1 _ rfl, c 2 _ rfl, c 3 _ rfl, S, y⟩
theorem not_res {s : List UInt8} {T U : XT} (h : Res (parseA s) T 0) (k : Res (parseA (78 :: 79 :: 84 :: 32 :: brk s)) U 0) : U.op = 4 ∧ U.kn = 1 ∧ SameX (U.kid 0) T := by
  obtain ⟨x, hx, hT⟩ := h.zero
  obtain ⟨z, hz, hU⟩ := k.zero
  rw [notBrk hx hz] at hU
  obtain ⟨h1, _, _, _, h5, h6⟩ := (sameX_iff _ _).1 hU
  have h5' : U.kn = 1 := h5
  exact ⟨h1, h5, sameX_trans _ _ _ (h6 0 (by omega)) (sameX_symm _ _ hT)⟩
theorem and_res {s t : List UInt8} {T V U : XT} (h : Res (parseA s) T 0) (m : Res (parseA t) V 0) (k : Res (parseA (40 :: (s ++ 41 :: (32 :: 65 :: 78 :: 68 :: 32 :: brk t)))) U 0) : U.op = 5 ∧ U.kn = 2 ∧ SameX (U.kid 0) T ∧ SameX (U.kid 1) V := by
  obtain ⟨x, hx, hT⟩ := h.zero
  obtain ⟨y, hy, hV⟩ := m.zero
  obtain ⟨z, hz, hU⟩ := k.zero
  rw [andBrk hx hy hz] at hU
  obtain ⟨h1, _, _, _, h5, h6⟩ := (sameX_iff _ _).1 hU
  have h5' : U.kn = 2 := h5
  exact ⟨h1, h5, sameX_trans _ _ _ (h6 0 (by omega)) (sameX_symm _ _ hT), sameX_trans _ _ _ (h6 1 (by omega)) (sameX_symm _ _ hV)⟩
theorem or_res {s t : List UInt8} {T V U : XT} (h : Res (parseA s) T 0) (m : Res (parseA t) V 0) (k : Res (parseA (40 :: (s ++ 41 :: (32 :: 79 :: 82 :: 32 :: brk t)))) U 0) : U.op = 6 ∧ U.kn = 2 ∧ SameX (U.kid 0) T ∧ SameX (U.kid 1) V := by
  obtain ⟨x, hx, hT⟩ := h.zero
  obtain ⟨y, hy, hV⟩ := m.zero
  obtain ⟨z, hz, hU⟩ := k.zero
  rw [orBrk hx hy hz] at hU
  obtain ⟨h1, _, _, _, h5, h6⟩ := (sameX_iff _ _).1 hU
  have h5' : U.kn = 2 := h5
  exact ⟨h1, h5, sameX_trans _ _ _ (h6 0 (by omega)) (sameX_symm _ _ hT), sameX_trans _ _ _ (h6 1 (by omega)) (sameX_symm _ _ hV)⟩
end Go.Proofs.YtbejpgoedenpmaaGreatDoor
