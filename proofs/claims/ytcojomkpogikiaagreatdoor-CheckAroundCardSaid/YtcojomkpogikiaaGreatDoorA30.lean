/- The code of chapter 18: a node's own errors. -/
import Derived.Test.YtcojomkpogikiaaGreatDoorA29
import Derived.Test.YtcojomkpogikiaaGreatDoorA34
namespace Go.Proofs.YtcojomkpogikiaaGreatDoor
open Go Go.RowKit Go.Shelf
set_option linter.unusedVariables false
set_option linter.unusedSimpArgs false
attribute [local go_sem] Oper.semAt_some
def OwnTo (L : Nat → Pa.TypeV) (ao : Option Addr) (len cap : Nat) (t : Int) (T : XT) (b off : Nat) (w : World) : Prop :=
  Calls Tryz.prog 22 #[.agg #[.slice ao len cap, .int .i64 t], .pointer (some ⟨b, off, none⟩)] w fun e w' => e = .returned (.int .i64 (ownE L len t T)) ∧ Below w.heap.size w w'
theorem fr_eqO {a b : List Value} (h : a = b) : (⟨a.toArray, []⟩ : Act) = ⟨b.toArray, []⟩ := by rw [h]
/-- the operands, each with what it is -/
def sdL (L : Nat → Pa.TypeV) (len : Nat) (t : Int) (T : XT) (i : Nat) : List Value := [.int .i64 (T.arg i).kind, .string (T.arg i).text, .bool (T.arg i).neg, .int .u64 (T.arg i).num, .int .i64 (sW (whatA L len t (T.arg i)).1), .int .i64 (sO (whatA L len t (T.arg i)).1)]
theorem infoSide : (Tryz.prog.info? 107).map (fun i => (i.zero, i.size, i.bytes)) = some (some (.agg #[.int .i64 0, .string ⟨#[]⟩, .bool false, .int .u64 0, .int .i64 0, .int .i64 0]), 6, 56) := by kernel_rfl
/-- the boxes: the scope's, the result's, the list's; the list's row -/
structure OwSt (w : World) (ao : Option Addr) (len cap : Nat) (t : Int) (xs : List Value) (n : Nat) (v : Value) (W : World) : Prop where
  sc : W.heap[w.heap.size]? = some (.cells #[.slice ao len cap, .int .i64 t] 62)
  rs : W.heap[w.heap.size + 1]? = some (.cells #[.int .i64 0] 30)
  ls : W.heap[w.heap.size + 1 + 1]? = some (.cells #[v] 101)
  row : W.ownsRow (w.heap.size + 4) 107 6 v n xs
  bel : Below w.heap.size w W
  sz : w.heap.size + 4 ≤ W.heap.size
theorem OwSt.stays {w : World} {ao : Option Addr} {len cap : Nat} {t : Int} {xs : List Value} {n : Nat} {v : Value} {W W' : World} {B : Nat} (h : OwSt w ao len cap t xs n v W) (hst : Stays B W W') (hB : w.heap.size ≤ B) : OwSt w ao len cap t xs n v W' :=
  ⟨hst.same _ _ h.sc (.inl rfl), hst.same _ _ h.rs (.inl rfl), hst.same _ _ h.ls (.inl rfl), Pa.own_stays h.row hst, hst.below h.bel (Nat.le_refl _) hB, Nat.le_trans h.sz hst.size⟩
theorem OwSt.start (w : World) (ao : Option Addr) (len cap : Nat) (t : Int) (b off : Nat) :
    OwSt w ao len cap t [] 0 (.slice none 0 0) ((((w.alloc (.cells #[.slice ao len cap, .int .i64 t] 62)).alloc (.cells #[.int .i64 0] 30)).alloc (.cells #[.slice none 0 0] 101)).alloc (.cells #[.pointer (some ⟨b, off, none⟩)] 66)) ∧
    ((((w.alloc (.cells #[.slice ao len cap, .int .i64 t] 62)).alloc (.cells #[.int .i64 0] 30)).alloc (.cells #[.slice none 0 0] 101)).alloc (.cells #[.pointer (some ⟨b, off, none⟩)] 66)).heap[w.heap.size + 1 + 1 + 1]? = some (.cells #[.pointer (some ⟨b, off, none⟩)] 66) ∧
    ((((w.alloc (.cells #[.slice ao len cap, .int .i64 t] 62)).alloc (.cells #[.int .i64 0] 30)).alloc (.cells #[.slice none 0 0] 101)).alloc (.cells #[.pointer (some ⟨b, off, none⟩)] 66)).heap.size = w.heap.size + 4 := by
  have h1 := alloc_at w (.cells #[.slice ao len cap, .int .i64 t] 62)
  have h2 := alloc_at (w.alloc (.cells #[.slice ao len cap, .int .i64 t] 62)) (.cells #[.int .i64 0] 30)
  have h3 := alloc_at ((w.alloc (.cells #[.slice ao len cap, .int .i64 t] 62)).alloc (.cells #[.int .i64 0] 30)) (.cells #[.slice none 0 0] 101)
  have h4 := alloc_at (((w.alloc (.cells #[.slice ao len cap, .int .i64 t] 62)).alloc (.cells #[.int .i64 0] 30)).alloc (.cells #[.slice none 0 0] 101)) (.cells #[.pointer (some ⟨b, off, none⟩)] 66)
  rw [World.size_alloc] at h2
  rw [World.size_alloc, World.size_alloc] at h3
  rw [World.size_alloc, World.size_alloc, World.size_alloc] at h4
  exact ⟨⟨alloc_old (alloc_old (alloc_old h1)), alloc_old (alloc_old h2), alloc_old h3, World.ownsRow_nil _ _ _ _, ((((Below.refl _ _).alloc (Nat.le_refl _) _).alloc (by simp) _).alloc (by simp; omega) _).alloc (by simp; omega) _, by simp⟩, h4, by simp⟩
theorem fr_eqD {a b : List Value} {ds : List Deferred} (h : a = b) : (⟨a.toArray, ds⟩ : Act) = ⟨b.toArray, ds⟩ := by rw [h]
/-- what lies in a row of one's own -/
theorem own_get {w : World} {base n cap g size j : Nat} {e : TypeId} {xs : List Value} {u : Value} (h : w.ownsRow base e size (.slice (some ⟨g, 0, none⟩) n cap) n xs) (hj : xs[j]? = some u) (hl : j < n * size) : w.cell? ⟨g, j, none⟩ = some u := by
  rcases h.2 with ⟨hv, _⟩ | ⟨g', cap', cur, hv, hb, hg, h1, h2, h3, h4⟩
  · cases hv
  · cases hv
    refine cell_at hg ?_
    rw [← h4, List.getElem?_take, if_pos hl] at hj
    simpa using hj
theorem flat_six (f : Nat → List Value) (hf : ∀ i, (f i).length = 6) : ∀ n i r, i < n → r < 6 → ((List.range n).flatMap f)[i * 6 + r]? = (f i)[r]?
  | n + 1, i, r, hi, hr => by
    have hlen : ∀ n, ((List.range n).flatMap f).length = n * 6 := by
      intro n
      induction n with
      | zero => rfl
      | succ n ih => rw [flat_succ, List.length_append, ih, hf]; omega
    rw [flat_succ]
    rcases Nat.lt_succ_iff_lt_or_eq.1 hi with h | rfl
    · rw [List.getElem?_append_left (by rw [hlen]; omega)]; exact flat_six f hf n i r h hr
    · rw [List.getElem?_append_right (by rw [hlen]; omega), hlen, show i * 6 + r - i * 6 = r by omega]
theorem what_kind {L : Nat → Pa.TypeV} {len : Nat} {t : Int} {o : Opd} (h : 4 ≤ (whatA L len t o).1) : o.kind = 1 := by
  unfold whatA at h
  by_cases h2 : o.kind = 2
  · rw [if_pos h2] at h; simp only at h; omega
  · rw [if_neg h2] at h
    by_cases h3 : o.kind = 3
    · rw [if_pos h3] at h; simp only at h; omega
    · rw [if_neg h3] at h
      by_cases h4 : o.kind = 4
      · rw [if_pos h4] at h; simp only at h; omega
      · rw [if_neg h4] at h
        by_cases h5 : o.kind = 5
        · rw [if_pos h5] at h; simp only at h; omega
        · rw [if_neg h5] at h
          by_cases h1 : o.kind = 1
          · exact h1
          · rw [if_neg h1] at h; simp only at h; omega
theorem sW_three {X : Int} (h0 : 0 ≤ X) : (sW X != 3) = true ↔ X ≠ 2 := by
  rw [bne_iff_ne]
  unfold sW
  by_cases h2 : X = 2
  · subst h2; simp
  · rw [if_neg h2]
    by_cases h3 : X = 3
    · subst h3; simp
    · rw [if_neg h3]
      by_cases h4 : 4 ≤ X
      · rw [if_pos h4]; simp [h2]
      · rw [if_neg h4]; simp [h2, h3]
theorem what_ok (L : Nat → Pa.TypeV) (len : Nat) (t : Int) (o : Opd) : OkS len o (whatA L len t o).1 := ⟨(what_in L len t o).1, (what_in L len t o).2, what_kind⟩
/-- one of the operands, with what it is, in the list's row -/
structure SdAt (w : World) (g i : Nat) (o : Opd) (X : Int) : Prop where
  c0 : w.cell? ⟨g, i * 6, none⟩ = some (.int .i64 o.kind)
  c1 : w.cell? ⟨g, i * 6 + 1, none⟩ = some (.string o.text)
  c2 : w.cell? ⟨g, i * 6 + 2, none⟩ = some (.bool o.neg)
  c3 : w.cell? ⟨g, i * 6 + 3, none⟩ = some (.int .u64 o.num)
  c4 : w.cell? ⟨g, i * 6 + 4, none⟩ = some (.int .i64 (sW X))
  c5 : w.cell? ⟨g, i * 6 + 5, none⟩ = some (.int .i64 (sO X))
theorem SdAt.next {w w' : World} {g i : Nat} {o : Opd} {X : Int} (h : SdAt w g i o X) (hb : Below w.heap.size w w') : SdAt w' g i o X :=
  ⟨Pa.keep6 hb h.c0, Pa.keep6 hb h.c1, Pa.keep6 hb h.c2, Pa.keep6 hb h.c3, Pa.keep6 hb h.c4, Pa.keep6 hb h.c5⟩
theorem sd_at {w : World} {base n cap g i : Nat} {L : Nat → Pa.TypeV} {len : Nat} {t : Int} {T : XT} (h : w.ownsRow base 107 6 (.slice (some ⟨g, 0, none⟩) n cap) n ((List.range n).flatMap (sdL L len t T))) (hi : i < n) : SdAt w g i (T.arg i) (whatA L len t (T.arg i)).1 := by
  have hq : ∀ r u, (sdL L len t T i)[r]? = some u → w.cell? ⟨g, i * 6 + r, none⟩ = some u := fun r u hu => by
    have hr : r < 6 := (List.getElem?_eq_some_iff.1 hu).1
    exact own_get h (by rw [flat_six _ (fun _ => rfl) n i r hi hr]; exact hu) (by omega)
  exact ⟨hq 0 _ rfl, hq 1 _ rfl, hq 2 _ rfl, hq 3 _ rfl, hq 4 _ rfl, hq 5 _ rfl⟩
/-- the result's cell, and the mark -/
theorem own_end {V : World} {n0 D : Nat} {R : Int} {tmps : Array Value} {Q : Ending → World → Prop} (h4 : tmps.getD 4 undef = .pointer (some ⟨n0 + 1, 0, none⟩)) (hdk : V.heap[D]? = some (.deferred (some []))) (hr : V.heap[n0 + 1]? = some (.cells #[.int .i64 R] 30))
    (hQ : Q (.returned (.int .i64 R)) (V.putObj D (.deferred none))) : LeavesInM Fence.wide 3 Tryz.prog Tryz.f22 tmps Q [{ target := .collected D, args := #[] }] .returning V := by
  refine leavesM_mark (D := D) hdk ⟨.int .i64 R, ?_, hQ⟩
  have c1 := putD_cell hdk (cell_at (j := 0) hr rfl)
  rw [Array.getD_eq_getD_getElem?] at h4
  simp [results, Tryz.results22, asAddr, go_sem, h4, c1]
set_option maxRecDepth 100000 in
set_option maxHeartbeats 8000000 in
theorem own_any (S0 : Nat → Prop) (L : Nat → Pa.TypeV) (ao : Option Addr) (len cap : Nat) (hlen : len ≤ 1000000) (hcap : len ≤ cap) (t : Int) (T : XT) (b off : Nat) (w : World) (hb : b < w.heap.size) (hl : LiesAt w b off (xtC T)) (hwf : XWf T) (han : T.an ≤ 1000)
    (HA : ∀ i, i < T.an → CellsAt w S0 T.aa i (opdC (T.arg i))) (HTX : ∀ i, i < T.an → (T.arg i).text.size ≤ 1000000) (H : ∀ i, i < len → Pa.TypeAt w ao i (L i)) : OwnTo L ao len cap t T b off w := by
  unfold OwnTo
  have hmix : Tryz.prog.follows .mixedOrders = true := by kernel_rfl
  obtain ⟨i0, hinf, iz0, iz1, iz2⟩ := info_parts infoSide
  have HOP := Lib.hid (fun wx => opds_any ⟨b, off, none⟩ wx)
  obtain ⟨R, hR⟩ : ∃ R, ownE L len t T = R := ⟨_, rfl⟩
  rw [hR]
  refine calls_of_marks Tryz.func22 rfl ?_
  simp only [Tryz.ntmps22, List.size_toArray, List.length_cons, List.length_nil, Nat.reduceAdd, Nat.reduceSub, Array.replicate_succ, Array.replicate_zero, List.push_toArray, List.append_toArray, List.nil_append, List.cons_append]
  go_wp2_with (go_at_call 26; refine (HOP.out _).mono ?_; rintro e w1 ⟨rfl, rfl⟩)
  have HW0 := Lib.hid (OwSt.start w ao len cap t b off)
  have HSO := Lib.hid (fun i (hi : i < T.an) wx (hx : Below w.heap.size w wx) => sortOf_any L ao len cap hlen hcap t (T.arg i) (HTX i hi) wx (hold18 H hx))
  unfold SortTo at HSO
  obtain ⟨W0, hW0⟩ : ∃ W0, ((((w.alloc (.cells #[.slice ao len cap, .int .i64 t] 62)).alloc (.cells #[.int .i64 0] 30)).alloc (.cells #[.slice none 0 0] 101)).alloc (.cells #[.pointer (some ⟨b, off, none⟩)] 66)) = W0 := ⟨_, rfl⟩
  rw [hW0] at HW0 ⊢
  clear hW0
  obtain ⟨HW1, hbx, hsz⟩ := HW0.out
  have hnode : NodeC W0 (fun k => w.heap.size + 4 ≤ k ∨ k = w.heap.size + 1 ∨ k = w.heap.size + 1 + 1) ⟨b, off, none⟩ T :=
    ⟨⟨b, off, rfl, by omega, by omega, hl.held (HW1.bel.block b hb)⟩, hwf⟩
  have hcb : W0.cell? ⟨w.heap.size + 1 + 1 + 1, 0, none⟩ = some (.pointer (some ⟨b, off, none⟩)) := cell_at hbx rfl
  refine wp_range (gf := 49) (w0 := W0) rfl (enters_of Tryz.func49 (by kernel_rfl) rfl)
    (opds_stops _ ⟨b, off, none⟩ T (w.heap.size + 1 + 1 + 1) W0 hnode (fun h0 => by obtain ⟨ab, aoff, e, _⟩ := HA 0 h0; exact ⟨ab, aoff, e⟩) (by omega) hcb)
    (fun h k => onlyK_t h k) (onlyK_b (fun k hk => .inl (by omega))) (Below.refl _ _) (fun _ => rfl)
    (fun pre W => (∀ i, i ∈ pre.map (opIx T.an) → (whatA L len t (T.arg i)).2 = 0) ∧ ∃ v, OwSt w ao len cap t ((pre.map (opIx T.an)).flatMap (sdL L len t T)) pre.length v W)
    (fun pre W => ∃ (pre0 : List Nat) (x : Nat), pre = pre0 ++ [x] ∧ (∀ i, i ∈ pre0.map (opIx T.an) → (whatA L len t (T.arg i)).2 = 0) ∧ (whatA L len t (T.arg (opIx T.an x))).2 ≠ 0 ∧ W.heap[w.heap.size + 1]? = some (.cells #[.int .i64 (whatA L len t (T.arg (opIx T.an x))).2] 30) ∧ Below w.heap.size w W)
    (fun pre X Y ⟨h1, v, h2⟩ hst => ⟨h1, v, h2.stays hst (by omega)⟩)
    (fun pre X Y ⟨p0, x, e, h1, h2, h3, h4⟩ hst => ⟨p0, x, e, h1, h2, hst.same _ _ h3 (.inl rfl), hst.below h4 (Nat.le_refl _) (by omega)⟩)
    ⟨(fun i hi => absurd hi (by simp)), _, HW1⟩ ?round ?done ?stop
  case round =>
    rintro l x W K ⟨pre, -⟩ hK
    gi_wp2
    refine hK _ _ (KeepsFrom.refl _ _) (Only.refl _ _) (Stays.refl _ _) ?_
    rintro l2 pre2 W2 hst ⟨hz, sv, HO⟩ hl2
    have hn0 : 0 < T.an := by omega
    have hi := opIx_lt hn0 x
    obtain ⟨i, hix⟩ : ∃ i, opIx T.an x = i := ⟨_, rfl⟩
    rw [hix] at hi ⊢
    obtain ⟨ab, aoff, haa, _, habl, hlies⟩ := HA i hi
    rw [kidP_at haa]
    have hbel := HO.bel
    have hl4 := hlies.held (hbel.block ab habl)
    have HSX := Lib.hid (fun wx hx => HSO.out i hi wx hx)
    obtain ⟨ai, hai⟩ : ∃ ai, aoff + i * 4 = ai := ⟨_, rfl⟩
    rw [hai] at hl4 ⊢
    obtain ⟨⟨X, E⟩, hX⟩ : ∃ R, whatA L len t (T.arg i) = R := ⟨_, rfl⟩
    have HXE := Lib.hid hX
    rw [hX] at HSX
    have hsp : sP (X, E) = .tuple #[.agg #[.int .i64 (sW X), .int .i64 (sO X)], .int .i64 E] := rfl
    rw [hsp] at HSX
    obtain ⟨⟨ok, ox, og, on⟩, hop⟩ : ∃ o, T.arg i = o := ⟨_, rfl⟩
    have HOP2 := Lib.hid hop
    rw [hop] at hl4 HSX
    have x0 : W2.cell? ⟨ab, ai, none⟩ = some (.int .i64 ok) := hl4 0 _ rfl
    have x1 : W2.cell? ⟨ab, ai + 1, none⟩ = some (.string ox) := hl4 1 _ rfl
    have x2 : W2.cell? ⟨ab, ai + 2, none⟩ = some (.bool og) := hl4 2 _ rfl
    have x3 : W2.cell? ⟨ab, ai + 3, none⟩ = some (.int .u64 on) := hl4 3 _ rfl
    have s0 := cell_at (j := 0) HO.sc rfl
    have s1 := cell_at (j := 1) HO.sc rfl
    have HBE := Lib.hid hbel
    have HOO := Lib.hid HO
    have HZ := Lib.hid hz
    have HIX := Lib.hid hix
    obtain ⟨A, hA⟩ : ∃ A, sW X = A := ⟨_, rfl⟩
    obtain ⟨B, hB⟩ : ∃ B, sO X = B := ⟨_, rfl⟩
    have HAA := Lib.hid hA
    have HBB := Lib.hid hB
    rw [hA, hB] at HSX
    simp only at HSX
    have HX0 := Lib.hid x0
    have HX1 := Lib.hid x1
    have HX2 := Lib.hid x2
    have HX3 := Lib.hid x3
    have HSZ := Lib.hid HO.sz
    have HAB := Lib.hid habl
    obtain ⟨n, hnl⟩ : ∃ n, pre2.length = n := ⟨_, rfl⟩
    have HLN := Lib.hid hnl
    have HN9 := Lib.hid (show n < 1000 by omega)
    clear hnl hz hix hX hsp hop hl4 hlies habl hbel hA hB hai haa hl2 hn0 hst HO hnode hcb hbx x0 x1 x2 x3 s0 s1
    gi_wp2
    refine wpIn_region_inv hmix (by kernel_rfl) (fun ⟨_, _, h⟩ => h) (fun v => ((.agg #[.slice ao len cap, .int .i64 t] : Value) :: (.pointer (some ⟨b, off, none⟩) : Value) :: (.pointer (some ⟨w.heap.size, 0, none⟩) : Value) :: (undef : Value) :: (.pointer (some ⟨w.heap.size + 1, 0, none⟩) : Value) :: (.pointer (some ⟨w.heap.size + 1 + 1, 0, none⟩) : Value) :: (.pointer (some ⟨ab, ai, none⟩) : Value) :: v 8 :: v 10 :: (undef : Value) :: (.pointer (some ⟨b, off, none⟩) : Value) :: (.func (.func 49) #[] #[.pointer (some ⟨w.heap.size + 1 + 1 + 1, 0, none⟩)] : Value) :: (.pointer (some ⟨ab, ai, none⟩) : Value) :: v 5 :: v 0 :: v 1 :: v 2 :: v 3 :: v 4 :: v 6 :: v 7 :: (undef : Value) :: (undef : Value) :: (undef : Value) :: (undef : Value) :: (undef : Value) :: (undef : Value) :: (undef : Value) :: (undef : Value) :: (undef : Value) :: (undef : Value) :: (undef : Value) :: (undef : Value) :: (undef : Value) :: (undef : Value) :: (undef : Value) :: (undef : Value) :: (undef : Value) :: (undef : Value) :: (undef : Value) :: (undef : Value) :: (undef : Value) :: (undef : Value) :: (undef : Value) :: (undef : Value) :: (undef : Value) :: (undef : Value) :: (undef : Value) :: (undef : Value) :: (undef : Value) :: (undef : Value) :: (undef : Value) :: (undef : Value) :: (undef : Value) :: (undef : Value) :: (undef : Value) :: (undef : Value) :: (undef : Value) :: (undef : Value) :: (undef : Value) :: (undef : Value) :: (undef : Value) :: (undef : Value) :: (undef : Value) :: (undef : Value) :: (undef : Value) :: (undef : Value) :: (undef : Value) :: (undef : Value) :: (undef : Value) :: (undef : Value) :: (undef : Value) :: (undef : Value) :: (undef : Value) :: (undef : Value) :: (undef : Value) :: (undef : Value) :: (undef : Value) :: (undef : Value) :: (undef : Value) :: (undef : Value) :: (undef : Value) :: (undef : Value) :: (undef : Value) :: (undef : Value) :: (undef : Value) :: (undef : Value) :: (undef : Value) :: (undef : Value) :: (undef : Value) :: []).toArray) (fun _ => undef) (RcInv W2 (fun j => ([.agg #[.slice ao len cap, .int .i64 t], .pointer (some ⟨ab, ai, none⟩), .pointer (some ⟨ab, ai, none⟩), .agg #[.int .i64 ok, .string ox, .bool og, .int .u64 on], .tuple #[.agg #[.int .i64 A, .int .i64 B], .int .i64 E], .tuple #[.agg #[.int .i64 A, .int .i64 B], .int .i64 E], .agg #[.int .i64 A, .int .i64 B], .int .i64 E, undef, undef, .int .i64 E] : List Value).getD j undef) 103 #[.int .i64 0, .int .i64 0] #[.int .i64 A, .int .i64 B]) (by kernel_rfl) (by kernel_rfl) (RcInv.start (Below.refl _ _).drew) (fun j hj dn v w1 hI hdn hcl hd => ?_) (fun v w1 hI => ?_) (fun dn v w1 ha h => h.all (Nat.le_refl _) ha)
    · have y0 := Pa.keep6 hI.below HX0.out
      have y1 := Pa.keep6 hI.below HX1.out
      have y2 := Pa.keep6 hI.below HX2.out
      have y3 := Pa.keep6 hI.below HX3.out
      have z0 := cell_at (j := 0) (rowKeep hI.below HOO.out.sc) rfl
      have z1 := cell_at (j := 1) (rowKeep hI.below HOO.out.sc) rfl
      have hj11 : j = 0 ∨ j = 1 ∨ j = 2 ∨ j = 3 ∨ j = 4 ∨ j = 5 ∨ j = 6 ∨ j = 7 ∨ j = 8 ∨ j = 9 ∨ j = 10 := by have : j < 11 := hj; omega
      rcases hj11 with rfl | rfl | rfl | rfl | rfl | rfl | rfl | rfl | rfl | rfl | rfl
      · refine wpOp_step (o := _) rfl (fun K' hK => ?_)
        go_simp
        exact hK _ _ ⟨.agg #[.slice ao len cap, .int .i64 t], rfl, hI.step (by decide) (by decide) rfl (Below.refl _ _)⟩
      · refine wpOp_step (o := _) rfl (fun K' hK => ?_)
        go_simp
        exact hK _ _ ⟨.pointer (some ⟨ab, ai, none⟩), rfl, hI.step (by decide) (by decide) rfl (Below.refl _ _)⟩
      · have e1 : v 1 = .pointer (some ⟨ab, ai, none⟩) := hI.told 1 (by decide) (hd 1 (List.contains_iff_mem.1 (by kernel_rfl))) (by decide) (by decide)
        refine wpOp_step (o := _) rfl (fun K' hK => ?_)
        go_simp
        exact hK _ _ ⟨.pointer (some ⟨ab, ai, none⟩), fr_eqO (by simp [upd, e1]), hI.step (by decide) (by decide) rfl (Below.refl _ _)⟩
      · have e2 : v 2 = .pointer (some ⟨ab, ai, none⟩) := hI.told 2 (by decide) (hd 2 (List.contains_iff_mem.1 (by kernel_rfl))) (by decide) (by decide)
        refine wpOp_step (o := _) rfl (fun K' hK => ?_)
        go_simp
        exact hK _ _ ⟨.agg #[.int .i64 ok, .string ox, .bool og, .int .u64 on], fr_eqO (by simp [upd, e2]), hI.step (by decide) (by decide) rfl (Below.refl _ _)⟩
      · have e0 : v 0 = .agg #[.slice ao len cap, .int .i64 t] := hI.told 0 (by decide) (hd 0 (List.contains_iff_mem.1 (by kernel_rfl))) (by decide) (by decide)
        have e3 : v 3 = .agg #[.int .i64 ok, .string ox, .bool og, .int .u64 on] := hI.told 3 (by decide) (hd 3 (List.contains_iff_mem.1 (by kernel_rfl))) (by decide) (by decide)
        refine wpOp_step (o := _) rfl (fun K' hK => ?_)
        go_simp
        refine (HSX.out w1 (HBE.out.trans (hI.below.mono HBE.out.size))).mono ?_
        rintro e w3 ⟨rfl, hb3⟩
        exact hK _ _ ⟨_, fr_eqO (by simp [upd, e0, e3]), hI.step (by decide) (by decide) rfl hb3⟩
      · have e4 : v 4 = .tuple #[.agg #[.int .i64 A, .int .i64 B], .int .i64 E] := hI.told 4 (by decide) (hd 4 (List.contains_iff_mem.1 (by kernel_rfl))) (by decide) (by decide)
        refine wpOp_step (o := _) rfl (fun K' hK => ?_)
        go_simp
        exact hK _ _ ⟨.tuple #[.agg #[.int .i64 A, .int .i64 B], .int .i64 E], fr_eqO (by simp [upd, e4]), hI.step (by decide) (by decide) rfl (Below.refl _ _)⟩
      · have e5 : v 5 = .tuple #[.agg #[.int .i64 A, .int .i64 B], .int .i64 E] := hI.told 5 (by decide) (hd 5 (List.contains_iff_mem.1 (by kernel_rfl))) (by decide) (by decide)
        refine wpOp_step (o := _) rfl (fun K' hK => ?_)
        go_simp
        exact hK _ _ ⟨.agg #[.int .i64 A, .int .i64 B], fr_eqO (by simp [upd, e5]), hI.step (by decide) (by decide) rfl (Below.refl _ _)⟩
      · have e5 : v 5 = .tuple #[.agg #[.int .i64 A, .int .i64 B], .int .i64 E] := hI.told 5 (by decide) (hd 5 (List.contains_iff_mem.1 (by kernel_rfl))) (by decide) (by decide)
        refine wpOp_step (o := _) rfl (fun K' hK => ?_)
        go_simp
        exact hK _ _ ⟨.int .i64 E, fr_eqO (by simp [upd, e5]), hI.step (by decide) (by decide) rfl (Below.refl _ _)⟩
      · have h9 : dn 9 = false := by cases h : dn 9 with | false => rfl | true => (have := hcl 9 (by decide) h 8 (List.contains_iff_mem.1 (by kernel_rfl)); rw [hdn] at this; cases this)
        refine wpOp_step (o := _) rfl (fun K' hK => ?_)
        go_simp
        exact hK _ _ ⟨.pointer (some ⟨w1.heap.size, 0, none⟩), rfl, hI.make h9⟩
      · have e6 : v 6 = .agg #[.int .i64 A, .int .i64 B] := hI.told 6 (by decide) (hd 6 (List.contains_iff_mem.1 (by kernel_rfl))) (by decide) (by decide)
        obtain ⟨p, e8, hp, hbox⟩ := hI.box (hd 8 (List.contains_iff_mem.1 (by kernel_rfl)))
        rw [hdn, if_neg (by decide)] at hbox
        have d0 := cell_at (j := 0) hbox rfl
        have f0 := free_at (j := 0) hbox
        have d1 := cell_at (j := 1) hbox rfl
        have f1 := free_at (j := 1) hbox
        refine wpOp_step (o := _) rfl (fun K' hK => ?_)
        go_simp
        exact hK _ _ ⟨undef, fr_eqO (by simp [upd, e8, e6]), hI.fill e8 hp (set_at (j := 1) (u := .int .i64 B) (set_at (j := 0) (u := .int .i64 A) hbox)) (((hI.below).setCell (p := ⟨p, 0, none⟩) hp _).setCell (p := ⟨p, 1, none⟩) hp _)⟩
      · have e7 : v 7 = .int .i64 E := hI.told 7 (by decide) (hd 7 (List.contains_iff_mem.1 (by kernel_rfl))) (by decide) (by decide)
        refine wpOp_step (o := _) rfl (fun K' hK => ?_)
        go_simp
        exact hK _ _ ⟨.int .i64 E, fr_eqO (by simp [upd, e7]), hI.step (by decide) (by decide) rfl (Below.refl _ _)⟩
    · obtain ⟨p, e8, hp, hbox⟩ := hI.box rfl
      rw [if_pos rfl] at hbox
      have e0 : v 0 = .agg #[.slice ao len cap, .int .i64 t] := hI.told 0 (by decide) rfl (by decide) (by decide)
      have e1 : v 1 = .pointer (some ⟨ab, ai, none⟩) := hI.told 1 (by decide) rfl (by decide) (by decide)
      have e2 : v 2 = .pointer (some ⟨ab, ai, none⟩) := hI.told 2 (by decide) rfl (by decide) (by decide)
      have e3 : v 3 = .agg #[.int .i64 ok, .string ox, .bool og, .int .u64 on] := hI.told 3 (by decide) rfl (by decide) (by decide)
      have e4 : v 4 = .tuple #[.agg #[.int .i64 A, .int .i64 B], .int .i64 E] := hI.told 4 (by decide) rfl (by decide) (by decide)
      have e5 : v 5 = .tuple #[.agg #[.int .i64 A, .int .i64 B], .int .i64 E] := hI.told 5 (by decide) rfl (by decide) (by decide)
      have e6 : v 6 = .agg #[.int .i64 A, .int .i64 B] := hI.told 6 (by decide) rfl (by decide) (by decide)
      have e7 : v 7 = .int .i64 E := hI.told 7 (by decide) rfl (by decide) (by decide)
      have e10 : v 10 = .int .i64 E := hI.told 10 (by decide) rfl (by decide) (by decide)
      have HI1 := Lib.hid hI.below
      have HBX := Lib.hid hbox
      have HPP := Lib.hid hp
      simp only [e0, e1, e2, e3, e4, e5, e6, e7, e8, e10]
      clear e0 e1 e2 e3 e4 e5 e6 e7 e8 e10 hI hbox hp
      have r1 := cell_at (j := 0) (rowKeep HI1.out HOO.out.rs) rfl
      have r2 := free_at (j := 0) (rowKeep HI1.out HOO.out.rs)
      by_cases hE : E = 0
      · subst hE
        have k9 : ((0 : Int) != 0) = false := rfl
        have hrow := HOO.out.row
        obtain ⟨va, vcap, rfl⟩ : ∃ a c, sv = .slice a n c := by
          rcases hrow.2 with ⟨rfl, h0⟩ | ⟨g, cp, cur, rfl, _⟩
          · exact ⟨none, 0, by rw [HLN.out] at h0; rw [h0]⟩
          · exact ⟨_, _, by rw [HLN.out]⟩
        rw [HLN.out] at hrow
        have HRW := Lib.hid ((Only.of_below (S := fun _ => False) HI1.out).row hrow (fun _ _ f => f))
        have HVB := Lib.hid (fun k (hk : (Value.slice va n vcap).ownBlock = some k) => hrow.lt k hk)
        have HVB1 := Lib.hid (fun k (hk : (Value.slice va n vcap).ownBlock = some k) => (HRW.out.lt k hk).2)
        have HLS := Lib.hid (rowKeep HI1.out HOO.out.ls)
        have HQ0 := Lib.hid (cell_at (j := 0) HLS.out rfl)
        have HX01 := Lib.hid (Pa.keep6 HI1.out HX0.out)
        have HX11 := Lib.hid (Pa.keep6 HI1.out HX1.out)
        have HX21 := Lib.hid (Pa.keep6 HI1.out HX2.out)
        have HX31 := Lib.hid (Pa.keep6 HI1.out HX3.out)
        have HY0 := Lib.hid (cell_at (j := 0) HBX.out rfl)
        have HY1 := Lib.hid (cell_at (j := 1) HBX.out rfl)
        have HSZ1 := Lib.hid (show w.heap.size + 4 ≤ w1.heap.size from Nat.le_trans HSZ.out HI1.out.size)
        have HU := Lib.hid (show ∀ u ∈ ([.int .i64 ok, .string ox, .bool og, .int .u64 on, .int .i64 A, .int .i64 B] : List Value), u.oneCell' = true from by intro u hu; simp only [List.mem_cons, List.not_mem_nil, or_false] at hu; rcases hu with rfl | rfl | rfl | rfl | rfl | rfl <;> rfl)
        have hn9 : n < 1000 := HN9.out
        clear r1 r2 hrow
        gi_wp2
        refine wpIn_region_pre hmix (by kernel_rfl) (fun ⟨_, _, h⟩ => h) 8 7 (fun v => ((.agg #[.slice ao len cap, .int .i64 t] : Value) :: (.pointer (some ⟨b, off, none⟩) : Value) :: (.pointer (some ⟨w.heap.size, 0, none⟩) : Value) :: (undef : Value) :: (.pointer (some ⟨w.heap.size + 1, 0, none⟩) : Value) :: (.pointer (some ⟨w.heap.size + 1 + 1, 0, none⟩) : Value) :: (.pointer (some ⟨ab, ai, none⟩) : Value) :: (.pointer (some ⟨p, 0, none⟩) : Value) :: (.int .i64 0 : Value) :: (undef : Value) :: (.pointer (some ⟨b, off, none⟩) : Value) :: (.func (.func 49) #[] #[.pointer (some ⟨w.heap.size + 1 + 1 + 1, 0, none⟩)] : Value) :: (.pointer (some ⟨ab, ai, none⟩) : Value) :: (.tuple #[.agg #[.int .i64 A, .int .i64 B], .int .i64 0] : Value) :: (.agg #[.slice ao len cap, .int .i64 t] : Value) :: (.pointer (some ⟨ab, ai, none⟩) : Value) :: (.pointer (some ⟨ab, ai, none⟩) : Value) :: (.agg #[.int .i64 ok, .string ox, .bool og, .int .u64 on] : Value) :: (.tuple #[.agg #[.int .i64 A, .int .i64 B], .int .i64 0] : Value) :: (.agg #[.int .i64 A, .int .i64 B] : Value) :: (.int .i64 0 : Value) :: (.int .i64 0 : Value) :: (.bool false : Value) :: (undef : Value) :: v 0 :: v 1 :: v 2 :: v 3 :: v 4 :: v 5 :: v 6 :: v 7 :: (undef : Value) :: (undef : Value) :: (undef : Value) :: (undef : Value) :: (undef : Value) :: (undef : Value) :: (undef : Value) :: (undef : Value) :: (undef : Value) :: (undef : Value) :: (undef : Value) :: (undef : Value) :: (undef : Value) :: (undef : Value) :: (undef : Value) :: (undef : Value) :: (undef : Value) :: (undef : Value) :: (undef : Value) :: (undef : Value) :: (undef : Value) :: (undef : Value) :: (undef : Value) :: (undef : Value) :: (undef : Value) :: (undef : Value) :: (undef : Value) :: (undef : Value) :: (undef : Value) :: (undef : Value) :: (undef : Value) :: (undef : Value) :: (undef : Value) :: (undef : Value) :: (undef : Value) :: (undef : Value) :: (undef : Value) :: (undef : Value) :: (undef : Value) :: (undef : Value) :: (undef : Value) :: (undef : Value) :: (undef : Value) :: (undef : Value) :: (undef : Value) :: (undef : Value) :: (undef : Value) :: (undef : Value) :: (undef : Value) :: (undef : Value) :: (undef : Value) :: (undef : Value) :: (undef : Value) :: (undef : Value) :: (undef : Value) :: (undef : Value) :: (undef : Value) :: (undef : Value) :: []).toArray) (fun _ => undef) (ApOk 107 6 (w.heap.size + 4) n ((pre2.map (opIx T.an)).flatMap (sdL L len t T)) [.int .i64 ok, .string ox, .bool og, .int .u64 on, .int .i64 A, .int .i64 B] w1.heap.size ((.slice va n vcap) : Value).ownBlock (fun j => ([.slice va n vcap, .pointer (some ⟨ab, ai, none⟩), .pointer (some ⟨ab, ai, none⟩), .agg #[.int .i64 ok, .string ox, .bool og, .int .u64 on], .agg #[.int .i64 A, .int .i64 B], .agg #[.int .i64 ok, .string ox, .bool og, .int .u64 on, .int .i64 A, .int .i64 B]] : List Value).getD j undef)) (fun w' => Only (fun k => ((.slice va n vcap) : Value).ownBlock = some k) w1 w') (fun w' => w'.ownsRow (w.heap.size + 4) 107 6 (.slice va n vcap) n ((pre2.map (opIx T.an)).flatMap (sdL L len t T))) (Nat.le_of_ble_eq_true (by kernel_rfl)) (by kernel_rfl) (Only.refl _ _).drew HRW.out.drew (fun j hj v w3 hBx hPx hd => ?_) (fun v w3 hv hBx => ?_)
        · have q0 := only_cell hBx HQ0.out (fun e => by have := HVB.out (w.heap.size + 1 + 1) e; omega)
          have q1 := only_cell hBx HX01.out (fun e => by have := HVB.out ab e; have := HAB.out; omega)
          have q2 := only_cell hBx HX11.out (fun e => by have := HVB.out ab e; have := HAB.out; omega)
          have q3 := only_cell hBx HX21.out (fun e => by have := HVB.out ab e; have := HAB.out; omega)
          have q4 := only_cell hBx HX31.out (fun e => by have := HVB.out ab e; have := HAB.out; omega)
          have q5 := only_cell hBx HY0.out (fun e => by have := HVB.out p e; have := HPP.out; omega)
          have q6 := only_cell hBx HY1.out (fun e => by have := HVB.out p e; have := HPP.out; omega)
          have hj8 : j = 0 ∨ j = 1 ∨ j = 2 ∨ j = 3 ∨ j = 4 ∨ j = 5 ∨ j = 6 ∨ j = 7 := by omega
          rcases hj8 with rfl | rfl | rfl | rfl | rfl | rfl | rfl | rfl
          · refine wpOp_step (o := _) rfl (fun K' hK => ?_)
            go_simp
            exact hK _ _ ⟨.slice va n vcap, rfl, rfl, hBx, fun _ h => h, fun k y _ h => h⟩
          · refine wpOp_step (o := _) rfl (fun K' hK => ?_)
            go_simp
            exact hK _ _ ⟨.pointer (some ⟨ab, ai, none⟩), rfl, rfl, hBx, fun _ h => h, fun k y _ h => h⟩
          · have e1 : v 1 = .pointer (some ⟨ab, ai, none⟩) := hd 1 (List.contains_iff_mem.1 (by kernel_rfl))
            refine wpOp_step (o := _) rfl (fun K' hK => ?_)
            go_simp
            exact hK _ _ ⟨.pointer (some ⟨ab, ai, none⟩), fr_eqO (by simp [upd, e1]), rfl, hBx, fun _ h => h, fun k y _ h => h⟩
          · have e2 : v 2 = .pointer (some ⟨ab, ai, none⟩) := hd 2 (List.contains_iff_mem.1 (by kernel_rfl))
            refine wpOp_step (o := _) rfl (fun K' hK => ?_)
            go_simp
            exact hK _ _ ⟨.agg #[.int .i64 ok, .string ox, .bool og, .int .u64 on], fr_eqO (by simp [upd, e2]), rfl, hBx, fun _ h => h, fun k y _ h => h⟩
          · refine wpOp_step (o := _) rfl (fun K' hK => ?_)
            go_simp
            exact hK _ _ ⟨.agg #[.int .i64 A, .int .i64 B], rfl, rfl, hBx, fun _ h => h, fun k y _ h => h⟩
          · have e3 : v 3 = .agg #[.int .i64 ok, .string ox, .bool og, .int .u64 on] := hd 3 (List.contains_iff_mem.1 (by kernel_rfl))
            have e4 : v 4 = .agg #[.int .i64 A, .int .i64 B] := hd 4 (List.contains_iff_mem.1 (by kernel_rfl))
            refine wpOp_step (o := _) rfl (fun K' hK => ?_)
            go_simp
            exact hK _ _ ⟨.agg #[.int .i64 ok, .string ox, .bool og, .int .u64 on, .int .i64 A, .int .i64 B], fr_eqO (by simp [upd, e3, e4]), rfl, hBx, fun _ h => h, fun k y _ h => h⟩
          · have e5 : v 5 = .agg #[.int .i64 ok, .string ox, .bool og, .int .u64 on, .int .i64 A, .int .i64 B] := hd 5 (List.contains_iff_mem.1 (by kernel_rfl))
            refine wpOp_step (o := _) rfl (fun K' hK => ?_)
            go_simp
            exact hK _ _ ⟨.slice (some ⟨w3.heap.size, 0, none⟩) 1 1, fr_eqO (by simp [upd, e5]), ApOk.six ⟨_, rfl, World.alloc_heap_new w3 _, hBx.size⟩, hBx.alloc _, fun _ h => h.alloc _, fun k y _ h => h.alloc _⟩
          · have e0 : v 0 = .slice va n vcap := hd 0 (List.contains_iff_mem.1 (by kernel_rfl))
            obtain ⟨p2, e6, hp6, hwp⟩ : ∃ p2, v 6 = .slice (some ⟨p2, 0, none⟩) 1 1 ∧ w3.heap[p2]? = some (.cells ([.int .i64 ok, .string ox, .bool og, .int .u64 on, .int .i64 A, .int .i64 B] : List Value).toArray 107 (0, 0)) ∧ w1.heap.size ≤ p2 := hd 6 (List.contains_iff_mem.1 (by kernel_rfl))
            have hpre7 := hPx rfl
            refine wpOp_step (o := _) rfl (fun K' hK => ?_)
            refine step_append_lies _ (by rfl) (.tmp 24) (.tmp 30) 101 (by rfl) (w.heap.size + 4) 107 i0 (.agg #[.int .i64 0, .string ⟨#[]⟩, .bool false, .int .u64 0, .int .i64 0, .int .i64 0]) 6 56 Tryz.underlying101 hinf iz0 iz1 iz2 (by rfl) (by decide) (.slice va n vcap) n ((pre2.map (opIx T.an)).flatMap (sdL L len t T)) (by exact e0) hpre7 ⟨p2, 0, none⟩ 1 1 [.int .i64 ok, .string ox, .bool og, .int .u64 on, .int .i64 A, .int .i64 B] (by exact e6) (by rfl) (World.news_of_block hp6) HU.out (by decide) (by unfold maxLen; omega) (by omega) (by have := hBx.size; have := HSZ1.out; omega) w3.heap.size rfl ?_
            intro g cap9 w4 hown4 hgrow hat hlt4
            exact hK _ _ ⟨_, rfl, ApOk.seven ⟨g, cap9, rfl, hown4, by rcases hat with h | h; exact .inl h; exact .inr (by rw [h]; exact hBx.size)⟩, hBx.grown hgrow (fun k hk => .inl hk), fun h => absurd rfl h, fun k y hk h => h.grow hk hgrow (fun k hk => (HVB1.out k hk))⟩
        · have e0 : v 0 = .slice va n vcap := hv 0 (by decide)
          have e1 : v 1 = .pointer (some ⟨ab, ai, none⟩) := hv 1 (by decide)
          have e2 : v 2 = .pointer (some ⟨ab, ai, none⟩) := hv 2 (by decide)
          have e3 : v 3 = .agg #[.int .i64 ok, .string ox, .bool og, .int .u64 on] := hv 3 (by decide)
          have e4 : v 4 = .agg #[.int .i64 A, .int .i64 B] := hv 4 (by decide)
          have e5 : v 5 = .agg #[.int .i64 ok, .string ox, .bool og, .int .u64 on, .int .i64 A, .int .i64 B] := hv 5 (by decide)
          obtain ⟨p2, e6, _, _⟩ : ∃ p2, v 6 = .slice (some ⟨p2, 0, none⟩) 1 1 ∧ w3.heap[p2]? = some (.cells ([.int .i64 ok, .string ox, .bool og, .int .u64 on, .int .i64 A, .int .i64 B] : List Value).toArray 107 (0, 0)) ∧ w1.heap.size ≤ p2 := hv 6 (by decide)
          obtain ⟨g, gcap, e7, hown7, hgat⟩ : ∃ g cap, v 7 = .slice (some ⟨g, 0, none⟩) (n + 1) cap ∧ w3.ownsRow (w.heap.size + 4) 107 6 (v 7) (n + 1) (((pre2.map (opIx T.an)).flatMap (sdL L len t T)) ++ ([.int .i64 ok, .string ox, .bool og, .int .u64 on, .int .i64 A, .int .i64 B] : List Value)) ∧ (((.slice va n vcap) : Value).ownBlock = some g ∨ w1.heap.size ≤ g) := by
            have h7 := hv 7 (by decide)
            unfold ApOk at h7
            rw [if_neg (by decide), if_pos rfl] at h7
            exact h7
          rw [e7] at hown7
          have HO7 := Lib.hid hown7
          have HB7 := Lib.hid hBx
          have hq := hBx.same HLS.out (fun e => by have := HVB.out _ e; omega)
          have q0 := cell_at (j := 0) hq rfl
          have fq := free_at (j := 0) hq
          have HQ := Lib.hid hq
          clear hv hown7 hBx hq hgat
          refine wpAny_of_held (S := fun _ => True) _ _ _ _ ?_
          simp only [e0, e1, e2, e3, e4, e5, e6, e7]
          clear e0 e1 e2 e3 e4 e5 e6 e7
          refine wpAnyH_ready (fuel := 0) (rs := [8]) (by kernel_rfl) (by simp) ?_
          refine AllReadyH.cons (o := _) rfl (fun K hK => ?_) AllReadyH.nil
          go_simp
          refine hK.out _ _ trivial (fun _ => ?_)
          clear hK K
          refine wpAnyH_done (by kernel_rfl) ?_ _
          gi_wp2
          have o1 : Only (fun k => w.heap.size + 4 ≤ k ∨ k = w.heap.size + 1 ∨ k = w.heap.size + 1 + 1) W2 w1 := Only.of_below HI1.out
          have o2 : Only (fun k => w.heap.size + 4 ≤ k ∨ k = w.heap.size + 1 ∨ k = w.heap.size + 1 + 1) w1 w3 := HB7.out.mono (fun k _ hk => .inl (HVB.out k hk).1)
          have o3 := (onlyK_t o1 o2).setCell (p := ⟨w.heap.size + 1 + 1, 0, none⟩) (.inl (.inr (.inr rfl))) (.slice (some ⟨g, 0, none⟩) (n + 1) gcap)
          have os : Only (fun k => k = w.heap.size + 1 + 1) w3 (w3.setCell ⟨w.heap.size + 1 + 1, 0, none⟩ (.slice (some ⟨g, 0, none⟩) (n + 1) gcap)) := Only.setCell (S := fun k => k = w.heap.size + 1 + 1) (Only.refl _ w3) (.inl rfl) _
          refine ⟨((KeepsFrom.of_below HI1.out).trans (keeps_only HB7.out (row_cells HRW.out))).trans ((KeepsOthers.setCell _ _ _).from _), o3, ?_, .slice (some ⟨g, 0, none⟩) (n + 1) gcap, ?_⟩
          · intro k hk
            rw [List.map_append, List.mem_append] at hk
            rcases hk with hk | hk
            · exact HZ.out k hk
            · simp only [List.map_cons, List.map_nil, List.mem_singleton] at hk
              rw [hk, HIX.out, HXE.out]
          · have hb1 : Below w.heap.size w w3 := (HBE.out.trans (HI1.out.mono HBE.out.size)).trans (HB7.out.below (fun k hk => by have := (HVB.out k hk).1; omega) (by have := HI1.out.size; have := HBE.out.size; omega))
            have hns : (pre2 ++ [x]).map (opIx T.an) = pre2.map (opIx T.an) ++ [i] := by rw [List.map_append, List.map_cons, List.map_nil, HIX.out]
            have hsd : sdL L len t T i = [.int .i64 ok, .string ox, .bool og, .int .u64 on, .int .i64 A, .int .i64 B] := by
              unfold sdL
              rw [HXE.out, HOP2.out]
              simp only [HAA.out, HBB.out]
            refine ⟨?_, ?_, ?_, ?_, ?_, ?_⟩
            · exact os.same (HB7.out.same (rowKeep HI1.out HOO.out.sc) (fun e => by have := HVB.out _ e; omega)) (by omega)
            · exact os.same (HB7.out.same (rowKeep HI1.out HOO.out.rs) (fun e => by have := HVB.out _ e; omega)) (by omega)
            · exact set_at HQ.out
            · rw [hns, List.flatMap_append, List.flatMap_singleton, hsd, List.length_append, List.length_singleton, HLN.out]
              exact os.row HO7.out (fun k hk e => by have := HO7.out.lt k hk; omega)
            · exact os.below_step hb1 (fun k hk => by omega) (Nat.le_refl _)
            · have := HI1.out.size
              have := HB7.out.size
              have := HSZ.out
              simp only [World.size_setCell]
              omega
      · have k9 : (E != 0) = true := by simpa using hE
        gi_wp2
        refine ⟨(KeepsFrom.of_below HI1.out).trans ((KeepsOthers.setCell _ _ _).from _), rfl, pre2, x, rfl, HZ.out, ?_, ?_, ?_⟩
        · rw [HIX.out, HXE.out]; exact hE
        · rw [HIX.out, HXE.out]
          exact set_at (j := 0) (u := .int .i64 E) (rowKeep HI1.out HOO.out.rs)
        · exact (HBE.out.trans (HI1.out.mono HBE.out.size)).setCell (p := ⟨w.heap.size + 1, 0, none⟩) (by simp) _
  case done =>
    rintro D xs W hD rfl ⟨hz, v, HO⟩ hdk
    have hmap : (List.range T.an).map (opIx T.an) = List.range T.an := opIx_map _ (fun i hi => List.mem_range.1 hi)
    rw [hmap] at hz HO
    rw [List.length_range] at HO
    have hE0 : argE L len t T.arg T.an = 0 := Pa.firstE_none (fun i hi => by rw [bne_eq_false_iff_eq]; exact hz i (List.mem_range.2 hi))
    have hr : R = if badF T.op T.rel T.an T.kn then 1 else goE L len t T.op T.rel T.arg := by
      rw [← hR]; unfold ownE; rw [hE0, if_neg (fun h => h rfl)]
    have hrow := HO.row
    obtain ⟨va, vcap, rfl⟩ : ∃ a c, v = .slice a T.an c := by
      rcases hrow.2 with ⟨rfl, h0⟩ | ⟨g, cp, cur, rfl, _⟩
      · exact ⟨none, 0, by rw [h0]⟩
      · exact ⟨_, _, rfl⟩
    have HSD := Lib.hid (fun g (hg : va = some ⟨g, 0, none⟩) i (hi : i < T.an) => (show SdAt W g i (T.arg i) (whatA L len t (T.arg i)).1 from by subst hg; exact sd_at hrow hi))
    have HVA := Lib.hid (show 0 < T.an → ∃ g, va = some ⟨g, 0, none⟩ from by
      intro h0
      rcases hrow.2 with ⟨hv, h1⟩ | ⟨g, cp, cur, hv, _⟩
      · omega
      · injection hv with e1 e2 e3; exact ⟨g, e1⟩)
    have HFM := Lib.hid (fun wx (hx : Below w.heap.size w wx) => hasForm_any T b off wx (hl.held (hx.block b hb)))
    unfold FormTo at HFM
    have HLI := Lib.hid (fun wx (hx : Below w.heap.size w wx) => hl.held (hx.block b hb))
    have HCM := Lib.hid (fun (rel : Int) (h1 : 1 ≤ rel) i j wx (hx : Below w.heap.size w wx) => compare_any L ao len cap hlen t rel h1 (T.arg i) _ (what_ok L len t (T.arg i)) (T.arg j) _ (what_ok L len t (T.arg j)) wx (hold18 H hx))
    unfold CmpTo at HCM
    have HBE := Lib.hid HO.bel
    have HM := Lib.hid (fun wx (hb : Below W.heap.size W wx) => (show wx.heap[w.heap.size]? = some (.cells #[.slice ao len cap, .int .i64 t] 62) ∧ wx.heap[w.heap.size + 1]? = some (.cells #[.int .i64 0] 30) ∧ wx.heap[w.heap.size + 1 + 1]? = some (.cells #[.slice va T.an vcap] 101) ∧ wx.heap[D]? = some (.deferred (some [])) ∧ Below w.heap.size w wx from ⟨rowKeep hb HO.sc, rowKeep hb HO.rs, rowKeep hb HO.ls, (hb.block D (Array.getElem?_eq_some_iff.1 hdk).1).trans hdk, HO.bel.trans (hb.mono HO.bel.size)⟩))
    have HRR := Lib.hid hr
    have HHB := Lib.hid hb
    clear hz HO hmap hE0 hR hrow hl hwf HA HTX H HOP HSO HW1 HW0 hnode hcb hbx hdk hr
    cases hbf : badF T.op T.rel T.an T.kn with
    | true =>
      have hr := HRR.out
      rw [hbf, if_pos rfl] at hr
      subst hr
      rw [hbf] at HFM
      simp only [Bool.not_true] at HFM
      clear HCM HSD HVA hbf
      go_wp2_with (first | (go_at_call 42; (with_reducible refine (HFM.out _ (by exact HBE.out)).mono ?_); rintro e w1 ⟨rfl, hb1⟩; have HB1 := Lib.hid hb1; have HN := Lib.hid (HM.out w1 hb1); have HM2 := Lib.hid (fun wx (hb : Below w1.heap.size w1 wx) => HM.out wx (hb1.trans (hb.mono hb1.size))); obtain ⟨hA, hB, hC, hD1, hE1⟩ := HN.out; have c0 := cell_at (j := 0) hA rfl; have c1 := cell_at (j := 1) hA rfl; have r0 := cell_at (j := 0) hB rfl; have fr := free_at (j := 0) hB; have l0 := cell_at (j := 0) hC rfl; obtain ⟨y0, y1, y2, y3⟩ := lies_node (HLI.out w1 hE1); clear hA hB hC hD1 hE1 hb1))
      have hVR := (HN.out).2.1
      have hVD := (HN.out).2.2.2.1
      exact own_end (n0 := w.heap.size) (D := D) rfl (setC_def hVD (by omega)) (set_at (j := 0) hVR) ⟨rfl, putD_below (setC_def hVD (by omega)) ((HN.out).2.2.2.2.setCell (p := ⟨w.heap.size + 1, 0, none⟩) (by simp) _) (by omega)⟩
    | false =>
      have hr := HRR.out
      rw [hbf, if_neg (by decide)] at hr
      rw [hbf] at HFM
      simp only [Bool.not_false] at HFM
      have hop6 : T.op = 1 ∨ T.op = 2 ∨ T.op = 3 ∨ (T.op ≠ 1 ∧ T.op ≠ 2 ∧ T.op ≠ 3) := by omega
      rcases hop6 with h1 | h2 | h3 | hno
      · have hb2 := hbf
        unfold badF at hb2
        rw [if_pos h1] at hb2
        have han2 : T.an = 2 ∧ 1 ≤ T.rel := by
          simp only [Bool.not_eq_false', Bool.and_eq_true, decide_eq_true_eq] at hb2
          exact ⟨hb2.1.1.1, hb2.1.2⟩
        have hrA : R = pairA L len t (T.arg 0) (T.arg 1) T.rel := by rw [hr]; unfold goE; rw [if_pos h1]
        unfold pairA at hrA
        have HCA := Lib.hid (fun wx hx => HCM.out T.rel han2.2 0 1 wx hx)
        rw [← hrA] at HCA
        obtain ⟨g, rfl⟩ := HVA.out (by omega)
        have HA0 := Lib.hid (HSD.out g rfl 0 (by omega))
        have HA1 := Lib.hid (HSD.out g rfl 1 (by omega))
        have k1 : (T.op == 1) = true := by rw [h1]; rfl
        have n0 : (0 : Int) < (T.an : Int) := by omega
        have m0 : 0 < T.an := by omega
        have n1 : (1 : Int) < (T.an : Int) := by omega
        clear HCM HSD HVA hbf hr hb2 hrA han2
        go_wp2_with (first | (go_at_call 42; (with_reducible refine (HFM.out _ (by exact HBE.out)).mono ?_); rintro e w1 ⟨rfl, hb1⟩; have HB1 := Lib.hid hb1; have HN := Lib.hid (HM.out w1 hb1); have HM2 := Lib.hid (fun wx (hb : Below w1.heap.size w1 wx) => HM.out wx (hb1.trans (hb.mono hb1.size))); obtain ⟨hA, hB, hC, hD1, hE1⟩ := HN.out; have c0 := cell_at (j := 0) hA rfl; have c1 := cell_at (j := 1) hA rfl; have r0 := cell_at (j := 0) hB rfl; have fr := free_at (j := 0) hB; have l0 := cell_at (j := 0) hC rfl; obtain ⟨y0, y1, y2, y3⟩ := lies_node (HLI.out w1 hE1); have p00 := (show w1.cell? ⟨g, 0, none⟩ = some _ from (HA0.out.next hb1).c0); have p01 := (show w1.cell? ⟨g, 1, none⟩ = some _ from (HA0.out.next hb1).c1); have p02 := (show w1.cell? ⟨g, 2, none⟩ = some _ from (HA0.out.next hb1).c2); have p03 := (show w1.cell? ⟨g, 3, none⟩ = some _ from (HA0.out.next hb1).c3); have p04 := (show w1.cell? ⟨g, 4, none⟩ = some _ from (HA0.out.next hb1).c4); have p05 := (show w1.cell? ⟨g, 5, none⟩ = some _ from (HA0.out.next hb1).c5); have p10 := (show w1.cell? ⟨g, 6, none⟩ = some _ from (HA1.out.next hb1).c0); have p11 := (show w1.cell? ⟨g, 7, none⟩ = some _ from (HA1.out.next hb1).c1); have p12 := (show w1.cell? ⟨g, 8, none⟩ = some _ from (HA1.out.next hb1).c2); have p13 := (show w1.cell? ⟨g, 9, none⟩ = some _ from (HA1.out.next hb1).c3); have p14 := (show w1.cell? ⟨g, 10, none⟩ = some _ from (HA1.out.next hb1).c4); have p15 := (show w1.cell? ⟨g, 11, none⟩ = some _ from (HA1.out.next hb1).c5); clear hA hB hC hD1 hE1 hb1))
        have H_c0 := Lib.hid c0
        have H_c1 := Lib.hid c1
        have H_y1 := Lib.hid y1
        have H_l0 := Lib.hid l0
        have H_p00 := Lib.hid p00
        have H_p01 := Lib.hid p01
        have H_p02 := Lib.hid p02
        have H_p03 := Lib.hid p03
        have H_p04 := Lib.hid p04
        have H_p05 := Lib.hid p05
        have H_p10 := Lib.hid p10
        have H_p11 := Lib.hid p11
        have H_p12 := Lib.hid p12
        have H_p13 := Lib.hid p13
        have H_p14 := Lib.hid p14
        have H_p15 := Lib.hid p15
        clear c0 c1 y1 l0 p00 p01 p02 p03 p04 p05 p10 p11 p12 p13 p14 p15 r0 fr
        refine wp_region_preD hmix [{ target := .collected D, args := #[] }] 12 100 (fun v => ((.agg #[.slice ao len cap, .int .i64 t] : Value) :: (.pointer (some ⟨b, off, none⟩) : Value) :: (.pointer (some ⟨w.heap.size, 0, none⟩) : Value) :: (undef : Value) :: (.pointer (some ⟨w.heap.size + 1, 0, none⟩) : Value) :: (.pointer (some ⟨w.heap.size + 1 + 1, 0, none⟩) : Value) :: (undef : Value) :: (undef : Value) :: (undef : Value) :: (undef : Value) :: (.pointer (some ⟨b, off, none⟩) : Value) :: (.func (.func 49) #[] #[.pointer (some ⟨w.heap.size + 1 + 1 + 1, 0, none⟩)] : Value) :: (undef : Value) :: (undef : Value) :: (undef : Value) :: (undef : Value) :: (undef : Value) :: (undef : Value) :: (undef : Value) :: (undef : Value) :: (undef : Value) :: (undef : Value) :: (undef : Value) :: (undef : Value) :: (undef : Value) :: (undef : Value) :: (undef : Value) :: (undef : Value) :: (undef : Value) :: (undef : Value) :: (undef : Value) :: (undef : Value) :: (.pointer (some ⟨b, off, none⟩) : Value) :: (.bool true : Value) :: (.bool false : Value) :: (.pointer (some ⟨b, off, none⟩) : Value) :: (.pointer (some ⟨b, off, none⟩) : Value) :: (.pointer (some ⟨b, off, none⟩) : Value) :: (.int .i64 1 : Value) :: (.bool true : Value) :: (.bool true : Value) :: v 0 :: v 1 :: v 2 :: v 3 :: v 4 :: v 5 :: v 6 :: v 7 :: v 8 :: v 9 :: v 10 :: v 11 :: (undef : Value) :: (undef : Value) :: (undef : Value) :: (undef : Value) :: (undef : Value) :: (undef : Value) :: (undef : Value) :: (undef : Value) :: (undef : Value) :: (undef : Value) :: (undef : Value) :: (undef : Value) :: (undef : Value) :: (undef : Value) :: (undef : Value) :: (undef : Value) :: (undef : Value) :: (undef : Value) :: (undef : Value) :: (undef : Value) :: (undef : Value) :: (undef : Value) :: (undef : Value) :: (undef : Value) :: (undef : Value) :: (undef : Value) :: (undef : Value) :: (undef : Value) :: (undef : Value) :: (undef : Value) :: (undef : Value) :: (undef : Value) :: (undef : Value) :: (undef : Value) :: (undef : Value) :: (undef : Value) :: (undef : Value) :: []).toArray) (fun _ => undef) (fun j x _ => x = ([.agg #[.slice ao len cap, .int .i64 t], .pointer (some ⟨b, off, none⟩), .pointer (some ⟨b, off, none⟩), .pointer (some ⟨b, off + 1, none⟩), .int .i64 T.rel, .slice (some ⟨g, 0, none⟩) T.an vcap, .pointer (some ⟨g, 0, none⟩), .agg #[.int .i64 (T.arg 0).kind, .string (T.arg 0).text, .bool (T.arg 0).neg, .int .u64 (T.arg 0).num, .int .i64 (sW (whatA L len t (T.arg 0)).1), .int .i64 (sO (whatA L len t (T.arg 0)).1)], .slice (some ⟨g, 0, none⟩) T.an vcap, .pointer (some ⟨g, 6, none⟩), .agg #[.int .i64 (T.arg 1).kind, .string (T.arg 1).text, .bool (T.arg 1).neg, .int .u64 (T.arg 1).num, .int .i64 (sW (whatA L len t (T.arg 1)).1), .int .i64 (sO (whatA L len t (T.arg 1)).1)], .int .i64 R] : List Value).getD j undef) (fun w' => Below w1.heap.size w1 w') (fun _ => True) (Nat.le_of_ble_eq_true (by kernel_rfl)) (by kernel_rfl) (Below.refl _ _).drew trivial (fun j hj v w3 hBx hPx hd => ?_) (fun v w3 hv hBx => ?_)
        · have z_c0 := Pa.keep6 hBx H_c0.out
          have z_c1 := Pa.keep6 hBx H_c1.out
          have z_y1 := Pa.keep6 hBx H_y1.out
          have z_l0 := Pa.keep6 hBx H_l0.out
          have z_p00 := Pa.keep6 hBx H_p00.out
          have z_p01 := Pa.keep6 hBx H_p01.out
          have z_p02 := Pa.keep6 hBx H_p02.out
          have z_p03 := Pa.keep6 hBx H_p03.out
          have z_p04 := Pa.keep6 hBx H_p04.out
          have z_p05 := Pa.keep6 hBx H_p05.out
          have z_p10 := Pa.keep6 hBx H_p10.out
          have z_p11 := Pa.keep6 hBx H_p11.out
          have z_p12 := Pa.keep6 hBx H_p12.out
          have z_p13 := Pa.keep6 hBx H_p13.out
          have z_p14 := Pa.keep6 hBx H_p14.out
          have z_p15 := Pa.keep6 hBx H_p15.out
          have hjj : j = 0 ∨ j = 1 ∨ j = 2 ∨ j = 3 ∨ j = 4 ∨ j = 5 ∨ j = 6 ∨ j = 7 ∨ j = 8 ∨ j = 9 ∨ j = 10 ∨ j = 11 := by omega
          rcases hjj with rfl | rfl | rfl | rfl | rfl | rfl | rfl | rfl | rfl | rfl | rfl | rfl
          · refine wpOp_step (o := _) rfl (fun K' hK => ?_)
            go_simp
            exact hK _ _ ⟨.agg #[.slice ao len cap, .int .i64 t], rfl, rfl, hBx, fun _ h => h, fun k y _ h => h⟩
          · refine wpOp_step (o := _) rfl (fun K' hK => ?_)
            go_simp
            exact hK _ _ ⟨.pointer (some ⟨b, off, none⟩), rfl, rfl, hBx, fun _ h => h, fun k y _ h => h⟩
          · have e1 : v 1 = .pointer (some ⟨b, off, none⟩) := hd 1 (List.contains_iff_mem.1 (by kernel_rfl))
            refine wpOp_step (o := _) rfl (fun K' hK => ?_)
            go_simp
            exact hK _ _ ⟨.pointer (some ⟨b, off, none⟩), fr_eqD (by simp [upd, e1]), rfl, hBx, fun _ h => h, fun k y _ h => h⟩
          · have e2 : v 2 = .pointer (some ⟨b, off, none⟩) := hd 2 (List.contains_iff_mem.1 (by kernel_rfl))
            refine wpOp_step (o := _) rfl (fun K' hK => ?_)
            go_simp
            exact hK _ _ ⟨.pointer (some ⟨b, off + 1, none⟩), fr_eqD (by simp [upd, e2]), rfl, hBx, fun _ h => h, fun k y _ h => h⟩
          · have e3 : v 3 = .pointer (some ⟨b, off + 1, none⟩) := hd 3 (List.contains_iff_mem.1 (by kernel_rfl))
            refine wpOp_step (o := _) rfl (fun K' hK => ?_)
            go_simp
            exact hK _ _ ⟨.int .i64 T.rel, fr_eqD (by simp [upd, e3]), rfl, hBx, fun _ h => h, fun k y _ h => h⟩
          · refine wpOp_step (o := _) rfl (fun K' hK => ?_)
            go_simp
            exact hK _ _ ⟨.slice (some ⟨g, 0, none⟩) T.an vcap, rfl, rfl, hBx, fun _ h => h, fun k y _ h => h⟩
          · have e5 : v 5 = .slice (some ⟨g, 0, none⟩) T.an vcap := hd 5 (List.contains_iff_mem.1 (by kernel_rfl))
            refine wpOp_step (o := _) rfl (fun K' hK => ?_)
            go_simp
            exact hK _ _ ⟨.pointer (some ⟨g, 0, none⟩), fr_eqD (by simp [upd, e5]), rfl, hBx, fun _ h => h, fun k y _ h => h⟩
          · have e6 : v 6 = .pointer (some ⟨g, 0, none⟩) := hd 6 (List.contains_iff_mem.1 (by kernel_rfl))
            refine wpOp_step (o := _) rfl (fun K' hK => ?_)
            go_simp
            exact hK _ _ ⟨.agg #[.int .i64 (T.arg 0).kind, .string (T.arg 0).text, .bool (T.arg 0).neg, .int .u64 (T.arg 0).num, .int .i64 (sW (whatA L len t (T.arg 0)).1), .int .i64 (sO (whatA L len t (T.arg 0)).1)], fr_eqD (by simp [upd, e6]), rfl, hBx, fun _ h => h, fun k y _ h => h⟩
          · refine wpOp_step (o := _) rfl (fun K' hK => ?_)
            go_simp
            exact hK _ _ ⟨.slice (some ⟨g, 0, none⟩) T.an vcap, rfl, rfl, hBx, fun _ h => h, fun k y _ h => h⟩
          · have e8 : v 8 = .slice (some ⟨g, 0, none⟩) T.an vcap := hd 8 (List.contains_iff_mem.1 (by kernel_rfl))
            refine wpOp_step (o := _) rfl (fun K' hK => ?_)
            go_simp
            exact hK _ _ ⟨.pointer (some ⟨g, 6, none⟩), fr_eqD (by simp [upd, e8]), rfl, hBx, fun _ h => h, fun k y _ h => h⟩
          · have e9 : v 9 = .pointer (some ⟨g, 6, none⟩) := hd 9 (List.contains_iff_mem.1 (by kernel_rfl))
            refine wpOp_step (o := _) rfl (fun K' hK => ?_)
            go_simp
            exact hK _ _ ⟨.agg #[.int .i64 (T.arg 1).kind, .string (T.arg 1).text, .bool (T.arg 1).neg, .int .u64 (T.arg 1).num, .int .i64 (sW (whatA L len t (T.arg 1)).1), .int .i64 (sO (whatA L len t (T.arg 1)).1)], fr_eqD (by simp [upd, e9]), rfl, hBx, fun _ h => h, fun k y _ h => h⟩
          · have e0 : v 0 = .agg #[.slice ao len cap, .int .i64 t] := hd 0 (List.contains_iff_mem.1 (by kernel_rfl))
            have e4 : v 4 = .int .i64 T.rel := hd 4 (List.contains_iff_mem.1 (by kernel_rfl))
            have e7 : v 7 = .agg #[.int .i64 (T.arg 0).kind, .string (T.arg 0).text, .bool (T.arg 0).neg, .int .u64 (T.arg 0).num, .int .i64 (sW (whatA L len t (T.arg 0)).1), .int .i64 (sO (whatA L len t (T.arg 0)).1)] := hd 7 (List.contains_iff_mem.1 (by kernel_rfl))
            have e10 : v 10 = .agg #[.int .i64 (T.arg 1).kind, .string (T.arg 1).text, .bool (T.arg 1).neg, .int .u64 (T.arg 1).num, .int .i64 (sW (whatA L len t (T.arg 1)).1), .int .i64 (sO (whatA L len t (T.arg 1)).1)] := hd 10 (List.contains_iff_mem.1 (by kernel_rfl))
            refine wpOp_step (o := _) rfl (fun K' hK => ?_)
            go_simp
            refine (HCA.out w3 (HN.out.2.2.2.2.trans (hBx.mono HN.out.2.2.2.2.size))).mono ?_
            rintro e w4 ⟨rfl, hbc⟩
            exact hK _ _ ⟨_, fr_eqD (by simp [upd, e0, e4, e7, e10]), rfl, hBx.trans (hbc.mono hBx.size), fun _ h => h, fun k y _ h => h⟩
        · have e0 : v 0 = .agg #[.slice ao len cap, .int .i64 t] := hv 0 (by decide)
          have e1 : v 1 = .pointer (some ⟨b, off, none⟩) := hv 1 (by decide)
          have e2 : v 2 = .pointer (some ⟨b, off, none⟩) := hv 2 (by decide)
          have e3 : v 3 = .pointer (some ⟨b, off + 1, none⟩) := hv 3 (by decide)
          have e4 : v 4 = .int .i64 T.rel := hv 4 (by decide)
          have e5 : v 5 = .slice (some ⟨g, 0, none⟩) T.an vcap := hv 5 (by decide)
          have e6 : v 6 = .pointer (some ⟨g, 0, none⟩) := hv 6 (by decide)
          have e7 : v 7 = .agg #[.int .i64 (T.arg 0).kind, .string (T.arg 0).text, .bool (T.arg 0).neg, .int .u64 (T.arg 0).num, .int .i64 (sW (whatA L len t (T.arg 0)).1), .int .i64 (sO (whatA L len t (T.arg 0)).1)] := hv 7 (by decide)
          have e8 : v 8 = .slice (some ⟨g, 0, none⟩) T.an vcap := hv 8 (by decide)
          have e9 : v 9 = .pointer (some ⟨g, 6, none⟩) := hv 9 (by decide)
          have e10 : v 10 = .agg #[.int .i64 (T.arg 1).kind, .string (T.arg 1).text, .bool (T.arg 1).neg, .int .u64 (T.arg 1).num, .int .i64 (sW (whatA L len t (T.arg 1)).1), .int .i64 (sO (whatA L len t (T.arg 1)).1)] := hv 10 (by decide)
          have e11 : v 11 = .int .i64 R := hv 11 (by decide)
          have HN2 := Lib.hid (HM2.out w3 hBx)
          have r0 := cell_at (j := 0) HN2.out.2.1 rfl
          have fr := free_at (j := 0) HN2.out.2.1
          have HBX := Lib.hid hBx
          clear hv hBx
          refine wpAny_of_held (S := fun _ => True) _ _ _ _ ?_
          simp only [e0, e1, e2, e3, e4, e5, e6, e7, e8, e9, e10, e11]
          clear e0 e1 e2 e3 e4 e5 e6 e7 e8 e9 e10 e11
          refine wpAnyH_ready (fuel := 0) (rs := [12]) (by kernel_rfl) (by simp) ?_
          refine AllReadyH.cons (o := _) rfl (fun K hK => ?_) AllReadyH.nil
          go_simp
          refine hK.out _ _ trivial (fun _ => ?_)
          clear hK K
          refine wpAnyH_done (by kernel_rfl) ?_ _
          go_wp2
          have hVR := (HN2.out).2.1
          have hVD := (HN2.out).2.2.2.1
          exact own_end (n0 := w.heap.size) (D := D) rfl (setC_def hVD (by omega)) (set_at (j := 0) hVR) ⟨rfl, putD_below (setC_def hVD (by omega)) ((HN2.out).2.2.2.2.setCell (p := ⟨w.heap.size + 1, 0, none⟩) (by simp) _) (by omega)⟩
      · have h1 : T.op ≠ 1 := by omega
        have hb2 := hbf
        unfold badF at hb2
        rw [if_neg h1, if_pos h2] at hb2
        have han2 : T.an = 3 := by
          simp only [Bool.not_eq_false', Bool.and_eq_true, decide_eq_true_eq] at hb2
          exact hb2.1
        have hrA : R = if pairA L len t (T.arg 0) (T.arg 1) 4 ≠ 0 then pairA L len t (T.arg 0) (T.arg 1) 4 else pairA L len t (T.arg 0) (T.arg 2) 4 := by rw [hr]; unfold goE; rw [if_neg h1, if_pos h2]
        unfold pairA at hrA
        have HCA := Lib.hid (fun wx hx => HCM.out 4 (by decide) 0 1 wx hx)
        have HCB := Lib.hid (fun wx hx => HCM.out 4 (by decide) 0 2 wx hx)
        obtain ⟨g, rfl⟩ := HVA.out (by omega)
        have HA0 := Lib.hid (HSD.out g rfl 0 (by omega))
        have HA1 := Lib.hid (HSD.out g rfl 1 (by omega))
        have HA2 := Lib.hid (HSD.out g rfl 2 (by omega))
        have k1 : (T.op == 1) = false := by rw [h2]; rfl
        have k2 : (T.op == 2) = true := by rw [h2]; rfl
        have n0 : (0 : Int) < (T.an : Int) := by omega
        have m0 : 0 < T.an := by omega
        have n1 : (1 : Int) < (T.an : Int) := by omega
        have n2 : (2 : Int) < (T.an : Int) := by omega
        obtain ⟨E1, hE1⟩ : ∃ E, pairW L len (whatA L len t (T.arg 0)).1 (whatA L len t (T.arg 1)).1 (T.arg 0) (T.arg 1) 4 = E := ⟨_, rfl⟩
        rw [hE1] at hrA HCA
        clear HCM HSD HVA hbf hr hb2 hE1
        have HRB0 := Lib.hid (fun (h : E1 = 0) => (show R = pairW L len (whatA L len t (T.arg 0)).1 (whatA L len t (T.arg 2)).1 (T.arg 0) (T.arg 2) 4 from by rw [hrA, if_neg (fun h2 => h2 h)]))
        have HRB1 := Lib.hid (fun (h : E1 ≠ 0) => (show R = E1 from by rw [hrA, if_pos h]))
        clear hrA han2
        go_wp2_with (first | (go_at_call 42; (with_reducible refine (HFM.out _ (by exact HBE.out)).mono ?_); rintro e w1 ⟨rfl, hb1⟩; have HB1 := Lib.hid hb1; have HN := Lib.hid (HM.out w1 hb1); have HM2 := Lib.hid (fun wx (hb : Below w1.heap.size w1 wx) => HM.out wx (hb1.trans (hb.mono hb1.size))); obtain ⟨hA, hB, hC, hD1, hE1⟩ := HN.out; have c0 := cell_at (j := 0) hA rfl; have c1 := cell_at (j := 1) hA rfl; have r0 := cell_at (j := 0) hB rfl; have fr := free_at (j := 0) hB; have l0 := cell_at (j := 0) hC rfl; obtain ⟨y0, y1, y2, y3⟩ := lies_node (HLI.out w1 hE1); have p00 := (show w1.cell? ⟨g, 0, none⟩ = some _ from (HA0.out.next hb1).c0); have p01 := (show w1.cell? ⟨g, 1, none⟩ = some _ from (HA0.out.next hb1).c1); have p02 := (show w1.cell? ⟨g, 2, none⟩ = some _ from (HA0.out.next hb1).c2); have p03 := (show w1.cell? ⟨g, 3, none⟩ = some _ from (HA0.out.next hb1).c3); have p04 := (show w1.cell? ⟨g, 4, none⟩ = some _ from (HA0.out.next hb1).c4); have p05 := (show w1.cell? ⟨g, 5, none⟩ = some _ from (HA0.out.next hb1).c5); have p10 := (show w1.cell? ⟨g, 6, none⟩ = some _ from (HA1.out.next hb1).c0); have p11 := (show w1.cell? ⟨g, 7, none⟩ = some _ from (HA1.out.next hb1).c1); have p12 := (show w1.cell? ⟨g, 8, none⟩ = some _ from (HA1.out.next hb1).c2); have p13 := (show w1.cell? ⟨g, 9, none⟩ = some _ from (HA1.out.next hb1).c3); have p14 := (show w1.cell? ⟨g, 10, none⟩ = some _ from (HA1.out.next hb1).c4); have p15 := (show w1.cell? ⟨g, 11, none⟩ = some _ from (HA1.out.next hb1).c5); have p20 := (show w1.cell? ⟨g, 12, none⟩ = some _ from (HA2.out.next hb1).c0); have p21 := (show w1.cell? ⟨g, 13, none⟩ = some _ from (HA2.out.next hb1).c1); have p22 := (show w1.cell? ⟨g, 14, none⟩ = some _ from (HA2.out.next hb1).c2); have p23 := (show w1.cell? ⟨g, 15, none⟩ = some _ from (HA2.out.next hb1).c3); have p24 := (show w1.cell? ⟨g, 16, none⟩ = some _ from (HA2.out.next hb1).c4); have p25 := (show w1.cell? ⟨g, 17, none⟩ = some _ from (HA2.out.next hb1).c5); clear hA hB hC hD1 hE1 hb1))
        have H_c0 := Lib.hid c0
        have H_c1 := Lib.hid c1
        have H_l0 := Lib.hid l0
        have H_p00 := Lib.hid p00
        have H_p01 := Lib.hid p01
        have H_p02 := Lib.hid p02
        have H_p03 := Lib.hid p03
        have H_p04 := Lib.hid p04
        have H_p05 := Lib.hid p05
        have H_p10 := Lib.hid p10
        have H_p11 := Lib.hid p11
        have H_p12 := Lib.hid p12
        have H_p13 := Lib.hid p13
        have H_p14 := Lib.hid p14
        have H_p15 := Lib.hid p15
        have H_p20 := Lib.hid p20
        have H_p21 := Lib.hid p21
        have H_p22 := Lib.hid p22
        have H_p23 := Lib.hid p23
        have H_p24 := Lib.hid p24
        have H_p25 := Lib.hid p25
        clear c0 c1 l0 p00 p01 p02 p03 p04 p05 p10 p11 p12 p13 p14 p15 p20 p21 p22 p23 p24 p25 r0 fr
        refine wp_region_preD hmix [{ target := .collected D, args := #[] }] 8 100 (fun v => ((.agg #[.slice ao len cap, .int .i64 t] : Value) :: (.pointer (some ⟨b, off, none⟩) : Value) :: (.pointer (some ⟨w.heap.size, 0, none⟩) : Value) :: (undef : Value) :: (.pointer (some ⟨w.heap.size + 1, 0, none⟩) : Value) :: (.pointer (some ⟨w.heap.size + 1 + 1, 0, none⟩) : Value) :: (undef : Value) :: (undef : Value) :: (undef : Value) :: (undef : Value) :: (.pointer (some ⟨b, off, none⟩) : Value) :: (.func (.func 49) #[] #[.pointer (some ⟨w.heap.size + 1 + 1 + 1, 0, none⟩)] : Value) :: (undef : Value) :: (undef : Value) :: (undef : Value) :: (undef : Value) :: (undef : Value) :: (undef : Value) :: (undef : Value) :: (undef : Value) :: (undef : Value) :: (undef : Value) :: (undef : Value) :: (undef : Value) :: (undef : Value) :: (undef : Value) :: (undef : Value) :: (undef : Value) :: (undef : Value) :: (undef : Value) :: (undef : Value) :: (undef : Value) :: (.pointer (some ⟨b, off, none⟩) : Value) :: (.bool true : Value) :: (.bool false : Value) :: (.pointer (some ⟨b, off, none⟩) : Value) :: (.pointer (some ⟨b, off, none⟩) : Value) :: (.pointer (some ⟨b, off, none⟩) : Value) :: (.int .i64 2 : Value) :: (.bool false : Value) :: (.bool false : Value) :: (undef : Value) :: (undef : Value) :: (undef : Value) :: (undef : Value) :: (undef : Value) :: (undef : Value) :: (undef : Value) :: (undef : Value) :: (undef : Value) :: (undef : Value) :: (undef : Value) :: (undef : Value) :: (.bool true : Value) :: (.bool true : Value) :: v 0 :: v 1 :: v 2 :: v 3 :: v 4 :: v 5 :: v 6 :: v 7 :: (undef : Value) :: (undef : Value) :: (undef : Value) :: (undef : Value) :: (undef : Value) :: (undef : Value) :: (undef : Value) :: (undef : Value) :: (undef : Value) :: (undef : Value) :: (undef : Value) :: (undef : Value) :: (undef : Value) :: (undef : Value) :: (undef : Value) :: (undef : Value) :: (undef : Value) :: (undef : Value) :: (undef : Value) :: (undef : Value) :: (undef : Value) :: (undef : Value) :: (undef : Value) :: (undef : Value) :: (undef : Value) :: (undef : Value) :: (undef : Value) :: []).toArray) (fun _ => undef) (fun j x _ => x = ([.agg #[.slice ao len cap, .int .i64 t], .slice (some ⟨g, 0, none⟩) T.an vcap, .pointer (some ⟨g, 0, none⟩), .agg #[.int .i64 (T.arg 0).kind, .string (T.arg 0).text, .bool (T.arg 0).neg, .int .u64 (T.arg 0).num, .int .i64 (sW (whatA L len t (T.arg 0)).1), .int .i64 (sO (whatA L len t (T.arg 0)).1)], .slice (some ⟨g, 0, none⟩) T.an vcap, .pointer (some ⟨g, 6, none⟩), .agg #[.int .i64 (T.arg 1).kind, .string (T.arg 1).text, .bool (T.arg 1).neg, .int .u64 (T.arg 1).num, .int .i64 (sW (whatA L len t (T.arg 1)).1), .int .i64 (sO (whatA L len t (T.arg 1)).1)], .int .i64 E1] : List Value).getD j undef) (fun w' => Below w1.heap.size w1 w') (fun _ => True) (Nat.le_of_ble_eq_true (by kernel_rfl)) (by kernel_rfl) (Below.refl _ _).drew trivial (fun j hj v w3 hBx hPx hd => ?_) (fun v w3 hv hBx => ?_)
        · have z_c0 := Pa.keep6 hBx H_c0.out
          have z_c1 := Pa.keep6 hBx H_c1.out
          have z_l0 := Pa.keep6 hBx H_l0.out
          have z_p00 := Pa.keep6 hBx H_p00.out
          have z_p01 := Pa.keep6 hBx H_p01.out
          have z_p02 := Pa.keep6 hBx H_p02.out
          have z_p03 := Pa.keep6 hBx H_p03.out
          have z_p04 := Pa.keep6 hBx H_p04.out
          have z_p05 := Pa.keep6 hBx H_p05.out
          have z_p10 := Pa.keep6 hBx H_p10.out
          have z_p11 := Pa.keep6 hBx H_p11.out
          have z_p12 := Pa.keep6 hBx H_p12.out
          have z_p13 := Pa.keep6 hBx H_p13.out
          have z_p14 := Pa.keep6 hBx H_p14.out
          have z_p15 := Pa.keep6 hBx H_p15.out
          have z_p20 := Pa.keep6 hBx H_p20.out
          have z_p21 := Pa.keep6 hBx H_p21.out
          have z_p22 := Pa.keep6 hBx H_p22.out
          have z_p23 := Pa.keep6 hBx H_p23.out
          have z_p24 := Pa.keep6 hBx H_p24.out
          have z_p25 := Pa.keep6 hBx H_p25.out
          have hjj : j = 0 ∨ j = 1 ∨ j = 2 ∨ j = 3 ∨ j = 4 ∨ j = 5 ∨ j = 6 ∨ j = 7 := by omega
          rcases hjj with rfl | rfl | rfl | rfl | rfl | rfl | rfl | rfl
          · refine wpOp_step (o := _) rfl (fun K' hK => ?_)
            go_simp
            exact hK _ _ ⟨.agg #[.slice ao len cap, .int .i64 t], rfl, rfl, hBx, fun _ h => h, fun k y _ h => h⟩
          · refine wpOp_step (o := _) rfl (fun K' hK => ?_)
            go_simp
            exact hK _ _ ⟨.slice (some ⟨g, 0, none⟩) T.an vcap, rfl, rfl, hBx, fun _ h => h, fun k y _ h => h⟩
          · have e1 : v 1 = .slice (some ⟨g, 0, none⟩) T.an vcap := hd 1 (List.contains_iff_mem.1 (by kernel_rfl))
            refine wpOp_step (o := _) rfl (fun K' hK => ?_)
            go_simp
            exact hK _ _ ⟨.pointer (some ⟨g, 0, none⟩), fr_eqD (by simp [upd, e1]), rfl, hBx, fun _ h => h, fun k y _ h => h⟩
          · have e2 : v 2 = .pointer (some ⟨g, 0, none⟩) := hd 2 (List.contains_iff_mem.1 (by kernel_rfl))
            refine wpOp_step (o := _) rfl (fun K' hK => ?_)
            go_simp
            exact hK _ _ ⟨.agg #[.int .i64 (T.arg 0).kind, .string (T.arg 0).text, .bool (T.arg 0).neg, .int .u64 (T.arg 0).num, .int .i64 (sW (whatA L len t (T.arg 0)).1), .int .i64 (sO (whatA L len t (T.arg 0)).1)], fr_eqD (by simp [upd, e2]), rfl, hBx, fun _ h => h, fun k y _ h => h⟩
          · refine wpOp_step (o := _) rfl (fun K' hK => ?_)
            go_simp
            exact hK _ _ ⟨.slice (some ⟨g, 0, none⟩) T.an vcap, rfl, rfl, hBx, fun _ h => h, fun k y _ h => h⟩
          · have e4 : v 4 = .slice (some ⟨g, 0, none⟩) T.an vcap := hd 4 (List.contains_iff_mem.1 (by kernel_rfl))
            refine wpOp_step (o := _) rfl (fun K' hK => ?_)
            go_simp
            exact hK _ _ ⟨.pointer (some ⟨g, 6, none⟩), fr_eqD (by simp [upd, e4]), rfl, hBx, fun _ h => h, fun k y _ h => h⟩
          · have e5 : v 5 = .pointer (some ⟨g, 6, none⟩) := hd 5 (List.contains_iff_mem.1 (by kernel_rfl))
            refine wpOp_step (o := _) rfl (fun K' hK => ?_)
            go_simp
            exact hK _ _ ⟨.agg #[.int .i64 (T.arg 1).kind, .string (T.arg 1).text, .bool (T.arg 1).neg, .int .u64 (T.arg 1).num, .int .i64 (sW (whatA L len t (T.arg 1)).1), .int .i64 (sO (whatA L len t (T.arg 1)).1)], fr_eqD (by simp [upd, e5]), rfl, hBx, fun _ h => h, fun k y _ h => h⟩
          · have e0 : v 0 = .agg #[.slice ao len cap, .int .i64 t] := hd 0 (List.contains_iff_mem.1 (by kernel_rfl))
            have e3 : v 3 = .agg #[.int .i64 (T.arg 0).kind, .string (T.arg 0).text, .bool (T.arg 0).neg, .int .u64 (T.arg 0).num, .int .i64 (sW (whatA L len t (T.arg 0)).1), .int .i64 (sO (whatA L len t (T.arg 0)).1)] := hd 3 (List.contains_iff_mem.1 (by kernel_rfl))
            have e6 : v 6 = .agg #[.int .i64 (T.arg 1).kind, .string (T.arg 1).text, .bool (T.arg 1).neg, .int .u64 (T.arg 1).num, .int .i64 (sW (whatA L len t (T.arg 1)).1), .int .i64 (sO (whatA L len t (T.arg 1)).1)] := hd 6 (List.contains_iff_mem.1 (by kernel_rfl))
            refine wpOp_step (o := _) rfl (fun K' hK => ?_)
            go_simp
            refine (HCA.out w3 (HN.out.2.2.2.2.trans (hBx.mono HN.out.2.2.2.2.size))).mono ?_
            rintro e w4 ⟨rfl, hbc⟩
            exact hK _ _ ⟨_, fr_eqD (by simp [upd, e0, e3, e6]), rfl, hBx.trans (hbc.mono hBx.size), fun _ h => h, fun k y _ h => h⟩
        · have e0 : v 0 = .agg #[.slice ao len cap, .int .i64 t] := hv 0 (by decide)
          have e1 : v 1 = .slice (some ⟨g, 0, none⟩) T.an vcap := hv 1 (by decide)
          have e2 : v 2 = .pointer (some ⟨g, 0, none⟩) := hv 2 (by decide)
          have e3 : v 3 = .agg #[.int .i64 (T.arg 0).kind, .string (T.arg 0).text, .bool (T.arg 0).neg, .int .u64 (T.arg 0).num, .int .i64 (sW (whatA L len t (T.arg 0)).1), .int .i64 (sO (whatA L len t (T.arg 0)).1)] := hv 3 (by decide)
          have e4 : v 4 = .slice (some ⟨g, 0, none⟩) T.an vcap := hv 4 (by decide)
          have e5 : v 5 = .pointer (some ⟨g, 6, none⟩) := hv 5 (by decide)
          have e6 : v 6 = .agg #[.int .i64 (T.arg 1).kind, .string (T.arg 1).text, .bool (T.arg 1).neg, .int .u64 (T.arg 1).num, .int .i64 (sW (whatA L len t (T.arg 1)).1), .int .i64 (sO (whatA L len t (T.arg 1)).1)] := hv 6 (by decide)
          have e7 : v 7 = .int .i64 E1 := hv 7 (by decide)
          have HN2 := Lib.hid (HM2.out w3 hBx)
          have HM3 := Lib.hid (fun wx (hb : Below w3.heap.size w3 wx) => HM2.out wx (hBx.trans (hb.mono hBx.size)))
          have r0 := cell_at (j := 0) HN2.out.2.1 rfl
          have fr := free_at (j := 0) HN2.out.2.1
          have G_c0 := Lib.hid (Pa.keep6 hBx H_c0.out)
          have G_c1 := Lib.hid (Pa.keep6 hBx H_c1.out)
          have G_l0 := Lib.hid (Pa.keep6 hBx H_l0.out)
          have G_p00 := Lib.hid (Pa.keep6 hBx H_p00.out)
          have G_p01 := Lib.hid (Pa.keep6 hBx H_p01.out)
          have G_p02 := Lib.hid (Pa.keep6 hBx H_p02.out)
          have G_p03 := Lib.hid (Pa.keep6 hBx H_p03.out)
          have G_p04 := Lib.hid (Pa.keep6 hBx H_p04.out)
          have G_p05 := Lib.hid (Pa.keep6 hBx H_p05.out)
          have G_p10 := Lib.hid (Pa.keep6 hBx H_p10.out)
          have G_p11 := Lib.hid (Pa.keep6 hBx H_p11.out)
          have G_p12 := Lib.hid (Pa.keep6 hBx H_p12.out)
          have G_p13 := Lib.hid (Pa.keep6 hBx H_p13.out)
          have G_p14 := Lib.hid (Pa.keep6 hBx H_p14.out)
          have G_p15 := Lib.hid (Pa.keep6 hBx H_p15.out)
          have G_p20 := Lib.hid (Pa.keep6 hBx H_p20.out)
          have G_p21 := Lib.hid (Pa.keep6 hBx H_p21.out)
          have G_p22 := Lib.hid (Pa.keep6 hBx H_p22.out)
          have G_p23 := Lib.hid (Pa.keep6 hBx H_p23.out)
          have G_p24 := Lib.hid (Pa.keep6 hBx H_p24.out)
          have G_p25 := Lib.hid (Pa.keep6 hBx H_p25.out)
          have HBX := Lib.hid hBx
          clear hv hBx
          refine wpAny_of_held (S := fun _ => True) _ _ _ _ ?_
          simp only [e0, e1, e2, e3, e4, e5, e6, e7]
          clear e0 e1 e2 e3 e4 e5 e6 e7
          refine wpAnyH_ready (fuel := 0) (rs := [8]) (by kernel_rfl) (by simp) ?_
          refine AllReadyH.cons (o := _) rfl (fun K hK => ?_) AllReadyH.nil
          go_simp
          refine hK.out _ _ trivial (fun _ => ?_)
          clear hK K
          refine wpAnyH_done (by kernel_rfl) ?_ _
          by_cases hz1 : E1 = 0
          · have hRB := HRB0.out hz1
            rw [← hRB] at HCB
            clear hRB
            subst hz1
            have kz : ((0 : Int) != 0) = false := rfl
            clear r0 fr
            go_wp2
            refine wp_region_preD hmix [{ target := .collected D, args := #[] }] 8 100 (fun v => ((.agg #[.slice ao len cap, .int .i64 t] : Value) :: (.pointer (some ⟨b, off, none⟩) : Value) :: (.pointer (some ⟨w.heap.size, 0, none⟩) : Value) :: (undef : Value) :: (.pointer (some ⟨w.heap.size + 1, 0, none⟩) : Value) :: (.pointer (some ⟨w.heap.size + 1 + 1, 0, none⟩) : Value) :: (undef : Value) :: (undef : Value) :: (undef : Value) :: (.int .i64 0 : Value) :: (.pointer (some ⟨b, off, none⟩) : Value) :: (.func (.func 49) #[] #[.pointer (some ⟨w.heap.size + 1 + 1 + 1, 0, none⟩)] : Value) :: (undef : Value) :: (undef : Value) :: (undef : Value) :: (undef : Value) :: (undef : Value) :: (undef : Value) :: (undef : Value) :: (undef : Value) :: (undef : Value) :: (undef : Value) :: (undef : Value) :: (undef : Value) :: (undef : Value) :: (undef : Value) :: (undef : Value) :: (undef : Value) :: (undef : Value) :: (undef : Value) :: (undef : Value) :: (undef : Value) :: (.pointer (some ⟨b, off, none⟩) : Value) :: (.bool true : Value) :: (.bool false : Value) :: (.pointer (some ⟨b, off, none⟩) : Value) :: (.pointer (some ⟨b, off, none⟩) : Value) :: (.pointer (some ⟨b, off, none⟩) : Value) :: (.int .i64 2 : Value) :: (.bool false : Value) :: (.bool false : Value) :: (undef : Value) :: (undef : Value) :: (undef : Value) :: (undef : Value) :: (undef : Value) :: (undef : Value) :: (undef : Value) :: (undef : Value) :: (undef : Value) :: (undef : Value) :: (undef : Value) :: (undef : Value) :: (.bool true : Value) :: (.bool true : Value) :: (.agg #[.slice ao len cap, .int .i64 t] : Value) :: (.slice (some ⟨g, 0, none⟩) T.an vcap : Value) :: (.pointer (some ⟨g, 0, none⟩) : Value) :: (.agg #[.int .i64 (T.arg 0).kind, .string (T.arg 0).text, .bool (T.arg 0).neg, .int .u64 (T.arg 0).num, .int .i64 (sW (whatA L len t (T.arg 0)).1), .int .i64 (sO (whatA L len t (T.arg 0)).1)] : Value) :: (.slice (some ⟨g, 0, none⟩) T.an vcap : Value) :: (.pointer (some ⟨g, 6, none⟩) : Value) :: (.agg #[.int .i64 (T.arg 1).kind, .string (T.arg 1).text, .bool (T.arg 1).neg, .int .u64 (T.arg 1).num, .int .i64 (sW (whatA L len t (T.arg 1)).1), .int .i64 (sO (whatA L len t (T.arg 1)).1)] : Value) :: (.int .i64 0 : Value) :: (.int .i64 0 : Value) :: (.bool false : Value) :: (undef : Value) :: v 0 :: v 1 :: v 2 :: v 3 :: v 4 :: v 5 :: v 6 :: v 7 :: (undef : Value) :: (undef : Value) :: (undef : Value) :: (undef : Value) :: (undef : Value) :: (undef : Value) :: (undef : Value) :: (undef : Value) :: (undef : Value) :: (undef : Value) :: (undef : Value) :: (undef : Value) :: (undef : Value) :: (undef : Value) :: (undef : Value) :: (undef : Value) :: []).toArray) (fun _ => undef) (fun j x _ => x = ([.agg #[.slice ao len cap, .int .i64 t], .slice (some ⟨g, 0, none⟩) T.an vcap, .pointer (some ⟨g, 0, none⟩), .agg #[.int .i64 (T.arg 0).kind, .string (T.arg 0).text, .bool (T.arg 0).neg, .int .u64 (T.arg 0).num, .int .i64 (sW (whatA L len t (T.arg 0)).1), .int .i64 (sO (whatA L len t (T.arg 0)).1)], .slice (some ⟨g, 0, none⟩) T.an vcap, .pointer (some ⟨g, 12, none⟩), .agg #[.int .i64 (T.arg 2).kind, .string (T.arg 2).text, .bool (T.arg 2).neg, .int .u64 (T.arg 2).num, .int .i64 (sW (whatA L len t (T.arg 2)).1), .int .i64 (sO (whatA L len t (T.arg 2)).1)], .int .i64 R] : List Value).getD j undef) (fun w' => Below w3.heap.size w3 w') (fun _ => True) (Nat.le_of_ble_eq_true (by kernel_rfl)) (by kernel_rfl) (Below.refl _ _).drew trivial (fun j hj v w5 hBx hPx hd => ?_) (fun v w5 hv hBx => ?_)
            · have z_c0 := Pa.keep6 hBx G_c0.out
              have z_c1 := Pa.keep6 hBx G_c1.out
              have z_l0 := Pa.keep6 hBx G_l0.out
              have z_p00 := Pa.keep6 hBx G_p00.out
              have z_p01 := Pa.keep6 hBx G_p01.out
              have z_p02 := Pa.keep6 hBx G_p02.out
              have z_p03 := Pa.keep6 hBx G_p03.out
              have z_p04 := Pa.keep6 hBx G_p04.out
              have z_p05 := Pa.keep6 hBx G_p05.out
              have z_p10 := Pa.keep6 hBx G_p10.out
              have z_p11 := Pa.keep6 hBx G_p11.out
              have z_p12 := Pa.keep6 hBx G_p12.out
              have z_p13 := Pa.keep6 hBx G_p13.out
              have z_p14 := Pa.keep6 hBx G_p14.out
              have z_p15 := Pa.keep6 hBx G_p15.out
              have z_p20 := Pa.keep6 hBx G_p20.out
              have z_p21 := Pa.keep6 hBx G_p21.out
              have z_p22 := Pa.keep6 hBx G_p22.out
              have z_p23 := Pa.keep6 hBx G_p23.out
              have z_p24 := Pa.keep6 hBx G_p24.out
              have z_p25 := Pa.keep6 hBx G_p25.out
              have hjj : j = 0 ∨ j = 1 ∨ j = 2 ∨ j = 3 ∨ j = 4 ∨ j = 5 ∨ j = 6 ∨ j = 7 := by omega
              rcases hjj with rfl | rfl | rfl | rfl | rfl | rfl | rfl | rfl
              · refine wpOp_step (o := _) rfl (fun K' hK => ?_)
                go_simp
                exact hK _ _ ⟨.agg #[.slice ao len cap, .int .i64 t], rfl, rfl, hBx, fun _ h => h, fun k y _ h => h⟩
              · refine wpOp_step (o := _) rfl (fun K' hK => ?_)
                go_simp
                exact hK _ _ ⟨.slice (some ⟨g, 0, none⟩) T.an vcap, rfl, rfl, hBx, fun _ h => h, fun k y _ h => h⟩
              · have e1 : v 1 = .slice (some ⟨g, 0, none⟩) T.an vcap := hd 1 (List.contains_iff_mem.1 (by kernel_rfl))
                refine wpOp_step (o := _) rfl (fun K' hK => ?_)
                go_simp
                exact hK _ _ ⟨.pointer (some ⟨g, 0, none⟩), fr_eqD (by simp [upd, e1]), rfl, hBx, fun _ h => h, fun k y _ h => h⟩
              · have e2 : v 2 = .pointer (some ⟨g, 0, none⟩) := hd 2 (List.contains_iff_mem.1 (by kernel_rfl))
                refine wpOp_step (o := _) rfl (fun K' hK => ?_)
                go_simp
                exact hK _ _ ⟨.agg #[.int .i64 (T.arg 0).kind, .string (T.arg 0).text, .bool (T.arg 0).neg, .int .u64 (T.arg 0).num, .int .i64 (sW (whatA L len t (T.arg 0)).1), .int .i64 (sO (whatA L len t (T.arg 0)).1)], fr_eqD (by simp [upd, e2]), rfl, hBx, fun _ h => h, fun k y _ h => h⟩
              · refine wpOp_step (o := _) rfl (fun K' hK => ?_)
                go_simp
                exact hK _ _ ⟨.slice (some ⟨g, 0, none⟩) T.an vcap, rfl, rfl, hBx, fun _ h => h, fun k y _ h => h⟩
              · have e4 : v 4 = .slice (some ⟨g, 0, none⟩) T.an vcap := hd 4 (List.contains_iff_mem.1 (by kernel_rfl))
                refine wpOp_step (o := _) rfl (fun K' hK => ?_)
                go_simp
                exact hK _ _ ⟨.pointer (some ⟨g, 12, none⟩), fr_eqD (by simp [upd, e4]), rfl, hBx, fun _ h => h, fun k y _ h => h⟩
              · have e5 : v 5 = .pointer (some ⟨g, 12, none⟩) := hd 5 (List.contains_iff_mem.1 (by kernel_rfl))
                refine wpOp_step (o := _) rfl (fun K' hK => ?_)
                go_simp
                exact hK _ _ ⟨.agg #[.int .i64 (T.arg 2).kind, .string (T.arg 2).text, .bool (T.arg 2).neg, .int .u64 (T.arg 2).num, .int .i64 (sW (whatA L len t (T.arg 2)).1), .int .i64 (sO (whatA L len t (T.arg 2)).1)], fr_eqD (by simp [upd, e5]), rfl, hBx, fun _ h => h, fun k y _ h => h⟩
              · have e0 : v 0 = .agg #[.slice ao len cap, .int .i64 t] := hd 0 (List.contains_iff_mem.1 (by kernel_rfl))
                have e3 : v 3 = .agg #[.int .i64 (T.arg 0).kind, .string (T.arg 0).text, .bool (T.arg 0).neg, .int .u64 (T.arg 0).num, .int .i64 (sW (whatA L len t (T.arg 0)).1), .int .i64 (sO (whatA L len t (T.arg 0)).1)] := hd 3 (List.contains_iff_mem.1 (by kernel_rfl))
                have e6 : v 6 = .agg #[.int .i64 (T.arg 2).kind, .string (T.arg 2).text, .bool (T.arg 2).neg, .int .u64 (T.arg 2).num, .int .i64 (sW (whatA L len t (T.arg 2)).1), .int .i64 (sO (whatA L len t (T.arg 2)).1)] := hd 6 (List.contains_iff_mem.1 (by kernel_rfl))
                refine wpOp_step (o := _) rfl (fun K' hK => ?_)
                go_simp
                refine (HCB.out w5 (HN2.out.2.2.2.2.trans (hBx.mono HN2.out.2.2.2.2.size))).mono ?_
                rintro e w6 ⟨rfl, hbc⟩
                exact hK _ _ ⟨_, fr_eqD (by simp [upd, e0, e3, e6]), rfl, hBx.trans (hbc.mono hBx.size), fun _ h => h, fun k y _ h => h⟩
            · have e0 : v 0 = .agg #[.slice ao len cap, .int .i64 t] := hv 0 (by decide)
              have e1 : v 1 = .slice (some ⟨g, 0, none⟩) T.an vcap := hv 1 (by decide)
              have e2 : v 2 = .pointer (some ⟨g, 0, none⟩) := hv 2 (by decide)
              have e3 : v 3 = .agg #[.int .i64 (T.arg 0).kind, .string (T.arg 0).text, .bool (T.arg 0).neg, .int .u64 (T.arg 0).num, .int .i64 (sW (whatA L len t (T.arg 0)).1), .int .i64 (sO (whatA L len t (T.arg 0)).1)] := hv 3 (by decide)
              have e4 : v 4 = .slice (some ⟨g, 0, none⟩) T.an vcap := hv 4 (by decide)
              have e5 : v 5 = .pointer (some ⟨g, 12, none⟩) := hv 5 (by decide)
              have e6 : v 6 = .agg #[.int .i64 (T.arg 2).kind, .string (T.arg 2).text, .bool (T.arg 2).neg, .int .u64 (T.arg 2).num, .int .i64 (sW (whatA L len t (T.arg 2)).1), .int .i64 (sO (whatA L len t (T.arg 2)).1)] := hv 6 (by decide)
              have e7 : v 7 = .int .i64 R := hv 7 (by decide)
              have HN3 := Lib.hid (HM3.out w5 hBx)
              have r0 := cell_at (j := 0) HN3.out.2.1 rfl
              have fr := free_at (j := 0) HN3.out.2.1
              have HBX := Lib.hid hBx
              clear hv hBx
              refine wpAny_of_held (S := fun _ => True) _ _ _ _ ?_
              simp only [e0, e1, e2, e3, e4, e5, e6, e7]
              clear e0 e1 e2 e3 e4 e5 e6 e7
              refine wpAnyH_ready (fuel := 0) (rs := [8]) (by kernel_rfl) (by simp) ?_
              refine AllReadyH.cons (o := _) rfl (fun K hK => ?_) AllReadyH.nil
              go_simp
              refine hK.out _ _ trivial (fun _ => ?_)
              clear hK K
              refine wpAnyH_done (by kernel_rfl) ?_ _
              go_wp2
              have hVR := (HN3.out).2.1
              have hVD := (HN3.out).2.2.2.1
              exact own_end (n0 := w.heap.size) (D := D) rfl (setC_def hVD (by omega)) (set_at (j := 0) hVR) ⟨rfl, putD_below (setC_def hVD (by omega)) ((HN3.out).2.2.2.2.setCell (p := ⟨w.heap.size + 1, 0, none⟩) (by simp) _) (by omega)⟩
          · have hRB := HRB1.out hz1
            subst hRB
            have kz : (R != 0) = true := by rw [bne_iff_ne]; exact hz1
            go_wp2
            have hVR := (HN2.out).2.1
            have hVD := (HN2.out).2.2.2.1
            exact own_end (n0 := w.heap.size) (D := D) rfl (setC_def hVD (by omega)) (set_at (j := 0) hVR) ⟨rfl, putD_below (setC_def hVD (by omega)) ((HN2.out).2.2.2.2.setCell (p := ⟨w.heap.size + 1, 0, none⟩) (by simp) _) (by omega)⟩
      · have h1 : T.op ≠ 1 := by omega
        have h2 : T.op ≠ 2 := by omega
        have hb2 := hbf
        unfold badF at hb2
        rw [if_neg h1, if_neg h2, if_pos h3] at hb2
        have han2 : T.an = 2 := by
          simp only [Bool.not_eq_false', Bool.and_eq_true, decide_eq_true_eq] at hb2
          exact hb2.1
        have hrA : R = if (whatA L len t (T.arg 0)).1 ≠ 2 ∨ (whatA L len t (T.arg 1)).1 ≠ 2 then 8 else 0 := by rw [hr]; unfold goE; rw [if_neg h1, if_neg h2, if_pos h3]
        obtain ⟨g, rfl⟩ := HVA.out (by omega)
        have HA0 := Lib.hid (HSD.out g rfl 0 (by omega))
        have HA1 := Lib.hid (HSD.out g rfl 1 (by omega))
        have k1 : (T.op == 1) = false := by rw [h3]; rfl
        have k2 : (T.op == 2) = false := by rw [h3]; rfl
        have k3 : (T.op == 3) = true := by rw [h3]; rfl
        have n0 : (0 : Int) < (T.an : Int) := by omega
        have m0 : 0 < T.an := by omega
        have n1 : (1 : Int) < (T.an : Int) := by omega
        have g0 := (what_in L len t (T.arg 0)).1
        have g1 := (what_in L len t (T.arg 1)).1
        by_cases hz1 : (whatA L len t (T.arg 0)).1 = 2
        · have t0 : (sW (whatA L len t (T.arg 0)).1 != 3) = false := by rw [hz1]; rfl
          by_cases hz2 : (whatA L len t (T.arg 1)).1 = 2
          · have t1 : (sW (whatA L len t (T.arg 1)).1 != 3) = false := by rw [hz2]; rfl
            rw [if_neg (fun h => h.elim (fun h => h hz1) (fun h => h hz2))] at hrA
            subst hrA
            clear HCM HSD HVA hbf hr hb2 hz1 hz2 g0 g1
            go_wp2_with (first | (go_at_call 42; (with_reducible refine (HFM.out _ (by exact HBE.out)).mono ?_); rintro e w1 ⟨rfl, hb1⟩; have HB1 := Lib.hid hb1; have HN := Lib.hid (HM.out w1 hb1); have HM2 := Lib.hid (fun wx (hb : Below w1.heap.size w1 wx) => HM.out wx (hb1.trans (hb.mono hb1.size))); obtain ⟨hA, hB, hC, hD1, hE1⟩ := HN.out; have c0 := cell_at (j := 0) hA rfl; have c1 := cell_at (j := 1) hA rfl; have r0 := cell_at (j := 0) hB rfl; have fr := free_at (j := 0) hB; have l0 := cell_at (j := 0) hC rfl; obtain ⟨y0, y1, y2, y3⟩ := lies_node (HLI.out w1 hE1); have p00 := (show w1.cell? ⟨g, 0, none⟩ = some _ from (HA0.out.next hb1).c0); have p01 := (show w1.cell? ⟨g, 1, none⟩ = some _ from (HA0.out.next hb1).c1); have p02 := (show w1.cell? ⟨g, 2, none⟩ = some _ from (HA0.out.next hb1).c2); have p03 := (show w1.cell? ⟨g, 3, none⟩ = some _ from (HA0.out.next hb1).c3); have p04 := (show w1.cell? ⟨g, 4, none⟩ = some _ from (HA0.out.next hb1).c4); have p05 := (show w1.cell? ⟨g, 5, none⟩ = some _ from (HA0.out.next hb1).c5); have p10 := (show w1.cell? ⟨g, 6, none⟩ = some _ from (HA1.out.next hb1).c0); have p11 := (show w1.cell? ⟨g, 7, none⟩ = some _ from (HA1.out.next hb1).c1); have p12 := (show w1.cell? ⟨g, 8, none⟩ = some _ from (HA1.out.next hb1).c2); have p13 := (show w1.cell? ⟨g, 9, none⟩ = some _ from (HA1.out.next hb1).c3); have p14 := (show w1.cell? ⟨g, 10, none⟩ = some _ from (HA1.out.next hb1).c4); have p15 := (show w1.cell? ⟨g, 11, none⟩ = some _ from (HA1.out.next hb1).c5); clear hA hB hC hD1 hE1 hb1))
            have hVR := (HN.out).2.1
            have hVD := (HN.out).2.2.2.1
            exact own_end (n0 := w.heap.size) (D := D) rfl (setC_def hVD (by omega)) (set_at (j := 0) hVR) ⟨rfl, putD_below (setC_def hVD (by omega)) ((HN.out).2.2.2.2.setCell (p := ⟨w.heap.size + 1, 0, none⟩) (by simp) _) (by omega)⟩
          · have t1 : (sW (whatA L len t (T.arg 1)).1 != 3) = true := (sW_three g1).2 hz2
            rw [if_pos (.inr hz2)] at hrA
            subst hrA
            clear HCM HSD HVA hbf hr hb2 hz1 hz2 g0 g1
            go_wp2_with (first | (go_at_call 42; (with_reducible refine (HFM.out _ (by exact HBE.out)).mono ?_); rintro e w1 ⟨rfl, hb1⟩; have HB1 := Lib.hid hb1; have HN := Lib.hid (HM.out w1 hb1); have HM2 := Lib.hid (fun wx (hb : Below w1.heap.size w1 wx) => HM.out wx (hb1.trans (hb.mono hb1.size))); obtain ⟨hA, hB, hC, hD1, hE1⟩ := HN.out; have c0 := cell_at (j := 0) hA rfl; have c1 := cell_at (j := 1) hA rfl; have r0 := cell_at (j := 0) hB rfl; have fr := free_at (j := 0) hB; have l0 := cell_at (j := 0) hC rfl; obtain ⟨y0, y1, y2, y3⟩ := lies_node (HLI.out w1 hE1); have p00 := (show w1.cell? ⟨g, 0, none⟩ = some _ from (HA0.out.next hb1).c0); have p01 := (show w1.cell? ⟨g, 1, none⟩ = some _ from (HA0.out.next hb1).c1); have p02 := (show w1.cell? ⟨g, 2, none⟩ = some _ from (HA0.out.next hb1).c2); have p03 := (show w1.cell? ⟨g, 3, none⟩ = some _ from (HA0.out.next hb1).c3); have p04 := (show w1.cell? ⟨g, 4, none⟩ = some _ from (HA0.out.next hb1).c4); have p05 := (show w1.cell? ⟨g, 5, none⟩ = some _ from (HA0.out.next hb1).c5); have p10 := (show w1.cell? ⟨g, 6, none⟩ = some _ from (HA1.out.next hb1).c0); have p11 := (show w1.cell? ⟨g, 7, none⟩ = some _ from (HA1.out.next hb1).c1); have p12 := (show w1.cell? ⟨g, 8, none⟩ = some _ from (HA1.out.next hb1).c2); have p13 := (show w1.cell? ⟨g, 9, none⟩ = some _ from (HA1.out.next hb1).c3); have p14 := (show w1.cell? ⟨g, 10, none⟩ = some _ from (HA1.out.next hb1).c4); have p15 := (show w1.cell? ⟨g, 11, none⟩ = some _ from (HA1.out.next hb1).c5); clear hA hB hC hD1 hE1 hb1))
            have hVR := (HN.out).2.1
            have hVD := (HN.out).2.2.2.1
            exact own_end (n0 := w.heap.size) (D := D) rfl (setC_def hVD (by omega)) (set_at (j := 0) hVR) ⟨rfl, putD_below (setC_def hVD (by omega)) ((HN.out).2.2.2.2.setCell (p := ⟨w.heap.size + 1, 0, none⟩) (by simp) _) (by omega)⟩
        · have t0 : (sW (whatA L len t (T.arg 0)).1 != 3) = true := (sW_three g0).2 hz1
          rw [if_pos (.inl hz1)] at hrA
          subst hrA
          clear HCM HSD HVA hbf hr hb2 hz1 g0 g1
          go_wp2_with (first | (go_at_call 42; (with_reducible refine (HFM.out _ (by exact HBE.out)).mono ?_); rintro e w1 ⟨rfl, hb1⟩; have HB1 := Lib.hid hb1; have HN := Lib.hid (HM.out w1 hb1); have HM2 := Lib.hid (fun wx (hb : Below w1.heap.size w1 wx) => HM.out wx (hb1.trans (hb.mono hb1.size))); obtain ⟨hA, hB, hC, hD1, hE1⟩ := HN.out; have c0 := cell_at (j := 0) hA rfl; have c1 := cell_at (j := 1) hA rfl; have r0 := cell_at (j := 0) hB rfl; have fr := free_at (j := 0) hB; have l0 := cell_at (j := 0) hC rfl; obtain ⟨y0, y1, y2, y3⟩ := lies_node (HLI.out w1 hE1); have p00 := (show w1.cell? ⟨g, 0, none⟩ = some _ from (HA0.out.next hb1).c0); have p01 := (show w1.cell? ⟨g, 1, none⟩ = some _ from (HA0.out.next hb1).c1); have p02 := (show w1.cell? ⟨g, 2, none⟩ = some _ from (HA0.out.next hb1).c2); have p03 := (show w1.cell? ⟨g, 3, none⟩ = some _ from (HA0.out.next hb1).c3); have p04 := (show w1.cell? ⟨g, 4, none⟩ = some _ from (HA0.out.next hb1).c4); have p05 := (show w1.cell? ⟨g, 5, none⟩ = some _ from (HA0.out.next hb1).c5); have p10 := (show w1.cell? ⟨g, 6, none⟩ = some _ from (HA1.out.next hb1).c0); have p11 := (show w1.cell? ⟨g, 7, none⟩ = some _ from (HA1.out.next hb1).c1); have p12 := (show w1.cell? ⟨g, 8, none⟩ = some _ from (HA1.out.next hb1).c2); have p13 := (show w1.cell? ⟨g, 9, none⟩ = some _ from (HA1.out.next hb1).c3); have p14 := (show w1.cell? ⟨g, 10, none⟩ = some _ from (HA1.out.next hb1).c4); have p15 := (show w1.cell? ⟨g, 11, none⟩ = some _ from (HA1.out.next hb1).c5); clear hA hB hC hD1 hE1 hb1))
          have hVR := (HN.out).2.1
          have hVD := (HN.out).2.2.2.1
          exact own_end (n0 := w.heap.size) (D := D) rfl (setC_def hVD (by omega)) (set_at (j := 0) hVR) ⟨rfl, putD_below (setC_def hVD (by omega)) ((HN.out).2.2.2.2.setCell (p := ⟨w.heap.size + 1, 0, none⟩) (by simp) _) (by omega)⟩
      · have hr0 : R = 0 := by rw [hr]; unfold goE; rw [if_neg hno.1, if_neg hno.2.1, if_neg hno.2.2]
        subst hr0
        have k1 : (T.op == 1) = false := by rw [beq_eq_false_iff_ne]; exact hno.1
        have k2 : (T.op == 2) = false := by rw [beq_eq_false_iff_ne]; exact hno.2.1
        have k3 : (T.op == 3) = false := by rw [beq_eq_false_iff_ne]; exact hno.2.2
        clear HCM HSD HVA hbf hr hno
        go_wp2_with (first | (go_at_call 42; (with_reducible refine (HFM.out _ (by exact HBE.out)).mono ?_); rintro e w1 ⟨rfl, hb1⟩; have HB1 := Lib.hid hb1; have HN := Lib.hid (HM.out w1 hb1); have HM2 := Lib.hid (fun wx (hb : Below w1.heap.size w1 wx) => HM.out wx (hb1.trans (hb.mono hb1.size))); obtain ⟨hA, hB, hC, hD1, hE1⟩ := HN.out; have c0 := cell_at (j := 0) hA rfl; have c1 := cell_at (j := 1) hA rfl; have r0 := cell_at (j := 0) hB rfl; have fr := free_at (j := 0) hB; have l0 := cell_at (j := 0) hC rfl; obtain ⟨y0, y1, y2, y3⟩ := lies_node (HLI.out w1 hE1); clear hA hB hC hD1 hE1 hb1))
        have hVR := (HN.out).2.1
        have hVD := (HN.out).2.2.2.1
        exact own_end (n0 := w.heap.size) (D := D) rfl (setC_def hVD (by omega)) (set_at (j := 0) hVR) ⟨rfl, putD_below (setC_def hVD (by omega)) ((HN.out).2.2.2.2.setCell (p := ⟨w.heap.size + 1, 0, none⟩) (by simp) _) (by omega)⟩
  case stop =>
    rintro D pre W hD ⟨k, hk, hpre⟩ ⟨pre0, x, hp0, hz, hE, hrs, hbel⟩ hdk
    rw [List.range_succ, hp0] at hpre
    obtain ⟨rfl, hx⟩ := List.append_inj' hpre rfl
    injection hx with hx
    subst hx
    rw [opIx_eq hk] at hE hrs
    have hmap : (List.range x).map (opIx T.an) = List.range x := opIx_map _ (fun i hi => by have := List.mem_range.1 hi; omega)
    rw [hmap] at hz
    have he : ownE L len t T = (whatA L len t (T.arg x)).2 := by
      have h1 : argE L len t T.arg T.an = (whatA L len t (T.arg x)).2 := Pa.firstE_at (e := fun i => (whatA L len t (T.arg i)).2) (fun i hi => by rw [bne_eq_false_iff_eq]; exact hz i (List.mem_range.2 hi)) hk (by simpa using hE)
      unfold ownE
      rw [h1, if_pos hE]
    rw [hR] at he
    subst he
    exact own_end (n0 := w.heap.size) (D := D) rfl hdk hrs ⟨rfl, putD_below hdk hbel (by omega)⟩
end Go.Proofs.YtcojomkpogikiaaGreatDoor
