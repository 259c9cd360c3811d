/- Trees that come in: how deep, how great; Deep, Size and Great, of the code and of the reference. -/
import Derived.Test.YtjgdkiikkgdbaaaGreatDoorQ05
import Derived.Test.YtjgdkiikkgdbaaaGreatDoorQ25
namespace Go.Proofs.YtjgdkiikkgdbaaaGreatDoor
open Go.RowKit
set_option linter.unusedVariables false
theorem anyTo_none {f : Nat → Bool} : ∀ {n : Nat}, (∀ i, i < n → f i = false) → anyTo f n = false
  | 0, _ => rfl
  | n + 1, h => by rw [anyTo, anyTo_none (fun i hi => h i (by omega)), h n (by omega)]; rfl
theorem ret_i8 {k : IntKind} {a b : Int} (h : a = b) : Ending.returned (.int k a) = .returned (.int k b) := by rw [h]
theorem bth {w a b : World} (h : Below w.heap.size w a) (k : Below a.heap.size a b) : Below w.heap.size w b := h.trans (k.mono h.size)
def RSizeTo (T : XT) (w : World) : Prop := Calls Tryz.prog 14 #[.agg #[.int .i64 T.op, .int .i64 T.rel, .slice T.aa T.an T.ac, .slice T.ka T.kn T.kc]] w fun e w' => e = .returned (.int .i64 (sizeX T)) ∧ Below w.heap.size w w'
set_option maxHeartbeats 2000000 in
theorem refSize_any (S : Nat → Prop) : ∀ (T : XT) (w : World), XAt w S T → RSizeTo T w := by
  refine XT.ind fun T ih w H => ?_
  have HC := Lib.hid (fun i (hi : i < T.kn) wx (hb : Below w.heap.size w wx) => (kid_at H hb hi).1)
  have hlen := xt_kn H
  have hlan := xt_an H
  have HI := Lib.hid (fun i (hi : i < T.kn) wx (hb : Below w.heap.size w wx) => ih i hi wx (kid_at H hb hi).2)
  have HD := Lib.hid (sizeX_eq T)
  obtain ⟨F, hF⟩ : ∃ F : Nat → Int, F = fun i => sizeX (T.kid i) := ⟨_, rfl⟩
  have HF := Lib.hid hF
  clear ih H hF
  unfold RSizeTo
  go_enter Tryz.func14, Tryz.ntmps14
  go_wp2
  go_loopw [3, 4] (fun n i wr => ∃ (j : Nat) (m : Int), j ≤ T.kn ∧ i = .int .i64 j ∧ n = .int .i64 m ∧ Hid (m = sumW (1 + (T.an : Int)) F j) ∧ Hid (Below w.heap.size w wr) ∧ Hid (wr.heap[w.heap.size]? = some (.cells #[.int .i64 T.op, .int .i64 T.rel, .slice T.aa T.an T.ac, .slice T.ka T.kn T.kc] 25))) (fun _ i _ => T.kn - (intOf i).toNat)
  case atStart => exact ⟨0, 1 + (T.an : Int), Nat.zero_le _, rfl, by go_num, Lib.hid rfl, Lib.hid ((Below.refl _ _).alloc (Nat.le_refl _) _), Lib.hid (alloc_at w _)⟩
  case round =>
    obtain ⟨j, m, hj, rfl, rfl, HM, HBr, HQ⟩ := hrel
    by_cases hlt : j < T.kn
    · obtain ⟨b, off, hia, _, hbl, hla⟩ := HC.out j hlt wr HBr.out
      have d3 : wr.cell? ⟨w.heap.size, 3, none⟩ = some (.slice (some ⟨b, off, none⟩) T.kn T.kc) := by rw [← hia]; exact cell_at HQ.out rfl
      have c0 : wr.cell? ⟨b, off + j * 4, none⟩ = some (.int .i64 (T.kid j).op) := hla 0 _ rfl
      have c1 : wr.cell? ⟨b, off + j * 4 + 1, none⟩ = some (.int .i64 (T.kid j).rel) := hla 1 _ rfl
      have c2 : wr.cell? ⟨b, off + j * 4 + 2, none⟩ = some (.slice (T.kid j).aa (T.kid j).an (T.kid j).ac) := hla 2 _ rfl
      have c3 : wr.cell? ⟨b, off + j * 4 + 3, none⟩ = some (.slice (T.kid j).ka (T.kid j).kn (T.kid j).kc) := hla 3 _ rfl
      have HN := Lib.hid (HI.out j hlt)
      obtain ⟨d, hdd⟩ : ∃ d, sizeX (T.kid j) = d := ⟨_, rfl⟩
      unfold RSizeTo at HN
      rw [hdd] at HN
      have HX := Lib.hid (show sumW (1 + (T.an : Int)) F (j + 1) = wrap64 (sumW (1 + (T.an : Int)) F j + d) by rw [← hdd, HF.out]; rfl)
      have HW := HBr
      clear hdd hla hia
      go_wp2_with (go_at_call 14; refine (HN.out _ HW.out).mono ?_; rintro e w2 ⟨rfl, hb2⟩; have HQ2 := Lib.hid (rowKeep hb2 HQ.out))
      have HB2 := Lib.hid (bth HW.out hb2)
      go_roundw
      case rel => exact ⟨j + 1, wrap64 (m + d), by omega, by go_num, rfl, Lib.hid (by rw [HX.out, HM.out]), HB2, HQ2⟩
      case measure => simp [intOf]; omega
    · obtain rfl : j = T.kn := by omega
      have d3 : wr.cell? ⟨w.heap.size, 3, none⟩ = some (.slice T.ka T.kn T.kc) := cell_at HQ.out rfl
      go_wp2
      go_ret
      exact ⟨ret_i8 (by rw [HD.out, HM.out, HF.out]), HBr.out⟩
end Go.Proofs.YtjgdkiikkgdbaaaGreatDoor
/- Great: too great, or too deep, to be asked; and the reading of a tree that comes in. -/
namespace Go.Proofs.YtjgdkiikkgdbaaaGreatDoor
open Go.RowKit
set_option linter.unusedVariables false
def RGreatTo (T : XT) (d : Nat) (w : World) : Prop := Calls Tryz.prog 6 #[.agg #[.int .i64 T.op, .int .i64 T.rel, .slice T.aa T.an T.ac, .slice T.ka T.kn T.kc], .int .i64 (d : Nat)] w fun e w' => e = .returned (.bool (greatX T d)) ∧ Below w.heap.size w w'
theorem great_yes {T : XT} {d j : Nat} (hj : j < T.kn) (h : greatX (T.kid j) (d + 1) = true) : greatX T d = true := by
  rw [greatX_eq, (anyTo_iff T.kn).2 ⟨j, hj, h⟩]; simp
theorem great_end {T : XT} {d : Nat} (h1 : ¬ 40 < d) (h2 : ¬ 100 < T.kn) (h3 : ¬ 100 < T.an) (h4 : ∀ i, i < T.kn → greatX (T.kid i) (d + 1) = false) : greatX T d = decide ((3000 : Int) < minK (minA (fun i => (T.arg i).text.size) T.an : Nat) (fun i => sizeX (T.kid i)) T.kn) := by
  rw [greatX_eq, anyTo_none h4, decide_eq_false h1, decide_eq_false h2, decide_eq_false h3]; simp
theorem great_head {T : XT} {d : Nat} (h : 40 < d ∨ 100 < T.kn ∨ 100 < T.an) : greatX T d = true := by
  rw [greatX_eq]
  rcases h with h | h | h
  · rw [decide_eq_true h]; simp
  · rw [decide_eq_true h]; simp
  · rw [decide_eq_true h]; simp
theorem ret_bo {a b : Bool} (h : a = b) : Ending.returned (.bool a) = .returned (.bool b) := by rw [h]
theorem great_true (T : XT) (d : Nat) (w : World) (hk : T.kn ≤ 2513169434843) (ha : T.an ≤ 3518437208780) (hd : d ≤ 41) (h : 40 < d ∨ 100 < T.kn ∨ 100 < T.an) : RGreatTo T d w := by
  unfold RGreatTo
  rw [great_head h]
  by_cases h1 : 40 < d
  · clear h
    go_enter Tryz.func6, Tryz.ntmps6
    go_wp2
    go_ret
    exact ⟨rfl, (Below.refl _ _).alloc (Nat.le_refl _) _⟩
  · by_cases h2 : 100 < T.kn
    · clear h
      go_enter Tryz.func6, Tryz.ntmps6
      go_wp2
      go_ret
      exact ⟨rfl, (Below.refl _ _).alloc (Nat.le_refl _) _⟩
    · have h3 : 100 < T.an := by omega
      clear h
      go_enter Tryz.func6, Tryz.ntmps6
      go_wp2
      go_ret
      exact ⟨rfl, (Below.refl _ _).alloc (Nat.le_refl _) _⟩
set_option maxHeartbeats 4000000 in
theorem great_any (S : Nat → Prop) : ∀ (T : XT) (d : Nat) (w : World), XAt w S T → XTx T → d ≤ 41 → RGreatTo T d w := by
  refine XT.ind fun T ih d w H HX hd => ?_
  have hlen := xt_kn H
  have hlan := xt_an H
  rcases Classical.em (40 < d ∨ 100 < T.kn ∨ 100 < T.an) with hh | hh
  case inl => exact great_true T d w hlen hlan hd hh
  have h1 : ¬ 40 < d := fun h => hh (.inl h)
  have h2 : ¬ 100 < T.kn := fun h => hh (.inr (.inl h))
  have h3 : ¬ 100 < T.an := fun h => hh (.inr (.inr h))
  have HI := Lib.hid (fun i (hi : i < T.kn) wx (hb : Below w.heap.size w wx) => ih i hi (d + 1) wx (kid_at H hb hi).2 (((xtx_iff T).1 HX).2 i hi) (by omega))
  have HC := Lib.hid (fun i (hi : i < T.kn) wx (hb : Below w.heap.size w wx) => (kid_at H hb hi).1)
  have HAC := Lib.hid (fun i (hi : i < T.an) wx (hb : Below w.heap.size w wx) => (((xat_iff T).1 H).2.1 i hi).next hb)
  have HSZ := Lib.hid (fun i (hi : i < T.kn) wx (hb : Below w.heap.size w wx) => refSize_any S (T.kid i) wx (kid_at H hb hi).2)
  have HTX := Lib.hid (fun i (hi : i < T.an) => (((xtx_iff T).1 HX).1 i hi).1)
  have HY := Lib.hid (fun j (hj : j < T.kn) h => great_yes (d := d) hj h)
  have HE := Lib.hid (fun h4 => great_end h1 h2 h3 h4)
  obtain ⟨A, hA⟩ : ∃ A : Nat → Nat, A = fun i => (T.arg i).text.size := ⟨_, rfl⟩
  obtain ⟨F, hF⟩ : ∃ F : Nat → Int, F = fun i => sizeX (T.kid i) := ⟨_, rfl⟩
  have HA := Lib.hid hA
  have HF := Lib.hid hF
  have HML := Lib.hid (minA_le A)
  clear ih H HX hA hF hh
  unfold RGreatTo
  go_enter Tryz.func6, Tryz.ntmps6
  go_wp2
  go_loopw [5, 6] (fun n i wr => ∃ (j m : Nat), j ≤ T.an ∧ i = .int .i64 j ∧ n = .int .i64 m ∧ Hid (m = minA A j) ∧ m ≤ 100000 ∧ Hid (wr.heap[w.heap.size]? = some (.cells #[.int .i64 T.op, .int .i64 T.rel, .slice T.aa T.an T.ac, .slice T.ka T.kn T.kc] 25)) ∧ Hid (Below w.heap.size w wr)) (fun _ i _ => T.an - (intOf i).toNat)
  case atStart => exact ⟨0, 0, Nat.zero_le _, rfl, rfl, Lib.hid rfl, by omega, Lib.hid (alloc_at w _), Lib.hid ((Below.refl _ _).alloc (Nat.le_refl _) _)⟩
  case round =>
    obtain ⟨j, m, hj, rfl, rfl, HM, hm, HQ, HBr⟩ := hrel
    by_cases hlt : j < T.an
    · obtain ⟨b, off, hia, _, hbl, hla⟩ := HAC.out j hlt wr HBr.out
      have d2 : wr.cell? ⟨w.heap.size, 2, none⟩ = some (.slice (some ⟨b, off, none⟩) T.an T.ac) := by rw [← hia]; exact cell_at HQ.out rfl
      have c1 : wr.cell? ⟨b, off + j * 4 + 1, none⟩ = some (.string (T.arg j).text) := hla 1 _ rfl
      have htx := HTX.out j hlt
      have HX := Lib.hid (show minA A (j + 1) = min (minA A j + (T.arg j).text.size) 100000 by rw [HA.out]; rfl)
      obtain ⟨s, hs⟩ : ∃ s, (T.arg j).text = s := ⟨_, rfl⟩
      rw [hs] at c1 htx HX
      have hml : s.size ≤ maxLen := by unfold maxLen; omega
      clear hs hla hia
      by_cases hbig : m + s.size ≤ 100000
      · have hmm : min ((m : Int) + (s.size : Int)) 100000 = ((m + s.size : Nat) : Int) := by omega
        go_wp2
        all_goals
          go_roundw
          case rel => exact ⟨j + 1, m + s.size, by omega, by go_num, by go_num, Lib.hid (by rw [HX.out]; have := HM.out; omega), hbig, HQ, HBr⟩
          case measure => simp [intOf]; omega
      · have hmm : min ((m : Int) + (s.size : Int)) 100000 = 100000 := by omega
        go_wp2
        all_goals
          go_roundw
          case rel => exact ⟨j + 1, 100000, by omega, by go_num, by go_num, Lib.hid (by rw [HX.out]; have := HM.out; omega), by omega, HQ, HBr⟩
          case measure => simp [intOf]; omega
    · obtain rfl : j = T.an := by omega
      have d2 : wr.cell? ⟨w.heap.size, 2, none⟩ = some (.slice T.aa T.an T.ac) := cell_at HQ.out rfl
      go_wp2
      go_loopw [5, 7] (fun n i wr => ∃ (j : Nat) (z : Int), j ≤ T.kn ∧ i = .int .i64 j ∧ n = .int .i64 z ∧ Hid (z = minK (minA A T.an : Nat) F j) ∧ Hid (∀ i, i < j → greatX (T.kid i) (d + 1) = false) ∧ Hid (wr.heap[w.heap.size]? = some (.cells #[.int .i64 T.op, .int .i64 T.rel, .slice T.aa T.an T.ac, .slice T.ka T.kn T.kc] 25)) ∧ Hid (Below w.heap.size w wr)) (fun _ i _ => T.kn - (intOf i).toNat)
      case atStart => exact ⟨0, (m : Nat), Nat.zero_le _, rfl, rfl, Lib.hid (by rw [HM.out]; rfl), Lib.hid (fun i hi => absurd hi (Nat.not_lt_zero i)), HQ, HBr⟩
      case round =>
        obtain ⟨j, z, hj, rfl, rfl, HZ, HNO, HQ, HBr⟩ := hrel
        by_cases hlt : j < T.kn
        · obtain ⟨b, off, hia, _, hbl, hla⟩ := HC.out j hlt wr HBr.out
          have d3 : wr.cell? ⟨w.heap.size, 3, none⟩ = some (.slice (some ⟨b, off, none⟩) T.kn T.kc) := by rw [← hia]; exact cell_at HQ.out rfl
          have c0 : wr.cell? ⟨b, off + j * 4, none⟩ = some (.int .i64 (T.kid j).op) := hla 0 _ rfl
          have c1 : wr.cell? ⟨b, off + j * 4 + 1, none⟩ = some (.int .i64 (T.kid j).rel) := hla 1 _ rfl
          have c2 : wr.cell? ⟨b, off + j * 4 + 2, none⟩ = some (.slice (T.kid j).aa (T.kid j).an (T.kid j).ac) := hla 2 _ rfl
          have c3 : wr.cell? ⟨b, off + j * 4 + 3, none⟩ = some (.slice (T.kid j).ka (T.kid j).kn (T.kid j).kc) := hla 3 _ rfl
          have HN := Lib.hid (HI.out j hlt)
          have HS := Lib.hid (HSZ.out j hlt)
          have HIA := Lib.hid hia
          have HLA := Lib.hid (HC.out j hlt)
          clear hla hia
          unfold RGreatTo at HN
          unfold RSizeTo at HS
          rw [show (((d + 1 : Nat)) : Int) = (d : Int) + 1 by omega] at HN
          cases hg : greatX (T.kid j) (d + 1) with
          | true =>
            rw [hg] at HN
            have HYY := Lib.hid (HY.out j hlt hg)
            clear hg
            go_wp2_with (go_at_call 6; refine (HN.out _ HBr.out).mono ?_; rintro e w2 ⟨rfl, hb2⟩; have HB2 := Lib.hid (bth HBr.out hb2); clear hb2)
            go_ret
            exact ⟨ret_bo HYY.out.symm, HB2.out⟩
          | false =>
            rw [hg] at HN
            have HNO2 := Lib.hid (show ∀ i, i < j + 1 → greatX (T.kid i) (d + 1) = false from fun i hi => by
              rcases Nat.lt_succ_iff_lt_or_eq.1 hi with h | rfl
              · exact HNO.out i h
              · exact hg)
            clear hg
            obtain ⟨g, hgg⟩ : ∃ g, sizeX (T.kid j) = g := ⟨_, rfl⟩
            rw [hgg] at HS
            have HX := Lib.hid (show minK (minA A T.an : Nat) F (j + 1) = min (wrap64 (minK (minA A T.an : Nat) F j + g)) 100000 by rw [← hgg, HF.out]; rfl)
            clear hgg
            obtain ⟨y, hy⟩ : ∃ y, wrap64 (z + g) = y := ⟨_, rfl⟩
            have HYZ := Lib.hid hy
            clear hy
            go_wp2_with (first
              | (go_at_call 14; refine (HS.out _ HB2.out).mono ?_; rintro e w3 ⟨rfl, hb3⟩; have HB3 := Lib.hid (bth HB2.out hb3); have HQ3 := Lib.hid (rowKeep hb3 HQ2.out); clear hb3)
              | (go_at_call 6; refine (HN.out _ HBr.out).mono ?_; rintro e w2 ⟨rfl, hb2⟩; have HB2 := Lib.hid (bth HBr.out hb2); have HQ2 := Lib.hid (rowKeep hb2 HQ.out); have e3 := keepL hb2 (by exact d3); have e4 := keepL hb2 (by exact c0); have e5 := keepL hb2 (by exact c1); have e6 := keepL hb2 (by exact c2); have e7 := keepL hb2 (by exact c3); clear hb2))
            all_goals
              go_roundw
              case rel => exact ⟨j + 1, min (wrap64 (z + g)) 100000, by omega, by go_num, by first | rfl | (congr 1; omega), Lib.hid (by rw [HX.out, HZ.out]), HNO2, HQ3, HB3⟩
              case measure => simp [intOf]; omega
        · obtain rfl : j = T.kn := by omega
          have d3 : wr.cell? ⟨w.heap.size, 3, none⟩ = some (.slice T.ka T.kn T.kc) := cell_at HQ.out rfl
          go_wp2
          go_ret
          exact ⟨ret_bo (by rw [HE.out HNO.out]; have h := HZ.out; rw [HA.out, HF.out] at h; rw [h]), HBr.out⟩
end Go.Proofs.YtjgdkiikkgdbaaaGreatDoor
/- A tree that comes in, read. -/
namespace Go.Proofs.YtjgdkiikkgdbaaaGreatDoor
open Go.ChangeShapes Go.WideShapes Go.ChangeAt Go.RowKit
set_option linter.unusedVariables false
section
variable {H : Type} {enc : TypeId × Value → H} {P : Program} {w : World}
theorem rdgF_slice {fuel : Nat} {t e : TypeId} {cs : List Value} (n : Nat) (ht : P.underlying t = some (.slice e)) (hc : P.cellsOf e = n) (h : RdgF enc P w fuel t cs) :
    cs = [.slice none 0 0] ∨ ∃ (a : Addr) (len cap m : Nat), fuel = m + 1 ∧ cs = [.slice (some a) len cap] ∧ len ≤ cap ∧ cap * P.bytesOf e ≤ 140737488351232 ∧
      ∀ i, i < len → ∃ c : List Value, w.cells? 0 (a.add (i * n)) n = some c ∧ RdgF enc P w m e c := by
  obtain ⟨d, p, h, hw⟩ := h
  subst hc
  rcases DataW.trod_slice ht h with ⟨h0, _⟩ | ⟨a, len, cap, elems, rest, m, hfu, h1, h2, _, hl, hm, hlen, hel, hsp, _⟩
  · exact .inl h0
  · obtain ⟨hr, hrj⟩ := hsp rfl
    obtain ⟨rfl, _⟩ := Prod.mk.inj h2
    have e0 : reachBytes = 140737488351232 := by decide
    refine .inr ⟨a, len, cap, m, hfu, h1, hl, ?_, ?_⟩
    · have := hw ((elems.length + rest.length) * P.bytesOf e) (by simp [DataW.weights, ht])
      rw [e0, hlen, hr] at this
      rwa [Nat.add_sub_cancel' hl] at this
    · intro i hi
      have hq := hel i hi
      have hi' : i < elems.length := by omega
      rw [List.getElem?_eq_getElem hi'] at hq
      obtain ⟨cs', hcs, hx⟩ := Option.bind_eq_some_iff.1 hq
      refine ⟨cs', hcs, elems[i].1, elems[i].2, hx, fun k hk => hw k ?_⟩
      simp only [DataW.weights, ht, List.mem_cons, List.mem_append]
      exact .inr (.inl (weights_mem_all (j := i) (d := elems[i].1) (by rw [List.getElem?_map, List.getElem?_eq_getElem hi']; rfl) k hk))
end
section
variable {H : Type} {enc : TypeId × Value → H} {w : World}
theorem slice_at' {b' : Nat} {a : Addr} {n len : Nat} {Q : Nat → List Value → Prop} (hn : 0 < n) (hc : 0 < len) (h : ∀ i, i < len → ∃ c : List Value, w.cells? 0 (a.add (i * n)) n = some c ∧ Q i c) :
    ∃ b off, a = ⟨b, off, none⟩ ∧ ∀ i, i < len → ∃ c : List Value, c.length = n ∧ (∀ j, j < n → w.cell? ⟨b, off + i * n + j, none⟩ = c[j]?) ∧ Q i c := by
  have h0 : a = ⟨a.block, a.off, none⟩ := by
    obtain ⟨c, hcc, _⟩ := h 0 hc
    obtain ⟨_, hl, hat⟩ := World.cells?_some hcc
    have h1 := hat 0 hn
    have hl0 : 0 < c.length := by omega
    rw [List.getElem?_eq_getElem hl0, Nat.zero_mul] at h1
    have e2 : (a.add 0).add 0 = a := by unfold Addr.add; simp
    rw [e2] at h1
    exact spot_of_cell h1
  refine ⟨a.block, a.off, h0, fun i hi => ?_⟩
  obtain ⟨c, hcc, hr⟩ := h i hi
  obtain ⟨_, hl, hat⟩ := World.cells?_some hcc
  refine ⟨c, hl, fun j hj => ?_, hr⟩
  have h1 := hat j hj
  rw [Go.Deep.add_add, h0, add_plain, ← Nat.add_assoc] at h1
  exact h1
theorem lies_of {b off : Nat} {c : List Value} {n : Nat} (hcl : c.length = n) (hat : ∀ j, j < n → w.cell? ⟨b, off + j, none⟩ = c[j]?) : LiesAt w b off c := by
  intro r u hu
  have hr : r < n := by have := (List.getElem?_eq_some_iff.1 hu).1; omega
  rw [hat r hr, hu]
/-- a reading of a tree -/
theorem xtree_of : ∀ (n fuel : Nat) (cs : List Value), fuel ≤ n → cs.length = 4 → RdgF enc Tryz.prog w fuel 25 cs →
    ∃ T : XT, cs = [.int .i64 T.op, .int .i64 T.rel, .slice T.aa T.an T.ac, .slice T.ka T.kn T.kc] ∧ XAt w (· < w.heap.size) T ∧ XTx T
  | 0, fuel, cs, hn, _, h => by
    obtain ⟨m, hm, _⟩ := rdgF_field Tryz.underlying25 h 0 3 0 1 rfl (by kernel_rfl)
    omega
  | n + 1, fuel, cs, hn, hl, h => by
    obtain ⟨_, _, f0⟩ := rdgF_field Tryz.underlying25 h 0 3 0 1 rfl (by kernel_rfl)
    obtain ⟨_, _, f1⟩ := rdgF_field Tryz.underlying25 h 1 3 1 1 rfl (by kernel_rfl)
    obtain ⟨m2, hm2, f2⟩ := rdgF_field Tryz.underlying25 h 2 22 2 1 rfl (by kernel_rfl)
    obtain ⟨m, hm, f3⟩ := rdgF_field Tryz.underlying25 h 3 23 3 1 rfl (by kernel_rfl)
    obtain ⟨x0, e0, w0⟩ := rdg_int Tryz.underlying3 f0.rdg
    obtain ⟨x1, e1, w1⟩ := rdg_int Tryz.underlying3 f1.rdg
    match cs, hl with
    | [c0, c1, c2, c3], _ =>
      simp at e0 e1
      subst e0 e1
      have ha : ∃ (aa : Option Addr) (an ac : Nat) (g : Nat → Opd), c2 = .slice aa an ac ∧ an ≤ 3518437208780 ∧ ∀ i, i < an → CellsAt w (· < w.heap.size) aa i (opdC (g i)) ∧ OpX (g i) := by
        have hz : Tryz.prog.bytesOf 34 = 40 := by kernel_rfl
        rcases rdgF_slice 4 Tryz.underlying22 (by kernel_rfl) f2 with e3 | ⟨a, len, cap, m', hm', e3, hlc, hby, hel⟩
        · simp at e3; subst e3
          exact ⟨none, 0, 0, fun _ => default, rfl, Nat.zero_le _, fun i hi => absurd hi (Nat.not_lt_zero i)⟩
        · simp at e3; subst e3
          rw [hz] at hby
          have hq : ∀ i, i < len → ∃ o : Opd, CellsAt w (· < w.heap.size) (some a) i (opdC o) ∧ OpX o := by
            intro i hi
            obtain ⟨b, off, rfl, hc⟩ := slice_at' (b' := 0) (n := 4) (Q := fun _ c => RdgF enc Tryz.prog w m' 34 c) (by omega) (by omega) hel
            obtain ⟨c, hcl, hat, hr⟩ := hc i hi
            obtain ⟨o, rfl, ho⟩ := opd_of hcl hr
            have h0 := hat 0 (by omega)
            exact ⟨o, ⟨b, off, rfl, lt_of_cell h0, lt_of_cell h0, lies_of hcl hat⟩, ho⟩
          obtain ⟨L, hL⟩ := skolem hq
          exact ⟨some a, len, cap, L, rfl, by omega, hL⟩
      obtain ⟨aa, an, ac, g, rfl, han, hag⟩ := ha
      have hz : Tryz.prog.bytesOf 25 = 64 := by kernel_rfl
      rcases rdgF_slice 4 Tryz.underlying23 (by kernel_rfl) f3 with e3 | ⟨a, len, cap, m', hm', e3, hlc, hby, hel⟩
      · simp at e3
        subst e3
        exact ⟨.node x0 x1 aa an ac g none 0 0 (fun _ => .nil), rfl, (xat_iff _).2 ⟨⟨han, Nat.zero_le _⟩, fun i hi => (hag i hi).1, fun i hi => absurd hi (Nat.not_lt_zero i)⟩, (xtx_iff _).2 ⟨fun i hi => (hag i hi).2, fun i hi => absurd hi (Nat.not_lt_zero i)⟩⟩
      · simp at e3
        subst e3
        rw [hz] at hby
        have hq : ∀ i, i < len → ∃ T : XT, CellsAt w (· < w.heap.size) (some a) i (xtC T) ∧ XAt w (· < w.heap.size) T ∧ XTx T := by
          intro i hi
          obtain ⟨b, off, rfl, hc⟩ := slice_at' (b' := 0) (n := 4) (Q := fun _ c => RdgF enc Tryz.prog w m' 25 c) (by omega) (by omega) hel
          obtain ⟨c, hcl, hat, hr⟩ := hc i hi
          obtain ⟨T, rfl, hT⟩ := xtree_of n m' c (by omega) hcl hr
          have h0 := hat 0 (by omega)
          exact ⟨T, ⟨b, off, rfl, lt_of_cell h0, lt_of_cell h0, lies_of hcl hat⟩, hT⟩
        obtain ⟨L, hL⟩ := skolem hq
        exact ⟨.node x0 x1 aa an ac g (some a) len cap L, rfl, (xat_iff _).2 ⟨⟨han, by show len ≤ _; omega⟩, fun i hi => (hag i hi).1, fun i hi => ⟨(hL i hi).1, (hL i hi).2.1⟩⟩, (xtx_iff _).2 ⟨fun i hi => (hag i hi).2, fun i hi => (hL i hi).2.2⟩⟩
theorem x_of {cs : Array Value} (hl : cs.size = Tryz.prog.cellsOf 25) (h : Rdg enc Tryz.prog w 25 (Value.agg cs).cells.toList) : ∃ T : XT, Value.agg cs = .agg #[.int .i64 T.op, .int .i64 T.rel, .slice T.aa T.an T.ac, .slice T.ka T.kn T.kc] ∧ XAt w (· < w.heap.size) T ∧ XTx T := by
  obtain ⟨fuel, d, p, h1, h2⟩ := h
  have hc : Tryz.prog.cellsOf 25 = 4 := by kernel_rfl
  obtain ⟨T, hT, hv⟩ := xtree_of (enc := enc) (w := w) fuel fuel cs.toList (Nat.le_refl _) (by simp; omega) ⟨d, p, by simpa [Value.cells] using h1, h2⟩
  refine ⟨T, ?_, hv⟩
  refine congrArg Value.agg ?_
  exact Array.toList_inj.1 (by simpa using hT)
end
end Go.Proofs.YtjgdkiikkgdbaaaGreatDoor
