/- Contracts of chapter 10's reference: End, Bytes: a row in memory. -/
import Derived.Test.YtficmdomnilhnaaGreatPutMath
import Derived.Test.YtficmdomnilhnaaGreatAlignRefPut
import Derived.Deep.RegionHeld3
namespace Go.Proofs.YtficmdomnilhnaaGreat
open Go.RowKit
set_option linter.unusedVariables false
def pzP : RPart → Int | .num _ z => z | .text _ => 0
def pnP : RPart → Int | .num n _ => n | .text _ => 0
def ptP : RPart → ByteArray | .num _ _ => ⟨#[]⟩ | .text s => s
/-- a part's cells -/
def partC (p : RPart) : List Value := [.int .i64 (pzP p), .int .u64 (pnP p), .string (ptP p)]
def rowC (r : List RPart) : List Value := r.flatMap partC
theorem rowC_app (r q : List RPart) : rowC (r ++ q) = rowC r ++ rowC q := List.flatMap_append
theorem rowC_len : ∀ r : List RPart, (rowC r).length = r.length * 3
  | [] => rfl
  | p :: r => by
    show (partC p ++ rowC r).length = (r.length + 1) * 3
    rw [List.length_append, rowC_len r]
    show 3 + _ = _
    omega
theorem rowC_one : ∀ r : List RPart, ∀ u ∈ rowC r, u.oneCell' = true
  | [], u, h => by cases h
  | p :: r, u, h => by
    rcases List.mem_append.1 (show u ∈ partC p ++ rowC r from h) with h | h
    · unfold partC at h
      simp only [List.mem_cons, List.not_mem_nil, or_false] at h
      rcases h with rfl | rfl | rfl <;> rfl
    · exact rowC_one r u h
theorem rowC_get : ∀ (r : List RPart) (j : Nat) (p : RPart), r[j]? = some p → ∀ i, i < 3 → (rowC r)[j * 3 + i]? = (partC p)[i]?
  | [], j, p, h, i, hi => by simp at h
  | q :: r, 0, p, h, i, hi => by
    simp at h
    subst h
    show (partC q ++ rowC r)[0 * 3 + i]? = _
    rw [Nat.zero_mul, Nat.zero_add, List.getElem?_append_left (by show i < 3; exact hi)]
  | q :: r, j + 1, p, h, i, hi => by
    show (partC q ++ rowC r)[(j + 1) * 3 + i]? = _
    have h3 : (partC q).length = 3 := rfl
    rw [List.getElem?_append_right (by rw [h3]; omega), h3]
    have e : (j + 1) * 3 + i - 3 = j * 3 + i := by omega
    rw [e]
    exact rowC_get r j p (by simpa using h) i hi
/-- a row in memory -/
def RowIn (w : World) (g : Nat) (r : List RPart) : Prop :=
  ∀ j p, r[j]? = some p → w.cell? ⟨g, j * 3, none⟩ = some (.int .i64 (pzP p)) ∧ w.cell? ⟨g, j * 3 + 1, none⟩ = some (.int .u64 (pnP p)) ∧ w.cell? ⟨g, j * 3 + 2, none⟩ = some (.string (ptP p))
theorem RowIn.keep {w w1 : World} {g : Nat} {r : List RPart} (h : RowIn w g r) (hb : Below w.heap.size w w1) : RowIn w1 g r := fun j p hp => by
  obtain ⟨h1, h2, h3⟩ := h j p hp
  exact ⟨Go.Proofs.YtficmdomnilhnaaGreat.keep hb h1, Go.Proofs.YtficmdomnilhnaaGreat.keep hb h2, Go.Proofs.YtficmdomnilhnaaGreat.keep hb h3⟩
theorem take_next {r : List RPart} {j : Nat} {p : RPart} (h : r[j]? = some p) : r.take (j + 1) = r.take j ++ [p] := by
  rw [List.take_add_one, h]; rfl
theorem take_endR {r : List RPart} {j : Nat} {p : RPart} (h : r[j]? = some p) (a : Nat) : endR (r.take (j + 1)) a = endP p (endR (r.take j) a) := by
  rw [take_next h, endR_app]; rfl
theorem take_bytR {r : List RPart} {j : Nat} {p : RPart} (h : r[j]? = some p) (t : ByteArray) : bytR (r.take (j + 1)) t = bytP p (bytR (r.take j) t) := by
  rw [take_next h, bytR_app]; rfl
theorem take_le (r : List RPart) (j a : Nat) : endR (r.take j) a ≤ endR r a := by
  have e : r = r.take j ++ r.drop j := (List.take_append_drop j r).symm
  have h := endR_app (r.take j) (r.drop j) a
  rw [← e] at h
  rw [h]
  exact endR_ge _ _
theorem bufPut_ok {t : ByteArray} {n z : Int} (h : okPart (.num n z)) : bufPut t n z = bytP (.num n z) t ∧ putE n z = 0 := by
  have e := (put_in h.1 h.2.1).2
  refine ⟨?_, e⟩
  unfold bufPut
  rw [if_pos e]; rfl
set_option maxHeartbeats 4000000 in
theorem rend_any (g c : Nat) (r : List RPart) (a : Nat) (hok : ∀ p ∈ r, okPart p) (hlen : r.length ≤ 2513169434843) (he : endR r a ≤ 4611686018427387904) (w : World) (H : RowIn w g r) :
    Calls Tryz.prog 13 #[.slice (some ⟨g, 0, none⟩) r.length c, .int .i64 (a : Nat)] w fun e w' => e = .returned (.int .i64 (endR r a : Nat)) ∧ Below w.heap.size w w' := by
  have HH := Lib.hid H
  have HO := Lib.hid hok
  have HE := Lib.hid he
  obtain ⟨n, hn⟩ : ∃ n, r.length = n := ⟨_, rfl⟩
  rw [hn] at hlen ⊢
  have HN := Lib.hid hn
  clear H hok he hn
  go_enter Tryz.func13, Tryz.ntmps13
  go_wp2
  go_loopw [1, 5] (fun s i wr => ∃ j : Nat, j ≤ n ∧ i = .int .i64 j ∧ s = .int .i64 (endR (r.take j) a : Nat) ∧ Hid (Below w.heap.size w wr)) (fun s i _ => n - (intOf i).toNat)
  case atStart => exact ⟨0, Nat.zero_le _, rfl, rfl, Lib.hid (Below.refl _ _)⟩
  case round =>
    obtain ⟨j, hj, rfl, rfl, HB⟩ := hrel
    by_cases hlt : j < n
    · obtain ⟨p, hp⟩ : ∃ p, r[j]? = some p := ⟨r[j]'(by have := HN.out; omega), List.getElem?_eq_getElem _⟩
      obtain ⟨c0, c1, c2⟩ := (HH.out.keep HB.out) j p hp
      have hpo := HO.out p (List.mem_of_getElem? hp)
      have hnx := take_endR hp a
      have hle := take_le r (j + 1) a
      have hfin := HE.out
      obtain ⟨A, hA⟩ : ∃ A, endR (r.take j) a = A := ⟨_, rfl⟩
      rw [hA] at hnx ⊢
      have hge := endP_ge p A
      cases p with
      | num m z =>
        obtain ⟨hz, _, _, _⟩ := hpo
        obtain ⟨hs1, hs2⟩ := sz_nat hz
        have hgap := numE_gap hs1 A
        rw [hs2] at hgap
        have hgr := gapZ_rng (A : Nat) z
        have hnx' : endR (r.take (j + 1)) a = numE z.toNat A := hnx
        have hzz : 0 < z ∧ z ≤ 8 := by rcases isSz_cases hz with rfl | rfl | rfl | rfl <;> omega
        have hge' : A ≤ numE z.toNat A := hge
        obtain ⟨E, hE⟩ : ∃ E, numE z.toNat A = E := ⟨_, rfl⟩
        rw [hE] at hgap hnx' hge'
        have HG := Lib.hid (fun w => gap_any (A : Nat) z (WalkArith.wf_i64 (by omega)) w)
        obtain ⟨gp, hgp⟩ : ∃ gp, gapZ (A : Nat) z = gp := ⟨_, rfl⟩
        have HRG := Lib.hid (fun w => refGap_any (A : Nat) z (WalkArith.wf_i64 (by omega)) w)
        rw [hgp] at HG hgap hgr HRG
        have hx1 : IntKind.i64.wrap (gp + z) = gp + z := IntWalk.i64_in _ (by omega)
        have hx2 : IntKind.i64.wrap ((A : Nat) + (gp + z)) = (E : Nat) := by
          have e2 : IntKind.i64.wrap ((A : Nat) + (gp + z)) = (A : Nat) + (gp + z) := IntWalk.i64_in _ (by omega)
          rw [e2]; omega
        have HX := Lib.hid hnx'
        have e0 : wr.cell? ⟨g, j * 3, none⟩ = some (.int .i64 z) := c0
        have HA := Lib.hid hA
        clear c0 c1 c2 hnx hnx' hle hfin hge hge' hE hgp hp hs1 hs2 hz hA HG
        go_upto_region 5 with (fail)
        go_region_held3 (fun w' => w'.cell? ⟨g, j * 3, none⟩ = some (.int .i64 z))
          (first | exact e0 | fail)
          (first | (go_at_call 26; refine (HRG.out _).mono ?_; rintro e w3 ⟨rfl, rfl⟩))
        all_goals
          go_wp2
          go_roundw
          case rel => exact ⟨j + 1, by omega, by go_num, by rw [HX.out], Lib.hid (by first | exact HB.out | exact HB.out.drew)⟩
          case measure => simp [intOf]; omega
      | text u =>
        obtain ⟨hu0, hu1⟩ : 0 < u.size ∧ u.size ≤ 1000 := hpo
        have hnx' : endR (r.take (j + 1)) a = A + u.size := hnx
        have e0 : wr.cell? ⟨g, j * 3, none⟩ = some (.int .i64 0) := c0
        have e2 : wr.cell? ⟨g, j * 3 + 2, none⟩ = some (.string u) := c2
        have hx : IntKind.i64.wrap (((A : Nat) : Int) + ((u.size : Nat) : Int)) = ((A + u.size : Nat) : Int) := by
          rw [IntWalk.i64_in _ (by omega)]; omega
        have HX := Lib.hid hnx'
        have HA := Lib.hid hA
        clear c0 c1 c2 hnx hnx' hle hfin hge hp hA
        go_wp2
        go_roundw
        case rel => exact ⟨j + 1, by omega, by go_num, by rw [HX.out]; first | rfl | (congr 1; omega), HB⟩
        case measure => simp [intOf]; omega
    · obtain rfl : j = n := by omega
      have e : r.take j = r := List.take_of_length_le (by have := HN.out; omega)
      rw [e]
      clear e
      go_wp2
      go_ret
      exact ⟨rfl, HB.out⟩
set_option maxHeartbeats 4000000 in
theorem rbytes_any (g c : Nat) (r : List RPart) (hok : ∀ p ∈ r, okPart p) (hlen : r.length ≤ 2513169434843) (he : endR r 0 ≤ 1000000) (w : World) (H : RowIn w g r) :
    Calls Tryz.prog 23 #[.slice (some ⟨g, 0, none⟩) r.length c] w fun e w' => e = .returned (.string (bytR r ⟨#[]⟩)) ∧ Below w.heap.size w w' := by
  have HH := Lib.hid H
  have HO := Lib.hid hok
  have HE := Lib.hid he
  obtain ⟨n, hn⟩ : ∃ n, r.length = n := ⟨_, rfl⟩
  rw [hn] at hlen ⊢
  have HN := Lib.hid hn
  clear H hok he hn
  go_enter Tryz.func23, Tryz.ntmps23
  go_wp2
  go_loopw [3, 4] (fun s i wr => ∃ j : Nat, j ≤ n ∧ i = .int .i64 j ∧ s = .string (bytR (r.take j) ⟨#[]⟩) ∧ Hid (Below w.heap.size w wr)) (fun s i _ => n - (intOf i).toNat)
  case atStart => exact ⟨0, Nat.zero_le _, rfl, rfl, Lib.hid (Below.refl _ _)⟩
  case round =>
    obtain ⟨j, hj, rfl, rfl, HB⟩ := hrel
    by_cases hlt : j < n
    · obtain ⟨p, hp⟩ : ∃ p, r[j]? = some p := ⟨r[j]'(by have := HN.out; omega), List.getElem?_eq_getElem _⟩
      obtain ⟨c0, c1, c2⟩ := (HH.out.keep HB.out) j p hp
      have hpo := HO.out p (List.mem_of_getElem? hp)
      have hnx := take_bytR hp ⟨#[]⟩
      have hsz := bytR_size (r.take j) (fun q hq => HO.out q (List.mem_of_mem_take hq)) ⟨#[]⟩
      have hsz' : (bytR (r.take j) ⟨#[]⟩).size = endR (r.take j) 0 := hsz
      have hle := take_le r j 0
      have hfin := HE.out
      obtain ⟨A, hA⟩ : ∃ A, bytR (r.take j) ⟨#[]⟩ = A := ⟨_, rfl⟩
      rw [hA] at hnx hsz' ⊢
      have hA6 : A.size ≤ 1000000 := by omega
      cases p with
      | num m z =>
        obtain ⟨_, _, hm0, hm1⟩ := (show okPart (.num m z) from hpo)
        obtain ⟨b1, b2⟩ := bufPut_ok (t := A) hpo
        have hzz : 0 < z ∧ z ≤ 8 := by rcases isSz_cases hpo.1 with rfl | rfl | rfl | rfl <;> omega
        have hcl := fun w => refBPut_any A m z (WalkArith.wf_u64 (by omega)) (by omega) w
        rw [b1, b2, ← hnx] at hcl
        obtain ⟨B, hB⟩ : ∃ B, bytR (r.take (j + 1)) ⟨#[]⟩ = B := ⟨_, rfl⟩
        rw [hB] at hcl
        have HX := Lib.hid hB
        have HC := Lib.hid hcl
        have e0 : wr.cell? ⟨g, j * 3, none⟩ = some (.int .i64 z) := c0
        have e1 : wr.cell? ⟨g, j * 3 + 1, none⟩ = some (.int .u64 m) := c1
        have HA := Lib.hid hA
        clear c0 c1 c2 hnx hle hfin hp hA hB hcl b1 b2 hpo hsz hsz'
        go_upto_region 6 with (fail)
        go_region_held3 (fun w' => w'.cell? ⟨g, j * 3, none⟩ = some (.int .i64 z) ∧ w'.cell? ⟨g, j * 3 + 1, none⟩ = some (.int .u64 m))
          (first | exact ⟨e0, e1⟩ | fail)
          (first | (go_at_call 37; refine (HC.out _).mono ?_; rintro e w3 ⟨rfl, hb3⟩; have HB3 := Lib.hid (below_step8' (by first | exact HB.out | exact HB.out.drew) hb3); have e0 := keep hb3 (by exact e0); have e1 := keep hb3 (by exact e1); clear hb3))
        all_goals
          go_wp2
          go_roundw
          case rel => exact ⟨j + 1, by omega, by go_num, by rw [HX.out], Lib.hid (by first | exact HB3.out | exact HB3.out.drew)⟩
          case measure => simp [intOf]; omega
      | text u =>
        obtain ⟨hu0, hu1⟩ : 0 < u.size ∧ u.size ≤ 1000 := hpo
        have hnx' : bytR (r.take (j + 1)) ⟨#[]⟩ = A ++ u := hnx
        have e0 : wr.cell? ⟨g, j * 3, none⟩ = some (.int .i64 0) := c0
        have e2 : wr.cell? ⟨g, j * 3 + 2, none⟩ = some (.string u) := c2
        have hm : A.size + u.size ≤ maxLen := by unfold maxLen; omega
        have HX := Lib.hid hnx'
        have HA := Lib.hid hA
        clear c0 c1 c2 hnx hnx' hle hfin hp hA hsz hsz'
        go_wp2
        go_roundw
        case rel => exact ⟨j + 1, by omega, by go_num, by rw [HX.out], HB⟩
        case measure => simp [intOf]; omega
    · obtain rfl : j = n := by omega
      have e : r.take j = r := List.take_of_length_le (by have := HN.out; omega)
      rw [e]
      clear e
      go_wp2
      go_ret
      exact ⟨rfl, HB.out⟩
end Go.Proofs.YtficmdomnilhnaaGreat
