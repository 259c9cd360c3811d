/- Contracts of package bounds: behind, end, count, elements, fields. -/
import Derived.Test.YtficmdomnilhnaaGreatBoundsMath2
import Derived.Test.YtficmdomnilhnaaGreatAlignGap
import Derived.Test.YtficmdomnilhnaaGreatTypesCheck2
import Derived.Deep.RegionHeld3
namespace Go.Proofs.YtficmdomnilhnaaGreat
open Go.RowKit
set_option linter.unusedVariables false
theorem behind_any (a s : Nat) (hs : SzN s) (ha : a ≤ 4000) (w : World) : Calls Tryz.prog 104 #[.int .i64 (a : Nat), .int .i64 (s : Nat)] w fun e w' => e = .returned (.int .i64 (numE s a : Nat)) ∧ w = w' := by
  have h := numE_gap hs a
  have hg := gapZ_rng (a : Int) (s : Int)
  have h8 : s ≤ 8 := by rcases hs with rfl | rfl | rfl | rfl <;> omega
  have hc := fun w => gap_any (a : Int) (s : Int) (WalkArith.wf_i64 (by omega)) w
  obtain ⟨G, hG⟩ : ∃ G, gapZ (a : Int) (s : Int) = G := ⟨_, rfl⟩
  rw [hG] at h hg hc
  have HC := Lib.hid hc
  clear hc hG hs
  rw [← h]
  clear h
  go_enter Tryz.func104, Tryz.ntmps104
  go_wp2_with (go_at_call 110; refine (HC.out _).mono ?_; rintro e w' ⟨rfl, rfl⟩)
  go_ret
  exact ⟨rfl, rfl⟩
/-- the receiver, as its methods read it: the list, which ends, and those of the first n types -/
def RchAt (br : Nat) (ao : Option Addr) (len cap : Nat) (least : Bool) (v : Value) (w : World) : Prop := w.heap[br]? = some (.cells #[.slice ao len cap, .bool least, v] 97 (0, 0))
def Rd (br : Nat) (ao : Option Addr) (len cap : Nat) (least : Bool) (n : Nat) (K : Nat → Nat → Nat) (w : World) : Prop :=
  ∃ a kc, RchAt br ao len cap least (.slice a n kc) w ∧ ∀ p, p < n → ∃ g, a = some ⟨g, 0, none⟩ ∧ ∀ r, r < 8 → w.cell? ⟨g, p * 8 + r, none⟩ = some (.int .i64 (K p r : Nat)) ∧ K p r ≤ 4000
theorem Rd.held {br : Nat} {ao : Option Addr} {len cap : Nat} {least : Bool} {n : Nat} {K : Nat → Nat → Nat} {w w1 : World} (h : Rd br ao len cap least n K w) (hb : Below w.heap.size w w1) : Rd br ao len cap least n K w1 := by
  obtain ⟨a, kc, h1, h2⟩ := h
  refine ⟨a, kc, (hb.block br (lt_of_block h1)).trans h1, fun p hp => ?_⟩
  obtain ⟨g, e, hc⟩ := h2 p hp
  exact ⟨g, e, fun r hr => ⟨keep6 hb (hc r hr).1, (hc r hr).2⟩⟩
def endK (K : Nat → Nat → Nat) (t a : Nat) : Nat := min (a - a % 8 + K t (a % 8)) 513
theorem endK_le (K : Nat → Nat → Nat) (t a : Nat) : endK K t a ≤ 513 := by unfold endK; omega
theorem endR_any (br : Nat) (ao : Option Addr) (len cap : Nat) (least : Bool) (n : Nat) (K : Nat → Nat → Nat) (t a : Nat) (ht : t < n) (ha : a ≤ 4000) (w : World) (H : Rd br ao len cap least n K w) :
    Calls Tryz.prog 52 #[.pointer (some ⟨br, 0, none⟩), .int .i64 (t : Nat), .int .i64 (a : Nat)] w fun e w' => e = .returned (.int .i64 (endK K t a : Nat)) ∧ w = w' := by
  obtain ⟨ka, kc, h1, h2⟩ := H
  obtain ⟨g, rfl, hc⟩ := h2 t ht
  obtain ⟨c, hk⟩ := hc (a % 8) (by omega)
  have c0 := cell_at (j := 2) h1 rfl
  have he : (endK K t a : Int) = min ((a : Int) - ((a % 8 : Nat) : Int) + (K t (a % 8) : Nat)) 513 := by unfold endK; omega
  rw [he]
  have hr : ((a : Int) % 8) = ((a % 8 : Nat) : Int) := by omega
  have hr8 : a % 8 < 8 := by omega
  have hra : a % 8 ≤ a := Nat.mod_le _ _
  obtain ⟨r, hrr⟩ : ∃ r, a % 8 = r := ⟨_, rfl⟩
  rw [hrr] at c hk hr hr8 hra ⊢
  obtain ⟨k, hkk⟩ : ∃ k, K t r = k := ⟨_, rfl⟩
  rw [hkk] at c hk ⊢
  clear h1 h2 hc he hrr hkk
  go_enter Tryz.func52, Tryz.ntmps52
  go_wp2
  all_goals
    go_ret
    exact ⟨ret_i (by omega), rfl⟩
def cntC (least : Bool) (T : TypeV) : Int := if least && T.kind != 12 then 0 else T.bound
theorem count_any (br : Nat) (ao : Option Addr) (len cap : Nat) (least : Bool) (n : Nat) (K : Nat → Nat → Nat) (T : TypeV) (w : World) (H : Rd br ao len cap least n K w) :
    Calls Tryz.prog 105 #[.pointer (some ⟨br, 0, none⟩), typV T] w fun e w' => e = .returned (.int .i64 (cntC least T)) ∧ Below w.heap.size w w' := by
  obtain ⟨ka, kc, h1, _⟩ := H
  have hb := (Below.refl w.heap.size w).alloc (Nat.le_refl _) (typO T)
  have h1' := (hb.block br (lt_of_block h1)).trans h1
  have c1 := cell_at (j := 1) h1' rfl
  have hbx := BoxT.start T w
  obtain ⟨d0, _, d2, _⟩ := hbx.cells
  unfold typO at hb c1 d0 d2 h1'
  have HB := Lib.hid hb
  have h7 : br < w.heap.size := lt_of_block h1
  clear hb h1 hbx h1'
  unfold typV
  obtain ⟨c, hc⟩ : ∃ c, cntC least T = c := ⟨_, rfl⟩
  rw [hc]
  have HC := Lib.hid hc
  clear hc
  go_enter Tryz.func105, Tryz.ntmps105
  go_wp2
  all_goals
    go_ret
    refine ⟨ret_i ?_, HB.out⟩
    rw [← HC.out]
    unfold cntC
    simp_all
end Go.Proofs.YtficmdomnilhnaaGreat
namespace Go.Proofs.YtficmdomnilhnaaGreat
open Go.RowKit
set_option linter.unusedVariables false
theorem seqK_le (K : Nat → Nat → Nat) (P : Nat → Nat) (a : Nat) (ha : a ≤ 4000) : ∀ j, seqE (fun j => endK K (P j)) j a ≤ 4000
  | 0 => ha
  | j + 1 => Nat.le_trans (endK_le K (P j) _) (by decide)
set_option maxHeartbeats 400000 in
theorem elements_any (br : Nat) (ao : Option Addr) (len cap : Nat) (least : Bool) (n : Nat) (K : Nat → Nat → Nat) (T : TypeV) (p c a : Nat) (hp : p < n) (hof : T.of = (p : Nat)) (hc : cntC least T = (c : Nat)) (hc64 : c ≤ 64) (ha : a ≤ 4000)
    (w : World) (H : Rd br ao len cap least n K w) :
    Calls Tryz.prog 106 #[.pointer (some ⟨br, 0, none⟩), typV T, .int .i64 (a : Nat)] w fun e w' => e = .returned (.int .i64 (seqE (fun _ => endK K p) c a : Nat)) ∧ Below w.heap.size w w' := by
  obtain ⟨S, hS0, hSn, hSl⟩ : ∃ S : Nat → Nat, S 0 = a ∧ (∀ j, S (j + 1) = endK K p (S j)) ∧ ∀ j, S j = seqE (fun _ => endK K p) j a := ⟨fun j => seqE (fun _ => endK K p) j a, rfl, fun _ => rfl, fun _ => rfl⟩
  rw [← hSl]
  have HSL := Lib.hid (fun j => (by rw [hSl j]; exact seqK_le K (fun _ => p) a ha j : S j ≤ 4000))
  have HS0 := Lib.hid hS0
  have HSN := Lib.hid hSn
  clear hS0 hSn hSl
  have HX := Lib.hid (BoxT.start T w)
  have HR := Lib.hid (H.held ((Below.refl _ _).alloc (Nat.le_refl _) (typO T)))
  have hcl := (BoxT.start T w).cells
  obtain ⟨d0, d1, d2, d3, d4, d5⟩ := hcl
  have hcnt := fun w H => count_any br ao len cap least n K T w H
  rw [hc] at hcnt
  have HC := Lib.hid hcnt
  have HO := Lib.hid hof
  clear H hcnt hc hof
  unfold typO at HX HR d0 d1 d2 d3 d4 d5
  unfold typV
  unfold typV at HC
  go_enter Tryz.func106, Tryz.ntmps106
  go_upto_region 1 with (fail)
  generalize (w.alloc (.cells #[.int .i64 T.kind, .string T.name, .int .i64 T.bound, .int .i64 T.of, .int .i64 T.tag, .slice T.ia T.ilen T.icap] 47)) = wb at *
  go_wp2_with (go_at_call 105; refine (HC.out _ HR.out).mono ?_; rintro e w1 ⟨rfl, hb1⟩; have HX1 := Lib.hid (HX.out.keep hb1); have HR1 := Lib.hid (HR.out.held hb1); clear hb1 d0 d1 d2 d3 d4 d5)
  clear HX HR
  go_loopw [2, 10] (fun v i wr => ∃ j : Nat, j ≤ c ∧ i = .int .i64 j ∧ v = .int .i64 (S j : Nat) ∧ Hid (BoxT w.heap.size T w wr) ∧ Hid (Rd br ao len cap least n K wr)) (fun _ i _ => c - (intOf i).toNat)
  case atStart => exact ⟨0, Nat.zero_le _, rfl, by rw [HS0.out], HX1, HR1⟩
  case round =>
    obtain ⟨j, hj, rfl, rfl, HX2, HR2⟩ := hrel
    have hle := HSL.out j
    by_cases hlt : j < c
    · obtain ⟨d0, d1, d2, d3, d4, d5⟩ := HX2.out.cells
      rw [HO.out] at d3
      have he := endR_any br ao len cap least n K p _ hp hle wr HR2.out
      have HE := Lib.hid he
      have HN := Lib.hid (HSN.out j)
      clear he hle
      go_wp2_with (go_at_call 52; refine HE.out.mono ?_; rintro e w1 ⟨rfl, rfl⟩)
      go_roundw
      case rel => exact ⟨j + 1, by omega, by go_num, by rw [HN.out], HX2, HR2⟩
      case measure => simp [intOf]; omega
    · obtain rfl : j = c := by omega
      go_wp2
      go_ret
      exact ⟨rfl, HX2.out.2⟩
set_option maxHeartbeats 400000 in
theorem fields_any (br : Nat) (ao : Option Addr) (len cap : Nat) (least : Bool) (n : Nat) (K : Nat → Nat → Nat) (T : TypeV) (P : Nat → Nat) (a : Nat) (hP : ∀ j, j < T.ilen → (T.items j).type = (P j : Nat) ∧ P j < n) (ha : a ≤ 4000)
    (w : World) (HI0 : ItemsAt w T) (H : Rd br ao len cap least n K w) :
    Calls Tryz.prog 107 #[.pointer (some ⟨br, 0, none⟩), typV T, .int .i64 (a : Nat)] w fun e w' => e = .returned (.int .i64 (seqE (fun j => endK K (P j)) T.ilen a : Nat)) ∧ Below w.heap.size w w' := by
  obtain ⟨S, hS0, hSn, hSl⟩ : ∃ S : Nat → Nat, S 0 = a ∧ (∀ j, S (j + 1) = endK K (P j) (S j)) ∧ ∀ j, S j = seqE (fun j => endK K (P j)) j a := ⟨fun j => seqE (fun j => endK K (P j)) j a, rfl, fun _ => rfl, fun _ => rfl⟩
  rw [← hSl]
  have HSL := Lib.hid (fun j => (by rw [hSl j]; exact seqK_le K P a ha j : S j ≤ 4000))
  have HS0 := Lib.hid hS0
  have HSN := Lib.hid hSn
  clear hS0 hSn hSl
  obtain ⟨hil, hit⟩ := HI0
  obtain ⟨ia, hia⟩ : ∃ ia, T.ia = ia := ⟨_, rfl⟩
  rw [hia] at hit
  have HI := Lib.hid hit
  have hst := BoxT.start T w
  have hrr := H.held ((Below.refl _ _).alloc (Nat.le_refl _) (typO T))
  have hcl := (BoxT.start T w).cells
  obtain ⟨d0, d1, d2, d3, d4, d5⟩ := hcl
  unfold typO at hst hrr d0 d1 d2 d3 d4 d5
  rw [hia] at hst hrr d0 d1 d2 d3 d4 d5
  have HX := Lib.hid hst
  have HR := Lib.hid hrr
  have HP := Lib.hid hP
  unfold typV
  rw [hia]
  clear H hP hit hia hst hrr
  go_enter Tryz.func107, Tryz.ntmps107
  go_upto_region 1 with (fail)
  generalize (w.alloc (.cells #[.int .i64 T.kind, .string T.name, .int .i64 T.bound, .int .i64 T.of, .int .i64 T.tag, .slice ia T.ilen T.icap] 47)) = wb at *
  go_wp2
  clear d0 d1 d2 d3 d4 d5
  go_loopw [2, 12] (fun v i wr => ∃ j : Nat, j ≤ T.ilen ∧ i = .int .i64 j ∧ v = .int .i64 (S j : Nat) ∧ Hid (BoxT w.heap.size T w wr) ∧ Hid (Rd br ao len cap least n K wr)) (fun _ i _ => T.ilen - (intOf i).toNat)
  case atStart => exact ⟨0, Nat.zero_le _, rfl, by rw [HS0.out], HX, HR⟩
  case round =>
    obtain ⟨j, hj, rfl, rfl, HX2, HR2⟩ := hrel
    have hle := HSL.out j
    by_cases hlt : j < T.ilen
    · obtain ⟨hp1, hp2⟩ := HP.out j hlt
      have hiat := (HI.out j hlt).held (w1 := wr) HX2.out.2
      obtain ⟨b, off, rfl, e0, e1, e2, e3, e4, wi⟩ := hiat
      have hal := (Below.refl wr.heap.size wr).alloc (Nat.le_refl _) (itmO (T.items j))
      have HX3 := Lib.hid (HX2.out.keep hal)
      have HR3 := Lib.hid (HR2.out.held hal)
      have he := endR_any br ao len cap least n K (P j) _ hp2 hle _ HR3.out
      rw [← hp1] at he
      unfold itmO at HX3 HR3 he
      have HE := Lib.hid he
      have HN := Lib.hid (HSN.out j)
      clear he hle hal hp1
      go_wp2_with (go_at_call 52; refine HE.out.mono ?_; rintro e w1 ⟨rfl, rfl⟩)
      go_roundw
      case rel => exact ⟨j + 1, by omega, by go_num, by rw [HN.out], HX3, HR3⟩
      case measure => simp [intOf]; omega
    · obtain rfl : j = T.ilen := by omega
      go_wp2
      go_ret
      exact ⟨rfl, HX2.out.2⟩
end Go.Proofs.YtficmdomnilhnaaGreat
