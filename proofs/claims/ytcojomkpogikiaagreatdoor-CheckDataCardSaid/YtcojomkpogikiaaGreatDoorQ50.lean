/- The reference of chapter 18: the datum of an operand. -/
import Derived.Test.YtcojomkpogikiaaGreatDoorQ28
import Derived.Test.YtcojomkpogikiaaGreatDoorQ47
import Derived.Test.YtcojomkpogikiaaGreatDoorQ49
namespace Go.Proofs.YtcojomkpogikiaaGreatDoor
open Go.RowKit
set_option linter.unusedVariables false
set_option linter.unusedSimpArgs false
def RDatTo (L : Nat → Pa.TypeV) (ao : Option Addr) (len cap : Nat) (t : Int) (a b : Opd) (w : World) : Prop :=
  Calls Tryz.prog 16 #[.slice ao len cap, .int .i64 t, .agg #[.int .i64 a.kind, .string a.text, .bool a.neg, .int .u64 a.num], .agg #[.int .i64 b.kind, .string b.text, .bool b.neg, .int .u64 b.num]] w fun e w' => e = .returned (Pa.datV (datE L len t a b)) ∧ Below w.heap.size w w'
theorem ret_dat18 {d : DatV} {k n : Int} {g : Bool} {x : ByteArray} (h : d = ⟨k, g, n, x⟩) : Ending.returned (.agg #[.int .i64 k, .bool g, .int .u64 n, .string x]) = .returned (Pa.datV d) := by rw [h]; rfl
set_option maxRecDepth 100000 in
set_option maxHeartbeats 8000000 in
theorem rdatum_any (L : Nat → Pa.TypeV) (ao : Option Addr) (len cap : Nat) (hlen : len ≤ 1000000) (t : Int) (a b : Opd) (ha : a.text.size ≤ 1000000) (hb : b.text.size ≤ 1000000) (w : World) (H : ∀ i, i < len → Pa.TypeAt w ao i (L i)) : RDatTo L ao len cap t a b w := by
  unfold RDatTo
  have HW := Lib.hid (fun wx (hx : Below w.heap.size w wx) => what_any L ao len cap hlen t b hb wx (hold18 H hx))
  have HI := Lib.hid (fun u s wx (hx : Below w.heap.size w wx) => Pa.refItem_any ao len cap L u s (by omega) wx (hold18 H hx))
  have HH := Lib.hid (fun wx (hx : Below w.heap.size w wx) => hold18 H hx)
  have hib := what_in L len t b
  have HT0 := Lib.hid (Dst.start w a b)
  unfold WhatTo at HW
  obtain ⟨X, hX⟩ : ∃ X, (whatA L len t b).1 = X := ⟨_, rfl⟩
  rw [hX] at HW hib
  generalize (whatA L len t b).2 = EB at HW
  obtain ⟨D, hD⟩ : ∃ D, datE L len t a b = D := ⟨_, rfl⟩
  have hd : D = if a.kind = 2 then ⟨1, a.neg && a.num != 0, a.num, ⟨#[]⟩⟩ else if a.kind = 4 then ⟨3, false, a.num, ⟨#[]⟩⟩ else if a.kind = 3 then datW L len (if b.kind = 1 then X else 0) a else noDat := by rw [← hD, ← hX]; rfl
  rw [hD]
  obtain ⟨ka, xa, ga, na⟩ := a
  obtain ⟨kb, xb, gb, nb⟩ := b
  simp only at HW HT0 hd ha ⊢
  obtain ⟨a0, a1, a2, a3⟩ := opd_box HT0.out.two.1
  obtain ⟨b0, b1, b2, b3⟩ := opd_box HT0.out.two.2.1
  simp only at a0 a1 a2 a3 b0 b1 b2 b3
  clear hX hD hb H
  by_cases h2 : ka = 2
  · subst h2
    rw [if_pos rfl] at hd
    have HDD := Lib.hid hd
    clear hd
    cases ga with
    | true =>
      obtain ⟨q, hq⟩ : ∃ q, (na != 0) = q := ⟨_, rfl⟩
      have HDQ := Lib.hid (show D = ⟨1, q, na, ⟨#[]⟩⟩ by rw [HDD.out, ← hq]; rfl)
      go_enter Tryz.func16, Tryz.ntmps16
      go_wp2_with (first | (refine wpList_store_rowTo rfl 43 _ _ rfl rfl (w.heap.size + 1 + 1) #[.int .i64 1, .bool q, .int .u64 na, .string ⟨#[]⟩] rfl rfl _ _ HT0.out.res (by kernel_rfl) (by kernel_rfl) (by kernel_rfl) ?_))
      refine bodyPost_ret (v := .agg #[.int .i64 1, .bool q, .int .u64 na, .string ⟨#[]⟩]) ?_ rfl ⟨ret_dat18 HDQ.out, below_setRow HT0.out.bel (by omega) _⟩
      have hl := run_loadVar_row (P := Tryz.prog) _ (w.heap.size + 1 + 1) _ 43 _ _ _ (setRow_heap _ _ _ #[.int .i64 1, .bool q, .int .u64 na, .string ⟨#[]⟩] _ _ HT0.out.res) Tryz.underlying43 rfl (by kernel_rfl)
      simp [results, Tryz.results16, asAddr]
      exact hl
    | false =>
      have HDQ := Lib.hid (show D = ⟨1, false, na, ⟨#[]⟩⟩ by rw [HDD.out]; rfl)
      go_enter Tryz.func16, Tryz.ntmps16
      go_wp2_with (first | (refine wpList_store_rowTo rfl 43 _ _ rfl rfl (w.heap.size + 1 + 1) #[.int .i64 1, .bool false, .int .u64 na, .string ⟨#[]⟩] rfl rfl _ _ HT0.out.res (by kernel_rfl) (by kernel_rfl) (by kernel_rfl) ?_))
      refine bodyPost_ret (v := .agg #[.int .i64 1, .bool false, .int .u64 na, .string ⟨#[]⟩]) ?_ rfl ⟨ret_dat18 HDQ.out, below_setRow HT0.out.bel (by omega) _⟩
      have hl := run_loadVar_row (P := Tryz.prog) _ (w.heap.size + 1 + 1) _ 43 _ _ _ (setRow_heap _ _ _ #[.int .i64 1, .bool false, .int .u64 na, .string ⟨#[]⟩] _ _ HT0.out.res) Tryz.underlying43 rfl (by kernel_rfl)
      simp [results, Tryz.results16, asAddr]
      exact hl
  rw [if_neg h2] at hd
  have h2 : (ka == 2) = false := by rw [beq_eq_false_iff_ne]; exact h2
  by_cases h4 : ka = 4
  · subst h4
    rw [if_pos rfl] at hd
    have HDQ := Lib.hid hd
    clear hd h2
    go_enter Tryz.func16, Tryz.ntmps16
    go_wp2_with (first | (refine wpList_store_rowTo rfl 43 _ _ rfl rfl (w.heap.size + 1 + 1) #[.int .i64 3, .bool false, .int .u64 na, .string ⟨#[]⟩] rfl rfl _ _ HT0.out.res (by kernel_rfl) (by kernel_rfl) (by kernel_rfl) ?_))
    refine bodyPost_ret (v := .agg #[.int .i64 3, .bool false, .int .u64 na, .string ⟨#[]⟩]) ?_ rfl ⟨ret_dat18 HDQ.out, below_setRow HT0.out.bel (by omega) _⟩
    have hl := run_loadVar_row (P := Tryz.prog) _ (w.heap.size + 1 + 1) _ 43 _ _ _ (setRow_heap _ _ _ #[.int .i64 3, .bool false, .int .u64 na, .string ⟨#[]⟩] _ _ HT0.out.res) Tryz.underlying43 rfl (by kernel_rfl)
    simp [results, Tryz.results16, asAddr]
    exact hl
  rw [if_neg h4] at hd
  have h4 : (ka == 4) = false := by rw [beq_eq_false_iff_ne]; exact h4
  by_cases h3 : ka = 3
  · subst h3
    rw [if_pos rfl] at hd
    clear h2 h4
    by_cases h1 : kb = 1
    · subst h1
      rw [if_pos rfl] at hd
      by_cases hx : 4 ≤ X
      · have hxl := hib.2 hx
        have hxw : IntKind.i64.wrap (X - 4) = X - 4 := IntWalk.i64_in _ (by omega)
        obtain ⟨u, hu⟩ : ∃ u : Nat, X - 4 = (u : Nat) := ⟨(X - 4).toNat, by omega⟩
        have hul : u < len := by omega
        have HU := Lib.hid hu
        by_cases hn : 0 ≤ Pa.itemL L len (X - 4) xa
        · have hnl : Pa.itemL L len (X - 4) xa < ((L u).ilen : Nat) := by rw [hu] at hn ⊢; exact Pa.item_lt hn
          obtain ⟨m, hm⟩ : ∃ m : Nat, Pa.itemL L len (X - 4) xa = (m : Nat) := ⟨_, (Int.toNat_of_nonneg hn).symm⟩
          have hmi : m < (L u).ilen := by omega
          have hdq : D = datK 9 ((L u).items m).num := by
            rw [hd]
            unfold datW
            rw [if_pos ⟨hx, hn⟩, hm, hu]; rfl
          have HDQ := Lib.hid hdq
          have HIX := Lib.hid (fun wx (hx : Below w.heap.size w wx) => HI.out (X - 4) xa wx hx)
          rw [hm] at HIX
          have hwf : (Lit.int .u64 ((L u).items m).num).wf = true := by
            obtain ⟨_, _, _, _, _, _, _, _, _, _, hi⟩ := HH.out w (Below.refl _ _) u hul
            obtain ⟨_, _, _, _, _, _, _, _, hw⟩ := hi.2 m hmi
            exact hw.1
          have HDT := Lib.hid (fun wx => Pa.refDatum_any 9 ((L u).items m).num hwf wx)
          obtain ⟨⟨dk, dg, dn, dx⟩, hdk⟩ : ∃ d, datK 9 ((L u).items m).num = d := ⟨_, rfl⟩
          rw [hdk] at HDT
          unfold Pa.datV at HDT
          simp only at HDT
          have HDQ := Lib.hid (hdq.trans hdk)
          obtain ⟨tb, toff, rfl, -⟩ := HH.out w (Below.refl _ _) u hul
          have HTY := Lib.hid (fun wx (hx : Below w.heap.size w wx) => num_at (HH.out wx hx u hul) hmi)
          obtain ⟨num, hnum⟩ : ∃ num, ((L u).items m).num = num := ⟨_, rfl⟩
          rw [hnum] at HDT HTY
          obtain ⟨il, hil⟩ : ∃ il, (L u).ilen = il := ⟨_, rfl⟩
          rw [hil] at HTY hmi
          have hmii : (m : Int) < (il : Int) := by omega
          have hui : (u : Int) < (len : Int) := by omega
          rw [hu] at hxw HIX
          clear hd hdq hdk hnum hil hnl hn hm hwf HI HH
          go_enter Tryz.func16, Tryz.ntmps16
          go_wp2_with (first | (go_at_call 32; (with_reducible refine (HDT.out _).mono ?_); rintro e w3 ⟨rfl, hb⟩; have HT3 := Lib.hid (HT1.out.next hb); clear hb) | (go_at_call 31; (with_reducible refine (HIX.out _ (by exact HT1.out.bel)).mono ?_); rintro e w2 ⟨rfl, rfl⟩) | (go_at_call 30; (with_reducible refine (HW.out _ (by exact HT0.out.bel)).mono ?_); rintro e w1 ⟨rfl, hb⟩; have HT1 := Lib.hid (HT0.out.next hb); obtain ⟨d0, d1, d2, d3⟩ := opd_box HT1.out.two.1; obtain ⟨ib, ioff, ic, c5, cn⟩ := HTY.out _ HT1.out.bel; clear hb) | (refine wpList_store_rowTo rfl 43 _ _ rfl rfl (w.heap.size + 1 + 1) #[.int .i64 dk, .bool dg, .int .u64 dn, .string dx] rfl rfl _ _ HT3.out.res (by kernel_rfl) (by kernel_rfl) (by kernel_rfl) ?_))
          refine bodyPost_ret (v := .agg #[.int .i64 dk, .bool dg, .int .u64 dn, .string dx]) ?_ rfl ⟨ret_dat18 HDQ.out, below_setRow HT3.out.bel (by omega) _⟩
          have hl := run_loadVar_row (P := Tryz.prog) _ (w.heap.size + 1 + 1) _ 43 _ _ _ (setRow_heap _ _ _ #[.int .i64 dk, .bool dg, .int .u64 dn, .string dx] _ _ HT3.out.res) Tryz.underlying43 rfl (by kernel_rfl)
          simp [results, Tryz.results16, asAddr]
          exact hl
        · have HDQ := Lib.hid (show D = ⟨2, false, 0, xa⟩ by rw [hd]; unfold datW; rw [if_neg (fun h => hn h.2)])
          clear hd hu
          go_enter Tryz.func16, Tryz.ntmps16
          go_wp2_with (first | (go_at_call 31; (with_reducible refine (HI.out _ _ _ (by exact HT1.out.bel)).mono ?_); rintro e w2 ⟨rfl, rfl⟩) | (go_at_call 30; (with_reducible refine (HW.out _ (by exact HT0.out.bel)).mono ?_); rintro e w1 ⟨rfl, hb⟩; have HT1 := Lib.hid (HT0.out.next hb); obtain ⟨d0, d1, d2, d3⟩ := opd_box HT1.out.two.1; clear hb) | (refine wpList_store_rowTo rfl 43 _ _ rfl rfl (w.heap.size + 1 + 1) #[.int .i64 2, .bool false, .int .u64 0, .string xa] rfl rfl _ _ HT1.out.res (by kernel_rfl) (by kernel_rfl) (by kernel_rfl) ?_))
          refine bodyPost_ret (v := .agg #[.int .i64 2, .bool false, .int .u64 0, .string xa]) ?_ rfl ⟨ret_dat18 HDQ.out, below_setRow HT1.out.bel (by omega) _⟩
          have hl := run_loadVar_row (P := Tryz.prog) _ (w.heap.size + 1 + 1) _ 43 _ _ _ (setRow_heap _ _ _ #[.int .i64 2, .bool false, .int .u64 0, .string xa] _ _ HT1.out.res) Tryz.underlying43 rfl (by kernel_rfl)
          simp [results, Tryz.results16, asAddr]
          exact hl
      · have HDQ := Lib.hid (show D = ⟨2, false, 0, xa⟩ by rw [hd]; unfold datW; rw [if_neg (fun h => hx h.1)])
        clear hd
        go_enter Tryz.func16, Tryz.ntmps16
        go_wp2_with (first | (go_at_call 30; (with_reducible refine (HW.out _ (by exact HT0.out.bel)).mono ?_); rintro e w1 ⟨rfl, hb⟩; have HT1 := Lib.hid (HT0.out.next hb); obtain ⟨d0, d1, d2, d3⟩ := opd_box HT1.out.two.1; clear hb) | (refine wpList_store_rowTo rfl 43 _ _ rfl rfl (w.heap.size + 1 + 1) #[.int .i64 2, .bool false, .int .u64 0, .string xa] rfl rfl _ _ HT1.out.res (by kernel_rfl) (by kernel_rfl) (by kernel_rfl) ?_))
        refine bodyPost_ret (v := .agg #[.int .i64 2, .bool false, .int .u64 0, .string xa]) ?_ rfl ⟨ret_dat18 HDQ.out, below_setRow HT1.out.bel (by omega) _⟩
        have hl := run_loadVar_row (P := Tryz.prog) _ (w.heap.size + 1 + 1) _ 43 _ _ _ (setRow_heap _ _ _ #[.int .i64 2, .bool false, .int .u64 0, .string xa] _ _ HT1.out.res) Tryz.underlying43 rfl (by kernel_rfl)
        simp [results, Tryz.results16, asAddr]
        exact hl
    · rw [if_neg h1] at hd
      have HDQ := Lib.hid (show D = ⟨2, false, 0, xa⟩ by rw [hd]; unfold datW; rw [if_neg (fun h => absurd h.1 (by decide))])
      have h1b : (kb == 1) = false := by rw [beq_eq_false_iff_ne]; exact h1
      clear hd h1
      go_enter Tryz.func16, Tryz.ntmps16
      go_wp2_with (first | (refine wpList_store_rowTo rfl 43 _ _ rfl rfl (w.heap.size + 1 + 1) #[.int .i64 2, .bool false, .int .u64 0, .string xa] rfl rfl _ _ HT0.out.res (by kernel_rfl) (by kernel_rfl) (by kernel_rfl) ?_))
      refine bodyPost_ret (v := .agg #[.int .i64 2, .bool false, .int .u64 0, .string xa]) ?_ rfl ⟨ret_dat18 HDQ.out, below_setRow HT0.out.bel (by omega) _⟩
      have hl := run_loadVar_row (P := Tryz.prog) _ (w.heap.size + 1 + 1) _ 43 _ _ _ (setRow_heap _ _ _ #[.int .i64 2, .bool false, .int .u64 0, .string xa] _ _ HT0.out.res) Tryz.underlying43 rfl (by kernel_rfl)
      simp [results, Tryz.results16, asAddr]
      exact hl
  rw [if_neg h3] at hd
  have h3 : (ka == 3) = false := by rw [beq_eq_false_iff_ne]; exact h3
  have HDQ := Lib.hid (show D = ⟨0, false, 0, ⟨#[]⟩⟩ from hd)
  clear hd
  go_enter Tryz.func16, Tryz.ntmps16
  go_wp2_with (first | (refine wpList_store_rowTo rfl 43 _ _ rfl rfl (w.heap.size + 1 + 1) #[.int .i64 0, .bool false, .int .u64 0, .string ⟨#[]⟩] rfl rfl _ _ HT0.out.res (by kernel_rfl) (by kernel_rfl) (by kernel_rfl) ?_))
  refine bodyPost_ret (v := .agg #[.int .i64 0, .bool false, .int .u64 0, .string ⟨#[]⟩]) ?_ rfl ⟨ret_dat18 HDQ.out, below_setRow HT0.out.bel (by omega) _⟩
  have hl := run_loadVar_row (P := Tryz.prog) _ (w.heap.size + 1 + 1) _ 43 _ _ _ (setRow_heap _ _ _ #[.int .i64 0, .bool false, .int .u64 0, .string ⟨#[]⟩] _ _ HT0.out.res) Tryz.underlying43 rfl (by kernel_rfl)
  simp [results, Tryz.results16, asAddr]
  exact hl
end Go.Proofs.YtcojomkpogikiaaGreatDoor
