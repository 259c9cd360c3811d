/- The reference's tree of chapter 16: the text of a tree that may be told. -/
import Derived.Test.YtjgdkiikkgdbaaaGreatDoorQ20
import Derived.Test.YtjgdkiikkgdbaaaGreatDoorQ26
import Derived.Test.YtjgdkiikkgdbaaaGreatDoorQ36
import Derived.Test.YtjgdkiikkgdbaaaGreatDoorQ55
namespace Go.Proofs.YtjgdkiikkgdbaaaGreatDoor
open Go.RowKit
set_option linter.unusedVariables false
set_option linter.unusedSimpArgs false
theorem row3t (w : World) (a b c : Obj) : (((w.alloc a).alloc b).alloc c).heap[w.heap.size]? = some a ∧ (((w.alloc a).alloc b).alloc c).heap[w.heap.size + 1]? = some b ∧ (((w.alloc a).alloc b).alloc c).heap[w.heap.size + 2]? = some c ∧ Below w.heap.size w (((w.alloc a).alloc b).alloc c) := by
  have e1 : (w.alloc a).heap.size = w.heap.size + 1 := World.size_alloc ..
  have e2 : ((w.alloc a).alloc b).heap.size = w.heap.size + 2 := by rw [World.size_alloc, e1]
  have b1 : Below (w.alloc a).heap.size (w.alloc a) ((w.alloc a).alloc b) := (Below.refl _ _).alloc (Nat.le_refl _) b
  have b2 : Below ((w.alloc a).alloc b).heap.size ((w.alloc a).alloc b) (((w.alloc a).alloc b).alloc c) := (Below.refl _ _).alloc (Nat.le_refl _) c
  refine ⟨rowKeep b2 (rowKeep b1 (alloc_at w a)), ?_, ?_, bthN (bthN ((Below.refl _ _).alloc (Nat.le_refl _) a) b1) b2⟩
  · rw [← e1]; exact rowKeep b2 (alloc_at (w.alloc a) b)
  · rw [← e2]; exact alloc_at ((w.alloc a).alloc b) c
theorem app2 (p x : List UInt8) : bs p ++ bs x = bs (p ++ x) := bs_append p x
theorem app3 (p c x : List UInt8) : bs p ++ bs c ++ bs x = bs (p ++ c ++ x) := by rw [bs_append, bs_append]
theorem app4 (p c s : List UInt8) : bs p ++ bs c ++ (bs [40] ++ bs s ++ bs [41]) = bs (p ++ c ++ 40 :: (s ++ [41])) := by rw [bs_append, bs_append, bs_append, bs_append]; rfl
theorem app4' (p s : List UInt8) : bs p ++ (bs [40] ++ bs s ++ bs [41]) = bs (p ++ 40 :: (s ++ [41])) := by rw [bs_append, bs_append, bs_append]; rfl
theorem ret_st {a b : List UInt8} (h : a = b) : Ending.returned (.string (bs a)) = .returned (.string (bs b)) := by rw [h]
def RTreeC (o r : Int) (aa : Option Addr) (an ac : Nat) (ka : Option Addr) (kn kc : Nat) (w : World) (l : List UInt8) : Prop := Calls Tryz.prog 19 #[.agg #[.int .i64 o, .int .i64 r, .slice aa an ac, .slice ka kn kc]] w fun e w' => e = .returned (.string (bs l)) ∧ Below w.heap.size w w'
set_option maxRecDepth 100000 in
set_option maxHeartbeats 4000000 in
theorem tree_1 (S : Nat → Prop) (T : XT) (r : Int) (w : World) (H : XAt w S T) (HX : XTx T) (hsm : ∀ i, i < T.an → (T.arg i).text.size ≤ 3000) (hmo : ∀ i, i < T.an → mayOB (T.arg i) = true) (hk100 : T.kn ≤ 100)
    (HI : Hid (∀ i, i < T.kn → ∀ wx, Below w.heap.size w wx → RTreeC (T.kid i).op (T.kid i).rel (T.kid i).aa (T.kid i).an (T.kid i).ac (T.kid i).ka (T.kid i).kn (T.kid i).kc wx (showX (T.kid i))))
    (hkl : ∀ i, i < T.kn → (showX (T.kid i)).length ≤ 21707000) (hr1 : 1 ≤ r) (hr6 : r ≤ 6) (hn : T.an = 2) (hkn : T.kn = 0) : RTreeC 1 r T.aa T.an T.ac T.ka T.kn T.kc w (headP 1 ++ argsP 1 r T.arg T.an ++ kidsP 1 T.kid T.kn) := by
  have ha := xt_an H
  have hk := xt_kn H
  have HC := Lib.hid (fun i (hi : i < T.kn) wx (hb : Below w.heap.size w wx) => (kid_at H hb hi).1)
  have HAC := Lib.hid (fun i (hi : i < T.an) wx (hb : Below w.heap.size w wx) => (((xat_iff T).1 H).2.1 i hi).next hb)
  have HM := Lib.hid (fun i (hi : i < T.an) wx => rtx_good (T.arg i) (((xtx_iff T).1 HX).1 i hi) (Nat.le_trans (hsm i hi) (by decide)) wx (hmo i hi))
  have HOL := Lib.hid (fun i (hi : i < T.an) => opTx_len (T.arg i) (((xtx_iff T).1 HX).1 i hi).2 (hsm i hi))
  have HKL := Lib.hid hkl
  have hsz := bs_size
  have HNN := Lib.hid hn
  have HKN := Lib.hid hkn
  clear H HX hsm hmo hn hkl hkn
  obtain ⟨A, hA⟩ : ∃ A, headP 1 ++ argsP 1 r T.arg T.an = A := ⟨_, rfl⟩
  rw [hA]
  obtain ⟨L, hL⟩ : ∃ L, A ++ kidsP 1 T.kid T.kn = L := ⟨_, rfl⟩
  rw [hL]
  have HA := Lib.hid hA
  have HL := Lib.hid hL
  clear hA hL
  unfold RTreeC
  go_enter Tryz.func19, Tryz.ntmps19
  go_wp2_with (fail)
  go_loopw [5, 6, 7, 8] (fun s i _ _ wr => ∃ (j : Nat) (P : List UInt8), j ≤ T.an ∧ i = .int .i64 j ∧ s = .string (bs P) ∧ P.length ≤ 4 + 6020 * j ∧ Hid (headP 1 ++ argsP 1 r T.arg j = P) ∧ Hid (wr.heap[w.heap.size]? = some (.cells #[.int .i64 1, .int .i64 r, .slice T.aa T.an T.ac, .slice T.ka T.kn T.kc] 25)) ∧ Hid (wr.heap[w.heap.size + 1]? = some (.cells #[.string ⟨#[]⟩, .string ⟨#[32, 61, 32]⟩, .string ⟨#[32, 60, 62, 32]⟩, .string ⟨#[32, 60, 32]⟩, .string ⟨#[32, 60, 61, 32]⟩, .string ⟨#[32, 62, 32]⟩, .string ⟨#[32, 62, 61, 32]⟩] 9)) ∧ Hid (wr.heap[w.heap.size + 2]? = some (.cells #[.string ⟨#[]⟩, .string ⟨#[32, 66, 69, 84, 87, 69, 69, 78, 32]⟩, .string ⟨#[32, 65, 78, 68, 32]⟩] 9)) ∧ Hid (Below w.heap.size w wr)) (fun _ i _ _ _ => T.an - (intOf i).toNat)
  case atStart => exact ⟨0, [], Nat.zero_le _, rfl, rfl, by decide, Lib.hid rfl, Lib.hid (row3t w _ _ _).1, Lib.hid (row3t w _ _ _).2.1, Lib.hid (row3t w _ _ _).2.2.1, Lib.hid (row3t w _ _ _).2.2.2⟩
  case round =>
    obtain ⟨j, P, hj, rfl, rfl, hP, HP, HQ, HQ2, HQ3, HBr⟩ := hrel
    have d2 : wr.cell? ⟨w.heap.size, 2, none⟩ = some (.slice T.aa T.an T.ac) := cell_at HQ.out rfl
    by_cases hlt : j < T.an
    · obtain ⟨b, off, hia, _, hbl, hla⟩ := HAC.out j hlt wr HBr.out
      clear d2
      have d2 : wr.cell? ⟨w.heap.size, 2, none⟩ = some (.slice (some ⟨b, off, none⟩) T.an T.ac) := by rw [← hia]; exact cell_at HQ.out rfl
      have d0 : wr.cell? ⟨w.heap.size, 0, none⟩ = some (.int .i64 1) := cell_at HQ.out rfl
      have d1 : wr.cell? ⟨w.heap.size, 1, none⟩ = some (.int .i64 r) := cell_at HQ.out rfl
      have HLA := Lib.hid hla
      have HN := Lib.hid (HM.out j hlt)
      unfold RTxTo at HN
      obtain ⟨X, hX⟩ : ∃ X, opTx (T.arg j) = X := ⟨_, rfl⟩
      rw [hX] at HN
      have hXl : X.length ≤ 6010 := by rw [← hX]; exact HOL.out j hlt
      have HXX := Lib.hid hX
      have hj4 : j ≤ 3 := by have := HNN.out; omega
      clear hia hla hX hbl
      have hjj : j = 0 ∨ j = 1 := by have := HNN.out; omega
      rcases hjj with rfl | rfl
      · have c0 : wr.cell? ⟨b, off, none⟩ = some (.int .i64 (T.arg 0).kind) := HLA.out 0 _ rfl
        have c1 : wr.cell? ⟨b, off + 1, none⟩ = some (.string (T.arg 0).text) := HLA.out 1 _ rfl
        have c2 : wr.cell? ⟨b, off + 2, none⟩ = some (.bool (T.arg 0).neg) := HLA.out 2 _ rfl
        have c3 : wr.cell? ⟨b, off + 3, none⟩ = some (.int .u64 (T.arg 0).num) := HLA.out 3 _ rfl
        go_wp2_with (go_at_call 11; refine (HN.out _).mono ?_; rintro e w1 ⟨rfl, hb⟩; have HB1 := Lib.hid (bthN HBr.out hb); have Q1 := Lib.hid (rowKeep hb HQ.out); have Q2 := Lib.hid (rowKeep hb HQ2.out); have Q3 := Lib.hid (rowKeep hb HQ3.out); clear hb)
        go_roundw
        case rel => exact ⟨1, P ++ X, by omega, by go_num, congrArg Value.string (app2 P X), by simp only [List.length_append, List.length_cons, List.length_nil]; omega, Lib.hid (by rw [← HP.out, ← HXX.out]; simp [argsP, sepA, headP, relS, kBETWEEN, kAND, kLIKE]), Q1, Q2, Q3, HB1⟩
        case measure => simp [intOf]; omega
      · have hrr : r = 1 ∨ r = 2 ∨ r = 3 ∨ r = 4 ∨ r = 5 ∨ r = 6 := by omega
        rcases hrr with rfl | rfl | rfl | rfl | rfl | rfl
        · have hc : (⟨#[32, 61, 32]⟩ : ByteArray) = bs [32, 61, 32] := rfl
          have e1 : wr.cell? ⟨w.heap.size + 1, 1, none⟩ = some (.string ⟨#[32, 61, 32]⟩) := cell_at HQ2.out rfl
          have c0 : wr.cell? ⟨b, off + 4, none⟩ = some (.int .i64 (T.arg 1).kind) := HLA.out 0 _ rfl
          have c1 : wr.cell? ⟨b, off + 5, none⟩ = some (.string (T.arg 1).text) := HLA.out 1 _ rfl
          have c12 : wr.cell? ⟨b, off + 4 + 1, none⟩ = some (.string (T.arg 1).text) := HLA.out 1 _ rfl
          have c2 : wr.cell? ⟨b, off + 6, none⟩ = some (.bool (T.arg 1).neg) := HLA.out 2 _ rfl
          have c22 : wr.cell? ⟨b, off + 4 + 2, none⟩ = some (.bool (T.arg 1).neg) := HLA.out 2 _ rfl
          have c3 : wr.cell? ⟨b, off + 7, none⟩ = some (.int .u64 (T.arg 1).num) := HLA.out 3 _ rfl
          have c32 : wr.cell? ⟨b, off + 4 + 3, none⟩ = some (.int .u64 (T.arg 1).num) := HLA.out 3 _ rfl
          go_wp2_with (go_at_call 11; refine (HN.out _).mono ?_; rintro e w1 ⟨rfl, hb⟩; have HB1 := Lib.hid (bthN HBr.out hb); have Q1 := Lib.hid (rowKeep hb HQ.out); have Q2 := Lib.hid (rowKeep hb HQ2.out); have Q3 := Lib.hid (rowKeep hb HQ3.out); clear hb)
          go_roundw
          case rel => exact ⟨2, P ++ [32, 61, 32] ++ X, by omega, by go_num, congrArg Value.string (app3 P [32, 61, 32] X), by simp only [List.length_append, List.length_cons, List.length_nil]; omega, Lib.hid (by rw [← HP.out, ← HXX.out]; simp [argsP, sepA, headP, relS, kBETWEEN, kAND, kLIKE]), Q1, Q2, Q3, HB1⟩
          case measure => simp [intOf]; omega
        · have hc : (⟨#[32, 60, 62, 32]⟩ : ByteArray) = bs [32, 60, 62, 32] := rfl
          have e1 : wr.cell? ⟨w.heap.size + 1, 2, none⟩ = some (.string ⟨#[32, 60, 62, 32]⟩) := cell_at HQ2.out rfl
          have c0 : wr.cell? ⟨b, off + 4, none⟩ = some (.int .i64 (T.arg 1).kind) := HLA.out 0 _ rfl
          have c1 : wr.cell? ⟨b, off + 5, none⟩ = some (.string (T.arg 1).text) := HLA.out 1 _ rfl
          have c12 : wr.cell? ⟨b, off + 4 + 1, none⟩ = some (.string (T.arg 1).text) := HLA.out 1 _ rfl
          have c2 : wr.cell? ⟨b, off + 6, none⟩ = some (.bool (T.arg 1).neg) := HLA.out 2 _ rfl
          have c22 : wr.cell? ⟨b, off + 4 + 2, none⟩ = some (.bool (T.arg 1).neg) := HLA.out 2 _ rfl
          have c3 : wr.cell? ⟨b, off + 7, none⟩ = some (.int .u64 (T.arg 1).num) := HLA.out 3 _ rfl
          have c32 : wr.cell? ⟨b, off + 4 + 3, none⟩ = some (.int .u64 (T.arg 1).num) := HLA.out 3 _ rfl
          go_wp2_with (go_at_call 11; refine (HN.out _).mono ?_; rintro e w1 ⟨rfl, hb⟩; have HB1 := Lib.hid (bthN HBr.out hb); have Q1 := Lib.hid (rowKeep hb HQ.out); have Q2 := Lib.hid (rowKeep hb HQ2.out); have Q3 := Lib.hid (rowKeep hb HQ3.out); clear hb)
          go_roundw
          case rel => exact ⟨2, P ++ [32, 60, 62, 32] ++ X, by omega, by go_num, congrArg Value.string (app3 P [32, 60, 62, 32] X), by simp only [List.length_append, List.length_cons, List.length_nil]; omega, Lib.hid (by rw [← HP.out, ← HXX.out]; simp [argsP, sepA, headP, relS, kBETWEEN, kAND, kLIKE]), Q1, Q2, Q3, HB1⟩
          case measure => simp [intOf]; omega
        · have hc : (⟨#[32, 60, 32]⟩ : ByteArray) = bs [32, 60, 32] := rfl
          have e1 : wr.cell? ⟨w.heap.size + 1, 3, none⟩ = some (.string ⟨#[32, 60, 32]⟩) := cell_at HQ2.out rfl
          have c0 : wr.cell? ⟨b, off + 4, none⟩ = some (.int .i64 (T.arg 1).kind) := HLA.out 0 _ rfl
          have c1 : wr.cell? ⟨b, off + 5, none⟩ = some (.string (T.arg 1).text) := HLA.out 1 _ rfl
          have c12 : wr.cell? ⟨b, off + 4 + 1, none⟩ = some (.string (T.arg 1).text) := HLA.out 1 _ rfl
          have c2 : wr.cell? ⟨b, off + 6, none⟩ = some (.bool (T.arg 1).neg) := HLA.out 2 _ rfl
          have c22 : wr.cell? ⟨b, off + 4 + 2, none⟩ = some (.bool (T.arg 1).neg) := HLA.out 2 _ rfl
          have c3 : wr.cell? ⟨b, off + 7, none⟩ = some (.int .u64 (T.arg 1).num) := HLA.out 3 _ rfl
          have c32 : wr.cell? ⟨b, off + 4 + 3, none⟩ = some (.int .u64 (T.arg 1).num) := HLA.out 3 _ rfl
          go_wp2_with (go_at_call 11; refine (HN.out _).mono ?_; rintro e w1 ⟨rfl, hb⟩; have HB1 := Lib.hid (bthN HBr.out hb); have Q1 := Lib.hid (rowKeep hb HQ.out); have Q2 := Lib.hid (rowKeep hb HQ2.out); have Q3 := Lib.hid (rowKeep hb HQ3.out); clear hb)
          go_roundw
          case rel => exact ⟨2, P ++ [32, 60, 32] ++ X, by omega, by go_num, congrArg Value.string (app3 P [32, 60, 32] X), by simp only [List.length_append, List.length_cons, List.length_nil]; omega, Lib.hid (by rw [← HP.out, ← HXX.out]; simp [argsP, sepA, headP, relS, kBETWEEN, kAND, kLIKE]), Q1, Q2, Q3, HB1⟩
          case measure => simp [intOf]; omega
        · have hc : (⟨#[32, 60, 61, 32]⟩ : ByteArray) = bs [32, 60, 61, 32] := rfl
          have e1 : wr.cell? ⟨w.heap.size + 1, 4, none⟩ = some (.string ⟨#[32, 60, 61, 32]⟩) := cell_at HQ2.out rfl
          have c0 : wr.cell? ⟨b, off + 4, none⟩ = some (.int .i64 (T.arg 1).kind) := HLA.out 0 _ rfl
          have c1 : wr.cell? ⟨b, off + 5, none⟩ = some (.string (T.arg 1).text) := HLA.out 1 _ rfl
          have c12 : wr.cell? ⟨b, off + 4 + 1, none⟩ = some (.string (T.arg 1).text) := HLA.out 1 _ rfl
          have c2 : wr.cell? ⟨b, off + 6, none⟩ = some (.bool (T.arg 1).neg) := HLA.out 2 _ rfl
          have c22 : wr.cell? ⟨b, off + 4 + 2, none⟩ = some (.bool (T.arg 1).neg) := HLA.out 2 _ rfl
          have c3 : wr.cell? ⟨b, off + 7, none⟩ = some (.int .u64 (T.arg 1).num) := HLA.out 3 _ rfl
          have c32 : wr.cell? ⟨b, off + 4 + 3, none⟩ = some (.int .u64 (T.arg 1).num) := HLA.out 3 _ rfl
          go_wp2_with (go_at_call 11; refine (HN.out _).mono ?_; rintro e w1 ⟨rfl, hb⟩; have HB1 := Lib.hid (bthN HBr.out hb); have Q1 := Lib.hid (rowKeep hb HQ.out); have Q2 := Lib.hid (rowKeep hb HQ2.out); have Q3 := Lib.hid (rowKeep hb HQ3.out); clear hb)
          go_roundw
          case rel => exact ⟨2, P ++ [32, 60, 61, 32] ++ X, by omega, by go_num, congrArg Value.string (app3 P [32, 60, 61, 32] X), by simp only [List.length_append, List.length_cons, List.length_nil]; omega, Lib.hid (by rw [← HP.out, ← HXX.out]; simp [argsP, sepA, headP, relS, kBETWEEN, kAND, kLIKE]), Q1, Q2, Q3, HB1⟩
          case measure => simp [intOf]; omega
        · have hc : (⟨#[32, 62, 32]⟩ : ByteArray) = bs [32, 62, 32] := rfl
          have e1 : wr.cell? ⟨w.heap.size + 1, 5, none⟩ = some (.string ⟨#[32, 62, 32]⟩) := cell_at HQ2.out rfl
          have c0 : wr.cell? ⟨b, off + 4, none⟩ = some (.int .i64 (T.arg 1).kind) := HLA.out 0 _ rfl
          have c1 : wr.cell? ⟨b, off + 5, none⟩ = some (.string (T.arg 1).text) := HLA.out 1 _ rfl
          have c12 : wr.cell? ⟨b, off + 4 + 1, none⟩ = some (.string (T.arg 1).text) := HLA.out 1 _ rfl
          have c2 : wr.cell? ⟨b, off + 6, none⟩ = some (.bool (T.arg 1).neg) := HLA.out 2 _ rfl
          have c22 : wr.cell? ⟨b, off + 4 + 2, none⟩ = some (.bool (T.arg 1).neg) := HLA.out 2 _ rfl
          have c3 : wr.cell? ⟨b, off + 7, none⟩ = some (.int .u64 (T.arg 1).num) := HLA.out 3 _ rfl
          have c32 : wr.cell? ⟨b, off + 4 + 3, none⟩ = some (.int .u64 (T.arg 1).num) := HLA.out 3 _ rfl
          go_wp2_with (go_at_call 11; refine (HN.out _).mono ?_; rintro e w1 ⟨rfl, hb⟩; have HB1 := Lib.hid (bthN HBr.out hb); have Q1 := Lib.hid (rowKeep hb HQ.out); have Q2 := Lib.hid (rowKeep hb HQ2.out); have Q3 := Lib.hid (rowKeep hb HQ3.out); clear hb)
          go_roundw
          case rel => exact ⟨2, P ++ [32, 62, 32] ++ X, by omega, by go_num, congrArg Value.string (app3 P [32, 62, 32] X), by simp only [List.length_append, List.length_cons, List.length_nil]; omega, Lib.hid (by rw [← HP.out, ← HXX.out]; simp [argsP, sepA, headP, relS, kBETWEEN, kAND, kLIKE]), Q1, Q2, Q3, HB1⟩
          case measure => simp [intOf]; omega
        · have hc : (⟨#[32, 62, 61, 32]⟩ : ByteArray) = bs [32, 62, 61, 32] := rfl
          have e1 : wr.cell? ⟨w.heap.size + 1, 6, none⟩ = some (.string ⟨#[32, 62, 61, 32]⟩) := cell_at HQ2.out rfl
          have c0 : wr.cell? ⟨b, off + 4, none⟩ = some (.int .i64 (T.arg 1).kind) := HLA.out 0 _ rfl
          have c1 : wr.cell? ⟨b, off + 5, none⟩ = some (.string (T.arg 1).text) := HLA.out 1 _ rfl
          have c12 : wr.cell? ⟨b, off + 4 + 1, none⟩ = some (.string (T.arg 1).text) := HLA.out 1 _ rfl
          have c2 : wr.cell? ⟨b, off + 6, none⟩ = some (.bool (T.arg 1).neg) := HLA.out 2 _ rfl
          have c22 : wr.cell? ⟨b, off + 4 + 2, none⟩ = some (.bool (T.arg 1).neg) := HLA.out 2 _ rfl
          have c3 : wr.cell? ⟨b, off + 7, none⟩ = some (.int .u64 (T.arg 1).num) := HLA.out 3 _ rfl
          have c32 : wr.cell? ⟨b, off + 4 + 3, none⟩ = some (.int .u64 (T.arg 1).num) := HLA.out 3 _ rfl
          go_wp2_with (go_at_call 11; refine (HN.out _).mono ?_; rintro e w1 ⟨rfl, hb⟩; have HB1 := Lib.hid (bthN HBr.out hb); have Q1 := Lib.hid (rowKeep hb HQ.out); have Q2 := Lib.hid (rowKeep hb HQ2.out); have Q3 := Lib.hid (rowKeep hb HQ3.out); clear hb)
          go_roundw
          case rel => exact ⟨2, P ++ [32, 62, 61, 32] ++ X, by omega, by go_num, congrArg Value.string (app3 P [32, 62, 61, 32] X), by simp only [List.length_append, List.length_cons, List.length_nil]; omega, Lib.hid (by rw [← HP.out, ← HXX.out]; simp [argsP, sepA, headP, relS, kBETWEEN, kAND, kLIKE]), Q1, Q2, Q3, HB1⟩
          case measure => simp [intOf]; omega
    · obtain rfl : j = T.an := by omega
      have hPl : P.length ≤ 4 + 6020 * 3 := by have := HNN.out; omega
      have HPA := Lib.hid (show P = A from by rw [← HP.out, HA.out])
      clear hlt HP hP hj
      have z4 : ¬ (0 : Int) < (T.kn : Int) := by have := HKN.out; omega
      have z5 : decide (0 < T.kn) = false := decide_eq_false (by have := HKN.out; omega)
      have d3 : wr.cell? ⟨w.heap.size, 3, none⟩ = some (.slice T.ka T.kn T.kc) := cell_at HQ.out rfl
      have HPL := Lib.hid (show P = L by rw [← HL.out, HKN.out, HPA.out]; exact (List.append_nil A).symm)
      go_wp2_with (fail)
      go_loopw [5, 9] (fun s i wr => s = .string (bs P) ∧ i = .int .i64 0 ∧ Hid (wr.heap[w.heap.size]? = some (.cells #[.int .i64 1, .int .i64 r, .slice T.aa T.an T.ac, .slice T.ka T.kn T.kc] 25)) ∧ Hid (Below w.heap.size w wr)) (fun _ _ _ => 0)
      case atStart => exact ⟨rfl, rfl, HQ, HBr⟩
      case round =>
        clear d3
        obtain ⟨rfl, rfl, HQ, HBr⟩ := hrel
        have d3 : wr.cell? ⟨w.heap.size, 3, none⟩ = some (.slice T.ka T.kn T.kc) := cell_at HQ.out rfl
        go_wp2_with (fail)
        go_ret
        exact ⟨ret_st HPL.out, HBr.out⟩
set_option maxRecDepth 100000 in
set_option maxHeartbeats 4000000 in
theorem tree_2 (S : Nat → Prop) (T : XT) (w : World) (H : XAt w S T) (HX : XTx T) (hsm : ∀ i, i < T.an → (T.arg i).text.size ≤ 3000) (hmo : ∀ i, i < T.an → mayOB (T.arg i) = true) (hk100 : T.kn ≤ 100)
    (HI : Hid (∀ i, i < T.kn → ∀ wx, Below w.heap.size w wx → RTreeC (T.kid i).op (T.kid i).rel (T.kid i).aa (T.kid i).an (T.kid i).ac (T.kid i).ka (T.kid i).kn (T.kid i).kc wx (showX (T.kid i))))
    (hkl : ∀ i, i < T.kn → (showX (T.kid i)).length ≤ 21707000) (hn : T.an = 3) (hkn : T.kn = 0) : RTreeC 2 0 T.aa T.an T.ac T.ka T.kn T.kc w (headP 2 ++ argsP 2 0 T.arg T.an ++ kidsP 2 T.kid T.kn) := by
  have ha := xt_an H
  have hk := xt_kn H
  have HC := Lib.hid (fun i (hi : i < T.kn) wx (hb : Below w.heap.size w wx) => (kid_at H hb hi).1)
  have HAC := Lib.hid (fun i (hi : i < T.an) wx (hb : Below w.heap.size w wx) => (((xat_iff T).1 H).2.1 i hi).next hb)
  have HM := Lib.hid (fun i (hi : i < T.an) wx => rtx_good (T.arg i) (((xtx_iff T).1 HX).1 i hi) (Nat.le_trans (hsm i hi) (by decide)) wx (hmo i hi))
  have HOL := Lib.hid (fun i (hi : i < T.an) => opTx_len (T.arg i) (((xtx_iff T).1 HX).1 i hi).2 (hsm i hi))
  have HKL := Lib.hid hkl
  have hsz := bs_size
  have HNN := Lib.hid hn
  have HKN := Lib.hid hkn
  clear H HX hsm hmo hn hkl hkn
  obtain ⟨A, hA⟩ : ∃ A, headP 2 ++ argsP 2 0 T.arg T.an = A := ⟨_, rfl⟩
  rw [hA]
  obtain ⟨L, hL⟩ : ∃ L, A ++ kidsP 2 T.kid T.kn = L := ⟨_, rfl⟩
  rw [hL]
  have HA := Lib.hid hA
  have HL := Lib.hid hL
  clear hA hL
  unfold RTreeC
  go_enter Tryz.func19, Tryz.ntmps19
  go_wp2_with (fail)
  go_loopw [5, 6, 7, 8] (fun s i _ _ wr => ∃ (j : Nat) (P : List UInt8), j ≤ T.an ∧ i = .int .i64 j ∧ s = .string (bs P) ∧ P.length ≤ 4 + 6020 * j ∧ Hid (headP 2 ++ argsP 2 0 T.arg j = P) ∧ Hid (wr.heap[w.heap.size]? = some (.cells #[.int .i64 2, .int .i64 0, .slice T.aa T.an T.ac, .slice T.ka T.kn T.kc] 25)) ∧ Hid (wr.heap[w.heap.size + 1]? = some (.cells #[.string ⟨#[]⟩, .string ⟨#[32, 61, 32]⟩, .string ⟨#[32, 60, 62, 32]⟩, .string ⟨#[32, 60, 32]⟩, .string ⟨#[32, 60, 61, 32]⟩, .string ⟨#[32, 62, 32]⟩, .string ⟨#[32, 62, 61, 32]⟩] 9)) ∧ Hid (wr.heap[w.heap.size + 2]? = some (.cells #[.string ⟨#[]⟩, .string ⟨#[32, 66, 69, 84, 87, 69, 69, 78, 32]⟩, .string ⟨#[32, 65, 78, 68, 32]⟩] 9)) ∧ Hid (Below w.heap.size w wr)) (fun _ i _ _ _ => T.an - (intOf i).toNat)
  case atStart => exact ⟨0, [], Nat.zero_le _, rfl, rfl, by decide, Lib.hid rfl, Lib.hid (row3t w _ _ _).1, Lib.hid (row3t w _ _ _).2.1, Lib.hid (row3t w _ _ _).2.2.1, Lib.hid (row3t w _ _ _).2.2.2⟩
  case round =>
    obtain ⟨j, P, hj, rfl, rfl, hP, HP, HQ, HQ2, HQ3, HBr⟩ := hrel
    have d2 : wr.cell? ⟨w.heap.size, 2, none⟩ = some (.slice T.aa T.an T.ac) := cell_at HQ.out rfl
    by_cases hlt : j < T.an
    · obtain ⟨b, off, hia, _, hbl, hla⟩ := HAC.out j hlt wr HBr.out
      clear d2
      have d2 : wr.cell? ⟨w.heap.size, 2, none⟩ = some (.slice (some ⟨b, off, none⟩) T.an T.ac) := by rw [← hia]; exact cell_at HQ.out rfl
      have d0 : wr.cell? ⟨w.heap.size, 0, none⟩ = some (.int .i64 2) := cell_at HQ.out rfl
      have d1 : wr.cell? ⟨w.heap.size, 1, none⟩ = some (.int .i64 0) := cell_at HQ.out rfl
      have HLA := Lib.hid hla
      have HN := Lib.hid (HM.out j hlt)
      unfold RTxTo at HN
      obtain ⟨X, hX⟩ : ∃ X, opTx (T.arg j) = X := ⟨_, rfl⟩
      rw [hX] at HN
      have hXl : X.length ≤ 6010 := by rw [← hX]; exact HOL.out j hlt
      have HXX := Lib.hid hX
      have hj4 : j ≤ 3 := by have := HNN.out; omega
      clear hia hla hX hbl
      have hjj : j = 0 ∨ j = 1 ∨ j = 2 := by have := HNN.out; omega
      rcases hjj with rfl | rfl | rfl
      · have c0 : wr.cell? ⟨b, off, none⟩ = some (.int .i64 (T.arg 0).kind) := HLA.out 0 _ rfl
        have c1 : wr.cell? ⟨b, off + 1, none⟩ = some (.string (T.arg 0).text) := HLA.out 1 _ rfl
        have c2 : wr.cell? ⟨b, off + 2, none⟩ = some (.bool (T.arg 0).neg) := HLA.out 2 _ rfl
        have c3 : wr.cell? ⟨b, off + 3, none⟩ = some (.int .u64 (T.arg 0).num) := HLA.out 3 _ rfl
        go_wp2_with (go_at_call 11; refine (HN.out _).mono ?_; rintro e w1 ⟨rfl, hb⟩; have HB1 := Lib.hid (bthN HBr.out hb); have Q1 := Lib.hid (rowKeep hb HQ.out); have Q2 := Lib.hid (rowKeep hb HQ2.out); have Q3 := Lib.hid (rowKeep hb HQ3.out); clear hb)
        go_roundw
        case rel => exact ⟨1, P ++ X, by omega, by go_num, congrArg Value.string (app2 P X), by simp only [List.length_append, List.length_cons, List.length_nil]; omega, Lib.hid (by rw [← HP.out, ← HXX.out]; simp [argsP, sepA, headP, relS, kBETWEEN, kAND, kLIKE]), Q1, Q2, Q3, HB1⟩
        case measure => simp [intOf]; omega
      · have hc : (⟨#[32, 66, 69, 84, 87, 69, 69, 78, 32]⟩ : ByteArray) = bs [32, 66, 69, 84, 87, 69, 69, 78, 32] := rfl
        have e1 : wr.cell? ⟨w.heap.size + 2, 1, none⟩ = some (.string ⟨#[32, 66, 69, 84, 87, 69, 69, 78, 32]⟩) := cell_at HQ3.out rfl
        have c0 : wr.cell? ⟨b, off + 4, none⟩ = some (.int .i64 (T.arg 1).kind) := HLA.out 0 _ rfl
        have c1 : wr.cell? ⟨b, off + 5, none⟩ = some (.string (T.arg 1).text) := HLA.out 1 _ rfl
        have c12 : wr.cell? ⟨b, off + 4 + 1, none⟩ = some (.string (T.arg 1).text) := HLA.out 1 _ rfl
        have c2 : wr.cell? ⟨b, off + 6, none⟩ = some (.bool (T.arg 1).neg) := HLA.out 2 _ rfl
        have c22 : wr.cell? ⟨b, off + 4 + 2, none⟩ = some (.bool (T.arg 1).neg) := HLA.out 2 _ rfl
        have c3 : wr.cell? ⟨b, off + 7, none⟩ = some (.int .u64 (T.arg 1).num) := HLA.out 3 _ rfl
        have c32 : wr.cell? ⟨b, off + 4 + 3, none⟩ = some (.int .u64 (T.arg 1).num) := HLA.out 3 _ rfl
        go_wp2_with (go_at_call 11; refine (HN.out _).mono ?_; rintro e w1 ⟨rfl, hb⟩; have HB1 := Lib.hid (bthN HBr.out hb); have Q1 := Lib.hid (rowKeep hb HQ.out); have Q2 := Lib.hid (rowKeep hb HQ2.out); have Q3 := Lib.hid (rowKeep hb HQ3.out); clear hb)
        go_roundw
        case rel => exact ⟨2, P ++ [32, 66, 69, 84, 87, 69, 69, 78, 32] ++ X, by omega, by go_num, congrArg Value.string (app3 P [32, 66, 69, 84, 87, 69, 69, 78, 32] X), by simp only [List.length_append, List.length_cons, List.length_nil]; omega, Lib.hid (by rw [← HP.out, ← HXX.out]; simp [argsP, sepA, headP, relS, kBETWEEN, kAND, kLIKE]), Q1, Q2, Q3, HB1⟩
        case measure => simp [intOf]; omega
      · have hc : (⟨#[32, 65, 78, 68, 32]⟩ : ByteArray) = bs [32, 65, 78, 68, 32] := rfl
        have e1 : wr.cell? ⟨w.heap.size + 2, 2, none⟩ = some (.string ⟨#[32, 65, 78, 68, 32]⟩) := cell_at HQ3.out rfl
        have c0 : wr.cell? ⟨b, off + 8, none⟩ = some (.int .i64 (T.arg 2).kind) := HLA.out 0 _ rfl
        have c1 : wr.cell? ⟨b, off + 9, none⟩ = some (.string (T.arg 2).text) := HLA.out 1 _ rfl
        have c12 : wr.cell? ⟨b, off + 8 + 1, none⟩ = some (.string (T.arg 2).text) := HLA.out 1 _ rfl
        have c2 : wr.cell? ⟨b, off + 10, none⟩ = some (.bool (T.arg 2).neg) := HLA.out 2 _ rfl
        have c22 : wr.cell? ⟨b, off + 8 + 2, none⟩ = some (.bool (T.arg 2).neg) := HLA.out 2 _ rfl
        have c3 : wr.cell? ⟨b, off + 11, none⟩ = some (.int .u64 (T.arg 2).num) := HLA.out 3 _ rfl
        have c32 : wr.cell? ⟨b, off + 8 + 3, none⟩ = some (.int .u64 (T.arg 2).num) := HLA.out 3 _ rfl
        go_wp2_with (go_at_call 11; refine (HN.out _).mono ?_; rintro e w1 ⟨rfl, hb⟩; have HB1 := Lib.hid (bthN HBr.out hb); have Q1 := Lib.hid (rowKeep hb HQ.out); have Q2 := Lib.hid (rowKeep hb HQ2.out); have Q3 := Lib.hid (rowKeep hb HQ3.out); clear hb)
        go_roundw
        case rel => exact ⟨3, P ++ [32, 65, 78, 68, 32] ++ X, by omega, by go_num, congrArg Value.string (app3 P [32, 65, 78, 68, 32] X), by simp only [List.length_append, List.length_cons, List.length_nil]; omega, Lib.hid (by rw [← HP.out, ← HXX.out]; simp [argsP, sepA, headP, relS, kBETWEEN, kAND, kLIKE]), Q1, Q2, Q3, HB1⟩
        case measure => simp [intOf]; omega
    · obtain rfl : j = T.an := by omega
      have hPl : P.length ≤ 4 + 6020 * 3 := by have := HNN.out; omega
      have HPA := Lib.hid (show P = A from by rw [← HP.out, HA.out])
      clear hlt HP hP hj
      have z4 : ¬ (0 : Int) < (T.kn : Int) := by have := HKN.out; omega
      have z5 : decide (0 < T.kn) = false := decide_eq_false (by have := HKN.out; omega)
      have d3 : wr.cell? ⟨w.heap.size, 3, none⟩ = some (.slice T.ka T.kn T.kc) := cell_at HQ.out rfl
      have HPL := Lib.hid (show P = L by rw [← HL.out, HKN.out, HPA.out]; exact (List.append_nil A).symm)
      go_wp2_with (fail)
      go_loopw [5, 9] (fun s i wr => s = .string (bs P) ∧ i = .int .i64 0 ∧ Hid (wr.heap[w.heap.size]? = some (.cells #[.int .i64 2, .int .i64 0, .slice T.aa T.an T.ac, .slice T.ka T.kn T.kc] 25)) ∧ Hid (Below w.heap.size w wr)) (fun _ _ _ => 0)
      case atStart => exact ⟨rfl, rfl, HQ, HBr⟩
      case round =>
        clear d3
        obtain ⟨rfl, rfl, HQ, HBr⟩ := hrel
        have d3 : wr.cell? ⟨w.heap.size, 3, none⟩ = some (.slice T.ka T.kn T.kc) := cell_at HQ.out rfl
        go_wp2_with (fail)
        go_ret
        exact ⟨ret_st HPL.out, HBr.out⟩
set_option maxRecDepth 100000 in
set_option maxHeartbeats 4000000 in
theorem tree_3 (S : Nat → Prop) (T : XT) (w : World) (H : XAt w S T) (HX : XTx T) (hsm : ∀ i, i < T.an → (T.arg i).text.size ≤ 3000) (hmo : ∀ i, i < T.an → mayOB (T.arg i) = true) (hk100 : T.kn ≤ 100)
    (HI : Hid (∀ i, i < T.kn → ∀ wx, Below w.heap.size w wx → RTreeC (T.kid i).op (T.kid i).rel (T.kid i).aa (T.kid i).an (T.kid i).ac (T.kid i).ka (T.kid i).kn (T.kid i).kc wx (showX (T.kid i))))
    (hkl : ∀ i, i < T.kn → (showX (T.kid i)).length ≤ 21707000) (hn : T.an = 2) (hkn : T.kn = 0) : RTreeC 3 0 T.aa T.an T.ac T.ka T.kn T.kc w (headP 3 ++ argsP 3 0 T.arg T.an ++ kidsP 3 T.kid T.kn) := by
  have ha := xt_an H
  have hk := xt_kn H
  have HC := Lib.hid (fun i (hi : i < T.kn) wx (hb : Below w.heap.size w wx) => (kid_at H hb hi).1)
  have HAC := Lib.hid (fun i (hi : i < T.an) wx (hb : Below w.heap.size w wx) => (((xat_iff T).1 H).2.1 i hi).next hb)
  have HM := Lib.hid (fun i (hi : i < T.an) wx => rtx_good (T.arg i) (((xtx_iff T).1 HX).1 i hi) (Nat.le_trans (hsm i hi) (by decide)) wx (hmo i hi))
  have HOL := Lib.hid (fun i (hi : i < T.an) => opTx_len (T.arg i) (((xtx_iff T).1 HX).1 i hi).2 (hsm i hi))
  have HKL := Lib.hid hkl
  have hsz := bs_size
  have HNN := Lib.hid hn
  have HKN := Lib.hid hkn
  clear H HX hsm hmo hn hkl hkn
  obtain ⟨A, hA⟩ : ∃ A, headP 3 ++ argsP 3 0 T.arg T.an = A := ⟨_, rfl⟩
  rw [hA]
  obtain ⟨L, hL⟩ : ∃ L, A ++ kidsP 3 T.kid T.kn = L := ⟨_, rfl⟩
  rw [hL]
  have HA := Lib.hid hA
  have HL := Lib.hid hL
  clear hA hL
  unfold RTreeC
  go_enter Tryz.func19, Tryz.ntmps19
  go_wp2_with (fail)
  go_loopw [5, 6, 7, 8] (fun s i _ _ wr => ∃ (j : Nat) (P : List UInt8), j ≤ T.an ∧ i = .int .i64 j ∧ s = .string (bs P) ∧ P.length ≤ 4 + 6020 * j ∧ Hid (headP 3 ++ argsP 3 0 T.arg j = P) ∧ Hid (wr.heap[w.heap.size]? = some (.cells #[.int .i64 3, .int .i64 0, .slice T.aa T.an T.ac, .slice T.ka T.kn T.kc] 25)) ∧ Hid (wr.heap[w.heap.size + 1]? = some (.cells #[.string ⟨#[]⟩, .string ⟨#[32, 61, 32]⟩, .string ⟨#[32, 60, 62, 32]⟩, .string ⟨#[32, 60, 32]⟩, .string ⟨#[32, 60, 61, 32]⟩, .string ⟨#[32, 62, 32]⟩, .string ⟨#[32, 62, 61, 32]⟩] 9)) ∧ Hid (wr.heap[w.heap.size + 2]? = some (.cells #[.string ⟨#[]⟩, .string ⟨#[32, 66, 69, 84, 87, 69, 69, 78, 32]⟩, .string ⟨#[32, 65, 78, 68, 32]⟩] 9)) ∧ Hid (Below w.heap.size w wr)) (fun _ i _ _ _ => T.an - (intOf i).toNat)
  case atStart => exact ⟨0, [], Nat.zero_le _, rfl, rfl, by decide, Lib.hid rfl, Lib.hid (row3t w _ _ _).1, Lib.hid (row3t w _ _ _).2.1, Lib.hid (row3t w _ _ _).2.2.1, Lib.hid (row3t w _ _ _).2.2.2⟩
  case round =>
    obtain ⟨j, P, hj, rfl, rfl, hP, HP, HQ, HQ2, HQ3, HBr⟩ := hrel
    have d2 : wr.cell? ⟨w.heap.size, 2, none⟩ = some (.slice T.aa T.an T.ac) := cell_at HQ.out rfl
    by_cases hlt : j < T.an
    · obtain ⟨b, off, hia, _, hbl, hla⟩ := HAC.out j hlt wr HBr.out
      clear d2
      have d2 : wr.cell? ⟨w.heap.size, 2, none⟩ = some (.slice (some ⟨b, off, none⟩) T.an T.ac) := by rw [← hia]; exact cell_at HQ.out rfl
      have d0 : wr.cell? ⟨w.heap.size, 0, none⟩ = some (.int .i64 3) := cell_at HQ.out rfl
      have d1 : wr.cell? ⟨w.heap.size, 1, none⟩ = some (.int .i64 0) := cell_at HQ.out rfl
      have HLA := Lib.hid hla
      have HN := Lib.hid (HM.out j hlt)
      unfold RTxTo at HN
      obtain ⟨X, hX⟩ : ∃ X, opTx (T.arg j) = X := ⟨_, rfl⟩
      rw [hX] at HN
      have hXl : X.length ≤ 6010 := by rw [← hX]; exact HOL.out j hlt
      have HXX := Lib.hid hX
      have hj4 : j ≤ 3 := by have := HNN.out; omega
      clear hia hla hX hbl
      have hjj : j = 0 ∨ j = 1 := by have := HNN.out; omega
      rcases hjj with rfl | rfl
      · have c0 : wr.cell? ⟨b, off, none⟩ = some (.int .i64 (T.arg 0).kind) := HLA.out 0 _ rfl
        have c1 : wr.cell? ⟨b, off + 1, none⟩ = some (.string (T.arg 0).text) := HLA.out 1 _ rfl
        have c2 : wr.cell? ⟨b, off + 2, none⟩ = some (.bool (T.arg 0).neg) := HLA.out 2 _ rfl
        have c3 : wr.cell? ⟨b, off + 3, none⟩ = some (.int .u64 (T.arg 0).num) := HLA.out 3 _ rfl
        go_wp2_with (go_at_call 11; refine (HN.out _).mono ?_; rintro e w1 ⟨rfl, hb⟩; have HB1 := Lib.hid (bthN HBr.out hb); have Q1 := Lib.hid (rowKeep hb HQ.out); have Q2 := Lib.hid (rowKeep hb HQ2.out); have Q3 := Lib.hid (rowKeep hb HQ3.out); clear hb)
        go_roundw
        case rel => exact ⟨1, P ++ X, by omega, by go_num, congrArg Value.string (app2 P X), by simp only [List.length_append, List.length_cons, List.length_nil]; omega, Lib.hid (by rw [← HP.out, ← HXX.out]; simp [argsP, sepA, headP, relS, kBETWEEN, kAND, kLIKE]), Q1, Q2, Q3, HB1⟩
        case measure => simp [intOf]; omega
      · have hc : (⟨#[32, 76, 73, 75, 69, 32]⟩ : ByteArray) = bs [32, 76, 73, 75, 69, 32] := rfl
        have c0 : wr.cell? ⟨b, off + 4, none⟩ = some (.int .i64 (T.arg 1).kind) := HLA.out 0 _ rfl
        have c1 : wr.cell? ⟨b, off + 5, none⟩ = some (.string (T.arg 1).text) := HLA.out 1 _ rfl
        have c12 : wr.cell? ⟨b, off + 4 + 1, none⟩ = some (.string (T.arg 1).text) := HLA.out 1 _ rfl
        have c2 : wr.cell? ⟨b, off + 6, none⟩ = some (.bool (T.arg 1).neg) := HLA.out 2 _ rfl
        have c22 : wr.cell? ⟨b, off + 4 + 2, none⟩ = some (.bool (T.arg 1).neg) := HLA.out 2 _ rfl
        have c3 : wr.cell? ⟨b, off + 7, none⟩ = some (.int .u64 (T.arg 1).num) := HLA.out 3 _ rfl
        have c32 : wr.cell? ⟨b, off + 4 + 3, none⟩ = some (.int .u64 (T.arg 1).num) := HLA.out 3 _ rfl
        go_wp2_with (go_at_call 11; refine (HN.out _).mono ?_; rintro e w1 ⟨rfl, hb⟩; have HB1 := Lib.hid (bthN HBr.out hb); have Q1 := Lib.hid (rowKeep hb HQ.out); have Q2 := Lib.hid (rowKeep hb HQ2.out); have Q3 := Lib.hid (rowKeep hb HQ3.out); clear hb)
        go_roundw
        case rel => exact ⟨2, P ++ [32, 76, 73, 75, 69, 32] ++ X, by omega, by go_num, congrArg Value.string (app3 P [32, 76, 73, 75, 69, 32] X), by simp only [List.length_append, List.length_cons, List.length_nil]; omega, Lib.hid (by rw [← HP.out, ← HXX.out]; simp [argsP, sepA, headP, relS, kBETWEEN, kAND, kLIKE]), Q1, Q2, Q3, HB1⟩
        case measure => simp [intOf]; omega
    · obtain rfl : j = T.an := by omega
      have hPl : P.length ≤ 4 + 6020 * 3 := by have := HNN.out; omega
      have HPA := Lib.hid (show P = A from by rw [← HP.out, HA.out])
      clear hlt HP hP hj
      have z4 : ¬ (0 : Int) < (T.kn : Int) := by have := HKN.out; omega
      have z5 : decide (0 < T.kn) = false := decide_eq_false (by have := HKN.out; omega)
      have d3 : wr.cell? ⟨w.heap.size, 3, none⟩ = some (.slice T.ka T.kn T.kc) := cell_at HQ.out rfl
      have HPL := Lib.hid (show P = L by rw [← HL.out, HKN.out, HPA.out]; exact (List.append_nil A).symm)
      go_wp2_with (fail)
      go_loopw [5, 9] (fun s i wr => s = .string (bs P) ∧ i = .int .i64 0 ∧ Hid (wr.heap[w.heap.size]? = some (.cells #[.int .i64 3, .int .i64 0, .slice T.aa T.an T.ac, .slice T.ka T.kn T.kc] 25)) ∧ Hid (Below w.heap.size w wr)) (fun _ _ _ => 0)
      case atStart => exact ⟨rfl, rfl, HQ, HBr⟩
      case round =>
        clear d3
        obtain ⟨rfl, rfl, HQ, HBr⟩ := hrel
        have d3 : wr.cell? ⟨w.heap.size, 3, none⟩ = some (.slice T.ka T.kn T.kc) := cell_at HQ.out rfl
        go_wp2_with (fail)
        go_ret
        exact ⟨ret_st HPL.out, HBr.out⟩
set_option maxRecDepth 100000 in
set_option maxHeartbeats 4000000 in
theorem tree_4 (S : Nat → Prop) (T : XT) (w : World) (H : XAt w S T) (HX : XTx T) (hsm : ∀ i, i < T.an → (T.arg i).text.size ≤ 3000) (hmo : ∀ i, i < T.an → mayOB (T.arg i) = true) (hk100 : T.kn ≤ 100)
    (HI : Hid (∀ i, i < T.kn → ∀ wx, Below w.heap.size w wx → RTreeC (T.kid i).op (T.kid i).rel (T.kid i).aa (T.kid i).an (T.kid i).ac (T.kid i).ka (T.kid i).kn (T.kid i).kc wx (showX (T.kid i))))
    (hkl : ∀ i, i < T.kn → (showX (T.kid i)).length ≤ 21707000) (hn : T.an = 0) (hkn : T.kn = 1) : RTreeC 4 0 T.aa T.an T.ac T.ka T.kn T.kc w (headP 4 ++ argsP 4 0 T.arg T.an ++ kidsP 4 T.kid T.kn) := by
  have ha := xt_an H
  have hk := xt_kn H
  have HC := Lib.hid (fun i (hi : i < T.kn) wx (hb : Below w.heap.size w wx) => (kid_at H hb hi).1)
  have HAC := Lib.hid (fun i (hi : i < T.an) wx (hb : Below w.heap.size w wx) => (((xat_iff T).1 H).2.1 i hi).next hb)
  have HM := Lib.hid (fun i (hi : i < T.an) wx => rtx_good (T.arg i) (((xtx_iff T).1 HX).1 i hi) (Nat.le_trans (hsm i hi) (by decide)) wx (hmo i hi))
  have HOL := Lib.hid (fun i (hi : i < T.an) => opTx_len (T.arg i) (((xtx_iff T).1 HX).1 i hi).2 (hsm i hi))
  have HKL := Lib.hid hkl
  have hsz := bs_size
  have HNN := Lib.hid hn
  have HKN := Lib.hid hkn
  clear H HX hsm hmo hn hkl hkn
  have h40 : (⟨#[78, 79, 84, 32]⟩ : ByteArray) = bs [78, 79, 84, 32] := rfl
  obtain ⟨A, hA⟩ : ∃ A, headP 4 ++ argsP 4 0 T.arg T.an = A := ⟨_, rfl⟩
  rw [hA]
  obtain ⟨L, hL⟩ : ∃ L, A ++ kidsP 4 T.kid T.kn = L := ⟨_, rfl⟩
  rw [hL]
  have HA := Lib.hid hA
  have HL := Lib.hid hL
  clear hA hL
  unfold RTreeC
  go_enter Tryz.func19, Tryz.ntmps19
  go_wp2_with (fail)
  go_loopw [5, 6, 7, 8] (fun s i _ _ wr => ∃ (j : Nat) (P : List UInt8), j ≤ T.an ∧ i = .int .i64 j ∧ s = .string (bs P) ∧ P.length ≤ 4 + 6020 * j ∧ Hid (headP 4 ++ argsP 4 0 T.arg j = P) ∧ Hid (wr.heap[w.heap.size]? = some (.cells #[.int .i64 4, .int .i64 0, .slice T.aa T.an T.ac, .slice T.ka T.kn T.kc] 25)) ∧ Hid (wr.heap[w.heap.size + 1]? = some (.cells #[.string ⟨#[]⟩, .string ⟨#[32, 61, 32]⟩, .string ⟨#[32, 60, 62, 32]⟩, .string ⟨#[32, 60, 32]⟩, .string ⟨#[32, 60, 61, 32]⟩, .string ⟨#[32, 62, 32]⟩, .string ⟨#[32, 62, 61, 32]⟩] 9)) ∧ Hid (wr.heap[w.heap.size + 2]? = some (.cells #[.string ⟨#[]⟩, .string ⟨#[32, 66, 69, 84, 87, 69, 69, 78, 32]⟩, .string ⟨#[32, 65, 78, 68, 32]⟩] 9)) ∧ Hid (Below w.heap.size w wr)) (fun _ i _ _ _ => T.an - (intOf i).toNat)
  case atStart => exact ⟨0, [78, 79, 84, 32], Nat.zero_le _, rfl, by first | rfl | exact congrArg Value.string h40, by decide, Lib.hid rfl, Lib.hid (row3t w _ _ _).1, Lib.hid (row3t w _ _ _).2.1, Lib.hid (row3t w _ _ _).2.2.1, Lib.hid (row3t w _ _ _).2.2.2⟩
  case round =>
    obtain ⟨j, P, hj, rfl, rfl, hP, HP, HQ, HQ2, HQ3, HBr⟩ := hrel
    have d2 : wr.cell? ⟨w.heap.size, 2, none⟩ = some (.slice T.aa T.an T.ac) := cell_at HQ.out rfl
    by_cases hlt : j < T.an
    · exfalso; have := HNN.out; omega
    · obtain rfl : j = T.an := by omega
      have hPl : P.length ≤ 4 + 6020 * 3 := by have := HNN.out; omega
      have HPA := Lib.hid (show P = A from by rw [← HP.out, HA.out])
      clear hlt HP hP hj
      have hk1 : T.kn = 1 := HKN.out
      have HK1 := Lib.hid hk1
      clear hk1
      have d3 : wr.cell? ⟨w.heap.size, 3, none⟩ = some (.slice T.ka T.kn T.kc) := cell_at HQ.out rfl
      go_wp2_with (fail)
      clear d3
      go_loopw [5, 9, 10] (fun s i _ wr => ∃ (j : Nat) (P : List UInt8), j ≤ T.kn ∧ i = .int .i64 j ∧ s = .string (bs P) ∧ P.length ≤ 20000 + 21708000 * j ∧ Hid (A ++ kidsP 4 T.kid j = P) ∧ Hid (wr.heap[w.heap.size]? = some (.cells #[.int .i64 4, .int .i64 0, .slice T.aa T.an T.ac, .slice T.ka T.kn T.kc] 25)) ∧ Hid (Below w.heap.size w wr)) (fun _ i _ _ => T.kn - (intOf i).toNat)
      case atStart => exact ⟨0, P, Nat.zero_le _, rfl, rfl, by omega, Lib.hid (by rw [HPA.out]; exact List.append_nil A), HQ, HBr⟩
      case round =>
        clear hPl HPA HQ2 HQ3
        obtain ⟨j, P, hj, rfl, rfl, hP, HP, HQ, HBr⟩ := hrel
        by_cases hlt : j < T.kn
        · obtain ⟨b, off, hia, _, hbl, hla⟩ := HC.out j hlt wr HBr.out
          have d3 : wr.cell? ⟨w.heap.size, 3, none⟩ = some (.slice (some ⟨b, off, none⟩) T.kn T.kc) := by rw [← hia]; exact cell_at HQ.out rfl
          have d0 : wr.cell? ⟨w.heap.size, 0, none⟩ = some (.int .i64 4) := cell_at HQ.out rfl
          have hbs : w.heap.size < wr.heap.size := lt_of_block HQ.out
          have HN := Lib.hid (HI.out j hlt)
          unfold RTreeC at HN
          have HKJ := Lib.hid (show kidsP 4 T.kid (j + 1) = kidsP 4 T.kid j ++ sepK 4 j ++ kidS 4 (T.kid j).op (showX (T.kid j)) from rfl)
          have HLA := Lib.hid hla
          obtain ⟨K, hK⟩ : ∃ K, showX (T.kid j) = K := ⟨_, rfl⟩
          have hKl : K.length ≤ 21707000 := by rw [← hK]; exact HKL.out j hlt
          rw [hK] at HN HKJ
          have HKK := Lib.hid hK
          obtain ⟨q, hq⟩ : ∃ q, (T.kid j).op = q := ⟨_, rfl⟩
          rw [hq] at HN HKJ
          have HQQ := Lib.hid hq
          have hj100 : j ≤ 100 := by omega
          clear hia hla hK hq hbl
          obtain rfl : j = 0 := by have := HKN.out; omega
          by_cases hq6 : q = 6
          · subst hq6
            have hp1 : (⟨#[40]⟩ : ByteArray) = bs [40] := rfl
            have hp2 : (⟨#[41]⟩ : ByteArray) = bs [41] := rfl
            have c0 : wr.cell? ⟨b, off, none⟩ = some (.int .i64 6) := by have h := HLA.out 0 _ rfl; rw [HQQ.out] at h; exact h
            have c1 : wr.cell? ⟨b, off + 1, none⟩ = some (.int .i64 (T.kid 0).rel) := HLA.out 1 _ rfl
            have c2 : wr.cell? ⟨b, off + 2, none⟩ = some (.slice (T.kid 0).aa (T.kid 0).an (T.kid 0).ac) := HLA.out 2 _ rfl
            have c3 : wr.cell? ⟨b, off + 3, none⟩ = some (.slice (T.kid 0).ka (T.kid 0).kn (T.kid 0).kc) := HLA.out 3 _ rfl
            have HBA := Lib.hid (HBr.out.alloc HBr.out.size (.cells #[.int .i64 6, .int .i64 (T.kid 0).rel, .slice (T.kid 0).aa (T.kid 0).an (T.kid 0).ac, .slice (T.kid 0).ka (T.kid 0).kn (T.kid 0).kc] 25))
            have HQA := Lib.hid (rowKeep ((Below.refl wr.heap.size wr).alloc (Nat.le_refl _) (.cells #[.int .i64 6, .int .i64 (T.kid 0).rel, .slice (T.kid 0).aa (T.kid 0).an (T.kid 0).ac, .slice (T.kid 0).ka (T.kid 0).kn (T.kid 0).kc] 25)) HQ.out)
            go_wp2_with (go_at_call 19; refine (HN.out _ HBA.out).mono ?_; rintro e w1 ⟨rfl, hb⟩; have HB1 := Lib.hid (bthN HBA.out hb); have Q1 := Lib.hid (rowKeep hb HQA.out); clear hb)
            go_roundw
            case rel => exact ⟨0 + 1, P ++ 40 :: (K ++ [41]), by omega, by go_num, congrArg Value.string (app4' P K), by simp only [List.length_append, List.length_cons, List.length_nil]; omega, Lib.hid (by rw [HKJ.out, ← HP.out]; simp [sepK, kidS, paren, kAND, kOR, hsz]), Q1, HB1⟩
            case measure => simp [intOf]; omega
          by_cases hq5 : q = 5
          · subst hq5
            have hp1 : (⟨#[40]⟩ : ByteArray) = bs [40] := rfl
            have hp2 : (⟨#[41]⟩ : ByteArray) = bs [41] := rfl
            have c0 : wr.cell? ⟨b, off, none⟩ = some (.int .i64 5) := by have h := HLA.out 0 _ rfl; rw [HQQ.out] at h; exact h
            have c1 : wr.cell? ⟨b, off + 1, none⟩ = some (.int .i64 (T.kid 0).rel) := HLA.out 1 _ rfl
            have c2 : wr.cell? ⟨b, off + 2, none⟩ = some (.slice (T.kid 0).aa (T.kid 0).an (T.kid 0).ac) := HLA.out 2 _ rfl
            have c3 : wr.cell? ⟨b, off + 3, none⟩ = some (.slice (T.kid 0).ka (T.kid 0).kn (T.kid 0).kc) := HLA.out 3 _ rfl
            have HBA := Lib.hid (HBr.out.alloc HBr.out.size (.cells #[.int .i64 5, .int .i64 (T.kid 0).rel, .slice (T.kid 0).aa (T.kid 0).an (T.kid 0).ac, .slice (T.kid 0).ka (T.kid 0).kn (T.kid 0).kc] 25))
            have HQA := Lib.hid (rowKeep ((Below.refl wr.heap.size wr).alloc (Nat.le_refl _) (.cells #[.int .i64 5, .int .i64 (T.kid 0).rel, .slice (T.kid 0).aa (T.kid 0).an (T.kid 0).ac, .slice (T.kid 0).ka (T.kid 0).kn (T.kid 0).kc] 25)) HQ.out)
            go_wp2_with (go_at_call 19; refine (HN.out _ HBA.out).mono ?_; rintro e w1 ⟨rfl, hb⟩; have HB1 := Lib.hid (bthN HBA.out hb); have Q1 := Lib.hid (rowKeep hb HQA.out); clear hb)
            go_roundw
            case rel => exact ⟨0 + 1, P ++ 40 :: (K ++ [41]), by omega, by go_num, congrArg Value.string (app4' P K), by simp only [List.length_append, List.length_cons, List.length_nil]; omega, Lib.hid (by rw [HKJ.out, ← HP.out]; simp [sepK, kidS, paren, kAND, kOR, hsz]), Q1, HB1⟩
            case measure => simp [intOf]; omega
          have hqn : (q == 6) = false := beq_eq_false_iff_ne.2 hq6
          have hqm : (q == 5) = false := beq_eq_false_iff_ne.2 hq5
          have c0 : wr.cell? ⟨b, off, none⟩ = some (.int .i64 q) := by have h := HLA.out 0 _ rfl; rw [HQQ.out] at h; exact h
          have c1 : wr.cell? ⟨b, off + 1, none⟩ = some (.int .i64 (T.kid 0).rel) := HLA.out 1 _ rfl
          have c2 : wr.cell? ⟨b, off + 2, none⟩ = some (.slice (T.kid 0).aa (T.kid 0).an (T.kid 0).ac) := HLA.out 2 _ rfl
          have c3 : wr.cell? ⟨b, off + 3, none⟩ = some (.slice (T.kid 0).ka (T.kid 0).kn (T.kid 0).kc) := HLA.out 3 _ rfl
          have HBA := Lib.hid (HBr.out.alloc HBr.out.size (.cells #[.int .i64 q, .int .i64 (T.kid 0).rel, .slice (T.kid 0).aa (T.kid 0).an (T.kid 0).ac, .slice (T.kid 0).ka (T.kid 0).kn (T.kid 0).kc] 25))
          have HQA := Lib.hid (rowKeep ((Below.refl wr.heap.size wr).alloc (Nat.le_refl _) (.cells #[.int .i64 q, .int .i64 (T.kid 0).rel, .slice (T.kid 0).aa (T.kid 0).an (T.kid 0).ac, .slice (T.kid 0).ka (T.kid 0).kn (T.kid 0).kc] 25)) HQ.out)
          go_wp2_with (go_at_call 19; refine (HN.out _ HBA.out).mono ?_; rintro e w1 ⟨rfl, hb⟩; have HB1 := Lib.hid (bthN HBA.out hb); have Q1 := Lib.hid (rowKeep hb HQA.out); clear hb)
          go_roundw
          case rel => exact ⟨0 + 1, P ++ K, by omega, by go_num, congrArg Value.string (app2 P K), by simp only [List.length_append, List.length_cons, List.length_nil]; omega, Lib.hid (by rw [HKJ.out, ← HP.out]; simp [sepK, kidS, paren, kAND, kOR, hsz, hqn, hqm]), Q1, HB1⟩
          case measure => simp [intOf]; omega
        · obtain rfl : j = T.kn := by omega
          have d3 : wr.cell? ⟨w.heap.size, 3, none⟩ = some (.slice T.ka T.kn T.kc) := cell_at HQ.out rfl
          have HPL := Lib.hid (show P = L by rw [← HL.out, ← HP.out])
          clear hlt
          go_wp2_with (fail)
          go_ret
          exact ⟨ret_st HPL.out, HBr.out⟩
set_option maxRecDepth 100000 in
set_option maxHeartbeats 4000000 in
theorem tree_5 (S : Nat → Prop) (T : XT) (w : World) (H : XAt w S T) (HX : XTx T) (hsm : ∀ i, i < T.an → (T.arg i).text.size ≤ 3000) (hmo : ∀ i, i < T.an → mayOB (T.arg i) = true) (hk100 : T.kn ≤ 100)
    (HI : Hid (∀ i, i < T.kn → ∀ wx, Below w.heap.size w wx → RTreeC (T.kid i).op (T.kid i).rel (T.kid i).aa (T.kid i).an (T.kid i).ac (T.kid i).ka (T.kid i).kn (T.kid i).kc wx (showX (T.kid i))))
    (hkl : ∀ i, i < T.kn → (showX (T.kid i)).length ≤ 21707000) (hn : T.an = 0) : RTreeC 5 0 T.aa T.an T.ac T.ka T.kn T.kc w (headP 5 ++ argsP 5 0 T.arg T.an ++ kidsP 5 T.kid T.kn) := by
  have ha := xt_an H
  have hk := xt_kn H
  have HC := Lib.hid (fun i (hi : i < T.kn) wx (hb : Below w.heap.size w wx) => (kid_at H hb hi).1)
  have HAC := Lib.hid (fun i (hi : i < T.an) wx (hb : Below w.heap.size w wx) => (((xat_iff T).1 H).2.1 i hi).next hb)
  have HM := Lib.hid (fun i (hi : i < T.an) wx => rtx_good (T.arg i) (((xtx_iff T).1 HX).1 i hi) (Nat.le_trans (hsm i hi) (by decide)) wx (hmo i hi))
  have HOL := Lib.hid (fun i (hi : i < T.an) => opTx_len (T.arg i) (((xtx_iff T).1 HX).1 i hi).2 (hsm i hi))
  have HKL := Lib.hid hkl
  have hsz := bs_size
  have HNN := Lib.hid hn
  clear H HX hsm hmo hn hkl
  obtain ⟨A, hA⟩ : ∃ A, headP 5 ++ argsP 5 0 T.arg T.an = A := ⟨_, rfl⟩
  rw [hA]
  obtain ⟨L, hL⟩ : ∃ L, A ++ kidsP 5 T.kid T.kn = L := ⟨_, rfl⟩
  rw [hL]
  have HA := Lib.hid hA
  have HL := Lib.hid hL
  clear hA hL
  unfold RTreeC
  go_enter Tryz.func19, Tryz.ntmps19
  go_wp2_with (fail)
  go_loopw [5, 6, 7, 8] (fun s i _ _ wr => ∃ (j : Nat) (P : List UInt8), j ≤ T.an ∧ i = .int .i64 j ∧ s = .string (bs P) ∧ P.length ≤ 4 + 6020 * j ∧ Hid (headP 5 ++ argsP 5 0 T.arg j = P) ∧ Hid (wr.heap[w.heap.size]? = some (.cells #[.int .i64 5, .int .i64 0, .slice T.aa T.an T.ac, .slice T.ka T.kn T.kc] 25)) ∧ Hid (wr.heap[w.heap.size + 1]? = some (.cells #[.string ⟨#[]⟩, .string ⟨#[32, 61, 32]⟩, .string ⟨#[32, 60, 62, 32]⟩, .string ⟨#[32, 60, 32]⟩, .string ⟨#[32, 60, 61, 32]⟩, .string ⟨#[32, 62, 32]⟩, .string ⟨#[32, 62, 61, 32]⟩] 9)) ∧ Hid (wr.heap[w.heap.size + 2]? = some (.cells #[.string ⟨#[]⟩, .string ⟨#[32, 66, 69, 84, 87, 69, 69, 78, 32]⟩, .string ⟨#[32, 65, 78, 68, 32]⟩] 9)) ∧ Hid (Below w.heap.size w wr)) (fun _ i _ _ _ => T.an - (intOf i).toNat)
  case atStart => exact ⟨0, [], Nat.zero_le _, rfl, rfl, by decide, Lib.hid rfl, Lib.hid (row3t w _ _ _).1, Lib.hid (row3t w _ _ _).2.1, Lib.hid (row3t w _ _ _).2.2.1, Lib.hid (row3t w _ _ _).2.2.2⟩
  case round =>
    obtain ⟨j, P, hj, rfl, rfl, hP, HP, HQ, HQ2, HQ3, HBr⟩ := hrel
    have d2 : wr.cell? ⟨w.heap.size, 2, none⟩ = some (.slice T.aa T.an T.ac) := cell_at HQ.out rfl
    by_cases hlt : j < T.an
    · exfalso; have := HNN.out; omega
    · obtain rfl : j = T.an := by omega
      have hPl : P.length ≤ 4 + 6020 * 3 := by have := HNN.out; omega
      have HPA := Lib.hid (show P = A from by rw [← HP.out, HA.out])
      clear hlt HP hP hj
      have d3 : wr.cell? ⟨w.heap.size, 3, none⟩ = some (.slice T.ka T.kn T.kc) := cell_at HQ.out rfl
      go_wp2_with (fail)
      clear d3
      go_loopw [5, 9, 10] (fun s i _ wr => ∃ (j : Nat) (P : List UInt8), j ≤ T.kn ∧ i = .int .i64 j ∧ s = .string (bs P) ∧ P.length ≤ 20000 + 21708000 * j ∧ Hid (A ++ kidsP 5 T.kid j = P) ∧ Hid (wr.heap[w.heap.size]? = some (.cells #[.int .i64 5, .int .i64 0, .slice T.aa T.an T.ac, .slice T.ka T.kn T.kc] 25)) ∧ Hid (Below w.heap.size w wr)) (fun _ i _ _ => T.kn - (intOf i).toNat)
      case atStart => exact ⟨0, P, Nat.zero_le _, rfl, rfl, by omega, Lib.hid (by rw [HPA.out]; exact List.append_nil A), HQ, HBr⟩
      case round =>
        clear hPl HPA HQ2 HQ3
        obtain ⟨j, P, hj, rfl, rfl, hP, HP, HQ, HBr⟩ := hrel
        by_cases hlt : j < T.kn
        · obtain ⟨b, off, hia, _, hbl, hla⟩ := HC.out j hlt wr HBr.out
          have d3 : wr.cell? ⟨w.heap.size, 3, none⟩ = some (.slice (some ⟨b, off, none⟩) T.kn T.kc) := by rw [← hia]; exact cell_at HQ.out rfl
          have d0 : wr.cell? ⟨w.heap.size, 0, none⟩ = some (.int .i64 5) := cell_at HQ.out rfl
          have hbs : w.heap.size < wr.heap.size := lt_of_block HQ.out
          have HN := Lib.hid (HI.out j hlt)
          unfold RTreeC at HN
          have HKJ := Lib.hid (show kidsP 5 T.kid (j + 1) = kidsP 5 T.kid j ++ sepK 5 j ++ kidS 5 (T.kid j).op (showX (T.kid j)) from rfl)
          have HLA := Lib.hid hla
          obtain ⟨K, hK⟩ : ∃ K, showX (T.kid j) = K := ⟨_, rfl⟩
          have hKl : K.length ≤ 21707000 := by rw [← hK]; exact HKL.out j hlt
          rw [hK] at HN HKJ
          have HKK := Lib.hid hK
          obtain ⟨q, hq⟩ : ∃ q, (T.kid j).op = q := ⟨_, rfl⟩
          rw [hq] at HN HKJ
          have HQQ := Lib.hid hq
          have hj100 : j ≤ 100 := by omega
          clear hia hla hK hq hbl
          by_cases hj0 : j = 0
          · subst hj0
            by_cases hq6 : q = 6
            · subst hq6
              have hp1 : (⟨#[40]⟩ : ByteArray) = bs [40] := rfl
              have hp2 : (⟨#[41]⟩ : ByteArray) = bs [41] := rfl
              have c0 : wr.cell? ⟨b, off, none⟩ = some (.int .i64 6) := by have h := HLA.out 0 _ rfl; rw [HQQ.out] at h; exact h
              have c1 : wr.cell? ⟨b, off + 1, none⟩ = some (.int .i64 (T.kid 0).rel) := HLA.out 1 _ rfl
              have c2 : wr.cell? ⟨b, off + 2, none⟩ = some (.slice (T.kid 0).aa (T.kid 0).an (T.kid 0).ac) := HLA.out 2 _ rfl
              have c3 : wr.cell? ⟨b, off + 3, none⟩ = some (.slice (T.kid 0).ka (T.kid 0).kn (T.kid 0).kc) := HLA.out 3 _ rfl
              have HBA := Lib.hid (HBr.out.alloc HBr.out.size (.cells #[.int .i64 6, .int .i64 (T.kid 0).rel, .slice (T.kid 0).aa (T.kid 0).an (T.kid 0).ac, .slice (T.kid 0).ka (T.kid 0).kn (T.kid 0).kc] 25))
              have HQA := Lib.hid (rowKeep ((Below.refl wr.heap.size wr).alloc (Nat.le_refl _) (.cells #[.int .i64 6, .int .i64 (T.kid 0).rel, .slice (T.kid 0).aa (T.kid 0).an (T.kid 0).ac, .slice (T.kid 0).ka (T.kid 0).kn (T.kid 0).kc] 25)) HQ.out)
              go_wp2_with (go_at_call 19; refine (HN.out _ HBA.out).mono ?_; rintro e w1 ⟨rfl, hb⟩; have HB1 := Lib.hid (bthN HBA.out hb); have Q1 := Lib.hid (rowKeep hb HQA.out); clear hb)
              go_roundw
              case rel => exact ⟨0 + 1, P ++ 40 :: (K ++ [41]), by omega, by go_num, congrArg Value.string (app4' P K), by simp only [List.length_append, List.length_cons, List.length_nil]; omega, Lib.hid (by rw [HKJ.out, ← HP.out]; simp [sepK, kidS, paren, kAND, kOR, hsz]), Q1, HB1⟩
              case measure => simp [intOf]; omega
            by_cases hq5 : q = 5
            · subst hq5
              have hp1 : (⟨#[40]⟩ : ByteArray) = bs [40] := rfl
              have hp2 : (⟨#[41]⟩ : ByteArray) = bs [41] := rfl
              have c0 : wr.cell? ⟨b, off, none⟩ = some (.int .i64 5) := by have h := HLA.out 0 _ rfl; rw [HQQ.out] at h; exact h
              have c1 : wr.cell? ⟨b, off + 1, none⟩ = some (.int .i64 (T.kid 0).rel) := HLA.out 1 _ rfl
              have c2 : wr.cell? ⟨b, off + 2, none⟩ = some (.slice (T.kid 0).aa (T.kid 0).an (T.kid 0).ac) := HLA.out 2 _ rfl
              have c3 : wr.cell? ⟨b, off + 3, none⟩ = some (.slice (T.kid 0).ka (T.kid 0).kn (T.kid 0).kc) := HLA.out 3 _ rfl
              have HBA := Lib.hid (HBr.out.alloc HBr.out.size (.cells #[.int .i64 5, .int .i64 (T.kid 0).rel, .slice (T.kid 0).aa (T.kid 0).an (T.kid 0).ac, .slice (T.kid 0).ka (T.kid 0).kn (T.kid 0).kc] 25))
              have HQA := Lib.hid (rowKeep ((Below.refl wr.heap.size wr).alloc (Nat.le_refl _) (.cells #[.int .i64 5, .int .i64 (T.kid 0).rel, .slice (T.kid 0).aa (T.kid 0).an (T.kid 0).ac, .slice (T.kid 0).ka (T.kid 0).kn (T.kid 0).kc] 25)) HQ.out)
              go_wp2_with (go_at_call 19; refine (HN.out _ HBA.out).mono ?_; rintro e w1 ⟨rfl, hb⟩; have HB1 := Lib.hid (bthN HBA.out hb); have Q1 := Lib.hid (rowKeep hb HQA.out); clear hb)
              go_roundw
              case rel => exact ⟨0 + 1, P ++ 40 :: (K ++ [41]), by omega, by go_num, congrArg Value.string (app4' P K), by simp only [List.length_append, List.length_cons, List.length_nil]; omega, Lib.hid (by rw [HKJ.out, ← HP.out]; simp [sepK, kidS, paren, kAND, kOR, hsz]), Q1, HB1⟩
              case measure => simp [intOf]; omega
            have hqn : (q == 6) = false := beq_eq_false_iff_ne.2 hq6
            have hqm : (q == 5) = false := beq_eq_false_iff_ne.2 hq5
            have c0 : wr.cell? ⟨b, off, none⟩ = some (.int .i64 q) := by have h := HLA.out 0 _ rfl; rw [HQQ.out] at h; exact h
            have c1 : wr.cell? ⟨b, off + 1, none⟩ = some (.int .i64 (T.kid 0).rel) := HLA.out 1 _ rfl
            have c2 : wr.cell? ⟨b, off + 2, none⟩ = some (.slice (T.kid 0).aa (T.kid 0).an (T.kid 0).ac) := HLA.out 2 _ rfl
            have c3 : wr.cell? ⟨b, off + 3, none⟩ = some (.slice (T.kid 0).ka (T.kid 0).kn (T.kid 0).kc) := HLA.out 3 _ rfl
            have HBA := Lib.hid (HBr.out.alloc HBr.out.size (.cells #[.int .i64 q, .int .i64 (T.kid 0).rel, .slice (T.kid 0).aa (T.kid 0).an (T.kid 0).ac, .slice (T.kid 0).ka (T.kid 0).kn (T.kid 0).kc] 25))
            have HQA := Lib.hid (rowKeep ((Below.refl wr.heap.size wr).alloc (Nat.le_refl _) (.cells #[.int .i64 q, .int .i64 (T.kid 0).rel, .slice (T.kid 0).aa (T.kid 0).an (T.kid 0).ac, .slice (T.kid 0).ka (T.kid 0).kn (T.kid 0).kc] 25)) HQ.out)
            go_wp2_with (go_at_call 19; refine (HN.out _ HBA.out).mono ?_; rintro e w1 ⟨rfl, hb⟩; have HB1 := Lib.hid (bthN HBA.out hb); have Q1 := Lib.hid (rowKeep hb HQA.out); clear hb)
            go_roundw
            case rel => exact ⟨0 + 1, P ++ K, by omega, by go_num, congrArg Value.string (app2 P K), by simp only [List.length_append, List.length_cons, List.length_nil]; omega, Lib.hid (by rw [HKJ.out, ← HP.out]; simp [sepK, kidS, paren, kAND, kOR, hsz, hqn, hqm]), Q1, HB1⟩
            case measure => simp [intOf]; omega
          have hjp : 0 < j := by omega
          have hjz : (0 : Int) < (j : Int) := by omega
          by_cases hq6 : q = 6
          · subst hq6
            have hc : (⟨#[32, 65, 78, 68, 32]⟩ : ByteArray) = bs [32, 65, 78, 68, 32] := rfl
            have hp1 : (⟨#[40]⟩ : ByteArray) = bs [40] := rfl
            have hp2 : (⟨#[41]⟩ : ByteArray) = bs [41] := rfl
            have c0 : wr.cell? ⟨b, off + j * 4, none⟩ = some (.int .i64 6) := by have h := HLA.out 0 _ rfl; rw [HQQ.out] at h; exact h
            have c1 : wr.cell? ⟨b, off + j * 4 + 1, none⟩ = some (.int .i64 (T.kid j).rel) := HLA.out 1 _ rfl
            have c2 : wr.cell? ⟨b, off + j * 4 + 2, none⟩ = some (.slice (T.kid j).aa (T.kid j).an (T.kid j).ac) := HLA.out 2 _ rfl
            have c3 : wr.cell? ⟨b, off + j * 4 + 3, none⟩ = some (.slice (T.kid j).ka (T.kid j).kn (T.kid j).kc) := HLA.out 3 _ rfl
            have HBA := Lib.hid (HBr.out.alloc HBr.out.size (.cells #[.int .i64 6, .int .i64 (T.kid j).rel, .slice (T.kid j).aa (T.kid j).an (T.kid j).ac, .slice (T.kid j).ka (T.kid j).kn (T.kid j).kc] 25))
            have HQA := Lib.hid (rowKeep ((Below.refl wr.heap.size wr).alloc (Nat.le_refl _) (.cells #[.int .i64 6, .int .i64 (T.kid j).rel, .slice (T.kid j).aa (T.kid j).an (T.kid j).ac, .slice (T.kid j).ka (T.kid j).kn (T.kid j).kc] 25)) HQ.out)
            go_wp2_with (go_at_call 19; refine (HN.out _ HBA.out).mono ?_; rintro e w1 ⟨rfl, hb⟩; have HB1 := Lib.hid (bthN HBA.out hb); have Q1 := Lib.hid (rowKeep hb HQA.out); clear hb)
            go_roundw
            case rel => exact ⟨j + 1, P ++ [32, 65, 78, 68, 32] ++ 40 :: (K ++ [41]), by omega, by go_num, congrArg Value.string (app4 P [32, 65, 78, 68, 32] K), by simp only [List.length_append, List.length_cons, List.length_nil]; omega, Lib.hid (by rw [HKJ.out, ← HP.out]; simp [sepK, kidS, paren, kAND, kOR, hj0]), Q1, HB1⟩
            case measure => simp [intOf]; omega
          by_cases hq5 : q = 5
          · subst hq5
            have hc : (⟨#[32, 65, 78, 68, 32]⟩ : ByteArray) = bs [32, 65, 78, 68, 32] := rfl
            have hp1 : (⟨#[40]⟩ : ByteArray) = bs [40] := rfl
            have hp2 : (⟨#[41]⟩ : ByteArray) = bs [41] := rfl
            have c0 : wr.cell? ⟨b, off + j * 4, none⟩ = some (.int .i64 5) := by have h := HLA.out 0 _ rfl; rw [HQQ.out] at h; exact h
            have c1 : wr.cell? ⟨b, off + j * 4 + 1, none⟩ = some (.int .i64 (T.kid j).rel) := HLA.out 1 _ rfl
            have c2 : wr.cell? ⟨b, off + j * 4 + 2, none⟩ = some (.slice (T.kid j).aa (T.kid j).an (T.kid j).ac) := HLA.out 2 _ rfl
            have c3 : wr.cell? ⟨b, off + j * 4 + 3, none⟩ = some (.slice (T.kid j).ka (T.kid j).kn (T.kid j).kc) := HLA.out 3 _ rfl
            have HBA := Lib.hid (HBr.out.alloc HBr.out.size (.cells #[.int .i64 5, .int .i64 (T.kid j).rel, .slice (T.kid j).aa (T.kid j).an (T.kid j).ac, .slice (T.kid j).ka (T.kid j).kn (T.kid j).kc] 25))
            have HQA := Lib.hid (rowKeep ((Below.refl wr.heap.size wr).alloc (Nat.le_refl _) (.cells #[.int .i64 5, .int .i64 (T.kid j).rel, .slice (T.kid j).aa (T.kid j).an (T.kid j).ac, .slice (T.kid j).ka (T.kid j).kn (T.kid j).kc] 25)) HQ.out)
            go_wp2_with (go_at_call 19; refine (HN.out _ HBA.out).mono ?_; rintro e w1 ⟨rfl, hb⟩; have HB1 := Lib.hid (bthN HBA.out hb); have Q1 := Lib.hid (rowKeep hb HQA.out); clear hb)
            go_roundw
            case rel => exact ⟨j + 1, P ++ [32, 65, 78, 68, 32] ++ 40 :: (K ++ [41]), by omega, by go_num, congrArg Value.string (app4 P [32, 65, 78, 68, 32] K), by simp only [List.length_append, List.length_cons, List.length_nil]; omega, Lib.hid (by rw [HKJ.out, ← HP.out]; simp [sepK, kidS, paren, kAND, kOR, hj0]), Q1, HB1⟩
            case measure => simp [intOf]; omega
          have hqn : (q == 6) = false := beq_eq_false_iff_ne.2 hq6
          have hqm : (q == 5) = false := beq_eq_false_iff_ne.2 hq5
          have hc : (⟨#[32, 65, 78, 68, 32]⟩ : ByteArray) = bs [32, 65, 78, 68, 32] := rfl
          have c0 : wr.cell? ⟨b, off + j * 4, none⟩ = some (.int .i64 q) := by have h := HLA.out 0 _ rfl; rw [HQQ.out] at h; exact h
          have c1 : wr.cell? ⟨b, off + j * 4 + 1, none⟩ = some (.int .i64 (T.kid j).rel) := HLA.out 1 _ rfl
          have c2 : wr.cell? ⟨b, off + j * 4 + 2, none⟩ = some (.slice (T.kid j).aa (T.kid j).an (T.kid j).ac) := HLA.out 2 _ rfl
          have c3 : wr.cell? ⟨b, off + j * 4 + 3, none⟩ = some (.slice (T.kid j).ka (T.kid j).kn (T.kid j).kc) := HLA.out 3 _ rfl
          have HBA := Lib.hid (HBr.out.alloc HBr.out.size (.cells #[.int .i64 q, .int .i64 (T.kid j).rel, .slice (T.kid j).aa (T.kid j).an (T.kid j).ac, .slice (T.kid j).ka (T.kid j).kn (T.kid j).kc] 25))
          have HQA := Lib.hid (rowKeep ((Below.refl wr.heap.size wr).alloc (Nat.le_refl _) (.cells #[.int .i64 q, .int .i64 (T.kid j).rel, .slice (T.kid j).aa (T.kid j).an (T.kid j).ac, .slice (T.kid j).ka (T.kid j).kn (T.kid j).kc] 25)) HQ.out)
          go_wp2_with (go_at_call 19; refine (HN.out _ HBA.out).mono ?_; rintro e w1 ⟨rfl, hb⟩; have HB1 := Lib.hid (bthN HBA.out hb); have Q1 := Lib.hid (rowKeep hb HQA.out); clear hb)
          go_roundw
          case rel => exact ⟨j + 1, P ++ [32, 65, 78, 68, 32] ++ K, by omega, by go_num, congrArg Value.string (app3 P [32, 65, 78, 68, 32] K), by simp only [List.length_append, List.length_cons, List.length_nil]; omega, Lib.hid (by rw [HKJ.out, ← HP.out]; simp [sepK, kidS, paren, kAND, kOR, hj0, hqn, hqm]), Q1, HB1⟩
          case measure => simp [intOf]; omega
        · obtain rfl : j = T.kn := by omega
          have d3 : wr.cell? ⟨w.heap.size, 3, none⟩ = some (.slice T.ka T.kn T.kc) := cell_at HQ.out rfl
          have HPL := Lib.hid (show P = L by rw [← HL.out, ← HP.out])
          clear hlt
          go_wp2_with (fail)
          go_ret
          exact ⟨ret_st HPL.out, HBr.out⟩
set_option maxRecDepth 100000 in
set_option maxHeartbeats 4000000 in
theorem tree_6 (S : Nat → Prop) (T : XT) (w : World) (H : XAt w S T) (HX : XTx T) (hsm : ∀ i, i < T.an → (T.arg i).text.size ≤ 3000) (hmo : ∀ i, i < T.an → mayOB (T.arg i) = true) (hk100 : T.kn ≤ 100)
    (HI : Hid (∀ i, i < T.kn → ∀ wx, Below w.heap.size w wx → RTreeC (T.kid i).op (T.kid i).rel (T.kid i).aa (T.kid i).an (T.kid i).ac (T.kid i).ka (T.kid i).kn (T.kid i).kc wx (showX (T.kid i))))
    (hkl : ∀ i, i < T.kn → (showX (T.kid i)).length ≤ 21707000) (hn : T.an = 0) : RTreeC 6 0 T.aa T.an T.ac T.ka T.kn T.kc w (headP 6 ++ argsP 6 0 T.arg T.an ++ kidsP 6 T.kid T.kn) := by
  have ha := xt_an H
  have hk := xt_kn H
  have HC := Lib.hid (fun i (hi : i < T.kn) wx (hb : Below w.heap.size w wx) => (kid_at H hb hi).1)
  have HAC := Lib.hid (fun i (hi : i < T.an) wx (hb : Below w.heap.size w wx) => (((xat_iff T).1 H).2.1 i hi).next hb)
  have HM := Lib.hid (fun i (hi : i < T.an) wx => rtx_good (T.arg i) (((xtx_iff T).1 HX).1 i hi) (Nat.le_trans (hsm i hi) (by decide)) wx (hmo i hi))
  have HOL := Lib.hid (fun i (hi : i < T.an) => opTx_len (T.arg i) (((xtx_iff T).1 HX).1 i hi).2 (hsm i hi))
  have HKL := Lib.hid hkl
  have hsz := bs_size
  have HNN := Lib.hid hn
  clear H HX hsm hmo hn hkl
  obtain ⟨A, hA⟩ : ∃ A, headP 6 ++ argsP 6 0 T.arg T.an = A := ⟨_, rfl⟩
  rw [hA]
  obtain ⟨L, hL⟩ : ∃ L, A ++ kidsP 6 T.kid T.kn = L := ⟨_, rfl⟩
  rw [hL]
  have HA := Lib.hid hA
  have HL := Lib.hid hL
  clear hA hL
  unfold RTreeC
  go_enter Tryz.func19, Tryz.ntmps19
  go_wp2_with (fail)
  go_loopw [5, 6, 7, 8] (fun s i _ _ wr => ∃ (j : Nat) (P : List UInt8), j ≤ T.an ∧ i = .int .i64 j ∧ s = .string (bs P) ∧ P.length ≤ 4 + 6020 * j ∧ Hid (headP 6 ++ argsP 6 0 T.arg j = P) ∧ Hid (wr.heap[w.heap.size]? = some (.cells #[.int .i64 6, .int .i64 0, .slice T.aa T.an T.ac, .slice T.ka T.kn T.kc] 25)) ∧ Hid (wr.heap[w.heap.size + 1]? = some (.cells #[.string ⟨#[]⟩, .string ⟨#[32, 61, 32]⟩, .string ⟨#[32, 60, 62, 32]⟩, .string ⟨#[32, 60, 32]⟩, .string ⟨#[32, 60, 61, 32]⟩, .string ⟨#[32, 62, 32]⟩, .string ⟨#[32, 62, 61, 32]⟩] 9)) ∧ Hid (wr.heap[w.heap.size + 2]? = some (.cells #[.string ⟨#[]⟩, .string ⟨#[32, 66, 69, 84, 87, 69, 69, 78, 32]⟩, .string ⟨#[32, 65, 78, 68, 32]⟩] 9)) ∧ Hid (Below w.heap.size w wr)) (fun _ i _ _ _ => T.an - (intOf i).toNat)
  case atStart => exact ⟨0, [], Nat.zero_le _, rfl, rfl, by decide, Lib.hid rfl, Lib.hid (row3t w _ _ _).1, Lib.hid (row3t w _ _ _).2.1, Lib.hid (row3t w _ _ _).2.2.1, Lib.hid (row3t w _ _ _).2.2.2⟩
  case round =>
    obtain ⟨j, P, hj, rfl, rfl, hP, HP, HQ, HQ2, HQ3, HBr⟩ := hrel
    have d2 : wr.cell? ⟨w.heap.size, 2, none⟩ = some (.slice T.aa T.an T.ac) := cell_at HQ.out rfl
    by_cases hlt : j < T.an
    · exfalso; have := HNN.out; omega
    · obtain rfl : j = T.an := by omega
      have hPl : P.length ≤ 4 + 6020 * 3 := by have := HNN.out; omega
      have HPA := Lib.hid (show P = A from by rw [← HP.out, HA.out])
      clear hlt HP hP hj
      have d3 : wr.cell? ⟨w.heap.size, 3, none⟩ = some (.slice T.ka T.kn T.kc) := cell_at HQ.out rfl
      go_wp2_with (fail)
      clear d3
      go_loopw [5, 9, 10] (fun s i _ wr => ∃ (j : Nat) (P : List UInt8), j ≤ T.kn ∧ i = .int .i64 j ∧ s = .string (bs P) ∧ P.length ≤ 20000 + 21708000 * j ∧ Hid (A ++ kidsP 6 T.kid j = P) ∧ Hid (wr.heap[w.heap.size]? = some (.cells #[.int .i64 6, .int .i64 0, .slice T.aa T.an T.ac, .slice T.ka T.kn T.kc] 25)) ∧ Hid (Below w.heap.size w wr)) (fun _ i _ _ => T.kn - (intOf i).toNat)
      case atStart => exact ⟨0, P, Nat.zero_le _, rfl, rfl, by omega, Lib.hid (by rw [HPA.out]; exact List.append_nil A), HQ, HBr⟩
      case round =>
        clear hPl HPA HQ2 HQ3
        obtain ⟨j, P, hj, rfl, rfl, hP, HP, HQ, HBr⟩ := hrel
        by_cases hlt : j < T.kn
        · obtain ⟨b, off, hia, _, hbl, hla⟩ := HC.out j hlt wr HBr.out
          have d3 : wr.cell? ⟨w.heap.size, 3, none⟩ = some (.slice (some ⟨b, off, none⟩) T.kn T.kc) := by rw [← hia]; exact cell_at HQ.out rfl
          have d0 : wr.cell? ⟨w.heap.size, 0, none⟩ = some (.int .i64 6) := cell_at HQ.out rfl
          have hbs : w.heap.size < wr.heap.size := lt_of_block HQ.out
          have HN := Lib.hid (HI.out j hlt)
          unfold RTreeC at HN
          have HKJ := Lib.hid (show kidsP 6 T.kid (j + 1) = kidsP 6 T.kid j ++ sepK 6 j ++ kidS 6 (T.kid j).op (showX (T.kid j)) from rfl)
          have HLA := Lib.hid hla
          obtain ⟨K, hK⟩ : ∃ K, showX (T.kid j) = K := ⟨_, rfl⟩
          have hKl : K.length ≤ 21707000 := by rw [← hK]; exact HKL.out j hlt
          rw [hK] at HN HKJ
          have HKK := Lib.hid hK
          obtain ⟨q, hq⟩ : ∃ q, (T.kid j).op = q := ⟨_, rfl⟩
          rw [hq] at HN HKJ
          have HQQ := Lib.hid hq
          have hj100 : j ≤ 100 := by omega
          clear hia hla hK hq hbl
          by_cases hj0 : j = 0
          · subst hj0
            by_cases hq6 : q = 6
            · subst hq6
              have hp1 : (⟨#[40]⟩ : ByteArray) = bs [40] := rfl
              have hp2 : (⟨#[41]⟩ : ByteArray) = bs [41] := rfl
              have c0 : wr.cell? ⟨b, off, none⟩ = some (.int .i64 6) := by have h := HLA.out 0 _ rfl; rw [HQQ.out] at h; exact h
              have c1 : wr.cell? ⟨b, off + 1, none⟩ = some (.int .i64 (T.kid 0).rel) := HLA.out 1 _ rfl
              have c2 : wr.cell? ⟨b, off + 2, none⟩ = some (.slice (T.kid 0).aa (T.kid 0).an (T.kid 0).ac) := HLA.out 2 _ rfl
              have c3 : wr.cell? ⟨b, off + 3, none⟩ = some (.slice (T.kid 0).ka (T.kid 0).kn (T.kid 0).kc) := HLA.out 3 _ rfl
              have HBA := Lib.hid (HBr.out.alloc HBr.out.size (.cells #[.int .i64 6, .int .i64 (T.kid 0).rel, .slice (T.kid 0).aa (T.kid 0).an (T.kid 0).ac, .slice (T.kid 0).ka (T.kid 0).kn (T.kid 0).kc] 25))
              have HQA := Lib.hid (rowKeep ((Below.refl wr.heap.size wr).alloc (Nat.le_refl _) (.cells #[.int .i64 6, .int .i64 (T.kid 0).rel, .slice (T.kid 0).aa (T.kid 0).an (T.kid 0).ac, .slice (T.kid 0).ka (T.kid 0).kn (T.kid 0).kc] 25)) HQ.out)
              go_wp2_with (go_at_call 19; refine (HN.out _ HBA.out).mono ?_; rintro e w1 ⟨rfl, hb⟩; have HB1 := Lib.hid (bthN HBA.out hb); have Q1 := Lib.hid (rowKeep hb HQA.out); clear hb)
              go_roundw
              case rel => exact ⟨0 + 1, P ++ 40 :: (K ++ [41]), by omega, by go_num, congrArg Value.string (app4' P K), by simp only [List.length_append, List.length_cons, List.length_nil]; omega, Lib.hid (by rw [HKJ.out, ← HP.out]; simp [sepK, kidS, paren, kAND, kOR, hsz]), Q1, HB1⟩
              case measure => simp [intOf]; omega
            by_cases hq5 : q = 5
            · subst hq5
              have c0 : wr.cell? ⟨b, off, none⟩ = some (.int .i64 5) := by have h := HLA.out 0 _ rfl; rw [HQQ.out] at h; exact h
              have c1 : wr.cell? ⟨b, off + 1, none⟩ = some (.int .i64 (T.kid 0).rel) := HLA.out 1 _ rfl
              have c2 : wr.cell? ⟨b, off + 2, none⟩ = some (.slice (T.kid 0).aa (T.kid 0).an (T.kid 0).ac) := HLA.out 2 _ rfl
              have c3 : wr.cell? ⟨b, off + 3, none⟩ = some (.slice (T.kid 0).ka (T.kid 0).kn (T.kid 0).kc) := HLA.out 3 _ rfl
              have HBA := Lib.hid (HBr.out.alloc HBr.out.size (.cells #[.int .i64 5, .int .i64 (T.kid 0).rel, .slice (T.kid 0).aa (T.kid 0).an (T.kid 0).ac, .slice (T.kid 0).ka (T.kid 0).kn (T.kid 0).kc] 25))
              have HQA := Lib.hid (rowKeep ((Below.refl wr.heap.size wr).alloc (Nat.le_refl _) (.cells #[.int .i64 5, .int .i64 (T.kid 0).rel, .slice (T.kid 0).aa (T.kid 0).an (T.kid 0).ac, .slice (T.kid 0).ka (T.kid 0).kn (T.kid 0).kc] 25)) HQ.out)
              go_wp2_with (go_at_call 19; refine (HN.out _ HBA.out).mono ?_; rintro e w1 ⟨rfl, hb⟩; have HB1 := Lib.hid (bthN HBA.out hb); have Q1 := Lib.hid (rowKeep hb HQA.out); clear hb)
              go_roundw
              case rel => exact ⟨0 + 1, P ++ K, by omega, by go_num, congrArg Value.string (app2 P K), by simp only [List.length_append, List.length_cons, List.length_nil]; omega, Lib.hid (by rw [HKJ.out, ← HP.out]; simp [sepK, kidS, paren, kAND, kOR, hsz]), Q1, HB1⟩
              case measure => simp [intOf]; omega
            have hqn : (q == 6) = false := beq_eq_false_iff_ne.2 hq6
            have c0 : wr.cell? ⟨b, off, none⟩ = some (.int .i64 q) := by have h := HLA.out 0 _ rfl; rw [HQQ.out] at h; exact h
            have c1 : wr.cell? ⟨b, off + 1, none⟩ = some (.int .i64 (T.kid 0).rel) := HLA.out 1 _ rfl
            have c2 : wr.cell? ⟨b, off + 2, none⟩ = some (.slice (T.kid 0).aa (T.kid 0).an (T.kid 0).ac) := HLA.out 2 _ rfl
            have c3 : wr.cell? ⟨b, off + 3, none⟩ = some (.slice (T.kid 0).ka (T.kid 0).kn (T.kid 0).kc) := HLA.out 3 _ rfl
            have HBA := Lib.hid (HBr.out.alloc HBr.out.size (.cells #[.int .i64 q, .int .i64 (T.kid 0).rel, .slice (T.kid 0).aa (T.kid 0).an (T.kid 0).ac, .slice (T.kid 0).ka (T.kid 0).kn (T.kid 0).kc] 25))
            have HQA := Lib.hid (rowKeep ((Below.refl wr.heap.size wr).alloc (Nat.le_refl _) (.cells #[.int .i64 q, .int .i64 (T.kid 0).rel, .slice (T.kid 0).aa (T.kid 0).an (T.kid 0).ac, .slice (T.kid 0).ka (T.kid 0).kn (T.kid 0).kc] 25)) HQ.out)
            go_wp2_with (go_at_call 19; refine (HN.out _ HBA.out).mono ?_; rintro e w1 ⟨rfl, hb⟩; have HB1 := Lib.hid (bthN HBA.out hb); have Q1 := Lib.hid (rowKeep hb HQA.out); clear hb)
            go_roundw
            case rel => exact ⟨0 + 1, P ++ K, by omega, by go_num, congrArg Value.string (app2 P K), by simp only [List.length_append, List.length_cons, List.length_nil]; omega, Lib.hid (by rw [HKJ.out, ← HP.out]; simp [sepK, kidS, paren, kAND, kOR, hsz, hqn]), Q1, HB1⟩
            case measure => simp [intOf]; omega
          have hjp : 0 < j := by omega
          have hjz : (0 : Int) < (j : Int) := by omega
          by_cases hq6 : q = 6
          · subst hq6
            have hc : (⟨#[32, 79, 82, 32]⟩ : ByteArray) = bs [32, 79, 82, 32] := rfl
            have hp1 : (⟨#[40]⟩ : ByteArray) = bs [40] := rfl
            have hp2 : (⟨#[41]⟩ : ByteArray) = bs [41] := rfl
            have c0 : wr.cell? ⟨b, off + j * 4, none⟩ = some (.int .i64 6) := by have h := HLA.out 0 _ rfl; rw [HQQ.out] at h; exact h
            have c1 : wr.cell? ⟨b, off + j * 4 + 1, none⟩ = some (.int .i64 (T.kid j).rel) := HLA.out 1 _ rfl
            have c2 : wr.cell? ⟨b, off + j * 4 + 2, none⟩ = some (.slice (T.kid j).aa (T.kid j).an (T.kid j).ac) := HLA.out 2 _ rfl
            have c3 : wr.cell? ⟨b, off + j * 4 + 3, none⟩ = some (.slice (T.kid j).ka (T.kid j).kn (T.kid j).kc) := HLA.out 3 _ rfl
            have HBA := Lib.hid (HBr.out.alloc HBr.out.size (.cells #[.int .i64 6, .int .i64 (T.kid j).rel, .slice (T.kid j).aa (T.kid j).an (T.kid j).ac, .slice (T.kid j).ka (T.kid j).kn (T.kid j).kc] 25))
            have HQA := Lib.hid (rowKeep ((Below.refl wr.heap.size wr).alloc (Nat.le_refl _) (.cells #[.int .i64 6, .int .i64 (T.kid j).rel, .slice (T.kid j).aa (T.kid j).an (T.kid j).ac, .slice (T.kid j).ka (T.kid j).kn (T.kid j).kc] 25)) HQ.out)
            go_wp2_with (go_at_call 19; refine (HN.out _ HBA.out).mono ?_; rintro e w1 ⟨rfl, hb⟩; have HB1 := Lib.hid (bthN HBA.out hb); have Q1 := Lib.hid (rowKeep hb HQA.out); clear hb)
            go_roundw
            case rel => exact ⟨j + 1, P ++ [32, 79, 82, 32] ++ 40 :: (K ++ [41]), by omega, by go_num, congrArg Value.string (app4 P [32, 79, 82, 32] K), by simp only [List.length_append, List.length_cons, List.length_nil]; omega, Lib.hid (by rw [HKJ.out, ← HP.out]; simp [sepK, kidS, paren, kAND, kOR, hj0]), Q1, HB1⟩
            case measure => simp [intOf]; omega
          by_cases hq5 : q = 5
          · subst hq5
            have hc : (⟨#[32, 79, 82, 32]⟩ : ByteArray) = bs [32, 79, 82, 32] := rfl
            have c0 : wr.cell? ⟨b, off + j * 4, none⟩ = some (.int .i64 5) := by have h := HLA.out 0 _ rfl; rw [HQQ.out] at h; exact h
            have c1 : wr.cell? ⟨b, off + j * 4 + 1, none⟩ = some (.int .i64 (T.kid j).rel) := HLA.out 1 _ rfl
            have c2 : wr.cell? ⟨b, off + j * 4 + 2, none⟩ = some (.slice (T.kid j).aa (T.kid j).an (T.kid j).ac) := HLA.out 2 _ rfl
            have c3 : wr.cell? ⟨b, off + j * 4 + 3, none⟩ = some (.slice (T.kid j).ka (T.kid j).kn (T.kid j).kc) := HLA.out 3 _ rfl
            have HBA := Lib.hid (HBr.out.alloc HBr.out.size (.cells #[.int .i64 5, .int .i64 (T.kid j).rel, .slice (T.kid j).aa (T.kid j).an (T.kid j).ac, .slice (T.kid j).ka (T.kid j).kn (T.kid j).kc] 25))
            have HQA := Lib.hid (rowKeep ((Below.refl wr.heap.size wr).alloc (Nat.le_refl _) (.cells #[.int .i64 5, .int .i64 (T.kid j).rel, .slice (T.kid j).aa (T.kid j).an (T.kid j).ac, .slice (T.kid j).ka (T.kid j).kn (T.kid j).kc] 25)) HQ.out)
            go_wp2_with (go_at_call 19; refine (HN.out _ HBA.out).mono ?_; rintro e w1 ⟨rfl, hb⟩; have HB1 := Lib.hid (bthN HBA.out hb); have Q1 := Lib.hid (rowKeep hb HQA.out); clear hb)
            go_roundw
            case rel => exact ⟨j + 1, P ++ [32, 79, 82, 32] ++ K, by omega, by go_num, congrArg Value.string (app3 P [32, 79, 82, 32] K), by simp only [List.length_append, List.length_cons, List.length_nil]; omega, Lib.hid (by rw [HKJ.out, ← HP.out]; simp [sepK, kidS, paren, kAND, kOR, hj0]), Q1, HB1⟩
            case measure => simp [intOf]; omega
          have hqn : (q == 6) = false := beq_eq_false_iff_ne.2 hq6
          have hc : (⟨#[32, 79, 82, 32]⟩ : ByteArray) = bs [32, 79, 82, 32] := rfl
          have c0 : wr.cell? ⟨b, off + j * 4, none⟩ = some (.int .i64 q) := by have h := HLA.out 0 _ rfl; rw [HQQ.out] at h; exact h
          have c1 : wr.cell? ⟨b, off + j * 4 + 1, none⟩ = some (.int .i64 (T.kid j).rel) := HLA.out 1 _ rfl
          have c2 : wr.cell? ⟨b, off + j * 4 + 2, none⟩ = some (.slice (T.kid j).aa (T.kid j).an (T.kid j).ac) := HLA.out 2 _ rfl
          have c3 : wr.cell? ⟨b, off + j * 4 + 3, none⟩ = some (.slice (T.kid j).ka (T.kid j).kn (T.kid j).kc) := HLA.out 3 _ rfl
          have HBA := Lib.hid (HBr.out.alloc HBr.out.size (.cells #[.int .i64 q, .int .i64 (T.kid j).rel, .slice (T.kid j).aa (T.kid j).an (T.kid j).ac, .slice (T.kid j).ka (T.kid j).kn (T.kid j).kc] 25))
          have HQA := Lib.hid (rowKeep ((Below.refl wr.heap.size wr).alloc (Nat.le_refl _) (.cells #[.int .i64 q, .int .i64 (T.kid j).rel, .slice (T.kid j).aa (T.kid j).an (T.kid j).ac, .slice (T.kid j).ka (T.kid j).kn (T.kid j).kc] 25)) HQ.out)
          go_wp2_with (go_at_call 19; refine (HN.out _ HBA.out).mono ?_; rintro e w1 ⟨rfl, hb⟩; have HB1 := Lib.hid (bthN HBA.out hb); have Q1 := Lib.hid (rowKeep hb HQA.out); clear hb)
          go_roundw
          case rel => exact ⟨j + 1, P ++ [32, 79, 82, 32] ++ K, by omega, by go_num, congrArg Value.string (app3 P [32, 79, 82, 32] K), by simp only [List.length_append, List.length_cons, List.length_nil]; omega, Lib.hid (by rw [HKJ.out, ← HP.out]; simp [sepK, kidS, paren, kAND, kOR, hj0, hqn]), Q1, HB1⟩
          case measure => simp [intOf]; omega
        · obtain rfl : j = T.kn := by omega
          have d3 : wr.cell? ⟨w.heap.size, 3, none⟩ = some (.slice T.ka T.kn T.kc) := cell_at HQ.out rfl
          have HPL := Lib.hid (show P = L by rw [← HL.out, ← HP.out])
          clear hlt
          go_wp2_with (fail)
          go_ret
          exact ⟨ret_st HPL.out, HBr.out⟩
theorem rtree_any (S : Nat → Prop) : ∀ (T : XT) (d : Nat) (w : World), XAt w S T → XTx T → mayB T = true → greatX T d = false → RTreeC T.op T.rel T.aa T.an T.ac T.ka T.kn T.kc w (showX T) := by
  refine XT.ind fun T ih d w H HX hm hg => ?_
  obtain ⟨⟨g1, g2⟩, g3, g4, g5, g6⟩ := great_size T d hg
  have hm2 : (formB T.op T.rel T.an T.kn && ((List.range T.an).all fun i => mayOB (T.arg i)) && ((List.range T.kn).all fun i => mayB (T.kid i))) = true := by
    cases T with
    | nil => exact hm
    | node => exact hm
  rw [Bool.and_eq_true, Bool.and_eq_true, List.all_eq_true, List.all_eq_true] at hm2
  obtain ⟨⟨hf, hmo⟩, hmk⟩ := hm2
  have hx2 := (xtx_iff T).1 HX
  have HI := Lib.hid (fun i (hi : i < T.kn) wx (hb : Below w.heap.size w wx) => ih i hi (d + 1) wx (kid_at H hb hi).2 (hx2.2 i hi) (hmk i (List.mem_range.2 hi)) (g5 i hi))
  have hkl : ∀ i, i < T.kn → (showX (T.kid i)).length ≤ 21707000 := fun i hi => by
    have h1 := show_len (T.kid i) (d + 1) (g5 i hi) (hx2.2 i hi) (hmk i (List.mem_range.2 hi))
    have h2 := (great_size (T.kid i) (d + 1) (g5 i hi)).1.2
    omega
  have hmo2 : ∀ i, i < T.an → mayOB (T.arg i) = true := fun i hi => hmo i (List.mem_range.2 hi)
  rw [show_split T hf]
  unfold formB at hf
  simp only [Bool.or_eq_true, Bool.and_eq_true, beq_iff_eq, decide_eq_true_eq] at hf
  rcases hf with (((⟨⟨⟨⟨ho, h1⟩, h2⟩, ha⟩, hk⟩ | ⟨⟨⟨ho, hr⟩, ha⟩, hk⟩) | ⟨⟨⟨ho, hr⟩, ha⟩, hk⟩) | ⟨⟨⟨ho, hr⟩, ha⟩, hk⟩) | ⟨⟨⟨ho | ho, hr⟩, ha⟩, hk⟩
  · rw [ho]; exact tree_1 S T T.rel w H HX g3 hmo2 g4 HI hkl h1 h2 ha hk
  · rw [ho, hr]; exact tree_2 S T w H HX g3 hmo2 g4 HI hkl ha hk
  · rw [ho, hr]; exact tree_3 S T w H HX g3 hmo2 g4 HI hkl ha hk
  · rw [ho, hr]; exact tree_4 S T w H HX g3 hmo2 g4 HI hkl ha hk
  · rw [ho, hr]; exact tree_5 S T w H HX g3 hmo2 g4 HI hkl ha
  · rw [ho, hr]; exact tree_6 S T w H HX g3 hmo2 g4 HI hkl ha
end Go.Proofs.YtjgdkiikkgdbaaaGreatDoor
