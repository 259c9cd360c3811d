/- The printer writes an operand. -/
import Derived.Test.YtjgdkiikkgdbaaaGreatDoorQ19
namespace Go.Proofs.YtjgdkiikkgdbaaaGreatDoor
open Go.RowKit
set_option linter.unusedVariables false
set_option linter.unusedSimpArgs false
/-- the Builder holds this text; what else has turned since -/
structure Cur (B b : Nat) (l : List UInt8) (w wx : World) : Prop where
  txt : TxtAt 48 B b l wx
  bel : Below B w wx
  kept : Kept b w wx
  base : B ≤ w.heap.size
theorem Cur.start {B b : Nat} {l : List UInt8} {w : World} (h : TxtAt 48 B b l w) (hB : B ≤ w.heap.size) : Cur B b l w w := ⟨h, Below.refl _ _, Lib.OthersKept.refl _ _ _, hB⟩
theorem Cur.drew {B b : Nat} {l : List UInt8} {w wx : World} (h : Cur B b l w wx) : Cur B b l w wx.drew := ⟨h.txt.drew, h.bel.drew, h.kept.drew, h.base⟩
theorem Cur.size {B b : Nat} {l : List UInt8} {w wx : World} (h : Cur B b l w wx) : B ≤ wx.heap.size := Nat.le_trans h.base h.bel.size
theorem kept_next {b : Nat} {a w w' : World} (h : Kept b a w) (hb : Below w.heap.size w w') : Kept b a w' :=
  fun k o hk hne ho => rowKeep hb (h k o hk hne ho)
theorem Cur.next {B b : Nat} {l : List UInt8} {w wx wy : World} (h : Cur B b l w wx) (hb : Below wx.heap.size wx wy) : Cur B b l w wy := ⟨h.txt.next hb, h.bel.trans (hb.mono h.size), kept_next h.kept hb, h.base⟩
theorem Cur.trans {B b : Nat} {l l' : List UInt8} {v w wx : World} (h : Cur B b l v w) (k : Cur B b l' w wx) : Cur B b l' v wx := ⟨k.txt, h.bel.trans k.bel, h.kept.trans k.kept, h.base⟩
theorem Cur.box {B b k : Nat} {l : List UInt8} {w wx : World} {cs : Array Value} {t : TypeId} {fz : Nat × Nat} (h : Cur B b l w wx) (hk : w.heap[k]? = some (.cells cs t fz)) (hne : k ≠ b) (ht : t ≠ 5) : wx.heap[k]? = some (.cells cs t fz) := h.kept.box hk hne ht
theorem wrC {B b : Nat} {l : List UInt8} {s : ByteArray} {w wx : World} (h : Cur B b l w wx) (hlen : l.length + s.size ≤ 140737488355328) :
    Calls Tryz.prog 33 #[.pointer (some ⟨b, 0, none⟩), .string s] wx fun e w' => e = .returned (.tuple #[.int .i64 s.size, .nilIface]) ∧ Cur B b (l ++ s.data.toList) w w' :=
  (writeString8 _ liesPrinter B b l s wx h.txt hlen h.size).mono fun e w' ⟨h1, h2, h3, h4⟩ => ⟨h1, h2, h.bel.trans h3, h.kept.trans h4, h.base⟩
theorem wbC {B b : Nat} {l : List UInt8} {c : UInt8} {w wx : World} (h : Cur B b l w wx) (hlen : l.length + 1 ≤ 140737488355328) :
    Calls Tryz.prog 40 #[.pointer (some ⟨b, 0, none⟩), .int .u8 c.toNat] wx fun e w' => e = .returned .nilIface ∧ Cur B b (l ++ [c]) w w' :=
  (writeByte8 _ liesPrinter B b l c wx h.txt hlen h.size).mono fun e w' ⟨h1, h2, h3, h4⟩ => ⟨h1, h2, h.bel.trans h3, h.kept.trans h4, h.base⟩
/-- the library's variables, in every later world -/
def EnvAt (B : Nat) (w : World) : Prop := ∀ wx, Below B w wx → LibAt wx ∧ Tab wx
theorem EnvAt.next {B : Nat} {w w' : World} (h : EnvAt B w) (hb : Below B w w') : EnvAt B w' := fun wx hx => h wx (hb.trans hx)
def POpdTo (k : Int) (s : ByteArray) (ng : Bool) (n : Int) (B b : Nat) (l : List UInt8) (w : World) (t : List UInt8) : Prop := Calls Tryz.prog 22 #[.pointer (some ⟨b, 0, none⟩), .agg #[.int .i64 k, .string s, .bool ng, .int .u64 n]] w fun e w' => e = .returned (.tuple #[]) ∧ Cur B b (l ++ t) w w'
set_option maxRecDepth 100000 in
set_option maxHeartbeats 2000000 in
theorem pOpd_1 (s : ByteArray) (ng : Bool) (n : Int) (B b : Nat) (l : List UInt8) (w : World) (h : TxtAt 48 B b l w) (hlen : l.length + s.size ≤ 140737488355328) (hBw : B ≤ w.heap.size) : POpdTo 1 s ng n B b l w s.data.toList := by
  unfold POpdTo
  have HC0 := Lib.hid ((Cur.start h hBw).next bel1 (wy := w.alloc (.cells #[.int .i64 1, .string s, .bool ng, .int .u64 n] 34)))
  have HW := Lib.hid (fun wx (hx : Cur B b l w wx) => wrC hx hlen)
  clear h hlen
  go_enter Tryz.func22, Tryz.ntmps22
  go_wp2_with (fail)
  go_region_with (go_at_call 33; refine (HW.out _ (by first | exact HC0.out | exact HC0.out.drew)).mono ?_; rintro e w2 ⟨rfl, h2⟩; have H2 := Lib.hid h2; clear h2)
  all_goals go_wp2_with (fail)
  all_goals go_end0
  all_goals exact ⟨rfl, H2.out⟩
set_option maxRecDepth 100000 in
set_option maxHeartbeats 2000000 in
theorem pOpd_3 (s : ByteArray) (ng : Bool) (n : Int) (B b : Nat) (l : List UInt8) (w : World) (h : TxtAt 48 B b l w) (hE : EnvAt B w) (hs : s.size ≤ 1000000) (hlen : l.length ≤ 1000000000) (hBw : B ≤ w.heap.size) : POpdTo 3 s ng n B b l w (quoteL s.data.toList) := by
  unfold POpdTo
  have HC0 := Lib.hid ((Cur.start h hBw).next bel1 (wy := w.alloc (.cells #[.int .i64 3, .string s, .bool ng, .int .u64 n] 34)))
  have hql : (quoteL s.data.toList).length ≤ 2000002 := by have := quoteL_le s; omega
  have HQ := Lib.hid (fun wx (hx : Cur B b l w wx) => quote_any s (by omega) wx (hE wx hx.bel).1)
  obtain ⟨q, hq⟩ : ∃ q, quoteL s.data.toList = q := ⟨_, rfl⟩
  rw [hq] at HQ hql ⊢
  have HW := Lib.hid (fun wx (hx : Cur B b l w wx) => wrC (s := bs q) hx (by rw [bs_size]; omega))
  rw [bs_toList] at HW
  clear h hlen hE hq
  go_enter Tryz.func22, Tryz.ntmps22
  go_wp2_with (fail)
  go_region_with (first
    | (go_at_call 42; refine (HQ.out _ (by first | exact HC0.out | exact HC0.out.drew)).mono ?_; rintro e w1 ⟨rfl, h1⟩; have H1 := Lib.hid (show Cur B b l w w1 from by first | exact HC0.out.next h1 | exact HC0.out.drew.next h1); clear h1)
    | (go_at_call 33; refine (HW.out _ (by first | exact H1.out | exact H1.out.drew)).mono ?_; rintro e w2 ⟨rfl, h2⟩; have H2 := Lib.hid h2; clear h2))
  all_goals go_wp2_with (fail)
  all_goals go_end0
  all_goals exact ⟨rfl, H2.out⟩
set_option maxRecDepth 100000 in
set_option maxHeartbeats 2000000 in
theorem pOpd_2 (s : ByteArray) (ng : Bool) (n : Int) (h0 : 0 ≤ n) (h1 : n < 18446744073709551616) (B b : Nat) (l : List UInt8) (w : World) (h : TxtAt 48 B b l w) (hE : EnvAt B w) (hlen : l.length ≤ 1000000000) (hBw : B ≤ w.heap.size) : POpdTo 2 s ng n B b l w (if ng = true then 45 :: Lib.decDigits n.toNat else Lib.decDigits n.toNat) := by
  unfold POpdTo
  have hd := shdec_len n.toNat (by omega)
  have hne := h.lt
  have HC0 := Lib.hid ((Cur.start h hBw).next bel1 (wy := w.alloc (.cells #[.int .i64 2, .string s, .bool ng, .int .u64 n] 34)))
  have HX0 := Lib.hid (Cur.start (HC0.out.txt) HC0.out.size)
  have HBX := Lib.hid (alloc_at w (.cells #[.int .i64 2, .string s, .bool ng, .int .u64 n] 34))
  have HF := Lib.hid (fun wx (hx : Below B w wx) => fmt16 n h0 h1 wx (hE wx hx).2)
  obtain ⟨d, hdd⟩ : ∃ d, Lib.decDigits n.toNat = d := ⟨_, rfl⟩
  rw [hdd] at HF hd ⊢
  have HW := Lib.hid (fun l1 v wx (hx : Cur B b l1 v wx) (hl : l1.length ≤ 1000000001) => wrC (s := bs d) hx (by rw [bs_size]; omega))
  rw [bs_toList] at HW
  have HWB := Lib.hid (fun v wx (hx : Cur B b l v wx) => wbC (c := 45) hx (by omega))
  have hll : (l ++ [45]).length ≤ 1000000001 := by rw [List.length_append]; simp; omega
  clear h hE hdd
  cases ng with
  | false =>
    rw [if_neg (by decide)]
    go_enter Tryz.func22, Tryz.ntmps22
    go_wp2_with (fail)
    go_region_with (first
      | (go_at_call 41; refine (HF.out _ (by first | exact HC0.out.bel | exact HC0.out.drew.bel)).mono ?_; rintro e w1 ⟨rfl, h1⟩; have H1 := Lib.hid (show Cur B b l w w1 from by first | exact HC0.out.next h1 | exact HC0.out.drew.next h1); clear h1)
      | (go_at_call 33; refine (HW.out l w _ (by first | exact H1.out | exact H1.out.drew) (by omega)).mono ?_; rintro e w2 ⟨rfl, h2⟩; have H2 := Lib.hid h2; clear h2))
    all_goals go_wp2_with (fail)
    all_goals go_end0
    all_goals exact ⟨rfl, H2.out⟩
  | true =>
    rw [if_pos rfl]
    go_enter Tryz.func22, Tryz.ntmps22
    go_wp2_with (go_at_call 40; refine (HWB.out _ _ HX0.out).mono ?_; rintro e w1 ⟨rfl, h1⟩; have H1 := Lib.hid h1; have d3 : w1.cell? ⟨w.heap.size, 3, none⟩ = some (.int .u64 n) := cell_at (j := 3) (h1.box HBX.out (by omega) (by decide)) rfl; clear h1)
    go_region_with (first
      | (go_at_call 41; refine (HF.out _ (by first | exact HC0.out.bel.trans H1.out.bel | exact HC0.out.bel.trans H1.out.drew.bel)).mono ?_; rintro e w3 ⟨rfl, h1⟩; have H3 := Lib.hid (show Cur B b (l ++ [45]) _ w3 from by first | exact H1.out.next h1 | exact H1.out.drew.next h1); clear h1)
      | (go_at_call 33; refine (HW.out (l ++ [45]) _ _ (by first | exact H3.out | exact H3.out.drew) hll).mono ?_; rintro e w2 ⟨rfl, h2⟩; have H2 := Lib.hid h2; clear h2))
    all_goals go_wp2_with (fail)
    all_goals go_end0
    all_goals exact ⟨rfl, by have := HC0.out.trans H2.out; rwa [List.append_assoc] at this⟩
set_option maxRecDepth 100000 in
set_option maxHeartbeats 2000000 in
theorem pOpd_5 (s : ByteArray) (ng : Bool) (n : Int) (h0 : 0 ≤ n) (h1 : n < 18446744073709551616) (B b : Nat) (l : List UInt8) (w : World) (h : TxtAt 48 B b l w) (hE : EnvAt B w) (hlen : l.length ≤ 1000000000) (hBw : B ≤ w.heap.size) : POpdTo 5 s ng n B b l w (37 :: Lib.decDigits n.toNat) := by
  unfold POpdTo
  have hd := shdec_len n.toNat (by omega)
  have hne := h.lt
  have HC0 := Lib.hid ((Cur.start h hBw).next bel1 (wy := w.alloc (.cells #[.int .i64 5, .string s, .bool ng, .int .u64 n] 34)))
  have HX0 := Lib.hid (Cur.start (HC0.out.txt) HC0.out.size)
  have HBX := Lib.hid (alloc_at w (.cells #[.int .i64 5, .string s, .bool ng, .int .u64 n] 34))
  have HF := Lib.hid (fun wx (hx : Below B w wx) => fmt16 n h0 h1 wx (hE wx hx).2)
  obtain ⟨d, hdd⟩ : ∃ d, Lib.decDigits n.toNat = d := ⟨_, rfl⟩
  rw [hdd] at HF hd ⊢
  have HW := Lib.hid (fun l1 v wx (hx : Cur B b l1 v wx) (hl : l1.length ≤ 1000000001) => wrC (s := bs d) hx (by rw [bs_size]; omega))
  rw [bs_toList] at HW
  have HWB := Lib.hid (fun v wx (hx : Cur B b l v wx) => wbC (c := 37) hx (by omega))
  have hll : (l ++ [37]).length ≤ 1000000001 := by rw [List.length_append]; simp; omega
  clear h hE hdd
  go_enter Tryz.func22, Tryz.ntmps22
  go_wp2_with (go_at_call 40; refine (HWB.out _ _ HX0.out).mono ?_; rintro e w1 ⟨rfl, h1⟩; have H1 := Lib.hid h1; have d3 : w1.cell? ⟨w.heap.size, 3, none⟩ = some (.int .u64 n) := cell_at (j := 3) (h1.box HBX.out (by omega) (by decide)) rfl; clear h1)
  go_region_with (first
    | (go_at_call 41; refine (HF.out _ (by first | exact HC0.out.bel.trans H1.out.bel | exact HC0.out.bel.trans H1.out.drew.bel)).mono ?_; rintro e w3 ⟨rfl, h1⟩; have H3 := Lib.hid (show Cur B b (l ++ [37]) _ w3 from by first | exact H1.out.next h1 | exact H1.out.drew.next h1); clear h1)
    | (go_at_call 33; refine (HW.out (l ++ [37]) _ _ (by first | exact H3.out | exact H3.out.drew) hll).mono ?_; rintro e w2 ⟨rfl, h2⟩; have H2 := Lib.hid h2; clear h2))
  all_goals go_wp2_with (fail)
  all_goals go_end0
  all_goals exact ⟨rfl, by have := HC0.out.trans H2.out; rwa [List.append_assoc] at this⟩
end Go.Proofs.YtjgdkiikkgdbaaaGreatDoor
/- The printer's trees: may a tree be told? -/
namespace Go.Proofs.YtjgdkiikkgdbaaaGreatDoor
open Go.RowKit
set_option linter.unusedVariables false
set_option linter.unusedSimpArgs false
theorem mayC_eq (T : XT) : mayB T = (formB T.op T.rel T.an T.kn && ((List.range T.an).all fun i => mayOB (T.arg i)) && ((List.range T.kn).all fun i => mayB (T.kid i))) := by
  cases T with
  | nil => rfl
  | node => rfl
theorem mayC_noA {T : XT} {j : Nat} (hj : j < T.an) (h : mayOB (T.arg j) = false) : mayB T = false := by
  rw [mayC_eq, Bool.eq_false_iff]
  intro e
  rw [Bool.and_eq_true, Bool.and_eq_true, List.all_eq_true] at e
  have := e.1.2 j (List.mem_range.2 hj)
  rw [h] at this; exact absurd this (by decide)
theorem mayC_noK {T : XT} {j : Nat} (hj : j < T.kn) (h : mayB (T.kid j) = false) : mayB T = false := by
  rw [mayC_eq, Bool.eq_false_iff]
  intro e
  rw [Bool.and_eq_true, List.all_eq_true] at e
  have := e.2 j (List.mem_range.2 hj)
  rw [h] at this; exact absurd this (by decide)
theorem mayC_yes {T : XT} (hf : formB T.op T.rel T.an T.kn = true) (h1 : ∀ i, i < T.an → mayOB (T.arg i) = true) (h2 : ∀ i, i < T.kn → mayB (T.kid i) = true) : mayB T = true := by
  rw [mayC_eq, hf, Bool.and_eq_true, Bool.and_eq_true, List.all_eq_true, List.all_eq_true]
  exact ⟨⟨rfl, fun i hi => h1 i (List.mem_range.1 hi)⟩, fun i hi => h2 i (List.mem_range.1 hi)⟩
theorem mayC_no {T : XT} (hf : formB T.op T.rel T.an T.kn = false) : mayB T = false := by rw [mayC_eq, hf]; rfl
theorem mayC_of {T : XT} (h : mayB T = true) : formB T.op T.rel T.an T.kn = true ∧ (∀ i, i < T.an → mayOB (T.arg i) = true) ∧ ∀ i, i < T.kn → mayB (T.kid i) = true := by
  rw [mayC_eq, Bool.and_eq_true, Bool.and_eq_true, List.all_eq_true, List.all_eq_true] at h
  exact ⟨h.1.1, fun i hi => h.1.2 i (List.mem_range.2 hi), fun i hi => h.2 i (List.mem_range.2 hi)⟩
theorem upToC {f : Nat → Bool} {j : Nat} (h : ∀ i, i < j → f i = true) (k : f j = true) : ∀ i, i < j + 1 → f i = true := fun i hi => by
  rcases Nat.lt_succ_iff_lt_or_eq.1 hi with h1 | rfl
  · exact h i h1
  · exact k
/-- its texts are small -/
def SmC : XT → Prop
  | .nil => True
  | .node _ _ _ n _ g _ m _ f => (∀ i, i < n → (g i).text.size ≤ 1000000) ∧ ∀ i, i < m → SmC (f i)
theorem smc_iff (T : XT) : SmC T ↔ (∀ i, i < T.an → (T.arg i).text.size ≤ 1000000) ∧ ∀ i, i < T.kn → SmC (T.kid i) := by
  cases T with
  | nil => exact ⟨fun _ => ⟨fun i hi => absurd hi (Nat.not_lt_zero i), fun i hi => absurd hi (Nat.not_lt_zero i)⟩, fun _ => trivial⟩
  | node => exact Iff.rfl
def IsTTo (o r : Int) (aa : Option Addr) (an ac : Nat) (ka : Option Addr) (kn kc : Nat) (w : World) (b : Bool) : Prop := Calls Tryz.prog 15 #[.agg #[.int .i64 o, .int .i64 r, .slice aa an ac, .slice ka kn kc]] w fun e w' => e = .returned (.bool b) ∧ Below w.heap.size w w'
theorem ret_bC {a b : Bool} (h : a = b) : Ending.returned (.bool a) = .returned (.bool b) := by rw [h]
theorem isT_no (o r : Int) (aa : Option Addr) (an ac : Nat) (ka : Option Addr) (kn kc : Nat) (w : World) (h : formB o r an kn = false) : IsTTo o r aa an ac ka kn kc w false := by
  have HF := Lib.hid (fun wx => form_any o r aa an ac ka kn kc wx)
  rw [h] at HF
  unfold FormTo at HF
  clear h
  unfold IsTTo
  go_enter Tryz.func15, Tryz.ntmps15
  go_wp2_with (go_at_call 30; refine (HF.out _).mono ?_; rintro e w1 ⟨rfl, hb⟩; have HB1 := Lib.hid (bthN bel1 hb); clear hb)
  go_ret
  exact ⟨rfl, HB1.out⟩
set_option maxRecDepth 100000 in
set_option maxHeartbeats 4000000 in
theorem isT_yes (S : Nat → Prop) (T : XT) (w : World) (H : XAt w S T) (HX : XTx T) (hsm : ∀ i, i < T.an → (T.arg i).text.size ≤ 1000000) (hV : LibAt w)
    (HI : Hid (∀ i, i < T.kn → ∀ wx, Below w.heap.size w wx → IsTTo (T.kid i).op (T.kid i).rel (T.kid i).aa (T.kid i).an (T.kid i).ac (T.kid i).ka (T.kid i).kn (T.kid i).kc wx (mayB (T.kid i))))
    (h : formB T.op T.rel T.an T.kn = true) : IsTTo T.op T.rel T.aa T.an T.ac T.ka T.kn T.kc w (mayB T) := by
  have hk := xt_kn H
  have ha := xt_an H
  have HC := Lib.hid (fun i (hi : i < T.kn) wx (hb : Below w.heap.size w wx) => (kid_at H hb hi).1)
  have HAC := Lib.hid (fun i (hi : i < T.an) wx (hb : Below w.heap.size w wx) => (((xat_iff T).1 H).2.1 i hi).next hb)
  have HM := Lib.hid (fun i (hi : i < T.an) wx (hb : Below w.heap.size w wx) => isO_any (T.arg i) (((xtx_iff T).1 HX).1 i hi) (Nat.le_trans (hsm i hi) (by decide)) wx (hV.held hb))
  have HNA := Lib.hid (fun j (hj : j < T.an) h => mayC_noA hj h)
  have HNK := Lib.hid (fun j (hj : j < T.kn) h => mayC_noK hj h)
  have HYES := Lib.hid (fun h1 h2 => mayC_yes (T := T) h h1 h2)
  have HF := Lib.hid (fun wx => form_any T.op T.rel T.aa T.an T.ac T.ka T.kn T.kc wx)
  rw [h] at HF
  unfold FormTo at HF
  obtain ⟨R, hR⟩ : ∃ R, mayB T = R := ⟨_, rfl⟩
  rw [hR] at HNA HNK HYES ⊢
  clear H HX hsm hR h hV
  unfold IsTTo
  generalize T.aa = aa at *
  generalize T.ka = ka at *
  generalize T.op = o at *
  generalize T.rel = r at *
  generalize T.ac = ac at *
  generalize T.kc = kc at *
  go_enter Tryz.func15, Tryz.ntmps15
  go_wp2_with (go_at_call 30; refine (HF.out _).mono ?_; rintro e w1 ⟨rfl, hb⟩; have HB1 := Lib.hid (bthN bel1 hb); have HQ1 := Lib.hid (rowKeep hb (alloc_at w _)); have d2 : w1.cell? ⟨w.heap.size, 2, none⟩ = some (.slice aa T.an ac) := cell_at HQ1.out rfl; clear hb)
  go_loopw [4, 13] (fun _ i wr => ∃ (j : Nat), j ≤ T.an ∧ i = .int .i64 j ∧ Hid (∀ i, i < j → mayOB (T.arg i) = true) ∧ Hid (wr.heap[w.heap.size]? = some (.cells #[.int .i64 o, .int .i64 r, .slice aa T.an ac, .slice ka T.kn kc] 25)) ∧ Hid (Below w.heap.size w wr)) (fun _ i _ => T.an - (intOf i).toNat)
  case atStart => exact ⟨0, Nat.zero_le _, rfl, Lib.hid (fun i hi => absurd hi (Nat.not_lt_zero i)), HQ1, HB1⟩
  case round =>
    clear d2
    obtain ⟨j, hj, rfl, HNO, HQ, HBr⟩ := hrel
    by_cases hlt : j < T.an
    · obtain ⟨b, off, rfl, _, hbl, hla⟩ := HAC.out j hlt wr HBr.out
      have c0 : wr.cell? ⟨b, off + j * 4, none⟩ = some (.int .i64 (T.arg j).kind) := hla 0 _ rfl
      have c1 : wr.cell? ⟨b, off + j * 4 + 1, none⟩ = some (.string (T.arg j).text) := hla 1 _ rfl
      have c2 : wr.cell? ⟨b, off + j * 4 + 2, none⟩ = some (.bool (T.arg j).neg) := hla 2 _ rfl
      have c3 : wr.cell? ⟨b, off + j * 4 + 3, none⟩ = some (.int .u64 (T.arg j).num) := hla 3 _ rfl
      have HN := Lib.hid (HM.out j hlt)
      unfold IsOTo at HN
      obtain ⟨m, hm⟩ : ∃ m, mayOB (T.arg j) = m := ⟨_, rfl⟩
      rw [hm] at HN
      have HMM := Lib.hid hm
      have HJN := Lib.hid (HNA.out j hlt)
      clear hla hm hbl
      cases m with
      | false =>
        have HRF := Lib.hid (HJN.out HMM.out)
        go_wp2_with (go_at_call 21; refine (HN.out _ (bthN HBr.out bel1)).mono ?_; rintro e w2 ⟨rfl, hb⟩; have HB2 := Lib.hid (bthN (bthN HBr.out bel1) hb); clear hb)
        go_ret
        exact ⟨ret_bC HRF.out.symm, HB2.out⟩
      | true =>
        go_wp2_with (go_at_call 21; refine (HN.out _ (bthN HBr.out bel1)).mono ?_; rintro e w2 ⟨rfl, hb⟩; have HB2 := Lib.hid (bthN (bthN HBr.out bel1) hb); have HQ2 := Lib.hid (rowKeep hb (rowKeep bel1 HQ.out)); clear hb)
        go_roundw
        case rel => exact ⟨j + 1, by omega, by go_num, Lib.hid (upToC HNO.out HMM.out), HQ2, HB2⟩
        case measure => simp [intOf]; omega
    · obtain rfl : j = T.an := by omega
      have HAY := Lib.hid (HYES.out HNO.out)
      have d3 : wr.cell? ⟨w.heap.size, 3, none⟩ = some (.slice ka T.kn kc) := cell_at HQ.out rfl
      clear hlt
      go_wp2_with (fail)
      clear d3
      go_loopw [6, 24] (fun _ i wr => ∃ (j : Nat), j ≤ T.kn ∧ i = .int .i64 j ∧ Hid (∀ i, i < j → mayB (T.kid i) = true) ∧ Hid (Below w.heap.size w wr)) (fun _ i _ => T.kn - (intOf i).toNat)
      case atStart => exact ⟨0, Nat.zero_le _, rfl, Lib.hid (fun i hi => absurd hi (Nat.not_lt_zero i)), HBr⟩
      case round =>
        clear HNO
        obtain ⟨j, hj, rfl, HNO, HBr⟩ := hrel
        by_cases hlt : j < T.kn
        · obtain ⟨b, off, rfl, _, hbl, hla⟩ := HC.out j hlt wr HBr.out
          have c0 : wr.cell? ⟨b, off + j * 4, none⟩ = some (.int .i64 (T.kid j).op) := hla 0 _ rfl
          have c1 : wr.cell? ⟨b, off + j * 4 + 1, none⟩ = some (.int .i64 (T.kid j).rel) := hla 1 _ rfl
          have c2 : wr.cell? ⟨b, off + j * 4 + 2, none⟩ = some (.slice (T.kid j).aa (T.kid j).an (T.kid j).ac) := hla 2 _ rfl
          have c3 : wr.cell? ⟨b, off + j * 4 + 3, none⟩ = some (.slice (T.kid j).ka (T.kid j).kn (T.kid j).kc) := hla 3 _ rfl
          have HN := Lib.hid (HI.out j hlt)
          unfold IsTTo at HN
          obtain ⟨m, hm⟩ : ∃ m, mayB (T.kid j) = m := ⟨_, rfl⟩
          rw [hm] at HN
          have HMM := Lib.hid hm
          have HJN := Lib.hid (HNK.out j hlt)
          clear hla hm hbl
          cases m with
          | false =>
            have HRF := Lib.hid (HJN.out HMM.out)
            go_wp2_with (go_at_call 15; refine (HN.out _ (bthN HBr.out bel1)).mono ?_; rintro e w2 ⟨rfl, hb⟩; have HB2 := Lib.hid (bthN (bthN HBr.out bel1) hb); clear hb)
            go_ret
            exact ⟨ret_bC HRF.out.symm, HB2.out⟩
          | true =>
            go_wp2_with (go_at_call 15; refine (HN.out _ (bthN HBr.out bel1)).mono ?_; rintro e w2 ⟨rfl, hb⟩; have HB2 := Lib.hid (bthN (bthN HBr.out bel1) hb); clear hb)
            go_roundw
            case rel => exact ⟨j + 1, by omega, by go_num, Lib.hid (upToC HNO.out HMM.out), HB2⟩
            case measure => simp [intOf]; omega
        · obtain rfl : j = T.kn := by omega
          have HRT := Lib.hid (HAY.out HNO.out)
          clear hlt
          go_wp2_with (fail)
          go_ret
          exact ⟨ret_bC HRT.out.symm, HBr.out⟩
theorem isT_any (S : Nat → Prop) : ∀ (T : XT) (w : World), XAt w S T → XTx T → SmC T → LibAt w → IsTTo T.op T.rel T.aa T.an T.ac T.ka T.kn T.kc w (mayB T) := by
  refine XT.ind fun T ih w H HX HS hV => ?_
  have hs := (smc_iff T).1 HS
  have HI := Lib.hid (fun i (hi : i < T.kn) wx (hb : Below w.heap.size w wx) => ih i hi wx (kid_at H hb hi).2 (((xtx_iff T).1 HX).2 i hi) (hs.2 i hi) (hV.held hb))
  cases hf : formB T.op T.rel T.an T.kn with
  | false => rw [mayC_no hf]; exact isT_no _ _ _ _ _ _ _ _ w hf
  | true => exact isT_yes S T w H HX hs.1 hV HI hf
end Go.Proofs.YtjgdkiikkgdbaaaGreatDoor
/- The printer writes an operand: a truth; any operand that may be told. -/
namespace Go.Proofs.YtjgdkiikkgdbaaaGreatDoor
open Go.RowKit
set_option linter.unusedVariables false
set_option linter.unusedSimpArgs false
set_option maxRecDepth 100000 in
set_option maxHeartbeats 2000000 in
theorem pOpd_4 (s : ByteArray) (ng : Bool) (n : Int) (B b : Nat) (l : List UInt8) (w : World) (hn : n = 0 ∨ n = 1) (h : TxtAt 48 B b l w) (hlen : l.length ≤ 1000000000) (hBw : B ≤ w.heap.size) : POpdTo 4 s ng n B b l w (if n = 1 then kTRUE else kFALSE) := by
  unfold POpdTo
  have hne := h.lt
  have HC0 := Lib.hid ((Cur.start h hBw).next bel1 (wy := w.alloc (.cells #[.int .i64 4, .string s, .bool ng, .int .u64 n] 34)))
  have HC1 := Lib.hid (HC0.out.next bel1 (wy := (w.alloc (.cells #[.int .i64 4, .string s, .bool ng, .int .u64 n] 34)).alloc (.cells #[.string ⟨#[70, 65, 76, 83, 69]⟩, .string ⟨#[84, 82, 85, 69]⟩] 9)))
  have HW := Lib.hid (fun s wx (hx : Cur B b l w wx) (hs : s.size ≤ 10) => wrC (s := s) hx (by omega))
  clear h hlen
  rcases hn with rfl | rfl
  · rw [if_neg (by decide)]
    go_enter Tryz.func22, Tryz.ntmps22
    go_wp2_with (fail)
    go_region_with (go_at_call 33; refine (HW.out _ _ (by first | exact HC1.out | exact HC1.out.drew | exact HC0.out.drew.next bel1) (by decide)).mono ?_; rintro e w2 ⟨rfl, h2⟩; have H2 := Lib.hid h2; clear h2)
    all_goals go_wp2_with (fail)
    all_goals go_end0
    all_goals exact ⟨rfl, H2.out⟩
  · rw [if_pos rfl]
    go_enter Tryz.func22, Tryz.ntmps22
    go_wp2_with (fail)
    go_region_with (go_at_call 33; refine (HW.out _ _ (by first | exact HC1.out | exact HC1.out.drew | exact HC0.out.drew.next bel1) (by decide)).mono ?_; rintro e w2 ⟨rfl, h2⟩; have H2 := Lib.hid h2; clear h2)
    all_goals go_wp2_with (fail)
    all_goals go_end0
    all_goals exact ⟨rfl, H2.out⟩
theorem mayO_kind {o : Opd} (h : mayOB o = true) : (o.kind = 1 ∨ o.kind = 2 ∨ o.kind = 3 ∨ o.kind = 4 ∨ o.kind = 5) ∧ (o.kind = 4 → o.num < 2) := by
  obtain ⟨k, s, ng, n⟩ := o
  show (k = 1 ∨ k = 2 ∨ k = 3 ∨ k = 4 ∨ k = 5) ∧ (k = 4 → n < 2)
  unfold mayOB at h
  dsimp only at h
  by_cases hb : (decide (k < 1) || decide (5 < k) || (ng && !(k == 2)) || (!(s.data.toList == []) && !(k == 1) && !(k == 3))) = true
  · rw [if_pos hb] at h; cases h
  · rw [if_neg hb] at h
    have h1 : ¬ k < 1 := fun e => hb (by rw [decide_eq_true e]; rfl)
    have h5 : ¬ 5 < k := fun e => hb (by rw [decide_eq_true e]; simp)
    refine ⟨by omega, fun e => ?_⟩
    subst e
    rw [if_neg (by decide), if_neg (by decide), if_pos rfl] at h
    exact of_decide_eq_true h
theorem pOpd_any (o : Opd) (hm : mayOB o = true) (ho : OpX o) (hs : o.text.size ≤ 1000000) (B b : Nat) (l : List UInt8) (w : World) (h : TxtAt 48 B b l w) (hE : EnvAt B w) (hlen : l.length ≤ 1000000000) (hBw : B ≤ w.heap.size) : POpdTo o.kind o.text o.neg o.num B b l w (opTx o) := by
  obtain ⟨hk, h4⟩ := mayO_kind hm
  obtain ⟨_, hn0, hn1⟩ := ho
  obtain ⟨k, s, ng, n⟩ := o
  have hs : s.size ≤ 1000000 := hs
  have hn0 : 0 ≤ n := hn0
  have hn1 : n < 18446744073709551616 := hn1
  have hk : k = 1 ∨ k = 2 ∨ k = 3 ∨ k = 4 ∨ k = 5 := hk
  have h4 : k = 4 → n < 2 := h4
  show POpdTo k s ng n B b l w (opTx ⟨k, s, ng, n⟩)
  rcases hk with rfl | rfl | rfl | rfl | rfl
  · exact pOpd_1 s ng n B b l w h (by omega) hBw
  · exact pOpd_2 s ng n hn0 hn1 B b l w h hE hlen hBw
  · exact pOpd_3 s ng n B b l w h hE hs hlen hBw
  · exact pOpd_4 s ng n B b l w (by have := h4 rfl; omega) h hlen hBw
  · exact pOpd_5 s ng n hn0 hn1 B b l w h hE hlen hBw
end Go.Proofs.YtjgdkiikkgdbaaaGreatDoor
/- How long a printed tree is, when it is not too great; the text of a tree as the reference puts it together. No run of the program. -/
namespace Go.Proofs.YtjgdkiikkgdbaaaGreatDoor
open Go Go.RowKit
set_option linter.unusedVariables false
def sumF (f : Nat → Int) : Nat → Int | 0 => 0 | n + 1 => sumF f n + f n
theorem sumF_le {F : Nat → Int} : ∀ n, (∀ i, i < n → 1 ≤ F i) → (n : Int) ≤ sumF F n
  | 0, _ => by show ((0 : Nat) : Int) ≤ 0; omega
  | n + 1, h => by
    have := sumF_le n (fun i hi => h i (by omega))
    have := h n (by omega)
    show ((n + 1 : Nat) : Int) ≤ sumF F n + F n
    omega
theorem minK_sum {a : Int} {F : Nat → Int} (h0 : 0 ≤ a) (h1 : a ≤ 100000) : ∀ n, (∀ i, i < n → 1 ≤ F i ∧ F i ≤ 3101) → minK a F n = min (a + sumF F n) 100000
  | 0, _ => by show a = min (a + 0) 100000; omega
  | n + 1, h => by
    have h2 := minK_sum h0 h1 n (fun i hi => h i (by omega))
    have h3 := sumF_le n (fun i hi => (h i (by omega)).1)
    have h4 := h n (by omega)
    show min (wrap64 (minK a F n + F n)) 100000 = min (a + (sumF F n + F n)) 100000
    rw [h2, IntWalk.wrap64_in _ (by omega)]
    omega
theorem sumW_sum {a : Int} {F : Nat → Int} (h0 : 0 ≤ a) (h1 : a ≤ 1000) : ∀ n, n ≤ 100 → (∀ i, i < n → 1 ≤ F i ∧ F i ≤ 3101) → sumW a F n = a + sumF F n ∧ sumF F n ≤ 3101 * n
  | 0, _, _ => by constructor; · show a = a + 0; omega
                  · show (0 : Int) ≤ _; omega
  | n + 1, hn, h => by
    obtain ⟨h2, h5⟩ := sumW_sum h0 h1 n (by omega) (fun i hi => h i (by omega))
    have h3 := sumF_le n (fun i hi => (h i (by omega)).1)
    have h4 := h n (by omega)
    constructor
    · show wrap64 (sumW a F n + F n) = a + (sumF F n + F n)
      rw [h2, IntWalk.wrap64_in _ (by omega)]; omega
    · show sumF F n + F n ≤ _; omega
theorem minA_ge {f : Nat → Nat} : ∀ n, minA f n < 100000 → ∀ i, i < n → f i ≤ minA f n
  | 0, _, i, hi => absurd hi (Nat.not_lt_zero i)
  | n + 1, h, i, hi => by
    have hd : minA f (n + 1) = min (minA f n + f n) 100000 := rfl
    rcases Nat.lt_succ_iff_lt_or_eq.1 hi with h1 | rfl
    · have := minA_ge (f := f) n (by omega) i h1
      omega
    · omega
/-- what a tree that is not too great is -/
theorem great_size : ∀ (T : XT) (d : Nat), greatX T d = false → (1 ≤ sizeX T ∧ sizeX T ≤ 3101) ∧ (∀ i, i < T.an → (T.arg i).text.size ≤ 3000) ∧ T.kn ≤ 100 ∧ (∀ i, i < T.kn → greatX (T.kid i) (d + 1) = false) ∧ sizeX T = 1 + (T.an : Int) + sumF (fun i => sizeX (T.kid i)) T.kn := by
  refine XT.ind fun T ih d h => ?_
  rw [greatX_eq] at h
  simp only [Bool.or_eq_false_iff, decide_eq_false_iff_not, Nat.not_lt] at h
  obtain ⟨⟨⟨⟨h1, h2⟩, h3⟩, h4⟩, h5⟩ := h
  have hk : ∀ i, i < T.kn → 1 ≤ sizeX (T.kid i) ∧ sizeX (T.kid i) ≤ 3101 := fun i hi => (ih i hi (d + 1) (anyTo_false h4 i hi)).1
  have hml := minA_le (fun i => (T.arg i).text.size) T.an
  rw [minK_sum (by omega) (by omega) T.kn hk] at h5
  have hs := sumF_le (F := fun i => sizeX (T.kid i)) T.kn (fun i hi => (hk i hi).1)
  have hw := (sumW_sum (a := 1 + (T.an : Int)) (F := fun i => sizeX (T.kid i)) (by omega) (by omega) T.kn h2 hk).1
  rw [sizeX_eq, hw]
  refine ⟨by omega, fun i hi => ?_, h2, fun i hi => anyTo_false h4 i hi, rfl⟩
  have := minA_ge (f := fun i => (T.arg i).text.size) T.an (by omega) i hi
  have h6 : (T.arg i).text.size ≤ minA (fun i => (T.arg i).text.size) T.an := this
  omega
theorem opTx_len (o : Opd) (ho : 0 ≤ o.num ∧ o.num < 18446744073709551616) (hs : o.text.size ≤ 3000) : (opTx o).length ≤ 6010 := by
  have hd := shdec_len o.num.toNat (by omega)
  have hz : o.text.data.toList.length = o.text.size := (Lib.size_eq o.text).symm
  have hb := dbl_le o.text.data.toList
  unfold opTx
  split
  · omega
  · split
    · split
      · rw [List.length_cons]; omega
      · omega
    · split
      · unfold quoteL; rw [List.length_cons, List.length_append]; simp only [List.length_cons, List.length_nil]; omega
      · split
        · split <;> (show _ ≤ 6010; decide)
        · rw [List.length_cons]; omega
/-- what stands ahead of an operand -/
def sepA (o r : Int) (i : Nat) : List UInt8 := if i = 0 then [] else if o = 1 then 32 :: (relS r.toNat ++ [32]) else if o = 2 then (if i = 1 then 32 :: (kBETWEEN ++ [32]) else 32 :: (kAND ++ [32])) else if o = 3 then 32 :: (kLIKE ++ [32]) else []
/-- what stands ahead of a part -/
def sepK (o : Int) (i : Nat) : List UInt8 := if i = 0 then [] else if o = 5 then 32 :: (kAND ++ [32]) else if o = 6 then 32 :: (kOR ++ [32]) else []
def argsP (o r : Int) (g : Nat → Opd) : Nat → List UInt8 | 0 => [] | n + 1 => argsP o r g n ++ sepA o r n ++ opTx (g n)
def kidsP (o : Int) (f : Nat → XT) : Nat → List UInt8 | 0 => [] | n + 1 => kidsP o f n ++ sepK o n ++ kidS o (f n).op (showX (f n))
def headP (o : Int) : List UInt8 := if o = 4 then kNOT ++ [32] else []
theorem joinS_snoc (w x : List UInt8) : ∀ l : List (List UInt8), l ≠ [] → joinS w (l ++ [x]) = joinS w l ++ 32 :: (w ++ 32 :: x)
  | [], h => absurd rfl h
  | [y], _ => rfl
  | y :: z :: r, _ => by
    show y ++ 32 :: (w ++ 32 :: joinS w ((z :: r) ++ [x])) = (y ++ 32 :: (w ++ 32 :: joinS w (z :: r))) ++ 32 :: (w ++ 32 :: x)
    rw [joinS_snoc w x (z :: r) (by simp)]
    simp
theorem kidsP_join (o : Int) (ho : o = 5 ∨ o = 6) (f : Nat → XT) : ∀ n, joinS (wdL o) ((List.range n).map fun i => kidS o (f i).op (showX (f i))) = kidsP o f n
  | 0 => rfl
  | 1 => rfl
  | n + 2 => by
    rw [List.range_succ, List.map_append, List.map_cons, List.map_nil, joinS_snoc _ _ _ (by simp), kidsP_join o ho f (n + 1)]
    show _ = kidsP o f (n + 1) ++ sepK o (n + 1) ++ _
    have hs : sepK o (n + 1) = 32 :: (wdL o ++ [32]) := by
      unfold sepK wdL
      rw [if_neg (by omega)]
      rcases ho with rfl | rfl
      · rw [if_pos rfl, if_pos rfl]
      · rfl
    rw [hs]; simp
theorem show_split (T : XT) (h : formB T.op T.rel T.an T.kn = true) : showX T = headP T.op ++ argsP T.op T.rel T.arg T.an ++ kidsP T.op T.kid T.kn := by
  cases T with
  | nil => exact absurd h (by decide)
  | node o r a an c g b kn d f =>
    have h : formB o r an kn = true := h
    show showX (.node o r a an c g b kn d f) = headP o ++ argsP o r g an ++ kidsP o f kn
    unfold formB at h
    simp only [Bool.or_eq_true, Bool.and_eq_true, beq_iff_eq, decide_eq_true_eq] at h
    rcases h with (((⟨⟨⟨⟨rfl, h1⟩, h2⟩, rfl⟩, rfl⟩ | ⟨⟨⟨rfl, rfl⟩, rfl⟩, rfl⟩) | ⟨⟨⟨rfl, rfl⟩, rfl⟩, rfl⟩) | ⟨⟨⟨rfl, rfl⟩, rfl⟩, rfl⟩) | ⟨⟨⟨ho, rfl⟩, rfl⟩, h4⟩
    · simp [showX, headP, argsP, kidsP, sepA]
    · simp [showX, headP, argsP, kidsP, sepA]
    · simp [showX, headP, argsP, kidsP, sepA]
    · simp [showX, headP, argsP, kidsP, sepK]
    · have e : showX (.node o 0 a 0 c g b kn d f) = joinS (wdL o) ((List.range kn).map fun i => kidS o (f i).op (showX (f i))) := by
        rcases ho with rfl | rfl <;> simp [showX]
      rw [e, kidsP_join o ho]
      have hh : headP o = [] := by rcases ho with rfl | rfl <;> rfl
      rw [hh]; rfl
theorem kidS_len (p k : Int) (s : List UInt8) : (kidS p k s).length ≤ s.length + 2 := by
  unfold kidS; split
  · rw [List.length_cons, List.length_append]; simp only [List.length_cons, List.length_nil]; omega
  · omega
theorem sepK_len (o : Int) (i : Nat) : (sepK o i).length ≤ 5 := by
  unfold sepK; split
  · decide
  · split
    · decide
    · split <;> decide
theorem relS_len (r : Nat) : (relS r).length ≤ 2 := by
  match r with
  | 0 => decide
  | 1 => decide
  | 2 => decide
  | 3 => decide
  | 4 => decide
  | 5 => decide
  | 6 => decide
  | n + 7 => show ([] : List UInt8).length ≤ 2; decide
theorem sepA_len (o r : Int) (i : Nat) : (sepA o r i).length ≤ 10 := by
  have := relS_len r.toNat
  unfold sepA; split
  · decide
  · split
    · rw [List.length_cons, List.length_append]; simp only [List.length_cons, List.length_nil]; omega
    · split
      · split <;> decide
      · split <;> decide
theorem argsP_len (o r : Int) (g : Nat → Opd) : ∀ n, (∀ i, i < n → (opTx (g i)).length ≤ 6010) → (argsP o r g n).length ≤ 6020 * n
  | 0, _ => by show 0 ≤ _; omega
  | n + 1, h => by
    have h1 := argsP_len o r g n (fun i hi => h i (by omega))
    have h2 := h n (by omega)
    have h3 := sepA_len o r n
    show (argsP o r g n ++ sepA o r n ++ opTx (g n)).length ≤ _
    rw [List.length_append, List.length_append]; omega
theorem kidsP_len (o : Int) (f : Nat → XT) : ∀ n, (∀ i, i < n → ((showX (f i)).length : Int) + 7 ≤ 7000 * sizeX (f i)) → ((kidsP o f n).length : Int) ≤ 7000 * sumF (fun i => sizeX (f i)) n
  | 0, _ => by show ((0 : Nat) : Int) ≤ 7000 * 0; omega
  | n + 1, h => by
    have h1 := kidsP_len o f n (fun i hi => h i (by omega))
    have h2 := h n (by omega)
    have h3 := sepK_len o n
    have h4 := kidS_len o (f n).op (showX (f n))
    show ((kidsP o f n ++ sepK o n ++ kidS o (f n).op (showX (f n))).length : Int) ≤ 7000 * (sumF (fun i => sizeX (f i)) n + sizeX (f n))
    rw [List.length_append, List.length_append]; omega
theorem headP_len (o : Int) : (headP o).length ≤ 4 := by unfold headP; split <;> decide
theorem show_len : ∀ (T : XT) (d : Nat), greatX T d = false → XTx T → mayB T = true → ((showX T).length : Int) + 7 ≤ 7000 * sizeX T := by
  refine XT.ind fun T ih d hg hx hm => ?_
  obtain ⟨⟨h1, h2⟩, h3, h4, h5, h6⟩ := great_size T d hg
  have hm2 : (formB T.op T.rel T.an T.kn && ((List.range T.an).all fun i => mayOB (T.arg i)) && ((List.range T.kn).all fun i => mayB (T.kid i))) = true := by
    cases T with
    | nil => exact hm
    | node => exact hm
  rw [Bool.and_eq_true, Bool.and_eq_true, List.all_eq_true] at hm2
  obtain ⟨⟨hf, _⟩, hk⟩ := hm2
  have hx2 := (xtx_iff T).1 hx
  have ha := argsP_len T.op T.rel T.arg T.an (fun i hi => opTx_len _ (hx2.1 i hi).2 (h3 i hi))
  have hkk := kidsP_len T.op T.kid T.kn (fun i hi => ih i hi (d + 1) (h5 i hi) (hx2.2 i hi) (by rw [List.all_eq_true] at hk; exact hk i (List.mem_range.2 hi)))
  have hh := headP_len T.op
  rw [show_split T hf, List.length_append, List.length_append, h6]
  omega
end Go.Proofs.YtjgdkiikkgdbaaaGreatDoor
