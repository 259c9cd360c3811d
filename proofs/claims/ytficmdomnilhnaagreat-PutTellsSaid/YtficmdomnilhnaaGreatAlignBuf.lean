/- Contracts of a buffer's methods: New, Text, Put, Len, Bytes. -/
import Derived.Test.YtficmdomnilhnaaGreatOwn
import Derived.Test.YtficmdomnilhnaaGreatAlignPlace
import Derived.Test.YtficmdomnilhnaaGreatWordBackMath
namespace Go.Proofs.YtficmdomnilhnaaGreat
open Go.RowKit
set_option linter.unusedVariables false
/-- a buffer in memory: block b; its bytes are a row that the call owns -/
def BufAt (b : Nat) (v : Value) (t : ByteArray) (w : World) : Prop :=
  w.heap[b]? = some (.cells #[.int .i64 (t.size : Nat), v] 75 (0, 0)) ∧ w.ownsRow (b + 1) 5 1 v t.size (Lib.strCells t)
/-- the blocks of a buffer -/
def BufFoot (b : Nat) (v : Value) (k : Nat) : Prop := k = b ∨ v.ownBlock = some k
/-- the buffer has other bytes; only its blocks have turned; where its bytes lie now -/
def BufNow (b : Nat) (v : Value) (t : ByteArray) (w w' : World) : Prop :=
  ∃ v', BufAt b v' t w' ∧ Only (BufFoot b v) w w' ∧ ∀ k, v'.ownBlock = some k → v.ownBlock = some k ∨ w.heap.size ≤ k
def BufTo (b : Nat) (v : Value) (t : ByteArray) (r : Value) (w : World) (e : Ending) (w' : World) : Prop := e = .returned r ∧ BufNow b v t w w'
theorem BufAt.foot {b : Nat} {v : Value} {t : ByteArray} {w : World} (h : BufAt b v t w) {k : Nat} (hk : BufFoot b v k) : b ≤ k ∧ k < w.heap.size := by
  rcases hk with rfl | hk
  · exact ⟨Nat.le_refl _, lt_of_block h.1⟩
  · have := h.2.lt k hk; omega
theorem BufAt.only {b : Nat} {v : Value} {t : ByteArray} {w w' : World} {S : Nat → Prop} (h : BufAt b v t w) (ho : Only S w w') (hs : ∀ k, BufFoot b v k → ¬ S k) : BufAt b v t w' :=
  ⟨ho.same h.1 (hs b (.inl rfl)), ho.row h.2 (fun k hk => hs k (.inr hk))⟩
theorem BufAt.step {b : Nat} {v : Value} {t : ByteArray} {w w' : World} (h : BufAt b v t w) (ho : Below w.heap.size w w') : BufAt b v t w' :=
  h.only (Only.of_below (S := fun _ => False) ho) (fun _ _ f => f)
theorem BufAt.drew {b : Nat} {v : Value} {t : ByteArray} {w : World} (h : BufAt b v t w) : BufAt b v t w.drew := h
theorem BufNow.refl {b : Nat} {v : Value} {t : ByteArray} {w : World} (h : BufAt b v t w) : BufNow b v t w w := ⟨v, h, Only.refl _ _, fun _ hk => .inl hk⟩
theorem BufNow.trans {b : Nat} {v v' : Value} {t' : ByteArray} {w w' w'' : World} (h' : Only (BufFoot b v) w w') (hf : ∀ k, v'.ownBlock = some k → v.ownBlock = some k ∨ w.heap.size ≤ k) (k : BufNow b v' t' w' w'') : BufNow b v t' w w'' := by
  obtain ⟨v2, h2, o2, f2⟩ := k
  refine ⟨v2, h2, h'.trans o2 ?_, ?_⟩
  · rintro i hi (rfl | hk)
    · exact .inl rfl
    · rcases hf i hk with h | h
      · exact .inr h
      · omega
  · intro k hk
    rcases f2 k hk with h | h
    · exact hf k h
    · exact .inr (Nat.le_trans h'.size h)
theorem row_shape {w : World} {base : Nat} {e : TypeId} {size : Nat} {v : Value} {n : Nat} {xs : List Value} (h : w.ownsRow base e size v n xs) : ∃ a c, v = .slice a n c := by
  rcases h.2 with ⟨rfl, rfl⟩ | ⟨g, cap, cur, rfl, _⟩
  · exact ⟨_, _, rfl⟩
  · exact ⟨_, _, rfl⟩
theorem info8 : (Tryz.prog.info? 5).map (fun i => (i.zero, i.size, i.bytes)) = some (some (.int .u8 0), 1, 1) := by kernel_rfl
theorem strCells_add (a b : ByteArray) : Lib.strCells a ++ Lib.strCells b = Lib.strCells (a ++ b) := by simp [Lib.strCells]
theorem text_nil (s : ByteArray) (w : World) : Calls Tryz.prog 111 #[.pointer none, .string s] w fun e w' => e = .returned (.tuple #[]) ∧ w = w' := by
  go_enter Tryz.func111, Tryz.ntmps111
  go_wp2
  go_returns
  exact ⟨rfl, rfl⟩
theorem text_now (b : Nat) (v v' : Value) (t s : ByteArray) (w w1 : World) (h : BufAt b v t w) (hg : w.grownBy w1 v.ownBlock) (hown : w1.ownsRow (b + 1) 5 1 v' (t.size + s.size) (Lib.strCells t ++ Lib.strCells s))
    (hfr : ∀ k, v'.ownBlock = some k → v.ownBlock = some k ∨ w.heap.size ≤ k) :
    BufNow b v (t ++ s) w ((w1.setCell ⟨b, 1, none⟩ v').setCell ⟨b, 0, none⟩ (.int .i64 ((t.size : Nat) + (s.size : Nat)))) := by
  have hb1 : w1.heap[b]? = some (.cells #[.int .i64 (t.size : Nat), v] 75 (0, 0)) := by
    rw [hg.block b (lt_of_block h.1) (fun e => by have := (h.2.lt b e.symm).1; omega)]; exact h.1
  refine ⟨v', ⟨?_, ?_⟩, ?_, hfr⟩
  · have h1 := set_at (j := 1) (u := v') hb1
    have h2 := set_at (j := 0) (u := .int .i64 ((t.size : Nat) + (s.size : Nat))) h1
    rw [h2, ByteArray.size_append]
    simp
  · rw [ByteArray.size_append, ← strCells_add]
    exact ownsRow_setCell_below (ownsRow_setCell_below hown (by simp) _) (by simp) _
  · exact ((((Only.refl (BufFoot b v) w).grown hg (fun k hk => .inl (.inr hk))).setCell (.inl (.inl rfl)) _).setCell (.inl (.inl rfl)) _)
set_option maxHeartbeats 800000 in
theorem text_any (b : Nat) (v : Value) (t s : ByteArray) (w : World) (h : BufAt b v t w) (hs : t.size + s.size ≤ 140737488355328) :
    Calls Tryz.prog 111 #[.pointer (some ⟨b, 0, none⟩), .string s] w (BufTo b v (t ++ s) (.tuple #[]) w) := by
  obtain ⟨i0, hi, hz0, hz1, hz2⟩ := info_parts info8
  have H := Lib.hid h
  obtain ⟨hb, hown⟩ := h
  have hlt := lt_of_block hb
  have c1 := cell_at (j := 1) hb rfl
  have HB := Lib.hid hb
  clear hb
  go_enter Tryz.func111, Tryz.ntmps111
  go_wp2_with (at_builtin; refine wpList_append_string_at rfl (.tmp 10) (.tmp 11) 73 9 rfl (b + 1) 5 i0 Tryz.underlying73 Tryz.underlying9 hi hz0 hz1 hz2 v t.size (Lib.strCells t) rfl hown s rfl (by unfold maxLen; omega) hs (by omega) ?_)
  intro v' w1 hown1 hg hfr
  obtain ⟨a', c', rfl⟩ := row_shape hown1
  have hb1 : w1.heap[b]? = some (.cells #[.int .i64 (t.size : Nat), v] 75 (0, 0)) := by
    rw [hg.block b hlt (fun e => by have := (H.out.2.lt b e.symm).1; omega)]; exact HB.out
  have d0 := cell_at (j := 0) hb1 rfl
  have d1 := cell_at (j := 1) hb1 rfl
  have e0 := free_at (j := 0) hb1
  have e1 := free_at (j := 1) hb1
  have HB1 := Lib.hid hb1
  clear hb1 c1
  go_wp2_with (go_at_call 143; refine (pass_in b _ _ _ (by go_cell) (by go_cell) (by omega) (by omega) (by omega)).mono ?_; rintro e w2 ⟨rfl, rfl⟩)
  go_returns
  exact ⟨rfl, text_now b v _ t s w w1 H.out hg hown1 hfr.out⟩
theorem put_zero {n z : Int} (h : putE n z = 0) : isSz z = true ∧ fits n z = true := by
  cases hz : isSz z with
  | false => rw [(put_no hz).2] at h; omega
  | true =>
    cases hf : fits n z with
    | false => rw [(put_out hz hf).2] at h; omega
    | true => exact ⟨rfl, rfl⟩
/-- n bytes 0 -/
def zerosB (n : Nat) : ByteArray := ⟨Array.replicate n 0⟩
theorem strCells_zeros (n : Nat) : Lib.strCells (zerosB n) = List.replicate n (.int .u8 0) := by simp [Lib.strCells, zerosB]
theorem zerosB_size (n : Nat) : (zerosB n).size = n := by simp [zerosB, ByteArray.size]
/-- what a buffer holds behind Put -/
def bufPut (t : ByteArray) (n z : Int) : ByteArray := if putE n z = 0 then t ++ zerosB (gapZ (t.size : Nat) z).toNat ++ putS n z else t
/-- in the midst of Put: i of the g zeros are there -/
def PutMid (b : Nat) (v : Value) (t : ByteArray) (g i : Nat) (w wr : World) : Prop :=
  ∃ v', wr.heap[b]? = some (.cells #[.int .i64 ((t.size : Nat) + (g : Nat)), v'] 75 (0, 0)) ∧ wr.ownsRow (b + 1) 5 1 v' (t.size + i) (Lib.strCells t ++ List.replicate i (.int .u8 0)) ∧
    Only (BufFoot b v) w wr ∧ Hid (∀ k, v'.ownBlock = some k → v.ownBlock = some k ∨ w.heap.size ≤ k)
theorem mid_start (b : Nat) (v : Value) (t : ByteArray) (g : Nat) (w w1 : World) (h : BufAt b v t w) (hb : Below w.heap.size w w1) : PutMid b v t g 0 w (w1.setCell ⟨b, 0, none⟩ (.int .i64 ((t.size : Nat) + (g : Nat)))) := by
  have h1 := h.step hb
  refine ⟨v, ?_, ?_, ((Only.of_below hb).setCell (.inl (.inl rfl)) _), fun k hk => .inl hk⟩
  · have := set_at (j := 0) (u := .int .i64 ((t.size : Nat) + (g : Nat))) h1.1
    simpa using this
  · simpa using ownsRow_setCell_below h1.2 (by simp) _
theorem mid_next (b : Nat) (v v1 v2 : Value) (t : ByteArray) (g i : Nat) (w wr w1 : World) (h1 : wr.heap[b]? = some (.cells #[.int .i64 ((t.size : Nat) + (g : Nat)), v1] 75 (0, 0))) (ho : Only (BufFoot b v) w wr) (hlw : b < w.heap.size)
    (hown : wr.ownsRow (b + 1) 5 1 v1 (t.size + i) (Lib.strCells t ++ List.replicate i (.int .u8 0))) (hf : ∀ k, v1.ownBlock = some k → v.ownBlock = some k ∨ w.heap.size ≤ k)
    (hown1 : w1.ownsRow (b + 1) 5 1 v2 (t.size + i + 1) (Lib.strCells t ++ (List.replicate i (.int .u8 0) ++ [.int .u8 0]))) (hg : (wr.alloc (.cells #[.int .u8 0] 5)).grownBy w1 v1.ownBlock)
    (hf1 : ∀ k, v2.ownBlock = some k → v1.ownBlock = some k ∨ wr.heap.size + 1 ≤ k) : PutMid b v t g (i + 1) w (w1.setCell ⟨b, 1, none⟩ v2) := by
  have h0 : (wr.alloc (.cells #[.int .u8 0] 5)).heap[b]? = some (.cells #[.int .i64 ((t.size : Nat) + (g : Nat)), v1] 75 (0, 0)) := alloc_old h1
  have hb1 : w1.heap[b]? = some (.cells #[.int .i64 ((t.size : Nat) + (g : Nat)), v1] 75 (0, 0)) := by
    rw [hg.block b (lt_of_block h0) (fun e => by have := (hown.lt b e.symm).1; omega)]; exact h0
  have hs := ho.size
  refine ⟨v2, ?_, ?_, ?_, ?_⟩
  · have := set_at (j := 1) (u := v2) hb1
    simpa using this
  · have e : Lib.strCells t ++ List.replicate (i + 1) (.int .u8 0) = Lib.strCells t ++ (List.replicate i (.int .u8 0) ++ [.int .u8 0]) := by
      rw [List.replicate_succ']
    rw [e, ← Nat.add_assoc]
    exact ownsRow_setCell_below hown1 (by simp) _
  · refine ((ho.alloc _).grown hg ?_).setCell (.inl (.inl rfl)) _
    intro k hk
    rcases hf k hk with h | h
    · exact .inl (.inr h)
    · exact .inr h
  · intro k hk
    rcases hf1 k hk with h | h
    · exact hf k h
    · exact .inr (by omega)
theorem mid_end (b : Nat) (v : Value) (t : ByteArray) (g : Nat) (w wr : World) (h : PutMid b v t g g w wr) : BufNow b v (t ++ zerosB g) w wr := by
  obtain ⟨v', h1, h2, h3, h4⟩ := h
  refine ⟨v', ⟨?_, ?_⟩, h3, h4⟩
  · rw [h1, ByteArray.size_append, zerosB_size]; simp
  · rw [ByteArray.size_append, zerosB_size, ← strCells_add, strCells_zeros]; exact h2
theorem bput_nil (n z : Int) (w : World) : Calls Tryz.prog 109 #[.pointer none, .int .u64 n, .int .i64 z] w fun e w' => e = .returned (.int .i64 20) ∧ w = w' := by
  go_enter Tryz.func109, Tryz.ntmps109
  go_wp2
  go_ret
  exact ⟨rfl, rfl⟩
theorem bput_bad (b : Nat) (v : Value) (t : ByteArray) (n z : Int) (w : World) (h : BufAt b v t w) (hn : (Lit.int .u64 n).wf = true) (he : putE n z ≠ 0) :
    Calls Tryz.prog 109 #[.pointer (some ⟨b, 0, none⟩), .int .u64 n, .int .i64 z] w (BufTo b v t (.int .i64 (putE n z)) w) := by
  have he' : (putE n z != 0) = true := by simpa using he
  have H := Lib.hid h
  clear h he
  go_enter Tryz.func109, Tryz.ntmps109
  go_wp2_with (go_at_call 140; refine (put_any _ _ hn _).mono ?_; rintro e w1 ⟨rfl, hb1⟩)
  go_ret
  exact ⟨rfl, v, H.out.step hb1, Only.of_below hb1, fun _ hk => .inl hk⟩
set_option maxHeartbeats 1000000 in
theorem bput_ok (b : Nat) (v : Value) (t : ByteArray) (n z : Int) (w : World) (h : BufAt b v t w) (hn : (Lit.int .u64 n).wf = true) (he : putE n z = 0) (ht : t.size ≤ 140737488355000) :
    Calls Tryz.prog 109 #[.pointer (some ⟨b, 0, none⟩), .int .u64 n, .int .i64 z] w (BufTo b v (t ++ zerosB (gapZ (t.size : Nat) z).toNat ++ putS n z) (.int .i64 0) w) := by
  obtain ⟨i0, hi, hz0, hz1, hz2⟩ := info_parts info8
  obtain ⟨h1, h1f⟩ := put_zero he
  have hB : putB n z = putS n z := (put_in h1 h1f).1
  have hsz : (putS n z).size ≤ 8 := by
    rw [putS_size]; rcases isSz_cases h1 with rfl | rfl | rfl | rfl <;> simp
  have hput : ∀ w : World, Calls Tryz.prog 140 #[.int .u64 n, .int .i64 z] w fun e w' => e = .returned (.tuple #[.string (putS n z), .int .i64 0]) ∧ Below w.heap.size w w' := fun w => by
    have h := put_any n z hn w
    rw [hB, he] at h
    exact h
  obtain ⟨g, hg⟩ : ∃ g : Nat, gapZ (t.size : Nat) z = g := ⟨_, (Int.toNat_of_nonneg (gapZ_rng _ _).1).symm⟩
  have hg7 : g ≤ 7 := by have := (gapZ_rng (t.size : Nat) z).2; omega
  have e0 : (gapZ (t.size : Nat) z).toNat = g := by rw [hg]; rfl
  rw [e0]
  have HG := Lib.hid hg
  have H := Lib.hid h
  have hlw := lt_of_block h.1
  clear hg e0 hB he h
  have HP := Lib.hid hput
  clear hput
  go_enter Tryz.func109, Tryz.ntmps109
  go_wp2_with (first
    | (go_at_call 140; refine (HP.out _).mono ?_; rintro e w1 ⟨rfl, hb1⟩; have c0 := cell_at (j := 0) (H.out.step hb1).1 rfl; have f0 := free_at (j := 0) (H.out.step hb1).1)
    | (go_at_call 141; refine (skip_nat b g _ _ HG.out _ (by go_cell) (by go_cell) (by omega) (by omega)).mono ?_; rintro e w2 ⟨rfl, rfl⟩))
  go_loopw [25] (fun i wr => ∃ k : Nat, k ≤ g ∧ i = .int .i64 k ∧ PutMid b v t g k w wr) (fun i _ => g - (intOf i).toNat)
  case atStart => exact ⟨0, Nat.zero_le _, rfl, mid_start b v t g w _ H.out hb1⟩
  case round =>
    obtain ⟨k, hk, rfl, v1, h1, hown, ho, hf⟩ := hrel
    by_cases hlt : k < g
    · have hbs := lt_of_block h1
      have d1 := cell_at (j := 1) h1 rfl
      have HB := Lib.hid h1
      clear h1
      go_wp2_with (at_builtin; refine wpList_append_at rfl (.tmp 31) (.tmp 32) 73 rfl (b + 1) 5 i0 (.int .u8 0) 1 1 Tryz.underlying73 hi hz0 hz1 hz2 rfl (by decide) v1 (t.size + k) _ rfl (hown.alloc _) ⟨_, 0, none⟩ 1 1 [.int .u8 0] rfl rfl ?c1 ?c2 (by unfold maxLen; omega) (by omega) (by simp; omega) ?_)
      case c1 => intro j u hj; match j, hj with | 0, hj => simp at hj; subst hj; simp [Addr.add]
      case c2 => intro u hu; simp at hu; subst hu; rfl
      intro v2 w2 hown2 hg2 hf2
      obtain ⟨a', c', rfl⟩ := row_shape hown2
      have h2 : w2.heap[b]? = some (.cells #[.int .i64 ((t.size : Nat) + (g : Nat)), v1] 75 (0, 0)) := by
        rw [hg2.block b (by simp; omega) (fun e => by have := (hown.lt b e.symm).1; omega)]; exact alloc_old HB.out
      have g1 := cell_at (j := 1) h2 rfl
      have g2 := free_at (j := 1) h2
      have HB2 := Lib.hid h2
      clear h2 d1
      have HM := Lib.hid (mid_next b v v1 _ t g k w _ w2 HB.out ho hlw hown hf.out hown2 hg2 hf2.out)
      clear hown2 hg2 hf2
      go_wp2
      go_roundw
      case rel => exact ⟨k + 1, by omega, by go_num, HM.out⟩
      case measure => simp [intOf]; omega
    · obtain rfl : k = g := by omega
      have HM := Lib.hid (mid_end b v t k w _ ⟨v1, h1, hown, ho, hf⟩)
      clear h1 hown ho hf
      obtain ⟨v2, hb2, ho2, hf2⟩ := HM.out
      have HB2 := Lib.hid hb2
      have HF2 := Lib.hid hf2
      clear hb2 hf2
      go_wp2_with (go_at_call 111; refine (text_any b v2 _ _ _ HB2.out (by rw [ByteArray.size_append, zerosB_size]; omega)).mono ?_; rintro e w3 ⟨rfl, hn3⟩)
      go_ret
      exact ⟨rfl, BufNow.trans ho2 HF2.out hn3⟩
theorem bput_any (b : Nat) (v : Value) (t : ByteArray) (n z : Int) (w : World) (h : BufAt b v t w) (hn : (Lit.int .u64 n).wf = true) (ht : t.size ≤ 140737488355000) :
    Calls Tryz.prog 109 #[.pointer (some ⟨b, 0, none⟩), .int .u64 n, .int .i64 z] w (BufTo b v (bufPut t n z) (.int .i64 (putE n z)) w) := by
  by_cases he : putE n z = 0
  · have h2 := bput_ok b v t n z w h hn he ht
    unfold bufPut
    rw [if_pos he, he]
    exact h2
  · unfold bufPut
    rw [if_neg he]
    exact bput_bad b v t n z w h hn he
/-- New: a zero buffer in a new block -/
theorem buf_new (w : World) : BufAt w.heap.size (.slice none 0 0) ⟨#[]⟩ (w.alloc (.cells #[.int .i64 0, .slice none 0 0] 75 (0, 0))) :=
  ⟨alloc_at w _, World.ownsRow_nil _ _ _ _⟩
theorem new_any (w : World) : Calls Tryz.prog 19 #[] w fun e w' => e = .returned (.pointer (some ⟨w.heap.size, 0, none⟩)) ∧ w' = w.alloc (.cells #[.int .i64 0, .slice none 0 0] 75 (0, 0)) := by
  go_enter Tryz.func19, Tryz.ntmps19
  go_wp2
  go_ret
  exact ⟨rfl, rfl⟩
theorem bytes_nil (w : World) : Calls Tryz.prog 21 #[.pointer none] w fun e w' => e = .returned (.string ⟨#[]⟩) ∧ w = w' := by
  go_enter Tryz.func21, Tryz.ntmps21
  go_wp2
  go_ret
  exact ⟨rfl, rfl⟩
theorem bytesOf_cells (t : ByteArray) : bytesOf (t.data.toList.map fun x => (x.toNat : Int)) = t := by
  apply ByteArray.ext
  have e : ((fun x : Int => UInt8.ofNat x.toNat) ∘ fun x : UInt8 => (x.toNat : Int)) = id := by funext x; simp
  simp only [bytesOf, List.map_map, e, List.map_id]
theorem conv_none (w : World) : (convert 73 9 (.slice none 0 0)).run Tryz.prog w = .ok (.string ⟨#[]⟩) w := by kernel_rfl
theorem conv_row (w : World) (base : Nat) (v : Value) (t : ByteArray) (h : w.ownsRow base 5 1 v t.size (Lib.strCells t)) :
    (convert 73 9 v).run Tryz.prog w = .ok (.string t) w := by
  rcases h.2 with ⟨rfl, h0⟩ | ⟨g, cap, cur, rfl, _⟩
  · have ht : t = ⟨#[]⟩ := ByteArray.ext (Array.eq_empty_of_size_eq_zero h0)
    subst ht
    exact conv_none w
  · have h1 := conv_bytes w ⟨g, 0, none⟩ cap (t.data.toList.map fun x => (x.toNat : Int)) (fun j hj => by
      have hj' : j < t.data.toList.length := by simpa using hj
      refine h.cells rfl j _ ?_
      unfold Lib.strCells
      simp [List.getElem?_eq_getElem hj'])
    rw [bytesOf_cells] at h1
    simpa using h1
theorem bytes_any (b : Nat) (v : Value) (t : ByteArray) (w : World) (h : BufAt b v t w) : Calls Tryz.prog 21 #[.pointer (some ⟨b, 0, none⟩)] w fun e w' => e = .returned (.string t) ∧ w = w' := by
  have c1 := cell_at (j := 1) h.1 rfl
  have hcv := conv_row w _ v t h.2
  have H := Lib.hid h
  clear h
  go_enter Tryz.func21, Tryz.ntmps21
  go_wp2
  go_ret
  exact ⟨rfl, rfl⟩
end Go.Proofs.YtficmdomnilhnaaGreat
