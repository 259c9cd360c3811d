/- get: the Items, one behind the other. -/
import Derived.Test.YtmnemddagcfjgaaGreatDoorGetNum
import Derived.Deep.AppendLies
namespace Go.Proofs.YtmnemddagcfjgaaGreatDoor
open Go.RowKit
set_option linter.unusedVariables false
theorem valAt_lt {w : World} {S : Nat → Prop} : ∀ T : VT, ValAt w S T → ValAt w (fun b => S b ∧ b < w.heap.size) T := by
  refine VT.ind fun T ih h => ?_
  obtain ⟨h1, h2⟩ := (valAt_iff T).1 h
  refine (valAt_iff T).2 ⟨h1, fun i hi => ⟨?_, ih i hi (h2 i hi).2⟩⟩
  obtain ⟨b, off, e, hs, hl, r⟩ := (h2 i hi).1
  exact ⟨b, off, e, ⟨hs, hl⟩, hl, r⟩
theorem rowL9_cong {K K' : Nat → VT} : ∀ n, (∀ i, i < n → K i = K' i) → rowL9 K n = rowL9 K' n
  | 0, _ => rfl
  | n + 1, h => by rw [rowL9, rowL9, rowL9_cong n (fun i hi => h i (by omega)), h n (by omega)]
def ValTo (w0 : World) (c : Nat) (b : ByteArray) (a' : Nat) (V : VT) (w : World) (e : Ending) (w' : World) : Prop :=
  ∃ U : VT, e = .returned (.agg #[.int .i64 U.kind, .int .u64 U.num, .string U.text, .slice U.ia U.len U.cap]) ∧ sameT V U = true ∧ ValAt w' (fun k => w.heap.size ≤ k) U ∧ Only (fun k => k = c) w w' ∧ RdAt w0 c b a' w'
/-- value: what decF says -/
def ValRes (w0 : World) (c : Nat) (b : ByteArray) (d : DR) (w : World) (e : Ending) (w' : World) : Prop :=
  match d with | .bad x => BadTo c x w e w' | .ok V a' => ValTo w0 c b a' V w e w'
def ValC (w0 : World) (c : Nat) (b : ByteArray) (ao : Option Addr) (len cap p : Nat) (d : Nat → DR) : Prop :=
  ∀ (wx : World) (ax : Nat), RdAt w0 c b ax wx → Calls Tryz.prog 21 #[.agg #[.slice ao len cap, .pointer (some ⟨c, 0, none⟩)], .int .i64 (p : Nat)] wx (ValRes w0 c b (d ax) wx)
def SeqTo (w0 : World) (c : Nat) (b : ByteArray) (a' n : Nat) (K : Nat → VT) (w : World) (e : Ending) (w' : World) : Prop :=
  ∃ (va : Option Addr) (vc : Nat) (K' : Nat → VT), e = .returned (.slice va n vc) ∧ (∀ i, i < n → sameT (K i) (K' i) = true) ∧ (∀ i, i < n → CellsAt w' (fun k => w.heap.size ≤ k) va i (K' i) ∧ ValAt w' (fun k => w.heap.size ≤ k) (K' i)) ∧ Only (fun k => k = c) w w' ∧ RdAt w0 c b a' w'
def SeqRes (w0 : World) (c : Nat) (b : ByteArray) (n : Nat) (d : DS) (w : World) (e : Ending) (w' : World) : Prop :=
  match d with | .bad x => BadTo c x w e w' | .ok K a' => SeqTo w0 c b a' n K w e w'
theorem RdNow.grown {w0 w wx wy : World} {c a : Nat} {b : ByteArray} {row : Option Nat} (h : RdNow w0 c b a w wx) (hg : wx.grownBy wy row) (hr : ∀ k, row = some k → w.heap.size ≤ k) (hw : w0.heap.size ≤ w.heap.size) (hc : c < w.heap.size) : RdNow w0 c b a w wy := by
  refine ⟨⟨h.rd.low.grown hg h.rd.low.size (fun k hk => by have := hr k hk; omega), h.rd.up, ?_, h.rd.le⟩, h.only.grown hg (fun k hk => .inr (hr k hk))⟩
  have hlt := lt_of_block h.rd.cur
  exact (hg.block c hlt (fun e => by have := hr c e.symm; omega)).trans h.rd.cur
/-- the Items in the making -/
structure ESt (w0 : World) (c : Nat) (b : ByteArray) (D : Nat → Nat → DR) (a0 g N : Nat) (O : Obj) (w : World) (j aj : Nat) (KV K : Nat → VT) (va : Option Addr) (vc : Nat) (wr : World) : Prop where
  now : RdNow w0 c b aj w wr
  box : wr.heap[g]? = some O
  row : wr.ownsRow N 28 4 (.slice va j vc) j (rowL9 K j)
  kids : ∀ i, i < j → sameT (KV i) (K i) = true ∧ ValAt wr (fun k => N ≤ k ∧ (∀ x, va = some x → x.block ≠ k) ∧ k < wr.heap.size) (K i)
  seq : seqD D a0 j = .ok KV aj
  base : c < w.heap.size ∧ w.heap.size ≤ g ∧ g < N ∧ N ≤ wr.heap.size ∧ w0.heap.size ≤ w.heap.size
theorem ESt.step {w0 : World} {c : Nat} {b : ByteArray} {D : Nat → Nat → DR} {a0 g N : Nat} {O : Obj} {w : World} {j aj : Nat} {KV K : Nat → VT} {va : Option Addr} {vc : Nat} {wr w1 : World} (h : ESt w0 c b D a0 g N O w j aj KV K va vc wr) (hb : Below wr.heap.size wr w1) : ESt w0 c b D a0 g N O w j aj KV K va vc w1 := by
  have hs := hb.size
  have hbase := h.base
  refine ⟨h.now.step hb, box_keep h.box hb, row_keep h.row hb, fun i hi => ⟨(h.kids i hi).1, ValAt.held_of (fun k ⟨s1, s2, s3⟩ => ⟨s1, s2, by omega⟩) hs (fun k ⟨_, _, s3⟩ _ => hb.block k s3) _ (h.kids i hi).2⟩, h.seq, ⟨hbase.1, hbase.2.1, hbase.2.2.1, by omega, hbase.2.2.2.2⟩⟩
theorem ESt.next {w0 : World} {c : Nat} {b : ByteArray} {D : Nat → Nat → DR} {a0 g N : Nat} {O : Obj} {w : World} {j aj : Nat} {KV K : Nat → VT} {va : Option Addr} {vc : Nat} {wr w1 w2 w3 : World} {V U : VT} {a2 g4 c4 : Nat} (h : ESt w0 c b D a0 g N O w j aj KV K va vc wr) (hd : D j aj = .ok V a2)
    (ho : Only (fun k => k = c) wr w1) (hr : RdAt w0 c b a2 w1) (hU : sameT V U = true) (hv : ValAt w1 (fun k => wr.heap.size ≤ k) U) (hb : Below w1.heap.size w1 w2)
    (hg : w2.grownBy w3 (Value.slice va j vc).ownBlock) (hw3 : w3.ownsRow N 28 4 (.slice (some ⟨g4, 0, none⟩) (j + 1) c4) (j + 1) (rowL9 K j ++ vcells9 U)) (hat : (Value.slice va j vc).ownBlock = some g4 ∨ g4 = w2.heap.size) :
    ESt w0 c b D a0 g N O w (j + 1) a2 (putK KV j V) (fun i => if i < j then K i else U) (some ⟨g4, 0, none⟩) c4 w3 := by
  obtain ⟨b1, b2, b3, b4, b5⟩ := h.base
  have hosz := ho.size
  have hbsz := hb.size
  have hgsz := hg.size
  have hown : ∀ k, (Value.slice va j vc).ownBlock = some k → N ≤ k ∧ k < wr.heap.size := fun k hk => h.row.lt k hk
  have hblk : ∀ k, k < wr.heap.size → k ≠ c → (∀ x, va = some x → x.block ≠ k) → w3.heap[k]? = wr.heap[k]? := fun k hkl hkc hne => by
    rw [hg.block k (by omega) (fun e => ?_), hb.block k (by omega), ho.block k hkl hkc]
    cases va with
    | none => simp [Value.ownBlock] at e
    | some x => exact hne x rfl (by simp [Value.ownBlock] at e; exact e.symm)
  have hg4 : N ≤ g4 ∧ g4 < w3.heap.size := hw3.lt g4 rfl
  refine ⟨((h.now.got ho hr).step hb).grown hg (fun k hk => by have := (hown k hk).1; omega) b5 b1, ?_, ?_, fun i hi => ?_, seq_next h.seq hd, ⟨b1, b2, b3, by omega, b5⟩⟩
  · rw [hg.block g (by omega) (fun e => by have := (hown g e.symm).1; omega), hb.block g (by omega), ho.block g (by omega) (by omega)]
    exact h.box
  · have e : rowL9 (fun i => if i < j then K i else U) (j + 1) = rowL9 K j ++ vcells9 U := by
      rw [rowL9, rowL9_cong j (K' := K) (fun i hi => by simp [hi])]
      simp
    rw [e]
    exact hw3
  · by_cases hij : i < j
    · simp only [hij, if_true]
      obtain ⟨h1, h2⟩ := h.kids i hij
      refine ⟨by unfold putK; rw [if_neg (by omega)]; exact h1, ValAt.held_of (fun k ⟨s1, s2, s3⟩ => ⟨s1, fun a ha => ?_, by omega⟩) (by omega) (fun k ⟨s1, s2, s3⟩ _ => hblk k s3 (by omega) s2) _ h2⟩
      cases ha
      show g4 ≠ k
      rcases hat with hat | hat
      · cases va with
        | none => simp [Value.ownBlock] at hat
        | some a => have := s2 a rfl; simp [Value.ownBlock] at hat; omega
      · omega
    · have hij' : i = j := by omega
      subst hij'
      simp only [hij, if_false]
      refine ⟨by unfold putK; rw [if_pos rfl]; exact hU, ValAt.held_of (fun k ⟨s1, s3⟩ => ⟨by omega, fun a ha => ?_, by omega⟩) (by omega) (fun k ⟨s1, s3⟩ _ => ?_) _ (valAt_lt _ hv)⟩
      · cases ha
        show g4 ≠ k
        rcases hat with hat | hat
        · have := (hown g4 hat).2; omega
        · omega
      · rw [hg.block k (by omega) (fun e => by have := (hown k e.symm).2; omega)]
        exact hb.block k s3
theorem ESt.made {w0 : World} {c : Nat} {b : ByteArray} {D : Nat → Nat → DR} {a0 g N : Nat} {O : Obj} {w : World} {j aj : Nat} {KV K : Nat → VT} {va : Option Addr} {vc : Nat} {wr : World} (h : ESt w0 c b D a0 g N O w j aj KV K va vc wr) : SeqRes w0 c b j (seqD D a0 j) w (.returned (.slice va j vc)) wr := by
  rw [h.seq]
  obtain ⟨b1, b2, b3, b4, b5⟩ := h.base
  refine ⟨va, vc, K, rfl, fun i hi => (h.kids i hi).1, fun i hi => ⟨?_, (h.kids i hi).2.sub (fun k hk => by have := hk.1; omega)⟩, h.now.only, h.now.rd⟩
  rcases h.row.2 with ⟨_, h0⟩ | ⟨q, cap, cur, hv, hb, hg, h1, h2, h3, h4⟩
  · omega
  · injection hv with e1 e2 e3
    have hget : ∀ r, r < 4 → wr.cell? ⟨q, i * 4 + r, none⟩ = (vcells9 (K i))[r]? := fun r hr => by
      have := cell_of_row wr q (i * 4 + r) cur 28 (0, 0) hg
      rw [this, ← rowL9_get K j i r hi hr, ← h4, List.getElem?_take, if_pos (by omega)]
      simp
    refine ⟨q, 0, e1, by omega, lt_of_block hg, ?_, ?_, ?_, ?_⟩
    · have := hget 0 (by omega); rw [Nat.zero_add]; exact this
    · have := hget 1 (by omega); rw [Nat.zero_add]; exact this
    · have := hget 2 (by omega); rw [Nat.zero_add]; exact this
    · have := hget 3 (by omega); rw [Nat.zero_add]; exact this
theorem ESt.bad {w0 : World} {c : Nat} {b : ByteArray} {D : Nat → Nat → DR} {a0 g N : Nat} {O : Obj} {w : World} {j aj n : Nat} {KV K : Nat → VT} {va : Option Addr} {vc : Nat} {wr w1 : World} {x : Int} (h : ESt w0 c b D a0 g N O w j aj KV K va vc wr) (hd : D j aj = .bad x) (hj : j < n) (ho : Only (fun k => k = c) wr w1) : SeqRes w0 c b n (seqD D a0 n) w (.panicked (failP x)) w1 := by
  rw [seq_up (seq_stop h.seq hd) (show j + 1 ≤ n by omega)]
  exact ⟨rfl, only_two h.now.only ho⟩
theorem ESt.start {w0 : World} {c : Nat} {b : ByteArray} (D : Nat → Nat → DR) {a : Nat} {w : World} (h : RdAt w0 c b a w) (o : Obj) : ESt w0 c b D a w.heap.size (w.heap.size + 1) o w 0 a (fun _ => .nil) (fun _ => .nil) none 0 (w.alloc o) :=
  ⟨(RdNow.start h).alloc o, alloc_at w o, World.ownsRow_nil _ _ _ _, fun i hi => absurd hi (Nat.not_lt_zero i), rfl, ⟨lt_of_block h.cur, Nat.le_refl _, Nat.lt_succ_self _, by simp, h.low.size⟩⟩
set_option maxRecDepth 100000 in
set_option maxHeartbeats 4000000 in
theorem relems_any {w0 w : World} {c a : Nat} {b : ByteArray} (ao : Option Addr) (len cap p n : Nat) (hn : n ≤ 64) (d : Nat → DR) (HC : ValC w0 c b ao len cap p d) (h : RdAt w0 c b a w) :
    Calls Tryz.prog 41 #[.agg #[.slice ao len cap, .pointer (some ⟨c, 0, none⟩)], .int .i64 (p : Nat), .int .i64 (n : Nat)] w (SeqRes w0 c b n (seqD (fun _ => d) a n) w) := by
  obtain ⟨i0, hi0, hz0, hz1, hz2⟩ := info_parts infoValue9
  have HS := Lib.hid (ESt.start (fun _ => d) h (rdO ao len cap c))
  have HC := Lib.hid HC
  obtain ⟨Q, hQ⟩ : ∃ Q, SeqRes w0 c b n (seqD (fun _ => d) a n) w = Q := ⟨_, rfl⟩
  rw [hQ]
  have HQ := Lib.hid hQ
  clear h hQ
  go_enter Tryz.func41, Tryz.ntmps41
  go_wp2
  go_loopw [9, 7] (fun i l wr => ∃ (j aj : Nat) (va : Option Addr) (vc : Nat) (KV K : Nat → VT), j ≤ n ∧ i = .int .i64 j ∧ l = .slice va j vc ∧ Hid (ESt w0 c b (fun _ => d) a w.heap.size (w.heap.size + 1) (rdO ao len cap c) w j aj KV K va vc wr)) (fun i _ _ => n - (intOf i).toNat)
  case atStart => exact ⟨0, a, none, 0, _, _, Nat.zero_le _, rfl, rfl, HS⟩
  case round =>
    obtain ⟨j, aj, va, vc, KV, K, hj, rfl, rfl, HP⟩ := hrel
    by_cases hlt : j < n
    · have q0 := cell_at (j := 0) HP.out.box rfl
      have q1 := cell_at (j := 1) HP.out.box rfl
      cases hd : d aj with
      | bad x =>
        have hcx : ∀ wx, RdAt w0 c b aj wx → Calls Tryz.prog 21 #[.agg #[.slice ao len cap, .pointer (some ⟨c, 0, none⟩)], .int .i64 (p : Nat)] wx (BadTo c x wx) := fun wx h' => by
          have := HC.out wx aj h'; rw [hd] at this; exact this
        have HCX := Lib.hid hcx
        have HD := Lib.hid hd
        clear hcx hd
        go_wp2_with (go_at_call 21; refine (HCX.out _ HP.out.now.rd).mono ?_; rintro e w1 ⟨rfl, ho⟩)
        exact ⟨rfl, by rw [← HQ.out]; exact HP.out.bad HD.out hlt ho⟩
      | ok V a2 =>
        have hcx : ∀ wx, RdAt w0 c b aj wx → Calls Tryz.prog 21 #[.agg #[.slice ao len cap, .pointer (some ⟨c, 0, none⟩)], .int .i64 (p : Nat)] wx (ValTo w0 c b a2 V wx) := fun wx h' => by
          have := HC.out wx aj h'; rw [hd] at this; exact this
        have HCX := Lib.hid hcx
        have HD := Lib.hid hd
        clear hcx hd
        go_wp2_with (first
          | (go_at_call 21; refine (HCX.out _ HP.out.now.rd).mono ?_; rintro e w1 ⟨U, rfl, hU, hv, ho, hr⟩; have HU := Lib.hid hU; have HV := Lib.hid hv; have HO := Lib.hid ho; have HR := Lib.hid hr; have HRW := Lib.hid (show (w1.alloc (.cells #[.int .i64 U.kind, .int .u64 U.num, .string U.text, .slice U.ia U.len U.cap] 28)).ownsRow (w.heap.size + 1) 28 4 (.slice va j vc) j (rowL9 K j) from row_keep (HO.out.row HP.out.row (fun k hk e => by have := (HP.out.row.lt k hk).1; have := HP.out.base; omega)) ((Below.refl _ _).alloc (Nat.le_refl _) _)); have hsz1 := HO.out.size; have hsz2 := HP.out.base; have hone : ∀ u ∈ ([.int .i64 U.kind, .int .u64 U.num, .string U.text, .slice U.ia U.len U.cap] : List Value), u.oneCell' = true := (by intro u hu; simp only [List.mem_cons, List.not_mem_nil, or_false] at hu; rcases hu with rfl | rfl | rfl | rfl <;> rfl); clear hU hv ho hr)
          | (at_builtin; refine wpList_append_lies _ (by rfl) (.tmp 11) (.tmp 15) 26 (by rfl) (w.heap.size + 1) 28 i0 (.agg #[.int .i64 0, .int .u64 0, .string ⟨#[]⟩, .slice none 0 0]) 4 56 Tryz.underlying26 hi0 hz0 hz1 hz2 (by rfl) (by decide) (.slice va j vc) j (rowL9 K j) (by rfl) HRW.out ⟨w1.heap.size, 0, none⟩ 1 1 [.int .i64 U.kind, .int .u64 U.num, .string U.text, .slice U.ia U.len U.cap] (by rfl) (by rfl) (World.news_of_block (alloc_at w1 _)) hone (by decide) (by unfold maxLen; omega) (by omega) (by simp; omega) (w1.heap.size + 1) (by simp) ?_; intro g4 c4 w3 hown4 hgrow hat hlt2; have HG4 := Lib.hid hgrow; have HW4 := Lib.hid hown4; have HAT := Lib.hid hat; clear hgrow hown4 hat))
        go_roundw
        case rel => exact ⟨j + 1, a2, _, _, _, _, by omega, by go_num, rfl, Lib.hid (HP.out.next HD.out HO.out HR.out HU.out HV.out ((Below.refl _ _).alloc (Nat.le_refl _) _) HG4.out HW4.out (by simpa using HAT.out))⟩
        case measure => simp [intOf]; omega
    · obtain rfl : j = n := by omega
      go_wp2
      rw [← HQ.out]
      exact HP.out.made
/-- a list's item stands beside the cursor -/
theorem item_only {w w' : World} {c : Nat} {b : ByteArray} {a er : Int} {ao : Option Addr} {i : Nat} {x : ItemV} (h : ItemAt w ao i x) (hc : CurAt c b a er w) (ho : Only (fun k => k = c) w w') : ItemAt w' ao i x := by
  obtain ⟨q, off, e, h0, h1, h2, h3, h4, r⟩ := h
  have hq : q ≠ c := fun hqc => by
    subst hqc
    unfold CurAt at hc
    simp [World.cell?, hc] at h3
  have key : ∀ o v, w.cell? ⟨q, o, none⟩ = some v → w'.cell? ⟨q, o, none⟩ = some v := fun o v hv => by
    have hl := World.block_lt_of_cell? _ _ hv
    rw [← hv]
    exact cell_same (ho.block q hl hq)
  exact ⟨q, off, e, key _ _ h0, key _ _ h1, key _ _ h2, key _ _ h3, key _ _ h4, r⟩
set_option maxRecDepth 100000 in
set_option maxHeartbeats 4000000 in
theorem rmembers_any {w0 w : World} {c a : Nat} {b : ByteArray} (ao : Option Addr) (len cap : Nat) (ma : Option Addr) (m mc : Nat) (hn : m ≤ 64) (X : Nat → ItemV) (p : Nat → Nat) (hp : ∀ i, i < m → (X i).type = (p i : Nat)) (D : Nat → Nat → DR) (HC : ∀ i, i < m → ValC w0 c b ao len cap (p i) (D i)) (h : RdAt w0 c b a w) (HI : ∀ i, i < m → ItemAt w ma i (X i)) :
    Calls Tryz.prog 43 #[.agg #[.slice ao len cap, .pointer (some ⟨c, 0, none⟩)], .slice ma m mc] w (SeqRes w0 c b m (seqD D a m) w) := by
  obtain ⟨i0, hi0, hz0, hz1, hz2⟩ := info_parts infoValue9
  have HS := Lib.hid (ESt.start D h (rdO ao len cap c))
  have HC := Lib.hid HC
  have HIT := Lib.hid (fun wx (ho : Only (fun k => k = c) w wx) i (hi : i < m) => item_only (HI i hi) h.cur ho)
  have HPT := Lib.hid hp
  obtain ⟨Q, hQ⟩ : ∃ Q, SeqRes w0 c b m (seqD D a m) w = Q := ⟨_, rfl⟩
  rw [hQ]
  have HQ := Lib.hid hQ
  clear h hQ HI hp
  go_enter Tryz.func43, Tryz.ntmps43
  go_wp2
  go_loopw [10, 5] (fun i l wr => ∃ (j aj : Nat) (va : Option Addr) (vc : Nat) (KV K : Nat → VT), j ≤ m ∧ i = .int .i64 j ∧ l = .slice va j vc ∧ Hid (ESt w0 c b D a w.heap.size (w.heap.size + 1) (rdO ao len cap c) w j aj KV K va vc wr)) (fun i _ _ => m - (intOf i).toNat)
  case atStart => exact ⟨0, a, none, 0, _, _, Nat.zero_le _, rfl, rfl, HS⟩
  case round =>
    obtain ⟨j, aj, va, vc, KV, K, hj, rfl, rfl, HP⟩ := hrel
    by_cases hlt : j < m
    · obtain ⟨ib, io, rfl, i0', i1, i2, i3, i4, iw⟩ := HIT.out wr HP.out.now.only j hlt
      rw [HPT.out j hlt] at i2
      have hbs := HP.out.base
      have HPX := Lib.hid (HP.out.step ((Below.refl _ _).alloc (Nat.le_refl _) (.cells #[.string (X j).name, .int .u64 (X j).num, .int .i64 (p j : Nat), .bool (X j).key, .bool (X j).rest] 47)))
      have HY := Lib.hid (alloc_at wr (.cells #[.string (X j).name, .int .u64 (X j).num, .int .i64 (p j : Nat), .bool (X j).key, .bool (X j).rest] 47))
      clear iw
      go_upto_region 5 with (fail)
      clear HP i0' i1 i2 i3 i4
      generalize wr.alloc (.cells #[.string (X j).name, .int .u64 (X j).num, .int .i64 (p j : Nat), .bool (X j).key, .bool (X j).rest] 47) = wy at *
      have HP := HPX
      clear HPX
      have q0 := cell_at (j := 0) HP.out.box rfl
      have q1 := cell_at (j := 1) HP.out.box rfl
      have y2 := cell_at (j := 2) HY.out rfl
      cases hd : D j aj with
      | bad x =>
        have hcx : ∀ wx, RdAt w0 c b aj wx → Calls Tryz.prog 21 #[.agg #[.slice ao len cap, .pointer (some ⟨c, 0, none⟩)], .int .i64 (p j : Nat)] wx (BadTo c x wx) := fun wx h' => by
          have := HC.out j hlt wx aj h'; rw [hd] at this; exact this
        have HCX := Lib.hid hcx
        have HD := Lib.hid hd
        clear hcx hd
        go_wp2_with (go_at_call 21; refine (HCX.out _ HP.out.now.rd).mono ?_; rintro e w1 ⟨rfl, ho⟩)
        exact ⟨rfl, by rw [← HQ.out]; exact HP.out.bad HD.out hlt ho⟩
      | ok V a2 =>
        have hcx : ∀ wx, RdAt w0 c b aj wx → Calls Tryz.prog 21 #[.agg #[.slice ao len cap, .pointer (some ⟨c, 0, none⟩)], .int .i64 (p j : Nat)] wx (ValTo w0 c b a2 V wx) := fun wx h' => by
          have := HC.out j hlt wx aj h'; rw [hd] at this; exact this
        have HCX := Lib.hid hcx
        have HD := Lib.hid hd
        clear hcx hd
        go_wp2_with (first
          | (go_at_call 21; refine (HCX.out _ HP.out.now.rd).mono ?_; rintro e w1 ⟨U, rfl, hU, hv, ho, hr⟩; have HU := Lib.hid hU; have HV := Lib.hid hv; have HO := Lib.hid ho; have HR := Lib.hid hr; have HRW := Lib.hid (show (w1.alloc (.cells #[.int .i64 U.kind, .int .u64 U.num, .string U.text, .slice U.ia U.len U.cap] 28)).ownsRow (w.heap.size + 1) 28 4 (.slice va j vc) j (rowL9 K j) from row_keep (HO.out.row HP.out.row (fun k hk e => by have := (HP.out.row.lt k hk).1; have := HP.out.base; omega)) ((Below.refl _ _).alloc (Nat.le_refl _) _)); have hsz1 := HO.out.size; have hsz2 := HP.out.base; have hone : ∀ u ∈ ([.int .i64 U.kind, .int .u64 U.num, .string U.text, .slice U.ia U.len U.cap] : List Value), u.oneCell' = true := (by intro u hu; simp only [List.mem_cons, List.not_mem_nil, or_false] at hu; rcases hu with rfl | rfl | rfl | rfl <;> rfl); clear hU hv ho hr)
          | (at_builtin; refine wpList_append_lies _ (by rfl) (.tmp 14) (.tmp 19) 26 (by rfl) (w.heap.size + 1) 28 i0 (.agg #[.int .i64 0, .int .u64 0, .string ⟨#[]⟩, .slice none 0 0]) 4 56 Tryz.underlying26 hi0 hz0 hz1 hz2 (by rfl) (by decide) (.slice va j vc) j (rowL9 K j) (by rfl) HRW.out ⟨w1.heap.size, 0, none⟩ 1 1 [.int .i64 U.kind, .int .u64 U.num, .string U.text, .slice U.ia U.len U.cap] (by rfl) (by rfl) (World.news_of_block (alloc_at w1 _)) hone (by decide) (by unfold maxLen; omega) (by omega) (by simp; omega) (w1.heap.size + 1) (by simp) ?_; intro g4 c4 w3 hown4 hgrow hat hlt2; have HG4 := Lib.hid hgrow; have HW4 := Lib.hid hown4; have HAT := Lib.hid hat; clear hgrow hown4 hat))
        go_roundw
        case rel => exact ⟨j + 1, a2, _, _, _, _, by omega, by go_num, rfl, Lib.hid (HP.out.next HD.out HO.out HR.out HU.out HV.out ((Below.refl _ _).alloc (Nat.le_refl _) _) HG4.out HW4.out (by simpa using HAT.out))⟩
        case measure => simp [intOf]; omega
    · obtain rfl : j = m := by omega
      go_wp2
      rw [← HQ.out]
      exact HP.out.made
end Go.Proofs.YtmnemddagcfjgaaGreatDoor
