/- Text: the text of a path. -/
import Derived.Test.YtcpjbimojliogaaGreatDoorPathEnd
import Derived.Test.YtcpjbimojliogaaGreatDoorValTop
import Derived.Test.YtcpjbimojliogaaGreatDoorPathNames
namespace Go.Proofs.YtcpjbimojliogaaGreatDoor
open Go Go.RowKit Go.Shelf
set_option linter.unusedVariables false
attribute [local go_sem] Oper.semAt_some

theorem dec2 : ∀ i, i < 100 → (Lib.decDigits i).length ≤ 2 := by decide +kernel
theorem itoa12_any (i : Nat) (hi : i < 100) (w : World) : Calls Tryz.prog 31 #[.int .i64 (i : Nat)] w fun e w' => e = .returned (.string ⟨(Lib.decDigits i).toArray⟩) ∧ w' = w := by
  have HS := Lib.hid (fun wx => Tryz.internal_strconv_small i hi wx)
  have k1 : decide ((i : Int) < 100) = true := by simp; omega
  have HF := Lib.hid (fun (wx : World) => show Calls Tryz.prog 91 #[.int .i64 (i : Nat), .int .i64 10] wx fun e w' => e = .returned (.string ⟨(Lib.decDigits i).toArray⟩) ∧ w' = wx by
    go_enter Tryz.func91, Tryz.ntmps91
    go_wp2_with (go_at_call 128; refine (HS.out _).mono ?_; rintro e w1 ⟨rfl, rfl⟩)
    go_ret
    exact ⟨rfl, rfl⟩)
  have HI := Lib.hid (fun (wx : World) => show Calls Tryz.prog 57 #[.int .i64 (i : Nat)] wx fun e w' => e = .returned (.string ⟨(Lib.decDigits i).toArray⟩) ∧ w' = wx by
    go_enter Tryz.func57, Tryz.ntmps57
    go_wp2_with (go_at_call 91; refine (HF.out _).mono ?_; rintro e w1 ⟨rfl, rfl⟩)
    go_ret
    exact ⟨rfl, rfl⟩)
  go_enter Tryz.func31, Tryz.ntmps31
  go_wp2_with (go_at_call 57; refine (HI.out _).mono ?_; rintro e w1 ⟨rfl, rfl⟩)
  go_ret
  exact ⟨rfl, rfl⟩

/-- a step's text behind the text so far -/
def addT (L : Nat → TypeV) (x : Nat × StepV) (l : List UInt8) : List UInt8 :=
  if x.2.elem then l ++ ([91] ++ Lib.decDigits x.2.n.toNat ++ [93]) else (if 0 < l.length then l ++ [46] else l) ++ ((L x.1).items x.2.n.toNat).name.data.toList
def textG (L : Nat → TypeV) : List (Nat × StepV) → List UInt8 → List UInt8
  | [], l => l
  | x :: r, l => textG L r (addT L x l)
/-- a path's text, or none -/
def textA (L : Nat → TypeV) (len : Nat) (t : Int) (ps : List StepV) : Option (List UInt8 × Nat) :=
  if ps = [] then none else (endA L len t ps).map fun u => (textG L (alongL L t.toNat ps) [], u)
def textV : Option (List UInt8 × Nat) → Value
  | some x => .tuple #[.string ⟨x.1.toArray⟩, .int .i64 (x.2 : Nat), .bool true]
  | none => .tuple #[.string ⟨#[]⟩, .int .i64 0, .bool false]

theorem own_stays12x {B : Nat} {X Y : World} {base n : Nat} {e : TypeId} {size : Nat} {v : Value} {xs : List Value} (h : X.ownsRow base e size v n xs) (hst : Stays B X Y) : Y.ownsRow base e size v n xs := by
  refine ⟨h.1, ?_⟩
  rcases h.2 with h2 | ⟨g, cap, cur, h3, h4, h5, h6⟩
  · exact .inl h2
  · exact .inr ⟨g, cap, cur, h3, h4, hst.same _ _ h5 (.inl rfl), h6⟩
theorem TxtAt.stays {T : TypeId} {B b B' : Nat} {l : List UInt8} {X Y : World} (h : TxtAt T B b l X) (hst : Stays B' X Y) : TxtAt T B b l Y := by
  have hk : ∀ p, Lib.BuilderAt T 5 B b p (Lib.byteCells l) X → Lib.BuilderAt T 5 B b p (Lib.byteCells l) Y := by
    rintro p ⟨hB, v, hbk, hown, hne⟩
    exact ⟨hB, v, hst.same _ _ hbk (.inl rfl), own_stays12x hown hst, hne⟩
  exact h.elim (fun h => .inl (hk _ h)) (fun h => .inr (hk _ h))
theorem kept_keeps {B b : Nat} {X Y : World} (hs : X.heap.size ≤ Y.heap.size) (hk : Lib.OthersKept 5 (some b) X Y) (hb : ∃ c t fz, X.heap[b]? = some (.cells c t fz)) : KeepsFrom B X Y :=
  ⟨hs, fun k o _ hk' ho => hk k o hk' (fun e => by cases e; obtain ⟨c, t, fz, hc⟩ := hb; rw [hc] at hk'; cases hk'; cases ho) (fun c fz e => by rw [e] at ho; cases ho)⟩
theorem TxtAt.row {T : TypeId} {B b : Nat} {l : List UInt8} {w : World} (h : TxtAt T B b l w) : ∃ c t fz, w.heap[b]? = some (.cells c t fz) := by
  rcases h with ⟨_, v, hb, _⟩ | ⟨_, v, hb, _⟩
  · exact ⟨_, _, _, hb⟩
  · exact ⟨_, _, _, hb⟩
/-- the iterator's boxes and steps, through a builder's writing -/
theorem kpS_of {m B : Nat} {X Y : World} {c1 c2 c3 : Array Value} {f1 f2 f3 : Nat × Nat} (hb : Below B X Y) (hk : Lib.OthersKept 5 (some B) X Y) (hm : m ≤ B) (r1 : X.heap[B + 1]? = some (.cells c1 22 f1)) (r2 : X.heap[B + 2]? = some (.cells c2 3 f2)) (r3 : X.heap[B + 3]? = some (.cells c3 25 f3)) : KpS m (B + 1) (B + 4) X Y :=
  ⟨⟨hb.mono hm, fun k h1 h2 => by
    have h3 : k = B + 1 ∨ k = B + 2 ∨ k = B + 3 := by omega
    rcases h3 with rfl | rfl | rfl
    · rw [r1]; exact hk _ _ r1 (by simp) (fun c fz e => by cases e)
    · rw [r2]; exact hk _ _ r2 (by simp) (fun c fz e => by cases e)
    · rw [r3]; exact hk _ _ r3 (by simp) (fun c fz e => by cases e)⟩, fun k cs fr h1 h2 => hk _ _ h2 (by simp; omega) (fun c fz e => by cases e)⟩
theorem along_rows (w1 : World) (o : Obj) (ao : Option Addr) (len cap : Nat) (t : Int) (pa : Option Addr) (n pc : Nat) {W0 : World} (h : (((w1.alloc o).alloc (.cells #[.slice ao len cap] 22)).alloc (.cells #[.int .i64 t] 3)).alloc (.cells #[.slice pa n pc] 25) = W0) :
    W0.heap[w1.heap.size + 1]? = some (.cells #[.slice ao len cap] 22) ∧ W0.heap[w1.heap.size + 2]? = some (.cells #[.int .i64 t] 3) ∧ W0.heap[w1.heap.size + 3]? = some (.cells #[.slice pa n pc] 25) := by
  subst h
  refine ⟨?_, ?_, ?_⟩
  · have h := heap_keep (heap_keep (alloc_at (w1.alloc o) (.cells #[.slice ao len cap] 22)) ((Below.refl _ _).alloc (Nat.le_refl _) (.cells #[.int .i64 t] 3))) ((Below.refl _ _).alloc (Nat.le_refl _) (.cells #[.slice pa n pc] 25))
    rw [World.size_alloc] at h
    exact h
  · have h := heap_keep (alloc_at ((w1.alloc o).alloc (.cells #[.slice ao len cap] 22)) (.cells #[.int .i64 t] 3)) ((Below.refl _ _).alloc (Nat.le_refl _) (.cells #[.slice pa n pc] 25))
    rw [World.size_alloc, World.size_alloc] at h
    exact h
  · have h := alloc_at (((w1.alloc o).alloc (.cells #[.slice ao len cap] 22)).alloc (.cells #[.int .i64 t] 3)) (.cells #[.slice pa n pc] 25)
    rw [World.size_alloc, World.size_alloc, World.size_alloc] at h
    exact h
/-- the endpoint of a text's bytes stays within bounds -/
def okStep (L : Nat → TypeV) (len : Nat) (x : Nat × StepV) : Prop := x.1 < len ∧ nextB (L x.1) x.2 = true
theorem end_ok {L : Nat → TypeV} {len : Nat} (hv : ∀ i, i < len → OkT L i) : ∀ (ps : List StepV) (t u : Nat), t < len → endL L t ps = some u → ∀ x, x ∈ alongL L t ps → okStep L len x
  | [], t, u, _, _, x, hx => by simp [alongL] at hx
  | s :: r, t, u, ht, he, x, hx => by
    simp only [endL] at he
    split at he
    · rename_i hb
      simp only [alongL, List.mem_cons] at hx
      rcases hx with rfl | hx
      · exact ⟨ht, hb⟩
      · exact end_ok hv r _ u (next_part hv ht).2 he x hx
    · cases he

set_option maxRecDepth 100000 in
set_option maxHeartbeats 3000000 in
theorem text12_any (ao : Option Addr) (len cap : Nat) (L : Nat → TypeV) (hlen : len ≤ 1000000) (hcap : len ≤ cap) (t : Int) (pa : Option Addr) (n pc : Nat) (P : Nat → StepV) (hn : n ≤ 1000000) (w : World) (H : ∀ i, i < len → TypeAt w ao i (L i)) (HP : ∀ i, i < n → StepAt w pa i (P i)) :
    Calls Tryz.prog 10 #[.slice ao len cap, .int .i64 t, .slice pa n pc] w fun e w' => e = .returned (textV (textA L len t (stepsL P n))) ∧ Below w.heap.size w w' := by
  have hmix : Tryz.prog.follows .mixedOrders = true := by kernel_rfl
  have HEND := Lib.hid (fun wx (hb : Below w.heap.size w wx) => end12_any ao len cap L hlen hcap t pa n pc P hn wx (hold H hb) (holdP HP hb))
  have HAL := Lib.hid (fun wx => along12_any ao len cap t pa n pc wx)
  have HB0 := Lib.hid ((Below.refl w.heap.size w).alloc (Nat.le_refl _) (.cells #[.slice ao len cap] 22))
  have HR0 := Lib.hid (alloc_at w (.cells #[.slice ao len cap] 22))
  have hz1 : (w.alloc (.cells #[.slice ao len cap] 22)).heap.size = w.heap.size + 1 := by simp
  have hta : textA L len t (stepsL P n) = if stepsL P n = [] then none else (endA L len t (stepsL P n)).map fun u => (textG L (alongL L t.toNat (stepsL P n)) [], u) := rfl
  have hnz : (stepsL P n = []) ↔ n = 0 := by rw [← List.length_eq_zero_iff, stepsL_len]
  have HH := Lib.hid H
  have HPP := Lib.hid HP
  clear H HP
  cases hE : endA L len t (stepsL P n) with
  | none =>
    have e1 : textA L len t (stepsL P n) = none := by rw [hta, hE]; simp
    rw [e1]
    rw [hE] at HEND
    unfold endV at HEND
    clear hta e1
    refine calls_of_marks Tryz.func10 rfl ?_
    simp only [Tryz.ntmps10, List.size_toArray, List.length_cons, List.length_nil, Nat.reduceAdd, Nat.reduceSub, Array.replicate_succ, Array.replicate_zero, List.push_toArray, List.append_toArray, List.nil_append, List.cons_append]
    go_wp2_with (go_at_call 28; refine (HEND.out _ HB0.out).mono ?_; rintro e w1 ⟨rfl, hb⟩)
    exact leavesM_nil (v := .tuple #[.string ⟨#[]⟩, .int .i64 0, .bool false]) (by simp [results, Tryz.results10]) ⟨rfl, HB0.out.trans (hb.mono (by omega))⟩
  | some u =>
    rw [hE] at HEND hta
    unfold endV at HEND
    by_cases h0 : n = 0
    · have e1 : textA L len t (stepsL P n) = none := by rw [hta, if_pos (hnz.2 h0)]
      rw [e1]
      have k0 : ((n : Int) == 0) = true := by simp; omega
      clear hta e1 h0
      refine calls_of_marks Tryz.func10 rfl ?_
      simp only [Tryz.ntmps10, List.size_toArray, List.length_cons, List.length_nil, Nat.reduceAdd, Nat.reduceSub, Array.replicate_succ, Array.replicate_zero, List.push_toArray, List.append_toArray, List.nil_append, List.cons_append]
      go_wp2_with (go_at_call 28; refine (HEND.out _ HB0.out).mono ?_; rintro e w1 ⟨rfl, hb⟩)
      exact leavesM_nil (v := .tuple #[.string ⟨#[]⟩, .int .i64 0, .bool false]) (by simp [results, Tryz.results10]) ⟨rfl, HB0.out.trans (hb.mono (by omega))⟩
    · have k0 : ((n : Int) == 0) = false := by simp; omega
      have e1 : textA L len t (stepsL P n) = some (textG L (alongL L t.toNat (stepsL P n)) [], u) := by rw [hta, if_neg (fun h => h0 (hnz.1 h))]; rfl
      rw [e1]
      have hT : hasT L len t = true := by
        unfold endA at hE
        split at hE
        · assumption
        · cases hE
      obtain ⟨k, rfl, hk, hok⟩ := hasT_in hT
      have hv := ok_all hok
      have hE2 : endL L k (stepsL P n) = some u := by unfold endA at hE; rw [hT] at hE; simpa using hE
      have hG := end_ok hv _ _ _ hk hE2
      rw [Int.toNat_natCast]
      clear hta e1 hE hE2
      refine calls_of_marks Tryz.func10 rfl ?_
      simp only [Tryz.ntmps10, List.size_toArray, List.length_cons, List.length_nil, Nat.reduceAdd, Nat.reduceSub, Array.replicate_succ, Array.replicate_zero, List.push_toArray, List.append_toArray, List.nil_append, List.cons_append]
      go_wp2_with (first
        | (go_at_call 28; refine (HEND.out _ HB0.out).mono ?_; rintro e w1 ⟨rfl, hb⟩; have q0 := heap_keep HR0.out hb; have c0 := cell_at (j := 0) (v := .slice ao len cap) q0 rfl; have hz := hb.size; rw [hz1] at hz; have hne0 : ¬ w.heap.size = w1.heap.size := (by omega); have hlt0 : w.heap.size < w1.heap.size := (by omega))
        | (go_at_call 29; refine (HAL.out _).mono ?_; rintro e w2 ⟨rfl, rfl⟩))
      obtain ⟨W0, hW0, hz0, hb0, ht0, hl0, hk0, hp0⟩ := along_boxes w1 (.cells #[.pointer none, .slice none 0 0] 78) ao len cap (k : Nat) pa n pc
      obtain ⟨r1, r2, r3⟩ := along_rows w1 (.cells #[.pointer none, .slice none 0 0] 78) ao len cap (k : Nat) pa n pc hW0
      rw [hW0]
      have g0 := heap_keep q0 hb0
      have hbw : Below w.heap.size w W0 := (HB0.out.trans (hb.mono (by omega))).trans (hb0.mono (by omega))
      have hLB : LiesB 78 := ⟨by kernel_rfl, by decide⟩
      have ht : TxtAt 78 w1.heap.size w1.heap.size [] W0 := .inl ⟨Nat.le_refl _, _, ht0, World.ownsRow_nil _ _ _ _, by simp [Value.ownBlock]⟩
      have HNM := Lib.hid (names_ok hok)
      have HHO := Lib.hid (fun wx (hb : Below w.heap.size w wx) => hold HH.out hb)
      have HOK := Lib.hid hv
      clear hW0 q0 c0
      refine wp_range (gf := 55) (w0 := W0) rfl (enters_of Tryz.func55 (by kernel_rfl) rfl)
        (along12_stops (w1.heap.size + 1) (w1.heap.size + 4) (w1.heap.size + 2) (w1.heap.size + 3) (w1.heap.size + 1) ao len cap L hlen hv k hk pa n pc P hn (okStep L len) hG w HH.out HPP.out W0 hbw (by omega) (by omega) (by omega) (by omega) (by omega) hk0 hp0 hl0)
        (fun h k => h.trans k) (KpS.putObj (by omega) (by omega)) (Below.refl _ _) (fun _ => rfl)
        (fun pre W => (∃ txt : List UInt8, TxtAt 78 w1.heap.size w1.heap.size txt W ∧ txt.length ≤ 20 * pre.length ∧ ∀ r, textG L (pre.map (·.1) ++ r) [] = textG L r txt) ∧ W.heap[w.heap.size]? = some (.cells #[.slice ao len cap] 22) ∧
          W.heap[w1.heap.size + 1]? = some (.cells #[.slice ao len cap] 22) ∧ W.heap[w1.heap.size + 2]? = some (.cells #[.int .i64 (k : Nat)] 3) ∧ W.heap[w1.heap.size + 3]? = some (.cells #[.slice pa n pc] 25) ∧ Below w.heap.size w W ∧ w1.heap.size + 4 ≤ W.heap.size)
        (fun pre W => False)
        (fun pre X Y ⟨⟨txt, h1, h11, h2⟩, h3, h4, h5, h6, h7, h8⟩ hst => ⟨⟨txt, h1.stays hst, h11, h2⟩, hst.same _ _ h3 (.inl rfl), hst.same _ _ h4 (.inl rfl), hst.same _ _ h5 (.inl rfl), hst.same _ _ h6 (.inl rfl), hst.below h7 (Nat.le_refl _) (by omega), Nat.le_trans h8 hst.size⟩)
        (fun pre X Y h _ => h)
        ⟨⟨[], ht, by simp, fun r => rfl⟩, g0, r1, r2, r3, hbw, by omega⟩ ?round ?done ?stop
      case round =>
        rintro l ⟨⟨a, s⟩, hx⟩ W K ⟨pre, -, -, -, -, -, hBW, hSW⟩ hK
        simp only [stepVal]
        gi_wp2
        refine hK _ _ ((KeepsOthers.alloc _ _).from _) (KpS.of_below ((Below.refl _ _).alloc (Nat.le_refl _) _) (by omega) (by omega)) (Stays.alloc _ _) ?_
        have hs0 := alloc_at W (.cells #[.bool s.elem, .int .i64 s.n] 56)
        clear hBW
        rintro l2 pre2 W2 hst ⟨⟨txt, h1, h11, h2⟩, h3, h4, h5, h6, h7, h9⟩ hl
        have hs1 := hst.same _ _ hs0 (.inl rfl)
        have c0 := cell_at (j := 0) (v := .slice ao len cap) h3 rfl
        have s0 := cell_at (j := 0) (v := .bool s.elem) hs1 rfl
        have s1 := cell_at (j := 1) (v := .int .i64 s.n) hs1 rfl
        have hen : ∀ r, textG L ((pre2.map (·.1) ++ [(a, s)]) ++ r) [] = textG L r (addT L (a, s) txt) := fun r => by
          rw [List.append_assoc, h2]; rfl
        have HEN := Lib.hid hen
        obtain ⟨hxa, hxb⟩ := hx
        unfold nextB at hxb
        have hn0 : 0 ≤ s.n := by simp only [Bool.and_eq_true, decide_eq_true_eq] at hxb; exact hxb.1
        obtain ⟨j, hj⟩ := Int.eq_ofNat_of_zero_le hn0
        clear hen h2 hst hs0
        cases hel : s.elem with
        | true =>
          have hjb : j < 64 := by
            rw [hel] at hxb
            simp only [elK, Bool.and_eq_true, Bool.or_eq_true, beq_iff_eq, decide_eq_true_eq, if_true] at hxb
            have := (HOK.out a hxa).bound (by omega)
            omega
          rw [hel] at s0
          rw [hj] at s1
          have HIA := Lib.hid (fun wx => itoa12_any j (by omega) wx)
          have hd2 := dec2 j (by omega)
          have hds : (⟨(Lib.decDigits j).toArray⟩ : ByteArray).size = (Lib.decDigits j).length := by simp [ByteArray.size]
          have HW := Lib.hid (writeString8 78 hLB w1.heap.size w1.heap.size txt (⟨#[91]⟩ ++ ⟨(Lib.decDigits j).toArray⟩ ++ ⟨#[93]⟩) W2 h1 (by simp [ByteArray.size_append, hds]; simp [ByteArray.size]; omega) (by omega))
          gi_wp2_with (first
            | (refine ⟨trivial, ?_⟩; gi_at_call 31; refine (inRnd (HIA.out _)).mono ?_; rintro e w3 ⟨rfl, hw3⟩; have hw4 := hw3.symm; subst hw4)
            | (refine ⟨trivial, ?_⟩; gi_at_call 30; refine (inRnd HW.out).mono ?_; rintro e w4 ⟨rfl, htx, hb4, hk4⟩))
          have hz4 := hb4.size
          have HAT := Lib.hid (show addT L (a, s) txt = txt ++ (⟨#[91]⟩ ++ ⟨(Lib.decDigits j).toArray⟩ ++ ⟨#[93]⟩ : ByteArray).data.toList by
            unfold addT
            simp [hel, hj, ByteArray.data_append])
          have hkf : KeepsFrom (w1.heap.size + 4) W2 w4 := kept_keeps hz4 hk4 h1.row
          exact ⟨(by first | exact hkf | (rw [hz0]; exact hkf)), kpS_of hb4 hk4 (by omega) h4 h5 h6,
            ⟨_, htx, by simp [ByteArray.data_append]; omega, fun r => by rw [← HAT.out]; have := HEN.out r; simpa using this⟩, (hb4.block _ (by omega)).trans h3, hk4 _ _ h4 (by simp) (fun c fz e => by cases e), hk4 _ _ h5 (by simp) (fun c fz e => by cases e), hk4 _ _ h6 (by simp) (fun c fz e => by cases e), h7.trans (hb4.mono (by omega)), by omega⟩
        | false =>
          rw [hel] at hxb s0
          rw [hj] at s1
          have hji : itK (L a).kind = true ∧ j < (L a).ilen := by
            rw [hj] at hxb
            simp only [Bool.and_eq_true, decide_eq_true_eq] at hxb
            have := hxb.2
            simp only [Bool.false_eq_true, if_false, Bool.and_eq_true, decide_eq_true_eq] at this
            exact ⟨this.1, by omega⟩
          have hnk : namedK (L a).kind = true := by
            have := hji.1
            simp only [itK, Bool.or_eq_true, beq_iff_eq] at this
            simp only [namedK]
            rcases this with h | h <;> simp [h]
          obtain ⟨hnm, -⟩ := HNM.out a hxa hnk j hji.2
          have hns : ((L a).items j).name.size ≤ 16 := by rw [name_eq] at hnm; simp at hnm; omega
          have HLN := Lib.hid (fun wx hx => Tryz.Builder_Len w1.heap.size w1.heap.size (Lib.byteCells txt) wx hx)
          have hbl := Lib.byteCells_length txt
          obtain ⟨nmv, hnv⟩ : ∃ nmv, ((L a).items j).name = nmv := ⟨_, rfl⟩
          rw [hnv] at hns
          have HTY := Lib.hid (fun wx hbx => HHO.out wx hbx a hxa)
          obtain ⟨acc, hacc⟩ : ∃ acc, (if 0 < txt.length then txt ++ [46] else txt) = acc := ⟨_, rfl⟩
          have HAT := Lib.hid (show addT L (a, s) txt = acc ++ nmv.data.toList by
            unfold addT
            simp only [hel, hj, Bool.false_eq_true, if_false, Int.toNat_natCast, hnv, hacc])
          clear hnm hxb
          by_cases htn : 0 < txt.length
          · rw [if_pos htn] at hacc
            have hlg : decide ((0 : Int) < (txt.length : Nat)) = true := by simp; omega
            rw [hbl] at HLN
            have HWB := Lib.hid (writeByte8 78 hLB w1.heap.size w1.heap.size txt 46 W2 h1 (by omega) (by omega))
            clear hbl
            gi_wp2_with (first
              | (refine ⟨trivial, ?_⟩; gi_at_call 32; refine (inRnd (HLN.out _ h1)).mono ?_; rintro e w3 ⟨rfl, hw3⟩; have hw4 := hw3.symm; subst hw4)
              | (refine ⟨trivial, ?_⟩; gi_at_call 33; refine (inRnd HWB.out).mono ?_; rintro e w4 ⟨rfl, htx, hb4, hk4⟩))
            have hz4 := hb4.size
            have hbw4 : Below w.heap.size w w4 := h7.trans (hb4.mono (by omega))
            have c9 := (hb4.cell (p := ⟨w.heap.size, 0, none⟩) (by simp; omega)).trans c0
            have hs4 := hk4 _ _ hs1 (by simp; omega) (fun c fz e => by cases e)
            have s9 := cell_at (j := 1) (v := .int .i64 (j : Nat)) hs4 (by simp [hj])
            obtain ⟨tb, tf, rfl, x0, x1, x2, x3, x4, x5, wf, hit⟩ := HTY.out w4 hbw4
            obtain ⟨ib, io, hia, y0, y1, y2, y3, y4, wi⟩ := hit.2 j hji.2
            rw [hnv] at y0
            rw [hia] at x5
            have hjl : ((j : Nat) : Int) < ((L a).ilen : Nat) := by have h' := hji.2; exact_mod_cast h'
            have HW := Lib.hid (writeString8 78 hLB w1.heap.size w1.heap.size (txt ++ [46]) nmv w4.drew htx.drew (by simp; omega) (by show w1.heap.size ≤ w4.heap.size; omega))
            gi_region_with_o (refine ⟨trivial, ?_⟩; gi_at_call 30; refine (inRnd HW.out).mono ?_; rintro e w6 ⟨rfl, htx6, hb6, hk6⟩)
            all_goals
              have hb7 : Below w1.heap.size W2 w6 := hb4.trans ((Below.refl _ w4).drew.trans hb6)
              have hk7 : Lib.OthersKept 5 (some w1.heap.size) W2 w6 := hk4.trans hk6
              have hz6 := hb7.size
              gi_wp2
              have hkf : KeepsFrom (w1.heap.size + 4) W2 w6 := kept_keeps hz6 hk7 h1.row
              exact ⟨(by first | exact hkf | (rw [hz0]; exact hkf)), kpS_of hb7 hk7 (by omega) h4 h5 h6,
                ⟨_, htx6, by have := HAT.out; simp; omega, fun r => by rw [hacc, ← HAT.out]; have := HEN.out r; simpa using this⟩, (hb7.block _ (by omega)).trans h3, hk7 _ _ h4 (by simp) (fun c fz e => by cases e), hk7 _ _ h5 (by simp) (fun c fz e => by cases e), hk7 _ _ h6 (by simp) (fun c fz e => by cases e), h7.trans (hb7.mono (by omega)), by omega⟩
          · rw [if_neg htn] at hacc
            have hlg : decide ((0 : Int) < (txt.length : Nat)) = false := decide_eq_false (by omega)
            rw [hbl] at HLN
            subst hacc
            obtain ⟨tb, tf, rfl, x0, x1, x2, x3, x4, x5, wf, hit⟩ := HTY.out W2 h7
            obtain ⟨ib, io, hia, y0, y1, y2, y3, y4, wi⟩ := hit.2 j hji.2
            rw [hnv] at y0
            rw [hia] at x5
            have hjl : ((j : Nat) : Int) < ((L a).ilen : Nat) := by have h' := hji.2; exact_mod_cast h'
            have HW := Lib.hid (writeString8 78 hLB w1.heap.size w1.heap.size txt nmv W2.drew h1.drew (by omega) (by show w1.heap.size ≤ W2.heap.size; omega))
            clear hbl
            gi_wp2_with (refine ⟨trivial, ?_⟩; gi_at_call 32; refine (inRnd (HLN.out _ h1)).mono ?_; rintro e w3 ⟨rfl, hw3⟩; have hw4 := hw3.symm; subst hw4)
            gi_region_with_o (refine ⟨trivial, ?_⟩; gi_at_call 30; refine (inRnd HW.out).mono ?_; rintro e w4 ⟨rfl, htx, hb4, hk4⟩)
            all_goals
              have hb7 : Below w1.heap.size W2 w4 := (Below.refl _ W2).drew.trans hb4
              have hk7 : Lib.OthersKept 5 (some w1.heap.size) W2 w4 := hk4
              have hz6 := hb7.size
              gi_wp2
              have hkf : KeepsFrom (w1.heap.size + 4) W2 w4 := kept_keeps hz6 hk7 h1.row
              exact ⟨(by first | exact hkf | (rw [hz0]; exact hkf)), kpS_of hb7 hk7 (by omega) h4 h5 h6,
                ⟨_, htx, by simp; omega, fun r => by rw [← HAT.out]; have := HEN.out r; simpa using this⟩, (hb7.block _ (by omega)).trans h3, hk7 _ _ h4 (by simp) (fun c fz e => by cases e), hk7 _ _ h5 (by simp) (fun c fz e => by cases e), hk7 _ _ h6 (by simp) (fun c fz e => by cases e), h7.trans (hb7.mono (by omega)), by omega⟩
      case done =>
        rintro D xs W hD hxs ⟨⟨txt, h1, h11, h2⟩, h3, h4, h5, h6, h7, h8⟩ hdk
        have he : textG L (alongL L k (stepsL P n)) [] = txt := by
          have := h2 []
          rw [List.append_nil, hxs] at this
          exact this
        have HS := Lib.hid (Tryz.Builder_String_any_k w1.heap.size w1.heap.size txt W (Lib.IsBuilderF.of h1) (by omega))
        have HE := Lib.hid he
        clear he
        go_wp2_with (go_at_call 34; refine HS.out.mono ?_; rintro e w5 ⟨rfl, hx5, hb5, hk5⟩)
        have hd5 := hk5 _ _ hdk (by simp; omega) (fun c fz e => by cases e)
        refine leavesM_mark (D := D) hd5 ⟨.tuple #[.string ⟨txt.toArray⟩, .int .i64 (u : Nat), .bool true], by simp [results, Tryz.results10], by rw [HE.out]; rfl, putD_below hd5 (h7.trans (hb5.mono (by omega))) (by omega)⟩
      case stop => exact fun D pre W _ _ h _ => h.elim
end Go.Proofs.YtcpjbimojliogaaGreatDoor
