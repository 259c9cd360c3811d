/- PathBack: for every list of types, every value and every path the law returns true, and its arguments read as before. No condition. -/
import Derived.Test.YtcpjbimojliogaaGreatDoorRdgSlice
import Derived.Test.YtcpjbimojliogaaGreatDoorTie
import Derived.Test.YtcpjbimojliogaaGreatDoorCards
import Derived.SevenTiedAt
import Derived.LaidMore
import Derived.Lay
import Derived.Stop.Joined
import Derived.Test.YtcpjbimojliogaaGreatDoorPathBackMath
namespace Go.Proofs.YtcpjbimojliogaaGreatDoor.pathBack
open Go.ChangeShapes Go.WideShapes Go.ChangeAt Go.RowKit
open Go.ChangeMaps (open_string shut_string)
set_option linter.unusedVariables false
theorem end_in {L : Nat → TypeV} {len : Nat} (hv : ∀ i, i < len → OkT L i) : ∀ (ps : List StepV) (t u : Nat), t < len → endL L t ps = some u → u < len
  | [], t, u, ht, h => by
    simp only [endL] at h
    injection h with h
    omega
  | s :: r, t, u, ht, h => by
    simp only [endL] at h
    split at h
    · exact end_in hv r _ u (next_part (s := s) hv ht).2 h
    · cases h
theorem stepN_steps (P : Nat → StepV) {n i : Nat} (hi : i < n) : stepN (stepsL P n) i = P i := by
  unfold stepN stepsL
  rw [List.getD_eq_getElem?_getD, List.getElem?_map, List.getElem?_range hi]
  rfl
theorem textG_len {L : Nat → TypeV} : ∀ (xs : List (Nat × StepV)) (l : List UInt8), (∀ x ∈ xs, goodX L x) → (textG L xs l).length ≤ l.length + 20 * xs.length
  | [], l, h => by simp [textG]
  | x :: r, l, h => by
    have hx := h x (by simp)
    have h1 : (addT L x l).length ≤ l.length + 20 := by
      unfold goodX at hx
      unfold addT
      split
      · rename_i he
        rw [if_pos he] at hx
        have := dec2 x.2.n.toNat (by omega)
        simp
        omega
      · rename_i he
        rw [if_neg he, name_eq] at hx
        simp only [Bool.and_eq_true, decide_eq_true_eq] at hx
        have h16 := hx.1.1.2
        rw [List.length_append, len_data]
        split <;> simp <;> omega
    have := textG_len r (addT L x l) (fun y hy => h y (by simp [hy]))
    simp only [textG, List.length_cons]
    omega
theorem along_len (L : Nat → TypeV) : ∀ (ps : List StepV) (t : Nat), (alongL L t ps).length = ps.length
  | [], t => rfl
  | s :: r, t => by simp [alongL, along_len L r]
theorem text_len {L : Nat → TypeV} {len : Nat} {t : Int} {ps : List StepV} {tx : List UInt8} {u : Nat} (h : textA L len t ps = some (tx, u)) : tx.length ≤ 20 * ps.length := by
  unfold textA at h
  split at h
  · cases h
  · cases hE : endA L len t ps with
    | none => rw [hE] at h; cases h
    | some v =>
      rw [hE] at h
      obtain ⟨h1, h2⟩ := Prod.mk.inj (Option.some.inj h)
      have hT : hasT L len t = true := by
        unfold endA at hE
        split at hE
        · assumption
        · cases hE
      obtain ⟨k, rfl, hk, hok⟩ := hasT_in hT
      have hE2 : endL L k ps = some v := by unfold endA at hE; rw [hT] at hE; simpa using hE
      obtain ⟨g1, g2⟩ := find_back (ok_all hok) (names_ok hok) ps k v [] hk hE2
      rw [Int.toNat_natCast] at h1
      have := textG_len (alongL L k ps) [] g1
      rw [h1, along_len] at this
      simpa using this
theorem at_zero {L : Nat → TypeV} {len : Nat} {t : Int} {ps : List StepV} {tx : List UInt8} {u : Nat} {T U : VT} {o : Option VT} (h : textA L len t ps = some (tx, u)) (ho : atA L len t ps T = o) (hf : fitsA L len t T = 0) (hth : o.isSome = true) (hU : sameT (o.getD .nil) U = true) : fitsA L len (u : Nat) U = 0 := by
  unfold textA at h
  split at h
  · cases h
  · cases hE : endA L len t ps with
    | none => rw [hE] at h; cases h
    | some v =>
      rw [hE] at h
      obtain ⟨h1, h2⟩ := Prod.mk.inj (Option.some.inj h)
      subst h2
      have hT : hasT L len t = true := by
        unfold endA at hE
        split at hE
        · assumption
        · cases hE
      obtain ⟨k, rfl, hk, hok⟩ := hasT_in hT
      have hE2 : endL L k ps = some v := by unfold endA at hE; rw [hT] at hE; simpa using hE
      have ha : atG L len (alongL L k ps) T = o := by
        rw [← ho]
        unfold atA
        rw [hE, Int.toNat_natCast]
        rfl
      have hft : fitsT L T k = 0 := by
        unfold fitsA at hf
        rwa [hT, if_pos rfl, Int.toNat_natCast] at hf
      cases o with
      | none => cases hth
      | some V =>
        have h3 := at_fits (ok_all hok) ps k v T V hk hE2 ha hft
        have h4 : fitsT L U v = 0 := by rw [← fits_same L V U v hU]; exact h3
        have hvl := end_in (ok_all hok) ps k v hk hE2
        unfold fitsA
        rw [hasT_yes hvl hok, if_pos rfl, Int.toNat_natCast]
        exact h4
set_option maxRecDepth 100000 in
set_option maxHeartbeats 4000000 in
theorem walk_big (ao : Option Addr) (len cap : Nat) (t : Int) (pa : Option Addr) (n pc : Nat) (T : VT) (w : World) (hw : ∀ wx, Below w.heap.size w wx → Calls Tryz.prog 7 #[] wx fun e w' => e = .returned (.bool true) ∧ Below wx.heap.size wx w') (hg : ∀ wx, Below w.heap.size w wx → Calls Tryz.prog 6 #[.slice ao len cap] wx fun e w' => e = .returned (.bool true) ∧ wx = w') :
    Calls Tryz.prog 5 #[.slice ao len cap, .agg #[.int .i64 T.kind, .int .u64 T.num, .string T.text, .slice T.ia T.len T.cap], .agg #[.int .i64 t, .slice pa n pc]] w (fun e w' => e = .returned (.bool true) ∧ Below w.heap.size w w') := by
  have HW := Lib.hid hw
  have HG := Lib.hid hg
  have HQ := Lib.hid (alloc_old (o := (.cells #[.int .i64 t, .slice pa n pc] 40)) (alloc_at w (.cells #[.int .i64 T.kind, .int .u64 T.num, .string T.text, .slice T.ia T.len T.cap] 38)))
  have HK := Lib.hid (show ((w.alloc (.cells #[.int .i64 T.kind, .int .u64 T.num, .string T.text, .slice T.ia T.len T.cap] 38)).alloc (.cells #[.int .i64 t, .slice pa n pc] 40)).heap[w.heap.size + 1]? = some (.cells #[.int .i64 t, .slice pa n pc] 40) from by have := alloc_at (w.alloc (.cells #[.int .i64 T.kind, .int .u64 T.num, .string T.text, .slice T.ia T.len T.cap] 38)) (.cells #[.int .i64 t, .slice pa n pc] 40); rwa [show (w.alloc (.cells #[.int .i64 T.kind, .int .u64 T.num, .string T.text, .slice T.ia T.len T.cap] 38)).heap.size = w.heap.size + 1 by simp] at this)
  have HB := Lib.hid (((Below.refl w.heap.size w).alloc (Nat.le_refl _) (.cells #[.int .i64 T.kind, .int .u64 T.num, .string T.text, .slice T.ia T.len T.cap] 38)).alloc (by simp) (.cells #[.int .i64 t, .slice pa n pc] 40))
  clear hw hg
  go_enter Tryz.func5, Tryz.ntmps5
  go_wp2_with (first
    | (go_at_call 6; refine (HG.out _ HB.out).mono ?_; rintro e w' ⟨rfl, rfl⟩)
    | (go_at_call 7; refine (HW.out _ HB.out).mono ?_; rintro e w9 ⟨rfl, hb9⟩; have HB9 := Lib.hid (below_step8' HB.out hb9); clear hb9))
  go_ret
  exact ⟨rfl, HB9.out⟩
set_option maxRecDepth 100000 in
set_option maxHeartbeats 4000000 in
theorem walk_much (ao : Option Addr) (len cap : Nat) (t : Int) (pa : Option Addr) (n pc : Nat) (T : VT) (w : World) (hw : ∀ wx, Below w.heap.size w wx → Calls Tryz.prog 7 #[] wx fun e w' => e = .returned (.bool true) ∧ Below wx.heap.size wx w') (hg : ∀ wx, Below w.heap.size w wx → Calls Tryz.prog 6 #[.slice ao len cap] wx fun e w' => e = .returned (.bool false) ∧ wx = w') (hmu : ∀ wx, Below w.heap.size w wx → Calls Tryz.prog 13 #[.agg #[.int .i64 T.kind, .int .u64 T.num, .string T.text, .slice T.ia T.len T.cap], .int .i64 0] wx fun e w' => e = .returned (.bool true) ∧ Below wx.heap.size wx w') :
    Calls Tryz.prog 5 #[.slice ao len cap, .agg #[.int .i64 T.kind, .int .u64 T.num, .string T.text, .slice T.ia T.len T.cap], .agg #[.int .i64 t, .slice pa n pc]] w (fun e w' => e = .returned (.bool true) ∧ Below w.heap.size w w') := by
  have HW := Lib.hid hw
  have HG := Lib.hid hg
  have HM := Lib.hid hmu
  have HQ := Lib.hid (alloc_old (o := (.cells #[.int .i64 t, .slice pa n pc] 40)) (alloc_at w (.cells #[.int .i64 T.kind, .int .u64 T.num, .string T.text, .slice T.ia T.len T.cap] 38)))
  have HK := Lib.hid (show ((w.alloc (.cells #[.int .i64 T.kind, .int .u64 T.num, .string T.text, .slice T.ia T.len T.cap] 38)).alloc (.cells #[.int .i64 t, .slice pa n pc] 40)).heap[w.heap.size + 1]? = some (.cells #[.int .i64 t, .slice pa n pc] 40) from by have := alloc_at (w.alloc (.cells #[.int .i64 T.kind, .int .u64 T.num, .string T.text, .slice T.ia T.len T.cap] 38)) (.cells #[.int .i64 t, .slice pa n pc] 40); rwa [show (w.alloc (.cells #[.int .i64 T.kind, .int .u64 T.num, .string T.text, .slice T.ia T.len T.cap] 38)).heap.size = w.heap.size + 1 by simp] at this)
  have HB := Lib.hid (((Below.refl w.heap.size w).alloc (Nat.le_refl _) (.cells #[.int .i64 T.kind, .int .u64 T.num, .string T.text, .slice T.ia T.len T.cap] 38)).alloc (by simp) (.cells #[.int .i64 t, .slice pa n pc] 40))
  clear hw hg hmu
  go_enter Tryz.func5, Tryz.ntmps5
  go_wp2_with (first
    | (go_at_call 6; refine (HG.out _ HB.out).mono ?_; rintro e w' ⟨rfl, rfl⟩)
    | (go_at_call 13; refine (HM.out _ HB.out).mono ?_; rintro e w1 ⟨rfl, hb1⟩; have HB1 := Lib.hid (below_step8' HB.out hb1); have HQ1 := Lib.hid (box_keep HQ.out hb1); have HK1 := Lib.hid (box_keep HK.out hb1); have k0 : w1.cell? ⟨w.heap.size + 1, 0, none⟩ = some (.int .i64 t) := cell_at (j := 0) HK1.out rfl; have k1 : w1.cell? ⟨w.heap.size + 1, 1, none⟩ = some (.slice pa n pc) := cell_at (j := 1) HK1.out rfl; have d0 : w1.cell? ⟨w.heap.size, 0, none⟩ = some (.int .i64 T.kind) := cell_at (j := 0) HQ1.out rfl; have d1 : w1.cell? ⟨w.heap.size, 1, none⟩ = some (.int .u64 T.num) := cell_at (j := 1) HQ1.out rfl; have d2 : w1.cell? ⟨w.heap.size, 2, none⟩ = some (.string T.text) := cell_at (j := 2) HQ1.out rfl; have d3 : w1.cell? ⟨w.heap.size, 3, none⟩ = some (.slice T.ia T.len T.cap) := cell_at (j := 3) HQ1.out rfl; clear hb1)
    | (go_at_call 7; refine (HW.out _ HB1.out).mono ?_; rintro e w9 ⟨rfl, hb9⟩; have HB9 := Lib.hid (below_step8' HB1.out hb9); clear hb9))
  go_ret
  exact ⟨rfl, HB9.out⟩
set_option maxRecDepth 100000 in
set_option maxHeartbeats 4000000 in
theorem walk_many (ao : Option Addr) (len cap : Nat) (t : Int) (pa : Option Addr) (n pc : Nat) (T : VT) (w : World) (hn : 100 < n) (hw : ∀ wx, Below w.heap.size w wx → Calls Tryz.prog 7 #[] wx fun e w' => e = .returned (.bool true) ∧ Below wx.heap.size wx w') (hg : ∀ wx, Below w.heap.size w wx → Calls Tryz.prog 6 #[.slice ao len cap] wx fun e w' => e = .returned (.bool false) ∧ wx = w') (hmu : ∀ wx, Below w.heap.size w wx → Calls Tryz.prog 13 #[.agg #[.int .i64 T.kind, .int .u64 T.num, .string T.text, .slice T.ia T.len T.cap], .int .i64 0] wx fun e w' => e = .returned (.bool false) ∧ Below wx.heap.size wx w') :
    Calls Tryz.prog 5 #[.slice ao len cap, .agg #[.int .i64 T.kind, .int .u64 T.num, .string T.text, .slice T.ia T.len T.cap], .agg #[.int .i64 t, .slice pa n pc]] w (fun e w' => e = .returned (.bool true) ∧ Below w.heap.size w w') := by
  have HW := Lib.hid hw
  have HG := Lib.hid hg
  have HM := Lib.hid hmu
  have HQ := Lib.hid (alloc_old (o := (.cells #[.int .i64 t, .slice pa n pc] 40)) (alloc_at w (.cells #[.int .i64 T.kind, .int .u64 T.num, .string T.text, .slice T.ia T.len T.cap] 38)))
  have HK := Lib.hid (show ((w.alloc (.cells #[.int .i64 T.kind, .int .u64 T.num, .string T.text, .slice T.ia T.len T.cap] 38)).alloc (.cells #[.int .i64 t, .slice pa n pc] 40)).heap[w.heap.size + 1]? = some (.cells #[.int .i64 t, .slice pa n pc] 40) from by have := alloc_at (w.alloc (.cells #[.int .i64 T.kind, .int .u64 T.num, .string T.text, .slice T.ia T.len T.cap] 38)) (.cells #[.int .i64 t, .slice pa n pc] 40); rwa [show (w.alloc (.cells #[.int .i64 T.kind, .int .u64 T.num, .string T.text, .slice T.ia T.len T.cap] 38)).heap.size = w.heap.size + 1 by simp] at this)
  have HB := Lib.hid (((Below.refl w.heap.size w).alloc (Nat.le_refl _) (.cells #[.int .i64 T.kind, .int .u64 T.num, .string T.text, .slice T.ia T.len T.cap] 38)).alloc (by simp) (.cells #[.int .i64 t, .slice pa n pc] 40))
  have d9 : decide ((100 : Int) < (n : Nat)) = true := decide_eq_true (by omega)
  clear hw hg hmu
  go_enter Tryz.func5, Tryz.ntmps5
  go_wp2_with (first
    | (go_at_call 6; refine (HG.out _ HB.out).mono ?_; rintro e w' ⟨rfl, rfl⟩)
    | (go_at_call 13; refine (HM.out _ HB.out).mono ?_; rintro e w1 ⟨rfl, hb1⟩; have HB1 := Lib.hid (below_step8' HB.out hb1); have HQ1 := Lib.hid (box_keep HQ.out hb1); have HK1 := Lib.hid (box_keep HK.out hb1); have k0 : w1.cell? ⟨w.heap.size + 1, 0, none⟩ = some (.int .i64 t) := cell_at (j := 0) HK1.out rfl; have k1 : w1.cell? ⟨w.heap.size + 1, 1, none⟩ = some (.slice pa n pc) := cell_at (j := 1) HK1.out rfl; have d0 : w1.cell? ⟨w.heap.size, 0, none⟩ = some (.int .i64 T.kind) := cell_at (j := 0) HQ1.out rfl; have d1 : w1.cell? ⟨w.heap.size, 1, none⟩ = some (.int .u64 T.num) := cell_at (j := 1) HQ1.out rfl; have d2 : w1.cell? ⟨w.heap.size, 2, none⟩ = some (.string T.text) := cell_at (j := 2) HQ1.out rfl; have d3 : w1.cell? ⟨w.heap.size, 3, none⟩ = some (.slice T.ia T.len T.cap) := cell_at (j := 3) HQ1.out rfl; clear hb1)
    | (go_at_call 7; refine (HW.out _ HB1.out).mono ?_; rintro e w9 ⟨rfl, hb9⟩; have HB9 := Lib.hid (below_step8' HB1.out hb9); clear hb9))
  go_ret
  exact ⟨rfl, HB9.out⟩
set_option maxRecDepth 100000 in
set_option maxHeartbeats 8000000 in
theorem walk_none (ao : Option Addr) (len cap : Nat) (t : Int) (pa : Option Addr) (n pc : Nat) (T : VT) (w : World) (hn : n ≤ 100) (hw : ∀ wx, Below w.heap.size w wx → Calls Tryz.prog 7 #[] wx fun e w' => e = .returned (.bool true) ∧ Below wx.heap.size wx w') (hg : ∀ wx, Below w.heap.size w wx → Calls Tryz.prog 6 #[.slice ao len cap] wx fun e w' => e = .returned (.bool false) ∧ wx = w') (hmu : ∀ wx, Below w.heap.size w wx → Calls Tryz.prog 13 #[.agg #[.int .i64 T.kind, .int .u64 T.num, .string T.text, .slice T.ia T.len T.cap], .int .i64 0] wx fun e w' => e = .returned (.bool false) ∧ Below wx.heap.size wx w')
    (ht : ∀ wx, Below w.heap.size w wx → Calls Tryz.prog 10 #[.slice ao len cap, .int .i64 t, .slice pa n pc] wx fun e w' => e = .returned (.tuple #[.string ⟨#[]⟩, .int .i64 0, .bool false]) ∧ Below wx.heap.size wx w') :
    Calls Tryz.prog 5 #[.slice ao len cap, .agg #[.int .i64 T.kind, .int .u64 T.num, .string T.text, .slice T.ia T.len T.cap], .agg #[.int .i64 t, .slice pa n pc]] w (fun e w' => e = .returned (.bool true) ∧ Below w.heap.size w w') := by
  have HW := Lib.hid hw
  have HG := Lib.hid hg
  have HM := Lib.hid hmu
  have HQ := Lib.hid (alloc_old (o := (.cells #[.int .i64 t, .slice pa n pc] 40)) (alloc_at w (.cells #[.int .i64 T.kind, .int .u64 T.num, .string T.text, .slice T.ia T.len T.cap] 38)))
  have HK := Lib.hid (show ((w.alloc (.cells #[.int .i64 T.kind, .int .u64 T.num, .string T.text, .slice T.ia T.len T.cap] 38)).alloc (.cells #[.int .i64 t, .slice pa n pc] 40)).heap[w.heap.size + 1]? = some (.cells #[.int .i64 t, .slice pa n pc] 40) from by have := alloc_at (w.alloc (.cells #[.int .i64 T.kind, .int .u64 T.num, .string T.text, .slice T.ia T.len T.cap] 38)) (.cells #[.int .i64 t, .slice pa n pc] 40); rwa [show (w.alloc (.cells #[.int .i64 T.kind, .int .u64 T.num, .string T.text, .slice T.ia T.len T.cap] 38)).heap.size = w.heap.size + 1 by simp] at this)
  have HB := Lib.hid (((Below.refl w.heap.size w).alloc (Nat.le_refl _) (.cells #[.int .i64 T.kind, .int .u64 T.num, .string T.text, .slice T.ia T.len T.cap] 38)).alloc (by simp) (.cells #[.int .i64 t, .slice pa n pc] 40))
  have d9 : decide ((100 : Int) < (n : Nat)) = false := decide_eq_false (by omega)
  have HT := Lib.hid ht
  clear hw hg hmu ht
  go_enter Tryz.func5, Tryz.ntmps5
  go_wp2_with (first
    | (go_at_call 6; refine (HG.out _ HB.out).mono ?_; rintro e w' ⟨rfl, rfl⟩)
    | (go_at_call 13; refine (HM.out _ HB.out).mono ?_; rintro e w1 ⟨rfl, hb1⟩; have HB1 := Lib.hid (below_step8' HB.out hb1); have HQ1 := Lib.hid (box_keep HQ.out hb1); have HK1 := Lib.hid (box_keep HK.out hb1); have k0 : w1.cell? ⟨w.heap.size + 1, 0, none⟩ = some (.int .i64 t) := cell_at (j := 0) HK1.out rfl; have k1 : w1.cell? ⟨w.heap.size + 1, 1, none⟩ = some (.slice pa n pc) := cell_at (j := 1) HK1.out rfl; have d0 : w1.cell? ⟨w.heap.size, 0, none⟩ = some (.int .i64 T.kind) := cell_at (j := 0) HQ1.out rfl; have d1 : w1.cell? ⟨w.heap.size, 1, none⟩ = some (.int .u64 T.num) := cell_at (j := 1) HQ1.out rfl; have d2 : w1.cell? ⟨w.heap.size, 2, none⟩ = some (.string T.text) := cell_at (j := 2) HQ1.out rfl; have d3 : w1.cell? ⟨w.heap.size, 3, none⟩ = some (.slice T.ia T.len T.cap) := cell_at (j := 3) HQ1.out rfl; clear hb1)
    | (go_at_call 10; refine (HT.out _ HB1.out).mono ?_; rintro e w2 ⟨rfl, hb2⟩; have HB2 := Lib.hid (below_step8' HB1.out hb2); have HQ2 := Lib.hid (box_keep HQ1.out hb2); have HK2 := Lib.hid (box_keep HK1.out hb2); clear k0 k1 d0 d1 d2 d3; have k0 : w2.cell? ⟨w.heap.size + 1, 0, none⟩ = some (.int .i64 t) := cell_at (j := 0) HK2.out rfl; have k1 : w2.cell? ⟨w.heap.size + 1, 1, none⟩ = some (.slice pa n pc) := cell_at (j := 1) HK2.out rfl; have d0 : w2.cell? ⟨w.heap.size, 0, none⟩ = some (.int .i64 T.kind) := cell_at (j := 0) HQ2.out rfl; have d1 : w2.cell? ⟨w.heap.size, 1, none⟩ = some (.int .u64 T.num) := cell_at (j := 1) HQ2.out rfl; have d2 : w2.cell? ⟨w.heap.size, 2, none⟩ = some (.string T.text) := cell_at (j := 2) HQ2.out rfl; have d3 : w2.cell? ⟨w.heap.size, 3, none⟩ = some (.slice T.ia T.len T.cap) := cell_at (j := 3) HQ2.out rfl; clear hb2)
    | (go_at_call 7; refine (HW.out _ HB2.out).mono ?_; rintro e w9 ⟨rfl, hb9⟩; have HB9 := Lib.hid (below_step8' HB2.out hb9); clear hb9))
  go_ret
  exact ⟨rfl, HB9.out⟩
set_option maxRecDepth 100000 in
set_option maxHeartbeats 8000000 in
theorem walk_not (ao : Option Addr) (len cap : Nat) (t : Int) (pa : Option Addr) (n pc : Nat) (T : VT) (w : World) (hn : n ≤ 100) (P : Nat → StepV) (tx : ByteArray) (u : Int) (V : VT) (th : Bool) (fe : Int) (hfe : fe ≠ 0) (hw : ∀ wx, Below w.heap.size w wx → Calls Tryz.prog 7 #[] wx fun e w' => e = .returned (.bool true) ∧ Below wx.heap.size wx w') (hg : ∀ wx, Below w.heap.size w wx → Calls Tryz.prog 6 #[.slice ao len cap] wx fun e w' => e = .returned (.bool false) ∧ wx = w') (hmu : ∀ wx, Below w.heap.size w wx → Calls Tryz.prog 13 #[.agg #[.int .i64 T.kind, .int .u64 T.num, .string T.text, .slice T.ia T.len T.cap], .int .i64 0] wx fun e w' => e = .returned (.bool false) ∧ Below wx.heap.size wx w')
    (ht : ∀ wx, Below w.heap.size w wx → Calls Tryz.prog 10 #[.slice ao len cap, .int .i64 t, .slice pa n pc] wx fun e w' => e = .returned (.tuple #[.string tx, .int .i64 u, .bool true]) ∧ Below wx.heap.size wx w')
    (hf : ∀ wx, Below w.heap.size w wx → Calls Tryz.prog 8 #[.slice ao len cap, .int .i64 t, .string tx] wx fun e w' => ∃ ia cp, e = .returned (.tuple #[.slice ia n cp, .int .i64 u, .int .i64 0]) ∧ (∀ i, i < n → StepC w' ia i (P i)) ∧ Below wx.heap.size wx w')
    (hps : ∀ wx, Below w.heap.size w wx → ∀ i, i < n → StepC wx pa i (P i))
    (hat : ∀ wx, Below w.heap.size w wx → Calls Tryz.prog 14 #[.slice ao len cap, .int .i64 t, .slice pa n pc, .agg #[.int .i64 T.kind, .int .u64 T.num, .string T.text, .slice T.ia T.len T.cap]] wx fun e w' => ∃ U : VT, e = .returned (.tuple #[.agg #[.int .i64 U.kind, .int .u64 U.num, .string U.text, .slice U.ia U.len U.cap], .bool th]) ∧ sameT V U = true ∧ ValAt w' (fun k => w.heap.size ≤ k) U ∧ Below wx.heap.size wx w')
    (hfi : ∀ wx, Below w.heap.size w wx → Calls Tryz.prog 19 #[.slice ao len cap, .int .i64 t, .agg #[.int .i64 T.kind, .int .u64 T.num, .string T.text, .slice T.ia T.len T.cap]] wx fun e w' => e = .returned (.int .i64 fe) ∧ Below wx.heap.size wx w') :
    Calls Tryz.prog 5 #[.slice ao len cap, .agg #[.int .i64 T.kind, .int .u64 T.num, .string T.text, .slice T.ia T.len T.cap], .agg #[.int .i64 t, .slice pa n pc]] w (fun e w' => e = .returned (.bool true) ∧ Below w.heap.size w w') := by
  have HW := Lib.hid hw
  have HG := Lib.hid hg
  have HM := Lib.hid hmu
  have HQ := Lib.hid (alloc_old (o := (.cells #[.int .i64 t, .slice pa n pc] 40)) (alloc_at w (.cells #[.int .i64 T.kind, .int .u64 T.num, .string T.text, .slice T.ia T.len T.cap] 38)))
  have HK := Lib.hid (show ((w.alloc (.cells #[.int .i64 T.kind, .int .u64 T.num, .string T.text, .slice T.ia T.len T.cap] 38)).alloc (.cells #[.int .i64 t, .slice pa n pc] 40)).heap[w.heap.size + 1]? = some (.cells #[.int .i64 t, .slice pa n pc] 40) from by have := alloc_at (w.alloc (.cells #[.int .i64 T.kind, .int .u64 T.num, .string T.text, .slice T.ia T.len T.cap] 38)) (.cells #[.int .i64 t, .slice pa n pc] 40); rwa [show (w.alloc (.cells #[.int .i64 T.kind, .int .u64 T.num, .string T.text, .slice T.ia T.len T.cap] 38)).heap.size = w.heap.size + 1 by simp] at this)
  have HB := Lib.hid (((Below.refl w.heap.size w).alloc (Nat.le_refl _) (.cells #[.int .i64 T.kind, .int .u64 T.num, .string T.text, .slice T.ia T.len T.cap] 38)).alloc (by simp) (.cells #[.int .i64 t, .slice pa n pc] 40))
  have d9 : decide ((100 : Int) < (n : Nat)) = false := decide_eq_false (by omega)
  have hne : (fe != 0) = true := by simpa using hfe
  have huu : (u != u) = false := by simp
  have HT := Lib.hid ht
  have HF := Lib.hid hf
  have HPS := Lib.hid hps
  have HAT := Lib.hid hat
  have HFI := Lib.hid hfi
  clear hw hg hmu ht hf hps hat hfi hfe
  go_enter Tryz.func5, Tryz.ntmps5
  go_upto_region 10 with (first
    | (go_at_call 6; refine (HG.out _ HB.out).mono ?_; rintro e w' ⟨rfl, rfl⟩)
    | (go_at_call 13; refine (HM.out _ HB.out).mono ?_; rintro e w1 ⟨rfl, hb1⟩; have HB1 := Lib.hid (below_step8' HB.out hb1); have HQ1 := Lib.hid (box_keep HQ.out hb1); have HK1 := Lib.hid (box_keep HK.out hb1); have k0 : w1.cell? ⟨w.heap.size + 1, 0, none⟩ = some (.int .i64 t) := cell_at (j := 0) HK1.out rfl; have k1 : w1.cell? ⟨w.heap.size + 1, 1, none⟩ = some (.slice pa n pc) := cell_at (j := 1) HK1.out rfl; have d0 : w1.cell? ⟨w.heap.size, 0, none⟩ = some (.int .i64 T.kind) := cell_at (j := 0) HQ1.out rfl; have d1 : w1.cell? ⟨w.heap.size, 1, none⟩ = some (.int .u64 T.num) := cell_at (j := 1) HQ1.out rfl; have d2 : w1.cell? ⟨w.heap.size, 2, none⟩ = some (.string T.text) := cell_at (j := 2) HQ1.out rfl; have d3 : w1.cell? ⟨w.heap.size, 3, none⟩ = some (.slice T.ia T.len T.cap) := cell_at (j := 3) HQ1.out rfl; clear hb1)
    | (go_at_call 10; refine (HT.out _ HB1.out).mono ?_; rintro e w2 ⟨rfl, hb2⟩; have HB2 := Lib.hid (below_step8' HB1.out hb2); have HQ2 := Lib.hid (box_keep HQ1.out hb2); have HK2 := Lib.hid (box_keep HK1.out hb2); clear k0 k1 d0 d1 d2 d3; have k0 : w2.cell? ⟨w.heap.size + 1, 0, none⟩ = some (.int .i64 t) := cell_at (j := 0) HK2.out rfl; have k1 : w2.cell? ⟨w.heap.size + 1, 1, none⟩ = some (.slice pa n pc) := cell_at (j := 1) HK2.out rfl; have d0 : w2.cell? ⟨w.heap.size, 0, none⟩ = some (.int .i64 T.kind) := cell_at (j := 0) HQ2.out rfl; have d1 : w2.cell? ⟨w.heap.size, 1, none⟩ = some (.int .u64 T.num) := cell_at (j := 1) HQ2.out rfl; have d2 : w2.cell? ⟨w.heap.size, 2, none⟩ = some (.string T.text) := cell_at (j := 2) HQ2.out rfl; have d3 : w2.cell? ⟨w.heap.size, 3, none⟩ = some (.slice T.ia T.len T.cap) := cell_at (j := 3) HQ2.out rfl; clear hb2)
    | (go_at_call 8; refine (HF.out _ HB2.out).mono ?_; rintro e w3 ⟨ia1, cp1, rfl, hc1, hb3⟩; have HC1 := Lib.hid hc1; have HB3 := Lib.hid (below_step8' HB2.out hb3); have HQ3 := Lib.hid (box_keep HQ2.out hb3); have HK3 := Lib.hid (box_keep HK2.out hb3); clear k0 k1 d0 d1 d2 d3; have k0 : w3.cell? ⟨w.heap.size + 1, 0, none⟩ = some (.int .i64 t) := cell_at (j := 0) HK3.out rfl; have k1 : w3.cell? ⟨w.heap.size + 1, 1, none⟩ = some (.slice pa n pc) := cell_at (j := 1) HK3.out rfl; have d0 : w3.cell? ⟨w.heap.size, 0, none⟩ = some (.int .i64 T.kind) := cell_at (j := 0) HQ3.out rfl; have d1 : w3.cell? ⟨w.heap.size, 1, none⟩ = some (.int .u64 T.num) := cell_at (j := 1) HQ3.out rfl; have d2 : w3.cell? ⟨w.heap.size, 2, none⟩ = some (.string T.text) := cell_at (j := 2) HQ3.out rfl; have d3 : w3.cell? ⟨w.heap.size, 3, none⟩ = some (.slice T.ia T.len T.cap) := cell_at (j := 3) HQ3.out rfl; clear hc1 hb3)
    | (go_at_call 12; refine (refSameC_any _ _ _ _ _ _ P P (by omega) _ HC1.out (HPS.out _ HB3.out)).mono ?_; rintro e w4 ⟨rfl, hb4⟩; rw [samePB_refl]; have HB4 := Lib.hid (below_step8' HB3.out hb4); have HQ4 := Lib.hid (box_keep HQ3.out hb4); have HK4 := Lib.hid (box_keep HK3.out hb4); clear k0 k1 d0 d1 d2 d3; have k0 : w4.cell? ⟨w.heap.size + 1, 0, none⟩ = some (.int .i64 t) := cell_at (j := 0) HK4.out rfl; have k1 : w4.cell? ⟨w.heap.size + 1, 1, none⟩ = some (.slice pa n pc) := cell_at (j := 1) HK4.out rfl; have d0 : w4.cell? ⟨w.heap.size, 0, none⟩ = some (.int .i64 T.kind) := cell_at (j := 0) HQ4.out rfl; have d1 : w4.cell? ⟨w.heap.size, 1, none⟩ = some (.int .u64 T.num) := cell_at (j := 1) HQ4.out rfl; have d2 : w4.cell? ⟨w.heap.size, 2, none⟩ = some (.string T.text) := cell_at (j := 2) HQ4.out rfl; have d3 : w4.cell? ⟨w.heap.size, 3, none⟩ = some (.slice T.ia T.len T.cap) := cell_at (j := 3) HQ4.out rfl; clear hb4)
    | (go_at_call 14; refine (HAT.out _ HB4.out).mono ?_; rintro e w5 ⟨U, rfl, hu, hv, hb5⟩; have HU := Lib.hid hu; have HV := Lib.hid (hv.next ((Below.refl _ _).alloc (Nat.le_refl _) (.cells #[.int .i64 U.kind, .int .u64 U.num, .string U.text, .slice U.ia U.len U.cap] 38))); have HB5 := Lib.hid ((below_step8' HB4.out hb5).alloc (below_step8' HB4.out hb5).size (.cells #[.int .i64 U.kind, .int .u64 U.num, .string U.text, .slice U.ia U.len U.cap] 38)); have HX5 := Lib.hid (alloc_at w5 (.cells #[.int .i64 U.kind, .int .u64 U.num, .string U.text, .slice U.ia U.len U.cap] 38)); have HQ5 := Lib.hid (alloc_old (o := (.cells #[.int .i64 U.kind, .int .u64 U.num, .string U.text, .slice U.ia U.len U.cap] 38)) (box_keep HQ4.out hb5)); have HK5 := Lib.hid (alloc_old (o := (.cells #[.int .i64 U.kind, .int .u64 U.num, .string U.text, .slice U.ia U.len U.cap] 38)) (box_keep HK4.out hb5)); clear hu hv hb5))
  clear k0 k1 d0 d1 d2 d3
  generalize (w5.alloc (.cells #[.int .i64 U.kind, .int .u64 U.num, .string U.text, .slice U.ia U.len U.cap] 38)) = W5 at *
  have d0 : W5.cell? ⟨w.heap.size, 0, none⟩ = some (.int .i64 T.kind) := cell_at (j := 0) HQ5.out rfl
  have d1 : W5.cell? ⟨w.heap.size, 1, none⟩ = some (.int .u64 T.num) := cell_at (j := 1) HQ5.out rfl
  have d2 : W5.cell? ⟨w.heap.size, 2, none⟩ = some (.string T.text) := cell_at (j := 2) HQ5.out rfl
  have d3 : W5.cell? ⟨w.heap.size, 3, none⟩ = some (.slice T.ia T.len T.cap) := cell_at (j := 3) HQ5.out rfl
  have k0 : W5.cell? ⟨w.heap.size + 1, 0, none⟩ = some (.int .i64 t) := cell_at (j := 0) HK5.out rfl
  have k1 : W5.cell? ⟨w.heap.size + 1, 1, none⟩ = some (.slice pa n pc) := cell_at (j := 1) HK5.out rfl
  go_wp2_with (first
    | (go_at_call 19; (with_reducible refine (HFI.out _ HB5.out).mono ?_); rintro e w6 ⟨rfl, hb6⟩; have HB6 := Lib.hid (below_step8' HB5.out hb6); have HX6 := Lib.hid (box_keep HX5.out hb6); have HV6 := Lib.hid (HV.out.next hb6); have x0 : w6.cell? ⟨w5.heap.size, 0, none⟩ = some (.int .i64 U.kind) := cell_at (j := 0) HX6.out rfl; have x1 : w6.cell? ⟨w5.heap.size, 1, none⟩ = some (.int .u64 U.num) := cell_at (j := 1) HX6.out rfl; have x2 : w6.cell? ⟨w5.heap.size, 2, none⟩ = some (.string U.text) := cell_at (j := 2) HX6.out rfl; have x3 : w6.cell? ⟨w5.heap.size, 3, none⟩ = some (.slice U.ia U.len U.cap) := cell_at (j := 3) HX6.out rfl; clear d0 d1 d2 d3 k0 k1 hb6)
    | (go_at_call 7; refine (HW.out _ HB6.out).mono ?_; rintro e w9 ⟨rfl, hb9⟩; have HB9 := Lib.hid (below_step8' HB6.out hb9); clear hb9))
  go_ret
  exact ⟨rfl, HB9.out⟩
set_option maxRecDepth 100000 in
set_option maxHeartbeats 8000000 in
theorem walk_gone (ao : Option Addr) (len cap : Nat) (t : Int) (pa : Option Addr) (n pc : Nat) (T : VT) (w : World) (hn : n ≤ 100) (P : Nat → StepV) (tx : ByteArray) (u : Int) (V : VT) (th : Bool) (hth : th = false) (hw : ∀ wx, Below w.heap.size w wx → Calls Tryz.prog 7 #[] wx fun e w' => e = .returned (.bool true) ∧ Below wx.heap.size wx w') (hg : ∀ wx, Below w.heap.size w wx → Calls Tryz.prog 6 #[.slice ao len cap] wx fun e w' => e = .returned (.bool false) ∧ wx = w') (hmu : ∀ wx, Below w.heap.size w wx → Calls Tryz.prog 13 #[.agg #[.int .i64 T.kind, .int .u64 T.num, .string T.text, .slice T.ia T.len T.cap], .int .i64 0] wx fun e w' => e = .returned (.bool false) ∧ Below wx.heap.size wx w')
    (ht : ∀ wx, Below w.heap.size w wx → Calls Tryz.prog 10 #[.slice ao len cap, .int .i64 t, .slice pa n pc] wx fun e w' => e = .returned (.tuple #[.string tx, .int .i64 u, .bool true]) ∧ Below wx.heap.size wx w')
    (hf : ∀ wx, Below w.heap.size w wx → Calls Tryz.prog 8 #[.slice ao len cap, .int .i64 t, .string tx] wx fun e w' => ∃ ia cp, e = .returned (.tuple #[.slice ia n cp, .int .i64 u, .int .i64 0]) ∧ (∀ i, i < n → StepC w' ia i (P i)) ∧ Below wx.heap.size wx w')
    (hps : ∀ wx, Below w.heap.size w wx → ∀ i, i < n → StepC wx pa i (P i))
    (hat : ∀ wx, Below w.heap.size w wx → Calls Tryz.prog 14 #[.slice ao len cap, .int .i64 t, .slice pa n pc, .agg #[.int .i64 T.kind, .int .u64 T.num, .string T.text, .slice T.ia T.len T.cap]] wx fun e w' => ∃ U : VT, e = .returned (.tuple #[.agg #[.int .i64 U.kind, .int .u64 U.num, .string U.text, .slice U.ia U.len U.cap], .bool th]) ∧ sameT V U = true ∧ ValAt w' (fun k => w.heap.size ≤ k) U ∧ Below wx.heap.size wx w')
    (hfi : ∀ wx, Below w.heap.size w wx → Calls Tryz.prog 19 #[.slice ao len cap, .int .i64 t, .agg #[.int .i64 T.kind, .int .u64 T.num, .string T.text, .slice T.ia T.len T.cap]] wx fun e w' => e = .returned (.int .i64 0) ∧ Below wx.heap.size wx w') :
    Calls Tryz.prog 5 #[.slice ao len cap, .agg #[.int .i64 T.kind, .int .u64 T.num, .string T.text, .slice T.ia T.len T.cap], .agg #[.int .i64 t, .slice pa n pc]] w (fun e w' => e = .returned (.bool true) ∧ Below w.heap.size w w') := by
  have HW := Lib.hid hw
  have HG := Lib.hid hg
  have HM := Lib.hid hmu
  have HQ := Lib.hid (alloc_old (o := (.cells #[.int .i64 t, .slice pa n pc] 40)) (alloc_at w (.cells #[.int .i64 T.kind, .int .u64 T.num, .string T.text, .slice T.ia T.len T.cap] 38)))
  have HK := Lib.hid (show ((w.alloc (.cells #[.int .i64 T.kind, .int .u64 T.num, .string T.text, .slice T.ia T.len T.cap] 38)).alloc (.cells #[.int .i64 t, .slice pa n pc] 40)).heap[w.heap.size + 1]? = some (.cells #[.int .i64 t, .slice pa n pc] 40) from by have := alloc_at (w.alloc (.cells #[.int .i64 T.kind, .int .u64 T.num, .string T.text, .slice T.ia T.len T.cap] 38)) (.cells #[.int .i64 t, .slice pa n pc] 40); rwa [show (w.alloc (.cells #[.int .i64 T.kind, .int .u64 T.num, .string T.text, .slice T.ia T.len T.cap] 38)).heap.size = w.heap.size + 1 by simp] at this)
  have HB := Lib.hid (((Below.refl w.heap.size w).alloc (Nat.le_refl _) (.cells #[.int .i64 T.kind, .int .u64 T.num, .string T.text, .slice T.ia T.len T.cap] 38)).alloc (by simp) (.cells #[.int .i64 t, .slice pa n pc] 40))
  have d9 : decide ((100 : Int) < (n : Nat)) = false := decide_eq_false (by omega)
  have huu : (u != u) = false := by simp
  have HT := Lib.hid ht
  have HF := Lib.hid hf
  have HPS := Lib.hid hps
  have HAT := Lib.hid hat
  have HFI := Lib.hid hfi
  subst hth
  clear hw hg hmu ht hf hps hat hfi
  go_enter Tryz.func5, Tryz.ntmps5
  go_upto_region 10 with (first
    | (go_at_call 6; refine (HG.out _ HB.out).mono ?_; rintro e w' ⟨rfl, rfl⟩)
    | (go_at_call 13; refine (HM.out _ HB.out).mono ?_; rintro e w1 ⟨rfl, hb1⟩; have HB1 := Lib.hid (below_step8' HB.out hb1); have HQ1 := Lib.hid (box_keep HQ.out hb1); have HK1 := Lib.hid (box_keep HK.out hb1); have k0 : w1.cell? ⟨w.heap.size + 1, 0, none⟩ = some (.int .i64 t) := cell_at (j := 0) HK1.out rfl; have k1 : w1.cell? ⟨w.heap.size + 1, 1, none⟩ = some (.slice pa n pc) := cell_at (j := 1) HK1.out rfl; have d0 : w1.cell? ⟨w.heap.size, 0, none⟩ = some (.int .i64 T.kind) := cell_at (j := 0) HQ1.out rfl; have d1 : w1.cell? ⟨w.heap.size, 1, none⟩ = some (.int .u64 T.num) := cell_at (j := 1) HQ1.out rfl; have d2 : w1.cell? ⟨w.heap.size, 2, none⟩ = some (.string T.text) := cell_at (j := 2) HQ1.out rfl; have d3 : w1.cell? ⟨w.heap.size, 3, none⟩ = some (.slice T.ia T.len T.cap) := cell_at (j := 3) HQ1.out rfl; clear hb1)
    | (go_at_call 10; refine (HT.out _ HB1.out).mono ?_; rintro e w2 ⟨rfl, hb2⟩; have HB2 := Lib.hid (below_step8' HB1.out hb2); have HQ2 := Lib.hid (box_keep HQ1.out hb2); have HK2 := Lib.hid (box_keep HK1.out hb2); clear k0 k1 d0 d1 d2 d3; have k0 : w2.cell? ⟨w.heap.size + 1, 0, none⟩ = some (.int .i64 t) := cell_at (j := 0) HK2.out rfl; have k1 : w2.cell? ⟨w.heap.size + 1, 1, none⟩ = some (.slice pa n pc) := cell_at (j := 1) HK2.out rfl; have d0 : w2.cell? ⟨w.heap.size, 0, none⟩ = some (.int .i64 T.kind) := cell_at (j := 0) HQ2.out rfl; have d1 : w2.cell? ⟨w.heap.size, 1, none⟩ = some (.int .u64 T.num) := cell_at (j := 1) HQ2.out rfl; have d2 : w2.cell? ⟨w.heap.size, 2, none⟩ = some (.string T.text) := cell_at (j := 2) HQ2.out rfl; have d3 : w2.cell? ⟨w.heap.size, 3, none⟩ = some (.slice T.ia T.len T.cap) := cell_at (j := 3) HQ2.out rfl; clear hb2)
    | (go_at_call 8; refine (HF.out _ HB2.out).mono ?_; rintro e w3 ⟨ia1, cp1, rfl, hc1, hb3⟩; have HC1 := Lib.hid hc1; have HB3 := Lib.hid (below_step8' HB2.out hb3); have HQ3 := Lib.hid (box_keep HQ2.out hb3); have HK3 := Lib.hid (box_keep HK2.out hb3); clear k0 k1 d0 d1 d2 d3; have k0 : w3.cell? ⟨w.heap.size + 1, 0, none⟩ = some (.int .i64 t) := cell_at (j := 0) HK3.out rfl; have k1 : w3.cell? ⟨w.heap.size + 1, 1, none⟩ = some (.slice pa n pc) := cell_at (j := 1) HK3.out rfl; have d0 : w3.cell? ⟨w.heap.size, 0, none⟩ = some (.int .i64 T.kind) := cell_at (j := 0) HQ3.out rfl; have d1 : w3.cell? ⟨w.heap.size, 1, none⟩ = some (.int .u64 T.num) := cell_at (j := 1) HQ3.out rfl; have d2 : w3.cell? ⟨w.heap.size, 2, none⟩ = some (.string T.text) := cell_at (j := 2) HQ3.out rfl; have d3 : w3.cell? ⟨w.heap.size, 3, none⟩ = some (.slice T.ia T.len T.cap) := cell_at (j := 3) HQ3.out rfl; clear hc1 hb3)
    | (go_at_call 12; refine (refSameC_any _ _ _ _ _ _ P P (by omega) _ HC1.out (HPS.out _ HB3.out)).mono ?_; rintro e w4 ⟨rfl, hb4⟩; rw [samePB_refl]; have HB4 := Lib.hid (below_step8' HB3.out hb4); have HQ4 := Lib.hid (box_keep HQ3.out hb4); have HK4 := Lib.hid (box_keep HK3.out hb4); clear k0 k1 d0 d1 d2 d3; have k0 : w4.cell? ⟨w.heap.size + 1, 0, none⟩ = some (.int .i64 t) := cell_at (j := 0) HK4.out rfl; have k1 : w4.cell? ⟨w.heap.size + 1, 1, none⟩ = some (.slice pa n pc) := cell_at (j := 1) HK4.out rfl; have d0 : w4.cell? ⟨w.heap.size, 0, none⟩ = some (.int .i64 T.kind) := cell_at (j := 0) HQ4.out rfl; have d1 : w4.cell? ⟨w.heap.size, 1, none⟩ = some (.int .u64 T.num) := cell_at (j := 1) HQ4.out rfl; have d2 : w4.cell? ⟨w.heap.size, 2, none⟩ = some (.string T.text) := cell_at (j := 2) HQ4.out rfl; have d3 : w4.cell? ⟨w.heap.size, 3, none⟩ = some (.slice T.ia T.len T.cap) := cell_at (j := 3) HQ4.out rfl; clear hb4)
    | (go_at_call 14; refine (HAT.out _ HB4.out).mono ?_; rintro e w5 ⟨U, rfl, hu, hv, hb5⟩; have HU := Lib.hid hu; have HV := Lib.hid (hv.next ((Below.refl _ _).alloc (Nat.le_refl _) (.cells #[.int .i64 U.kind, .int .u64 U.num, .string U.text, .slice U.ia U.len U.cap] 38))); have HB5 := Lib.hid ((below_step8' HB4.out hb5).alloc (below_step8' HB4.out hb5).size (.cells #[.int .i64 U.kind, .int .u64 U.num, .string U.text, .slice U.ia U.len U.cap] 38)); have HX5 := Lib.hid (alloc_at w5 (.cells #[.int .i64 U.kind, .int .u64 U.num, .string U.text, .slice U.ia U.len U.cap] 38)); have HQ5 := Lib.hid (alloc_old (o := (.cells #[.int .i64 U.kind, .int .u64 U.num, .string U.text, .slice U.ia U.len U.cap] 38)) (box_keep HQ4.out hb5)); have HK5 := Lib.hid (alloc_old (o := (.cells #[.int .i64 U.kind, .int .u64 U.num, .string U.text, .slice U.ia U.len U.cap] 38)) (box_keep HK4.out hb5)); clear hu hv hb5))
  clear k0 k1 d0 d1 d2 d3
  generalize (w5.alloc (.cells #[.int .i64 U.kind, .int .u64 U.num, .string U.text, .slice U.ia U.len U.cap] 38)) = W5 at *
  have d0 : W5.cell? ⟨w.heap.size, 0, none⟩ = some (.int .i64 T.kind) := cell_at (j := 0) HQ5.out rfl
  have d1 : W5.cell? ⟨w.heap.size, 1, none⟩ = some (.int .u64 T.num) := cell_at (j := 1) HQ5.out rfl
  have d2 : W5.cell? ⟨w.heap.size, 2, none⟩ = some (.string T.text) := cell_at (j := 2) HQ5.out rfl
  have d3 : W5.cell? ⟨w.heap.size, 3, none⟩ = some (.slice T.ia T.len T.cap) := cell_at (j := 3) HQ5.out rfl
  have k0 : W5.cell? ⟨w.heap.size + 1, 0, none⟩ = some (.int .i64 t) := cell_at (j := 0) HK5.out rfl
  have k1 : W5.cell? ⟨w.heap.size + 1, 1, none⟩ = some (.slice pa n pc) := cell_at (j := 1) HK5.out rfl
  go_wp2_with (first
    | (go_at_call 19; (with_reducible refine (HFI.out _ HB5.out).mono ?_); rintro e w6 ⟨rfl, hb6⟩; have HB6 := Lib.hid (below_step8' HB5.out hb6); have HX6 := Lib.hid (box_keep HX5.out hb6); have HV6 := Lib.hid (HV.out.next hb6); have x0 : w6.cell? ⟨w5.heap.size, 0, none⟩ = some (.int .i64 U.kind) := cell_at (j := 0) HX6.out rfl; have x1 : w6.cell? ⟨w5.heap.size, 1, none⟩ = some (.int .u64 U.num) := cell_at (j := 1) HX6.out rfl; have x2 : w6.cell? ⟨w5.heap.size, 2, none⟩ = some (.string U.text) := cell_at (j := 2) HX6.out rfl; have x3 : w6.cell? ⟨w5.heap.size, 3, none⟩ = some (.slice U.ia U.len U.cap) := cell_at (j := 3) HX6.out rfl; clear d0 d1 d2 d3 k0 k1 hb6)
    | (go_at_call 7; refine (HW.out _ HB6.out).mono ?_; rintro e w9 ⟨rfl, hb9⟩; have HB9 := Lib.hid (below_step8' HB6.out hb9); clear hb9))
  go_ret
  exact ⟨rfl, HB9.out⟩
set_option maxRecDepth 100000 in
set_option maxHeartbeats 8000000 in
theorem walk_there (ao : Option Addr) (len cap : Nat) (t : Int) (pa : Option Addr) (n pc : Nat) (T : VT) (w : World) (hn : n ≤ 100) (P : Nat → StepV) (tx : ByteArray) (u : Int) (V : VT) (th : Bool) (hth : th = true) (hw : ∀ wx, Below w.heap.size w wx → Calls Tryz.prog 7 #[] wx fun e w' => e = .returned (.bool true) ∧ Below wx.heap.size wx w') (hg : ∀ wx, Below w.heap.size w wx → Calls Tryz.prog 6 #[.slice ao len cap] wx fun e w' => e = .returned (.bool false) ∧ wx = w') (hmu : ∀ wx, Below w.heap.size w wx → Calls Tryz.prog 13 #[.agg #[.int .i64 T.kind, .int .u64 T.num, .string T.text, .slice T.ia T.len T.cap], .int .i64 0] wx fun e w' => e = .returned (.bool false) ∧ Below wx.heap.size wx w')
    (ht : ∀ wx, Below w.heap.size w wx → Calls Tryz.prog 10 #[.slice ao len cap, .int .i64 t, .slice pa n pc] wx fun e w' => e = .returned (.tuple #[.string tx, .int .i64 u, .bool true]) ∧ Below wx.heap.size wx w')
    (hf : ∀ wx, Below w.heap.size w wx → Calls Tryz.prog 8 #[.slice ao len cap, .int .i64 t, .string tx] wx fun e w' => ∃ ia cp, e = .returned (.tuple #[.slice ia n cp, .int .i64 u, .int .i64 0]) ∧ (∀ i, i < n → StepC w' ia i (P i)) ∧ Below wx.heap.size wx w')
    (hps : ∀ wx, Below w.heap.size w wx → ∀ i, i < n → StepC wx pa i (P i))
    (hat : ∀ wx, Below w.heap.size w wx → Calls Tryz.prog 14 #[.slice ao len cap, .int .i64 t, .slice pa n pc, .agg #[.int .i64 T.kind, .int .u64 T.num, .string T.text, .slice T.ia T.len T.cap]] wx fun e w' => ∃ U : VT, e = .returned (.tuple #[.agg #[.int .i64 U.kind, .int .u64 U.num, .string U.text, .slice U.ia U.len U.cap], .bool th]) ∧ sameT V U = true ∧ ValAt w' (fun k => w.heap.size ≤ k) U ∧ Below wx.heap.size wx w')
    (hfi : ∀ wx, Below w.heap.size w wx → Calls Tryz.prog 19 #[.slice ao len cap, .int .i64 t, .agg #[.int .i64 T.kind, .int .u64 T.num, .string T.text, .slice T.ia T.len T.cap]] wx fun e w' => e = .returned (.int .i64 0) ∧ Below wx.heap.size wx w')
    (hfu : th = true → ∀ (U : VT) (S' : Nat → Prop) wx, Below w.heap.size w wx → sameT V U = true → ValAt wx S' U → Calls Tryz.prog 19 #[.slice ao len cap, .int .i64 u, .agg #[.int .i64 U.kind, .int .u64 U.num, .string U.text, .slice U.ia U.len U.cap]] wx fun e w' => e = .returned (.int .i64 0) ∧ Below wx.heap.size wx w') :
    Calls Tryz.prog 5 #[.slice ao len cap, .agg #[.int .i64 T.kind, .int .u64 T.num, .string T.text, .slice T.ia T.len T.cap], .agg #[.int .i64 t, .slice pa n pc]] w (fun e w' => e = .returned (.bool true) ∧ Below w.heap.size w w') := by
  have HW := Lib.hid hw
  have HG := Lib.hid hg
  have HM := Lib.hid hmu
  have HQ := Lib.hid (alloc_old (o := (.cells #[.int .i64 t, .slice pa n pc] 40)) (alloc_at w (.cells #[.int .i64 T.kind, .int .u64 T.num, .string T.text, .slice T.ia T.len T.cap] 38)))
  have HK := Lib.hid (show ((w.alloc (.cells #[.int .i64 T.kind, .int .u64 T.num, .string T.text, .slice T.ia T.len T.cap] 38)).alloc (.cells #[.int .i64 t, .slice pa n pc] 40)).heap[w.heap.size + 1]? = some (.cells #[.int .i64 t, .slice pa n pc] 40) from by have := alloc_at (w.alloc (.cells #[.int .i64 T.kind, .int .u64 T.num, .string T.text, .slice T.ia T.len T.cap] 38)) (.cells #[.int .i64 t, .slice pa n pc] 40); rwa [show (w.alloc (.cells #[.int .i64 T.kind, .int .u64 T.num, .string T.text, .slice T.ia T.len T.cap] 38)).heap.size = w.heap.size + 1 by simp] at this)
  have HB := Lib.hid (((Below.refl w.heap.size w).alloc (Nat.le_refl _) (.cells #[.int .i64 T.kind, .int .u64 T.num, .string T.text, .slice T.ia T.len T.cap] 38)).alloc (by simp) (.cells #[.int .i64 t, .slice pa n pc] 40))
  have d9 : decide ((100 : Int) < (n : Nat)) = false := decide_eq_false (by omega)
  have huu : (u != u) = false := by simp
  have HT := Lib.hid ht
  have HF := Lib.hid hf
  have HPS := Lib.hid hps
  have HAT := Lib.hid hat
  have HFI := Lib.hid hfi
  have HFU := Lib.hid (hfu hth)
  subst hth
  clear hw hg hmu ht hf hps hat hfi hfu
  go_enter Tryz.func5, Tryz.ntmps5
  go_upto_region 10 with (first
    | (go_at_call 6; refine (HG.out _ HB.out).mono ?_; rintro e w' ⟨rfl, rfl⟩)
    | (go_at_call 13; refine (HM.out _ HB.out).mono ?_; rintro e w1 ⟨rfl, hb1⟩; have HB1 := Lib.hid (below_step8' HB.out hb1); have HQ1 := Lib.hid (box_keep HQ.out hb1); have HK1 := Lib.hid (box_keep HK.out hb1); have k0 : w1.cell? ⟨w.heap.size + 1, 0, none⟩ = some (.int .i64 t) := cell_at (j := 0) HK1.out rfl; have k1 : w1.cell? ⟨w.heap.size + 1, 1, none⟩ = some (.slice pa n pc) := cell_at (j := 1) HK1.out rfl; have d0 : w1.cell? ⟨w.heap.size, 0, none⟩ = some (.int .i64 T.kind) := cell_at (j := 0) HQ1.out rfl; have d1 : w1.cell? ⟨w.heap.size, 1, none⟩ = some (.int .u64 T.num) := cell_at (j := 1) HQ1.out rfl; have d2 : w1.cell? ⟨w.heap.size, 2, none⟩ = some (.string T.text) := cell_at (j := 2) HQ1.out rfl; have d3 : w1.cell? ⟨w.heap.size, 3, none⟩ = some (.slice T.ia T.len T.cap) := cell_at (j := 3) HQ1.out rfl; clear hb1)
    | (go_at_call 10; refine (HT.out _ HB1.out).mono ?_; rintro e w2 ⟨rfl, hb2⟩; have HB2 := Lib.hid (below_step8' HB1.out hb2); have HQ2 := Lib.hid (box_keep HQ1.out hb2); have HK2 := Lib.hid (box_keep HK1.out hb2); clear k0 k1 d0 d1 d2 d3; have k0 : w2.cell? ⟨w.heap.size + 1, 0, none⟩ = some (.int .i64 t) := cell_at (j := 0) HK2.out rfl; have k1 : w2.cell? ⟨w.heap.size + 1, 1, none⟩ = some (.slice pa n pc) := cell_at (j := 1) HK2.out rfl; have d0 : w2.cell? ⟨w.heap.size, 0, none⟩ = some (.int .i64 T.kind) := cell_at (j := 0) HQ2.out rfl; have d1 : w2.cell? ⟨w.heap.size, 1, none⟩ = some (.int .u64 T.num) := cell_at (j := 1) HQ2.out rfl; have d2 : w2.cell? ⟨w.heap.size, 2, none⟩ = some (.string T.text) := cell_at (j := 2) HQ2.out rfl; have d3 : w2.cell? ⟨w.heap.size, 3, none⟩ = some (.slice T.ia T.len T.cap) := cell_at (j := 3) HQ2.out rfl; clear hb2)
    | (go_at_call 8; refine (HF.out _ HB2.out).mono ?_; rintro e w3 ⟨ia1, cp1, rfl, hc1, hb3⟩; have HC1 := Lib.hid hc1; have HB3 := Lib.hid (below_step8' HB2.out hb3); have HQ3 := Lib.hid (box_keep HQ2.out hb3); have HK3 := Lib.hid (box_keep HK2.out hb3); clear k0 k1 d0 d1 d2 d3; have k0 : w3.cell? ⟨w.heap.size + 1, 0, none⟩ = some (.int .i64 t) := cell_at (j := 0) HK3.out rfl; have k1 : w3.cell? ⟨w.heap.size + 1, 1, none⟩ = some (.slice pa n pc) := cell_at (j := 1) HK3.out rfl; have d0 : w3.cell? ⟨w.heap.size, 0, none⟩ = some (.int .i64 T.kind) := cell_at (j := 0) HQ3.out rfl; have d1 : w3.cell? ⟨w.heap.size, 1, none⟩ = some (.int .u64 T.num) := cell_at (j := 1) HQ3.out rfl; have d2 : w3.cell? ⟨w.heap.size, 2, none⟩ = some (.string T.text) := cell_at (j := 2) HQ3.out rfl; have d3 : w3.cell? ⟨w.heap.size, 3, none⟩ = some (.slice T.ia T.len T.cap) := cell_at (j := 3) HQ3.out rfl; clear hc1 hb3)
    | (go_at_call 12; refine (refSameC_any _ _ _ _ _ _ P P (by omega) _ HC1.out (HPS.out _ HB3.out)).mono ?_; rintro e w4 ⟨rfl, hb4⟩; rw [samePB_refl]; have HB4 := Lib.hid (below_step8' HB3.out hb4); have HQ4 := Lib.hid (box_keep HQ3.out hb4); have HK4 := Lib.hid (box_keep HK3.out hb4); clear k0 k1 d0 d1 d2 d3; have k0 : w4.cell? ⟨w.heap.size + 1, 0, none⟩ = some (.int .i64 t) := cell_at (j := 0) HK4.out rfl; have k1 : w4.cell? ⟨w.heap.size + 1, 1, none⟩ = some (.slice pa n pc) := cell_at (j := 1) HK4.out rfl; have d0 : w4.cell? ⟨w.heap.size, 0, none⟩ = some (.int .i64 T.kind) := cell_at (j := 0) HQ4.out rfl; have d1 : w4.cell? ⟨w.heap.size, 1, none⟩ = some (.int .u64 T.num) := cell_at (j := 1) HQ4.out rfl; have d2 : w4.cell? ⟨w.heap.size, 2, none⟩ = some (.string T.text) := cell_at (j := 2) HQ4.out rfl; have d3 : w4.cell? ⟨w.heap.size, 3, none⟩ = some (.slice T.ia T.len T.cap) := cell_at (j := 3) HQ4.out rfl; clear hb4)
    | (go_at_call 14; refine (HAT.out _ HB4.out).mono ?_; rintro e w5 ⟨U, rfl, hu, hv, hb5⟩; have HU := Lib.hid hu; have HV := Lib.hid (hv.next ((Below.refl _ _).alloc (Nat.le_refl _) (.cells #[.int .i64 U.kind, .int .u64 U.num, .string U.text, .slice U.ia U.len U.cap] 38))); have HB5 := Lib.hid ((below_step8' HB4.out hb5).alloc (below_step8' HB4.out hb5).size (.cells #[.int .i64 U.kind, .int .u64 U.num, .string U.text, .slice U.ia U.len U.cap] 38)); have HX5 := Lib.hid (alloc_at w5 (.cells #[.int .i64 U.kind, .int .u64 U.num, .string U.text, .slice U.ia U.len U.cap] 38)); have HQ5 := Lib.hid (alloc_old (o := (.cells #[.int .i64 U.kind, .int .u64 U.num, .string U.text, .slice U.ia U.len U.cap] 38)) (box_keep HQ4.out hb5)); have HK5 := Lib.hid (alloc_old (o := (.cells #[.int .i64 U.kind, .int .u64 U.num, .string U.text, .slice U.ia U.len U.cap] 38)) (box_keep HK4.out hb5)); clear hu hv hb5))
  clear k0 k1 d0 d1 d2 d3
  generalize (w5.alloc (.cells #[.int .i64 U.kind, .int .u64 U.num, .string U.text, .slice U.ia U.len U.cap] 38)) = W5 at *
  have d0 : W5.cell? ⟨w.heap.size, 0, none⟩ = some (.int .i64 T.kind) := cell_at (j := 0) HQ5.out rfl
  have d1 : W5.cell? ⟨w.heap.size, 1, none⟩ = some (.int .u64 T.num) := cell_at (j := 1) HQ5.out rfl
  have d2 : W5.cell? ⟨w.heap.size, 2, none⟩ = some (.string T.text) := cell_at (j := 2) HQ5.out rfl
  have d3 : W5.cell? ⟨w.heap.size, 3, none⟩ = some (.slice T.ia T.len T.cap) := cell_at (j := 3) HQ5.out rfl
  have k0 : W5.cell? ⟨w.heap.size + 1, 0, none⟩ = some (.int .i64 t) := cell_at (j := 0) HK5.out rfl
  have k1 : W5.cell? ⟨w.heap.size + 1, 1, none⟩ = some (.slice pa n pc) := cell_at (j := 1) HK5.out rfl
  go_wp2_with (first
    | (go_at_call 19; (with_reducible refine (HFI.out _ HB5.out).mono ?_); rintro e w6 ⟨rfl, hb6⟩; have HB6 := Lib.hid (below_step8' HB5.out hb6); have HX6 := Lib.hid (box_keep HX5.out hb6); have HV6 := Lib.hid (HV.out.next hb6); have x0 : w6.cell? ⟨w5.heap.size, 0, none⟩ = some (.int .i64 U.kind) := cell_at (j := 0) HX6.out rfl; have x1 : w6.cell? ⟨w5.heap.size, 1, none⟩ = some (.int .u64 U.num) := cell_at (j := 1) HX6.out rfl; have x2 : w6.cell? ⟨w5.heap.size, 2, none⟩ = some (.string U.text) := cell_at (j := 2) HX6.out rfl; have x3 : w6.cell? ⟨w5.heap.size, 3, none⟩ = some (.slice U.ia U.len U.cap) := cell_at (j := 3) HX6.out rfl; clear d0 d1 d2 d3 k0 k1 hb6)
    | (go_at_call 19; (with_reducible refine (HFU.out U _ _ HB6.out HU.out HV6.out).mono ?_); rintro e w7 ⟨rfl, hb7⟩; have HB7 := Lib.hid (below_step8' HB6.out hb7); clear hb7)
    | (go_at_call 7; refine (HW.out _ HB7.out).mono ?_; rintro e w9 ⟨rfl, hb9⟩; have HB9 := Lib.hid (below_step8' HB7.out hb9); clear hb9))
  go_ret
  exact ⟨rfl, HB9.out⟩
set_option maxRecDepth 100000 in
set_option maxHeartbeats 4000000 in
theorem walk (ao : Option Addr) (len cap : Nat) (L : Nat → TypeV) (t : Int) (pa : Option Addr) (n pc : Nat) (P : Nat → StepV) (T : VT) (S : Nat → Prop) (hcap : len ≤ cap) (hm : len ≤ 140737488351232) (hcp : ∀ i, i < len → (L i).ilen ≤ (L i).icap) (hpc : n ≤ pc) (w : World) (H : ∀ i, i < len → TypeAt w ao i (L i)) (HP : ∀ i, i < n → StepAt w pa i (P i)) (HV : ValAt w S T) :
    Calls Tryz.prog 5 #[.slice ao len cap, .agg #[.int .i64 T.kind, .int .u64 T.num, .string T.text, .slice T.ia T.len T.cap], .agg #[.int .i64 t, .slice pa n pc]] w (fun e w' => e = .returned (.bool true) ∧ Below w.heap.size w w') := by
  have hw := fun wx (hb : Below w.heap.size w wx) => awake12_any wx
  have hg := fun wx (hb : Below w.heap.size w wx) => great_any ao len cap L hm wx (hold H hb)
  have hmu := fun wx (hb : Below w.heap.size w wx) => refMuch_any S T 0 wx (HV.next hb) (by omega)
  unfold RMuchTo at hmu
  rw [show ((0 : Nat) : Int) = 0 from rfl] at hmu
  cases hbig : greatB L len with
  | true =>
    rw [hbig] at hg
    exact walk_big ao len cap t pa n pc T w hw hg
  | false =>
    rw [hbig] at hg
    have hl : len ≤ 1000000 := by
      unfold greatB at hbig
      simp at hbig
      omega
    cases hmuch : muchT T 0 with
    | true =>
      rw [hmuch] at hmu
      exact walk_much ao len cap t pa n pc T w hw hg hmu
    | false =>
      rw [hmuch] at hmu
      by_cases hn : 100 < n
      · exact walk_many ao len cap t pa n pc T w hn hw hg hmu
      · have ht := fun wx (hb : Below w.heap.size w wx) => text12_any ao len cap L hl hcap t pa n pc P (by omega) wx (hold H hb) (holdP HP hb)
        cases hX : textA L len t (stepsL P n) with
        | none =>
          rw [hX] at ht
          exact walk_none ao len cap t pa n pc T w (by omega) hw hg hmu ht
        | some x =>
          obtain ⟨tx, u⟩ := x
          rw [hX] at ht
          have htl := text_len hX
          have hfd := text_back hX
          have hf : ∀ wx, Below w.heap.size w wx → Calls Tryz.prog 8 #[.slice ao len cap, .int .i64 t, .string (bs tx)] wx fun e w' => ∃ ia cp, e = .returned (.tuple #[.slice ia n cp, .int .i64 (u : Nat), .int .i64 0]) ∧ (∀ i, i < n → StepC w' ia i (P i)) ∧ Below wx.heap.size wx w' := fun wx hb => by
            refine (find12_any ao len cap L hl hcap t (bs tx) (by rw [bs_size]; rw [stepsL_len] at htl; omega) wx (hold H hb)).mono ?_
            rintro e w' ⟨v, rfl, ho, hb2⟩
            rw [hfd] at ho
            obtain ⟨ia, cp, rfl, hc⟩ := own_steps ho rfl
            rw [stepsL_len] at hc
            refine ⟨ia, cp, by rw [hfd, stepsL_len], fun i hi => ?_, hb2⟩
            have := hc i hi
            rwa [stepN_steps P hi] at this
          obtain ⟨o, ho⟩ : ∃ o, atA L len t (stepsL P n) T = o := ⟨_, rfl⟩
          have hat : ∀ wx, Below w.heap.size w wx → Calls Tryz.prog 14 #[.slice ao len cap, .int .i64 t, .slice pa n pc, .agg #[.int .i64 T.kind, .int .u64 T.num, .string T.text, .slice T.ia T.len T.cap]] wx fun e w' => ∃ U : VT, e = .returned (.tuple #[.agg #[.int .i64 U.kind, .int .u64 U.num, .string U.text, .slice U.ia U.len U.cap], .bool o.isSome]) ∧ sameT (o.getD .nil) U = true ∧ ValAt w' (fun k => w.heap.size ≤ k) U ∧ Below wx.heap.size wx w' := fun wx hb => by
            refine (at12_any ao len cap L hl hcap t pa n pc P (by omega) S T wx (HV.next hb) (hold H hb) (holdP HP hb)).mono ?_
            rintro e w' ⟨U, b, rfl, hc, hv, hb2⟩
            rw [ho] at hc
            refine ⟨U, ?_, ?_, hv.sub (fun c hc => Nat.le_trans hb.size hc), hb2⟩
            · rcases hc with ⟨V, h1, rfl, h3⟩ | ⟨h1, rfl, h3⟩
              · rw [h1]; rfl
              · rw [h1]; rfl
            · rcases hc with ⟨V, h1, rfl, h3⟩ | ⟨h1, rfl, h3⟩
              · rw [h1]; exact h3
              · rw [h1, h3]; exact sameT_refl _
          have hps := fun wx (hb : Below w.heap.size w wx) i (hi : i < n) => (holdP HP hb i hi).c
          have hfi := fun wx (hb : Below w.heap.size w wx) => fits9_any ao len cap L hl hcap hcp S t T wx (HV.next hb) (hold H hb)
          by_cases hfe : fitsA L len t T = 0
          · rw [hfe] at hfi
            cases hth : o.isSome with
            | false =>
              rw [hth] at hat
              exact walk_gone ao len cap t pa n pc T w (by omega) P (bs tx) (u : Nat) (o.getD .nil) false rfl hw hg hmu ht hf hps hat hfi
            | true =>
              rw [hth] at hat
              refine walk_there ao len cap t pa n pc T w (by omega) P (bs tx) (u : Nat) (o.getD .nil) true rfl hw hg hmu ht hf hps hat hfi (fun _ U S' wx hb hU hv => ?_)
              have hz : fitsA L len (u : Nat) U = 0 := at_zero hX ho hfe hth hU
              have := fits9_any ao len cap L hl hcap hcp S' (u : Nat) U wx hv (hold H hb)
              rwa [hz] at this
          · exact walk_not ao len cap t pa n pc T w (by omega) P (bs tx) (u : Nat) (o.getD .nil) o.isSome _ hfe hw hg hmu ht hf hps hat hfi
set_option maxRecDepth 100000 in
theorem lifted (os : Os) (started : os.Started) (H : Type) (enc : TypeId × Value → H) :
    ReturnsInHanded {} Tryz.checked os 5 .any (fun w args => (Rows.pathBackSpec.pre enc Tryz.prog Tryz.f5 Rows.pathBackRow.domain false w args ∧ laidMetH Tryz.prog Rows.pathBackRow.laid w) ∧ sizedMet enc Tryz.prog Tryz.f5 (OpenSpec.ofChange Rows.pathBackSpec) false w args)
      (Rows.pathBackSpec.post enc Tryz.prog Tryz.f5 false true false false) := by
  refine returnsInHanded_of_change_and (C := Tryz.checked) (X := fun w _ => laidMetH Tryz.prog Rows.pathBackRow.laid w) (fun _ _ _ hh h => h.of_heap hh) own started (by kernel_rfl) Tryz.func5
    (ChangeSpec.witness_shaped (enc := enc) (C := Tryz.checked) (os := os) (X := fun w _ => laidMetH Tryz.prog Rows.pathBackRow.laid w) false (World.laidAll Tryz.prog os Rows.pathBackRow.laid) #[.slice none 0 0, .agg #[.int .i64 0, .int .u64 0, .string ⟨#[]⟩, .slice none 0 0], .agg #[.int .i64 0, .slice none 0 0]] 8 (World.laidAll_os _ _ _)
      (World.shaped_of_ZipB (by kernel_rfl) (by kernel_rfl)) (by kernel_rfl) (by kernel_rfl) (by kernel_rfl)
      (by rw [MakeChecks.laidMetH_plain _ _ _ (by kernel_rfl)]; exact laidMet_laidAll _ (by kernel_rfl) (by kernel_rfl))) ?_
  intro W base args ds gs before hval0 hW hcnd hsz hL _
  have hval : ∀ (j : Nat) t v, Tryz.f5.params[j]? = some t → args[j]? = some v → Value.okWide Tryz.prog W .any base t v := hval0
  have hW' := hW
  obtain ⟨p, q, hA0, hV, rfl, hfz, hnd⟩ := hW
  have hA : DataW.TrodAll enc Tryz.prog W 0 (fun _ => true) true Tryz.f5.params.toList args.toList ds p := hA0
  rw [Tryz.params5] at hA hval
  obtain ⟨rfl, rfl⟩ := trodVars_none hV
  clear hA0 hval0
  simp only [List.append_nil] at hW'
  have hlt := hW'.lt
  have hA1 := hA
  have hsz1 : (DataW.weightsEach Tryz.prog (Tryz.f5.params.toList ++ []) (ds ++ [])).all (· ≤ reachBytes) = true := hsz
  rw [Tryz.params5, List.append_nil, List.append_nil] at hsz1
  have hrd := rdg_all _ _ _ _ hA1 (fun n hn => by simpa using List.all_eq_true.1 hsz1 n hn)
  obtain ⟨v0, vs0, d0, ds0, p0, q0, hargs, rfl, rfl, h0, r0⟩ := trodAll_cons hA
  obtain ⟨v1, vs1, d1, ds1, p1, q1, rfl, rfl, rfl, h1, r1⟩ := trodAll_cons r0
  obtain ⟨v2, vs2, d2, ds2, p2, q2, rfl, rfl, rfl, h2, r2⟩ := trodAll_cons r1
  obtain ⟨rfl, rfl, rfl⟩ := trodAll_nil r2
  obtain rfl : args = #[v0, v1, v2] := by cases args; simp_all
  have g1 := hrd 1 38 v1 rfl rfl
  obtain ⟨cs1, rfl, hz1⟩ := ok_agg (by first | exact .inl ⟨_, Tryz.underlying38⟩ | exact .inr ⟨_, _, Tryz.underlying38⟩) (hval 1 38 v1 rfl rfl)
  have g2 := hrd 2 40 v2 rfl rfl
  obtain ⟨cs2, rfl, hz2⟩ := ok_agg (by first | exact .inl ⟨_, Tryz.underlying40⟩ | exact .inr ⟨_, _, Tryz.underlying40⟩) (hval 2 40 v2 rfl rfl)
  obtain ⟨ao, len, cap, L, rfl, hcap, hm, hcp, H⟩ := types_of3 (rop_slice 6 Tryz.underlying22 (by kernel_rfl) (hval 0 22 v0 rfl rfl) (hrd 0 22 v0 rfl rfl))
  obtain ⟨T, hT, HT⟩ := val_of hz1 g1
  unfold valV at hT
  injection hT with hT
  subst hT
  obtain ⟨y0, y1, rfl⟩ := arr2 (hz2.trans (by kernel_rfl))
  obtain ⟨x0, e0, hx0⟩ := rdg_int Tryz.underlying3 (rdg_field Tryz.underlying40 g2 0 3 0 1 rfl (by kernel_rfl))
  have hf1 := rdg_field Tryz.underlying40 g2 1 25 1 1 rfl (by kernel_rfl)
  simp [Value.cells] at e0 hf1
  subst e0
  obtain ⟨pa, n, pc, P, rfl, hpc, hpm, HP⟩ := steps_of (v := y1) ((rdg_slice 2 Tryz.underlying25 (by kernel_rfl) hf1).imp (fun h => (List.cons.inj h).1) (fun ⟨a, len, cap, h, r⟩ => ⟨a, len, cap, (List.cons.inj h).1, r⟩))
  refine (walk ao len cap L x0 pa n pc P T _ hcap hm hcp hpc W H HP HT).mono fun e W' ⟨he, bel⟩ => ?_
  subst he
  exact ⟨_, rfl, _, _, _, [], _, [], hW', trodAll_mk1 (shut_bool Tryz.underlying4 _), trodAll_below laidOut bel [22, 38, 40] _ _ _ (by kernel_rfl) hA1 hlt, rfl, bel.frame _, fun h => by cases h⟩
theorem over : Rows.PathBackSaid :=
  OpenClaim.holds_of_wide 5 Tryz.f5 rfl rfl rfl rfl rfl rfl rfl ⟨rfl, rfl, rfl, rfl, rfl⟩ rfl rfl rfl rfl rfl (by kernel_rfl) Tryz.func5 (by kernel_rfl)
    (of_decide_eq_true (by kernel_rfl)) (by unfold Func.isWrapper; first | (rw [if_pos (by decide +kernel)]; kernel_rfl) | (rw [if_neg (by decide +kernel)]; exact ⟨rfl, rfl⟩))
    (fun os started H enc _ => lifted os started H enc)
theorem proved : Rows.PathBackCardSaid :=
  Claim7.holds_tied_plain_at .later [] [.data, .data, .data, .sentinel, .sentinel] true (true, "7b702cd6da088cc7231233d3e78dbc4c63220be846549c3ac8d0e6802275358d") true
    over (fun _ h => by cases h) (by kernel_rfl) (fun _ h => by cases h) pathBack_row_tie rfl ⟨rfl, rfl⟩ (by kernel_rfl) rfl
    (fun f fn hf hfn => by
      obtain rfl : f = 5 := Option.some.inj ((show Tryz.prog.funcNamed Rows.pathBackRow.func = some 5 by kernel_rfl).symm.trans hf) |>.symm
      obtain rfl : fn = Tryz.f5 := (Option.some.inj (Tryz.func5.symm.trans hfn)).symm
      exact ⟨by kernel_rfl, fun j t ht => by
        rw [Tryz.params5] at ht
        have hm : t ∈ [22, 38, 40] := by simpa using Array.mem_of_getElem? ht
        have hall : ([22, 38, 40].all fun u => !Tryz.prog.wantsStandIn u) = true := by kernel_rfl
        exact (show Tryz.prog.wantsStandIn t = false by simpa using List.all_eq_true.1 hall t hm)⟩)
    (by kernel_rfl)
#print axioms proved
end Go.Proofs.YtcpjbimojliogaaGreatDoor.pathBack
