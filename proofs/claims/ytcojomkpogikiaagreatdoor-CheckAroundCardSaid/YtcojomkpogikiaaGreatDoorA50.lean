/- The reference of chapter 18: the literal of a parameter. -/
import Derived.Test.YtcojomkpogikiaaGreatDoorA44
import Derived.Test.YtcojomkpogikiaaGreatDoorA49
namespace Go.Proofs.YtcojomkpogikiaaGreatDoor
open Go.RowKit
set_option linter.unusedVariables false
set_option linter.unusedSimpArgs false
def oZ : Opd := ⟨0, ⟨#[]⟩, false, 0⟩
def litO : Option Opd → Opd | some o => o | none => oZ
def litB : Option Opd → Bool | some _ => true | none => false
end Go.Proofs.YtcojomkpogikiaaGreatDoor
/- The code of chapter 18: the literal of a parameter. -/
namespace Go.Proofs.YtcojomkpogikiaaGreatDoor
open Go.RowKit
set_option linter.unusedVariables false
set_option linter.unusedSimpArgs false
def CLitTo (A : Option Opd) (s : ByteArray) (w : World) : Prop :=
  Calls Tryz.prog 50 #[.string s] w fun e w' => e = .returned (.tuple #[.agg #[.int .i64 (litO A).kind, .string (litO A).text, .bool (litO A).neg, .int .u64 (litO A).num], .bool (litB A)]) ∧ Below w.heap.size w w'
theorem endCL {V : World} {act : Act} {Q : Ending → World → Prop} {q : Bool} {k n : Int} {x : ByteArray} {g : Bool} (hd : act.defers = []) (rb : Nat) (h2 : act.tmps.getD 2 undef = .pointer (some ⟨rb, 0, none⟩)) (h3 : act.tmps.getD 3 undef = .bool q) (hr : V.heap[rb]? = some (.cells #[.int .i64 k, .string x, .bool g, .int .u64 n] 40))
    (hQ : Q (.returned (.tuple #[.agg #[.int .i64 k, .string x, .bool g, .int .u64 n], .bool q])) V) : bodyPost Tryz.prog Tryz.f50 Q Exit.ret act V := by
  refine bodyPost_ret (v := .tuple #[.agg #[.int .i64 k, .string x, .bool g, .int .u64 n], .bool q]) ?_ hd hQ
  have hl2 := run_loadVar_row (P := Tryz.prog) V rb 40 40 #[.int .i64 k, .string x, .bool g, .int .u64 n] _ _ hr Tryz.underlying40 rfl (by kernel_rfl)
  rw [Array.getD_eq_getD_getElem?] at h2 h3
  simp [results, Tryz.results50, h2, h3, asAddr, hl2]
theorem ctokens_all (l : List UInt8) (hl : l.length ≤ 1000000) (w : World) (hV : LibAt w) : Calls Tryz.prog 33 #[.string (bs l)] w (AnsTo w (tokA l)) := by
  by_cases h : l.length ≤ 256
  · exact tokens_any l h w hV
  · have e : tokA l = .bad 3 0 := by unfold tokA; rw [if_pos (by omega)]
    rw [e]
    exact tokens_long (bs l) (by rw [bs_size]; omega) (by rw [bs_size]; omega) w
theorem tk_four {w : World} {ao : Option Addr} {i : Nat} {x : TkV} (h : TkAt w ao i x) : ∃ b off, ao = some ⟨b, off, none⟩ ∧ w.cell? ⟨b, off + i * 4, none⟩ = some (.int .i64 x.k) ∧ w.cell? ⟨b, off + i * 4 + 1, none⟩ = some (.string x.t) ∧ w.cell? ⟨b, off + i * 4 + 2, none⟩ = some (.int .u64 x.n) ∧ w.cell? ⟨b, off + i * 4 + 3, none⟩ = some (.int .i64 x.a) := h
set_option maxRecDepth 100000 in
set_option maxHeartbeats 8000000 in
theorem clit_any (s : List UInt8) (hs : s.length ≤ 1000000) (w : World) (hV : LibAt w) : CLitTo (litA s) (bs s) w := by
  unfold CLitTo
  obtain ⟨A, hA⟩ : ∃ A, litA s = A := ⟨_, rfl⟩
  rw [hA]
  unfold litA at hA
  have HT := Lib.hid (fun wx (hb : Below w.heap.size w wx) => ctokens_all s hs wx (hV.held hb))
  have HRow := Lib.hid (alloc_at w (.cells #[.int .i64 0, .string ⟨#[]⟩, .bool false, .int .u64 0] 40))
  have HB0 := Lib.hid ((Below.refl w.heap.size w).alloc (Nat.le_refl _) (.cells #[.int .i64 0, .string ⟨#[]⟩, .bool false, .int .u64 0] 40))
  cases hT : tokA s with
  | bad e a =>
    rw [hT] at HT hA
    have hA : none = A := hA
    subst hA
    have he := tokA_bad hT
    have hne : ((e : Int) != 0) = true := by rw [bne_iff_ne]; omega
    unfold AnsTo at HT
    simp only at HT
    clear hT he hV
    go_enter Tryz.func50, Tryz.ntmps50
    go_wp2_with (first
      | (go_at_call 33; refine (HT.out _ HB0.out).mono ?_; rintro e1 w1 ⟨rfl, hb⟩; have HB1 := Lib.hid (HB0.out.trans (hb.mono HB0.out.size)); have HR1 := Lib.hid (rowKeep ((Below.refl w1.heap.size w1).alloc (Nat.le_refl _) (.cells #[.int .i64 (e : Nat), .int .i64 (a : Nat)] 57)) (rowKeep hb HRow.out)); clear hb)
      | (refine wpList_store_rowTo rfl 40 _ _ rfl rfl w.heap.size #[.int .i64 0, .string ⟨#[]⟩, .bool false, .int .u64 0] rfl rfl _ _ HR1.out (by kernel_rfl) (by kernel_rfl) (by kernel_rfl) ?_))
    exact endCL rfl w.heap.size rfl rfl (setRow_heap _ _ _ #[.int .i64 0, .string ⟨#[]⟩, .bool false, .int .u64 0] _ _ HR1.out) ⟨rfl, below_setRow (HB1.out.alloc HB1.out.size _) (Nat.le_refl _) _⟩
  | good L =>
    rw [hT] at HT hA
    have hA : litT L = A := hA
    unfold AnsTo at HT
    simp only at HT
    have hlen := tokA_good hT
    clear hT hV
    match L, hA, HT, hlen with
    | [], hA, HT, hlen =>
      exact absurd hlen.1 (fun h => by cases h)
    | [z], hA, HT, hlen =>
      have hA : none = A := hA
      subst hA
      clear hlen
      simp only [List.length_cons, List.length_nil, Nat.zero_add] at HT
      go_enter Tryz.func50, Tryz.ntmps50
      go_wp2_with (first
        | (go_at_call 33; refine (HT.out _ HB0.out).mono ?_; rintro e1 w1 ⟨⟨ao, cp, rfl, htk, hcp⟩, hb⟩; have HB1 := Lib.hid (HB0.out.trans (hb.mono HB0.out.size)); have HR1 := Lib.hid (rowKeep ((Below.refl w1.heap.size w1).alloc (Nat.le_refl _) (.cells #[.int .i64 0, .int .i64 0] 57)) (rowKeep hb HRow.out)); have HTK := Lib.hid htk; clear hb htk)
        | (refine wpList_store_rowTo rfl 40 _ _ rfl rfl w.heap.size #[.int .i64 0, .string ⟨#[]⟩, .bool false, .int .u64 0] rfl rfl _ _ HR1.out (by kernel_rfl) (by kernel_rfl) (by kernel_rfl) ?_))
      exact endCL rfl w.heap.size rfl rfl (setRow_heap _ _ _ #[.int .i64 0, .string ⟨#[]⟩, .bool false, .int .u64 0] _ _ HR1.out) ⟨rfl, below_setRow (HB1.out.alloc HB1.out.size _) (Nat.le_refl _) _⟩
    | [⟨k, t, n, a⟩, z], hA, HT, hlen =>
      have hA : (if k = 3 then some (ofText t) else if k = 2 then some ⟨2, ⟨#[]⟩, false, (n : Nat)⟩ else if k = 1 ∧ t = kTRUE then some ⟨4, ⟨#[]⟩, false, 1⟩ else if k = 1 ∧ t = kFALSE then some ⟨4, ⟨#[]⟩, false, 0⟩ else none) = A := hA
      clear hlen
      simp only [List.length_cons, List.length_nil, Nat.zero_add] at HT
      have HT' := HT
      by_cases h2 : k = 2
      · rw [if_neg (by omega), if_pos h2] at hA
        subst hA
        have q2 : ((k : Int) == 2) = true := by rw [beq_iff_eq]; omega
        clear h2
        go_enter Tryz.func50, Tryz.ntmps50
        go_wp2_with (first
          | (go_at_call 33; refine (HT.out _ HB0.out).mono ?_; rintro e1 w1 ⟨⟨ao, cp, rfl, htk, hcp⟩, hb⟩; have HB1 := Lib.hid (HB0.out.trans (hb.mono HB0.out.size)); have HR1 := Lib.hid (rowKeep ((Below.refl w1.heap.size w1).alloc (Nat.le_refl _) (.cells #[.int .i64 0, .int .i64 0] 57)) (rowKeep hb HRow.out)); have HR2 := Lib.hid (rowKeep ((Below.refl (w1.alloc (.cells #[.int .i64 0, .int .i64 0] 57)).heap.size _).alloc (Nat.le_refl _) (.cells #[.int .i64 (k : Nat), .string (bs t), .int .u64 (n : Nat), .int .i64 (a : Nat)] 93)) HR1.out); have HTK := Lib.hid htk; obtain ⟨b, off, rfl, c0, c1, c2, c3⟩ := tk_four (HTK.out 0 (by decide)); have y0 : w1.cell? ⟨b, off, none⟩ = some (.int .i64 (k : Nat)) := c0; have y1 : w1.cell? ⟨b, off + 1, none⟩ = some (.string (bs t)) := c1; have y2 : w1.cell? ⟨b, off + 2, none⟩ = some (.int .u64 (n : Nat)) := c2; have y3 : w1.cell? ⟨b, off + 3, none⟩ = some (.int .i64 (a : Nat)) := c3; clear c0 c1 c2 c3; have hbl := World.block_lt_of_cell? w1 _ y0; have hbn : ¬ b = w1.heap.size := (by simp at hbl; omega); clear hb htk)
          | (refine wpList_store_rowTo rfl 40 _ _ rfl rfl w.heap.size #[.int .i64 2, .string ⟨#[]⟩, .bool false, .int .u64 (n : Nat)] rfl rfl _ _ HR2.out (by kernel_rfl) (by kernel_rfl) (by kernel_rfl) ?_))
        exact endCL rfl w.heap.size rfl rfl (setRow_heap _ _ _ #[.int .i64 2, .string ⟨#[]⟩, .bool false, .int .u64 (n : Nat)] _ _ HR2.out) ⟨rfl, below_setRow ((HB1.out.alloc HB1.out.size _).alloc (by have := HB1.out.size; simp; omega) _) (Nat.le_refl _) _⟩
      have q2 : ((k : Int) == 2) = false := by rw [beq_eq_false_iff_ne]; omega
      by_cases h3 : k = 3
      · rw [if_pos h3] at hA
        subst hA
        have q3 : ((k : Int) == 3) = true := by rw [beq_iff_eq]; omega
        clear h3 h2
        go_enter Tryz.func50, Tryz.ntmps50
        go_wp2_with (first
          | (go_at_call 33; refine (HT.out _ HB0.out).mono ?_; rintro e1 w1 ⟨⟨ao, cp, rfl, htk, hcp⟩, hb⟩; have HB1 := Lib.hid (HB0.out.trans (hb.mono HB0.out.size)); have HR1 := Lib.hid (rowKeep ((Below.refl w1.heap.size w1).alloc (Nat.le_refl _) (.cells #[.int .i64 0, .int .i64 0] 57)) (rowKeep hb HRow.out)); have HR2 := Lib.hid (rowKeep ((Below.refl (w1.alloc (.cells #[.int .i64 0, .int .i64 0] 57)).heap.size _).alloc (Nat.le_refl _) (.cells #[.int .i64 (k : Nat), .string (bs t), .int .u64 (n : Nat), .int .i64 (a : Nat)] 93)) HR1.out); have HTK := Lib.hid htk; obtain ⟨b, off, rfl, c0, c1, c2, c3⟩ := tk_four (HTK.out 0 (by decide)); have y0 : w1.cell? ⟨b, off, none⟩ = some (.int .i64 (k : Nat)) := c0; have y1 : w1.cell? ⟨b, off + 1, none⟩ = some (.string (bs t)) := c1; have y2 : w1.cell? ⟨b, off + 2, none⟩ = some (.int .u64 (n : Nat)) := c2; have y3 : w1.cell? ⟨b, off + 3, none⟩ = some (.int .i64 (a : Nat)) := c3; clear c0 c1 c2 c3; have hbl := World.block_lt_of_cell? w1 _ y0; have hbn : ¬ b = w1.heap.size := (by simp at hbl; omega); clear hb htk)
          | (refine wpList_store_rowTo rfl 40 _ _ rfl rfl w.heap.size #[.int .i64 3, .string (bs t), .bool false, .int .u64 0] rfl rfl _ _ HR2.out (by kernel_rfl) (by kernel_rfl) (by kernel_rfl) ?_))
        exact endCL rfl w.heap.size rfl rfl (setRow_heap _ _ _ #[.int .i64 3, .string (bs t), .bool false, .int .u64 0] _ _ HR2.out) ⟨rfl, below_setRow ((HB1.out.alloc HB1.out.size _).alloc (by have := HB1.out.size; simp; omega) _) (Nat.le_refl _) _⟩
      have q3 : ((k : Int) == 3) = false := by rw [beq_eq_false_iff_ne]; omega
      rw [if_neg h3, if_neg h2] at hA
      by_cases h1 : k = 1
      · have q1 : ((k : Int) == 1) = true := by rw [beq_iff_eq]; omega
        by_cases hT : t = kTRUE
        · rw [if_pos ⟨h1, hT⟩] at hA
          subst hA
          have t1 : ((bs t).toList == (⟨#[84, 82, 85, 69]⟩ : ByteArray).toList) = true := by rw [hT]; kernel_rfl
          have t1' : ((bs t).toList == [84, 82, 85, 69]) = true := by rw [hT]; kernel_rfl
          clear h1 h2 h3 hT
          go_enter Tryz.func50, Tryz.ntmps50
          go_wp2_with (first
            | (go_at_call 33; refine (HT.out _ HB0.out).mono ?_; rintro e1 w1 ⟨⟨ao, cp, rfl, htk, hcp⟩, hb⟩; have HB1 := Lib.hid (HB0.out.trans (hb.mono HB0.out.size)); have HR1 := Lib.hid (rowKeep ((Below.refl w1.heap.size w1).alloc (Nat.le_refl _) (.cells #[.int .i64 0, .int .i64 0] 57)) (rowKeep hb HRow.out)); have HR2 := Lib.hid (rowKeep ((Below.refl (w1.alloc (.cells #[.int .i64 0, .int .i64 0] 57)).heap.size _).alloc (Nat.le_refl _) (.cells #[.int .i64 (k : Nat), .string (bs t), .int .u64 (n : Nat), .int .i64 (a : Nat)] 93)) HR1.out); have HTK := Lib.hid htk; obtain ⟨b, off, rfl, c0, c1, c2, c3⟩ := tk_four (HTK.out 0 (by decide)); have y0 : w1.cell? ⟨b, off, none⟩ = some (.int .i64 (k : Nat)) := c0; have y1 : w1.cell? ⟨b, off + 1, none⟩ = some (.string (bs t)) := c1; have y2 : w1.cell? ⟨b, off + 2, none⟩ = some (.int .u64 (n : Nat)) := c2; have y3 : w1.cell? ⟨b, off + 3, none⟩ = some (.int .i64 (a : Nat)) := c3; clear c0 c1 c2 c3; have hbl := World.block_lt_of_cell? w1 _ y0; have hbn : ¬ b = w1.heap.size := (by simp at hbl; omega); clear hb htk)
            | (refine wpList_store_rowTo rfl 40 _ _ rfl rfl w.heap.size #[.int .i64 4, .string ⟨#[]⟩, .bool false, .int .u64 1] rfl rfl _ _ HR2.out (by kernel_rfl) (by kernel_rfl) (by kernel_rfl) ?_))
          exact endCL rfl w.heap.size rfl rfl (setRow_heap _ _ _ #[.int .i64 4, .string ⟨#[]⟩, .bool false, .int .u64 1] _ _ HR2.out) ⟨rfl, below_setRow ((HB1.out.alloc HB1.out.size _).alloc (by have := HB1.out.size; simp; omega) _) (Nat.le_refl _) _⟩
        · have t1' : ((bs t).toList == [84, 82, 85, 69]) = false := by rw [bs_list, beq_eq_false_iff_ne]; exact hT
          have t1 : ((bs t).toList == (⟨#[84, 82, 85, 69]⟩ : ByteArray).toList) = false := by rw [show (⟨#[84, 82, 85, 69]⟩ : ByteArray).toList = [84, 82, 85, 69] from by kernel_rfl]; exact t1'
          rw [if_neg (fun h => hT h.2)] at hA
          by_cases hF : t = kFALSE
          · rw [if_pos ⟨h1, hF⟩] at hA
            subst hA
            have t2 : ((bs t).toList == (⟨#[70, 65, 76, 83, 69]⟩ : ByteArray).toList) = true := by rw [hF]; kernel_rfl
            have t2' : ((bs t).toList == [70, 65, 76, 83, 69]) = true := by rw [hF]; kernel_rfl
            clear h1 h2 h3 hT hF
            go_enter Tryz.func50, Tryz.ntmps50
            go_wp2_with (first
              | (go_at_call 33; refine (HT.out _ HB0.out).mono ?_; rintro e1 w1 ⟨⟨ao, cp, rfl, htk, hcp⟩, hb⟩; have HB1 := Lib.hid (HB0.out.trans (hb.mono HB0.out.size)); have HR1 := Lib.hid (rowKeep ((Below.refl w1.heap.size w1).alloc (Nat.le_refl _) (.cells #[.int .i64 0, .int .i64 0] 57)) (rowKeep hb HRow.out)); have HR2 := Lib.hid (rowKeep ((Below.refl (w1.alloc (.cells #[.int .i64 0, .int .i64 0] 57)).heap.size _).alloc (Nat.le_refl _) (.cells #[.int .i64 (k : Nat), .string (bs t), .int .u64 (n : Nat), .int .i64 (a : Nat)] 93)) HR1.out); have HTK := Lib.hid htk; obtain ⟨b, off, rfl, c0, c1, c2, c3⟩ := tk_four (HTK.out 0 (by decide)); have y0 : w1.cell? ⟨b, off, none⟩ = some (.int .i64 (k : Nat)) := c0; have y1 : w1.cell? ⟨b, off + 1, none⟩ = some (.string (bs t)) := c1; have y2 : w1.cell? ⟨b, off + 2, none⟩ = some (.int .u64 (n : Nat)) := c2; have y3 : w1.cell? ⟨b, off + 3, none⟩ = some (.int .i64 (a : Nat)) := c3; clear c0 c1 c2 c3; have hbl := World.block_lt_of_cell? w1 _ y0; have hbn : ¬ b = w1.heap.size := (by simp at hbl; omega); clear hb htk)
              | (refine wpList_store_rowTo rfl 40 _ _ rfl rfl w.heap.size #[.int .i64 4, .string ⟨#[]⟩, .bool false, .int .u64 0] rfl rfl _ _ HR2.out (by kernel_rfl) (by kernel_rfl) (by kernel_rfl) ?_))
            exact endCL rfl w.heap.size rfl rfl (setRow_heap _ _ _ #[.int .i64 4, .string ⟨#[]⟩, .bool false, .int .u64 0] _ _ HR2.out) ⟨rfl, below_setRow ((HB1.out.alloc HB1.out.size _).alloc (by have := HB1.out.size; simp; omega) _) (Nat.le_refl _) _⟩
          · have t2' : ((bs t).toList == [70, 65, 76, 83, 69]) = false := by rw [bs_list, beq_eq_false_iff_ne]; exact hF
            have t2 : ((bs t).toList == (⟨#[70, 65, 76, 83, 69]⟩ : ByteArray).toList) = false := by rw [show (⟨#[70, 65, 76, 83, 69]⟩ : ByteArray).toList = [70, 65, 76, 83, 69] from by kernel_rfl]; exact t2'
            rw [if_neg (fun h => hF h.2)] at hA
            subst hA
            clear h1 h2 h3 hT hF
            go_enter Tryz.func50, Tryz.ntmps50
            go_wp2_with (first
              | (go_at_call 33; refine (HT.out _ HB0.out).mono ?_; rintro e1 w1 ⟨⟨ao, cp, rfl, htk, hcp⟩, hb⟩; have HB1 := Lib.hid (HB0.out.trans (hb.mono HB0.out.size)); have HR1 := Lib.hid (rowKeep ((Below.refl w1.heap.size w1).alloc (Nat.le_refl _) (.cells #[.int .i64 0, .int .i64 0] 57)) (rowKeep hb HRow.out)); have HR2 := Lib.hid (rowKeep ((Below.refl (w1.alloc (.cells #[.int .i64 0, .int .i64 0] 57)).heap.size _).alloc (Nat.le_refl _) (.cells #[.int .i64 (k : Nat), .string (bs t), .int .u64 (n : Nat), .int .i64 (a : Nat)] 93)) HR1.out); have HTK := Lib.hid htk; obtain ⟨b, off, rfl, c0, c1, c2, c3⟩ := tk_four (HTK.out 0 (by decide)); have y0 : w1.cell? ⟨b, off, none⟩ = some (.int .i64 (k : Nat)) := c0; have y1 : w1.cell? ⟨b, off + 1, none⟩ = some (.string (bs t)) := c1; have y2 : w1.cell? ⟨b, off + 2, none⟩ = some (.int .u64 (n : Nat)) := c2; have y3 : w1.cell? ⟨b, off + 3, none⟩ = some (.int .i64 (a : Nat)) := c3; clear c0 c1 c2 c3; have hbl := World.block_lt_of_cell? w1 _ y0; have hbn : ¬ b = w1.heap.size := (by simp at hbl; omega); clear hb htk)
              | (refine wpList_store_rowTo rfl 40 _ _ rfl rfl w.heap.size #[.int .i64 0, .string ⟨#[]⟩, .bool false, .int .u64 0] rfl rfl _ _ HR2.out (by kernel_rfl) (by kernel_rfl) (by kernel_rfl) ?_))
            exact endCL rfl w.heap.size rfl rfl (setRow_heap _ _ _ #[.int .i64 0, .string ⟨#[]⟩, .bool false, .int .u64 0] _ _ HR2.out) ⟨rfl, below_setRow ((HB1.out.alloc HB1.out.size _).alloc (by have := HB1.out.size; simp; omega) _) (Nat.le_refl _) _⟩
      · have q1 : ((k : Int) == 1) = false := by rw [beq_eq_false_iff_ne]; omega
        rw [if_neg (fun h => h1 h.1), if_neg (fun h => h1 h.1)] at hA
        subst hA
        clear h1 h2 h3
        go_enter Tryz.func50, Tryz.ntmps50
        go_wp2_with (first
          | (go_at_call 33; refine (HT.out _ HB0.out).mono ?_; rintro e1 w1 ⟨⟨ao, cp, rfl, htk, hcp⟩, hb⟩; have HB1 := Lib.hid (HB0.out.trans (hb.mono HB0.out.size)); have HR1 := Lib.hid (rowKeep ((Below.refl w1.heap.size w1).alloc (Nat.le_refl _) (.cells #[.int .i64 0, .int .i64 0] 57)) (rowKeep hb HRow.out)); have HR2 := Lib.hid (rowKeep ((Below.refl (w1.alloc (.cells #[.int .i64 0, .int .i64 0] 57)).heap.size _).alloc (Nat.le_refl _) (.cells #[.int .i64 (k : Nat), .string (bs t), .int .u64 (n : Nat), .int .i64 (a : Nat)] 93)) HR1.out); have HTK := Lib.hid htk; obtain ⟨b, off, rfl, c0, c1, c2, c3⟩ := tk_four (HTK.out 0 (by decide)); have y0 : w1.cell? ⟨b, off, none⟩ = some (.int .i64 (k : Nat)) := c0; have y1 : w1.cell? ⟨b, off + 1, none⟩ = some (.string (bs t)) := c1; have y2 : w1.cell? ⟨b, off + 2, none⟩ = some (.int .u64 (n : Nat)) := c2; have y3 : w1.cell? ⟨b, off + 3, none⟩ = some (.int .i64 (a : Nat)) := c3; clear c0 c1 c2 c3; have hbl := World.block_lt_of_cell? w1 _ y0; have hbn : ¬ b = w1.heap.size := (by simp at hbl; omega); clear hb htk)
          | (refine wpList_store_rowTo rfl 40 _ _ rfl rfl w.heap.size #[.int .i64 0, .string ⟨#[]⟩, .bool false, .int .u64 0] rfl rfl _ _ HR2.out (by kernel_rfl) (by kernel_rfl) (by kernel_rfl) ?_))
        exact endCL rfl w.heap.size rfl rfl (setRow_heap _ _ _ #[.int .i64 0, .string ⟨#[]⟩, .bool false, .int .u64 0] _ _ HR2.out) ⟨rfl, below_setRow ((HB1.out.alloc HB1.out.size _).alloc (by have := HB1.out.size; simp; omega) _) (Nat.le_refl _) _⟩
    | [⟨k2, t2, n2, a2⟩, ⟨k, t, n, a⟩, z], hA, HT, hlen =>
      have hA : (if k2 = 5 ∧ t2 = [45] ∧ k = 2 then some ⟨2, ⟨#[]⟩, true, (n : Nat)⟩ else none) = A := hA
      clear hlen
      simp only [List.length_cons, List.length_nil, Nat.zero_add] at HT
      by_cases h5 : k2 = 5
      · have q5 : ((k2 : Int) == 5) = true := by rw [beq_iff_eq]; omega
        by_cases hm : t2 = [45]
        · have m1' : ((bs t2).toList == [45]) = true := by rw [hm]; kernel_rfl
          have m1 : ((bs t2).toList == (⟨#[45]⟩ : ByteArray).toList) = true := by rw [hm]; kernel_rfl
          by_cases h2 : k = 2
          · rw [if_pos ⟨h5, hm, h2⟩] at hA
            subst hA
            have q2 : ((k : Int) == 2) = true := by rw [beq_iff_eq]; omega
            clear h2 h5 hm
            go_enter Tryz.func50, Tryz.ntmps50
            go_wp2_with (first
              | (go_at_call 33; refine (HT.out _ HB0.out).mono ?_; rintro e1 w1 ⟨⟨ao, cp, rfl, htk, hcp⟩, hb⟩; have HB1 := Lib.hid (HB0.out.trans (hb.mono HB0.out.size)); have HR1 := Lib.hid (rowKeep ((Below.refl w1.heap.size w1).alloc (Nat.le_refl _) (.cells #[.int .i64 0, .int .i64 0] 57)) (rowKeep hb HRow.out)); have HR2 := Lib.hid (rowKeep ((Below.refl (w1.alloc (.cells #[.int .i64 0, .int .i64 0] 57)).heap.size _).alloc (Nat.le_refl _) (.cells #[.int .i64 (k : Nat), .string (bs t), .int .u64 (n : Nat), .int .i64 (a : Nat)] 93)) HR1.out); have HTK := Lib.hid htk; obtain ⟨b, off, rfl, c0, c1, c2, c3⟩ := tk_four (HTK.out 0 (by decide)); have y0 : w1.cell? ⟨b, off, none⟩ = some (.int .i64 (k2 : Nat)) := c0; have y1 : w1.cell? ⟨b, off + 1, none⟩ = some (.string (bs t2)) := c1; have hbl := World.block_lt_of_cell? w1 _ y0; have hbn : ¬ b = w1.heap.size := (by simp at hbl; omega); obtain ⟨bb, oo, ee, d0, d1, d2, d3⟩ := tk_four (HTK.out 1 (by decide)); obtain ⟨rfl, rfl, -⟩ : b = bb ∧ off = oo ∧ True := (by injection ee with ee; injection ee with e1 e2; exact ⟨e1, e2, trivial⟩); have z0 : w1.cell? ⟨b, off + 4, none⟩ = some (.int .i64 (k : Nat)) := d0; have z1 : w1.cell? ⟨b, off + 4 + 1, none⟩ = some (.string (bs t)) := d1; have z2 : w1.cell? ⟨b, off + 4 + 2, none⟩ = some (.int .u64 (n : Nat)) := d2; have z3 : w1.cell? ⟨b, off + 4 + 3, none⟩ = some (.int .i64 (a : Nat)) := d3; clear ee c0 c1 c2 c3 d0 d1 d2 d3; clear hb htk)
              | (refine wpList_store_rowTo rfl 40 _ _ rfl rfl w.heap.size #[.int .i64 2, .string ⟨#[]⟩, .bool true, .int .u64 (n : Nat)] rfl rfl _ _ HR2.out (by kernel_rfl) (by kernel_rfl) (by kernel_rfl) ?_))
            exact endCL rfl w.heap.size rfl rfl (setRow_heap _ _ _ #[.int .i64 2, .string ⟨#[]⟩, .bool true, .int .u64 (n : Nat)] _ _ HR2.out) ⟨rfl, below_setRow ((HB1.out.alloc HB1.out.size _).alloc (by have := HB1.out.size; simp; omega) _) (Nat.le_refl _) _⟩
          · rw [if_neg (fun h => h2 h.2.2)] at hA
            subst hA
            have q2 : ((k : Int) == 2) = false := by rw [beq_eq_false_iff_ne]; omega
            clear h2 h5 hm
            go_enter Tryz.func50, Tryz.ntmps50
            go_wp2_with (first
              | (go_at_call 33; refine (HT.out _ HB0.out).mono ?_; rintro e1 w1 ⟨⟨ao, cp, rfl, htk, hcp⟩, hb⟩; have HB1 := Lib.hid (HB0.out.trans (hb.mono HB0.out.size)); have HR1 := Lib.hid (rowKeep ((Below.refl w1.heap.size w1).alloc (Nat.le_refl _) (.cells #[.int .i64 0, .int .i64 0] 57)) (rowKeep hb HRow.out)); have HR2 := Lib.hid (rowKeep ((Below.refl (w1.alloc (.cells #[.int .i64 0, .int .i64 0] 57)).heap.size _).alloc (Nat.le_refl _) (.cells #[.int .i64 (k : Nat), .string (bs t), .int .u64 (n : Nat), .int .i64 (a : Nat)] 93)) HR1.out); have HTK := Lib.hid htk; obtain ⟨b, off, rfl, c0, c1, c2, c3⟩ := tk_four (HTK.out 0 (by decide)); have y0 : w1.cell? ⟨b, off, none⟩ = some (.int .i64 (k2 : Nat)) := c0; have y1 : w1.cell? ⟨b, off + 1, none⟩ = some (.string (bs t2)) := c1; have hbl := World.block_lt_of_cell? w1 _ y0; have hbn : ¬ b = w1.heap.size := (by simp at hbl; omega); obtain ⟨bb, oo, ee, d0, d1, d2, d3⟩ := tk_four (HTK.out 1 (by decide)); obtain ⟨rfl, rfl, -⟩ : b = bb ∧ off = oo ∧ True := (by injection ee with ee; injection ee with e1 e2; exact ⟨e1, e2, trivial⟩); have z0 : w1.cell? ⟨b, off + 4, none⟩ = some (.int .i64 (k : Nat)) := d0; have z1 : w1.cell? ⟨b, off + 4 + 1, none⟩ = some (.string (bs t)) := d1; have z2 : w1.cell? ⟨b, off + 4 + 2, none⟩ = some (.int .u64 (n : Nat)) := d2; have z3 : w1.cell? ⟨b, off + 4 + 3, none⟩ = some (.int .i64 (a : Nat)) := d3; clear ee c0 c1 c2 c3 d0 d1 d2 d3; clear hb htk)
              | (refine wpList_store_rowTo rfl 40 _ _ rfl rfl w.heap.size #[.int .i64 0, .string ⟨#[]⟩, .bool false, .int .u64 0] rfl rfl _ _ HR2.out (by kernel_rfl) (by kernel_rfl) (by kernel_rfl) ?_))
            exact endCL rfl w.heap.size rfl rfl (setRow_heap _ _ _ #[.int .i64 0, .string ⟨#[]⟩, .bool false, .int .u64 0] _ _ HR2.out) ⟨rfl, below_setRow ((HB1.out.alloc HB1.out.size _).alloc (by have := HB1.out.size; simp; omega) _) (Nat.le_refl _) _⟩
        · rw [if_neg (fun h => hm h.2.1)] at hA
          subst hA
          have m1' : ((bs t2).toList == [45]) = false := by rw [bs_list, beq_eq_false_iff_ne]; exact hm
          have m1 : ((bs t2).toList == (⟨#[45]⟩ : ByteArray).toList) = false := by rw [show (⟨#[45]⟩ : ByteArray).toList = [45] from by kernel_rfl]; exact m1'
          clear h5 hm
          go_enter Tryz.func50, Tryz.ntmps50
          go_wp2_with (first
            | (go_at_call 33; refine (HT.out _ HB0.out).mono ?_; rintro e1 w1 ⟨⟨ao, cp, rfl, htk, hcp⟩, hb⟩; have HB1 := Lib.hid (HB0.out.trans (hb.mono HB0.out.size)); have HR1 := Lib.hid (rowKeep ((Below.refl w1.heap.size w1).alloc (Nat.le_refl _) (.cells #[.int .i64 0, .int .i64 0] 57)) (rowKeep hb HRow.out)); have HTK := Lib.hid htk; obtain ⟨b, off, rfl, c0, c1, c2, c3⟩ := tk_four (HTK.out 0 (by decide)); have y0 : w1.cell? ⟨b, off, none⟩ = some (.int .i64 (k2 : Nat)) := c0; have y1 : w1.cell? ⟨b, off + 1, none⟩ = some (.string (bs t2)) := c1; have hbl := World.block_lt_of_cell? w1 _ y0; have hbn : ¬ b = w1.heap.size := (by simp at hbl; omega); obtain ⟨bb, oo, ee, d0, d1, d2, d3⟩ := tk_four (HTK.out 1 (by decide)); obtain ⟨rfl, rfl, -⟩ : b = bb ∧ off = oo ∧ True := (by injection ee with ee; injection ee with e1 e2; exact ⟨e1, e2, trivial⟩); have z0 : w1.cell? ⟨b, off + 4, none⟩ = some (.int .i64 (k : Nat)) := d0; have z1 : w1.cell? ⟨b, off + 4 + 1, none⟩ = some (.string (bs t)) := d1; have z2 : w1.cell? ⟨b, off + 4 + 2, none⟩ = some (.int .u64 (n : Nat)) := d2; have z3 : w1.cell? ⟨b, off + 4 + 3, none⟩ = some (.int .i64 (a : Nat)) := d3; clear ee c0 c1 c2 c3 d0 d1 d2 d3; clear hb htk)
            | (refine wpList_store_rowTo rfl 40 _ _ rfl rfl w.heap.size #[.int .i64 0, .string ⟨#[]⟩, .bool false, .int .u64 0] rfl rfl _ _ HR1.out (by kernel_rfl) (by kernel_rfl) (by kernel_rfl) ?_))
          exact endCL rfl w.heap.size rfl rfl (setRow_heap _ _ _ #[.int .i64 0, .string ⟨#[]⟩, .bool false, .int .u64 0] _ _ HR1.out) ⟨rfl, below_setRow (HB1.out.alloc HB1.out.size _) (Nat.le_refl _) _⟩
      · rw [if_neg (fun h => h5 h.1)] at hA
        subst hA
        have q5 : ((k2 : Int) == 5) = false := by rw [beq_eq_false_iff_ne]; omega
        clear h5
        go_enter Tryz.func50, Tryz.ntmps50
        go_wp2_with (first
          | (go_at_call 33; refine (HT.out _ HB0.out).mono ?_; rintro e1 w1 ⟨⟨ao, cp, rfl, htk, hcp⟩, hb⟩; have HB1 := Lib.hid (HB0.out.trans (hb.mono HB0.out.size)); have HR1 := Lib.hid (rowKeep ((Below.refl w1.heap.size w1).alloc (Nat.le_refl _) (.cells #[.int .i64 0, .int .i64 0] 57)) (rowKeep hb HRow.out)); have HTK := Lib.hid htk; obtain ⟨b, off, rfl, c0, c1, c2, c3⟩ := tk_four (HTK.out 0 (by decide)); have y0 : w1.cell? ⟨b, off, none⟩ = some (.int .i64 (k2 : Nat)) := c0; have y1 : w1.cell? ⟨b, off + 1, none⟩ = some (.string (bs t2)) := c1; have hbl := World.block_lt_of_cell? w1 _ y0; have hbn : ¬ b = w1.heap.size := (by simp at hbl; omega); obtain ⟨bb, oo, ee, d0, d1, d2, d3⟩ := tk_four (HTK.out 1 (by decide)); obtain ⟨rfl, rfl, -⟩ : b = bb ∧ off = oo ∧ True := (by injection ee with ee; injection ee with e1 e2; exact ⟨e1, e2, trivial⟩); have z0 : w1.cell? ⟨b, off + 4, none⟩ = some (.int .i64 (k : Nat)) := d0; have z1 : w1.cell? ⟨b, off + 4 + 1, none⟩ = some (.string (bs t)) := d1; have z2 : w1.cell? ⟨b, off + 4 + 2, none⟩ = some (.int .u64 (n : Nat)) := d2; have z3 : w1.cell? ⟨b, off + 4 + 3, none⟩ = some (.int .i64 (a : Nat)) := d3; clear ee c0 c1 c2 c3 d0 d1 d2 d3; clear hb htk)
          | (refine wpList_store_rowTo rfl 40 _ _ rfl rfl w.heap.size #[.int .i64 0, .string ⟨#[]⟩, .bool false, .int .u64 0] rfl rfl _ _ HR1.out (by kernel_rfl) (by kernel_rfl) (by kernel_rfl) ?_))
        exact endCL rfl w.heap.size rfl rfl (setRow_heap _ _ _ #[.int .i64 0, .string ⟨#[]⟩, .bool false, .int .u64 0] _ _ HR1.out) ⟨rfl, below_setRow (HB1.out.alloc HB1.out.size _) (Nat.le_refl _) _⟩
    | x0 :: x1 :: x2 :: x3 :: R, hA, HT, hlen =>
      have hA : none = A := hA
      subst hA
      obtain ⟨m, hm⟩ : ∃ m, (x0 :: x1 :: x2 :: x3 :: R).length = m := ⟨_, rfl⟩
      have hm4 : 4 ≤ m := by rw [← hm]; simp
      have hm65 : m ≤ 65 := by rw [← hm]; exact hlen.2
      rw [hm] at HT
      have hw1 : IntKind.i64.wrap ((m : Int) - 1) = ((m - 1 : Nat) : Int) := by rw [IntWalk.i64_in _ (by omega)]; omega
      have l2 : (((m - 1 : Nat) : Int) == 2) = false := by rw [beq_eq_false_iff_ne]; omega
      have l1 : (((m - 1 : Nat) : Int) != 1) = true := by rw [bne_iff_ne]; omega
      have hmm : m - 1 ≤ m := by omega
      clear hlen hm
      go_enter Tryz.func50, Tryz.ntmps50
      go_wp2_with (first
        | (go_at_call 33; refine (HT.out _ HB0.out).mono ?_; rintro e1 w1 ⟨⟨ao, cp, rfl, htk, hcp⟩, hb⟩; have HB1 := Lib.hid (HB0.out.trans (hb.mono HB0.out.size)); have HR1 := Lib.hid (rowKeep ((Below.refl w1.heap.size w1).alloc (Nat.le_refl _) (.cells #[.int .i64 0, .int .i64 0] 57)) (rowKeep hb HRow.out)); have HTK := Lib.hid htk; clear hb htk)
        | (refine wpList_store_rowTo rfl 40 _ _ rfl rfl w.heap.size #[.int .i64 0, .string ⟨#[]⟩, .bool false, .int .u64 0] rfl rfl _ _ HR1.out (by kernel_rfl) (by kernel_rfl) (by kernel_rfl) ?_))
      exact endCL rfl w.heap.size rfl rfl (setRow_heap _ _ _ #[.int .i64 0, .string ⟨#[]⟩, .bool false, .int .u64 0] _ _ HR1.out) ⟨rfl, below_setRow (HB1.out.alloc HB1.out.size _) (Nat.le_refl _) _⟩
end Go.Proofs.YtcojomkpogikiaaGreatDoor
