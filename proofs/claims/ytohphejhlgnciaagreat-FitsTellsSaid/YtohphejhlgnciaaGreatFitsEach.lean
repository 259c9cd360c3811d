/- Contracts of package fits: the closures that check Items, and the loop over them. -/
import Derived.Test.YtohphejhlgnciaaGreatFitsCode
namespace Go.Proofs.YtohphejhlgnciaaGreat
open Go.RowKit
set_option linter.unusedVariables false
theorem elem9_any (ao : Option Addr) (len cap : Nat) (x : Int) (w : World) : Calls Tryz.prog 27 #[.slice ao len cap, .int .i64 x] w fun e w' =>
    ∃ g1 g2, e = .returned (.func (.func 44) #[] #[.pointer (some ⟨g1, 0, none⟩), .pointer (some ⟨g2, 0, none⟩)]) ∧ w'.cell? ⟨g1, 0, none⟩ = some (.slice ao len cap) ∧ w'.cell? ⟨g2, 0, none⟩ = some (.int .i64 x) ∧ Below w.heap.size w w' := by
  have hmf' := hmf
  go_enter Tryz.func27, Tryz.ntmps27
  go_wp2
  go_ret
  refine ⟨_, _, rfl, ?_, ?_, (((Below.refl _ _).alloc (Nat.le_refl _) _).alloc (by simp) _)⟩
  · simp
  · simp
theorem memb9_any (ao : Option Addr) (len cap : Nat) (ia : Option Addr) (n c : Nat) (w : World) : Calls Tryz.prog 29 #[.slice ao len cap, .slice ia n c] w fun e w' =>
    ∃ g1 g2, e = .returned (.func (.func 45) #[] #[.pointer (some ⟨g1, 0, none⟩), .pointer (some ⟨g2, 0, none⟩)]) ∧ w'.cell? ⟨g1, 0, none⟩ = some (.slice ao len cap) ∧ w'.cell? ⟨g2, 0, none⟩ = some (.slice ia n c) ∧ Below w.heap.size w w' := by
  have hmf' := hmf
  go_enter Tryz.func29, Tryz.ntmps29
  go_wp2
  go_ret
  refine ⟨_, _, rfl, ?_, ?_, (((Below.refl _ _).alloc (Nat.le_refl _) _).alloc (by simp) _)⟩
  · simp
  · simp
theorem eElem9 : Enters 44 := enters_of Tryz.func44 (by kernel_rfl) rfl
theorem eMemb9 : Enters 45 := enters_of Tryz.func45 (by kernel_rfl) rfl
theorem elemF9_any (ao : Option Addr) (len cap : Nat) (p i : Int) (T : VT) (g1 g2 : Nat) (x : Int) (w : World) (h1 : w.cell? ⟨g1, 0, none⟩ = some (.slice ao len cap)) (h2 : w.cell? ⟨g2, 0, none⟩ = some (.int .i64 p))
    (hf : ∀ wx, Below w.heap.size w wx → Calls Tryz.prog 16 #[.slice ao len cap, .int .i64 p, .agg #[.int .i64 T.kind, .int .u64 T.num, .string T.text, .slice T.ia T.len T.cap]] wx fun e w' => e = .returned (.int .i64 x) ∧ Below wx.heap.size wx w') :
    Calls Tryz.prog 44 #[.int .i64 i, .agg #[.int .i64 T.kind, .int .u64 T.num, .string T.text, .slice T.ia T.len T.cap], .pointer (some ⟨g1, 0, none⟩), .pointer (some ⟨g2, 0, none⟩)] w fun e w' => e = .returned (.int .i64 x) ∧ Below w.heap.size w w' := by
  have HB := Lib.hid ((Below.refl w.heap.size w).alloc (Nat.le_refl _) (.cells #[.int .i64 T.kind, .int .u64 T.num, .string T.text, .slice T.ia T.len T.cap] 26))
  have HF := Lib.hid hf
  have hl1 := World.block_lt_of_cell? w _ h1
  have hl2 := World.block_lt_of_cell? w _ h2
  have hn1 : ¬ g1 = w.heap.size := by simp at hl1; omega
  have hn2 : ¬ g2 = w.heap.size := by simp at hl2; omega
  clear hf
  go_enter Tryz.func44, Tryz.ntmps44
  go_wp2_with (go_at_call 16; refine (HF.out _ HB.out).mono ?_; rintro e w1 ⟨rfl, hb1⟩; have HB1 := Lib.hid (below_step8' HB.out hb1); clear hb1)
  go_ret
  exact ⟨rfl, HB1.out⟩
set_option maxHeartbeats 1000000 in
theorem membF9_any (ao : Option Addr) (len cap : Nat) (ia : Option Addr) (n c i : Nat) (X : ItemV) (T : VT) (g1 g2 : Nat) (x : Int) (hn : n ≤ 3518437208780) (hi : i < n) (w : World) (h1 : w.cell? ⟨g1, 0, none⟩ = some (.slice ao len cap)) (h2 : w.cell? ⟨g2, 0, none⟩ = some (.slice ia n c)) (hX : ItemAt w ia i X)
    (hf : ∀ wx, Below w.heap.size w wx → Calls Tryz.prog 16 #[.slice ao len cap, .int .i64 X.type, .agg #[.int .i64 T.kind, .int .u64 T.num, .string T.text, .slice T.ia T.len T.cap]] wx fun e w' => e = .returned (.int .i64 x) ∧ Below wx.heap.size wx w') :
    Calls Tryz.prog 45 #[.int .i64 i, .agg #[.int .i64 T.kind, .int .u64 T.num, .string T.text, .slice T.ia T.len T.cap], .pointer (some ⟨g1, 0, none⟩), .pointer (some ⟨g2, 0, none⟩)] w fun e w' => e = .returned (.int .i64 x) ∧ Below w.heap.size w w' := by
  have HB := Lib.hid ((Below.refl w.heap.size w).alloc (Nat.le_refl _) (.cells #[.int .i64 T.kind, .int .u64 T.num, .string T.text, .slice T.ia T.len T.cap] 26))
  have HQ := Lib.hid (alloc_at w (.cells #[.int .i64 T.kind, .int .u64 T.num, .string T.text, .slice T.ia T.len T.cap] 26))
  have HF := Lib.hid hf
  obtain ⟨b, off, rfl, c0, c1, c2, c3, c4, wi⟩ := hX
  have k1 := keep HB.out h1
  have k2 := keep HB.out h2
  have k3 := keep HB.out c2
  have hl1 := World.block_lt_of_cell? w _ h1
  have hl2 := World.block_lt_of_cell? w _ h2
  have hl3 := World.block_lt_of_cell? w _ c2
  have hn1 : ¬ g1 = w.heap.size := by simp at hl1; omega
  have hn2 : ¬ g2 = w.heap.size := by simp at hl2; omega
  have hn3 : ¬ b = w.heap.size := by simp at hl3; omega
  clear hf c0 c1 c3 c4 wi
  go_enter Tryz.func45, Tryz.ntmps45
  go_wp2_with fail
  generalize w.alloc (.cells #[.int .i64 T.kind, .int .u64 T.num, .string T.text, .slice T.ia T.len T.cap] 26) = W0 at *
  have d0 : W0.cell? ⟨w.heap.size, 0, none⟩ = some (.int .i64 T.kind) := cell_at HQ.out rfl
  have d1 : W0.cell? ⟨w.heap.size, 1, none⟩ = some (.int .u64 T.num) := cell_at HQ.out rfl
  have d2 : W0.cell? ⟨w.heap.size, 2, none⟩ = some (.string T.text) := cell_at HQ.out rfl
  have d3 : W0.cell? ⟨w.heap.size, 3, none⟩ = some (.slice T.ia T.len T.cap) := cell_at HQ.out rfl
  go_region_held3 (fun w' => w'.cell? ⟨g1, 0, none⟩ = some (.slice ao len cap) ∧ w'.cell? ⟨g2, 0, none⟩ = some (.slice (some ⟨b, off, none⟩) n c) ∧ w'.cell? ⟨b, off + i * 5 + 2, none⟩ = some (.int .i64 X.type) ∧ w'.cell? ⟨w.heap.size, 0, none⟩ = some (.int .i64 T.kind) ∧ w'.cell? ⟨w.heap.size, 1, none⟩ = some (.int .u64 T.num) ∧ w'.cell? ⟨w.heap.size, 2, none⟩ = some (.string T.text) ∧ w'.cell? ⟨w.heap.size, 3, none⟩ = some (.slice T.ia T.len T.cap))
    (first | exact ⟨k1, k2, k3, d0, d1, d2, d3⟩ | exact ⟨keep hb1 (by exact k1), keep hb1 (by exact k2), keep hb1 (by exact k3), keep hb1 (by exact d0), keep hb1 (by exact d1), keep hb1 (by exact d2), keep hb1 (by exact d3)⟩ | fail)
    (first | (go_at_call 16; refine (HF.out _ (by first | exact HB.out | exact HB.out.drew)).mono ?_; rintro e w1 ⟨rfl, hb1⟩; have HB1 := Lib.hid (below_step8' (by first | exact HB.out | exact HB.out.drew) hb1)))
  go_wp2
  go_ret
  exact ⟨rfl, HB1.out⟩
set_option maxHeartbeats 2000000 in
theorem each9_any (ia : Option Addr) (n cap : Nat) (K : Nat → VT) (S : Nat → Prop) (g : Nat) (lb : Array Value) (e : Nat → Int) (hn : n ≤ 2513169434843) (w : World) (hC : ∀ i, i < n → ∀ wx, Below w.heap.size w wx → CellsAt wx S ia i (K i)) (eg : Enters g)
    (hp : ∀ i, i < n → ∀ W, Below w.heap.size w W → Calls Tryz.prog g (#[.int .i64 i, .agg #[.int .i64 (K i).kind, .int .u64 (K i).num, .string (K i).text, .slice (K i).ia (K i).len (K i).cap]] ++ lb) W fun r W' => r = .returned (.int .i64 (e i)) ∧ Below W.heap.size W W') :
    Calls Tryz.prog 43 #[.slice ia n cap, .func (.func g) #[] lb] w fun r w' => r = .returned (.int .i64 (firstE e n)) ∧ Below w.heap.size w w' := by
  have HC := Lib.hid hC
  have HP := Lib.hid hp
  clear hC hp
  unfold Enters at eg
  go_enter Tryz.func43, Tryz.ntmps43
  go_wp2
  go_loopw [10] (fun i wr => ∃ j : Nat, j ≤ n ∧ i = .int .i64 j ∧ Hid (∀ m, m < j → (e m != 0) = false) ∧ Hid (Below w.heap.size w wr)) (fun i _ => n - (intOf i).toNat)
  case atStart => exact ⟨0, Nat.zero_le _, rfl, Lib.hid (fun m hm => absurd hm (Nat.not_lt_zero _)), Lib.hid (Below.refl _ _)⟩
  case round =>
    obtain ⟨j, hj, rfl, HF, HB⟩ := hrel
    by_cases hlt : j < n
    · obtain ⟨b, off, rfl, _, _, c0, c1, c2, c3⟩ := HC.out j hlt wr HB.out
      obtain ⟨M, hM⟩ : ∃ M, K j = M := ⟨_, rfl⟩
      have hcall := fun W (hb : Below w.heap.size w W) => HP.out j hlt W hb
      rw [hM] at hcall c0 c1 c2 c3
      have HW := Lib.hid (show Below w.heap.size w _ from HB.out.alloc HB.out.size (.cells #[.int .i64 M.kind, .int .u64 M.num, .string M.text, .slice M.ia M.len M.cap] 26))
      obtain ⟨q, hq⟩ : ∃ q, e j = q := ⟨_, rfl⟩
      rw [hq] at hcall
      have HD := Lib.hid hcall
      clear hcall hM
      cases hz : (q != 0) with
      | true =>
        have HT := Lib.hid (firstE_at (e := e) HF.out hlt (by rw [hq]; exact hz))
        have HQ := Lib.hid hq
        clear hq
        go_wp2_with (go_at_fn g; refine (HD.out _ HW.out).mono ?_; rintro r w2 ⟨rfl, hb2⟩; have HB2 := Lib.hid (below_step8' HW.out hb2); clear hb2)
        go_ret
        exact ⟨ret_i (by rw [HT.out, HQ.out]), HB2.out⟩
      | false =>
        have HF2 := Lib.hid (none_next (p := fun m => e m != 0) HF.out (by rw [hq]; exact hz))
        clear hq
        go_wp2_with (go_at_fn g; refine (HD.out _ HW.out).mono ?_; rintro r w2 ⟨rfl, hb2⟩; have HB2 := Lib.hid (below_step8' HW.out hb2); clear hb2)
        go_roundw
        case rel => exact ⟨j + 1, by omega, by go_num, HF2, HB2⟩
        case measure => simp [intOf]; omega
    · obtain rfl : j = n := by omega
      have HT := Lib.hid (firstE_none (e := e) HF.out)
      go_wp2
      go_ret
      exact ⟨ret_i (by rw [HT.out]), HB.out⟩
theorem upTo9_any (most : Int) (ia : Option Addr) (n cap : Nat) (hn : n ≤ 2513169434843) (g : Nat) (lb : Array Value) (x : Int) (w : World)
    (h : Calls Tryz.prog 43 #[.slice ia n cap, .func (.func g) #[] lb] w fun r w' => r = .returned (.int .i64 x) ∧ Below w.heap.size w w') :
    Calls Tryz.prog 26 #[.int .i64 most, .slice ia n cap, .func (.func g) #[] lb] w fun r w' => r = .returned (.int .i64 (if most < n then 3 else x)) ∧ Below w.heap.size w w' := by
  have HE := Lib.hid h
  clear h
  by_cases hm : most < n
  · rw [if_pos hm]
    go_enter Tryz.func26, Tryz.ntmps26
    go_wp2
    go_ret
    exact ⟨rfl, Below.refl _ _⟩
  · rw [if_neg hm]
    go_enter Tryz.func26, Tryz.ntmps26
    go_wp2_with (go_at_call 43; refine (HE.out).mono ?_; rintro e w2 ⟨rfl, hb2⟩; have HB2 := Lib.hid hb2; clear hb2)
    go_ret
    exact ⟨rfl, HB2.out⟩
theorem all9_any (count : Int) (ia : Option Addr) (n cap : Nat) (hn : n ≤ 2513169434843) (g : Nat) (lb : Array Value) (x : Int) (w : World)
    (h : n = count → Calls Tryz.prog 43 #[.slice ia n cap, .func (.func g) #[] lb] w fun r w' => r = .returned (.int .i64 x) ∧ Below w.heap.size w w') :
    Calls Tryz.prog 28 #[.int .i64 count, .slice ia n cap, .func (.func g) #[] lb] w fun r w' => r = .returned (.int .i64 (if (n : Int) ≠ count then 18 else x)) ∧ Below w.heap.size w w' := by
  by_cases hm : (n : Int) = count
  · have HE := Lib.hid (h hm)
    have hm' : ((n : Int) != count) = false := by simpa using hm
    rw [if_neg (by simpa using hm)]
    clear h hm
    go_enter Tryz.func28, Tryz.ntmps28
    go_wp2_with (go_at_call 43; refine (HE.out).mono ?_; rintro e w2 ⟨rfl, hb2⟩; have HB2 := Lib.hid hb2; clear hb2)
    go_ret
    exact ⟨rfl, HB2.out⟩
  · have hm' : ((n : Int) != count) = true := by simpa using hm
    rw [if_pos hm]
    clear h
    go_enter Tryz.func28, Tryz.ntmps28
    go_wp2
    go_ret
    exact ⟨rfl, Below.refl _ _⟩
end Go.Proofs.YtohphejhlgnciaaGreat
