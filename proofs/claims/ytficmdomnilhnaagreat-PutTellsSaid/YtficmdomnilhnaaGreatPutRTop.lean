/- Contract of chapter 10's reference: Put. -/
import Derived.Test.YtficmdomnilhnaaGreatPutRow
import Derived.Test.YtficmdomnilhnaaGreatPutTop
namespace Go.Proofs.YtficmdomnilhnaaGreat
open Go.RowKit
set_option linter.unusedVariables false
set_option maxHeartbeats 4000000 in
theorem rput10_any (ao : Option Addr) (len cap : Nat) (L : Nat → TypeV) (hlen : len ≤ 1000000) (S : Nat → Prop) (t : Int) (T : VT) (w : World) (HV : ValAt w S T) (H : ∀ i, i < len → TypeAt w ao i (L i)) :
    Calls Tryz.prog 10 #[.slice ao len cap, .int .i64 t, .agg #[.int .i64 T.kind, .int .u64 T.num, .string T.text, .slice T.ia T.len T.cap]] w fun e w' => e = .returned (.tuple #[.string (putBytes L len t T), .int .i64 (putErr L len t T)]) ∧ Below w.heap.size w w' := by
  have hA := (Below.refl w.heap.size w).alloc (Nat.le_refl _) (.cells #[.int .i64 T.kind, .int .u64 T.num, .string T.text, .slice T.ia T.len T.cap] 26)
  have HQ := Lib.hid (alloc_at w (.cells #[.int .i64 T.kind, .int .u64 T.num, .string T.text, .slice T.ia T.len T.cap] 26))
  have hf := fun wx (hb : Below w.heap.size w wx) => rfits9_any ao len cap L hlen S t T wx (HV.next hb) (hold H hb)
  have HA := Lib.hid hA
  by_cases hE : fitsA L len t T = 0
  · obtain ⟨k, rfl, hk, hfe, hft⟩ := fitsA_zero hE
    have hv := ok_all hfe
    rw [hE] at hf
    have hrow := fun wx (hb : Below w.heap.size w wx) => refRow_any ao len cap L hlen hfe S T k wx (HV.next hb) (hold H hb) hk hft
    unfold RowTo at hrow
    have hok := row_okP hv T k hk hft
    have hfar := row_far hv hk (valAt_wf T HV) hft 0
    have hsh := row_short (rowT L T k) 0 hok
    have e3 : putErr L len (k : Nat) T = if 512 < endR (rowT L T k) 0 then 3 else 0 := by unfold putErr; rw [if_neg (by rw [hE]; decide)]; rfl
    have e5 : putErr L len (k : Nat) T = 0 → putBytes L len (k : Nat) T = bytR (rowT L T k) ⟨#[]⟩ := fun h => by unfold putBytes; rw [if_pos h]; rfl
    have e6 : putErr L len (k : Nat) T ≠ 0 → putBytes L len (k : Nat) T = ⟨#[]⟩ := fun h => by unfold putBytes; rw [if_neg h]
    obtain ⟨r, hr⟩ : ∃ r, rowT L T k = r := ⟨_, rfl⟩
    rw [hr] at hrow hok hfar hsh e3 e5
    have HEND := Lib.hid (fun g c wx hin => rend_any g c r 0 hok (by omega) (by omega) wx hin)
    have HF := Lib.hid hf
    have HR := Lib.hid hrow
    by_cases h5 : 512 < endR r 0
    · rw [if_pos h5] at e3
      rw [e6 (by rw [e3]; decide), e3]
      obtain ⟨E, hEE⟩ : ∃ E, endR r 0 = E := ⟨_, rfl⟩
      rw [hEE] at HEND h5
      have h5' : (512 : Int) < ((E : Nat) : Int) := by omega
      have h00 : ((0 : Nat) : Int) = 0 := rfl
      rw [h00] at HEND
      clear hf hrow hok hfar hsh e3 e5 e6 hr hEE hE hfe hft hv HV H hA
      go_enter Tryz.func10, Tryz.ntmps10
      go_wp2_with (first
        | (go_at_call 22; refine (HF.out _ HA.out).mono ?_; rintro e w1 ⟨rfl, hb1⟩; have HB1 := Lib.hid (below_step8' HA.out hb1); have HQ1 := Lib.hid (box_keep HQ.out hb1); have d0 : w1.cell? ⟨w.heap.size, 0, none⟩ = some (.int .i64 T.kind) := cell_at HQ1.out rfl; have d1 : w1.cell? ⟨w.heap.size, 1, none⟩ = some (.int .u64 T.num) := cell_at HQ1.out rfl; have d2 : w1.cell? ⟨w.heap.size, 2, none⟩ = some (.string T.text) := cell_at HQ1.out rfl; have d3 : w1.cell? ⟨w.heap.size, 3, none⟩ = some (.slice T.ia T.len T.cap) := cell_at HQ1.out rfl; clear hb1)
        | (go_at_call 14; refine (HR.out _ HB1.out).mono ?_; rintro e w2 ⟨g2, c2, rfl, hown2, hb2⟩; have HB2 := Lib.hid (below_step8' HB1.out hb2); have HI2 := Lib.hid (row_in hown2); clear hown2 hb2)
        | (go_at_call 13; refine (HEND.out _ _ _ HI2.out).mono ?_; rintro e w3 ⟨rfl, hb3⟩; have HB3 := Lib.hid (below_step8' HB2.out hb3); clear hb3))
      go_ret2
      exact ⟨rfl, HB3.out⟩
    · rw [if_neg h5] at e3
      rw [e5 e3, e3]
      have HBY := Lib.hid (fun g c wx hin => rbytes_any g c r hok (by omega) (by omega) wx hin)
      obtain ⟨E, hEE⟩ : ∃ E, endR r 0 = E := ⟨_, rfl⟩
      rw [hEE] at HEND h5
      have h5' : ¬ (512 : Int) < ((E : Nat) : Int) := by omega
      have h00 : ((0 : Nat) : Int) = 0 := rfl
      rw [h00] at HEND
      obtain ⟨B, hB⟩ : ∃ B, bytR r ⟨#[]⟩ = B := ⟨_, rfl⟩
      rw [hB] at HBY ⊢
      clear hf hrow hok hfar hsh e3 e5 e6 hr hEE hE hfe hft hv HV H hA hB
      go_enter Tryz.func10, Tryz.ntmps10
      go_wp2_with (first
        | (go_at_call 22; refine (HF.out _ HA.out).mono ?_; rintro e w1 ⟨rfl, hb1⟩; have HB1 := Lib.hid (below_step8' HA.out hb1); have HQ1 := Lib.hid (box_keep HQ.out hb1); have d0 : w1.cell? ⟨w.heap.size, 0, none⟩ = some (.int .i64 T.kind) := cell_at HQ1.out rfl; have d1 : w1.cell? ⟨w.heap.size, 1, none⟩ = some (.int .u64 T.num) := cell_at HQ1.out rfl; have d2 : w1.cell? ⟨w.heap.size, 2, none⟩ = some (.string T.text) := cell_at HQ1.out rfl; have d3 : w1.cell? ⟨w.heap.size, 3, none⟩ = some (.slice T.ia T.len T.cap) := cell_at HQ1.out rfl; clear hb1)
        | (go_at_call 14; refine (HR.out _ HB1.out).mono ?_; rintro e w2 ⟨g2, c2, rfl, hown2, hb2⟩; have HB2 := Lib.hid (below_step8' HB1.out hb2); have HI2 := Lib.hid (row_in hown2); clear hown2 hb2)
        | (go_at_call 13; refine (HEND.out _ _ _ HI2.out).mono ?_; rintro e w3 ⟨rfl, hb3⟩; have HB3 := Lib.hid (below_step8' HB2.out hb3); have HI3 := Lib.hid (HI2.out.keep hb3); clear hb3)
        | (go_at_call 23; refine (HBY.out _ _ _ HI3.out).mono ?_; rintro e w4 ⟨rfl, hb4⟩; have HB4 := Lib.hid (below_step8' HB3.out hb4); clear hb4))
      go_ret2
      exact ⟨rfl, HB4.out⟩
  · have e4 : putErr L len t T = fitsA L len t T := by unfold putErr; rw [if_pos hE]
    have e5 : putBytes L len t T = ⟨#[]⟩ := by unfold putBytes; rw [if_neg (by rw [e4]; exact hE)]
    rw [e4, e5]
    obtain ⟨F, hF⟩ : ∃ F, fitsA L len t T = F := ⟨_, rfl⟩
    rw [hF] at hf hE ⊢
    have hne : (F != 0) = true := by simpa using hE
    have HF := Lib.hid hf
    clear hE hF e4 e5 hf HV H hA
    go_enter Tryz.func10, Tryz.ntmps10
    go_wp2_with (go_at_call 22; refine (HF.out _ HA.out).mono ?_; rintro e w1 ⟨rfl, hb1⟩; have HB1 := Lib.hid (below_step8' HA.out hb1); clear hb1)
    go_ret2
    exact ⟨rfl, HB1.out⟩
end Go.Proofs.YtficmdomnilhnaaGreat
