/- Chapter 11's examples. -/
import Derived.Test.YtmnemddagcfjgaaGreatDoorGetTop
import Derived.Test.YtmnemddagcfjgaaGreatDoorValTop
import Derived.Test.YtmnemddagcfjgaaGreatDoorPutAwake
namespace Go.Proofs.YtmnemddagcfjgaaGreatDoor
open Go.RowKit
set_option linter.unusedVariables false
def exGI : Nat → ItemV := fun i => if i = 0 then ⟨⟨#[97]⟩, 0, 0, false, false⟩ else ⟨⟨#[98]⟩, 0, 1, false, false⟩
def exG (g : Nat) : Nat → TypeV := fun i => if i = 0 then noneT 2 0 0 else if i = 1 then noneT 3 0 0 else ⟨13, ⟨#[80]⟩, 0, 0, 0, some ⟨g, 0, none⟩, 2, 2, exGI⟩
def exGIO : Obj := .cells #[.string ⟨#[97]⟩, .int .u64 0, .int .i64 0, .bool false, .bool false, .string ⟨#[98]⟩, .int .u64 0, .int .i64 1, .bool false, .bool false] 47
def exGTO (g : Nat) : Obj := .cells #[.int .i64 2, .string ⟨#[]⟩, .int .i64 0, .int .i64 0, .int .i64 0, .slice none 0 0, .int .i64 3, .string ⟨#[]⟩, .int .i64 0, .int .i64 0, .int .i64 0, .slice none 0 0, .int .i64 13, .string ⟨#[80]⟩, .int .i64 0, .int .i64 0, .int .i64 0, .slice (some ⟨g, 0, none⟩) 2 2] 45
theorem exG_at (w : World) : ∀ i, i < 3 → TypeAt ((w.alloc exGIO).alloc (exGTO w.heap.size)) (some ⟨w.heap.size + 1, 0, none⟩) i (exG w.heap.size i) := by
  intro i hi
  have hq := alloc_at (w.alloc exGIO) (exGTO w.heap.size)
  rw [show (w.alloc exGIO).heap.size = w.heap.size + 1 by simp] at hq
  have hb : ((w.alloc exGIO).alloc (exGTO w.heap.size)).heap[w.heap.size]? = some exGIO := alloc_old (alloc_at w exGIO)
  have h3 : i = 0 ∨ i = 1 ∨ i = 2 := by omega
  rcases h3 with rfl | rfl | rfl
  · exact ⟨_, 0, rfl, cell_at hq rfl, cell_at hq rfl, cell_at hq rfl, cell_at hq rfl, cell_at hq rfl, cell_at hq rfl, (show TypeWf (noneT 2 0 0) from by unfold TypeWf; decide), ⟨(show (0 : Nat) ≤ 3518437208780 from by decide), fun j hj => absurd hj (Nat.not_lt_zero j)⟩⟩
  · exact ⟨_, 0, rfl, cell_at hq rfl, cell_at hq rfl, cell_at hq rfl, cell_at hq rfl, cell_at hq rfl, cell_at hq rfl, (show TypeWf (noneT 3 0 0) from by unfold TypeWf; decide), ⟨(show (0 : Nat) ≤ 3518437208780 from by decide), fun j hj => absurd hj (Nat.not_lt_zero j)⟩⟩
  · refine ⟨_, 0, rfl, cell_at hq rfl, cell_at hq rfl, cell_at hq rfl, cell_at hq rfl, cell_at hq rfl, cell_at hq rfl, (show TypeWf ⟨13, ⟨#[80]⟩, 0, 0, 0, some ⟨w.heap.size, 0, none⟩, 2, 2, exGI⟩ from by unfold TypeWf; dsimp only; decide), ?_⟩
    refine ⟨by show 2 ≤ _; decide, fun j hj => ?_⟩
    have hj2 : j = 0 ∨ j = 1 := by have : j < 2 := hj; omega
    rcases hj2 with rfl | rfl
    · exact ⟨_, 0, rfl, cell_at hb rfl, cell_at hb rfl, cell_at hb rfl, cell_at hb rfl, cell_at hb rfl, (show ItemWf ⟨⟨#[97]⟩, 0, 0, false, false⟩ from by unfold ItemWf; decide)⟩
    · exact ⟨_, 0, rfl, cell_at hb rfl, cell_at hb rfl, cell_at hb rfl, cell_at hb rfl, cell_at hb rfl, (show ItemWf ⟨⟨#[98]⟩, 0, 1, false, false⟩ from by unfold ItemWf; decide)⟩
theorem exG_ok (g : Nat) : fErr (oneR (exG g) 3) 3 = 0 := by kernel_rfl
theorem exG_has (g : Nat) : hasT (exG g) 3 2 = true := hasT_yes (k := 2) (by decide) (exG_ok g)
def exGA : ByteArray := ⟨#[1, 0, 2, 0]⟩
def exGB : ByteArray := ⟨#[1, 1, 2, 0]⟩
theorem exG_num (g : Nat) (b : ByteArray) (k i a : Nat) (n : Int) (a' : Nat) (hi : i = 0 ∨ i = 1) (h0 : nE (exG 0) i b a = 0) (h1 : nN (exG 0) i b a = n) (h2 : nA (exG 0) i b a = a') : decF (exG g) b (k + 1) i a = .ok (vNode (exG 0 i).kind n ⟨#[]⟩ 0 (fun _ => .nil)) a' := by
  have e : ∀ i, i = 0 ∨ i = 1 → exG g i = exG 0 i := fun i hi => by rcases hi with rfl | rfl <;> rfl
  have e0 : nE (exG g) i b a = 0 := by rw [← h0]; unfold nE nN numOk; rw [e i hi]
  have e1 : nN (exG g) i b a = n := by rw [← h1]; unfold nN; rw [e i hi]
  have e2 : nA (exG g) i b a = a' := by rw [← h2]; unfold nA; rw [e i hi]
  unfold decF
  have hk : (exG g i).kind = 2 ∨ (exG g i).kind = 3 := by rcases hi with rfl | rfl; exact .inl rfl; exact .inr rfl
  rw [if_neg (by omega), if_neg (by omega), if_neg (by omega), if_neg (by omega), if_neg (by omega), if_neg (by rw [e0]; decide), e1, e2, e i hi]
def exGV : VT := vNode 13 0 ⟨#[]⟩ 2 (putK (putK (fun _ => .nil) 0 (vNode 2 1 ⟨#[]⟩ 0 (fun _ => .nil))) 1 (vNode 3 2 ⟨#[]⟩ 0 (fun _ => .nil)))
theorem exG_dec (g : Nat) : getD (exG g) 3 2 exGA = .ok exGV 4 ∧ getD (exG g) 3 2 exGB = .bad 12 := by
  have hA : decF (exG g) exGA 3 2 0 = .ok exGV 4 := by
    have s1 := exG_num g exGA 1 0 0 1 1 (.inl rfl) (by decide +kernel) (by decide +kernel) (by decide +kernel)
    have s2 := exG_num g exGA 1 1 1 2 4 (.inr rfl) (by decide +kernel) (by decide +kernel) (by decide +kernel)
    have q1 := seq_next (D := fun i => decF (exG g) exGA 2 ((exG g 2).items i).type.toNat) (a := 0) (j := 0) (K := fun _ => .nil) rfl s1
    have q2 := seq_next q1 s2
    unfold decF
    rw [if_neg (by show ¬ (13 : Int) = 10; decide), if_neg (by show ¬ (13 : Int) = 11; decide), if_neg (by show ¬ (13 : Int) = 12; decide), if_pos (show (exG g 2).kind = 13 from rfl)]
    show nodeD 13 0 2 (seqD (fun i => decF (exG g) exGA 2 ((exG g 2).items i).type.toNat) 0 2) = _
    rw [q2]
    rfl
  have hB : decF (exG g) exGB 3 2 0 = .bad 12 := by
    have s1 := exG_num g exGB 1 0 0 1 1 (.inl rfl) (by decide +kernel) (by decide +kernel) (by decide +kernel)
    have e2 : nE (exG 0) 1 exGB 1 = 12 := by decide +kernel
    have e3 : nE (exG g) 1 exGB 1 = 12 := e2
    have s2 : decF (exG g) exGB 2 1 1 = .bad 12 := by
      unfold decF
      rw [if_neg (by show ¬ (3 : Int) = 10; decide), if_neg (by show ¬ (3 : Int) = 11; decide), if_neg (by show ¬ (3 : Int) = 12; decide), if_neg (by show ¬ (3 : Int) = 13; decide), if_neg (by show ¬ (3 : Int) = 14; decide), if_pos (by rw [e3]; decide), e3]
    have q1 := seq_next (D := fun i => decF (exG g) exGB 2 ((exG g 2).items i).type.toNat) (a := 0) (j := 0) (K := fun _ => .nil) rfl s1
    have q2 := seq_stop q1 s2
    unfold decF
    rw [if_neg (by show ¬ (13 : Int) = 10; decide), if_neg (by show ¬ (13 : Int) = 11; decide), if_neg (by show ¬ (13 : Int) = 12; decide), if_pos (show (exG g 2).kind = 13 from rfl)]
    show nodeD 13 0 2 (seqD (fun i => decF (exG g) exGB 2 ((exG g 2).items i).type.toNat) 0 2) = _
    rw [q2]
    rfl
  unfold getD
  rw [exG_has, if_pos rfl, if_pos rfl, if_neg (by decide +kernel), if_neg (by decide +kernel)]
  show leftD exGA (decF (exG g) exGA 3 2 0) = _ ∧ leftD exGB (decF (exG g) exGB 3 2 0) = _
  rw [hA, hB]
  show (if 4 < exGA.size then DR.bad 1 else DR.ok exGV 4) = _ ∧ _
  exact ⟨if_neg (by decide +kernel), rfl⟩
theorem exG_text : textT exGV = [40, 49, 44, 50, 41] := by
  rw [textT_struct (T := exGV) rfl]
  show 40 :: (joinTo commaS (fun i => textT (exGV.kid i)) 2 ++ [41]) = _
  simp only [joinTo]
  have a1 : textT (exGV.kid 0) = [49] := by
    rw [show exGV.kid 0 = vNode 2 1 ⟨#[]⟩ 0 (fun _ => .nil) from rfl, textT_num (T := vNode 2 1 ⟨#[]⟩ 0 (fun _ => .nil)) (by decide) (by decide) (by decide) (by decide) (by decide)]
    have e : datK (vNode 2 1 ⟨#[]⟩ 0 (fun _ => .nil)).kind (vNode 2 1 ⟨#[]⟩ 0 (fun _ => .nil)).num = ⟨1, false, 1, ⟨#[]⟩⟩ := by kernel_rfl
    rw [e]
    unfold datL
    rw [if_neg (by decide), if_pos rfl, if_neg (by decide)]
    show Lib.decDigits 1 = _
    rw [Lib.decDigits_one (by decide)]
    rfl
  have a2 : textT (exGV.kid 1) = [50] := by
    rw [show exGV.kid 1 = vNode 3 2 ⟨#[]⟩ 0 (fun _ => .nil) from rfl, textT_num (T := vNode 3 2 ⟨#[]⟩ 0 (fun _ => .nil)) (by decide) (by decide) (by decide) (by decide) (by decide)]
    have e : datK (vNode 3 2 ⟨#[]⟩ 0 (fun _ => .nil)).kind (vNode 3 2 ⟨#[]⟩ 0 (fun _ => .nil)).num = ⟨1, false, 2, ⟨#[]⟩⟩ := by kernel_rfl
    rw [e]
    unfold datL
    rw [if_neg (by decide), if_pos rfl, if_neg (by decide)]
    show Lib.decDigits 2 = _
    rw [Lib.decDigits_one (by decide)]
    rfl
  rw [a1, a2]
  rfl
theorem exG_great : greatT exGV = 3 := rfl
set_option maxRecDepth 100000 in
set_option maxHeartbeats 2000000 in
theorem awake11_any (w : World) (htab : Tab w) : Calls Tryz.prog 7 #[] w fun e w' => e = .returned (.bool true) ∧ Below w.heap.size w w' := by
  have HB := Lib.hid (((Below.refl w.heap.size w).alloc (Nat.le_refl _) exGIO).alloc (by simp) (exGTO w.heap.size))
  have hA := fun wx (h : Below ((w.alloc exGIO).alloc (exGTO w.heap.size)).heap.size ((w.alloc exGIO).alloc (exGTO w.heap.size)) wx) => get_any (some ⟨w.heap.size + 1, 0, none⟩) 3 3 (exG w.heap.size) (by decide) (by decide) (fun i _ => by unfold exG noneT; split; exact Nat.le_refl _; split; exact Nat.le_refl _; exact Nat.le_refl _) 2 exGA (by decide +kernel) wx (hold (exG_at w) h)
  have hB := fun wx (h : Below ((w.alloc exGIO).alloc (exGTO w.heap.size)).heap.size ((w.alloc exGIO).alloc (exGTO w.heap.size)) wx) => get_any (some ⟨w.heap.size + 1, 0, none⟩) 3 3 (exG w.heap.size) (by decide) (by decide) (fun i _ => by unfold exG noneT; split; exact Nat.le_refl _; split; exact Nat.le_refl _; exact Nat.le_refl _) 2 exGB (by decide +kernel) wx (hold (exG_at w) h)
  rw [(exG_dec _).1] at hA
  rw [(exG_dec _).2] at hB
  have HA := Lib.hid (show ∀ wx, Below ((w.alloc exGIO).alloc (exGTO w.heap.size)).heap.size ((w.alloc exGIO).alloc (exGTO w.heap.size)) wx → Calls Tryz.prog 8 #[.slice (some ⟨w.heap.size + 1, 0, none⟩) 3 3, .int .i64 2, .string ⟨#[1, 0, 2, 0]⟩] wx (GetRes (.ok exGV 4) wx) from hA)
  have HC := Lib.hid (show ∀ wx, Below ((w.alloc exGIO).alloc (exGTO w.heap.size)).heap.size ((w.alloc exGIO).alloc (exGTO w.heap.size)) wx → Calls Tryz.prog 8 #[.slice (some ⟨w.heap.size + 1, 0, none⟩) 3 3, .int .i64 2, .string ⟨#[1, 1, 2, 0]⟩] wx (GetRes (.bad 12) wx) from hB)
  have HR := Lib.hid (Below.refl ((w.alloc exGIO).alloc (exGTO w.heap.size)).heap.size ((w.alloc exGIO).alloc (exGTO w.heap.size)))
  have HT := Lib.hid (fun (U : VT) (S : Nat → Prop) wx (hb : Below w.heap.size w wx) (hU : sameT exGV U = true) (hv : ValAt wx S U) => by
    have := text8_any S U wx hv (by rw [← same_great _ _ hU, exG_great]; decide) (htab.next hb)
    unfold CTextTo at this
    rw [← same_text _ _ hU, exG_text] at this
    exact this)
  unfold exGIO exGTO at HB HA HC HR
  clear hA hB
  go_enter Tryz.func7, Tryz.ntmps7
  go_wp2_with (first
    | (go_at_call 8; (with_reducible refine (HA.out _ HR.out).mono ?_); rintro e w1 ⟨U, rfl, hU, hv, hb1⟩; have HU := Lib.hid hU; have HV := Lib.hid hv; have HB1 := Lib.hid (below_step8' HR.out hb1); clear hU hv hb1)
    | (go_at_call 8; (with_reducible refine (HC.out _ (HB1.out.alloc HB1.out.size _)).mono ?_); rintro e w2 ⟨rfl, hb2⟩; have HX := Lib.hid (box_keep (alloc_at w1 (.cells #[.int .i64 U.kind, .int .u64 U.num, .string U.text, .slice U.ia U.len U.cap] 28)) hb2); have HV2 := Lib.hid (HV.out.next (((Below.refl _ _).alloc (Nat.le_refl _) (.cells #[.int .i64 U.kind, .int .u64 U.num, .string U.text, .slice U.ia U.len U.cap] 28)).trans (hb2.mono (by simp)))); have HB2 := Lib.hid (below_step8' (HB1.out.alloc HB1.out.size _) hb2); have d0 : w2.cell? ⟨w1.heap.size, 0, none⟩ = some (.int .i64 U.kind) := cell_at (j := 0) HX.out rfl; have d1 : w2.cell? ⟨w1.heap.size, 1, none⟩ = some (.int .u64 U.num) := cell_at (j := 1) HX.out rfl; have d2 : w2.cell? ⟨w1.heap.size, 2, none⟩ = some (.string U.text) := cell_at (j := 2) HX.out rfl; have d3 : w2.cell? ⟨w1.heap.size, 3, none⟩ = some (.slice U.ia U.len U.cap) := cell_at (j := 3) HX.out rfl; have hlx := lt_of_block HX.out; have hnx : ¬ w1.heap.size = w2.heap.size := (by omega); clear hb2)
    | (go_at_call 17; refine (HT.out U _ _ (below_step8' HB.out (HB2.out.alloc HB2.out.size _)) HU.out (HV2.out.next ((Below.refl _ _).alloc (Nat.le_refl _) _))).mono ?_; rintro e w3 ⟨rfl, hb3⟩; have HB3 := Lib.hid (below_step8' HB.out (below_step8' (HB2.out.alloc HB2.out.size _) hb3)); clear hb3))
  go_ret
  exact ⟨rfl, HB3.out⟩
end Go.Proofs.YtmnemddagcfjgaaGreatDoor
