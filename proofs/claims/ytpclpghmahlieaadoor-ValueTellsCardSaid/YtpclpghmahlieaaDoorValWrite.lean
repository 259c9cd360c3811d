/- The writer: join, number. -/
import Derived.Test.YtpclpghmahlieaaDoorValDigits
import Derived.Test.YtpclpghmahlieaaDoorPrimSmall
namespace Go.Proofs.YtpclpghmahlieaaDoor
open Go.RowKit
set_option linter.unusedVariables false
theorem TxtAt.next {T : TypeId} {B b : Nat} {l : List UInt8} {w w' : World} (h : TxtAt T B b l w) (hb : Below w.heap.size w w') : TxtAt T B b l w' := by
  have hk : ∀ p, Lib.BuilderAt T 5 B b p (Lib.byteCells l) w → Lib.BuilderAt T 5 B b p (Lib.byteCells l) w' := by
    rintro p ⟨hB, v, hbk, hown, hne⟩
    exact ⟨hB, v, box_keep hbk hb, (Only.of_below (S := fun _ => False) hb).row hown (fun _ _ f => f), hne⟩
  exact h.elim (fun h => .inl (hk _ h)) (fun h => .inr (hk _ h))
theorem TxtAt.lt {T : TypeId} {B b : Nat} {l : List UInt8} {w : World} (h : TxtAt T B b l w) : b < w.heap.size := by
  rcases h with h | h
  · exact h.lt
  · exact h.lt
theorem TxtAt.ge {T : TypeId} {B b : Nat} {l : List UInt8} {w : World} (h : TxtAt T B b l w) : B ≤ b := by
  rcases h with h | h
  · exact h.1
  · exact h.1
theorem Kept.next {b : Nat} {a w w' : World} (h : Kept b a w) (hb : Below w.heap.size w w') : Kept b a w' :=
  fun k o hk hne ho => by have h1 := h k o hk hne ho; exact box_keep h1 hb
/-- the texts, one behind the other -/
def flatTo (S : Nat → ByteArray) : Nat → List UInt8 | 0 => [] | n + 1 => flatTo S n ++ (S n).data.toList
theorem flatTo_le (S : Nat → ByteArray) : ∀ {n m : Nat}, m ≤ n → (flatTo S m).length ≤ (flatTo S n).length
  | 0, m, h => by obtain rfl : m = 0 := by omega
                  exact Nat.le_refl _
  | n + 1, m, h => by
    rcases Nat.eq_or_lt_of_le h with rfl | h
    · exact Nat.le_refl _
    · have := flatTo_le S (n := n) (m := m) (by omega)
      rw [flatTo, List.length_append]; omega
theorem size_list (s : ByteArray) : s.data.toList.length = s.size := by simp
def WTo (l : List UInt8) (B b : Nat) (w : World) (e : Ending) (w' : World) : Prop := e = .returned (.tuple #[]) ∧ TxtAt 41 B b l w' ∧ Below B w w' ∧ Kept b w w'
set_option maxHeartbeats 2000000 in
theorem join_any (B b g n : Nat) (S : Nat → ByteArray) (l : List UInt8) (cs : Array Value) (w : World) (hn : n ≤ 3) (h : TxtAt 41 B b l w) (hg : w.heap[g]? = some (.cells cs 9 (0, 0))) (hcs : ∀ j, j < n → cs[j]? = some (.string (S j))) (hgb : g ≠ b)
    (hlen : l.length + (flatTo S n).length ≤ 140737488355328) (hBw : B ≤ w.heap.size) :
    Calls Tryd.prog 27 #[.pointer (some ⟨b, 0, none⟩), .slice (some ⟨g, 0, none⟩) n n] w (WTo (l ++ flatTo S n) B b w) := by
  unfold WTo
  have HG := Lib.hid hg
  have H0 := Lib.hid h
  have HW := Lib.hid (fun (j : Nat) (hj : j < n) (wx : World) (hx : TxtAt 41 B b (l ++ flatTo S j) wx) (hB : B ≤ wx.heap.size) => writeString8 41 liesWriter B b (l ++ flatTo S j) (S j) wx hx (by
    have h1 := flatTo_le S (m := j + 1) (n := n) hj
    rw [flatTo, List.length_append, size_list] at h1
    rw [List.length_append]; omega) hB)
  have HK := Lib.hid (fun (wx : World) (hk : Kept b w wx) => hk g _ hg (fun e => hgb (Option.some.inj e)) (fun c fz e => by cases e))
  have hsz : ∀ j, j < n → (S j).size ≤ 140737488355328 := fun j hj => by
    have h1 := flatTo_le S (m := j + 1) (n := n) hj
    rw [flatTo, List.length_append, size_list] at h1
    omega
  have HS := Lib.hid hsz
  have HCS := Lib.hid hcs
  clear h hg hlen hsz hcs
  go_enter Tryd.func27, Tryd.ntmps27
  go_wp2
  go_loopw [8] (fun i wr => ∃ j : Nat, j ≤ n ∧ i = .int .i64 j ∧ Hid (TxtAt 41 B b (l ++ flatTo S j) wr) ∧ Hid (Below B w wr) ∧ Hid (Kept b w wr)) (fun i _ => n - (intOf i).toNat)
  case atStart => exact ⟨0, Nat.zero_le _, rfl, Lib.hid (by rw [flatTo, List.append_nil]; exact H0.out), Lib.hid (Below.refl _ _), Lib.hid (Lib.OthersKept.refl _ _ _)⟩
  case round =>
    obtain ⟨j, hj, rfl, HR, HBr, HKr⟩ := hrel
    by_cases hlt : j < n
    · have c0 : wr.cell? ⟨g, j, none⟩ = some (.string (S j)) := cell_at (HK.out wr HKr.out) (HCS.out j hlt)
      have hs := HS.out j hlt
      have hsm : (S j).size ≤ maxLen := by unfold maxLen; omega
      have HX := Lib.hid (HW.out j hlt wr HR.out (by have := HBr.out.size; omega))
      go_wp2_with (go_at_call 39; refine (HX.out).mono ?_; rintro e w2 ⟨rfl, ht2, hb2, hk2⟩)
      go_roundw
      case rel => exact ⟨j + 1, by omega, by go_num, Lib.hid (by rw [flatTo, ← List.append_assoc]; exact ht2), Lib.hid (HBr.out.trans hb2), Lib.hid (HKr.out.trans hk2)⟩
      case measure => simp [intOf]; omega
    · obtain rfl : j = n := by omega
      go_wp2
      go_end0
      exact ⟨rfl, HR.out, HBr.out, HKr.out⟩
end Go.Proofs.YtpclpghmahlieaaDoor
