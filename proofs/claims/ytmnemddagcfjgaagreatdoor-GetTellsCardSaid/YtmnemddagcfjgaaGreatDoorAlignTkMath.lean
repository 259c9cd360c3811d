/- What a buffer put is what a cursor takes: a number, a text. -/
import Derived.Test.YtmnemddagcfjgaaGreatDoorAlignRefPut
namespace Go.Proofs.YtmnemddagcfjgaaGreatDoor
open Go.RowKit
set_option linter.unusedVariables false
theorem tx_in0 {s : ByteArray} {a n : Nat} (k : a + n ≤ s.size) : txE s a n = 0 ∧ txS s a n = s.extract a (a + n) ∧ txA s a n = a + n := by
  have e : txE s a n = 0 := by unfold txE; rw [if_neg (by omega), if_neg (by omega)]
  refine ⟨e, ?_, ?_⟩
  · unfold txS; rw [if_pos e]; rfl
  · unfold txA; rw [if_pos e]; rfl
theorem text_back (t p r : ByteArray) : txE (t ++ p ++ r) t.size p.size = 0 ∧ txS (t ++ p ++ r) t.size p.size = p ∧ txA (t ++ p ++ r) t.size p.size = (t ++ p).size := by
  obtain ⟨h1, h2, h3⟩ := tx_in0 (s := t ++ p ++ r) (a := t.size) (n := p.size) (by simp only [ByteArray.size_append]; omega)
  refine ⟨h1, ?_, by rw [h3, ByteArray.size_append]⟩
  rw [h2]
  rw [ByteArray.extract_append, ByteArray.extract_append_eq_right rfl rfl, ByteArray.size_append, Nat.sub_self]
  have e : r.extract (t.size - (t.size + p.size)) 0 = ⟨#[]⟩ := by apply ByteArray.ext; simp
  rw [e]
  apply ByteArray.ext; simp
theorem byteAt_zero (t r : ByteArray) (g i : Nat) (h : i < g) : byteAt (t ++ zerosB g ++ r) (t.size + i) = 0 := by
  unfold byteAt
  have e : (t ++ zerosB g ++ r).data.toList = t.data.toList ++ List.replicate g 0 ++ r.data.toList := by simp [zerosB]
  have e1 : t.size = t.data.toList.length := by simp
  rw [e, e1, List.append_assoc, List.getD_eq_getElem?_getD, List.getElem?_append_right (by omega), Nat.add_sub_cancel_left, List.getElem?_append_left (by simpa using h)]
  simp [h]
theorem take_back (t r : ByteArray) (n z : Int) (he : putE n z = 0) (hn : 0 ≤ n) :
    tkE (bufPut t n z ++ r) t.size z = 0 ∧ tkN (bufPut t n z ++ r) t.size z = n ∧ tkA (bufPut t n z ++ r) t.size z = (bufPut t n z).size ∧ (bufPut t n z).size = t.size + gapN t.size z + z.toNat := by
  obtain ⟨hz, hf⟩ := put_zero he
  have hB : bufPut t n z = t ++ zerosB (gapN t.size z) ++ putS n z := by unfold bufPut; rw [if_pos he]; rfl
  rw [hB]
  have hsz : (t ++ zerosB (gapN t.size z) ++ putS n z).size = t.size + gapN t.size z + z.toNat := by
    rw [ByteArray.size_append, ByteArray.size_append, zerosB_size, putS_size]
  have hg : scanE (t ++ zerosB (gapN t.size z) ++ putS n z ++ r) t.size (gapN t.size z) = 0 := by
    refine scan_zero (by rw [ByteArray.size_append, hsz]; omega) (fun i hi => ?_)
    rw [ByteArray.append_assoc]
    exact byteAt_zero t (putS n z ++ r) _ i hi
  have hz0 : 0 ≤ z := by rcases isSz_cases hz with rfl | rfl | rfl | rfl <;> omega
  obtain ⟨h1, h2, h3⟩ := tk_ok hz hg (by rw [ByteArray.size_append, hsz]; omega)
  refine ⟨h1, ?_, by rw [h3, hsz], hsz⟩
  have hm := take_mid (t ++ zerosB (gapN t.size z)) r n z hz hn hf
  have e0 : (t ++ zerosB (gapN t.size z)).size = t.size + gapN t.size z := by rw [ByteArray.size_append, zerosB_size]
  rw [e0] at hm
  unfold tkN
  rw [if_pos h1]
  exact hm.2
end Go.Proofs.YtmnemddagcfjgaaGreatDoor
