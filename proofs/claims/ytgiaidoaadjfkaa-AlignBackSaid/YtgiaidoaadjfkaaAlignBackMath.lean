/- Plain mathematics of AlignBack: what is put one behind the other is read back, part by part. -/
import Derived.Test.YtgiaidoaadjfkaaAlignAwake
import Derived.Test.YtgiaidoaadjfkaaAlignParts
namespace Go.Proofs.Ytgiaidoaadjfkaa
open Go.RowKit
set_option linter.unusedVariables false
/-- a buffer's bytes behind one part more, and behind many -/
def encP (t : ByteArray) (p : PartV) : ByteArray := if p.plain then t ++ p.text else bufPut t p.num p.size
def encs (t : ByteArray) (ps : List PartV) : ByteArray := ps.foldl encP t
theorem encs_snoc (t : ByteArray) (ps : List PartV) (p : PartV) : encs t (ps ++ [p]) = encP (encs t ps) p := by simp [encs]
theorem encP_pre (t : ByteArray) (p : PartV) : ∃ r, encP t p = t ++ r := by
  unfold encP bufPut
  split
  · exact ⟨_, rfl⟩
  · split
    · exact ⟨zerosB _ ++ putS _ _, by rw [ByteArray.append_assoc]⟩
    · exact ⟨⟨#[]⟩, by apply ByteArray.ext; simp⟩
theorem encs_pre : ∀ (ps : List PartV) (t : ByteArray), ∃ r, encs t ps = t ++ r
  | [], t => ⟨⟨#[]⟩, by apply ByteArray.ext; simp [encs]⟩
  | p :: ps, t => by
    obtain ⟨r, hr⟩ := encP_pre t p
    obtain ⟨r2, h2⟩ := encs_pre ps (encP t p)
    exact ⟨r ++ r2, by show encs (encP t p) ps = _; rw [h2, hr, ByteArray.append_assoc]⟩
theorem encs_at (ps : List PartV) (k : Nat) (h : k < ps.length) : ∃ r, encs ⟨#[]⟩ ps = encP (encs ⟨#[]⟩ (ps.take k)) ps[k] ++ r := by
  obtain ⟨r, hr⟩ := encs_pre (ps.drop (k + 1)) (encP (encs ⟨#[]⟩ (ps.take k)) ps[k])
  refine ⟨r, ?_⟩
  rw [← hr]
  have e : ps = ps.take k ++ ps[k] :: ps.drop (k + 1) := by rw [← List.drop_eq_getElem_cons h, List.take_append_drop]
  have e1 : encs ⟨#[]⟩ ps = encs ⟨#[]⟩ (ps.take k ++ ps[k] :: ps.drop (k + 1)) := congrArg _ e
  rw [e1]
  simp only [encs, List.foldl_append, List.foldl_cons]
theorem encs_take (ps : List PartV) (k : Nat) (h : k < ps.length) : encs ⟨#[]⟩ (ps.take (k + 1)) = encP (encs ⟨#[]⟩ (ps.take k)) ps[k] := by
  rw [List.take_succ_eq_append_getElem h, encs_snoc]
theorem text_back (t p r : ByteArray) : txE (t ++ p ++ r) t.size p.size = 0 ∧ txS (t ++ p ++ r) t.size p.size = p ∧ txA (t ++ p ++ r) t.size p.size = (t ++ p).size := by
  obtain ⟨h1, h2, h3⟩ := tx_in (s := t ++ p ++ r) (a := t.size) (n := p.size) (by simp only [ByteArray.size_append]; omega)
  refine ⟨h1, ?_, by rw [h3, ByteArray.size_append]⟩
  rw [h2]
  rw [ByteArray.extract_append, ByteArray.extract_append_eq_right rfl rfl, ByteArray.size_append, Nat.sub_self]
  have e : r.extract (t.size - (t.size + p.size)) 0 = ⟨#[]⟩ := by apply ByteArray.ext; simp
  rw [e]
  apply ByteArray.ext; simp
theorem byteAt_zero (t r : ByteArray) (g i : Nat) (h : i < g) : byteAt (t ++ zerosB g ++ r) (t.size + i) = 0 := by
  unfold byteAt
  have e : (t ++ zerosB g ++ r).data.toList = t.data.toList ++ List.replicate g 0 ++ r.data.toList := by simp [zerosB]
  have e1 : t.size = t.data.toList.length := by simp
  rw [e, e1, List.append_assoc, List.getD_eq_getElem?_getD, List.getElem?_append_right (by omega), Nat.add_sub_cancel_left, List.getElem?_append_left (by simpa using h)]
  simp [h]
theorem take_back (t r : ByteArray) (n z : Int) (he : putE n z = 0) (hn : 0 ≤ n) :
    tkE (bufPut t n z ++ r) t.size z = 0 ∧ tkN (bufPut t n z ++ r) t.size z = n ∧ tkA (bufPut t n z ++ r) t.size z = (bufPut t n z).size ∧ (bufPut t n z).size = t.size + gapN t.size z + z.toNat := by
  obtain ⟨hz, hf⟩ := put_zero he
  have hB : bufPut t n z = t ++ zerosB (gapN t.size z) ++ putS n z := by unfold bufPut; rw [if_pos he]; rfl
  rw [hB]
  have hsz : (t ++ zerosB (gapN t.size z) ++ putS n z).size = t.size + gapN t.size z + z.toNat := by
    rw [ByteArray.size_append, ByteArray.size_append, zerosB_size, putS_size]
  have hg : scanE (t ++ zerosB (gapN t.size z) ++ putS n z ++ r) t.size (gapN t.size z) = 0 := by
    refine scan_zero (by rw [ByteArray.size_append, hsz]; omega) (fun i hi => ?_)
    rw [ByteArray.append_assoc]
    exact byteAt_zero t (putS n z ++ r) _ i hi
  have hz0 : 0 ≤ z := by rcases isSz_cases hz with rfl | rfl | rfl | rfl <;> omega
  obtain ⟨h1, h2, h3⟩ := tk_ok hz hg (by rw [ByteArray.size_append, hsz]; omega)
  refine ⟨h1, ?_, by rw [h3, hsz], hsz⟩
  have hm := take_mid (t ++ zerosB (gapN t.size z)) r n z hz hn hf
  have e0 : (t ++ zerosB (gapN t.size z)).size = t.size + gapN t.size z := by rw [ByteArray.size_append, zerosB_size]
  rw [e0] at hm
  unfold tkN
  rw [if_pos h1]
  exact hm.2
end Go.Proofs.Ytgiaidoaadjfkaa
