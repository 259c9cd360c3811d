/- Quote: of the code and of the reference. -/
import Derived.Test.YtbejpgoedenpmaaGreatDoorTokLib
import Derived.LoopTactic
import Derived.Deep.DeepCutAuto
namespace Go.Proofs.YtbejpgoedenpmaaGreatDoor
open Go.RowKit
set_option linter.unusedVariables false
theorem bs_toList (l : List UInt8) : (bs l).data.toList = l := by simp [bs]
theorem bs_data (s : ByteArray) : bs s.data.toList = s := by apply ByteArray.ext; simp [bs]
theorem dbl_append (a b : List UInt8) : dbl (a ++ b) = dbl a ++ dbl b := by
  induction a with
  | nil => rfl
  | cons c r ih =>
    rw [List.cons_append, dbl, dbl]
    split <;> simp [ih]
theorem dbl_le (l : List UInt8) : (dbl l).length ≤ 2 * l.length := by
  rw [dbl_length]
  have := List.count_le_length (a := (39 : UInt8)) (l := l)
  omega
theorem take_next (l : List UInt8) (j : Nat) (hj : j < l.length) : l.take (j + 1) = l.take j ++ [l[j]] := by
  rw [List.take_add_one, List.getElem?_eq_getElem hj]; rfl
theorem dbl_next (s : ByteArray) (j : Nat) (hj : j < s.size) : dbl (s.data.toList.take (j + 1)) = dbl (s.data.toList.take j) ++ (if s[j]'hj = 39 then [39, 39] else [s[j]'hj]) := by
  have hj' : j < s.data.toList.length := by simpa using hj
  rw [take_next _ j hj', dbl_append]
  have e : s.data.toList[j] = s[j]'hj := by simp only [Array.getElem_toList]; rfl
  rw [e]
  rw [dbl]; split <;> rfl
theorem extract_one14 (s : ByteArray) (j : Nat) (hj : j < s.size) : s.extract j (j + 1) = bs [s[j]'hj] := by
  apply ByteArray.ext
  rw [ByteArray.data_extract]
  apply Array.ext
  · simp [bs]; have : s.data.size = s.size := rfl; omega
  · intro i h1 h2
    have : i = 0 := by simp [bs] at h2; omega
    subst this
    simp [bs]
    rfl
theorem count_one_le (s : ByteArray) : Lib.countB s ⟨#[39]⟩ ≤ s.size := Lib.countB_le ⟨#[39]⟩ (by decide) s.size s (Nat.le_refl _)
/-- ReplaceAll, one quote by two -/
theorem replace_dbl_any (s : ByteArray) (hs : s.size ≤ 1099511) (w : World) (hV : LibAt w) : Calls Tryz.prog 79 #[.string s, .string ⟨#[39]⟩, .string ⟨#[39, 39]⟩] w fun e w' => e = .returned (.string (bs (dbl s.data.toList))) ∧ Below w.heap.size w w' := by
  obtain ⟨m, hm⟩ := hV.mx
  have hc := count_one_le s
  have h2 : (⟨#[39, 39]⟩ : ByteArray).size = 2 := rfl
  refine (Tryz.strings_ReplaceAll s ⟨#[39]⟩ ⟨#[39, 39]⟩ m w (by omega) hm (by decide) (by rw [h2]; omega)).mono fun e w' ⟨he, hb⟩ => ⟨?_, hb⟩
  rw [he, replace_dbl]
  rfl
end Go.Proofs.YtbejpgoedenpmaaGreatDoor
