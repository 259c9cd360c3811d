/- The names within a list that may be: of a name's form, and each found at its own place. -/
import Derived.Test.YtcpjbimojliogaaGreatDoorFitsAwake
namespace Go.Proofs.YtcpjbimojliogaaGreatDoor
open Go Go.RowKit

theorem firstE_all {e : Nat → Int} {n : Nat} (h : firstE e n = 0) : ∀ j, j < n → e j = 0 := by
  intro j
  induction j using Nat.strongRecOn with
  | _ j ih =>
    intro hj
    by_cases h0 : e j = 0
    · exact h0
    · have h1 := firstE_at (e := e) (fun i hi => by simp [ih i hi (by omega)]) hj (by simpa using h0)
      rw [h1] at h
      exact h
theorem inL_item {L : Nat → TypeV} {len t : Nat} {s : ByteArray} (ht : t < len) (hk : namedK (L t).kind = true) : itemL L len (t : Nat) s = firstZ (fun i => ((L t).items i).name.toList == s.toList) (L t).ilen := by
  unfold itemL
  rw [inL_yes ht, if_pos rfl, Int.toNat_natCast]
  unfold itemZ
  rw [if_pos hk]
theorem names_ok {L : Nat → TypeV} {len : Nat} (h : fErr (oneR L len) len = 0) : ∀ t, t < len → namedK (L t).kind = true → ∀ j, j < (L t).ilen → nameS ((L t).items j).name = true ∧ itemL L len (t : Nat) ((L t).items j).name = (j : Nat) := by
  intro t ht hnk j hj
  have h1 := (valid_all h).2 t ht
  rw [← one_same ht] at h1
  have h2 : ckItems L len t (L t) = 0 := firstE_all h1 7 (by omega)
  have h3 : ckItem L len t (L t) j = 0 := firstE_all h2 j hj
  unfold ckItem at h3
  split at h3
  · cases h3
  · rename_i hn
    split at h3
    · cases h3
    · rename_i hp
      refine ⟨by simpa using hn, ?_⟩
      rw [inL_item ht hnk] at hp ⊢
      rcases firstZ_cases (fun i => ((L t).items i).name.toList == ((L t).items j).name.toList) (L t).ilen with ⟨k, hk, e, hk2, hk3⟩ | ⟨e, h9⟩
      · rw [e] at hp ⊢
        have : ¬ j < k := fun hjk => by have := hk3 j hjk; simp at this
        unfold posZ at hp
        omega
      · have := h9 j hj
        simp at this
end Go.Proofs.YtcpjbimojliogaaGreatDoor
