/- The reference's Find. -/
import Derived.Test.YtcojomkpogikiaaGreatDoorA25
import Derived.Test.YtcojomkpogikiaaGreatDoorA32
namespace Go.Proofs.YtcojomkpogikiaaGreatDoor.Pa
open Go Go.RowKit
set_option linter.unusedVariables false
theorem item_lt {L : Nat → TypeV} {len u : Nat} {s : ByteArray} (h : 0 ≤ itemL L len (u : Nat) s) : itemL L len (u : Nat) s < ((L u).ilen : Nat) := by
  unfold itemL at h ⊢
  split at h
  · rename_i hc
    rw [if_pos hc]
    rw [Int.toNat_natCast] at h ⊢
    unfold itemZ at h ⊢
    split at h
    · rename_i hn
      rw [if_pos hn]
      rcases firstZ_cases (fun j => ((L u).items j).name.toList == s.toList) (L u).ilen with ⟨k, hk, e, _⟩ | ⟨e, _⟩
      · rw [e]; omega
      · rw [e] at h; omega
    · omega
  · omega
end Go.Proofs.YtcojomkpogikiaaGreatDoor.Pa
