/- The walk of TokenAgain. -/
import Derived.Test.YtcdplpdgokhopaaDoorTokAgainB
import Derived.Test.YtcdplpdgokhopaaDoorRegionDeep
import Derived.Deep.DeepCutAuto
import Derived.IntWalk
import Derived.Deep.QuietTactic
import Derived.BigQuiet
namespace Go.Proofs.YtcdplpdgokhopaaDoor
open Go.RowKit
set_option linter.unusedVariables false
set_option maxRecDepth 100000 in
set_option maxHeartbeats 8000000 in
theorem again_bad (s : ByteArray) (E A : Nat) (hE : E ≠ 0) (hA : A < s.size) (w : World) (hV : LibAt w) (hs : s.size ≤ 140737488351232)
    (hT : ∀ wx, Below w.heap.size w wx → Calls Tryd.prog 6 #[.string s] wx fun x w' => ∃ ao ca, x = .returned (.tuple #[.slice ao 0 ca, .agg #[.int .i64 (E : Nat), .int .i64 (A : Nat)]]) ∧ Below wx.heap.size wx w') :
    Calls Tryd.prog 5 #[.string s] w fun e w' => e = .returned (.bool true) ∧ Below w.heap.size w w' := by
  have HT := Lib.hid hT
  have HAW := Lib.hid (fun wx (hb : Below w.heap.size w wx) => awake_any wx (hV.held hb))
  have hml : s.size ≤ maxLen := by show s.size ≤ 9223372036854775807; omega
  have e1 : ((E : Int) == 0) = false := beq_eq_false_iff_ne.2 (by omega)
  have e2 : ¬ (E : Int) = 0 := by omega
  have a1 : (0 : Int) ≤ (A : Int) := by omega
  have a2 : (A : Int) < (s.size : Int) := by omega
  clear hT hV hE hA hs
  go_enter Tryd.func5, Tryd.ntmps5
  go_wp2_with (first
    | (go_at_call 6; refine (HT.out _ (Below.refl _ _)).mono ?_; rintro x w1 ⟨ao, ca, rfl, hb1⟩; have HB1 := Lib.hid hb1; clear hb1)
    | (go_at_call 9; refine (HAW.out _ (HB1.out.alloc HB1.out.size _)).mono ?_; rintro x w4 ⟨rfl, hb4⟩; have HB4 := Lib.hid (onBelow HB1.out (Nat.le_refl _) (newBelow hb4)); clear hb4))
  go_ret
  exact ⟨rfl, HB4.out⟩
end Go.Proofs.YtcdplpdgokhopaaDoor
