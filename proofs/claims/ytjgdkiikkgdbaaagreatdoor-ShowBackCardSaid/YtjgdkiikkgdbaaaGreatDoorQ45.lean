/- What a walk carries of Parse's answers: boxes, trees, errors. -/
import Derived.Test.YtjgdkiikkgdbaaaGreatDoorQ23
import Derived.Test.YtjgdkiikkgdbaaaGreatDoorQ39
import Derived.Test.YtjgdkiikkgdbaaaGreatDoorQ44
namespace Go.Proofs.YtjgdkiikkgdbaaaGreatDoor
open Go.RowKit
set_option linter.unusedVariables false
theorem same_has {T U : XT} {w : World} (h : XHas w T) (k : XHas w U) (hs : SameX T U) : RSameTo T U w := by
  obtain ⟨S, h⟩ := h; obtain ⟨S', k⟩ := k; exact sameX_any S S' T U w h k hs
end Go.Proofs.YtjgdkiikkgdbaaaGreatDoor
