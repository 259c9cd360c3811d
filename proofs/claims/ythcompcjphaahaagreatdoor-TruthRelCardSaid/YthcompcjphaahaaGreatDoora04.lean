/- Contracts of chapter 4's reference: Letter, Digit, formed, Lead, Find, Word, Name, Twice. -/
import Derived.LoopTactic
import Derived.Handy
import Derived.OpenShut
import Derived.Test.YthcompcjphaahaaGreatDoora01
import Derived.Test.YthcompcjphaahaaGreatDoora03
namespace Go.Proofs.YthcompcjphaahaaGreatDoor
open Go.RowKit
set_option linter.unusedVariables false
theorem below_stepN {w w1 w2:World} (h:Below w.heap.size w w1) (k:Below w1.heap.size w1 w2):Below w.heap.size w w2:=h.trans (k.mono h.size)
theorem ret_b {a b:Bool} (h:a=b):Ending.returned (.bool a)=.returned (.bool b):=by rw [h]
theorem lead_at {s:ByteArray} {n:Nat} (h:∀ j,j<n→badAt s j=false) (hn:n<s.size) (hb:badAt s n=true):leadN s=n:=first_at h hn hb
theorem lead_all {s:ByteArray} (h:∀ j,j<s.size→badAt s j=false):leadN s=s.size:=first_none h
end Go.Proofs.YthcompcjphaahaaGreatDoor
