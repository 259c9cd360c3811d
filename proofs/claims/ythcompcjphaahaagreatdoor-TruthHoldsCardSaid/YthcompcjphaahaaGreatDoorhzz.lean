/- A short name. -/
import Derived.Lib.Hide
namespace Go.Proofs.YthcompcjphaahaaGreatDoor
open Go.RowKit
theorem lh {p:Prop} (h:p):Hid p:=Lib.hid h
end Go.Proofs.YthcompcjphaahaaGreatDoor
