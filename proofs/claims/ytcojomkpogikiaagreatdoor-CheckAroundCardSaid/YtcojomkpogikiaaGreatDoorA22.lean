/- The bytes of a number, as a string of the model; how a slice of bytes turns into a string. -/
import Derived.Test.YtcojomkpogikiaaGreatDoorRows
import Derived.WalkSmall
import Derived.Laws.BytesString
import Derived.Laws.BytesArg
import Derived.Laws.IdiomStrings
import Derived.Laws.BitsAllLaws
import Derived.Test.YtcojomkpogikiaaGreatDoorA01
namespace Go.Proofs.YtcojomkpogikiaaGreatDoor.Pa
open Go.RowKit
/-- does the number fit its size? -/
def fits (n z : Int) : Bool := decide (n < pw z)
end Go.Proofs.YtcojomkpogikiaaGreatDoor.Pa
namespace Go.Proofs.YtcojomkpogikiaaGreatDoor.Pa
open Go.RowKit
def byteAt (s : ByteArray) (k : Nat) : Int := ((s.data.toList.getD k 0).toNat : Int)
/-- m bytes from place k on -/
def sub (s : ByteArray) (k : Nat) : Nat → List Int
  | 0 => []
  | m + 1 => byteAt s k :: sub s (k + 1) m
end Go.Proofs.YtcojomkpogikiaaGreatDoor.Pa
namespace Go.Proofs.YtcojomkpogikiaaGreatDoor.Pa
open Go.RowKit
end Go.Proofs.YtcojomkpogikiaaGreatDoor.Pa
