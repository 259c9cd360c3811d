/- Contracts of chapter 5's reference. -/
import Derived.Test.YtinmdkhafamibaaPrimMath
import Derived.Test.YtinmdkhafamibaaWordRef
import Derived.Test.YtinmdkhafamibaaOwn
import Derived.LoopTactic
import Derived.BigQuiet
import Derived.Handy
namespace Go.Proofs.Ytinmdkhafamibaa
open Go.RowKit
set_option linter.unusedVariables false
def threeZ (a b : Bool) : Int := if a then -1 else if b then 1 else 0
/-- a datum as a value -/
def datV (d : DatV) : Value := .agg #[.int .i64 d.kind, .bool d.neg, .int .u64 d.num, .string d.text]
theorem ret_ui' {k l : IntKind} {a b c d : Int} (h : a = b) (h' : c = d) : Ending.returned (.tuple #[.int k a, .int l c]) = .returned (.tuple #[.int k b, .int l d]) := by rw [h, h']
theorem ret_dat {a c c' : Int} {b : Bool} {s t : ByteArray} (h : a = a) (hc : c = c') (hs : s = t) : Ending.returned (.agg #[.int .i64 a, .bool b, .int .u64 c, .string s]) = .returned (datV ⟨a, b, c', t⟩) := by rw [hc, hs]; rfl
theorem drewN_below {B : Nat} {w w1 : World} (h : Below B w w1) : ∀ m, Below B w (w1.drewN m)
  | 0 => h
  | m + 1 => (drewN_below h m).drew
end Go.Proofs.Ytinmdkhafamibaa
