/-
  NARROWER THAN 'FOR EVERY INPUT', by the rows' own cells (each row's printed sentence says how): PutTells: loops · PutApart: loops · PutBounds: loops.
  DERIVED. THE GIVEN ROWS OF THIS SEAT. 3 by the template 'for every input the law returns true; each argument reads behind the call as it read before'; 0 by the template 'total and deterministic' (their statements: YtficmdomnilhnaaGreatTotals.lean).
  GIVEN WITH THE SEED: the statements are not yours to turn. If you find one false, say at which input.
  Laid BY PROGRAM, IN A SANDBOX (cutbox-rows.mjs): the forced cells as the released guide's own fill.sh prints them over the translation c153c85089e876dc… (all of the seat's roots in one cut). By AI agents, Wed Nov 11 2026. No macro, syntax, notation, axiom, sorry.
-/
import Derived.Test.YtficmdomnilhnaaGreatChecked
import GoSem.Claim
import GoSem.ClaimJoined
import GoSem.ClaimMapViews
import Derived.JoinedTies
import Derived.KernelRfl
namespace Go.Proofs.YtficmdomnilhnaaGreat
/- THE CELL 'sum', in the pinned program and in every row, IS THE sha256 OF THE DUMP (.gsa) THAT YtficmdomnilhnaaGreatProg.lean LOADS. Nothing in Lean hashes anything: it is a label: what it is worth is what the hold of that sum in a sandbox is worth. -/
noncomputable def Tryz.pinned : Pinned := { name := "ytficmdomnilhnaagreat", sum := "c153c85089e876dc7b8f4788533620cb8d7fe71ef02cb1401041ddb1e3808280", checked := Tryz.checked }
namespace Rows
def none {H : Type} : Left H := { results := [], args := [] }

/-- 'broadsheetlaw10.PutTells': WHATEVER THE INPUT: true; the input reads as it did. -/
def putTellsSpec : ChangeSpec := { name := "putTells", fn := fun _ => fun
  | [d1, d2, d3] => { results := [.lit (.bool true)], args := [d1, d2, d3] }
  | _ => none }
def putTellsRow : OpenClaim := { program := "ytficmdomnilhnaagreat", sum := "c153c85089e876dc7b8f4788533620cb8d7fe71ef02cb1401041ddb1e3808280", func := "broadsheet/broadsheetlaw10.PutTells", spec := "putTells", inPlace := ["internal/bytealg.IndexByteString"], unfollowed := true, recurses := true, loops := true, apart := false }
def PutTellsSaid : Prop := putTellsRow.holds Tryz.pinned (OpenSpec.ofChange putTellsSpec)

/-- ITS FALSE NEIGHBOUR: 'it returns false'. Refute it at one input. -/
def putTellsWrong : ChangeSpec := { name := "putTells", fn := fun _ => fun
  | [d1, d2, d3] => { results := [.lit (.bool false)], args := [d1, d2, d3] }
  | _ => none }
def PutTellsWrongFalsely : Prop := putTellsRow.holds Tryz.pinned (OpenSpec.ofChange putTellsWrong)

/-- 'broadsheetlaw10.PutApart': WHATEVER THE INPUT: true; the input reads as it did. -/
def putApartSpec : ChangeSpec := { name := "putApart", fn := fun _ => fun
  | [d1, d2, d3] => { results := [.lit (.bool true)], args := [d1, d2, d3] }
  | _ => none }
def putApartRow : OpenClaim := { program := "ytficmdomnilhnaagreat", sum := "c153c85089e876dc7b8f4788533620cb8d7fe71ef02cb1401041ddb1e3808280", func := "broadsheet/broadsheetlaw10.PutApart", spec := "putApart", inPlace := ["internal/bytealg.IndexByteString"], unfollowed := true, recurses := true, loops := true, apart := false }
def PutApartSaid : Prop := putApartRow.holds Tryz.pinned (OpenSpec.ofChange putApartSpec)

/-- ITS FALSE NEIGHBOUR: 'it returns false'. Refute it at one input. -/
def putApartWrong : ChangeSpec := { name := "putApart", fn := fun _ => fun
  | [d1, d2, d3] => { results := [.lit (.bool false)], args := [d1, d2, d3] }
  | _ => none }
def PutApartWrongFalsely : Prop := putApartRow.holds Tryz.pinned (OpenSpec.ofChange putApartWrong)

/-- 'broadsheetlaw10.PutBounds': WHATEVER THE INPUT: true; the input reads as it did. -/
def putBoundsSpec : ChangeSpec := { name := "putBounds", fn := fun _ => fun
  | [d1, d2, d3] => { results := [.lit (.bool true)], args := [d1, d2, d3] }
  | _ => none }
def putBoundsRow : OpenClaim := { program := "ytficmdomnilhnaagreat", sum := "c153c85089e876dc7b8f4788533620cb8d7fe71ef02cb1401041ddb1e3808280", func := "broadsheet/broadsheetlaw10.PutBounds", spec := "putBounds", inPlace := ["internal/bytealg.IndexByteString"], unfollowed := true, recurses := true, loops := true, apart := false }
def PutBoundsSaid : Prop := putBoundsRow.holds Tryz.pinned (OpenSpec.ofChange putBoundsSpec)

/-- ITS FALSE NEIGHBOUR: 'it returns false'. Refute it at one input. -/
def putBoundsWrong : ChangeSpec := { name := "putBounds", fn := fun _ => fun
  | [d1, d2, d3] => { results := [.lit (.bool false)], args := [d1, d2, d3] }
  | _ => none }
def PutBoundsWrongFalsely : Prop := putBoundsRow.holds Tryz.pinned (OpenSpec.ofChange putBoundsWrong)

/- THE SECOND FORM. 'bulk': how many values and letters a reading holds, each counted each time it is reached (what is shared counts as often as it is met; a slice's spare places count too). A statement '..UptoSaid' is the law's where the arguments, and the package variables that the reading takes, are together of bulk at most 1048576: NARROWER than '..Said'. Prove '..Said' where nothing that the law and all that it calls make is longer than what came in: it says more and counts as full. Else prove '..UptoSaid'. A law counts once. -/
mutual
def uptoBulk {H : Type} : DataW H → Nat
  | .lit (.string bytes) => bytes.length + 1
  | .lit _ => 1
  | .nil => 1
  | .ptr d => uptoBulk d + 1
  | .slice elems spare => uptoBulkAll elems + uptoBulkAll spare + 1
  | .agg parts => uptoBulkAll parts + 1
  | .iface _ d => uptoBulk d + 1
  | .map entries => uptoBulkEntries entries + 1
  | .held _ => 1
def uptoBulkAll {H : Type} : List (DataW H) → Nat
  | [] => 0
  | d :: r => uptoBulk d + uptoBulkAll r
def uptoBulkEntries {H : Type} : List (Lit × DataW H) → Nat
  | [] => 0
  | x :: r => uptoBulkEntry x + uptoBulkEntries r
def uptoBulkEntry {H : Type} : Lit × DataW H → Nat
  | (.string bytes, d) => bytes.length + uptoBulk d + 1
  | (_, d) => uptoBulk d + 1
 end
def uptoSmall : (H : Type) → List (DataW H) → Bool := fun _ ds => decide (uptoBulkAll ds ≤ 1048576)
def OpenSpec.upto (s : _root_.Go.ChangeSpec) : _root_.Go.OpenSpec := { _root_.Go.OpenSpec.ofChange s with cond := some uptoSmall }

/-- 'broadsheetlaw10.PutTells', WHERE WHAT IT READS IS OF BULK AT MOST 1048576: true; the input reads as it did. -/
def putTellsUptoRow : OpenClaim := { program := "ytficmdomnilhnaagreat", sum := "c153c85089e876dc7b8f4788533620cb8d7fe71ef02cb1401041ddb1e3808280", func := "broadsheet/broadsheetlaw10.PutTells", spec := "putTells", inPlace := ["internal/bytealg.IndexByteString"], unfollowed := true, recurses := true, loops := true, apart := false, narrowed := true }
def PutTellsUptoSaid : Prop := putTellsUptoRow.holds Tryz.pinned (OpenSpec.upto putTellsSpec)

/-- 'broadsheetlaw10.PutApart', WHERE WHAT IT READS IS OF BULK AT MOST 1048576: true; the input reads as it did. -/
def putApartUptoRow : OpenClaim := { program := "ytficmdomnilhnaagreat", sum := "c153c85089e876dc7b8f4788533620cb8d7fe71ef02cb1401041ddb1e3808280", func := "broadsheet/broadsheetlaw10.PutApart", spec := "putApart", inPlace := ["internal/bytealg.IndexByteString"], unfollowed := true, recurses := true, loops := true, apart := false, narrowed := true }
def PutApartUptoSaid : Prop := putApartUptoRow.holds Tryz.pinned (OpenSpec.upto putApartSpec)

/-- 'broadsheetlaw10.PutBounds', WHERE WHAT IT READS IS OF BULK AT MOST 1048576: true; the input reads as it did. -/
def putBoundsUptoRow : OpenClaim := { program := "ytficmdomnilhnaagreat", sum := "c153c85089e876dc7b8f4788533620cb8d7fe71ef02cb1401041ddb1e3808280", func := "broadsheet/broadsheetlaw10.PutBounds", spec := "putBounds", inPlace := ["internal/bytealg.IndexByteString"], unfollowed := true, recurses := true, loops := true, apart := false, narrowed := true }
def PutBoundsUptoSaid : Prop := putBoundsUptoRow.holds Tryz.pinned (OpenSpec.upto putBoundsSpec)

end Rows
end Go.Proofs.YtficmdomnilhnaaGreat
