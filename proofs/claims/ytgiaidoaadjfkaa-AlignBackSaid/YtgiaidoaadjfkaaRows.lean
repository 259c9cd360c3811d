/-
  No cell of these rows narrows 'for every input' (looked for: loops, veiled, ifaces, maps, wideKeys, modest, calm, conditions, laid).
  DERIVED. THE GIVEN ROWS OF THIS SEAT. 4 by the template 'for every input the law returns true; each argument reads behind the call as it read before'; 0 by the template 'total and deterministic' (their statements: YtgiaidoaadjfkaaTotals.lean).
  GIVEN WITH THE SEED: the statements are not yours to turn. If you find one false, say at which input.
  Laid BY PROGRAM, IN A SANDBOX (cutbox-rows.mjs): the forced cells as the released guide's own fill.sh prints them over the translation f112292061a49473… (all of the seat's roots in one cut). By AI agents, Wed Nov 11 2026. No macro, syntax, notation, axiom, sorry.
-/
import Derived.Test.YtgiaidoaadjfkaaChecked
import GoSem.Claim
import GoSem.ClaimJoined
import GoSem.ClaimMapViews
import Derived.JoinedTies
import Derived.KernelRfl
namespace Go.Proofs.Ytgiaidoaadjfkaa
/- THE CELL 'sum', in the pinned program and in every row, IS THE sha256 OF THE DUMP (.gsa) THAT YtgiaidoaadjfkaaProg.lean LOADS. Nothing in Lean hashes anything: it is a label: what it is worth is what the hold of that sum in a sandbox is worth. -/
noncomputable def Try.pinned : Pinned := { name := "ytgiaidoaadjfkaa", sum := "f112292061a4947325b1f6cdb86bc95786cca6835111de14e3b71af8b498656b", checked := Try.checked }
namespace Rows
def none {H : Type} : Left H := { results := [], args := [] }

/-- 'broadsheetlaw02.AlignPuts': WHATEVER THE INPUT: true; the input reads as it did. -/
def alignPutsSpec : ChangeSpec := { name := "alignPuts", fn := fun _ => fun
  | [d1, d2, d3] => { results := [.lit (.bool true)], args := [d1, d2, d3] }
  | _ => none }
def alignPutsRow : OpenClaim := { program := "ytgiaidoaadjfkaa", sum := "f112292061a4947325b1f6cdb86bc95786cca6835111de14e3b71af8b498656b", func := "broadsheet/broadsheetlaw02.AlignPuts", spec := "alignPuts", apart := false }
def AlignPutsSaid : Prop := alignPutsRow.holds Try.pinned (OpenSpec.ofChange alignPutsSpec)

/-- ITS FALSE NEIGHBOUR: 'it returns false'. Refute it at one input. -/
def alignPutsWrong : ChangeSpec := { name := "alignPuts", fn := fun _ => fun
  | [d1, d2, d3] => { results := [.lit (.bool false)], args := [d1, d2, d3] }
  | _ => none }
def AlignPutsWrongFalsely : Prop := alignPutsRow.holds Try.pinned (OpenSpec.ofChange alignPutsWrong)

/-- 'broadsheetlaw02.AlignTakes': WHATEVER THE INPUT: true; the input reads as it did. -/
def alignTakesSpec : ChangeSpec := { name := "alignTakes", fn := fun _ => fun
  | [d1, d2] => { results := [.lit (.bool true)], args := [d1, d2] }
  | _ => none }
def alignTakesRow : OpenClaim := { program := "ytgiaidoaadjfkaa", sum := "f112292061a4947325b1f6cdb86bc95786cca6835111de14e3b71af8b498656b", func := "broadsheet/broadsheetlaw02.AlignTakes", spec := "alignTakes", apart := false }
def AlignTakesSaid : Prop := alignTakesRow.holds Try.pinned (OpenSpec.ofChange alignTakesSpec)

/-- ITS FALSE NEIGHBOUR: 'it returns false'. Refute it at one input. -/
def alignTakesWrong : ChangeSpec := { name := "alignTakes", fn := fun _ => fun
  | [d1, d2] => { results := [.lit (.bool false)], args := [d1, d2] }
  | _ => none }
def AlignTakesWrongFalsely : Prop := alignTakesRow.holds Try.pinned (OpenSpec.ofChange alignTakesWrong)

/-- 'broadsheetlaw02.AlignBack': WHATEVER THE INPUT: true; the input reads as it did. -/
def alignBackSpec : ChangeSpec := { name := "alignBack", fn := fun _ => fun
  | [d] => { results := [.lit (.bool true)], args := [d] }
  | _ => none }
def alignBackRow : OpenClaim := { program := "ytgiaidoaadjfkaa", sum := "f112292061a4947325b1f6cdb86bc95786cca6835111de14e3b71af8b498656b", func := "broadsheet/broadsheetlaw02.AlignBack", spec := "alignBack", apart := false }
def AlignBackSaid : Prop := alignBackRow.holds Try.pinned (OpenSpec.ofChange alignBackSpec)

/-- ITS FALSE NEIGHBOUR: 'it returns false'. Refute it at one input. -/
def alignBackWrong : ChangeSpec := { name := "alignBack", fn := fun _ => fun
  | [d] => { results := [.lit (.bool false)], args := [d] }
  | _ => none }
def AlignBackWrongFalsely : Prop := alignBackRow.holds Try.pinned (OpenSpec.ofChange alignBackWrong)

/-- 'broadsheetlaw02.AlignNone': WHATEVER THE INPUT: true; the input reads as it did. -/
def alignNoneSpec : ChangeSpec := { name := "alignNone", fn := fun _ => fun
  | [d1, d2, d3] => { results := [.lit (.bool true)], args := [d1, d2, d3] }
  | _ => none }
def alignNoneRow : OpenClaim := { program := "ytgiaidoaadjfkaa", sum := "f112292061a4947325b1f6cdb86bc95786cca6835111de14e3b71af8b498656b", func := "broadsheet/broadsheetlaw02.AlignNone", spec := "alignNone", apart := false }
def AlignNoneSaid : Prop := alignNoneRow.holds Try.pinned (OpenSpec.ofChange alignNoneSpec)

/-- ITS FALSE NEIGHBOUR: 'it returns false'. Refute it at one input. -/
def alignNoneWrong : ChangeSpec := { name := "alignNone", fn := fun _ => fun
  | [d1, d2, d3] => { results := [.lit (.bool false)], args := [d1, d2, d3] }
  | _ => none }
def AlignNoneWrongFalsely : Prop := alignNoneRow.holds Try.pinned (OpenSpec.ofChange alignNoneWrong)

/- THE SECOND FORM. 'bulk': how many values and letters a reading holds, each counted each time it is reached (what is shared counts as often as it is met; a slice's spare places count too). A statement '..UptoSaid' is the law's where the arguments, and the package variables that the reading takes, are together of bulk at most 1048576: NARROWER than '..Said'. Prove '..Said' where nothing that the law and all that it calls make is longer than what came in: it says more and counts as full. Else prove '..UptoSaid'. A law counts once. -/
mutual
def uptoBulk {H : Type} : DataW H → Nat
  | .lit (.string bytes) => bytes.length + 1
  | .lit _ => 1
  | .nil => 1
  | .ptr d => uptoBulk d + 1
  | .slice elems spare => uptoBulkAll elems + uptoBulkAll spare + 1
  | .agg parts => uptoBulkAll parts + 1
  | .iface _ d => uptoBulk d + 1
  | .map entries => uptoBulkEntries entries + 1
  | .held _ => 1
def uptoBulkAll {H : Type} : List (DataW H) → Nat
  | [] => 0
  | d :: r => uptoBulk d + uptoBulkAll r
def uptoBulkEntries {H : Type} : List (Lit × DataW H) → Nat
  | [] => 0
  | x :: r => uptoBulkEntry x + uptoBulkEntries r
def uptoBulkEntry {H : Type} : Lit × DataW H → Nat
  | (.string bytes, d) => bytes.length + uptoBulk d + 1
  | (_, d) => uptoBulk d + 1
 end
def uptoSmall : (H : Type) → List (DataW H) → Bool := fun _ ds => decide (uptoBulkAll ds ≤ 1048576)
def OpenSpec.upto (s : _root_.Go.ChangeSpec) : _root_.Go.OpenSpec := { _root_.Go.OpenSpec.ofChange s with cond := some uptoSmall }

/-- 'broadsheetlaw02.AlignPuts', WHERE WHAT IT READS IS OF BULK AT MOST 1048576: true; the input reads as it did. -/
def alignPutsUptoRow : OpenClaim := { program := "ytgiaidoaadjfkaa", sum := "f112292061a4947325b1f6cdb86bc95786cca6835111de14e3b71af8b498656b", func := "broadsheet/broadsheetlaw02.AlignPuts", spec := "alignPuts", apart := false, narrowed := true }
def AlignPutsUptoSaid : Prop := alignPutsUptoRow.holds Try.pinned (OpenSpec.upto alignPutsSpec)

/-- 'broadsheetlaw02.AlignTakes', WHERE WHAT IT READS IS OF BULK AT MOST 1048576: true; the input reads as it did. -/
def alignTakesUptoRow : OpenClaim := { program := "ytgiaidoaadjfkaa", sum := "f112292061a4947325b1f6cdb86bc95786cca6835111de14e3b71af8b498656b", func := "broadsheet/broadsheetlaw02.AlignTakes", spec := "alignTakes", apart := false, narrowed := true }
def AlignTakesUptoSaid : Prop := alignTakesUptoRow.holds Try.pinned (OpenSpec.upto alignTakesSpec)

/-- 'broadsheetlaw02.AlignBack', WHERE WHAT IT READS IS OF BULK AT MOST 1048576: true; the input reads as it did. -/
def alignBackUptoRow : OpenClaim := { program := "ytgiaidoaadjfkaa", sum := "f112292061a4947325b1f6cdb86bc95786cca6835111de14e3b71af8b498656b", func := "broadsheet/broadsheetlaw02.AlignBack", spec := "alignBack", apart := false, narrowed := true }
def AlignBackUptoSaid : Prop := alignBackUptoRow.holds Try.pinned (OpenSpec.upto alignBackSpec)

/-- 'broadsheetlaw02.AlignNone', WHERE WHAT IT READS IS OF BULK AT MOST 1048576: true; the input reads as it did. -/
def alignNoneUptoRow : OpenClaim := { program := "ytgiaidoaadjfkaa", sum := "f112292061a4947325b1f6cdb86bc95786cca6835111de14e3b71af8b498656b", func := "broadsheet/broadsheetlaw02.AlignNone", spec := "alignNone", apart := false, narrowed := true }
def AlignNoneUptoSaid : Prop := alignNoneUptoRow.holds Try.pinned (OpenSpec.upto alignNoneSpec)

end Rows
end Go.Proofs.Ytgiaidoaadjfkaa
