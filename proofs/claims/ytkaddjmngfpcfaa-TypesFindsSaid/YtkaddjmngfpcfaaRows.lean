/-
  No cell of these rows narrows 'for every input' (looked for: loops, veiled, ifaces, maps, wideKeys, modest, calm, conditions, laid).
  DERIVED. THE GIVEN ROWS OF THIS SEAT. 3 by the template 'for every input the law returns true; each argument reads behind the call as it read before'; 0 by the template 'total and deterministic' (their statements: YtkaddjmngfpcfaaTotals.lean).
  GIVEN WITH THE SEED: the statements are not yours to turn. If you find one false, say at which input.
  Laid BY PROGRAM, IN A SANDBOX (cutbox-rows.mjs): the forced cells as the released guide's own fill.sh prints them over the translation be3fc3bbb0821a59… (all of the seat's roots in one cut). By AI agents, Wed Nov 11 2026. No macro, syntax, notation, axiom, sorry.
-/
import Derived.Test.YtkaddjmngfpcfaaChecked
import GoSem.Claim
import GoSem.ClaimJoined
import GoSem.ClaimMapViews
import Derived.JoinedTies
import Derived.KernelRfl
namespace Go.Proofs.Ytkaddjmngfpcfaa
/- THE CELL 'sum', in the pinned program and in every row, IS THE sha256 OF THE DUMP (.gsa) THAT YtkaddjmngfpcfaaProg.lean LOADS. Nothing in Lean hashes anything: it is a label: what it is worth is what the hold of that sum in a sandbox is worth. -/
noncomputable def Try.pinned : Pinned := { name := "ytkaddjmngfpcfaa", sum := "be3fc3bbb0821a5944ca7e7bee35e2a785d43bff4bab04e79e261cefb20079b7", checked := Try.checked }
namespace Rows
def none {H : Type} : Left H := { results := [], args := [] }

/-- 'broadsheetlaw06.TypesChecks': WHATEVER THE INPUT: true; the input reads as it did. -/
def typesChecksSpec : ChangeSpec := { name := "typesChecks", fn := fun _ => fun
  | [d] => { results := [.lit (.bool true)], args := [d] }
  | _ => none }
def typesChecksRow : OpenClaim := { program := "ytkaddjmngfpcfaa", sum := "be3fc3bbb0821a5944ca7e7bee35e2a785d43bff4bab04e79e261cefb20079b7", func := "broadsheet/broadsheetlaw06.TypesChecks", spec := "typesChecks", unfollowed := true, recurses := true, apart := false }
def TypesChecksSaid : Prop := typesChecksRow.holds Try.pinned (OpenSpec.ofChange typesChecksSpec)

/-- ITS FALSE NEIGHBOUR: 'it returns false'. Refute it at one input. -/
def typesChecksWrong : ChangeSpec := { name := "typesChecks", fn := fun _ => fun
  | [d] => { results := [.lit (.bool false)], args := [d] }
  | _ => none }
def TypesChecksWrongFalsely : Prop := typesChecksRow.holds Try.pinned (OpenSpec.ofChange typesChecksWrong)

/-- 'broadsheetlaw06.TypesFinds': WHATEVER THE INPUT: true; the input reads as it did. -/
def typesFindsSpec : ChangeSpec := { name := "typesFinds", fn := fun _ => fun
  | [d1, d2] => { results := [.lit (.bool true)], args := [d1, d2] }
  | _ => none }
def typesFindsRow : OpenClaim := { program := "ytkaddjmngfpcfaa", sum := "be3fc3bbb0821a5944ca7e7bee35e2a785d43bff4bab04e79e261cefb20079b7", func := "broadsheet/broadsheetlaw06.TypesFinds", spec := "typesFinds", unfollowed := true, recurses := true, apart := false }
def TypesFindsSaid : Prop := typesFindsRow.holds Try.pinned (OpenSpec.ofChange typesFindsSpec)

/-- ITS FALSE NEIGHBOUR: 'it returns false'. Refute it at one input. -/
def typesFindsWrong : ChangeSpec := { name := "typesFinds", fn := fun _ => fun
  | [d1, d2] => { results := [.lit (.bool false)], args := [d1, d2] }
  | _ => none }
def TypesFindsWrongFalsely : Prop := typesFindsRow.holds Try.pinned (OpenSpec.ofChange typesFindsWrong)

/-- 'broadsheetlaw06.TypesLess': WHATEVER THE INPUT: true; the input reads as it did. -/
def typesLessSpec : ChangeSpec := { name := "typesLess", fn := fun _ => fun
  | [d1, d2] => { results := [.lit (.bool true)], args := [d1, d2] }
  | _ => none }
def typesLessRow : OpenClaim := { program := "ytkaddjmngfpcfaa", sum := "be3fc3bbb0821a5944ca7e7bee35e2a785d43bff4bab04e79e261cefb20079b7", func := "broadsheet/broadsheetlaw06.TypesLess", spec := "typesLess", unfollowed := true, recurses := true, apart := false }
def TypesLessSaid : Prop := typesLessRow.holds Try.pinned (OpenSpec.ofChange typesLessSpec)

/-- ITS FALSE NEIGHBOUR: 'it returns false'. Refute it at one input. -/
def typesLessWrong : ChangeSpec := { name := "typesLess", fn := fun _ => fun
  | [d1, d2] => { results := [.lit (.bool false)], args := [d1, d2] }
  | _ => none }
def TypesLessWrongFalsely : Prop := typesLessRow.holds Try.pinned (OpenSpec.ofChange typesLessWrong)

/- THE SECOND FORM. 'bulk': how many values and letters a reading holds, each counted each time it is reached (what is shared counts as often as it is met; a slice's spare places count too). A statement '..UptoSaid' is the law's where the arguments, and the package variables that the reading takes, are together of bulk at most 1048576: NARROWER than '..Said'. Prove '..Said' where nothing that the law and all that it calls make is longer than what came in: it says more and counts as full. Else prove '..UptoSaid'. A law counts once. -/
mutual
def uptoBulk {H : Type} : DataW H → Nat
  | .lit (.string bytes) => bytes.length + 1
  | .lit _ => 1
  | .nil => 1
  | .ptr d => uptoBulk d + 1
  | .slice elems spare => uptoBulkAll elems + uptoBulkAll spare + 1
  | .agg parts => uptoBulkAll parts + 1
  | .iface _ d => uptoBulk d + 1
  | .map entries => uptoBulkEntries entries + 1
  | .held _ => 1
def uptoBulkAll {H : Type} : List (DataW H) → Nat
  | [] => 0
  | d :: r => uptoBulk d + uptoBulkAll r
def uptoBulkEntries {H : Type} : List (Lit × DataW H) → Nat
  | [] => 0
  | x :: r => uptoBulkEntry x + uptoBulkEntries r
def uptoBulkEntry {H : Type} : Lit × DataW H → Nat
  | (.string bytes, d) => bytes.length + uptoBulk d + 1
  | (_, d) => uptoBulk d + 1
 end
def uptoSmall : (H : Type) → List (DataW H) → Bool := fun _ ds => decide (uptoBulkAll ds ≤ 1048576)
def OpenSpec.upto (s : _root_.Go.ChangeSpec) : _root_.Go.OpenSpec := { _root_.Go.OpenSpec.ofChange s with cond := some uptoSmall }

/-- 'broadsheetlaw06.TypesChecks', WHERE WHAT IT READS IS OF BULK AT MOST 1048576: true; the input reads as it did. -/
def typesChecksUptoRow : OpenClaim := { program := "ytkaddjmngfpcfaa", sum := "be3fc3bbb0821a5944ca7e7bee35e2a785d43bff4bab04e79e261cefb20079b7", func := "broadsheet/broadsheetlaw06.TypesChecks", spec := "typesChecks", unfollowed := true, recurses := true, apart := false, narrowed := true }
def TypesChecksUptoSaid : Prop := typesChecksUptoRow.holds Try.pinned (OpenSpec.upto typesChecksSpec)

/-- 'broadsheetlaw06.TypesFinds', WHERE WHAT IT READS IS OF BULK AT MOST 1048576: true; the input reads as it did. -/
def typesFindsUptoRow : OpenClaim := { program := "ytkaddjmngfpcfaa", sum := "be3fc3bbb0821a5944ca7e7bee35e2a785d43bff4bab04e79e261cefb20079b7", func := "broadsheet/broadsheetlaw06.TypesFinds", spec := "typesFinds", unfollowed := true, recurses := true, apart := false, narrowed := true }
def TypesFindsUptoSaid : Prop := typesFindsUptoRow.holds Try.pinned (OpenSpec.upto typesFindsSpec)

/-- 'broadsheetlaw06.TypesLess', WHERE WHAT IT READS IS OF BULK AT MOST 1048576: true; the input reads as it did. -/
def typesLessUptoRow : OpenClaim := { program := "ytkaddjmngfpcfaa", sum := "be3fc3bbb0821a5944ca7e7bee35e2a785d43bff4bab04e79e261cefb20079b7", func := "broadsheet/broadsheetlaw06.TypesLess", spec := "typesLess", unfollowed := true, recurses := true, apart := false, narrowed := true }
def TypesLessUptoSaid : Prop := typesLessUptoRow.holds Try.pinned (OpenSpec.upto typesLessSpec)

end Rows
end Go.Proofs.Ytkaddjmngfpcfaa
