/-
  DERIVED. GIVEN WITH THE SEED: THE CARDS: each row of YthcompcjphaahaaGreatDoorRows.lean that lists a variable, with what it lists TIED to the program's text (the seventh form; the later family's looks); each row that meets fmt, with fmt's text TOLD by the authors' own Lean function (tested against real Go, not proved from fmt's source: count such statements apart). THE CARD IS WHAT COUNTS. Prove the row's statement (the work); the ties are given (YthcompcjphaahaaGreatDoorTie.lean); close each card by the builder's one call (the guide's Derived/Test/ToyasCard.lean, 'card_holds'). Laid BY PROGRAM, IN A SANDBOX (cutbox-door.mjs). By AI agents, Wed Nov 11 2026. No macro, syntax, notation, axiom, sorry.
-/
import Derived.Test.YthcompcjphaahaaGreatDoorRows
import GoSem.ClaimSeven
namespace Go.Proofs.YthcompcjphaahaaGreatDoor
namespace Rows

/-- THE TIED CARD OF 'broadsheetlaw19.TruthHolds'. -/
def truthHoldsCard : Claim7 := { stood := { row := truthHoldsRow, standIns := [], harness := (true, "84b5918574e11c7cd981e71bcda5b9357f128e79188745b0d55e86bbca0eaf35"), looks := true }, kinds := [], alts := [], laidByText := true, laidKinds := [.data, .data, .data, .data, .sentinel, .sentinel, .pinned], laidTests := true, laidLooks := .later }
def TruthHoldsCardSaid : Prop := Claim7.holds Tryz.pinned (.plain (OpenSpec.ofChange truthHoldsSpec)) truthHoldsCard

/-- THE TIED CARD OF 'broadsheetlaw19.TruthRel'. -/
def truthRelCard : Claim7 := { stood := { row := truthRelRow, standIns := [], harness := (true, "84b5918574e11c7cd981e71bcda5b9357f128e79188745b0d55e86bbca0eaf35"), looks := true }, kinds := [], alts := [], laidByText := true, laidKinds := [.data, .data, .data, .data, .sentinel, .sentinel, .pinned], laidTests := true, laidLooks := .later }
def TruthRelCardSaid : Prop := Claim7.holds Tryz.pinned (.plain (OpenSpec.ofChange truthRelSpec)) truthRelCard

/-- THE TIED CARD OF 'broadsheetlaw19.TruthOne'. -/
def truthOneCard : Claim7 := { stood := { row := truthOneRow, standIns := [], harness := (true, "84b5918574e11c7cd981e71bcda5b9357f128e79188745b0d55e86bbca0eaf35"), looks := true }, kinds := [], alts := [], laidByText := true, laidKinds := [.data, .data, .data, .data, .sentinel, .sentinel, .pinned], laidTests := true, laidLooks := .later }
def TruthOneCardSaid : Prop := Claim7.holds Tryz.pinned (.plain (OpenSpec.ofChange truthOneSpec)) truthOneCard

/-- THE TIED CARD OF 'broadsheetlaw19.TruthLaws'. -/
def truthLawsCard : Claim7 := { stood := { row := truthLawsRow, standIns := [], harness := (true, "84b5918574e11c7cd981e71bcda5b9357f128e79188745b0d55e86bbca0eaf35"), looks := true }, kinds := [], alts := [], laidByText := true, laidKinds := [.data, .data, .data, .data, .sentinel, .sentinel, .pinned], laidTests := true, laidLooks := .later }
def TruthLawsCardSaid : Prop := Claim7.holds Tryz.pinned (.plain (OpenSpec.ofChange truthLawsSpec)) truthLawsCard

/-- THE SECOND FORM's CARD OF 'broadsheetlaw19.TruthHolds'. -/
def truthHoldsUptoCard : Claim7 := { stood := { row := truthHoldsUptoRow, standIns := [], harness := (true, "84b5918574e11c7cd981e71bcda5b9357f128e79188745b0d55e86bbca0eaf35"), looks := true }, kinds := [], alts := [], laidByText := true, laidKinds := [.data, .data, .data, .data, .sentinel, .sentinel, .pinned], laidTests := true, laidLooks := .later }
def TruthHoldsUptoCardSaid : Prop := Claim7.holds Tryz.pinned (.plain (OpenSpec.upto truthHoldsSpec)) truthHoldsUptoCard

/-- THE SECOND FORM's CARD OF 'broadsheetlaw19.TruthRel'. -/
def truthRelUptoCard : Claim7 := { stood := { row := truthRelUptoRow, standIns := [], harness := (true, "84b5918574e11c7cd981e71bcda5b9357f128e79188745b0d55e86bbca0eaf35"), looks := true }, kinds := [], alts := [], laidByText := true, laidKinds := [.data, .data, .data, .data, .sentinel, .sentinel, .pinned], laidTests := true, laidLooks := .later }
def TruthRelUptoCardSaid : Prop := Claim7.holds Tryz.pinned (.plain (OpenSpec.upto truthRelSpec)) truthRelUptoCard

/-- THE SECOND FORM's CARD OF 'broadsheetlaw19.TruthOne'. -/
def truthOneUptoCard : Claim7 := { stood := { row := truthOneUptoRow, standIns := [], harness := (true, "84b5918574e11c7cd981e71bcda5b9357f128e79188745b0d55e86bbca0eaf35"), looks := true }, kinds := [], alts := [], laidByText := true, laidKinds := [.data, .data, .data, .data, .sentinel, .sentinel, .pinned], laidTests := true, laidLooks := .later }
def TruthOneUptoCardSaid : Prop := Claim7.holds Tryz.pinned (.plain (OpenSpec.upto truthOneSpec)) truthOneUptoCard

/-- THE SECOND FORM's CARD OF 'broadsheetlaw19.TruthLaws'. -/
def truthLawsUptoCard : Claim7 := { stood := { row := truthLawsUptoRow, standIns := [], harness := (true, "84b5918574e11c7cd981e71bcda5b9357f128e79188745b0d55e86bbca0eaf35"), looks := true }, kinds := [], alts := [], laidByText := true, laidKinds := [.data, .data, .data, .data, .sentinel, .sentinel, .pinned], laidTests := true, laidLooks := .later }
def TruthLawsUptoCardSaid : Prop := Claim7.holds Tryz.pinned (.plain (OpenSpec.upto truthLawsSpec)) truthLawsUptoCard
end Rows
end Go.Proofs.YthcompcjphaahaaGreatDoor
