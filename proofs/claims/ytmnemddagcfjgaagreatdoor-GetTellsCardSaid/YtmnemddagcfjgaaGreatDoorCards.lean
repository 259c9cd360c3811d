/-
  DERIVED. GIVEN WITH THE SEED: THE CARDS: each row of YtmnemddagcfjgaaGreatDoorRows.lean that lists a variable, with what it lists TIED to the program's text (the seventh form; the later family's looks); each row that meets fmt, with fmt's text TOLD by the authors' own Lean function (tested against real Go, not proved from fmt's source: count such statements apart). THE CARD IS WHAT COUNTS. Prove the row's statement (the work); the ties are given (YtmnemddagcfjgaaGreatDoorTie.lean); close each card by the builder's one call (the guide's Derived/Test/ToyasCard.lean, 'card_holds'). Laid BY PROGRAM, IN A SANDBOX (cutbox-door.mjs). By AI agents, Wed Nov 11 2026. No macro, syntax, notation, axiom, sorry.
-/
import Derived.Test.YtmnemddagcfjgaaGreatDoorRows
import GoSem.ClaimSeven
namespace Go.Proofs.YtmnemddagcfjgaaGreatDoor
namespace Rows

/-- THE TIED CARD OF 'broadsheetlaw11.GetTells'. -/
def getTellsCard : Claim7 := { stood := { row := getTellsRow, standIns := [], harness := (true, "dadb9d5fddc86713dba2efca73868156abe7a88d1618315ae04e561a1f5caa72"), looks := true }, kinds := [], alts := [], laidByText := true, laidKinds := [.data, .data, .data], laidTests := true, laidLooks := .later }
def GetTellsCardSaid : Prop := Claim7.holds Tryz.pinned (.plain (OpenSpec.ofChange getTellsSpec)) getTellsCard

/-- THE TIED CARD OF 'broadsheetlaw11.GetBack'. -/
def getBackCard : Claim7 := { stood := { row := getBackRow, standIns := [], harness := (true, "dadb9d5fddc86713dba2efca73868156abe7a88d1618315ae04e561a1f5caa72"), looks := true }, kinds := [], alts := [], laidByText := true, laidKinds := [.data, .data, .data], laidTests := true, laidLooks := .later }
def GetBackCardSaid : Prop := Claim7.holds Tryz.pinned (.plain (OpenSpec.ofChange getBackSpec)) getBackCard

/-- THE TIED CARD OF 'broadsheetlaw11.GetOne'. -/
def getOneCard : Claim7 := { stood := { row := getOneRow, standIns := [], harness := (true, "dadb9d5fddc86713dba2efca73868156abe7a88d1618315ae04e561a1f5caa72"), looks := true }, kinds := [], alts := [], laidByText := true, laidKinds := [.data, .data, .data], laidTests := true, laidLooks := .later }
def GetOneCardSaid : Prop := Claim7.holds Tryz.pinned (.plain (OpenSpec.ofChange getOneSpec)) getOneCard

/-- THE SECOND FORM's CARD OF 'broadsheetlaw11.GetTells'. -/
def getTellsUptoCard : Claim7 := { stood := { row := getTellsUptoRow, standIns := [], harness := (true, "dadb9d5fddc86713dba2efca73868156abe7a88d1618315ae04e561a1f5caa72"), looks := true }, kinds := [], alts := [], laidByText := true, laidKinds := [.data, .data, .data], laidTests := true, laidLooks := .later }
def GetTellsUptoCardSaid : Prop := Claim7.holds Tryz.pinned (.plain (OpenSpec.upto getTellsSpec)) getTellsUptoCard

/-- THE SECOND FORM's CARD OF 'broadsheetlaw11.GetBack'. -/
def getBackUptoCard : Claim7 := { stood := { row := getBackUptoRow, standIns := [], harness := (true, "dadb9d5fddc86713dba2efca73868156abe7a88d1618315ae04e561a1f5caa72"), looks := true }, kinds := [], alts := [], laidByText := true, laidKinds := [.data, .data, .data], laidTests := true, laidLooks := .later }
def GetBackUptoCardSaid : Prop := Claim7.holds Tryz.pinned (.plain (OpenSpec.upto getBackSpec)) getBackUptoCard

/-- THE SECOND FORM's CARD OF 'broadsheetlaw11.GetOne'. -/
def getOneUptoCard : Claim7 := { stood := { row := getOneUptoRow, standIns := [], harness := (true, "dadb9d5fddc86713dba2efca73868156abe7a88d1618315ae04e561a1f5caa72"), looks := true }, kinds := [], alts := [], laidByText := true, laidKinds := [.data, .data, .data], laidTests := true, laidLooks := .later }
def GetOneUptoCardSaid : Prop := Claim7.holds Tryz.pinned (.plain (OpenSpec.upto getOneSpec)) getOneUptoCard
end Rows
end Go.Proofs.YtmnemddagcfjgaaGreatDoor
