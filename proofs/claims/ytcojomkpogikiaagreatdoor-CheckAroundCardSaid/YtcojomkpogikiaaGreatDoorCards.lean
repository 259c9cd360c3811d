/-
  DERIVED. GIVEN WITH THE SEED: THE CARDS: each row of YtcojomkpogikiaaGreatDoorRows.lean that lists a variable, with what it lists TIED to the program's text (the seventh form; the later family's looks); each row that meets fmt, with fmt's text TOLD by the authors' own Lean function (tested against real Go, not proved from fmt's source: count such statements apart). THE CARD IS WHAT COUNTS. Prove the row's statement (the work); the ties are given (YtcojomkpogikiaaGreatDoorTie.lean); close each card by the builder's one call (the guide's Derived/Test/ToyasCard.lean, 'card_holds'). Laid BY PROGRAM, IN A SANDBOX (cutbox-door.mjs). By AI agents, Wed Nov 11 2026. No macro, syntax, notation, axiom, sorry.
-/
import Derived.Test.YtcojomkpogikiaaGreatDoorRows
import GoSem.ClaimSeven
namespace Go.Proofs.YtcojomkpogikiaaGreatDoor
namespace Rows

/-- THE TIED CARD OF 'broadsheetlaw18.CheckTells'. -/
def checkTellsCard : Claim7 := { stood := { row := checkTellsRow, standIns := [], harness := (true, "600ef41c505ea5f637b4f9fa150e486597b7a32cb2d19977d3521876672bf3af"), looks := true }, kinds := [], alts := [], laidByText := true, laidKinds := [.data, .data, .data, .data, .sentinel, .sentinel, .pinned], laidTests := true, laidLooks := .later }
def CheckTellsCardSaid : Prop := Claim7.holds Tryz.pinned (.plain (OpenSpec.ofChange checkTellsSpec)) checkTellsCard

/-- THE TIED CARD OF 'broadsheetlaw18.CheckBinds'. -/
def checkBindsCard : Claim7 := { stood := { row := checkBindsRow, standIns := [], harness := (true, "600ef41c505ea5f637b4f9fa150e486597b7a32cb2d19977d3521876672bf3af"), looks := true }, kinds := [], alts := [], laidByText := true, laidKinds := [.data, .data, .data, .data, .sentinel, .sentinel, .pinned], laidTests := true, laidLooks := .later }
def CheckBindsCardSaid : Prop := Claim7.holds Tryz.pinned (.plain (OpenSpec.ofChange checkBindsSpec)) checkBindsCard

/-- THE TIED CARD OF 'broadsheetlaw18.CheckData'. -/
def checkDataCard : Claim7 := { stood := { row := checkDataRow, standIns := [], harness := (true, "600ef41c505ea5f637b4f9fa150e486597b7a32cb2d19977d3521876672bf3af"), looks := true }, kinds := [], alts := [], laidByText := true, laidKinds := [.data, .data, .data, .data, .sentinel, .sentinel, .pinned], laidTests := true, laidLooks := .later }
def CheckDataCardSaid : Prop := Claim7.holds Tryz.pinned (.plain (OpenSpec.ofChange checkDataSpec)) checkDataCard

/-- THE TIED CARD OF 'broadsheetlaw18.CheckAround'. -/
def checkAroundCard : Claim7 := { stood := { row := checkAroundRow, standIns := [], harness := (true, "600ef41c505ea5f637b4f9fa150e486597b7a32cb2d19977d3521876672bf3af"), looks := true }, kinds := [], alts := [], laidByText := true, laidKinds := [.data, .data, .data, .data, .sentinel, .sentinel, .pinned], laidTests := true, laidLooks := .later }
def CheckAroundCardSaid : Prop := Claim7.holds Tryz.pinned (.plain (OpenSpec.ofChange checkAroundSpec)) checkAroundCard

/-- THE SECOND FORM's CARD OF 'broadsheetlaw18.CheckTells'. -/
def checkTellsUptoCard : Claim7 := { stood := { row := checkTellsUptoRow, standIns := [], harness := (true, "600ef41c505ea5f637b4f9fa150e486597b7a32cb2d19977d3521876672bf3af"), looks := true }, kinds := [], alts := [], laidByText := true, laidKinds := [.data, .data, .data, .data, .sentinel, .sentinel, .pinned], laidTests := true, laidLooks := .later }
def CheckTellsUptoCardSaid : Prop := Claim7.holds Tryz.pinned (.plain (OpenSpec.upto checkTellsSpec)) checkTellsUptoCard

/-- THE SECOND FORM's CARD OF 'broadsheetlaw18.CheckBinds'. -/
def checkBindsUptoCard : Claim7 := { stood := { row := checkBindsUptoRow, standIns := [], harness := (true, "600ef41c505ea5f637b4f9fa150e486597b7a32cb2d19977d3521876672bf3af"), looks := true }, kinds := [], alts := [], laidByText := true, laidKinds := [.data, .data, .data, .data, .sentinel, .sentinel, .pinned], laidTests := true, laidLooks := .later }
def CheckBindsUptoCardSaid : Prop := Claim7.holds Tryz.pinned (.plain (OpenSpec.upto checkBindsSpec)) checkBindsUptoCard

/-- THE SECOND FORM's CARD OF 'broadsheetlaw18.CheckData'. -/
def checkDataUptoCard : Claim7 := { stood := { row := checkDataUptoRow, standIns := [], harness := (true, "600ef41c505ea5f637b4f9fa150e486597b7a32cb2d19977d3521876672bf3af"), looks := true }, kinds := [], alts := [], laidByText := true, laidKinds := [.data, .data, .data, .data, .sentinel, .sentinel, .pinned], laidTests := true, laidLooks := .later }
def CheckDataUptoCardSaid : Prop := Claim7.holds Tryz.pinned (.plain (OpenSpec.upto checkDataSpec)) checkDataUptoCard

/-- THE SECOND FORM's CARD OF 'broadsheetlaw18.CheckAround'. -/
def checkAroundUptoCard : Claim7 := { stood := { row := checkAroundUptoRow, standIns := [], harness := (true, "600ef41c505ea5f637b4f9fa150e486597b7a32cb2d19977d3521876672bf3af"), looks := true }, kinds := [], alts := [], laidByText := true, laidKinds := [.data, .data, .data, .data, .sentinel, .sentinel, .pinned], laidTests := true, laidLooks := .later }
def CheckAroundUptoCardSaid : Prop := Claim7.holds Tryz.pinned (.plain (OpenSpec.upto checkAroundSpec)) checkAroundUptoCard
end Rows
end Go.Proofs.YtcojomkpogikiaaGreatDoor
