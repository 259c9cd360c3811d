/-
  DERIVED. GIVEN WITH THE SEED: THE CARDS: each row of YtcpjbimojliogaaGreatDoorRows.lean that lists a variable, with what it lists TIED to the program's text (the seventh form; the later family's looks); each row that meets fmt, with fmt's text TOLD by the authors' own Lean function (tested against real Go, not proved from fmt's source: count such statements apart). THE CARD IS WHAT COUNTS. Prove the row's statement (the work); the ties are given (YtcpjbimojliogaaGreatDoorTie.lean); close each card by the builder's one call (the guide's Derived/Test/ToyasCard.lean, 'card_holds'). Laid BY PROGRAM, IN A SANDBOX (cutbox-door.mjs). By AI agents, Wed Nov 11 2026. No macro, syntax, notation, axiom, sorry.
-/
import Derived.Test.YtcpjbimojliogaaGreatDoorRows
import GoSem.ClaimSeven
namespace Go.Proofs.YtcpjbimojliogaaGreatDoor
namespace Rows

/-- THE TIED CARD OF 'broadsheetlaw12.PathFinds'. -/
def pathFindsCard : Claim7 := { stood := { row := pathFindsRow, standIns := [], harness := (true, "7b702cd6da088cc7231233d3e78dbc4c63220be846549c3ac8d0e6802275358d"), looks := true }, kinds := [], alts := [], laidByText := true, laidKinds := [.data, .data, .data, .sentinel, .sentinel], laidTests := true, laidLooks := .later }
def PathFindsCardSaid : Prop := Claim7.holds Tryz.pinned (.plain (OpenSpec.ofChange pathFindsSpec)) pathFindsCard

/-- THE TIED CARD OF 'broadsheetlaw12.PathAt'. -/
def pathAtCard : Claim7 := { stood := { row := pathAtRow, standIns := [], harness := (true, "7b702cd6da088cc7231233d3e78dbc4c63220be846549c3ac8d0e6802275358d"), looks := true }, kinds := [], alts := [], laidByText := true, laidKinds := [.data, .data, .data, .sentinel, .sentinel], laidTests := true, laidLooks := .later }
def PathAtCardSaid : Prop := Claim7.holds Tryz.pinned (.plain (OpenSpec.ofChange pathAtSpec)) pathAtCard

/-- THE TIED CARD OF 'broadsheetlaw12.PathBack'. -/
def pathBackCard : Claim7 := { stood := { row := pathBackRow, standIns := [], harness := (true, "7b702cd6da088cc7231233d3e78dbc4c63220be846549c3ac8d0e6802275358d"), looks := true }, kinds := [], alts := [], laidByText := true, laidKinds := [.data, .data, .data, .sentinel, .sentinel], laidTests := true, laidLooks := .later }
def PathBackCardSaid : Prop := Claim7.holds Tryz.pinned (.plain (OpenSpec.ofChange pathBackSpec)) pathBackCard

/-- THE SECOND FORM's CARD OF 'broadsheetlaw12.PathFinds'. -/
def pathFindsUptoCard : Claim7 := { stood := { row := pathFindsUptoRow, standIns := [], harness := (true, "7b702cd6da088cc7231233d3e78dbc4c63220be846549c3ac8d0e6802275358d"), looks := true }, kinds := [], alts := [], laidByText := true, laidKinds := [.data, .data, .data, .sentinel, .sentinel], laidTests := true, laidLooks := .later }
def PathFindsUptoCardSaid : Prop := Claim7.holds Tryz.pinned (.plain (OpenSpec.upto pathFindsSpec)) pathFindsUptoCard

/-- THE SECOND FORM's CARD OF 'broadsheetlaw12.PathAt'. -/
def pathAtUptoCard : Claim7 := { stood := { row := pathAtUptoRow, standIns := [], harness := (true, "7b702cd6da088cc7231233d3e78dbc4c63220be846549c3ac8d0e6802275358d"), looks := true }, kinds := [], alts := [], laidByText := true, laidKinds := [.data, .data, .data, .sentinel, .sentinel], laidTests := true, laidLooks := .later }
def PathAtUptoCardSaid : Prop := Claim7.holds Tryz.pinned (.plain (OpenSpec.upto pathAtSpec)) pathAtUptoCard

/-- THE SECOND FORM's CARD OF 'broadsheetlaw12.PathBack'. -/
def pathBackUptoCard : Claim7 := { stood := { row := pathBackUptoRow, standIns := [], harness := (true, "7b702cd6da088cc7231233d3e78dbc4c63220be846549c3ac8d0e6802275358d"), looks := true }, kinds := [], alts := [], laidByText := true, laidKinds := [.data, .data, .data, .sentinel, .sentinel], laidTests := true, laidLooks := .later }
def PathBackUptoCardSaid : Prop := Claim7.holds Tryz.pinned (.plain (OpenSpec.upto pathBackSpec)) pathBackUptoCard
end Rows
end Go.Proofs.YtcpjbimojliogaaGreatDoor
