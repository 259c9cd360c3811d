/-
  DERIVED. GIVEN WITH THE SEED: THE CARDS: each row of YtjgdkiikkgdbaaaGreatDoorRows.lean that lists a variable, with what it lists TIED to the program's text (the seventh form; the later family's looks); each row that meets fmt, with fmt's text TOLD by the authors' own Lean function (tested against real Go, not proved from fmt's source: count such statements apart). THE CARD IS WHAT COUNTS. Prove the row's statement (the work); the ties are given (YtjgdkiikkgdbaaaGreatDoorTie.lean); close each card by the builder's one call (the guide's Derived/Test/ToyasCard.lean, 'card_holds'). Laid BY PROGRAM, IN A SANDBOX (cutbox-door.mjs). By AI agents, Wed Nov 11 2026. No macro, syntax, notation, axiom, sorry.
-/
import Derived.Test.YtjgdkiikkgdbaaaGreatDoorRows
import GoSem.ClaimSeven
namespace Go.Proofs.YtjgdkiikkgdbaaaGreatDoor
namespace Rows

/-- THE TIED CARD OF 'broadsheetlaw16.ShowTells'. -/
def showTellsCard : Claim7 := { stood := { row := showTellsRow, standIns := [], harness := (true, "81d537aab9978a2ad0b26c335d74c8e8c208e5cdf99a313e378e8ca58d19d8c9"), looks := true }, kinds := [], alts := [], laidByText := true, laidKinds := [.data, .data, .data, .data, .sentinel, .sentinel, .pinned], laidTests := true, laidLooks := .later }
def ShowTellsCardSaid : Prop := Claim7.holds Tryz.pinned (.plain (OpenSpec.ofChange showTellsSpec)) showTellsCard

/-- THE TIED CARD OF 'broadsheetlaw16.ShowOperands'. -/
def showOperandsCard : Claim7 := { stood := { row := showOperandsRow, standIns := [], harness := (true, "81d537aab9978a2ad0b26c335d74c8e8c208e5cdf99a313e378e8ca58d19d8c9"), looks := true }, kinds := [], alts := [], laidByText := true, laidKinds := [.data, .data, .data, .data, .sentinel, .sentinel, .pinned], laidTests := true, laidLooks := .later }
def ShowOperandsCardSaid : Prop := Claim7.holds Tryz.pinned (.plain (OpenSpec.ofChange showOperandsSpec)) showOperandsCard

/-- THE TIED CARD OF 'broadsheetlaw16.ShowBack'. -/
def showBackCard : Claim7 := { stood := { row := showBackRow, standIns := [], harness := (true, "81d537aab9978a2ad0b26c335d74c8e8c208e5cdf99a313e378e8ca58d19d8c9"), looks := true }, kinds := [], alts := [], laidByText := true, laidKinds := [.data, .data, .data, .data, .sentinel, .sentinel, .pinned], laidTests := true, laidLooks := .later }
def ShowBackCardSaid : Prop := Claim7.holds Tryz.pinned (.plain (OpenSpec.ofChange showBackSpec)) showBackCard

/-- THE SECOND FORM's CARD OF 'broadsheetlaw16.ShowTells'. -/
def showTellsUptoCard : Claim7 := { stood := { row := showTellsUptoRow, standIns := [], harness := (true, "81d537aab9978a2ad0b26c335d74c8e8c208e5cdf99a313e378e8ca58d19d8c9"), looks := true }, kinds := [], alts := [], laidByText := true, laidKinds := [.data, .data, .data, .data, .sentinel, .sentinel, .pinned], laidTests := true, laidLooks := .later }
def ShowTellsUptoCardSaid : Prop := Claim7.holds Tryz.pinned (.plain (OpenSpec.upto showTellsSpec)) showTellsUptoCard

/-- THE SECOND FORM's CARD OF 'broadsheetlaw16.ShowOperands'. -/
def showOperandsUptoCard : Claim7 := { stood := { row := showOperandsUptoRow, standIns := [], harness := (true, "81d537aab9978a2ad0b26c335d74c8e8c208e5cdf99a313e378e8ca58d19d8c9"), looks := true }, kinds := [], alts := [], laidByText := true, laidKinds := [.data, .data, .data, .data, .sentinel, .sentinel, .pinned], laidTests := true, laidLooks := .later }
def ShowOperandsUptoCardSaid : Prop := Claim7.holds Tryz.pinned (.plain (OpenSpec.upto showOperandsSpec)) showOperandsUptoCard

/-- THE SECOND FORM's CARD OF 'broadsheetlaw16.ShowBack'. -/
def showBackUptoCard : Claim7 := { stood := { row := showBackUptoRow, standIns := [], harness := (true, "81d537aab9978a2ad0b26c335d74c8e8c208e5cdf99a313e378e8ca58d19d8c9"), looks := true }, kinds := [], alts := [], laidByText := true, laidKinds := [.data, .data, .data, .data, .sentinel, .sentinel, .pinned], laidTests := true, laidLooks := .later }
def ShowBackUptoCardSaid : Prop := Claim7.holds Tryz.pinned (.plain (OpenSpec.upto showBackSpec)) showBackUptoCard
end Rows
end Go.Proofs.YtjgdkiikkgdbaaaGreatDoor
