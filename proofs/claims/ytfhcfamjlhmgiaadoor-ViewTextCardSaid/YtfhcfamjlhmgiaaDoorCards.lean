/-
  DERIVED. GIVEN WITH THE SEED: THE CARDS: each row of YtfhcfamjlhmgiaaDoorRows.lean that lists a variable, with what it lists TIED to the program's text (the seventh form; the later family's looks); each row that meets fmt, with fmt's text TOLD by the authors' own Lean function (tested against real Go, not proved from fmt's source: count such statements apart). THE CARD IS WHAT COUNTS. Prove the row's statement (the work); the ties are given (YtfhcfamjlhmgiaaDoorTie.lean); close each card by the builder's one call (the guide's Derived/Test/ToyasCard.lean, 'card_holds'). Laid BY PROGRAM, IN A SANDBOX (cutbox-door.mjs). By AI agents, Wed Nov 11 2026. No macro, syntax, notation, axiom, sorry.
-/
import Derived.Test.YtfhcfamjlhmgiaaDoorRows
import GoSem.ClaimSeven
namespace Go.Proofs.YtfhcfamjlhmgiaaDoor
namespace Rows

/-- THE TIED CARD OF 'dactyllaw06.ShowCells'. -/
def showCellsCard : Claim7 := { stood := { row := showCellsRow, standIns := [], harness := (true, "b078a6d2c7da4a7ab898dda875bb9eef9627607e0dd43c9aa0e6451e00877039"), looks := false }, kinds := [], alts := [], laidByText := true, laidKinds := [.data, .data], laidTests := true, laidLooks := .later }
def ShowCellsCardSaid : Prop := Claim7.holds Tryd.pinned (.plain (OpenSpec.ofChange showCellsSpec)) showCellsCard

/-- THE TIED CARD OF 'dactyllaw06.ShowApart'. -/
def showApartCard : Claim7 := { stood := { row := showApartRow, standIns := [], harness := (true, "b078a6d2c7da4a7ab898dda875bb9eef9627607e0dd43c9aa0e6451e00877039"), looks := false }, kinds := [], alts := [], laidByText := true, laidKinds := [.data, .data], laidTests := true, laidLooks := .later }
def ShowApartCardSaid : Prop := Claim7.holds Tryd.pinned (.plain (OpenSpec.ofChange showApartSpec)) showApartCard

/-- THE TIED CARD OF 'dactyllaw06.ShowCols'. -/
def showColsCard : Claim7 := { stood := { row := showColsRow, standIns := [], harness := (true, "b078a6d2c7da4a7ab898dda875bb9eef9627607e0dd43c9aa0e6451e00877039"), looks := false }, kinds := [], alts := [], laidByText := true, laidKinds := [.data, .data], laidTests := true, laidLooks := .later }
def ShowColsCardSaid : Prop := Claim7.holds Tryd.pinned (.plain (OpenSpec.ofChange showColsSpec)) showColsCard

/-- THE TIED CARD OF 'dactyllaw07.ViewOf'. -/
def viewOfCard : Claim7 := { stood := { row := viewOfRow, standIns := [], harness := (true, "b078a6d2c7da4a7ab898dda875bb9eef9627607e0dd43c9aa0e6451e00877039"), looks := false }, kinds := [], alts := [], laidByText := true, laidKinds := [.data, .data], laidTests := true, laidLooks := .later }
def ViewOfCardSaid : Prop := Claim7.holds Tryd.pinned (.plain (OpenSpec.ofChange viewOfSpec)) viewOfCard

/-- THE TIED CARD OF 'dactyllaw07.ViewMaps'. -/
def viewMapsCard : Claim7 := { stood := { row := viewMapsRow, standIns := [], harness := (true, "b078a6d2c7da4a7ab898dda875bb9eef9627607e0dd43c9aa0e6451e00877039"), looks := false }, kinds := [], alts := [], laidByText := true, laidKinds := [.data, .data], laidTests := true, laidLooks := .later }
def ViewMapsCardSaid : Prop := Claim7.holds Tryd.pinned (.plain (OpenSpec.ofChange viewMapsSpec)) viewMapsCard

/-- THE TIED CARD OF 'dactyllaw07.ViewApart'. -/
def viewApartCard : Claim7 := { stood := { row := viewApartRow, standIns := [], harness := (true, "b078a6d2c7da4a7ab898dda875bb9eef9627607e0dd43c9aa0e6451e00877039"), looks := false }, kinds := [], alts := [], laidByText := true, laidKinds := [.data, .data], laidTests := true, laidLooks := .later }
def ViewApartCardSaid : Prop := Claim7.holds Tryd.pinned (.plain (OpenSpec.ofChange viewApartSpec)) viewApartCard

/-- THE TIED CARD OF 'dactyllaw07.ViewText'. -/
def viewTextCard : Claim7 := { stood := { row := viewTextRow, standIns := [], harness := (true, "b078a6d2c7da4a7ab898dda875bb9eef9627607e0dd43c9aa0e6451e00877039"), looks := false }, kinds := [], alts := [], laidByText := true, laidKinds := [.data, .data], laidTests := true, laidLooks := .later }
def ViewTextCardSaid : Prop := Claim7.holds Tryd.pinned (.plain (OpenSpec.ofChange viewTextSpec)) viewTextCard

/-- THE TIED CARD OF 'dactyllaw09.PortShows'. -/
def portShowsCard : Claim7 := { stood := { row := portShowsRow, standIns := [], harness := (true, "b078a6d2c7da4a7ab898dda875bb9eef9627607e0dd43c9aa0e6451e00877039"), looks := false }, kinds := [], alts := [], laidByText := true, laidKinds := [.data, .data], laidTests := true, laidLooks := .later }
def PortShowsCardSaid : Prop := Claim7.holds Tryd.pinned (.plain (OpenSpec.ofChange portShowsSpec)) portShowsCard

/-- THE TIED CARD OF 'dactyllaw09.PortFits'. -/
def portFitsCard : Claim7 := { stood := { row := portFitsRow, standIns := [], harness := (true, "b078a6d2c7da4a7ab898dda875bb9eef9627607e0dd43c9aa0e6451e00877039"), looks := false }, kinds := [], alts := [], laidByText := true, laidKinds := [.data, .data], laidTests := true, laidLooks := .later }
def PortFitsCardSaid : Prop := Claim7.holds Tryd.pinned (.plain (OpenSpec.ofChange portFitsSpec)) portFitsCard

/-- THE TIED CARD OF 'dactyllaw09.PortCursor'. -/
def portCursorCard : Claim7 := { stood := { row := portCursorRow, standIns := [], harness := (true, "b078a6d2c7da4a7ab898dda875bb9eef9627607e0dd43c9aa0e6451e00877039"), looks := false }, kinds := [], alts := [], laidByText := true, laidKinds := [.data, .data], laidTests := true, laidLooks := .later }
def PortCursorCardSaid : Prop := Claim7.holds Tryd.pinned (.plain (OpenSpec.ofChange portCursorSpec)) portCursorCard

/-- THE TIED CARD OF 'dactyllaw13.KeyNames'. -/
def keyNamesCard : Claim7 := { stood := { row := keyNamesRow, standIns := [], harness := (true, "b078a6d2c7da4a7ab898dda875bb9eef9627607e0dd43c9aa0e6451e00877039"), looks := false }, kinds := [], alts := [], laidByText := true, laidKinds := [.data], laidTests := true, laidLooks := .later }
def KeyNamesCardSaid : Prop := Claim7.holds Tryd.pinned (.plain (OpenSpec.ofChange keyNamesSpec)) keyNamesCard

/-- THE TIED CARD OF 'dactyllaw13.KeyParses'. -/
def keyParsesCard : Claim7 := { stood := { row := keyParsesRow, standIns := [], harness := (true, "b078a6d2c7da4a7ab898dda875bb9eef9627607e0dd43c9aa0e6451e00877039"), looks := false }, kinds := [], alts := [], laidByText := true, laidKinds := [.data], laidTests := true, laidLooks := .later }
def KeyParsesCardSaid : Prop := Claim7.holds Tryd.pinned (.plain (OpenSpec.ofChange keyParsesSpec)) keyParsesCard

/-- THE SECOND FORM's CARD OF 'dactyllaw06.ShowCells'. -/
def showCellsUptoCard : Claim7 := { stood := { row := showCellsUptoRow, standIns := [], harness := (true, "b078a6d2c7da4a7ab898dda875bb9eef9627607e0dd43c9aa0e6451e00877039"), looks := false }, kinds := [], alts := [], laidByText := true, laidKinds := [.data, .data], laidTests := true, laidLooks := .later }
def ShowCellsUptoCardSaid : Prop := Claim7.holds Tryd.pinned (.plain (OpenSpec.upto showCellsSpec)) showCellsUptoCard

/-- THE SECOND FORM's CARD OF 'dactyllaw06.ShowApart'. -/
def showApartUptoCard : Claim7 := { stood := { row := showApartUptoRow, standIns := [], harness := (true, "b078a6d2c7da4a7ab898dda875bb9eef9627607e0dd43c9aa0e6451e00877039"), looks := false }, kinds := [], alts := [], laidByText := true, laidKinds := [.data, .data], laidTests := true, laidLooks := .later }
def ShowApartUptoCardSaid : Prop := Claim7.holds Tryd.pinned (.plain (OpenSpec.upto showApartSpec)) showApartUptoCard

/-- THE SECOND FORM's CARD OF 'dactyllaw06.ShowCols'. -/
def showColsUptoCard : Claim7 := { stood := { row := showColsUptoRow, standIns := [], harness := (true, "b078a6d2c7da4a7ab898dda875bb9eef9627607e0dd43c9aa0e6451e00877039"), looks := false }, kinds := [], alts := [], laidByText := true, laidKinds := [.data, .data], laidTests := true, laidLooks := .later }
def ShowColsUptoCardSaid : Prop := Claim7.holds Tryd.pinned (.plain (OpenSpec.upto showColsSpec)) showColsUptoCard

/-- THE SECOND FORM's CARD OF 'dactyllaw07.ViewOf'. -/
def viewOfUptoCard : Claim7 := { stood := { row := viewOfUptoRow, standIns := [], harness := (true, "b078a6d2c7da4a7ab898dda875bb9eef9627607e0dd43c9aa0e6451e00877039"), looks := false }, kinds := [], alts := [], laidByText := true, laidKinds := [.data, .data], laidTests := true, laidLooks := .later }
def ViewOfUptoCardSaid : Prop := Claim7.holds Tryd.pinned (.plain (OpenSpec.upto viewOfSpec)) viewOfUptoCard

/-- THE SECOND FORM's CARD OF 'dactyllaw07.ViewMaps'. -/
def viewMapsUptoCard : Claim7 := { stood := { row := viewMapsUptoRow, standIns := [], harness := (true, "b078a6d2c7da4a7ab898dda875bb9eef9627607e0dd43c9aa0e6451e00877039"), looks := false }, kinds := [], alts := [], laidByText := true, laidKinds := [.data, .data], laidTests := true, laidLooks := .later }
def ViewMapsUptoCardSaid : Prop := Claim7.holds Tryd.pinned (.plain (OpenSpec.upto viewMapsSpec)) viewMapsUptoCard

/-- THE SECOND FORM's CARD OF 'dactyllaw07.ViewApart'. -/
def viewApartUptoCard : Claim7 := { stood := { row := viewApartUptoRow, standIns := [], harness := (true, "b078a6d2c7da4a7ab898dda875bb9eef9627607e0dd43c9aa0e6451e00877039"), looks := false }, kinds := [], alts := [], laidByText := true, laidKinds := [.data, .data], laidTests := true, laidLooks := .later }
def ViewApartUptoCardSaid : Prop := Claim7.holds Tryd.pinned (.plain (OpenSpec.upto viewApartSpec)) viewApartUptoCard

/-- THE SECOND FORM's CARD OF 'dactyllaw07.ViewText'. -/
def viewTextUptoCard : Claim7 := { stood := { row := viewTextUptoRow, standIns := [], harness := (true, "b078a6d2c7da4a7ab898dda875bb9eef9627607e0dd43c9aa0e6451e00877039"), looks := false }, kinds := [], alts := [], laidByText := true, laidKinds := [.data, .data], laidTests := true, laidLooks := .later }
def ViewTextUptoCardSaid : Prop := Claim7.holds Tryd.pinned (.plain (OpenSpec.upto viewTextSpec)) viewTextUptoCard

/-- THE SECOND FORM's CARD OF 'dactyllaw09.PortShows'. -/
def portShowsUptoCard : Claim7 := { stood := { row := portShowsUptoRow, standIns := [], harness := (true, "b078a6d2c7da4a7ab898dda875bb9eef9627607e0dd43c9aa0e6451e00877039"), looks := false }, kinds := [], alts := [], laidByText := true, laidKinds := [.data, .data], laidTests := true, laidLooks := .later }
def PortShowsUptoCardSaid : Prop := Claim7.holds Tryd.pinned (.plain (OpenSpec.upto portShowsSpec)) portShowsUptoCard

/-- THE SECOND FORM's CARD OF 'dactyllaw09.PortFits'. -/
def portFitsUptoCard : Claim7 := { stood := { row := portFitsUptoRow, standIns := [], harness := (true, "b078a6d2c7da4a7ab898dda875bb9eef9627607e0dd43c9aa0e6451e00877039"), looks := false }, kinds := [], alts := [], laidByText := true, laidKinds := [.data, .data], laidTests := true, laidLooks := .later }
def PortFitsUptoCardSaid : Prop := Claim7.holds Tryd.pinned (.plain (OpenSpec.upto portFitsSpec)) portFitsUptoCard

/-- THE SECOND FORM's CARD OF 'dactyllaw09.PortCursor'. -/
def portCursorUptoCard : Claim7 := { stood := { row := portCursorUptoRow, standIns := [], harness := (true, "b078a6d2c7da4a7ab898dda875bb9eef9627607e0dd43c9aa0e6451e00877039"), looks := false }, kinds := [], alts := [], laidByText := true, laidKinds := [.data, .data], laidTests := true, laidLooks := .later }
def PortCursorUptoCardSaid : Prop := Claim7.holds Tryd.pinned (.plain (OpenSpec.upto portCursorSpec)) portCursorUptoCard

/-- THE SECOND FORM's CARD OF 'dactyllaw13.KeyNames'. -/
def keyNamesUptoCard : Claim7 := { stood := { row := keyNamesUptoRow, standIns := [], harness := (true, "b078a6d2c7da4a7ab898dda875bb9eef9627607e0dd43c9aa0e6451e00877039"), looks := false }, kinds := [], alts := [], laidByText := true, laidKinds := [.data], laidTests := true, laidLooks := .later }
def KeyNamesUptoCardSaid : Prop := Claim7.holds Tryd.pinned (.plain (OpenSpec.upto keyNamesSpec)) keyNamesUptoCard

/-- THE SECOND FORM's CARD OF 'dactyllaw13.KeyParses'. -/
def keyParsesUptoCard : Claim7 := { stood := { row := keyParsesUptoRow, standIns := [], harness := (true, "b078a6d2c7da4a7ab898dda875bb9eef9627607e0dd43c9aa0e6451e00877039"), looks := false }, kinds := [], alts := [], laidByText := true, laidKinds := [.data], laidTests := true, laidLooks := .later }
def KeyParsesUptoCardSaid : Prop := Claim7.holds Tryd.pinned (.plain (OpenSpec.upto keyParsesSpec)) keyParsesUptoCard
end Rows
end Go.Proofs.YtfhcfamjlhmgiaaDoor
