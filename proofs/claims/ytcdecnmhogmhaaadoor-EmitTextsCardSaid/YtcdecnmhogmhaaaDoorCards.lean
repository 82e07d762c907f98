/-
  DERIVED. GIVEN WITH THE SEED: THE CARDS: each row of YtcdecnmhogmhaaaDoorRows.lean that lists a variable, with what it lists TIED to the program's text (the seventh form; the later family's looks); each row that meets fmt, with fmt's text TOLD by the authors' own Lean function (tested against real Go, not proved from fmt's source: count such statements apart). THE CARD IS WHAT COUNTS. Prove the row's statement (the work); the ties are given (YtcdecnmhogmhaaaDoorTie.lean); close each card by the builder's one call (the guide's Derived/Test/ToyasCard.lean, 'card_holds'). Laid BY PROGRAM, IN A SANDBOX (cutbox-door.mjs). By AI agents, Wed Nov 11 2026. No macro, syntax, notation, axiom, sorry.
-/
import Derived.Test.YtcdecnmhogmhaaaDoorRows
import GoSem.ClaimSeven
namespace Go.Proofs.YtcdecnmhogmhaaaDoor
namespace Rows

/-- THE TIED CARD OF 'dactyllaw09.PortShows'. -/
def portShowsCard : Claim7 := { stood := { row := portShowsRow, standIns := [], harness := (true, "8163f3c92da092e2d3c9d36c861e47766961ecfc074279a71f97599ccd9a4c54"), looks := false }, kinds := [], alts := [], laidByText := true, laidKinds := [.data, .data], laidTests := true, laidLooks := .later }
def PortShowsCardSaid : Prop := Claim7.holds Tryd.pinned (.plain (OpenSpec.ofChange portShowsSpec)) portShowsCard

/-- THE TIED CARD OF 'dactyllaw09.PortFits'. -/
def portFitsCard : Claim7 := { stood := { row := portFitsRow, standIns := [], harness := (true, "8163f3c92da092e2d3c9d36c861e47766961ecfc074279a71f97599ccd9a4c54"), looks := false }, kinds := [], alts := [], laidByText := true, laidKinds := [.data, .data], laidTests := true, laidLooks := .later }
def PortFitsCardSaid : Prop := Claim7.holds Tryd.pinned (.plain (OpenSpec.ofChange portFitsSpec)) portFitsCard

/-- THE TIED CARD OF 'dactyllaw09.PortCursor'. -/
def portCursorCard : Claim7 := { stood := { row := portCursorRow, standIns := [], harness := (true, "8163f3c92da092e2d3c9d36c861e47766961ecfc074279a71f97599ccd9a4c54"), looks := false }, kinds := [], alts := [], laidByText := true, laidKinds := [.data, .data], laidTests := true, laidLooks := .later }
def PortCursorCardSaid : Prop := Claim7.holds Tryd.pinned (.plain (OpenSpec.ofChange portCursorSpec)) portCursorCard

/-- THE TIED CARD OF 'dactyllaw10.EmitTexts'. -/
def emitTextsCard : Claim7 := { stood := { row := emitTextsRow, standIns := [], harness := (true, "8163f3c92da092e2d3c9d36c861e47766961ecfc074279a71f97599ccd9a4c54"), looks := false }, kinds := [], alts := [], laidByText := true, laidKinds := [.data, .data, .data, .pinned], laidTests := true, laidLooks := .later }
def EmitTextsCardSaid : Prop := Claim7.holds Tryd.pinned (.plain (OpenSpec.ofChange emitTextsSpec)) emitTextsCard

/-- THE TIED CARD OF 'dactyllaw10.EmitParses'. -/
def emitParsesCard : Claim7 := { stood := { row := emitParsesRow, standIns := [], harness := (true, "8163f3c92da092e2d3c9d36c861e47766961ecfc074279a71f97599ccd9a4c54"), looks := false }, kinds := [], alts := [], laidByText := true, laidKinds := [.data, .data, .data, .pinned], laidTests := true, laidLooks := .later }
def EmitParsesCardSaid : Prop := Claim7.holds Tryd.pinned (.plain (OpenSpec.ofChange emitParsesSpec)) emitParsesCard

/-- THE TIED CARD OF 'dactyllaw10.EmitControls'. -/
def emitControlsCard : Claim7 := { stood := { row := emitControlsRow, standIns := [], harness := (true, "8163f3c92da092e2d3c9d36c861e47766961ecfc074279a71f97599ccd9a4c54"), looks := false }, kinds := [], alts := [], laidByText := true, laidKinds := [.data, .data, .data, .pinned], laidTests := true, laidLooks := .later }
def EmitControlsCardSaid : Prop := Claim7.holds Tryd.pinned (.plain (OpenSpec.ofChange emitControlsSpec)) emitControlsCard

/-- THE TIED CARD OF 'dactyllaw10.EmitCloses'. -/
def emitClosesCard : Claim7 := { stood := { row := emitClosesRow, standIns := [], harness := (true, "8163f3c92da092e2d3c9d36c861e47766961ecfc074279a71f97599ccd9a4c54"), looks := false }, kinds := [], alts := [], laidByText := true, laidKinds := [.data, .data, .data, .pinned], laidTests := true, laidLooks := .later }
def EmitClosesCardSaid : Prop := Claim7.holds Tryd.pinned (.plain (OpenSpec.ofChange emitClosesSpec)) emitClosesCard

/-- THE TIED CARD OF 'dactyllaw11.GridChunks'. -/
def gridChunksCard : Claim7 := { stood := { row := gridChunksRow, standIns := [], harness := (true, "8163f3c92da092e2d3c9d36c861e47766961ecfc074279a71f97599ccd9a4c54"), looks := false }, kinds := [], alts := [], laidByText := true, laidKinds := [.data, .data, .data, .pinned], laidTests := true, laidLooks := .later }
def GridChunksCardSaid : Prop := Claim7.holds Tryd.pinned (.plain (OpenSpec.ofChange gridChunksSpec)) gridChunksCard

/-- THE TIED CARD OF 'dactyllaw13.KeyNames'. -/
def keyNamesCard : Claim7 := { stood := { row := keyNamesRow, standIns := [], harness := (true, "8163f3c92da092e2d3c9d36c861e47766961ecfc074279a71f97599ccd9a4c54"), looks := false }, kinds := [], alts := [], laidByText := true, laidKinds := [.data], laidTests := true, laidLooks := .later }
def KeyNamesCardSaid : Prop := Claim7.holds Tryd.pinned (.plain (OpenSpec.ofChange keyNamesSpec)) keyNamesCard

/-- THE TIED CARD OF 'dactyllaw13.KeyParses'. -/
def keyParsesCard : Claim7 := { stood := { row := keyParsesRow, standIns := [], harness := (true, "8163f3c92da092e2d3c9d36c861e47766961ecfc074279a71f97599ccd9a4c54"), looks := false }, kinds := [], alts := [], laidByText := true, laidKinds := [.data], laidTests := true, laidLooks := .later }
def KeyParsesCardSaid : Prop := Claim7.holds Tryd.pinned (.plain (OpenSpec.ofChange keyParsesSpec)) keyParsesCard

/-- THE SECOND FORM's CARD OF 'dactyllaw09.PortShows'. -/
def portShowsUptoCard : Claim7 := { stood := { row := portShowsUptoRow, standIns := [], harness := (true, "8163f3c92da092e2d3c9d36c861e47766961ecfc074279a71f97599ccd9a4c54"), looks := false }, kinds := [], alts := [], laidByText := true, laidKinds := [.data, .data], laidTests := true, laidLooks := .later }
def PortShowsUptoCardSaid : Prop := Claim7.holds Tryd.pinned (.plain (OpenSpec.upto portShowsSpec)) portShowsUptoCard

/-- THE SECOND FORM's CARD OF 'dactyllaw09.PortFits'. -/
def portFitsUptoCard : Claim7 := { stood := { row := portFitsUptoRow, standIns := [], harness := (true, "8163f3c92da092e2d3c9d36c861e47766961ecfc074279a71f97599ccd9a4c54"), looks := false }, kinds := [], alts := [], laidByText := true, laidKinds := [.data, .data], laidTests := true, laidLooks := .later }
def PortFitsUptoCardSaid : Prop := Claim7.holds Tryd.pinned (.plain (OpenSpec.upto portFitsSpec)) portFitsUptoCard

/-- THE SECOND FORM's CARD OF 'dactyllaw09.PortCursor'. -/
def portCursorUptoCard : Claim7 := { stood := { row := portCursorUptoRow, standIns := [], harness := (true, "8163f3c92da092e2d3c9d36c861e47766961ecfc074279a71f97599ccd9a4c54"), looks := false }, kinds := [], alts := [], laidByText := true, laidKinds := [.data, .data], laidTests := true, laidLooks := .later }
def PortCursorUptoCardSaid : Prop := Claim7.holds Tryd.pinned (.plain (OpenSpec.upto portCursorSpec)) portCursorUptoCard

/-- THE SECOND FORM's CARD OF 'dactyllaw10.EmitTexts'. -/
def emitTextsUptoCard : Claim7 := { stood := { row := emitTextsUptoRow, standIns := [], harness := (true, "8163f3c92da092e2d3c9d36c861e47766961ecfc074279a71f97599ccd9a4c54"), looks := false }, kinds := [], alts := [], laidByText := true, laidKinds := [.data, .data, .data, .pinned], laidTests := true, laidLooks := .later }
def EmitTextsUptoCardSaid : Prop := Claim7.holds Tryd.pinned (.plain (OpenSpec.upto emitTextsSpec)) emitTextsUptoCard

/-- THE SECOND FORM's CARD OF 'dactyllaw10.EmitParses'. -/
def emitParsesUptoCard : Claim7 := { stood := { row := emitParsesUptoRow, standIns := [], harness := (true, "8163f3c92da092e2d3c9d36c861e47766961ecfc074279a71f97599ccd9a4c54"), looks := false }, kinds := [], alts := [], laidByText := true, laidKinds := [.data, .data, .data, .pinned], laidTests := true, laidLooks := .later }
def EmitParsesUptoCardSaid : Prop := Claim7.holds Tryd.pinned (.plain (OpenSpec.upto emitParsesSpec)) emitParsesUptoCard

/-- THE SECOND FORM's CARD OF 'dactyllaw10.EmitControls'. -/
def emitControlsUptoCard : Claim7 := { stood := { row := emitControlsUptoRow, standIns := [], harness := (true, "8163f3c92da092e2d3c9d36c861e47766961ecfc074279a71f97599ccd9a4c54"), looks := false }, kinds := [], alts := [], laidByText := true, laidKinds := [.data, .data, .data, .pinned], laidTests := true, laidLooks := .later }
def EmitControlsUptoCardSaid : Prop := Claim7.holds Tryd.pinned (.plain (OpenSpec.upto emitControlsSpec)) emitControlsUptoCard

/-- THE SECOND FORM's CARD OF 'dactyllaw10.EmitCloses'. -/
def emitClosesUptoCard : Claim7 := { stood := { row := emitClosesUptoRow, standIns := [], harness := (true, "8163f3c92da092e2d3c9d36c861e47766961ecfc074279a71f97599ccd9a4c54"), looks := false }, kinds := [], alts := [], laidByText := true, laidKinds := [.data, .data, .data, .pinned], laidTests := true, laidLooks := .later }
def EmitClosesUptoCardSaid : Prop := Claim7.holds Tryd.pinned (.plain (OpenSpec.upto emitClosesSpec)) emitClosesUptoCard

/-- THE SECOND FORM's CARD OF 'dactyllaw11.GridChunks'. -/
def gridChunksUptoCard : Claim7 := { stood := { row := gridChunksUptoRow, standIns := [], harness := (true, "8163f3c92da092e2d3c9d36c861e47766961ecfc074279a71f97599ccd9a4c54"), looks := false }, kinds := [], alts := [], laidByText := true, laidKinds := [.data, .data, .data, .pinned], laidTests := true, laidLooks := .later }
def GridChunksUptoCardSaid : Prop := Claim7.holds Tryd.pinned (.plain (OpenSpec.upto gridChunksSpec)) gridChunksUptoCard

/-- THE SECOND FORM's CARD OF 'dactyllaw13.KeyNames'. -/
def keyNamesUptoCard : Claim7 := { stood := { row := keyNamesUptoRow, standIns := [], harness := (true, "8163f3c92da092e2d3c9d36c861e47766961ecfc074279a71f97599ccd9a4c54"), looks := false }, kinds := [], alts := [], laidByText := true, laidKinds := [.data], laidTests := true, laidLooks := .later }
def KeyNamesUptoCardSaid : Prop := Claim7.holds Tryd.pinned (.plain (OpenSpec.upto keyNamesSpec)) keyNamesUptoCard

/-- THE SECOND FORM's CARD OF 'dactyllaw13.KeyParses'. -/
def keyParsesUptoCard : Claim7 := { stood := { row := keyParsesUptoRow, standIns := [], harness := (true, "8163f3c92da092e2d3c9d36c861e47766961ecfc074279a71f97599ccd9a4c54"), looks := false }, kinds := [], alts := [], laidByText := true, laidKinds := [.data], laidTests := true, laidLooks := .later }
def KeyParsesUptoCardSaid : Prop := Claim7.holds Tryd.pinned (.plain (OpenSpec.upto keyParsesSpec)) keyParsesUptoCard
end Rows
end Go.Proofs.YtcdecnmhogmhaaaDoor
