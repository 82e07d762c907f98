/-
  DERIVED. GIVEN WITH THE SEED: THE CARDS: each row of YtgpcflpeddnfcaaDoorRows.lean that lists a variable, with what it lists TIED to the program's text (the seventh form; the later family's looks); each row that meets fmt, with fmt's text TOLD by the authors' own Lean function (tested against real Go, not proved from fmt's source: count such statements apart). THE CARD IS WHAT COUNTS. Prove the row's statement (the work); the ties are given (YtgpcflpeddnfcaaDoorTie.lean); close each card by the builder's one call (the guide's Derived/Test/ToyasCard.lean, 'card_holds'). Laid BY PROGRAM, IN A SANDBOX (cutbox-door.mjs). By AI agents, Wed Nov 11 2026. No macro, syntax, notation, axiom, sorry.
-/
import Derived.Test.YtgpcflpeddnfcaaDoorRows
import GoSem.ClaimSeven
namespace Go.Proofs.YtgpcflpeddnfcaaDoor
namespace Rows

/-- THE TIED CARD OF 'dactyllaw19.UndoDoes'. -/
def undoDoesCard : Claim7 := { stood := { row := undoDoesRow, standIns := [], harness := (true, "d8ae7488128407744b0905b2eaf8c167629cfec594fc19bcde18a5bfb07f3054"), looks := false }, kinds := [], alts := [], laidByText := true, laidKinds := [.data, .pinned], laidTests := true, laidLooks := .later }
def UndoDoesCardSaid : Prop := Claim7.holds Tryd.pinned (.plain (OpenSpec.ofChange undoDoesSpec)) undoDoesCard

/-- THE TIED CARD OF 'dactyllaw19.UndoBounds'. -/
def undoBoundsCard : Claim7 := { stood := { row := undoBoundsRow, standIns := [], harness := (true, "d8ae7488128407744b0905b2eaf8c167629cfec594fc19bcde18a5bfb07f3054"), looks := false }, kinds := [], alts := [], laidByText := true, laidKinds := [.data, .pinned], laidTests := true, laidLooks := .later }
def UndoBoundsCardSaid : Prop := Claim7.holds Tryd.pinned (.plain (OpenSpec.ofChange undoBoundsSpec)) undoBoundsCard

/-- THE TIED CARD OF 'dactyllaw23.HistBounds'. -/
def histBoundsCard : Claim7 := { stood := { row := histBoundsRow, standIns := [], harness := (true, "d8ae7488128407744b0905b2eaf8c167629cfec594fc19bcde18a5bfb07f3054"), looks := false }, kinds := [], alts := [], laidByText := true, laidKinds := [.data, .pinned], laidTests := true, laidLooks := .later }
def HistBoundsCardSaid : Prop := Claim7.holds Tryd.pinned (.plain (OpenSpec.ofChange histBoundsSpec)) histBoundsCard

/-- THE TIED CARD OF 'dactyllaw26.OfferDoes'. -/
def offerDoesCard : Claim7 := { stood := { row := offerDoesRow, standIns := [], harness := (true, "d8ae7488128407744b0905b2eaf8c167629cfec594fc19bcde18a5bfb07f3054"), looks := false }, kinds := [], alts := [], laidByText := true, laidKinds := [.data, .data, .data, .pinned], laidTests := true, laidLooks := .later }
def OfferDoesCardSaid : Prop := Claim7.holds Tryd.pinned (.plain (OpenSpec.ofChange offerDoesSpec)) offerDoesCard

/-- THE TIED CARD OF 'dactyllaw26.OfferStays'. -/
def offerStaysCard : Claim7 := { stood := { row := offerStaysRow, standIns := [], harness := (true, "d8ae7488128407744b0905b2eaf8c167629cfec594fc19bcde18a5bfb07f3054"), looks := false }, kinds := [], alts := [], laidByText := true, laidKinds := [.data, .data, .data, .pinned], laidTests := true, laidLooks := .later }
def OfferStaysCardSaid : Prop := Claim7.holds Tryd.pinned (.plain (OpenSpec.ofChange offerStaysSpec)) offerStaysCard

/-- THE TIED CARD OF 'dactyllaw26.OfferOnly'. -/
def offerOnlyCard : Claim7 := { stood := { row := offerOnlyRow, standIns := [], harness := (true, "d8ae7488128407744b0905b2eaf8c167629cfec594fc19bcde18a5bfb07f3054"), looks := false }, kinds := [], alts := [], laidByText := true, laidKinds := [.data, .data, .data, .pinned], laidTests := true, laidLooks := .later }
def OfferOnlyCardSaid : Prop := Claim7.holds Tryd.pinned (.plain (OpenSpec.ofChange offerOnlySpec)) offerOnlyCard

/-- THE TIED CARD OF 'dactyllaw27.EmacsNames'. -/
def emacsNamesCard : Claim7 := { stood := { row := emacsNamesRow, standIns := [], harness := (true, "d8ae7488128407744b0905b2eaf8c167629cfec594fc19bcde18a5bfb07f3054"), looks := false }, kinds := [], alts := [], laidByText := true, laidKinds := [.data, .data], laidTests := true, laidLooks := .later }
def EmacsNamesCardSaid : Prop := Claim7.holds Tryd.pinned (.plain (OpenSpec.ofChange emacsNamesSpec)) emacsNamesCard

/-- THE TIED CARD OF 'dactyllaw33.EventTexts'. -/
def eventTextsCard : Claim7 := { stood := { row := eventTextsRow, standIns := [], harness := (true, "d8ae7488128407744b0905b2eaf8c167629cfec594fc19bcde18a5bfb07f3054"), looks := false }, kinds := [], alts := [], laidByText := true, laidKinds := [.data, .data, .pinned], laidTests := true, laidLooks := .later }
def EventTextsCardSaid : Prop := Claim7.holds Tryd.pinned (.plain (OpenSpec.ofChange eventTextsSpec)) eventTextsCard

/-- THE TIED CARD OF 'dactyllaw43.TaintOnly'. -/
def taintOnlyCard : Claim7 := { stood := { row := taintOnlyRow, standIns := [], harness := (true, "d8ae7488128407744b0905b2eaf8c167629cfec594fc19bcde18a5bfb07f3054"), looks := false }, kinds := [], alts := [], laidByText := true, laidKinds := [.data, .data, .data], laidTests := true, laidLooks := .later }
def TaintOnlyCardSaid : Prop := Claim7.holds Tryd.pinned (.plain (OpenSpec.ofChange taintOnlySpec)) taintOnlyCard

/-- THE SECOND FORM's CARD OF 'dactyllaw19.UndoDoes'. -/
def undoDoesUptoCard : Claim7 := { stood := { row := undoDoesUptoRow, standIns := [], harness := (true, "d8ae7488128407744b0905b2eaf8c167629cfec594fc19bcde18a5bfb07f3054"), looks := false }, kinds := [], alts := [], laidByText := true, laidKinds := [.data, .pinned], laidTests := true, laidLooks := .later }
def UndoDoesUptoCardSaid : Prop := Claim7.holds Tryd.pinned (.plain (OpenSpec.upto undoDoesSpec)) undoDoesUptoCard

/-- THE SECOND FORM's CARD OF 'dactyllaw19.UndoBounds'. -/
def undoBoundsUptoCard : Claim7 := { stood := { row := undoBoundsUptoRow, standIns := [], harness := (true, "d8ae7488128407744b0905b2eaf8c167629cfec594fc19bcde18a5bfb07f3054"), looks := false }, kinds := [], alts := [], laidByText := true, laidKinds := [.data, .pinned], laidTests := true, laidLooks := .later }
def UndoBoundsUptoCardSaid : Prop := Claim7.holds Tryd.pinned (.plain (OpenSpec.upto undoBoundsSpec)) undoBoundsUptoCard

/-- THE SECOND FORM's CARD OF 'dactyllaw23.HistBounds'. -/
def histBoundsUptoCard : Claim7 := { stood := { row := histBoundsUptoRow, standIns := [], harness := (true, "d8ae7488128407744b0905b2eaf8c167629cfec594fc19bcde18a5bfb07f3054"), looks := false }, kinds := [], alts := [], laidByText := true, laidKinds := [.data, .pinned], laidTests := true, laidLooks := .later }
def HistBoundsUptoCardSaid : Prop := Claim7.holds Tryd.pinned (.plain (OpenSpec.upto histBoundsSpec)) histBoundsUptoCard

/-- THE SECOND FORM's CARD OF 'dactyllaw26.OfferDoes'. -/
def offerDoesUptoCard : Claim7 := { stood := { row := offerDoesUptoRow, standIns := [], harness := (true, "d8ae7488128407744b0905b2eaf8c167629cfec594fc19bcde18a5bfb07f3054"), looks := false }, kinds := [], alts := [], laidByText := true, laidKinds := [.data, .data, .data, .pinned], laidTests := true, laidLooks := .later }
def OfferDoesUptoCardSaid : Prop := Claim7.holds Tryd.pinned (.plain (OpenSpec.upto offerDoesSpec)) offerDoesUptoCard

/-- THE SECOND FORM's CARD OF 'dactyllaw26.OfferStays'. -/
def offerStaysUptoCard : Claim7 := { stood := { row := offerStaysUptoRow, standIns := [], harness := (true, "d8ae7488128407744b0905b2eaf8c167629cfec594fc19bcde18a5bfb07f3054"), looks := false }, kinds := [], alts := [], laidByText := true, laidKinds := [.data, .data, .data, .pinned], laidTests := true, laidLooks := .later }
def OfferStaysUptoCardSaid : Prop := Claim7.holds Tryd.pinned (.plain (OpenSpec.upto offerStaysSpec)) offerStaysUptoCard

/-- THE SECOND FORM's CARD OF 'dactyllaw26.OfferOnly'. -/
def offerOnlyUptoCard : Claim7 := { stood := { row := offerOnlyUptoRow, standIns := [], harness := (true, "d8ae7488128407744b0905b2eaf8c167629cfec594fc19bcde18a5bfb07f3054"), looks := false }, kinds := [], alts := [], laidByText := true, laidKinds := [.data, .data, .data, .pinned], laidTests := true, laidLooks := .later }
def OfferOnlyUptoCardSaid : Prop := Claim7.holds Tryd.pinned (.plain (OpenSpec.upto offerOnlySpec)) offerOnlyUptoCard

/-- THE SECOND FORM's CARD OF 'dactyllaw27.EmacsNames'. -/
def emacsNamesUptoCard : Claim7 := { stood := { row := emacsNamesUptoRow, standIns := [], harness := (true, "d8ae7488128407744b0905b2eaf8c167629cfec594fc19bcde18a5bfb07f3054"), looks := false }, kinds := [], alts := [], laidByText := true, laidKinds := [.data, .data], laidTests := true, laidLooks := .later }
def EmacsNamesUptoCardSaid : Prop := Claim7.holds Tryd.pinned (.plain (OpenSpec.upto emacsNamesSpec)) emacsNamesUptoCard

/-- THE SECOND FORM's CARD OF 'dactyllaw33.EventTexts'. -/
def eventTextsUptoCard : Claim7 := { stood := { row := eventTextsUptoRow, standIns := [], harness := (true, "d8ae7488128407744b0905b2eaf8c167629cfec594fc19bcde18a5bfb07f3054"), looks := false }, kinds := [], alts := [], laidByText := true, laidKinds := [.data, .data, .pinned], laidTests := true, laidLooks := .later }
def EventTextsUptoCardSaid : Prop := Claim7.holds Tryd.pinned (.plain (OpenSpec.upto eventTextsSpec)) eventTextsUptoCard

/-- THE SECOND FORM's CARD OF 'dactyllaw43.TaintOnly'. -/
def taintOnlyUptoCard : Claim7 := { stood := { row := taintOnlyUptoRow, standIns := [], harness := (true, "d8ae7488128407744b0905b2eaf8c167629cfec594fc19bcde18a5bfb07f3054"), looks := false }, kinds := [], alts := [], laidByText := true, laidKinds := [.data, .data, .data], laidTests := true, laidLooks := .later }
def TaintOnlyUptoCardSaid : Prop := Claim7.holds Tryd.pinned (.plain (OpenSpec.upto taintOnlySpec)) taintOnlyUptoCard
end Rows
end Go.Proofs.YtgpcflpeddnfcaaDoor
