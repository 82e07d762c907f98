/-
  DERIVED. GIVEN WITH THE SEED: THE CARDS: each row of YtnpiooaiceegmaaDoorRows.lean that lists a variable, with what it lists TIED to the program's text (the seventh form; the later family's looks); each row that meets fmt, with fmt's text TOLD by the authors' own Lean function (tested against real Go, not proved from fmt's source: count such statements apart). THE CARD IS WHAT COUNTS. Prove the row's statement (the work); the ties are given (YtnpiooaiceegmaaDoorTie.lean); close each card by the builder's one call (the guide's Derived/Test/ToyasCard.lean, 'card_holds'). Laid BY PROGRAM, IN A SANDBOX (cutbox-door.mjs). By AI agents, Wed Nov 11 2026. No macro, syntax, notation, axiom, sorry.
-/
import Derived.Test.YtnpiooaiceegmaaDoorRows
import GoSem.ClaimSeven
namespace Go.Proofs.YtnpiooaiceegmaaDoor
namespace Rows

/-- THE TIED CARD OF 'dactyllaw34.TapeTexts'. -/
def tapeTextsCard : Claim7 := { stood := { row := tapeTextsRow, standIns := [], harness := (true, "5440d3bddabfe2f934c1f9aa27fb1f762b3a0601c6a8243a0a5a649483113805"), looks := false }, kinds := [], alts := [], laidByText := true, laidKinds := [.data, .pinned], laidTests := true, laidLooks := .later }
def TapeTextsCardSaid : Prop := Claim7.holds Tryd.pinned (.plain (OpenSpec.ofChange tapeTextsSpec)) tapeTextsCard

/-- THE TIED CARD OF 'dactyllaw19.UndoDoes'. -/
def undoDoesCard : Claim7 := { stood := { row := undoDoesRow, standIns := [], harness := (true, "5440d3bddabfe2f934c1f9aa27fb1f762b3a0601c6a8243a0a5a649483113805"), looks := false }, kinds := [], alts := [], laidByText := true, laidKinds := [.data, .pinned], laidTests := true, laidLooks := .later }
def UndoDoesCardSaid : Prop := Claim7.holds Tryd.pinned (.plain (OpenSpec.ofChange undoDoesSpec)) undoDoesCard

/-- THE TIED CARD OF 'dactyllaw19.UndoBounds'. -/
def undoBoundsCard : Claim7 := { stood := { row := undoBoundsRow, standIns := [], harness := (true, "5440d3bddabfe2f934c1f9aa27fb1f762b3a0601c6a8243a0a5a649483113805"), looks := false }, kinds := [], alts := [], laidByText := true, laidKinds := [.data, .pinned], laidTests := true, laidLooks := .later }
def UndoBoundsCardSaid : Prop := Claim7.holds Tryd.pinned (.plain (OpenSpec.ofChange undoBoundsSpec)) undoBoundsCard

/-- THE TIED CARD OF 'dactyllaw28.ViFits'. -/
def viFitsCard : Claim7 := { stood := { row := viFitsRow, standIns := [], harness := (true, "5440d3bddabfe2f934c1f9aa27fb1f762b3a0601c6a8243a0a5a649483113805"), looks := false }, kinds := [], alts := [], laidByText := true, laidKinds := [.data, .data, .data, .pinned], laidTests := true, laidLooks := .later }
def ViFitsCardSaid : Prop := Claim7.holds Tryd.pinned (.plain (OpenSpec.ofChange viFitsSpec)) viFitsCard

/-- THE TIED CARD OF 'dactyllaw38.AuditPlace'. -/
def auditPlaceCard : Claim7 := { stood := { row := auditPlaceRow, standIns := [], harness := (true, "5440d3bddabfe2f934c1f9aa27fb1f762b3a0601c6a8243a0a5a649483113805"), looks := false }, kinds := [], alts := [], laidByText := true, laidKinds := [.data, .data, .data, .pinned], laidTests := true, laidLooks := .later }
def AuditPlaceCardSaid : Prop := Claim7.holds Tryd.pinned (.plain (OpenSpec.ofChange auditPlaceSpec)) auditPlaceCard

/-- THE TIED CARD OF 'dactyllaw40.BindParses'. -/
def bindParsesCard : Claim7 := { stood := { row := bindParsesRow, standIns := [], harness := (true, "5440d3bddabfe2f934c1f9aa27fb1f762b3a0601c6a8243a0a5a649483113805"), looks := false }, kinds := [], alts := [], laidByText := true, laidKinds := [.data, .data, .data, .pinned], laidTests := true, laidLooks := .later }
def BindParsesCardSaid : Prop := Claim7.holds Tryd.pinned (.plain (OpenSpec.ofChange bindParsesSpec)) bindParsesCard

/-- THE SECOND FORM's CARD OF 'dactyllaw34.TapeTexts'. -/
def tapeTextsUptoCard : Claim7 := { stood := { row := tapeTextsUptoRow, standIns := [], harness := (true, "5440d3bddabfe2f934c1f9aa27fb1f762b3a0601c6a8243a0a5a649483113805"), looks := false }, kinds := [], alts := [], laidByText := true, laidKinds := [.data, .pinned], laidTests := true, laidLooks := .later }
def TapeTextsUptoCardSaid : Prop := Claim7.holds Tryd.pinned (.plain (OpenSpec.upto tapeTextsSpec)) tapeTextsUptoCard

/-- THE SECOND FORM's CARD OF 'dactyllaw19.UndoDoes'. -/
def undoDoesUptoCard : Claim7 := { stood := { row := undoDoesUptoRow, standIns := [], harness := (true, "5440d3bddabfe2f934c1f9aa27fb1f762b3a0601c6a8243a0a5a649483113805"), looks := false }, kinds := [], alts := [], laidByText := true, laidKinds := [.data, .pinned], laidTests := true, laidLooks := .later }
def UndoDoesUptoCardSaid : Prop := Claim7.holds Tryd.pinned (.plain (OpenSpec.upto undoDoesSpec)) undoDoesUptoCard

/-- THE SECOND FORM's CARD OF 'dactyllaw19.UndoBounds'. -/
def undoBoundsUptoCard : Claim7 := { stood := { row := undoBoundsUptoRow, standIns := [], harness := (true, "5440d3bddabfe2f934c1f9aa27fb1f762b3a0601c6a8243a0a5a649483113805"), looks := false }, kinds := [], alts := [], laidByText := true, laidKinds := [.data, .pinned], laidTests := true, laidLooks := .later }
def UndoBoundsUptoCardSaid : Prop := Claim7.holds Tryd.pinned (.plain (OpenSpec.upto undoBoundsSpec)) undoBoundsUptoCard

/-- THE SECOND FORM's CARD OF 'dactyllaw28.ViFits'. -/
def viFitsUptoCard : Claim7 := { stood := { row := viFitsUptoRow, standIns := [], harness := (true, "5440d3bddabfe2f934c1f9aa27fb1f762b3a0601c6a8243a0a5a649483113805"), looks := false }, kinds := [], alts := [], laidByText := true, laidKinds := [.data, .data, .data, .pinned], laidTests := true, laidLooks := .later }
def ViFitsUptoCardSaid : Prop := Claim7.holds Tryd.pinned (.plain (OpenSpec.upto viFitsSpec)) viFitsUptoCard

/-- THE SECOND FORM's CARD OF 'dactyllaw38.AuditPlace'. -/
def auditPlaceUptoCard : Claim7 := { stood := { row := auditPlaceUptoRow, standIns := [], harness := (true, "5440d3bddabfe2f934c1f9aa27fb1f762b3a0601c6a8243a0a5a649483113805"), looks := false }, kinds := [], alts := [], laidByText := true, laidKinds := [.data, .data, .data, .pinned], laidTests := true, laidLooks := .later }
def AuditPlaceUptoCardSaid : Prop := Claim7.holds Tryd.pinned (.plain (OpenSpec.upto auditPlaceSpec)) auditPlaceUptoCard

/-- THE SECOND FORM's CARD OF 'dactyllaw40.BindParses'. -/
def bindParsesUptoCard : Claim7 := { stood := { row := bindParsesUptoRow, standIns := [], harness := (true, "5440d3bddabfe2f934c1f9aa27fb1f762b3a0601c6a8243a0a5a649483113805"), looks := false }, kinds := [], alts := [], laidByText := true, laidKinds := [.data, .data, .data, .pinned], laidTests := true, laidLooks := .later }
def BindParsesUptoCardSaid : Prop := Claim7.holds Tryd.pinned (.plain (OpenSpec.upto bindParsesSpec)) bindParsesUptoCard
end Rows
end Go.Proofs.YtnpiooaiceegmaaDoor
