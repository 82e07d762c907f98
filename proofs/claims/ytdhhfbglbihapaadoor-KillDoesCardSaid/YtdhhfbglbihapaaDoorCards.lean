/-
  DERIVED. GIVEN WITH THE SEED: THE CARDS: each row of YtdhhfbglbihapaaDoorRows.lean that lists a variable, with what it lists TIED to the program's text (the seventh form; the later family's looks); each row that meets fmt, with fmt's text TOLD by the authors' own Lean function (tested against real Go, not proved from fmt's source: count such statements apart). THE CARD IS WHAT COUNTS. Prove the row's statement (the work); the ties are given (YtdhhfbglbihapaaDoorTie.lean); close each card by the builder's one call (the guide's Derived/Test/ToyasCard.lean, 'card_holds'). Laid BY PROGRAM, IN A SANDBOX (cutbox-door.mjs). By AI agents, Wed Nov 11 2026. No macro, syntax, notation, axiom, sorry.
-/
import Derived.Test.YtdhhfbglbihapaaDoorRows
import GoSem.ClaimSeven
namespace Go.Proofs.YtdhhfbglbihapaaDoor
namespace Rows

/-- THE TIED CARD OF 'dactyllaw18.KillDoes'. -/
def killDoesCard : Claim7 := { stood := { row := killDoesRow, standIns := [], harness := (true, "d5276da08c211baff8ad38c70a4c5804a896ec3644dc4c8f0055034349c5d98d"), looks := false }, kinds := [], alts := [], laidByText := true, laidKinds := [.data, .pinned], laidTests := true, laidLooks := .later }
def KillDoesCardSaid : Prop := Claim7.holds Tryd.pinned (.plain (OpenSpec.ofChange killDoesSpec)) killDoesCard

/-- THE TIED CARD OF 'dactyllaw18.KillBounds'. -/
def killBoundsCard : Claim7 := { stood := { row := killBoundsRow, standIns := [], harness := (true, "d5276da08c211baff8ad38c70a4c5804a896ec3644dc4c8f0055034349c5d98d"), looks := false }, kinds := [], alts := [], laidByText := true, laidKinds := [.data, .pinned], laidTests := true, laidLooks := .later }
def KillBoundsCardSaid : Prop := Claim7.holds Tryd.pinned (.plain (OpenSpec.ofChange killBoundsSpec)) killBoundsCard

/-- THE TIED CARD OF 'dactyllaw22.EscTexts'. -/
def escTextsCard : Claim7 := { stood := { row := escTextsRow, standIns := [], harness := (true, "d5276da08c211baff8ad38c70a4c5804a896ec3644dc4c8f0055034349c5d98d"), looks := false }, kinds := [], alts := [], laidByText := true, laidKinds := [.data, .pinned], laidTests := true, laidLooks := .later }
def EscTextsCardSaid : Prop := Claim7.holds Tryd.pinned (.plain (OpenSpec.ofChange escTextsSpec)) escTextsCard

/-- THE TIED CARD OF 'dactyllaw22.EscPlain'. -/
def escPlainCard : Claim7 := { stood := { row := escPlainRow, standIns := [], harness := (true, "d5276da08c211baff8ad38c70a4c5804a896ec3644dc4c8f0055034349c5d98d"), looks := false }, kinds := [], alts := [], laidByText := true, laidKinds := [.data, .pinned], laidTests := true, laidLooks := .later }
def EscPlainCardSaid : Prop := Claim7.holds Tryd.pinned (.plain (OpenSpec.ofChange escPlainSpec)) escPlainCard

/-- THE TIED CARD OF 'dactyllaw23.HistBounds'. -/
def histBoundsCard : Claim7 := { stood := { row := histBoundsRow, standIns := [], harness := (true, "d5276da08c211baff8ad38c70a4c5804a896ec3644dc4c8f0055034349c5d98d"), looks := false }, kinds := [], alts := [], laidByText := true, laidKinds := [.data, .pinned], laidTests := true, laidLooks := .later }
def HistBoundsCardSaid : Prop := Claim7.holds Tryd.pinned (.plain (OpenSpec.ofChange histBoundsSpec)) histBoundsCard

/-- THE TIED CARD OF 'dactyllaw27.EmacsNames'. -/
def emacsNamesCard : Claim7 := { stood := { row := emacsNamesRow, standIns := [], harness := (true, "d5276da08c211baff8ad38c70a4c5804a896ec3644dc4c8f0055034349c5d98d"), looks := false }, kinds := [], alts := [], laidByText := true, laidKinds := [.data, .data], laidTests := true, laidLooks := .later }
def EmacsNamesCardSaid : Prop := Claim7.holds Tryd.pinned (.plain (OpenSpec.ofChange emacsNamesSpec)) emacsNamesCard

/-- THE TIED CARD OF 'dactyllaw42.MacroDoes'. -/
def macroDoesCard : Claim7 := { stood := { row := macroDoesRow, standIns := [], harness := (true, "d5276da08c211baff8ad38c70a4c5804a896ec3644dc4c8f0055034349c5d98d"), looks := false }, kinds := [], alts := [], laidByText := true, laidKinds := [.data], laidTests := true, laidLooks := .later }
def MacroDoesCardSaid : Prop := Claim7.holds Tryd.pinned (.plain (OpenSpec.ofChange macroDoesSpec)) macroDoesCard

/-- THE TIED CARD OF 'dactyllaw43.TaintOnly'. -/
def taintOnlyCard : Claim7 := { stood := { row := taintOnlyRow, standIns := [], harness := (true, "d5276da08c211baff8ad38c70a4c5804a896ec3644dc4c8f0055034349c5d98d"), looks := false }, kinds := [], alts := [], laidByText := true, laidKinds := [.data, .data, .data], laidTests := true, laidLooks := .later }
def TaintOnlyCardSaid : Prop := Claim7.holds Tryd.pinned (.plain (OpenSpec.ofChange taintOnlySpec)) taintOnlyCard

/-- THE SECOND FORM's CARD OF 'dactyllaw18.KillDoes'. -/
def killDoesUptoCard : Claim7 := { stood := { row := killDoesUptoRow, standIns := [], harness := (true, "d5276da08c211baff8ad38c70a4c5804a896ec3644dc4c8f0055034349c5d98d"), looks := false }, kinds := [], alts := [], laidByText := true, laidKinds := [.data, .pinned], laidTests := true, laidLooks := .later }
def KillDoesUptoCardSaid : Prop := Claim7.holds Tryd.pinned (.plain (OpenSpec.upto killDoesSpec)) killDoesUptoCard

/-- THE SECOND FORM's CARD OF 'dactyllaw18.KillBounds'. -/
def killBoundsUptoCard : Claim7 := { stood := { row := killBoundsUptoRow, standIns := [], harness := (true, "d5276da08c211baff8ad38c70a4c5804a896ec3644dc4c8f0055034349c5d98d"), looks := false }, kinds := [], alts := [], laidByText := true, laidKinds := [.data, .pinned], laidTests := true, laidLooks := .later }
def KillBoundsUptoCardSaid : Prop := Claim7.holds Tryd.pinned (.plain (OpenSpec.upto killBoundsSpec)) killBoundsUptoCard

/-- THE SECOND FORM's CARD OF 'dactyllaw22.EscTexts'. -/
def escTextsUptoCard : Claim7 := { stood := { row := escTextsUptoRow, standIns := [], harness := (true, "d5276da08c211baff8ad38c70a4c5804a896ec3644dc4c8f0055034349c5d98d"), looks := false }, kinds := [], alts := [], laidByText := true, laidKinds := [.data, .pinned], laidTests := true, laidLooks := .later }
def EscTextsUptoCardSaid : Prop := Claim7.holds Tryd.pinned (.plain (OpenSpec.upto escTextsSpec)) escTextsUptoCard

/-- THE SECOND FORM's CARD OF 'dactyllaw22.EscPlain'. -/
def escPlainUptoCard : Claim7 := { stood := { row := escPlainUptoRow, standIns := [], harness := (true, "d5276da08c211baff8ad38c70a4c5804a896ec3644dc4c8f0055034349c5d98d"), looks := false }, kinds := [], alts := [], laidByText := true, laidKinds := [.data, .pinned], laidTests := true, laidLooks := .later }
def EscPlainUptoCardSaid : Prop := Claim7.holds Tryd.pinned (.plain (OpenSpec.upto escPlainSpec)) escPlainUptoCard

/-- THE SECOND FORM's CARD OF 'dactyllaw23.HistBounds'. -/
def histBoundsUptoCard : Claim7 := { stood := { row := histBoundsUptoRow, standIns := [], harness := (true, "d5276da08c211baff8ad38c70a4c5804a896ec3644dc4c8f0055034349c5d98d"), looks := false }, kinds := [], alts := [], laidByText := true, laidKinds := [.data, .pinned], laidTests := true, laidLooks := .later }
def HistBoundsUptoCardSaid : Prop := Claim7.holds Tryd.pinned (.plain (OpenSpec.upto histBoundsSpec)) histBoundsUptoCard

/-- THE SECOND FORM's CARD OF 'dactyllaw27.EmacsNames'. -/
def emacsNamesUptoCard : Claim7 := { stood := { row := emacsNamesUptoRow, standIns := [], harness := (true, "d5276da08c211baff8ad38c70a4c5804a896ec3644dc4c8f0055034349c5d98d"), looks := false }, kinds := [], alts := [], laidByText := true, laidKinds := [.data, .data], laidTests := true, laidLooks := .later }
def EmacsNamesUptoCardSaid : Prop := Claim7.holds Tryd.pinned (.plain (OpenSpec.upto emacsNamesSpec)) emacsNamesUptoCard

/-- THE SECOND FORM's CARD OF 'dactyllaw42.MacroDoes'. -/
def macroDoesUptoCard : Claim7 := { stood := { row := macroDoesUptoRow, standIns := [], harness := (true, "d5276da08c211baff8ad38c70a4c5804a896ec3644dc4c8f0055034349c5d98d"), looks := false }, kinds := [], alts := [], laidByText := true, laidKinds := [.data], laidTests := true, laidLooks := .later }
def MacroDoesUptoCardSaid : Prop := Claim7.holds Tryd.pinned (.plain (OpenSpec.upto macroDoesSpec)) macroDoesUptoCard

/-- THE SECOND FORM's CARD OF 'dactyllaw43.TaintOnly'. -/
def taintOnlyUptoCard : Claim7 := { stood := { row := taintOnlyUptoRow, standIns := [], harness := (true, "d5276da08c211baff8ad38c70a4c5804a896ec3644dc4c8f0055034349c5d98d"), looks := false }, kinds := [], alts := [], laidByText := true, laidKinds := [.data, .data, .data], laidTests := true, laidLooks := .later }
def TaintOnlyUptoCardSaid : Prop := Claim7.holds Tryd.pinned (.plain (OpenSpec.upto taintOnlySpec)) taintOnlyUptoCard
end Rows
end Go.Proofs.YtdhhfbglbihapaaDoor
