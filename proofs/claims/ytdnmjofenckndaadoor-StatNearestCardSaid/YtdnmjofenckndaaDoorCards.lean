/-
  DERIVED. GIVEN WITH THE SEED: THE CARDS: each row of YtdnmjofenckndaaDoorRows.lean that lists a variable, with what it lists TIED to the program's text (the seventh form; the later family's looks); each row that meets fmt, with fmt's text TOLD by the authors' own Lean function (tested against real Go, not proved from fmt's source: count such statements apart). THE CARD IS WHAT COUNTS. Prove the row's statement (the work); the ties are given (YtdnmjofenckndaaDoorTie.lean); close each card by the builder's one call (the guide's Derived/Test/ToyasCard.lean, 'card_holds'). Laid BY PROGRAM, IN A SANDBOX (cutbox-door.mjs). By AI agents, Wed Nov 11 2026. No macro, syntax, notation, axiom, sorry.
-/
import Derived.Test.YtdnmjofenckndaaDoorRows
import GoSem.ClaimSeven
namespace Go.Proofs.YtdnmjofenckndaaDoor
namespace Rows

/-- THE TIED CARD OF 'dactyllaw17.LineSwaps'. -/
def lineSwapsCard : Claim7 := { stood := { row := lineSwapsRow, standIns := [], harness := (true, "25a83b439483cc4473e850520fd27dc91946cc5ee5e23cb5b5bfd95b431fccb4"), looks := false }, kinds := [], alts := [], laidByText := true, laidKinds := [.data, .data, .data, .pinned], laidTests := true, laidLooks := .later }
def LineSwapsCardSaid : Prop := Claim7.holds Tryd.pinned (.plain (OpenSpec.ofChange lineSwapsSpec)) lineSwapsCard

/-- THE TIED CARD OF 'dactyllaw17.LineBack'. -/
def lineBackCard : Claim7 := { stood := { row := lineBackRow, standIns := [], harness := (true, "25a83b439483cc4473e850520fd27dc91946cc5ee5e23cb5b5bfd95b431fccb4"), looks := false }, kinds := [], alts := [], laidByText := true, laidKinds := [.data, .data, .data, .pinned], laidTests := true, laidLooks := .later }
def LineBackCardSaid : Prop := Claim7.holds Tryd.pinned (.plain (OpenSpec.ofChange lineBackSpec)) lineBackCard

/-- THE TIED CARD OF 'dactyllaw18.KillBounds'. -/
def killBoundsCard : Claim7 := { stood := { row := killBoundsRow, standIns := [], harness := (true, "25a83b439483cc4473e850520fd27dc91946cc5ee5e23cb5b5bfd95b431fccb4"), looks := false }, kinds := [], alts := [], laidByText := true, laidKinds := [.data, .pinned], laidTests := true, laidLooks := .later }
def KillBoundsCardSaid : Prop := Claim7.holds Tryd.pinned (.plain (OpenSpec.ofChange killBoundsSpec)) killBoundsCard

/-- THE TIED CARD OF 'dactyllaw23.HistBounds'. -/
def histBoundsCard : Claim7 := { stood := { row := histBoundsRow, standIns := [], harness := (true, "25a83b439483cc4473e850520fd27dc91946cc5ee5e23cb5b5bfd95b431fccb4"), looks := false }, kinds := [], alts := [], laidByText := true, laidKinds := [.data, .pinned], laidTests := true, laidLooks := .later }
def HistBoundsCardSaid : Prop := Claim7.holds Tryd.pinned (.plain (OpenSpec.ofChange histBoundsSpec)) histBoundsCard

/-- THE TIED CARD OF 'dactyllaw26.OfferOnly'. -/
def offerOnlyCard : Claim7 := { stood := { row := offerOnlyRow, standIns := [], harness := (true, "25a83b439483cc4473e850520fd27dc91946cc5ee5e23cb5b5bfd95b431fccb4"), looks := false }, kinds := [], alts := [], laidByText := true, laidKinds := [.data, .data, .data, .pinned], laidTests := true, laidLooks := .later }
def OfferOnlyCardSaid : Prop := Claim7.holds Tryd.pinned (.plain (OpenSpec.ofChange offerOnlySpec)) offerOnlyCard

/-- THE TIED CARD OF 'dactyllaw27.EmacsNames'. -/
def emacsNamesCard : Claim7 := { stood := { row := emacsNamesRow, standIns := [], harness := (true, "25a83b439483cc4473e850520fd27dc91946cc5ee5e23cb5b5bfd95b431fccb4"), looks := false }, kinds := [], alts := [], laidByText := true, laidKinds := [.data, .data], laidTests := true, laidLooks := .later }
def EmacsNamesCardSaid : Prop := Claim7.holds Tryd.pinned (.plain (OpenSpec.ofChange emacsNamesSpec)) emacsNamesCard

/-- THE TIED CARD OF 'dactyllaw33.EventTexts'. -/
def eventTextsCard : Claim7 := { stood := { row := eventTextsRow, standIns := [], harness := (true, "25a83b439483cc4473e850520fd27dc91946cc5ee5e23cb5b5bfd95b431fccb4"), looks := false }, kinds := [], alts := [], laidByText := true, laidKinds := [.data, .data, .pinned], laidTests := true, laidLooks := .later }
def EventTextsCardSaid : Prop := Claim7.holds Tryd.pinned (.plain (OpenSpec.ofChange eventTextsSpec)) eventTextsCard

/-- THE TIED CARD OF 'dactyllaw34.TapeWords'. -/
def tapeWordsCard : Claim7 := { stood := { row := tapeWordsRow, standIns := [], harness := (true, "25a83b439483cc4473e850520fd27dc91946cc5ee5e23cb5b5bfd95b431fccb4"), looks := false }, kinds := [], alts := [], laidByText := true, laidKinds := [.data, .pinned], laidTests := true, laidLooks := .later }
def TapeWordsCardSaid : Prop := Claim7.holds Tryd.pinned (.plain (OpenSpec.ofChange tapeWordsSpec)) tapeWordsCard

/-- THE TIED CARD OF 'dactyllaw41.StatDistances'. -/
def statDistancesCard : Claim7 := { stood := { row := statDistancesRow, standIns := [], harness := (true, "25a83b439483cc4473e850520fd27dc91946cc5ee5e23cb5b5bfd95b431fccb4"), looks := false }, kinds := [], alts := [], laidByText := true, laidKinds := [.data, .pinned], laidTests := true, laidLooks := .later }
def StatDistancesCardSaid : Prop := Claim7.holds Tryd.pinned (.plain (OpenSpec.ofChange statDistancesSpec)) statDistancesCard

/-- THE TIED CARD OF 'dactyllaw41.StatNearest'. -/
def statNearestCard : Claim7 := { stood := { row := statNearestRow, standIns := [], harness := (true, "25a83b439483cc4473e850520fd27dc91946cc5ee5e23cb5b5bfd95b431fccb4"), looks := false }, kinds := [], alts := [], laidByText := true, laidKinds := [.data, .pinned], laidTests := true, laidLooks := .later }
def StatNearestCardSaid : Prop := Claim7.holds Tryd.pinned (.plain (OpenSpec.ofChange statNearestSpec)) statNearestCard

/-- THE TIED CARD OF 'dactyllaw43.TaintOnly'. -/
def taintOnlyCard : Claim7 := { stood := { row := taintOnlyRow, standIns := [], harness := (true, "25a83b439483cc4473e850520fd27dc91946cc5ee5e23cb5b5bfd95b431fccb4"), looks := false }, kinds := [], alts := [], laidByText := true, laidKinds := [.data, .data, .data], laidTests := true, laidLooks := .later }
def TaintOnlyCardSaid : Prop := Claim7.holds Tryd.pinned (.plain (OpenSpec.ofChange taintOnlySpec)) taintOnlyCard

/-- THE SECOND FORM's CARD OF 'dactyllaw17.LineSwaps'. -/
def lineSwapsUptoCard : Claim7 := { stood := { row := lineSwapsUptoRow, standIns := [], harness := (true, "25a83b439483cc4473e850520fd27dc91946cc5ee5e23cb5b5bfd95b431fccb4"), looks := false }, kinds := [], alts := [], laidByText := true, laidKinds := [.data, .data, .data, .pinned], laidTests := true, laidLooks := .later }
def LineSwapsUptoCardSaid : Prop := Claim7.holds Tryd.pinned (.plain (OpenSpec.upto lineSwapsSpec)) lineSwapsUptoCard

/-- THE SECOND FORM's CARD OF 'dactyllaw17.LineBack'. -/
def lineBackUptoCard : Claim7 := { stood := { row := lineBackUptoRow, standIns := [], harness := (true, "25a83b439483cc4473e850520fd27dc91946cc5ee5e23cb5b5bfd95b431fccb4"), looks := false }, kinds := [], alts := [], laidByText := true, laidKinds := [.data, .data, .data, .pinned], laidTests := true, laidLooks := .later }
def LineBackUptoCardSaid : Prop := Claim7.holds Tryd.pinned (.plain (OpenSpec.upto lineBackSpec)) lineBackUptoCard

/-- THE SECOND FORM's CARD OF 'dactyllaw18.KillBounds'. -/
def killBoundsUptoCard : Claim7 := { stood := { row := killBoundsUptoRow, standIns := [], harness := (true, "25a83b439483cc4473e850520fd27dc91946cc5ee5e23cb5b5bfd95b431fccb4"), looks := false }, kinds := [], alts := [], laidByText := true, laidKinds := [.data, .pinned], laidTests := true, laidLooks := .later }
def KillBoundsUptoCardSaid : Prop := Claim7.holds Tryd.pinned (.plain (OpenSpec.upto killBoundsSpec)) killBoundsUptoCard

/-- THE SECOND FORM's CARD OF 'dactyllaw23.HistBounds'. -/
def histBoundsUptoCard : Claim7 := { stood := { row := histBoundsUptoRow, standIns := [], harness := (true, "25a83b439483cc4473e850520fd27dc91946cc5ee5e23cb5b5bfd95b431fccb4"), looks := false }, kinds := [], alts := [], laidByText := true, laidKinds := [.data, .pinned], laidTests := true, laidLooks := .later }
def HistBoundsUptoCardSaid : Prop := Claim7.holds Tryd.pinned (.plain (OpenSpec.upto histBoundsSpec)) histBoundsUptoCard

/-- THE SECOND FORM's CARD OF 'dactyllaw26.OfferOnly'. -/
def offerOnlyUptoCard : Claim7 := { stood := { row := offerOnlyUptoRow, standIns := [], harness := (true, "25a83b439483cc4473e850520fd27dc91946cc5ee5e23cb5b5bfd95b431fccb4"), looks := false }, kinds := [], alts := [], laidByText := true, laidKinds := [.data, .data, .data, .pinned], laidTests := true, laidLooks := .later }
def OfferOnlyUptoCardSaid : Prop := Claim7.holds Tryd.pinned (.plain (OpenSpec.upto offerOnlySpec)) offerOnlyUptoCard

/-- THE SECOND FORM's CARD OF 'dactyllaw27.EmacsNames'. -/
def emacsNamesUptoCard : Claim7 := { stood := { row := emacsNamesUptoRow, standIns := [], harness := (true, "25a83b439483cc4473e850520fd27dc91946cc5ee5e23cb5b5bfd95b431fccb4"), looks := false }, kinds := [], alts := [], laidByText := true, laidKinds := [.data, .data], laidTests := true, laidLooks := .later }
def EmacsNamesUptoCardSaid : Prop := Claim7.holds Tryd.pinned (.plain (OpenSpec.upto emacsNamesSpec)) emacsNamesUptoCard

/-- THE SECOND FORM's CARD OF 'dactyllaw33.EventTexts'. -/
def eventTextsUptoCard : Claim7 := { stood := { row := eventTextsUptoRow, standIns := [], harness := (true, "25a83b439483cc4473e850520fd27dc91946cc5ee5e23cb5b5bfd95b431fccb4"), looks := false }, kinds := [], alts := [], laidByText := true, laidKinds := [.data, .data, .pinned], laidTests := true, laidLooks := .later }
def EventTextsUptoCardSaid : Prop := Claim7.holds Tryd.pinned (.plain (OpenSpec.upto eventTextsSpec)) eventTextsUptoCard

/-- THE SECOND FORM's CARD OF 'dactyllaw34.TapeWords'. -/
def tapeWordsUptoCard : Claim7 := { stood := { row := tapeWordsUptoRow, standIns := [], harness := (true, "25a83b439483cc4473e850520fd27dc91946cc5ee5e23cb5b5bfd95b431fccb4"), looks := false }, kinds := [], alts := [], laidByText := true, laidKinds := [.data, .pinned], laidTests := true, laidLooks := .later }
def TapeWordsUptoCardSaid : Prop := Claim7.holds Tryd.pinned (.plain (OpenSpec.upto tapeWordsSpec)) tapeWordsUptoCard

/-- THE SECOND FORM's CARD OF 'dactyllaw41.StatDistances'. -/
def statDistancesUptoCard : Claim7 := { stood := { row := statDistancesUptoRow, standIns := [], harness := (true, "25a83b439483cc4473e850520fd27dc91946cc5ee5e23cb5b5bfd95b431fccb4"), looks := false }, kinds := [], alts := [], laidByText := true, laidKinds := [.data, .pinned], laidTests := true, laidLooks := .later }
def StatDistancesUptoCardSaid : Prop := Claim7.holds Tryd.pinned (.plain (OpenSpec.upto statDistancesSpec)) statDistancesUptoCard

/-- THE SECOND FORM's CARD OF 'dactyllaw41.StatNearest'. -/
def statNearestUptoCard : Claim7 := { stood := { row := statNearestUptoRow, standIns := [], harness := (true, "25a83b439483cc4473e850520fd27dc91946cc5ee5e23cb5b5bfd95b431fccb4"), looks := false }, kinds := [], alts := [], laidByText := true, laidKinds := [.data, .pinned], laidTests := true, laidLooks := .later }
def StatNearestUptoCardSaid : Prop := Claim7.holds Tryd.pinned (.plain (OpenSpec.upto statNearestSpec)) statNearestUptoCard

/-- THE SECOND FORM's CARD OF 'dactyllaw43.TaintOnly'. -/
def taintOnlyUptoCard : Claim7 := { stood := { row := taintOnlyUptoRow, standIns := [], harness := (true, "25a83b439483cc4473e850520fd27dc91946cc5ee5e23cb5b5bfd95b431fccb4"), looks := false }, kinds := [], alts := [], laidByText := true, laidKinds := [.data, .data, .data], laidTests := true, laidLooks := .later }
def TaintOnlyUptoCardSaid : Prop := Claim7.holds Tryd.pinned (.plain (OpenSpec.upto taintOnlySpec)) taintOnlyUptoCard
end Rows
end Go.Proofs.YtdnmjofenckndaaDoor
