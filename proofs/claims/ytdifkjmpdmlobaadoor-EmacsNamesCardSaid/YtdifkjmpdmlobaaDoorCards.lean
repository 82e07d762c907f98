/-
  DERIVED. GIVEN WITH THE SEED: THE CARDS: each row of YtdifkjmpdmlobaaDoorRows.lean that lists a variable, with what it lists TIED to the program's text (the seventh form; the later family's looks); each row that meets fmt, with fmt's text TOLD by the authors' own Lean function (tested against real Go, not proved from fmt's source: count such statements apart). THE CARD IS WHAT COUNTS. Prove the row's statement (the work); the ties are given (YtdifkjmpdmlobaaDoorTie.lean); close each card by the builder's one call (the guide's Derived/Test/ToyasCard.lean, 'card_holds'). Laid BY PROGRAM, IN A SANDBOX (cutbox-door.mjs). By AI agents, Wed Nov 11 2026. No macro, syntax, notation, axiom, sorry.
-/
import Derived.Test.YtdifkjmpdmlobaaDoorRows
import GoSem.ClaimSeven
namespace Go.Proofs.YtdifkjmpdmlobaaDoor
namespace Rows

/-- THE TIED CARD OF 'dactyllaw23.HistBounds'. -/
def histBoundsCard : Claim7 := { stood := { row := histBoundsRow, standIns := [], harness := (true, "9a35d98b3f41420783670ac3ddafb164992a901a8ca0c24e51eeabf64c75c004"), looks := true }, kinds := [], alts := [], laidByText := true, laidKinds := [.data, .pinned], laidTests := true, laidLooks := .later }
def HistBoundsCardSaid : Prop := Claim7.holds Tryd.pinned (.plain (OpenSpec.ofChange histBoundsSpec)) histBoundsCard

/-- THE TIED CARD OF 'dactyllaw19.UndoDoes'. -/
def undoDoesCard : Claim7 := { stood := { row := undoDoesRow, standIns := [], harness := (true, "9a35d98b3f41420783670ac3ddafb164992a901a8ca0c24e51eeabf64c75c004"), looks := true }, kinds := [], alts := [], laidByText := true, laidKinds := [.data, .pinned], laidTests := true, laidLooks := .later }
def UndoDoesCardSaid : Prop := Claim7.holds Tryd.pinned (.plain (OpenSpec.ofChange undoDoesSpec)) undoDoesCard

/-- THE TIED CARD OF 'dactyllaw19.UndoBounds'. -/
def undoBoundsCard : Claim7 := { stood := { row := undoBoundsRow, standIns := [], harness := (true, "9a35d98b3f41420783670ac3ddafb164992a901a8ca0c24e51eeabf64c75c004"), looks := true }, kinds := [], alts := [], laidByText := true, laidKinds := [.data, .pinned], laidTests := true, laidLooks := .later }
def UndoBoundsCardSaid : Prop := Claim7.holds Tryd.pinned (.plain (OpenSpec.ofChange undoBoundsSpec)) undoBoundsCard

/-- THE TIED CARD OF 'dactyllaw27.EmacsNames'. -/
def emacsNamesCard : Claim7 := { stood := { row := emacsNamesRow, standIns := [], harness := (true, "9a35d98b3f41420783670ac3ddafb164992a901a8ca0c24e51eeabf64c75c004"), looks := true }, kinds := [], alts := [], laidByText := true, laidKinds := [.data, .data], laidTests := true, laidLooks := .later }
def EmacsNamesCardSaid : Prop := Claim7.holds Tryd.pinned (.plain (OpenSpec.ofChange emacsNamesSpec)) emacsNamesCard

/-- THE TIED CARD OF 'dactyllaw39.GuestAsk'. -/
def guestAskCard : Claim7 := { stood := { row := guestAskRow, standIns := [], harness := (true, "9a35d98b3f41420783670ac3ddafb164992a901a8ca0c24e51eeabf64c75c004"), looks := true }, kinds := [], alts := [], laidByText := true, laidKinds := [.data, .pinned], laidTests := true, laidLooks := .later }
def GuestAskCardSaid : Prop := Claim7.holds Tryd.pinned (.plain (OpenSpec.ofChange guestAskSpec)) guestAskCard

/-- THE TIED CARD OF 'dactyllaw39.GuestList'. -/
def guestListCard : Claim7 := { stood := { row := guestListRow, standIns := [], harness := (true, "9a35d98b3f41420783670ac3ddafb164992a901a8ca0c24e51eeabf64c75c004"), looks := true }, kinds := [], alts := [], laidByText := true, laidKinds := [.data, .pinned], laidTests := true, laidLooks := .later }
def GuestListCardSaid : Prop := Claim7.holds Tryd.pinned (.plain (OpenSpec.ofChange guestListSpec)) guestListCard

/-- THE TIED CARD OF 'dactyllaw39.GuestAll'. -/
def guestAllCard : Claim7 := { stood := { row := guestAllRow, standIns := [], harness := (true, "9a35d98b3f41420783670ac3ddafb164992a901a8ca0c24e51eeabf64c75c004"), looks := true }, kinds := [], alts := [], laidByText := true, laidKinds := [.data, .pinned], laidTests := true, laidLooks := .later }
def GuestAllCardSaid : Prop := Claim7.holds Tryd.pinned (.plain (OpenSpec.ofChange guestAllSpec)) guestAllCard

/-- THE SECOND FORM's CARD OF 'dactyllaw23.HistBounds'. -/
def histBoundsUptoCard : Claim7 := { stood := { row := histBoundsUptoRow, standIns := [], harness := (true, "9a35d98b3f41420783670ac3ddafb164992a901a8ca0c24e51eeabf64c75c004"), looks := true }, kinds := [], alts := [], laidByText := true, laidKinds := [.data, .pinned], laidTests := true, laidLooks := .later }
def HistBoundsUptoCardSaid : Prop := Claim7.holds Tryd.pinned (.plain (OpenSpec.upto histBoundsSpec)) histBoundsUptoCard

/-- THE SECOND FORM's CARD OF 'dactyllaw19.UndoDoes'. -/
def undoDoesUptoCard : Claim7 := { stood := { row := undoDoesUptoRow, standIns := [], harness := (true, "9a35d98b3f41420783670ac3ddafb164992a901a8ca0c24e51eeabf64c75c004"), looks := true }, kinds := [], alts := [], laidByText := true, laidKinds := [.data, .pinned], laidTests := true, laidLooks := .later }
def UndoDoesUptoCardSaid : Prop := Claim7.holds Tryd.pinned (.plain (OpenSpec.upto undoDoesSpec)) undoDoesUptoCard

/-- THE SECOND FORM's CARD OF 'dactyllaw19.UndoBounds'. -/
def undoBoundsUptoCard : Claim7 := { stood := { row := undoBoundsUptoRow, standIns := [], harness := (true, "9a35d98b3f41420783670ac3ddafb164992a901a8ca0c24e51eeabf64c75c004"), looks := true }, kinds := [], alts := [], laidByText := true, laidKinds := [.data, .pinned], laidTests := true, laidLooks := .later }
def UndoBoundsUptoCardSaid : Prop := Claim7.holds Tryd.pinned (.plain (OpenSpec.upto undoBoundsSpec)) undoBoundsUptoCard

/-- THE SECOND FORM's CARD OF 'dactyllaw27.EmacsNames'. -/
def emacsNamesUptoCard : Claim7 := { stood := { row := emacsNamesUptoRow, standIns := [], harness := (true, "9a35d98b3f41420783670ac3ddafb164992a901a8ca0c24e51eeabf64c75c004"), looks := true }, kinds := [], alts := [], laidByText := true, laidKinds := [.data, .data], laidTests := true, laidLooks := .later }
def EmacsNamesUptoCardSaid : Prop := Claim7.holds Tryd.pinned (.plain (OpenSpec.upto emacsNamesSpec)) emacsNamesUptoCard

/-- THE SECOND FORM's CARD OF 'dactyllaw39.GuestAsk'. -/
def guestAskUptoCard : Claim7 := { stood := { row := guestAskUptoRow, standIns := [], harness := (true, "9a35d98b3f41420783670ac3ddafb164992a901a8ca0c24e51eeabf64c75c004"), looks := true }, kinds := [], alts := [], laidByText := true, laidKinds := [.data, .pinned], laidTests := true, laidLooks := .later }
def GuestAskUptoCardSaid : Prop := Claim7.holds Tryd.pinned (.plain (OpenSpec.upto guestAskSpec)) guestAskUptoCard

/-- THE SECOND FORM's CARD OF 'dactyllaw39.GuestList'. -/
def guestListUptoCard : Claim7 := { stood := { row := guestListUptoRow, standIns := [], harness := (true, "9a35d98b3f41420783670ac3ddafb164992a901a8ca0c24e51eeabf64c75c004"), looks := true }, kinds := [], alts := [], laidByText := true, laidKinds := [.data, .pinned], laidTests := true, laidLooks := .later }
def GuestListUptoCardSaid : Prop := Claim7.holds Tryd.pinned (.plain (OpenSpec.upto guestListSpec)) guestListUptoCard

/-- THE SECOND FORM's CARD OF 'dactyllaw39.GuestAll'. -/
def guestAllUptoCard : Claim7 := { stood := { row := guestAllUptoRow, standIns := [], harness := (true, "9a35d98b3f41420783670ac3ddafb164992a901a8ca0c24e51eeabf64c75c004"), looks := true }, kinds := [], alts := [], laidByText := true, laidKinds := [.data, .pinned], laidTests := true, laidLooks := .later }
def GuestAllUptoCardSaid : Prop := Claim7.holds Tryd.pinned (.plain (OpenSpec.upto guestAllSpec)) guestAllUptoCard
end Rows
end Go.Proofs.YtdifkjmpdmlobaaDoor
