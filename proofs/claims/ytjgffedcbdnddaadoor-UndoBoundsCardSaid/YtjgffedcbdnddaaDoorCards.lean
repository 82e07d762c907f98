/-
  DERIVED. GIVEN WITH THE SEED: THE CARDS: each row of YtjgffedcbdnddaaDoorRows.lean that lists a variable, with what it lists TIED to the program's text (the seventh form; the later family's looks); each row that meets fmt, with fmt's text TOLD by the authors' own Lean function (tested against real Go, not proved from fmt's source: count such statements apart). THE CARD IS WHAT COUNTS. Prove the row's statement (the work); the ties are given (YtjgffedcbdnddaaDoorTie.lean); close each card by the builder's one call (the guide's Derived/Test/ToyasCard.lean, 'card_holds'). Laid BY PROGRAM, IN A SANDBOX (cutbox-door.mjs). By AI agents, Wed Nov 11 2026. No macro, syntax, notation, axiom, sorry.
-/
import Derived.Test.YtjgffedcbdnddaaDoorRows
import GoSem.ClaimSeven
namespace Go.Proofs.YtjgffedcbdnddaaDoor
namespace Rows

/-- THE TIED CARD OF 'dactyllaw19.UndoDoes'. -/
def undoDoesCard : Claim7 := { stood := { row := undoDoesRow, standIns := [], harness := (true, "ba19fcd49b00ea18bbb62e44bd87a427575974c4e7525039ba6ee32274c5bb31"), looks := false }, kinds := [], alts := [], laidByText := true, laidKinds := [.data, .pinned], laidTests := true, laidLooks := .later }
def UndoDoesCardSaid : Prop := Claim7.holds Tryd.pinned (.plain (OpenSpec.ofChange undoDoesSpec)) undoDoesCard

/-- THE TIED CARD OF 'dactyllaw19.UndoBounds'. -/
def undoBoundsCard : Claim7 := { stood := { row := undoBoundsRow, standIns := [], harness := (true, "ba19fcd49b00ea18bbb62e44bd87a427575974c4e7525039ba6ee32274c5bb31"), looks := false }, kinds := [], alts := [], laidByText := true, laidKinds := [.data, .pinned], laidTests := true, laidLooks := .later }
def UndoBoundsCardSaid : Prop := Claim7.holds Tryd.pinned (.plain (OpenSpec.ofChange undoBoundsSpec)) undoBoundsCard

/-- THE SECOND FORM's CARD OF 'dactyllaw19.UndoDoes'. -/
def undoDoesUptoCard : Claim7 := { stood := { row := undoDoesUptoRow, standIns := [], harness := (true, "ba19fcd49b00ea18bbb62e44bd87a427575974c4e7525039ba6ee32274c5bb31"), looks := false }, kinds := [], alts := [], laidByText := true, laidKinds := [.data, .pinned], laidTests := true, laidLooks := .later }
def UndoDoesUptoCardSaid : Prop := Claim7.holds Tryd.pinned (.plain (OpenSpec.upto undoDoesSpec)) undoDoesUptoCard

/-- THE SECOND FORM's CARD OF 'dactyllaw19.UndoBounds'. -/
def undoBoundsUptoCard : Claim7 := { stood := { row := undoBoundsUptoRow, standIns := [], harness := (true, "ba19fcd49b00ea18bbb62e44bd87a427575974c4e7525039ba6ee32274c5bb31"), looks := false }, kinds := [], alts := [], laidByText := true, laidKinds := [.data, .pinned], laidTests := true, laidLooks := .later }
def UndoBoundsUptoCardSaid : Prop := Claim7.holds Tryd.pinned (.plain (OpenSpec.upto undoBoundsSpec)) undoBoundsUptoCard
end Rows
end Go.Proofs.YtjgffedcbdnddaaDoor
