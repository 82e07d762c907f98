/-
  DERIVED. GIVEN WITH THE SEED: THE CARDS: each row of YtgnhnalaakgamaaDoorRows.lean that lists a variable, with what it lists TIED to the program's text (the seventh form; the later family's looks); each row that meets fmt, with fmt's text TOLD by the authors' own Lean function (tested against real Go, not proved from fmt's source: count such statements apart). THE CARD IS WHAT COUNTS. Prove the row's statement (the work); the ties are given (YtgnhnalaakgamaaDoorTie.lean); close each card by the builder's one call (the guide's Derived/Test/ToyasCard.lean, 'card_holds'). Laid BY PROGRAM, IN A SANDBOX (cutbox-door.mjs). By AI agents, Wed Nov 11 2026. No macro, syntax, notation, axiom, sorry.
-/
import Derived.Test.YtgnhnalaakgamaaDoorRows
import GoSem.ClaimSeven
namespace Go.Proofs.YtgnhnalaakgamaaDoor
namespace Rows

/-- THE TIED CARD OF 'dactyllaw40.BindParses'. -/
def bindParsesCard : Claim7 := { stood := { row := bindParsesRow, standIns := [], harness := (true, "71c968c1b5d6bf502ef8a737195df054cc0d3e78bf28155e52c5df9963c2800f"), looks := false }, kinds := [], alts := [], laidByText := true, laidKinds := [.data, .data, .data, .pinned], laidTests := true, laidLooks := .later }
def BindParsesCardSaid : Prop := Claim7.holds Tryd.pinned (.plain (OpenSpec.ofChange bindParsesSpec)) bindParsesCard

/-- THE SECOND FORM's CARD OF 'dactyllaw40.BindParses'. -/
def bindParsesUptoCard : Claim7 := { stood := { row := bindParsesUptoRow, standIns := [], harness := (true, "71c968c1b5d6bf502ef8a737195df054cc0d3e78bf28155e52c5df9963c2800f"), looks := false }, kinds := [], alts := [], laidByText := true, laidKinds := [.data, .data, .data, .pinned], laidTests := true, laidLooks := .later }
def BindParsesUptoCardSaid : Prop := Claim7.holds Tryd.pinned (.plain (OpenSpec.upto bindParsesSpec)) bindParsesUptoCard
end Rows
end Go.Proofs.YtgnhnalaakgamaaDoor
