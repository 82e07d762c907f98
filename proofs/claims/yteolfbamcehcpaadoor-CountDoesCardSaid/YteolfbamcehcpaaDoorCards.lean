/-
  DERIVED. GIVEN WITH THE SEED: THE CARDS: each row of YteolfbamcehcpaaDoorRows.lean that lists a variable, with what it lists TIED to the program's text (the seventh form; the later family's looks); each row that meets fmt, with fmt's text TOLD by the authors' own Lean function (tested against real Go, not proved from fmt's source: count such statements apart). THE CARD IS WHAT COUNTS. Prove the row's statement (the work); the ties are given (YteolfbamcehcpaaDoorTie.lean); close each card by the builder's one call (the guide's Derived/Test/ToyasCard.lean, 'card_holds'). Laid BY PROGRAM, IN A SANDBOX (cutbox-door.mjs). By AI agents, Wed Nov 11 2026. No macro, syntax, notation, axiom, sorry.
-/
import Derived.Test.YteolfbamcehcpaaDoorRows
import GoSem.ClaimSeven
namespace Go.Proofs.YteolfbamcehcpaaDoor
namespace Rows

/-- THE TIED CARD OF 'dactyllaw13.KeyNames'. -/
def keyNamesCard : Claim7 := { stood := { row := keyNamesRow, standIns := [], harness := (true, "c7b84d7ee76f978578bab480eff9798f9cfb2f200eebc374210657bc45910910"), looks := false }, kinds := [], alts := [], laidByText := true, laidKinds := [.data], laidTests := true, laidLooks := .later }
def KeyNamesCardSaid : Prop := Claim7.holds Tryd.pinned (.plain (OpenSpec.ofChange keyNamesSpec)) keyNamesCard

/-- THE TIED CARD OF 'dactyllaw13.KeyParses'. -/
def keyParsesCard : Claim7 := { stood := { row := keyParsesRow, standIns := [], harness := (true, "c7b84d7ee76f978578bab480eff9798f9cfb2f200eebc374210657bc45910910"), looks := false }, kinds := [], alts := [], laidByText := true, laidKinds := [.data], laidTests := true, laidLooks := .later }
def KeyParsesCardSaid : Prop := Claim7.holds Tryd.pinned (.plain (OpenSpec.ofChange keyParsesSpec)) keyParsesCard

/-- THE TIED CARD OF 'dactyllaw29.CountDoes'. -/
def countDoesCard : Claim7 := { stood := { row := countDoesRow, standIns := [], harness := (true, "c7b84d7ee76f978578bab480eff9798f9cfb2f200eebc374210657bc45910910"), looks := false }, kinds := [], alts := [], laidByText := true, laidKinds := [.data], laidTests := true, laidLooks := .later }
def CountDoesCardSaid : Prop := Claim7.holds Tryd.pinned (.plain (OpenSpec.ofChange countDoesSpec)) countDoesCard

/-- THE TIED CARD OF 'dactyllaw29.CountTells'. -/
def countTellsCard : Claim7 := { stood := { row := countTellsRow, standIns := [], harness := (true, "c7b84d7ee76f978578bab480eff9798f9cfb2f200eebc374210657bc45910910"), looks := false }, kinds := [], alts := [], laidByText := true, laidKinds := [.data], laidTests := true, laidLooks := .later }
def CountTellsCardSaid : Prop := Claim7.holds Tryd.pinned (.plain (OpenSpec.ofChange countTellsSpec)) countTellsCard

/-- THE TIED CARD OF 'dactyllaw18.KillDoes'. -/
def killDoesCard : Claim7 := { stood := { row := killDoesRow, standIns := [], harness := (true, "c7b84d7ee76f978578bab480eff9798f9cfb2f200eebc374210657bc45910910"), looks := false }, kinds := [], alts := [], laidByText := true, laidKinds := [.data, .pinned], laidTests := true, laidLooks := .later }
def KillDoesCardSaid : Prop := Claim7.holds Tryd.pinned (.plain (OpenSpec.ofChange killDoesSpec)) killDoesCard

/-- THE TIED CARD OF 'dactyllaw18.KillBounds'. -/
def killBoundsCard : Claim7 := { stood := { row := killBoundsRow, standIns := [], harness := (true, "c7b84d7ee76f978578bab480eff9798f9cfb2f200eebc374210657bc45910910"), looks := false }, kinds := [], alts := [], laidByText := true, laidKinds := [.data, .pinned], laidTests := true, laidLooks := .later }
def KillBoundsCardSaid : Prop := Claim7.holds Tryd.pinned (.plain (OpenSpec.ofChange killBoundsSpec)) killBoundsCard

/-- THE TIED CARD OF 'dactyllaw43.TaintOnly'. -/
def taintOnlyCard : Claim7 := { stood := { row := taintOnlyRow, standIns := [], harness := (true, "c7b84d7ee76f978578bab480eff9798f9cfb2f200eebc374210657bc45910910"), looks := false }, kinds := [], alts := [], laidByText := true, laidKinds := [.data, .data, .data], laidTests := true, laidLooks := .later }
def TaintOnlyCardSaid : Prop := Claim7.holds Tryd.pinned (.plain (OpenSpec.ofChange taintOnlySpec)) taintOnlyCard

/-- THE SECOND FORM's CARD OF 'dactyllaw13.KeyNames'. -/
def keyNamesUptoCard : Claim7 := { stood := { row := keyNamesUptoRow, standIns := [], harness := (true, "c7b84d7ee76f978578bab480eff9798f9cfb2f200eebc374210657bc45910910"), looks := false }, kinds := [], alts := [], laidByText := true, laidKinds := [.data], laidTests := true, laidLooks := .later }
def KeyNamesUptoCardSaid : Prop := Claim7.holds Tryd.pinned (.plain (OpenSpec.upto keyNamesSpec)) keyNamesUptoCard

/-- THE SECOND FORM's CARD OF 'dactyllaw13.KeyParses'. -/
def keyParsesUptoCard : Claim7 := { stood := { row := keyParsesUptoRow, standIns := [], harness := (true, "c7b84d7ee76f978578bab480eff9798f9cfb2f200eebc374210657bc45910910"), looks := false }, kinds := [], alts := [], laidByText := true, laidKinds := [.data], laidTests := true, laidLooks := .later }
def KeyParsesUptoCardSaid : Prop := Claim7.holds Tryd.pinned (.plain (OpenSpec.upto keyParsesSpec)) keyParsesUptoCard

/-- THE SECOND FORM's CARD OF 'dactyllaw29.CountDoes'. -/
def countDoesUptoCard : Claim7 := { stood := { row := countDoesUptoRow, standIns := [], harness := (true, "c7b84d7ee76f978578bab480eff9798f9cfb2f200eebc374210657bc45910910"), looks := false }, kinds := [], alts := [], laidByText := true, laidKinds := [.data], laidTests := true, laidLooks := .later }
def CountDoesUptoCardSaid : Prop := Claim7.holds Tryd.pinned (.plain (OpenSpec.upto countDoesSpec)) countDoesUptoCard

/-- THE SECOND FORM's CARD OF 'dactyllaw29.CountTells'. -/
def countTellsUptoCard : Claim7 := { stood := { row := countTellsUptoRow, standIns := [], harness := (true, "c7b84d7ee76f978578bab480eff9798f9cfb2f200eebc374210657bc45910910"), looks := false }, kinds := [], alts := [], laidByText := true, laidKinds := [.data], laidTests := true, laidLooks := .later }
def CountTellsUptoCardSaid : Prop := Claim7.holds Tryd.pinned (.plain (OpenSpec.upto countTellsSpec)) countTellsUptoCard

/-- THE SECOND FORM's CARD OF 'dactyllaw18.KillDoes'. -/
def killDoesUptoCard : Claim7 := { stood := { row := killDoesUptoRow, standIns := [], harness := (true, "c7b84d7ee76f978578bab480eff9798f9cfb2f200eebc374210657bc45910910"), looks := false }, kinds := [], alts := [], laidByText := true, laidKinds := [.data, .pinned], laidTests := true, laidLooks := .later }
def KillDoesUptoCardSaid : Prop := Claim7.holds Tryd.pinned (.plain (OpenSpec.upto killDoesSpec)) killDoesUptoCard

/-- THE SECOND FORM's CARD OF 'dactyllaw18.KillBounds'. -/
def killBoundsUptoCard : Claim7 := { stood := { row := killBoundsUptoRow, standIns := [], harness := (true, "c7b84d7ee76f978578bab480eff9798f9cfb2f200eebc374210657bc45910910"), looks := false }, kinds := [], alts := [], laidByText := true, laidKinds := [.data, .pinned], laidTests := true, laidLooks := .later }
def KillBoundsUptoCardSaid : Prop := Claim7.holds Tryd.pinned (.plain (OpenSpec.upto killBoundsSpec)) killBoundsUptoCard

/-- THE SECOND FORM's CARD OF 'dactyllaw43.TaintOnly'. -/
def taintOnlyUptoCard : Claim7 := { stood := { row := taintOnlyUptoRow, standIns := [], harness := (true, "c7b84d7ee76f978578bab480eff9798f9cfb2f200eebc374210657bc45910910"), looks := false }, kinds := [], alts := [], laidByText := true, laidKinds := [.data, .data, .data], laidTests := true, laidLooks := .later }
def TaintOnlyUptoCardSaid : Prop := Claim7.holds Tryd.pinned (.plain (OpenSpec.upto taintOnlySpec)) taintOnlyUptoCard
end Rows
end Go.Proofs.YteolfbamcehcpaaDoor
