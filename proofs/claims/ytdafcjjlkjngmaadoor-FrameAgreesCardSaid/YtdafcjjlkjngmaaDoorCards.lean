/-
  DERIVED. GIVEN WITH THE SEED: THE CARDS: each row of YtdafcjjlkjngmaaDoorRows.lean that lists a variable, with what it lists TIED to the program's text (the seventh form; the later family's looks); each row that meets fmt, with fmt's text TOLD by the authors' own Lean function (tested against real Go, not proved from fmt's source: count such statements apart). THE CARD IS WHAT COUNTS. Prove the row's statement (the work); the ties are given (YtdafcjjlkjngmaaDoorTie.lean); close each card by the builder's one call (the guide's Derived/Test/ToyasCard.lean, 'card_holds'). Laid BY PROGRAM, IN A SANDBOX (cutbox-door.mjs). By AI agents, Wed Nov 11 2026. No macro, syntax, notation, axiom, sorry.
-/
import Derived.Test.YtdafcjjlkjngmaaDoorRows
import GoSem.ClaimSeven
namespace Go.Proofs.YtdafcjjlkjngmaaDoor
namespace Rows

/-- THE TIED CARD OF 'dactyllaw14.InputDoes'. -/
def inputDoesCard : Claim7 := { stood := { row := inputDoesRow, standIns := [], harness := (true, "baf57e62dcdb0a29175cd60aa2e1df777df182bed2a4254028567a3b5c03f719"), looks := false }, kinds := [], alts := [], laidByText := true, laidKinds := [.data, .data, .pinned], laidTests := true, laidLooks := .later }
def InputDoesCardSaid : Prop := Claim7.holds Tryd.pinned (.plain (OpenSpec.ofChange inputDoesSpec)) inputDoesCard

/-- THE TIED CARD OF 'dactyllaw14.InputChunks'. -/
def inputChunksCard : Claim7 := { stood := { row := inputChunksRow, standIns := [], harness := (true, "baf57e62dcdb0a29175cd60aa2e1df777df182bed2a4254028567a3b5c03f719"), looks := false }, kinds := [], alts := [], laidByText := true, laidKinds := [.data, .data, .pinned], laidTests := true, laidLooks := .later }
def InputChunksCardSaid : Prop := Claim7.holds Tryd.pinned (.plain (OpenSpec.ofChange inputChunksSpec)) inputChunksCard

/-- THE TIED CARD OF 'dactyllaw14.InputBack'. -/
def inputBackCard : Claim7 := { stood := { row := inputBackRow, standIns := [], harness := (true, "baf57e62dcdb0a29175cd60aa2e1df777df182bed2a4254028567a3b5c03f719"), looks := false }, kinds := [], alts := [], laidByText := true, laidKinds := [.data, .data, .pinned], laidTests := true, laidLooks := .later }
def InputBackCardSaid : Prop := Claim7.holds Tryd.pinned (.plain (OpenSpec.ofChange inputBackSpec)) inputBackCard

/-- THE TIED CARD OF 'dactyllaw14.InputSettles'. -/
def inputSettlesCard : Claim7 := { stood := { row := inputSettlesRow, standIns := [], harness := (true, "baf57e62dcdb0a29175cd60aa2e1df777df182bed2a4254028567a3b5c03f719"), looks := false }, kinds := [], alts := [], laidByText := true, laidKinds := [.data, .data, .pinned], laidTests := true, laidLooks := .later }
def InputSettlesCardSaid : Prop := Claim7.holds Tryd.pinned (.plain (OpenSpec.ofChange inputSettlesSpec)) inputSettlesCard

/-- THE TIED CARD OF 'dactyllaw15.FrameAgrees'. -/
def frameAgreesCard : Claim7 := { stood := { row := frameAgreesRow, standIns := [], harness := (true, "baf57e62dcdb0a29175cd60aa2e1df777df182bed2a4254028567a3b5c03f719"), looks := false }, kinds := [], alts := [], laidByText := true, laidKinds := [.data, .pinned], laidTests := true, laidLooks := .later }
def FrameAgreesCardSaid : Prop := Claim7.holds Tryd.pinned (.plain (OpenSpec.ofChange frameAgreesSpec)) frameAgreesCard

/-- THE TIED CARD OF 'dactyllaw34.TapeWords'. -/
def tapeWordsCard : Claim7 := { stood := { row := tapeWordsRow, standIns := [], harness := (true, "baf57e62dcdb0a29175cd60aa2e1df777df182bed2a4254028567a3b5c03f719"), looks := false }, kinds := [], alts := [], laidByText := true, laidKinds := [.data, .pinned], laidTests := true, laidLooks := .later }
def TapeWordsCardSaid : Prop := Claim7.holds Tryd.pinned (.plain (OpenSpec.ofChange tapeWordsSpec)) tapeWordsCard

/-- THE TIED CARD OF 'dactyllaw38.AuditPlace'. -/
def auditPlaceCard : Claim7 := { stood := { row := auditPlaceRow, standIns := [], harness := (true, "baf57e62dcdb0a29175cd60aa2e1df777df182bed2a4254028567a3b5c03f719"), looks := false }, kinds := [], alts := [], laidByText := true, laidKinds := [.data, .data, .data, .pinned], laidTests := true, laidLooks := .later }
def AuditPlaceCardSaid : Prop := Claim7.holds Tryd.pinned (.plain (OpenSpec.ofChange auditPlaceSpec)) auditPlaceCard

/-- THE SECOND FORM's CARD OF 'dactyllaw14.InputDoes'. -/
def inputDoesUptoCard : Claim7 := { stood := { row := inputDoesUptoRow, standIns := [], harness := (true, "baf57e62dcdb0a29175cd60aa2e1df777df182bed2a4254028567a3b5c03f719"), looks := false }, kinds := [], alts := [], laidByText := true, laidKinds := [.data, .data, .pinned], laidTests := true, laidLooks := .later }
def InputDoesUptoCardSaid : Prop := Claim7.holds Tryd.pinned (.plain (OpenSpec.upto inputDoesSpec)) inputDoesUptoCard

/-- THE SECOND FORM's CARD OF 'dactyllaw14.InputChunks'. -/
def inputChunksUptoCard : Claim7 := { stood := { row := inputChunksUptoRow, standIns := [], harness := (true, "baf57e62dcdb0a29175cd60aa2e1df777df182bed2a4254028567a3b5c03f719"), looks := false }, kinds := [], alts := [], laidByText := true, laidKinds := [.data, .data, .pinned], laidTests := true, laidLooks := .later }
def InputChunksUptoCardSaid : Prop := Claim7.holds Tryd.pinned (.plain (OpenSpec.upto inputChunksSpec)) inputChunksUptoCard

/-- THE SECOND FORM's CARD OF 'dactyllaw14.InputBack'. -/
def inputBackUptoCard : Claim7 := { stood := { row := inputBackUptoRow, standIns := [], harness := (true, "baf57e62dcdb0a29175cd60aa2e1df777df182bed2a4254028567a3b5c03f719"), looks := false }, kinds := [], alts := [], laidByText := true, laidKinds := [.data, .data, .pinned], laidTests := true, laidLooks := .later }
def InputBackUptoCardSaid : Prop := Claim7.holds Tryd.pinned (.plain (OpenSpec.upto inputBackSpec)) inputBackUptoCard

/-- THE SECOND FORM's CARD OF 'dactyllaw14.InputSettles'. -/
def inputSettlesUptoCard : Claim7 := { stood := { row := inputSettlesUptoRow, standIns := [], harness := (true, "baf57e62dcdb0a29175cd60aa2e1df777df182bed2a4254028567a3b5c03f719"), looks := false }, kinds := [], alts := [], laidByText := true, laidKinds := [.data, .data, .pinned], laidTests := true, laidLooks := .later }
def InputSettlesUptoCardSaid : Prop := Claim7.holds Tryd.pinned (.plain (OpenSpec.upto inputSettlesSpec)) inputSettlesUptoCard

/-- THE SECOND FORM's CARD OF 'dactyllaw15.FrameAgrees'. -/
def frameAgreesUptoCard : Claim7 := { stood := { row := frameAgreesUptoRow, standIns := [], harness := (true, "baf57e62dcdb0a29175cd60aa2e1df777df182bed2a4254028567a3b5c03f719"), looks := false }, kinds := [], alts := [], laidByText := true, laidKinds := [.data, .pinned], laidTests := true, laidLooks := .later }
def FrameAgreesUptoCardSaid : Prop := Claim7.holds Tryd.pinned (.plain (OpenSpec.upto frameAgreesSpec)) frameAgreesUptoCard

/-- THE SECOND FORM's CARD OF 'dactyllaw34.TapeWords'. -/
def tapeWordsUptoCard : Claim7 := { stood := { row := tapeWordsUptoRow, standIns := [], harness := (true, "baf57e62dcdb0a29175cd60aa2e1df777df182bed2a4254028567a3b5c03f719"), looks := false }, kinds := [], alts := [], laidByText := true, laidKinds := [.data, .pinned], laidTests := true, laidLooks := .later }
def TapeWordsUptoCardSaid : Prop := Claim7.holds Tryd.pinned (.plain (OpenSpec.upto tapeWordsSpec)) tapeWordsUptoCard

/-- THE SECOND FORM's CARD OF 'dactyllaw38.AuditPlace'. -/
def auditPlaceUptoCard : Claim7 := { stood := { row := auditPlaceUptoRow, standIns := [], harness := (true, "baf57e62dcdb0a29175cd60aa2e1df777df182bed2a4254028567a3b5c03f719"), looks := false }, kinds := [], alts := [], laidByText := true, laidKinds := [.data, .data, .data, .pinned], laidTests := true, laidLooks := .later }
def AuditPlaceUptoCardSaid : Prop := Claim7.holds Tryd.pinned (.plain (OpenSpec.upto auditPlaceSpec)) auditPlaceUptoCard
end Rows
end Go.Proofs.YtdafcjjlkjngmaaDoor
