/-
  DERIVED. GIVEN WITH THE SEED: THE CARDS: each row of YtldblffhkokhlaaDoorRows.lean that lists a variable, with what it lists TIED to the program's text (the seventh form; the later family's looks); each row that meets fmt, with fmt's text TOLD by the authors' own Lean function (tested against real Go, not proved from fmt's source: count such statements apart). THE CARD IS WHAT COUNTS. Prove the row's statement (the work); the ties are given (YtldblffhkokhlaaDoorTie.lean); close each card by the builder's one call (the guide's Derived/Test/ToyasCard.lean, 'card_holds'). Laid BY PROGRAM, IN A SANDBOX (cutbox-door.mjs). By AI agents, Wed Nov 11 2026. No macro, syntax, notation, axiom, sorry.
-/
import Derived.Test.YtldblffhkokhlaaDoorRows
import GoSem.ClaimSeven
namespace Go.Proofs.YtldblffhkokhlaaDoor
namespace Rows

/-- THE TIED CARD OF 'dactyllaw33.EventTexts'. -/
def eventTextsCard : Claim7 := { stood := { row := eventTextsRow, standIns := [], harness := (true, "92092f9a309af50ae221e402b13f2fa0d1c775e329b2a4487f2f1a59c3e8f513"), looks := false }, kinds := [], alts := [], laidByText := true, laidKinds := [.data, .data, .pinned], laidTests := true, laidLooks := .later }
def EventTextsCardSaid : Prop := Claim7.holds Tryd.pinned (.plain (OpenSpec.ofChange eventTextsSpec)) eventTextsCard

/-- THE TIED CARD OF 'dactyllaw33.EventLogs'. -/
def eventLogsCard : Claim7 := { stood := { row := eventLogsRow, standIns := [], harness := (true, "92092f9a309af50ae221e402b13f2fa0d1c775e329b2a4487f2f1a59c3e8f513"), looks := false }, kinds := [], alts := [], laidByText := true, laidKinds := [.data, .data, .pinned], laidTests := true, laidLooks := .later }
def EventLogsCardSaid : Prop := Claim7.holds Tryd.pinned (.plain (OpenSpec.ofChange eventLogsSpec)) eventLogsCard

/-- THE TIED CARD OF 'dactyllaw14.InputDoes'. -/
def inputDoesCard : Claim7 := { stood := { row := inputDoesRow, standIns := [], harness := (true, "92092f9a309af50ae221e402b13f2fa0d1c775e329b2a4487f2f1a59c3e8f513"), looks := false }, kinds := [], alts := [], laidByText := true, laidKinds := [.data, .data, .pinned], laidTests := true, laidLooks := .later }
def InputDoesCardSaid : Prop := Claim7.holds Tryd.pinned (.plain (OpenSpec.ofChange inputDoesSpec)) inputDoesCard

/-- THE TIED CARD OF 'dactyllaw14.InputChunks'. -/
def inputChunksCard : Claim7 := { stood := { row := inputChunksRow, standIns := [], harness := (true, "92092f9a309af50ae221e402b13f2fa0d1c775e329b2a4487f2f1a59c3e8f513"), looks := false }, kinds := [], alts := [], laidByText := true, laidKinds := [.data, .data, .pinned], laidTests := true, laidLooks := .later }
def InputChunksCardSaid : Prop := Claim7.holds Tryd.pinned (.plain (OpenSpec.ofChange inputChunksSpec)) inputChunksCard

/-- THE TIED CARD OF 'dactyllaw14.InputBack'. -/
def inputBackCard : Claim7 := { stood := { row := inputBackRow, standIns := [], harness := (true, "92092f9a309af50ae221e402b13f2fa0d1c775e329b2a4487f2f1a59c3e8f513"), looks := false }, kinds := [], alts := [], laidByText := true, laidKinds := [.data, .data, .pinned], laidTests := true, laidLooks := .later }
def InputBackCardSaid : Prop := Claim7.holds Tryd.pinned (.plain (OpenSpec.ofChange inputBackSpec)) inputBackCard

/-- THE TIED CARD OF 'dactyllaw14.InputSettles'. -/
def inputSettlesCard : Claim7 := { stood := { row := inputSettlesRow, standIns := [], harness := (true, "92092f9a309af50ae221e402b13f2fa0d1c775e329b2a4487f2f1a59c3e8f513"), looks := false }, kinds := [], alts := [], laidByText := true, laidKinds := [.data, .data, .pinned], laidTests := true, laidLooks := .later }
def InputSettlesCardSaid : Prop := Claim7.holds Tryd.pinned (.plain (OpenSpec.ofChange inputSettlesSpec)) inputSettlesCard

/-- THE TIED CARD OF 'dactyllaw15.FrameAgrees'. -/
def frameAgreesCard : Claim7 := { stood := { row := frameAgreesRow, standIns := [], harness := (true, "92092f9a309af50ae221e402b13f2fa0d1c775e329b2a4487f2f1a59c3e8f513"), looks := false }, kinds := [], alts := [], laidByText := true, laidKinds := [.data, .pinned], laidTests := true, laidLooks := .later }
def FrameAgreesCardSaid : Prop := Claim7.holds Tryd.pinned (.plain (OpenSpec.ofChange frameAgreesSpec)) frameAgreesCard

/-- THE SECOND FORM's CARD OF 'dactyllaw33.EventTexts'. -/
def eventTextsUptoCard : Claim7 := { stood := { row := eventTextsUptoRow, standIns := [], harness := (true, "92092f9a309af50ae221e402b13f2fa0d1c775e329b2a4487f2f1a59c3e8f513"), looks := false }, kinds := [], alts := [], laidByText := true, laidKinds := [.data, .data, .pinned], laidTests := true, laidLooks := .later }
def EventTextsUptoCardSaid : Prop := Claim7.holds Tryd.pinned (.plain (OpenSpec.upto eventTextsSpec)) eventTextsUptoCard

/-- THE SECOND FORM's CARD OF 'dactyllaw33.EventLogs'. -/
def eventLogsUptoCard : Claim7 := { stood := { row := eventLogsUptoRow, standIns := [], harness := (true, "92092f9a309af50ae221e402b13f2fa0d1c775e329b2a4487f2f1a59c3e8f513"), looks := false }, kinds := [], alts := [], laidByText := true, laidKinds := [.data, .data, .pinned], laidTests := true, laidLooks := .later }
def EventLogsUptoCardSaid : Prop := Claim7.holds Tryd.pinned (.plain (OpenSpec.upto eventLogsSpec)) eventLogsUptoCard

/-- THE SECOND FORM's CARD OF 'dactyllaw14.InputDoes'. -/
def inputDoesUptoCard : Claim7 := { stood := { row := inputDoesUptoRow, standIns := [], harness := (true, "92092f9a309af50ae221e402b13f2fa0d1c775e329b2a4487f2f1a59c3e8f513"), looks := false }, kinds := [], alts := [], laidByText := true, laidKinds := [.data, .data, .pinned], laidTests := true, laidLooks := .later }
def InputDoesUptoCardSaid : Prop := Claim7.holds Tryd.pinned (.plain (OpenSpec.upto inputDoesSpec)) inputDoesUptoCard

/-- THE SECOND FORM's CARD OF 'dactyllaw14.InputChunks'. -/
def inputChunksUptoCard : Claim7 := { stood := { row := inputChunksUptoRow, standIns := [], harness := (true, "92092f9a309af50ae221e402b13f2fa0d1c775e329b2a4487f2f1a59c3e8f513"), looks := false }, kinds := [], alts := [], laidByText := true, laidKinds := [.data, .data, .pinned], laidTests := true, laidLooks := .later }
def InputChunksUptoCardSaid : Prop := Claim7.holds Tryd.pinned (.plain (OpenSpec.upto inputChunksSpec)) inputChunksUptoCard

/-- THE SECOND FORM's CARD OF 'dactyllaw14.InputBack'. -/
def inputBackUptoCard : Claim7 := { stood := { row := inputBackUptoRow, standIns := [], harness := (true, "92092f9a309af50ae221e402b13f2fa0d1c775e329b2a4487f2f1a59c3e8f513"), looks := false }, kinds := [], alts := [], laidByText := true, laidKinds := [.data, .data, .pinned], laidTests := true, laidLooks := .later }
def InputBackUptoCardSaid : Prop := Claim7.holds Tryd.pinned (.plain (OpenSpec.upto inputBackSpec)) inputBackUptoCard

/-- THE SECOND FORM's CARD OF 'dactyllaw14.InputSettles'. -/
def inputSettlesUptoCard : Claim7 := { stood := { row := inputSettlesUptoRow, standIns := [], harness := (true, "92092f9a309af50ae221e402b13f2fa0d1c775e329b2a4487f2f1a59c3e8f513"), looks := false }, kinds := [], alts := [], laidByText := true, laidKinds := [.data, .data, .pinned], laidTests := true, laidLooks := .later }
def InputSettlesUptoCardSaid : Prop := Claim7.holds Tryd.pinned (.plain (OpenSpec.upto inputSettlesSpec)) inputSettlesUptoCard

/-- THE SECOND FORM's CARD OF 'dactyllaw15.FrameAgrees'. -/
def frameAgreesUptoCard : Claim7 := { stood := { row := frameAgreesUptoRow, standIns := [], harness := (true, "92092f9a309af50ae221e402b13f2fa0d1c775e329b2a4487f2f1a59c3e8f513"), looks := false }, kinds := [], alts := [], laidByText := true, laidKinds := [.data, .pinned], laidTests := true, laidLooks := .later }
def FrameAgreesUptoCardSaid : Prop := Claim7.holds Tryd.pinned (.plain (OpenSpec.upto frameAgreesSpec)) frameAgreesUptoCard
end Rows
end Go.Proofs.YtldblffhkokhlaaDoor
