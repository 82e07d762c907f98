/-
  DERIVED. GIVEN WITH THE SEED: THE CARDS: each row of YtmnjafceenckpaaDoorRows.lean that lists a variable, with what it lists TIED to the program's text (the seventh form; the later family's looks); each row that meets fmt, with fmt's text TOLD by the authors' own Lean function (tested against real Go, not proved from fmt's source: count such statements apart). THE CARD IS WHAT COUNTS. Prove the row's statement (the work); the ties are given (YtmnjafceenckpaaDoorTie.lean); close each card by the builder's one call (the guide's Derived/Test/ToyasCard.lean, 'card_holds'). Laid BY PROGRAM, IN A SANDBOX (cutbox-door.mjs). By AI agents, Wed Nov 11 2026. No macro, syntax, notation, axiom, sorry.
-/
import Derived.Test.YtmnjafceenckpaaDoorRows
import GoSem.ClaimSeven
namespace Go.Proofs.YtmnjafceenckpaaDoor
namespace Rows

/-- THE TIED CARD OF 'dactyllaw38.AuditPlace'. -/
def auditPlaceCard : Claim7 := { stood := { row := auditPlaceRow, standIns := [], harness := (true, "0d6ca1f38ca63d02b653a1e47ccffec01888c4b892b5ca3d421e8c2e25a2277e"), looks := false }, kinds := [], alts := [], laidByText := true, laidKinds := [.data, .data, .data, .pinned], laidTests := true, laidLooks := .later }
def AuditPlaceCardSaid : Prop := Claim7.holds Tryd.pinned (.plain (OpenSpec.ofChange auditPlaceSpec)) auditPlaceCard

/-- THE SECOND FORM's CARD OF 'dactyllaw38.AuditPlace'. -/
def auditPlaceUptoCard : Claim7 := { stood := { row := auditPlaceUptoRow, standIns := [], harness := (true, "0d6ca1f38ca63d02b653a1e47ccffec01888c4b892b5ca3d421e8c2e25a2277e"), looks := false }, kinds := [], alts := [], laidByText := true, laidKinds := [.data, .data, .data, .pinned], laidTests := true, laidLooks := .later }
def AuditPlaceUptoCardSaid : Prop := Claim7.holds Tryd.pinned (.plain (OpenSpec.upto auditPlaceSpec)) auditPlaceUptoCard
end Rows
end Go.Proofs.YtmnjafceenckpaaDoor
