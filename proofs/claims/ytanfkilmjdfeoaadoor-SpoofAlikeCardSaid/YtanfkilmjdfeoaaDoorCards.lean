/-
  DERIVED. GIVEN WITH THE SEED: THE CARDS: each row of YtanfkilmjdfeoaaDoorRows.lean that lists a variable, with what it lists TIED to the program's text (the seventh form; the later family's looks); each row that meets fmt, with fmt's text TOLD by the authors' own Lean function (tested against real Go, not proved from fmt's source: count such statements apart). THE CARD IS WHAT COUNTS. Prove the row's statement (the work); the ties are given (YtanfkilmjdfeoaaDoorTie.lean); close each card by the builder's one call (the guide's Derived/Test/ToyasCard.lean, 'card_holds'). Laid BY PROGRAM, IN A SANDBOX (cutbox-door.mjs). By AI agents, Wed Nov 11 2026. No macro, syntax, notation, axiom, sorry.
-/
import Derived.Test.YtanfkilmjdfeoaaDoorRows
import GoSem.ClaimSeven
namespace Go.Proofs.YtanfkilmjdfeoaaDoor
namespace Rows

/-- THE TIED CARD OF 'dactyllaw44.SpoofStrips'. -/
def spoofStripsCard : Claim7 := { stood := { row := spoofStripsRow, standIns := [], harness := (true, "f1d6affa55e696134e44c83cc4cef2cd1d6b6c8d3468153c4e63ff2569ebed62"), looks := false }, kinds := [], alts := [], laidByText := true, laidKinds := [.data, .data, .data, .pinned], laidTests := true, laidLooks := .later }
def SpoofStripsCardSaid : Prop := Claim7.holds Tryd.pinned (.plain (OpenSpec.ofChange spoofStripsSpec)) spoofStripsCard

/-- THE TIED CARD OF 'dactyllaw44.SpoofAlike'. -/
def spoofAlikeCard : Claim7 := { stood := { row := spoofAlikeRow, standIns := [], harness := (true, "f1d6affa55e696134e44c83cc4cef2cd1d6b6c8d3468153c4e63ff2569ebed62"), looks := false }, kinds := [], alts := [], laidByText := true, laidKinds := [.data, .data, .data, .pinned], laidTests := true, laidLooks := .later }
def SpoofAlikeCardSaid : Prop := Claim7.holds Tryd.pinned (.plain (OpenSpec.ofChange spoofAlikeSpec)) spoofAlikeCard

/-- THE TIED CARD OF 'dactyllaw44.SpoofScripts'. -/
def spoofScriptsCard : Claim7 := { stood := { row := spoofScriptsRow, standIns := [], harness := (true, "f1d6affa55e696134e44c83cc4cef2cd1d6b6c8d3468153c4e63ff2569ebed62"), looks := false }, kinds := [], alts := [], laidByText := true, laidKinds := [.data, .data, .data, .pinned], laidTests := true, laidLooks := .later }
def SpoofScriptsCardSaid : Prop := Claim7.holds Tryd.pinned (.plain (OpenSpec.ofChange spoofScriptsSpec)) spoofScriptsCard

/-- THE TIED CARD OF 'dactyllaw22.EscTexts'. -/
def escTextsCard : Claim7 := { stood := { row := escTextsRow, standIns := [], harness := (true, "f1d6affa55e696134e44c83cc4cef2cd1d6b6c8d3468153c4e63ff2569ebed62"), looks := false }, kinds := [], alts := [], laidByText := true, laidKinds := [.data, .pinned], laidTests := true, laidLooks := .later }
def EscTextsCardSaid : Prop := Claim7.holds Tryd.pinned (.plain (OpenSpec.ofChange escTextsSpec)) escTextsCard

/-- THE TIED CARD OF 'dactyllaw22.EscPlain'. -/
def escPlainCard : Claim7 := { stood := { row := escPlainRow, standIns := [], harness := (true, "f1d6affa55e696134e44c83cc4cef2cd1d6b6c8d3468153c4e63ff2569ebed62"), looks := false }, kinds := [], alts := [], laidByText := true, laidKinds := [.data, .pinned], laidTests := true, laidLooks := .later }
def EscPlainCardSaid : Prop := Claim7.holds Tryd.pinned (.plain (OpenSpec.ofChange escPlainSpec)) escPlainCard

/-- THE TIED CARD OF 'dactyllaw43.TaintOnly'. -/
def taintOnlyCard : Claim7 := { stood := { row := taintOnlyRow, standIns := [], harness := (true, "f1d6affa55e696134e44c83cc4cef2cd1d6b6c8d3468153c4e63ff2569ebed62"), looks := false }, kinds := [], alts := [], laidByText := true, laidKinds := [.data, .data, .data], laidTests := true, laidLooks := .later }
def TaintOnlyCardSaid : Prop := Claim7.holds Tryd.pinned (.plain (OpenSpec.ofChange taintOnlySpec)) taintOnlyCard

/-- THE TIED CARD OF 'dactyllaw42.MacroDoes'. -/
def macroDoesCard : Claim7 := { stood := { row := macroDoesRow, standIns := [], harness := (true, "f1d6affa55e696134e44c83cc4cef2cd1d6b6c8d3468153c4e63ff2569ebed62"), looks := false }, kinds := [], alts := [], laidByText := true, laidKinds := [.data], laidTests := true, laidLooks := .later }
def MacroDoesCardSaid : Prop := Claim7.holds Tryd.pinned (.plain (OpenSpec.ofChange macroDoesSpec)) macroDoesCard

/-- THE SECOND FORM's CARD OF 'dactyllaw44.SpoofStrips'. -/
def spoofStripsUptoCard : Claim7 := { stood := { row := spoofStripsUptoRow, standIns := [], harness := (true, "f1d6affa55e696134e44c83cc4cef2cd1d6b6c8d3468153c4e63ff2569ebed62"), looks := false }, kinds := [], alts := [], laidByText := true, laidKinds := [.data, .data, .data, .pinned], laidTests := true, laidLooks := .later }
def SpoofStripsUptoCardSaid : Prop := Claim7.holds Tryd.pinned (.plain (OpenSpec.upto spoofStripsSpec)) spoofStripsUptoCard

/-- THE SECOND FORM's CARD OF 'dactyllaw44.SpoofAlike'. -/
def spoofAlikeUptoCard : Claim7 := { stood := { row := spoofAlikeUptoRow, standIns := [], harness := (true, "f1d6affa55e696134e44c83cc4cef2cd1d6b6c8d3468153c4e63ff2569ebed62"), looks := false }, kinds := [], alts := [], laidByText := true, laidKinds := [.data, .data, .data, .pinned], laidTests := true, laidLooks := .later }
def SpoofAlikeUptoCardSaid : Prop := Claim7.holds Tryd.pinned (.plain (OpenSpec.upto spoofAlikeSpec)) spoofAlikeUptoCard

/-- THE SECOND FORM's CARD OF 'dactyllaw44.SpoofScripts'. -/
def spoofScriptsUptoCard : Claim7 := { stood := { row := spoofScriptsUptoRow, standIns := [], harness := (true, "f1d6affa55e696134e44c83cc4cef2cd1d6b6c8d3468153c4e63ff2569ebed62"), looks := false }, kinds := [], alts := [], laidByText := true, laidKinds := [.data, .data, .data, .pinned], laidTests := true, laidLooks := .later }
def SpoofScriptsUptoCardSaid : Prop := Claim7.holds Tryd.pinned (.plain (OpenSpec.upto spoofScriptsSpec)) spoofScriptsUptoCard

/-- THE SECOND FORM's CARD OF 'dactyllaw22.EscTexts'. -/
def escTextsUptoCard : Claim7 := { stood := { row := escTextsUptoRow, standIns := [], harness := (true, "f1d6affa55e696134e44c83cc4cef2cd1d6b6c8d3468153c4e63ff2569ebed62"), looks := false }, kinds := [], alts := [], laidByText := true, laidKinds := [.data, .pinned], laidTests := true, laidLooks := .later }
def EscTextsUptoCardSaid : Prop := Claim7.holds Tryd.pinned (.plain (OpenSpec.upto escTextsSpec)) escTextsUptoCard

/-- THE SECOND FORM's CARD OF 'dactyllaw22.EscPlain'. -/
def escPlainUptoCard : Claim7 := { stood := { row := escPlainUptoRow, standIns := [], harness := (true, "f1d6affa55e696134e44c83cc4cef2cd1d6b6c8d3468153c4e63ff2569ebed62"), looks := false }, kinds := [], alts := [], laidByText := true, laidKinds := [.data, .pinned], laidTests := true, laidLooks := .later }
def EscPlainUptoCardSaid : Prop := Claim7.holds Tryd.pinned (.plain (OpenSpec.upto escPlainSpec)) escPlainUptoCard

/-- THE SECOND FORM's CARD OF 'dactyllaw43.TaintOnly'. -/
def taintOnlyUptoCard : Claim7 := { stood := { row := taintOnlyUptoRow, standIns := [], harness := (true, "f1d6affa55e696134e44c83cc4cef2cd1d6b6c8d3468153c4e63ff2569ebed62"), looks := false }, kinds := [], alts := [], laidByText := true, laidKinds := [.data, .data, .data], laidTests := true, laidLooks := .later }
def TaintOnlyUptoCardSaid : Prop := Claim7.holds Tryd.pinned (.plain (OpenSpec.upto taintOnlySpec)) taintOnlyUptoCard

/-- THE SECOND FORM's CARD OF 'dactyllaw42.MacroDoes'. -/
def macroDoesUptoCard : Claim7 := { stood := { row := macroDoesUptoRow, standIns := [], harness := (true, "f1d6affa55e696134e44c83cc4cef2cd1d6b6c8d3468153c4e63ff2569ebed62"), looks := false }, kinds := [], alts := [], laidByText := true, laidKinds := [.data], laidTests := true, laidLooks := .later }
def MacroDoesUptoCardSaid : Prop := Claim7.holds Tryd.pinned (.plain (OpenSpec.upto macroDoesSpec)) macroDoesUptoCard
end Rows
end Go.Proofs.YtanfkilmjdfeoaaDoor
