/-
  NARROWER THAN 'FOR EVERY INPUT', by the rows' own cells (each row's printed sentence says how): EventTexts: laid · EventLogs: laid · InputDoes: laid · InputChunks: laid · InputBack: laid · InputSettles: laid · FrameAgrees: laid.
  DERIVED. THE GIVEN ROWS OF THIS SEAT. 7 by the template 'for every input the law returns true; each argument reads behind the call as it read before'; 0 by the template 'total and deterministic' (their statements: YtldblffhkokhlaaDoorTotals.lean).
  GIVEN WITH THE SEED: the statements are not yours to turn. If you find one false, say at which input.
  Laid BY PROGRAM, IN A SANDBOX (cutbox-rows.mjs): the forced cells as the released guide's own fill.sh prints them over the translation 92b359433ef712c6… (all of the seat's roots in one cut). By AI agents, Wed Nov 11 2026. No macro, syntax, notation, axiom, sorry.
-/
import Derived.Test.YtldblffhkokhlaaDoorChecked
import GoSem.PinnedTables
import GoSem.Claim
import GoSem.ClaimJoined
import GoSem.ClaimMapViews
import Derived.JoinedTies
import Derived.KernelRfl
namespace Go.Proofs.YtldblffhkokhlaaDoor
/- THE CELL 'sum', in the pinned program and in every row, IS THE sha256 OF THE DUMP (.gsa) THAT YtldblffhkokhlaaDoorProg.lean LOADS. Nothing in Lean hashes anything: it is a label: what it is worth is what the hold of that sum in a sandbox is worth. -/
noncomputable def Tryd.pinned : Pinned := { name := "ytldblffhkokhlaadoor", sum := "92b359433ef712c6d0d6f2bda3a9f5f263607b85ab9dcbf0d7ad972b7ad0ece4", checked := Tryd.checked }
namespace Rows
def none {H : Type} : Left H := { results := [], args := [] }

/- WHAT THE LISTED PACKAGE-LEVEL VARIABLES READ AS WHEN THE CALL BEGINS. Each datum BY PROGRAM (the guide's laid-datum.mjs) off the statement by which the dump's own 'gosem.cut.vars' lays the variable. In a bare row this is a premise. The card (YtldblffhkokhlaaDoorCards.lean) ties it to the program's text. -/
def laid_unicode_utf8_acceptRanges {H : Type} : DataW H := .agg [.agg [.lit (.int .u8 128), .lit (.int .u8 191)], .agg [.lit (.int .u8 160), .lit (.int .u8 191)], .agg [.lit (.int .u8 128), .lit (.int .u8 159)], .agg [.lit (.int .u8 144), .lit (.int .u8 191)], .agg [.lit (.int .u8 128), .lit (.int .u8 143)], .agg [.lit (.int .u8 0), .lit (.int .u8 0)], .agg [.lit (.int .u8 0), .lit (.int .u8 0)], .agg [.lit (.int .u8 0), .lit (.int .u8 0)], .agg [.lit (.int .u8 0), .lit (.int .u8 0)], .agg [.lit (.int .u8 0), .lit (.int .u8 0)], .agg [.lit (.int .u8 0), .lit (.int .u8 0)], .agg [.lit (.int .u8 0), .lit (.int .u8 0)], .agg [.lit (.int .u8 0), .lit (.int .u8 0)], .agg [.lit (.int .u8 0), .lit (.int .u8 0)], .agg [.lit (.int .u8 0), .lit (.int .u8 0)], .agg [.lit (.int .u8 0), .lit (.int .u8 0)]]
def laid_dactyl_event_kinds {H : Type} : DataW H := .agg [.agg [.lit (.int .i64 1), .lit (.string [97, 99, 99, 101, 112, 116]), .lit (.bool true)], .agg [.lit (.int .i64 2), .lit (.string [98, 101, 108, 108]), .lit (.bool false)], .agg [.lit (.int .i64 3), .lit (.string [97, 115, 107]), .lit (.bool true)], .agg [.lit (.int .i64 4), .lit (.string [99, 97, 110, 99, 101, 108]), .lit (.bool true)], .agg [.lit (.int .i64 5), .lit (.string [101, 111, 102]), .lit (.bool false)], .agg [.lit (.int .i64 6), .lit (.string [101, 114, 97, 115, 101]), .lit (.bool false)]]
/-- One of Go's own tables, pinned by name: the form's constant. -/
def laid_unicode_utf8_first : DataW Unit := Go.Pinned.utf8First
def laid_dactyl_key_named {H : Type} : DataW H := .agg [.agg [.lit (.int .i64 4), .lit (.int .i64 13), .lit (.string [82, 69, 84]), .lit (.string [13])], .agg [.lit (.int .i64 4), .lit (.int .i64 10), .lit (.string [76, 70, 68]), .lit (.string [10])], .agg [.lit (.int .i64 5), .lit (.int .i64 0), .lit (.string [69, 83, 67]), .lit (.string [27])], .agg [.lit (.int .i64 6), .lit (.int .i64 0), .lit (.string [68, 69, 76]), .lit (.string [127])], .agg [.lit (.int .i64 7), .lit (.int .i64 0), .lit (.string [85, 80]), .lit (.string [27, 91, 65])], .agg [.lit (.int .i64 8), .lit (.int .i64 0), .lit (.string [68, 79, 87, 78]), .lit (.string [27, 91, 66])], .agg [.lit (.int .i64 9), .lit (.int .i64 0), .lit (.string [82, 73, 71, 72, 84]), .lit (.string [27, 91, 67])], .agg [.lit (.int .i64 10), .lit (.int .i64 0), .lit (.string [76, 69, 70, 84]), .lit (.string [27, 91, 68])], .agg [.lit (.int .i64 11), .lit (.int .i64 0), .lit (.string [72, 79, 77, 69]), .lit (.string [27, 91, 72])], .agg [.lit (.int .i64 12), .lit (.int .i64 0), .lit (.string [69, 78, 68]), .lit (.string [27, 91, 70])], .agg [.lit (.int .i64 13), .lit (.int .i64 0), .lit (.string [68, 69, 76, 69, 84, 69]), .lit (.string [27, 91, 51, 126])], .agg [.lit (.int .i64 14), .lit (.int .i64 0), .lit (.string [80, 71, 85, 80]), .lit (.string [27, 91, 53, 126])], .agg [.lit (.int .i64 14), .lit (.int .i64 1), .lit (.string [80, 71, 68, 78]), .lit (.string [27, 91, 54, 126])]]

/-- 'dactyllaw33.EventTexts': WHATEVER THE INPUT: true; the input reads as it did. -/
def eventTextsSpec : ChangeSpec := { name := "eventTexts", fn := fun _ => fun
  | [d1, d2] => { results := [.lit (.bool true)], args := [d1, d2] }
  | _ => none }
def eventTextsRow : OpenClaim := { program := "ytldblffhkokhlaadoor", sum := "92b359433ef712c6d0d6f2bda3a9f5f263607b85ab9dcbf0d7ad972b7ad0ece4", func := "dactyl/dactyllaw33.EventTexts", spec := "eventTexts", inPlace := ["internal/abi.NoEscape", "internal/bytealg.MakeNoZero", "internal/bytealg.CountString", "internal/bytealg.IndexByteString", "internal/bytealg.IndexString"], unfollowed := true, recurses := true, named := ["dactyl/event.kinds", "unicode/utf8.first", "unicode/utf8.acceptRanges", "internal/bytealg.MaxLen"], apart := false, laid := [("unicode/utf8.acceptRanges", laid_unicode_utf8_acceptRanges), ("dactyl/event.kinds", laid_dactyl_event_kinds), ("unicode/utf8.first", laid_unicode_utf8_first)] }
def EventTextsSaid : Prop := eventTextsRow.holds Tryd.pinned (OpenSpec.ofChange eventTextsSpec)

/-- ITS FALSE NEIGHBOUR: 'it returns false'. Refute it at one input. -/
def eventTextsWrong : ChangeSpec := { name := "eventTexts", fn := fun _ => fun
  | [d1, d2] => { results := [.lit (.bool false)], args := [d1, d2] }
  | _ => none }
def EventTextsWrongFalsely : Prop := eventTextsRow.holds Tryd.pinned (OpenSpec.ofChange eventTextsWrong)

/-- 'dactyllaw33.EventLogs': WHATEVER THE INPUT: true; the input reads as it did. -/
def eventLogsSpec : ChangeSpec := { name := "eventLogs", fn := fun _ => fun
  | [d1, d2] => { results := [.lit (.bool true)], args := [d1, d2] }
  | _ => none }
def eventLogsRow : OpenClaim := { program := "ytldblffhkokhlaadoor", sum := "92b359433ef712c6d0d6f2bda3a9f5f263607b85ab9dcbf0d7ad972b7ad0ece4", func := "dactyl/dactyllaw33.EventLogs", spec := "eventLogs", inPlace := ["internal/abi.NoEscape", "internal/bytealg.MakeNoZero", "internal/bytealg.CountString", "internal/bytealg.IndexByteString", "internal/bytealg.IndexString"], unfollowed := true, recurses := true, named := ["dactyl/event.kinds", "unicode/utf8.first", "unicode/utf8.acceptRanges", "internal/bytealg.MaxLen"], apart := false, laid := [("unicode/utf8.acceptRanges", laid_unicode_utf8_acceptRanges), ("dactyl/event.kinds", laid_dactyl_event_kinds), ("unicode/utf8.first", laid_unicode_utf8_first)] }
def EventLogsSaid : Prop := eventLogsRow.holds Tryd.pinned (OpenSpec.ofChange eventLogsSpec)

/-- ITS FALSE NEIGHBOUR: 'it returns false'. Refute it at one input. -/
def eventLogsWrong : ChangeSpec := { name := "eventLogs", fn := fun _ => fun
  | [d1, d2] => { results := [.lit (.bool false)], args := [d1, d2] }
  | _ => none }
def EventLogsWrongFalsely : Prop := eventLogsRow.holds Tryd.pinned (OpenSpec.ofChange eventLogsWrong)

/-- 'dactyllaw14.InputDoes': WHATEVER THE INPUT: true; the input reads as it did. -/
def inputDoesSpec : ChangeSpec := { name := "inputDoes", fn := fun _ => fun
  | [d1, d2] => { results := [.lit (.bool true)], args := [d1, d2] }
  | _ => none }
def inputDoesRow : OpenClaim := { program := "ytldblffhkokhlaadoor", sum := "92b359433ef712c6d0d6f2bda3a9f5f263607b85ab9dcbf0d7ad972b7ad0ece4", func := "dactyl/dactyllaw14.InputDoes", spec := "inputDoes", unfollowed := true, recurses := true, named := ["unicode/utf8.first", "unicode/utf8.acceptRanges", "dactyl/key.named"], apart := false, laid := [("unicode/utf8.acceptRanges", laid_unicode_utf8_acceptRanges), ("dactyl/key.named", laid_dactyl_key_named), ("unicode/utf8.first", laid_unicode_utf8_first)] }
def InputDoesSaid : Prop := inputDoesRow.holds Tryd.pinned (OpenSpec.ofChange inputDoesSpec)

/-- ITS FALSE NEIGHBOUR: 'it returns false'. Refute it at one input. -/
def inputDoesWrong : ChangeSpec := { name := "inputDoes", fn := fun _ => fun
  | [d1, d2] => { results := [.lit (.bool false)], args := [d1, d2] }
  | _ => none }
def InputDoesWrongFalsely : Prop := inputDoesRow.holds Tryd.pinned (OpenSpec.ofChange inputDoesWrong)

/-- 'dactyllaw14.InputChunks': WHATEVER THE INPUT: true; the input reads as it did. -/
def inputChunksSpec : ChangeSpec := { name := "inputChunks", fn := fun _ => fun
  | [d1, d2] => { results := [.lit (.bool true)], args := [d1, d2] }
  | _ => none }
def inputChunksRow : OpenClaim := { program := "ytldblffhkokhlaadoor", sum := "92b359433ef712c6d0d6f2bda3a9f5f263607b85ab9dcbf0d7ad972b7ad0ece4", func := "dactyl/dactyllaw14.InputChunks", spec := "inputChunks", unfollowed := true, recurses := true, named := ["unicode/utf8.first", "unicode/utf8.acceptRanges", "dactyl/key.named"], apart := false, laid := [("unicode/utf8.acceptRanges", laid_unicode_utf8_acceptRanges), ("dactyl/key.named", laid_dactyl_key_named), ("unicode/utf8.first", laid_unicode_utf8_first)] }
def InputChunksSaid : Prop := inputChunksRow.holds Tryd.pinned (OpenSpec.ofChange inputChunksSpec)

/-- ITS FALSE NEIGHBOUR: 'it returns false'. Refute it at one input. -/
def inputChunksWrong : ChangeSpec := { name := "inputChunks", fn := fun _ => fun
  | [d1, d2] => { results := [.lit (.bool false)], args := [d1, d2] }
  | _ => none }
def InputChunksWrongFalsely : Prop := inputChunksRow.holds Tryd.pinned (OpenSpec.ofChange inputChunksWrong)

/-- 'dactyllaw14.InputBack': WHATEVER THE INPUT: true; the input reads as it did. -/
def inputBackSpec : ChangeSpec := { name := "inputBack", fn := fun _ => fun
  | [d] => { results := [.lit (.bool true)], args := [d] }
  | _ => none }
def inputBackRow : OpenClaim := { program := "ytldblffhkokhlaadoor", sum := "92b359433ef712c6d0d6f2bda3a9f5f263607b85ab9dcbf0d7ad972b7ad0ece4", func := "dactyl/dactyllaw14.InputBack", spec := "inputBack", unfollowed := true, recurses := true, named := ["unicode/utf8.first", "unicode/utf8.acceptRanges", "dactyl/key.named"], apart := false, laid := [("unicode/utf8.acceptRanges", laid_unicode_utf8_acceptRanges), ("dactyl/key.named", laid_dactyl_key_named), ("unicode/utf8.first", laid_unicode_utf8_first)] }
def InputBackSaid : Prop := inputBackRow.holds Tryd.pinned (OpenSpec.ofChange inputBackSpec)

/-- ITS FALSE NEIGHBOUR: 'it returns false'. Refute it at one input. -/
def inputBackWrong : ChangeSpec := { name := "inputBack", fn := fun _ => fun
  | [d] => { results := [.lit (.bool false)], args := [d] }
  | _ => none }
def InputBackWrongFalsely : Prop := inputBackRow.holds Tryd.pinned (OpenSpec.ofChange inputBackWrong)

/-- 'dactyllaw14.InputSettles': WHATEVER THE INPUT: true; the input reads as it did. -/
def inputSettlesSpec : ChangeSpec := { name := "inputSettles", fn := fun _ => fun
  | [d] => { results := [.lit (.bool true)], args := [d] }
  | _ => none }
def inputSettlesRow : OpenClaim := { program := "ytldblffhkokhlaadoor", sum := "92b359433ef712c6d0d6f2bda3a9f5f263607b85ab9dcbf0d7ad972b7ad0ece4", func := "dactyl/dactyllaw14.InputSettles", spec := "inputSettles", unfollowed := true, recurses := true, named := ["unicode/utf8.first", "unicode/utf8.acceptRanges", "dactyl/key.named"], apart := false, laid := [("unicode/utf8.acceptRanges", laid_unicode_utf8_acceptRanges), ("dactyl/key.named", laid_dactyl_key_named), ("unicode/utf8.first", laid_unicode_utf8_first)] }
def InputSettlesSaid : Prop := inputSettlesRow.holds Tryd.pinned (OpenSpec.ofChange inputSettlesSpec)

/-- ITS FALSE NEIGHBOUR: 'it returns false'. Refute it at one input. -/
def inputSettlesWrong : ChangeSpec := { name := "inputSettles", fn := fun _ => fun
  | [d] => { results := [.lit (.bool false)], args := [d] }
  | _ => none }
def InputSettlesWrongFalsely : Prop := inputSettlesRow.holds Tryd.pinned (OpenSpec.ofChange inputSettlesWrong)

/-- 'dactyllaw15.FrameAgrees': WHATEVER THE INPUT: true; the input reads as it did. -/
def frameAgreesSpec : ChangeSpec := { name := "frameAgrees", fn := fun _ => fun
  | [d] => { results := [.lit (.bool true)], args := [d] }
  | _ => none }
def frameAgreesRow : OpenClaim := { program := "ytldblffhkokhlaadoor", sum := "92b359433ef712c6d0d6f2bda3a9f5f263607b85ab9dcbf0d7ad972b7ad0ece4", func := "dactyl/dactyllaw15.FrameAgrees", spec := "frameAgrees", unfollowed := true, recurses := true, named := ["unicode/utf8.first", "unicode/utf8.acceptRanges"], apart := false, laid := [("unicode/utf8.acceptRanges", laid_unicode_utf8_acceptRanges), ("unicode/utf8.first", laid_unicode_utf8_first)] }
def FrameAgreesSaid : Prop := frameAgreesRow.holds Tryd.pinned (OpenSpec.ofChange frameAgreesSpec)

/-- ITS FALSE NEIGHBOUR: 'it returns false'. Refute it at one input. -/
def frameAgreesWrong : ChangeSpec := { name := "frameAgrees", fn := fun _ => fun
  | [d] => { results := [.lit (.bool false)], args := [d] }
  | _ => none }
def FrameAgreesWrongFalsely : Prop := frameAgreesRow.holds Tryd.pinned (OpenSpec.ofChange frameAgreesWrong)

/- THE SECOND FORM. 'bulk': how many values and letters a reading holds, each counted each time it is reached (what is shared counts as often as it is met; a slice's spare places count too). A statement '..UptoSaid' is the law's where the arguments, and the package variables that the reading takes, are together of bulk at most 1048576: NARROWER than '..Said'. Prove '..Said' where nothing that the law and all that it calls make is longer than what came in: it says more and counts as full. Else prove '..UptoSaid'. A law counts once. -/
mutual
def uptoBulk {H : Type} : DataW H → Nat
  | .lit (.string bytes) => bytes.length + 1
  | .lit _ => 1
  | .nil => 1
  | .ptr d => uptoBulk d + 1
  | .slice elems spare => uptoBulkAll elems + uptoBulkAll spare + 1
  | .agg parts => uptoBulkAll parts + 1
  | .iface _ d => uptoBulk d + 1
  | .map entries => uptoBulkEntries entries + 1
  | .held _ => 1
def uptoBulkAll {H : Type} : List (DataW H) → Nat
  | [] => 0
  | d :: r => uptoBulk d + uptoBulkAll r
def uptoBulkEntries {H : Type} : List (Lit × DataW H) → Nat
  | [] => 0
  | x :: r => uptoBulkEntry x + uptoBulkEntries r
def uptoBulkEntry {H : Type} : Lit × DataW H → Nat
  | (.string bytes, d) => bytes.length + uptoBulk d + 1
  | (_, d) => uptoBulk d + 1
 end
def uptoSmall : (H : Type) → List (DataW H) → Bool := fun _ ds => decide (uptoBulkAll ds ≤ 1048576)
def OpenSpec.upto (s : _root_.Go.ChangeSpec) : _root_.Go.OpenSpec := { _root_.Go.OpenSpec.ofChange s with cond := some uptoSmall }

/-- 'dactyllaw33.EventTexts', WHERE WHAT IT READS IS OF BULK AT MOST 1048576: true; the input reads as it did. -/
def eventTextsUptoRow : OpenClaim := { program := "ytldblffhkokhlaadoor", sum := "92b359433ef712c6d0d6f2bda3a9f5f263607b85ab9dcbf0d7ad972b7ad0ece4", func := "dactyl/dactyllaw33.EventTexts", spec := "eventTexts", inPlace := ["internal/abi.NoEscape", "internal/bytealg.MakeNoZero", "internal/bytealg.CountString", "internal/bytealg.IndexByteString", "internal/bytealg.IndexString"], unfollowed := true, recurses := true, named := ["dactyl/event.kinds", "unicode/utf8.first", "unicode/utf8.acceptRanges", "internal/bytealg.MaxLen"], apart := false, laid := [("unicode/utf8.acceptRanges", laid_unicode_utf8_acceptRanges), ("dactyl/event.kinds", laid_dactyl_event_kinds), ("unicode/utf8.first", laid_unicode_utf8_first)], narrowed := true }
def EventTextsUptoSaid : Prop := eventTextsUptoRow.holds Tryd.pinned (OpenSpec.upto eventTextsSpec)

/-- 'dactyllaw33.EventLogs', WHERE WHAT IT READS IS OF BULK AT MOST 1048576: true; the input reads as it did. -/
def eventLogsUptoRow : OpenClaim := { program := "ytldblffhkokhlaadoor", sum := "92b359433ef712c6d0d6f2bda3a9f5f263607b85ab9dcbf0d7ad972b7ad0ece4", func := "dactyl/dactyllaw33.EventLogs", spec := "eventLogs", inPlace := ["internal/abi.NoEscape", "internal/bytealg.MakeNoZero", "internal/bytealg.CountString", "internal/bytealg.IndexByteString", "internal/bytealg.IndexString"], unfollowed := true, recurses := true, named := ["dactyl/event.kinds", "unicode/utf8.first", "unicode/utf8.acceptRanges", "internal/bytealg.MaxLen"], apart := false, laid := [("unicode/utf8.acceptRanges", laid_unicode_utf8_acceptRanges), ("dactyl/event.kinds", laid_dactyl_event_kinds), ("unicode/utf8.first", laid_unicode_utf8_first)], narrowed := true }
def EventLogsUptoSaid : Prop := eventLogsUptoRow.holds Tryd.pinned (OpenSpec.upto eventLogsSpec)

/-- 'dactyllaw14.InputDoes', WHERE WHAT IT READS IS OF BULK AT MOST 1048576: true; the input reads as it did. -/
def inputDoesUptoRow : OpenClaim := { program := "ytldblffhkokhlaadoor", sum := "92b359433ef712c6d0d6f2bda3a9f5f263607b85ab9dcbf0d7ad972b7ad0ece4", func := "dactyl/dactyllaw14.InputDoes", spec := "inputDoes", unfollowed := true, recurses := true, named := ["unicode/utf8.first", "unicode/utf8.acceptRanges", "dactyl/key.named"], apart := false, laid := [("unicode/utf8.acceptRanges", laid_unicode_utf8_acceptRanges), ("dactyl/key.named", laid_dactyl_key_named), ("unicode/utf8.first", laid_unicode_utf8_first)], narrowed := true }
def InputDoesUptoSaid : Prop := inputDoesUptoRow.holds Tryd.pinned (OpenSpec.upto inputDoesSpec)

/-- 'dactyllaw14.InputChunks', WHERE WHAT IT READS IS OF BULK AT MOST 1048576: true; the input reads as it did. -/
def inputChunksUptoRow : OpenClaim := { program := "ytldblffhkokhlaadoor", sum := "92b359433ef712c6d0d6f2bda3a9f5f263607b85ab9dcbf0d7ad972b7ad0ece4", func := "dactyl/dactyllaw14.InputChunks", spec := "inputChunks", unfollowed := true, recurses := true, named := ["unicode/utf8.first", "unicode/utf8.acceptRanges", "dactyl/key.named"], apart := false, laid := [("unicode/utf8.acceptRanges", laid_unicode_utf8_acceptRanges), ("dactyl/key.named", laid_dactyl_key_named), ("unicode/utf8.first", laid_unicode_utf8_first)], narrowed := true }
def InputChunksUptoSaid : Prop := inputChunksUptoRow.holds Tryd.pinned (OpenSpec.upto inputChunksSpec)

/-- 'dactyllaw14.InputBack', WHERE WHAT IT READS IS OF BULK AT MOST 1048576: true; the input reads as it did. -/
def inputBackUptoRow : OpenClaim := { program := "ytldblffhkokhlaadoor", sum := "92b359433ef712c6d0d6f2bda3a9f5f263607b85ab9dcbf0d7ad972b7ad0ece4", func := "dactyl/dactyllaw14.InputBack", spec := "inputBack", unfollowed := true, recurses := true, named := ["unicode/utf8.first", "unicode/utf8.acceptRanges", "dactyl/key.named"], apart := false, laid := [("unicode/utf8.acceptRanges", laid_unicode_utf8_acceptRanges), ("dactyl/key.named", laid_dactyl_key_named), ("unicode/utf8.first", laid_unicode_utf8_first)], narrowed := true }
def InputBackUptoSaid : Prop := inputBackUptoRow.holds Tryd.pinned (OpenSpec.upto inputBackSpec)

/-- 'dactyllaw14.InputSettles', WHERE WHAT IT READS IS OF BULK AT MOST 1048576: true; the input reads as it did. -/
def inputSettlesUptoRow : OpenClaim := { program := "ytldblffhkokhlaadoor", sum := "92b359433ef712c6d0d6f2bda3a9f5f263607b85ab9dcbf0d7ad972b7ad0ece4", func := "dactyl/dactyllaw14.InputSettles", spec := "inputSettles", unfollowed := true, recurses := true, named := ["unicode/utf8.first", "unicode/utf8.acceptRanges", "dactyl/key.named"], apart := false, laid := [("unicode/utf8.acceptRanges", laid_unicode_utf8_acceptRanges), ("dactyl/key.named", laid_dactyl_key_named), ("unicode/utf8.first", laid_unicode_utf8_first)], narrowed := true }
def InputSettlesUptoSaid : Prop := inputSettlesUptoRow.holds Tryd.pinned (OpenSpec.upto inputSettlesSpec)

/-- 'dactyllaw15.FrameAgrees', WHERE WHAT IT READS IS OF BULK AT MOST 1048576: true; the input reads as it did. -/
def frameAgreesUptoRow : OpenClaim := { program := "ytldblffhkokhlaadoor", sum := "92b359433ef712c6d0d6f2bda3a9f5f263607b85ab9dcbf0d7ad972b7ad0ece4", func := "dactyl/dactyllaw15.FrameAgrees", spec := "frameAgrees", unfollowed := true, recurses := true, named := ["unicode/utf8.first", "unicode/utf8.acceptRanges"], apart := false, laid := [("unicode/utf8.acceptRanges", laid_unicode_utf8_acceptRanges), ("unicode/utf8.first", laid_unicode_utf8_first)], narrowed := true }
def FrameAgreesUptoSaid : Prop := frameAgreesUptoRow.holds Tryd.pinned (OpenSpec.upto frameAgreesSpec)

end Rows
end Go.Proofs.YtldblffhkokhlaaDoor
