/-
  NARROWER THAN 'FOR EVERY INPUT', by the rows' own cells (each row's printed sentence says how): TapeTexts: laid · UndoDoes: laid · UndoBounds: laid · ViFits: laid · AuditPlace: laid · BindParses: laid.
  DERIVED. THE GIVEN ROWS OF THIS SEAT. 6 by the template 'for every input the law returns true; each argument reads behind the call as it read before'; 0 by the template 'total and deterministic' (their statements: YtnpiooaiceegmaaDoorTotals.lean).
  GIVEN WITH THE SEED: the statements are not yours to turn. If you find one false, say at which input.
  Laid BY PROGRAM, IN A SANDBOX (cutbox-rows.mjs): the forced cells as the released guide's own fill.sh prints them over the translation e042954a85e43551… (all of the seat's roots in one cut). By AI agents, Wed Nov 11 2026. No macro, syntax, notation, axiom, sorry.
-/
import Derived.Test.YtnpiooaiceegmaaDoorChecked
import GoSem.PinnedTables
import GoSem.Claim
import GoSem.ClaimJoined
import GoSem.ClaimMapViews
import Derived.JoinedTies
import Derived.KernelRfl
namespace Go.Proofs.YtnpiooaiceegmaaDoor
/- THE CELL 'sum', in the pinned program and in every row, IS THE sha256 OF THE DUMP (.gsa) THAT YtnpiooaiceegmaaDoorProg.lean LOADS. Nothing in Lean hashes anything: it is a label: what it is worth is what the hold of that sum in a sandbox is worth. -/
noncomputable def Tryd.pinned : Pinned := { name := "ytnpiooaiceegmaadoor", sum := "e042954a85e435514ab3dbd029276a092c8f4176080de0be8d3aa3201e805913", checked := Tryd.checked }
namespace Rows
def none {H : Type} : Left H := { results := [], args := [] }

/- WHAT THE LISTED PACKAGE-LEVEL VARIABLES READ AS WHEN THE CALL BEGINS. Each datum BY PROGRAM (the guide's laid-datum.mjs) off the statement by which the dump's own 'gosem.cut.vars' lays the variable. In a bare row this is a premise. The card (YtnpiooaiceegmaaDoorCards.lean) ties it to the program's text. -/
def laid_unicode_utf8_acceptRanges {H : Type} : DataW H := .agg [.agg [.lit (.int .u8 128), .lit (.int .u8 191)], .agg [.lit (.int .u8 160), .lit (.int .u8 191)], .agg [.lit (.int .u8 128), .lit (.int .u8 159)], .agg [.lit (.int .u8 144), .lit (.int .u8 191)], .agg [.lit (.int .u8 128), .lit (.int .u8 143)], .agg [.lit (.int .u8 0), .lit (.int .u8 0)], .agg [.lit (.int .u8 0), .lit (.int .u8 0)], .agg [.lit (.int .u8 0), .lit (.int .u8 0)], .agg [.lit (.int .u8 0), .lit (.int .u8 0)], .agg [.lit (.int .u8 0), .lit (.int .u8 0)], .agg [.lit (.int .u8 0), .lit (.int .u8 0)], .agg [.lit (.int .u8 0), .lit (.int .u8 0)], .agg [.lit (.int .u8 0), .lit (.int .u8 0)], .agg [.lit (.int .u8 0), .lit (.int .u8 0)], .agg [.lit (.int .u8 0), .lit (.int .u8 0)], .agg [.lit (.int .u8 0), .lit (.int .u8 0)]]
/-- One of Go's own tables, pinned by name: the form's constant. -/
def laid_unicode_utf8_first : DataW Unit := Go.Pinned.utf8First
def laid_dactyl_class_ranges {H : Type} : DataW H := .agg [.lit (.int .i32 10), .lit (.int .i32 160), .lit (.int .i32 160), .lit (.int .i32 10), .lit (.int .i32 5760), .lit (.int .i32 5760), .lit (.int .i32 10), .lit (.int .i32 8192), .lit (.int .i32 8202), .lit (.int .i32 10), .lit (.int .i32 8232), .lit (.int .i32 8233), .lit (.int .i32 10), .lit (.int .i32 8239), .lit (.int .i32 8239), .lit (.int .i32 10), .lit (.int .i32 8287), .lit (.int .i32 8287), .lit (.int .i32 10), .lit (.int .i32 12288), .lit (.int .i32 12288), .lit (.int .i32 8), .lit (.int .i32 173), .lit (.int .i32 173), .lit (.int .i32 8), .lit (.int .i32 6155), .lit (.int .i32 6158), .lit (.int .i32 8), .lit (.int .i32 8203), .lit (.int .i32 8205), .lit (.int .i32 8), .lit (.int .i32 8288), .lit (.int .i32 8292), .lit (.int .i32 8), .lit (.int .i32 65279), .lit (.int .i32 65279), .lit (.int .i32 8), .lit (.int .i32 65529), .lit (.int .i32 65531), .lit (.int .i32 7), .lit (.int .i32 1564), .lit (.int .i32 1564), .lit (.int .i32 7), .lit (.int .i32 8206), .lit (.int .i32 8207), .lit (.int .i32 7), .lit (.int .i32 8234), .lit (.int .i32 8238), .lit (.int .i32 7), .lit (.int .i32 8294), .lit (.int .i32 8297), .lit (.int .i32 9), .lit (.int .i32 768), .lit (.int .i32 879), .lit (.int .i32 9), .lit (.int .i32 1155), .lit (.int .i32 1161), .lit (.int .i32 9), .lit (.int .i32 1425), .lit (.int .i32 1469), .lit (.int .i32 9), .lit (.int .i32 1552), .lit (.int .i32 1562), .lit (.int .i32 9), .lit (.int .i32 1611), .lit (.int .i32 1631), .lit (.int .i32 9), .lit (.int .i32 1750), .lit (.int .i32 1756), .lit (.int .i32 9), .lit (.int .i32 6832), .lit (.int .i32 6862), .lit (.int .i32 9), .lit (.int .i32 7616), .lit (.int .i32 7679), .lit (.int .i32 9), .lit (.int .i32 8400), .lit (.int .i32 8432), .lit (.int .i32 9), .lit (.int .i32 12330), .lit (.int .i32 12335), .lit (.int .i32 9), .lit (.int .i32 12441), .lit (.int .i32 12442), .lit (.int .i32 9), .lit (.int .i32 65024), .lit (.int .i32 65039), .lit (.int .i32 9), .lit (.int .i32 65056), .lit (.int .i32 65071), .lit (.int .i32 11), .lit (.int .i32 57344), .lit (.int .i32 63743), .lit (.int .i32 11), .lit (.int .i32 64976), .lit (.int .i32 65007), .lit (.int .i32 11), .lit (.int .i32 65520), .lit (.int .i32 65528), .lit (.int .i32 11), .lit (.int .i32 65534), .lit (.int .i32 65535), .lit (.int .i32 11), .lit (.int .i32 131070), .lit (.int .i32 131071), .lit (.int .i32 11), .lit (.int .i32 262142), .lit (.int .i32 1114111), .lit (.int .i32 2), .lit (.int .i32 4352), .lit (.int .i32 4447), .lit (.int .i32 2), .lit (.int .i32 8986), .lit (.int .i32 8987), .lit (.int .i32 2), .lit (.int .i32 11904), .lit (.int .i32 12287), .lit (.int .i32 2), .lit (.int .i32 12289), .lit (.int .i32 12350), .lit (.int .i32 2), .lit (.int .i32 12353), .lit (.int .i32 13311), .lit (.int .i32 2), .lit (.int .i32 13312), .lit (.int .i32 19903), .lit (.int .i32 2), .lit (.int .i32 19968), .lit (.int .i32 42191), .lit (.int .i32 2), .lit (.int .i32 43360), .lit (.int .i32 43391), .lit (.int .i32 2), .lit (.int .i32 44032), .lit (.int .i32 55203), .lit (.int .i32 2), .lit (.int .i32 63744), .lit (.int .i32 64255), .lit (.int .i32 2), .lit (.int .i32 65072), .lit (.int .i32 65135), .lit (.int .i32 2), .lit (.int .i32 65280), .lit (.int .i32 65376), .lit (.int .i32 2), .lit (.int .i32 65504), .lit (.int .i32 65510), .lit (.int .i32 2), .lit (.int .i32 127744), .lit (.int .i32 128591), .lit (.int .i32 2), .lit (.int .i32 128640), .lit (.int .i32 128767), .lit (.int .i32 2), .lit (.int .i32 129280), .lit (.int .i32 129535), .lit (.int .i32 2), .lit (.int .i32 131072), .lit (.int .i32 262141)]
def laid_dactyl_class_looks {H : Type} : DataW H := .agg [.lit (.int .i32 913), .lit (.int .i32 65), .lit (.int .i32 914), .lit (.int .i32 66), .lit (.int .i32 917), .lit (.int .i32 69), .lit (.int .i32 918), .lit (.int .i32 90), .lit (.int .i32 919), .lit (.int .i32 72), .lit (.int .i32 921), .lit (.int .i32 73), .lit (.int .i32 922), .lit (.int .i32 75), .lit (.int .i32 924), .lit (.int .i32 77), .lit (.int .i32 925), .lit (.int .i32 78), .lit (.int .i32 927), .lit (.int .i32 79), .lit (.int .i32 929), .lit (.int .i32 80), .lit (.int .i32 932), .lit (.int .i32 84), .lit (.int .i32 933), .lit (.int .i32 89), .lit (.int .i32 935), .lit (.int .i32 88), .lit (.int .i32 957), .lit (.int .i32 118), .lit (.int .i32 959), .lit (.int .i32 111), .lit (.int .i32 961), .lit (.int .i32 112), .lit (.int .i32 1029), .lit (.int .i32 83), .lit (.int .i32 1030), .lit (.int .i32 73), .lit (.int .i32 1032), .lit (.int .i32 74), .lit (.int .i32 1040), .lit (.int .i32 65), .lit (.int .i32 1042), .lit (.int .i32 66), .lit (.int .i32 1045), .lit (.int .i32 69), .lit (.int .i32 1050), .lit (.int .i32 75), .lit (.int .i32 1052), .lit (.int .i32 77), .lit (.int .i32 1053), .lit (.int .i32 72), .lit (.int .i32 1054), .lit (.int .i32 79), .lit (.int .i32 1056), .lit (.int .i32 80), .lit (.int .i32 1057), .lit (.int .i32 67), .lit (.int .i32 1058), .lit (.int .i32 84), .lit (.int .i32 1061), .lit (.int .i32 88), .lit (.int .i32 1072), .lit (.int .i32 97), .lit (.int .i32 1077), .lit (.int .i32 101), .lit (.int .i32 1086), .lit (.int .i32 111), .lit (.int .i32 1088), .lit (.int .i32 112), .lit (.int .i32 1089), .lit (.int .i32 99), .lit (.int .i32 1091), .lit (.int .i32 121), .lit (.int .i32 1093), .lit (.int .i32 120), .lit (.int .i32 1109), .lit (.int .i32 115), .lit (.int .i32 1110), .lit (.int .i32 105), .lit (.int .i32 1112), .lit (.int .i32 106), .lit (.int .i32 1281), .lit (.int .i32 100), .lit (.int .i32 1307), .lit (.int .i32 113), .lit (.int .i32 1309), .lit (.int .i32 119), .lit (.int .i32 894), .lit (.int .i32 59), .lit (.int .i32 8208), .lit (.int .i32 45), .lit (.int .i32 8722), .lit (.int .i32 45), .lit (.int .i32 8260), .lit (.int .i32 47), .lit (.int .i32 8725), .lit (.int .i32 47), .lit (.int .i32 8228), .lit (.int .i32 46), .lit (.int .i32 8218), .lit (.int .i32 44)]
def laid_dactyl_key_named {H : Type} : DataW H := .agg [.agg [.lit (.int .i64 4), .lit (.int .i64 13), .lit (.string [82, 69, 84]), .lit (.string [13])], .agg [.lit (.int .i64 4), .lit (.int .i64 10), .lit (.string [76, 70, 68]), .lit (.string [10])], .agg [.lit (.int .i64 5), .lit (.int .i64 0), .lit (.string [69, 83, 67]), .lit (.string [27])], .agg [.lit (.int .i64 6), .lit (.int .i64 0), .lit (.string [68, 69, 76]), .lit (.string [127])], .agg [.lit (.int .i64 7), .lit (.int .i64 0), .lit (.string [85, 80]), .lit (.string [27, 91, 65])], .agg [.lit (.int .i64 8), .lit (.int .i64 0), .lit (.string [68, 79, 87, 78]), .lit (.string [27, 91, 66])], .agg [.lit (.int .i64 9), .lit (.int .i64 0), .lit (.string [82, 73, 71, 72, 84]), .lit (.string [27, 91, 67])], .agg [.lit (.int .i64 10), .lit (.int .i64 0), .lit (.string [76, 69, 70, 84]), .lit (.string [27, 91, 68])], .agg [.lit (.int .i64 11), .lit (.int .i64 0), .lit (.string [72, 79, 77, 69]), .lit (.string [27, 91, 72])], .agg [.lit (.int .i64 12), .lit (.int .i64 0), .lit (.string [69, 78, 68]), .lit (.string [27, 91, 70])], .agg [.lit (.int .i64 13), .lit (.int .i64 0), .lit (.string [68, 69, 76, 69, 84, 69]), .lit (.string [27, 91, 51, 126])], .agg [.lit (.int .i64 14), .lit (.int .i64 0), .lit (.string [80, 71, 85, 80]), .lit (.string [27, 91, 53, 126])], .agg [.lit (.int .i64 14), .lit (.int .i64 1), .lit (.string [80, 71, 68, 78]), .lit (.string [27, 91, 54, 126])]]
def laid_dactyl_emacs_names {H : Type} : DataW H := .agg [.lit (.string [110, 111, 110, 101]), .lit (.string [115, 101, 108, 102]), .lit (.string [108, 101, 102, 116]), .lit (.string [114, 105, 103, 104, 116]), .lit (.string [119, 111, 114, 100, 45, 108, 101, 102, 116]), .lit (.string [119, 111, 114, 100, 45, 114, 105, 103, 104, 116]), .lit (.string [104, 111, 109, 101]), .lit (.string [101, 110, 100]), .lit (.string [100, 101, 108, 101, 116, 101]), .lit (.string [98, 97, 99, 107]), .lit (.string [107, 105, 108, 108, 45, 101, 110, 100]), .lit (.string [107, 105, 108, 108, 45, 104, 111, 109, 101]), .lit (.string [107, 105, 108, 108, 45, 119, 111, 114, 100]), .lit (.string [107, 105, 108, 108, 45, 98, 97, 99, 107]), .lit (.string [107, 105, 108, 108, 45, 97, 108, 108]), .lit (.string [121, 97, 110, 107]), .lit (.string [112, 111, 112]), .lit (.string [115, 119, 97, 112]), .lit (.string [115, 119, 97, 112, 45, 119, 111, 114, 100, 115]), .lit (.string [117, 112, 112, 101, 114]), .lit (.string [108, 111, 119, 101, 114]), .lit (.string [99, 97, 112]), .lit (.string [117, 110, 100, 111]), .lit (.string [114, 101, 100, 111]), .lit (.string [109, 97, 114, 107]), .lit (.string [101, 120, 99, 104, 97, 110, 103, 101]), .lit (.string [117, 112]), .lit (.string [100, 111, 119, 110]), .lit (.string [102, 105, 114, 115, 116]), .lit (.string [108, 97, 115, 116]), .lit (.string [112, 114, 101, 102, 105, 120]), .lit (.string [115, 101, 101, 107]), .lit (.string [99, 111, 109, 112, 108, 101, 116, 101]), .lit (.string [101, 110, 116, 101, 114]), .lit (.string [113, 117, 111, 116, 101]), .lit (.string [99, 97, 110, 99, 101, 108]), .lit (.string [101, 114, 97, 115, 101]), .lit (.string [101, 111, 102]), .lit (.string [112, 97, 115, 116, 101]), .lit (.string [101, 115, 99]), .lit (.string [99, 111, 112, 121]), .lit (.string [107, 105, 108, 108, 45, 109, 97, 114, 107])]

/-- 'dactyllaw34.TapeTexts': WHATEVER THE INPUT: true; the input reads as it did. -/
def tapeTextsSpec : ChangeSpec := { name := "tapeTexts", fn := fun _ => fun
  | [d1, d2] => { results := [.lit (.bool true)], args := [d1, d2] }
  | _ => none }
def tapeTextsRow : OpenClaim := { program := "ytnpiooaiceegmaadoor", sum := "e042954a85e435514ab3dbd029276a092c8f4176080de0be8d3aa3201e805913", func := "dactyl/dactyllaw34.TapeTexts", spec := "tapeTexts", inPlace := ["internal/bytealg.CountString", "internal/bytealg.IndexByteString", "internal/bytealg.IndexString", "internal/abi.NoEscape", "internal/bytealg.MakeNoZero"], unfollowed := true, recurses := true, named := ["unicode/utf8.first", "unicode/utf8.acceptRanges", "internal/bytealg.MaxLen"], apart := false, laid := [("unicode/utf8.acceptRanges", laid_unicode_utf8_acceptRanges), ("unicode/utf8.first", laid_unicode_utf8_first)] }
def TapeTextsSaid : Prop := tapeTextsRow.holds Tryd.pinned (OpenSpec.ofChange tapeTextsSpec)

/-- ITS FALSE NEIGHBOUR: 'it returns false'. Refute it at one input. -/
def tapeTextsWrong : ChangeSpec := { name := "tapeTexts", fn := fun _ => fun
  | [d1, d2] => { results := [.lit (.bool false)], args := [d1, d2] }
  | _ => none }
def TapeTextsWrongFalsely : Prop := tapeTextsRow.holds Tryd.pinned (OpenSpec.ofChange tapeTextsWrong)

/-- 'dactyllaw19.UndoDoes': WHATEVER THE INPUT: true; the input reads as it did. -/
def undoDoesSpec : ChangeSpec := { name := "undoDoes", fn := fun _ => fun
  | [d1, d2] => { results := [.lit (.bool true)], args := [d1, d2] }
  | _ => none }
def undoDoesRow : OpenClaim := { program := "ytnpiooaiceegmaadoor", sum := "e042954a85e435514ab3dbd029276a092c8f4176080de0be8d3aa3201e805913", func := "dactyl/dactyllaw19.UndoDoes", spec := "undoDoes", inPlace := ["slices.overlaps[dactyl/api.Sign]"], unfollowed := true, recurses := true, named := ["unicode/utf8.first", "unicode/utf8.acceptRanges"], apart := false, laid := [("unicode/utf8.acceptRanges", laid_unicode_utf8_acceptRanges), ("unicode/utf8.first", laid_unicode_utf8_first)] }
def UndoDoesSaid : Prop := undoDoesRow.holds Tryd.pinned (OpenSpec.ofChange undoDoesSpec)

/-- ITS FALSE NEIGHBOUR: 'it returns false'. Refute it at one input. -/
def undoDoesWrong : ChangeSpec := { name := "undoDoes", fn := fun _ => fun
  | [d1, d2] => { results := [.lit (.bool false)], args := [d1, d2] }
  | _ => none }
def UndoDoesWrongFalsely : Prop := undoDoesRow.holds Tryd.pinned (OpenSpec.ofChange undoDoesWrong)

/-- 'dactyllaw19.UndoBounds': WHATEVER THE INPUT: true; the input reads as it did. -/
def undoBoundsSpec : ChangeSpec := { name := "undoBounds", fn := fun _ => fun
  | [d1, d2] => { results := [.lit (.bool true)], args := [d1, d2] }
  | _ => none }
def undoBoundsRow : OpenClaim := { program := "ytnpiooaiceegmaadoor", sum := "e042954a85e435514ab3dbd029276a092c8f4176080de0be8d3aa3201e805913", func := "dactyl/dactyllaw19.UndoBounds", spec := "undoBounds", inPlace := ["slices.overlaps[dactyl/api.Sign]"], unfollowed := true, recurses := true, named := ["unicode/utf8.first", "unicode/utf8.acceptRanges"], apart := false, laid := [("unicode/utf8.acceptRanges", laid_unicode_utf8_acceptRanges), ("unicode/utf8.first", laid_unicode_utf8_first)] }
def UndoBoundsSaid : Prop := undoBoundsRow.holds Tryd.pinned (OpenSpec.ofChange undoBoundsSpec)

/-- ITS FALSE NEIGHBOUR: 'it returns false'. Refute it at one input. -/
def undoBoundsWrong : ChangeSpec := { name := "undoBounds", fn := fun _ => fun
  | [d1, d2] => { results := [.lit (.bool false)], args := [d1, d2] }
  | _ => none }
def UndoBoundsWrongFalsely : Prop := undoBoundsRow.holds Tryd.pinned (OpenSpec.ofChange undoBoundsWrong)

/-- 'dactyllaw28.ViFits': WHATEVER THE INPUT: true; the input reads as it did. -/
def viFitsSpec : ChangeSpec := { name := "viFits", fn := fun _ => fun
  | [d1, d2] => { results := [.lit (.bool true)], args := [d1, d2] }
  | _ => none }
def viFitsRow : OpenClaim := { program := "ytnpiooaiceegmaadoor", sum := "e042954a85e435514ab3dbd029276a092c8f4176080de0be8d3aa3201e805913", func := "dactyl/dactyllaw28.ViFits", spec := "viFits", unfollowed := true, recurses := true, named := ["unicode/utf8.first", "unicode/utf8.acceptRanges", "dactyl/class.ranges", "dactyl/class.looks"], apart := false, laid := [("unicode/utf8.acceptRanges", laid_unicode_utf8_acceptRanges), ("dactyl/class.ranges", laid_dactyl_class_ranges), ("dactyl/class.looks", laid_dactyl_class_looks), ("unicode/utf8.first", laid_unicode_utf8_first)] }
def ViFitsSaid : Prop := viFitsRow.holds Tryd.pinned (OpenSpec.ofChange viFitsSpec)

/-- ITS FALSE NEIGHBOUR: 'it returns false'. Refute it at one input. -/
def viFitsWrong : ChangeSpec := { name := "viFits", fn := fun _ => fun
  | [d1, d2] => { results := [.lit (.bool false)], args := [d1, d2] }
  | _ => none }
def ViFitsWrongFalsely : Prop := viFitsRow.holds Tryd.pinned (OpenSpec.ofChange viFitsWrong)

/-- 'dactyllaw38.AuditPlace': WHATEVER THE INPUT: true; the input reads as it did. -/
def auditPlaceSpec : ChangeSpec := { name := "auditPlace", fn := fun _ => fun
  | [d] => { results := [.lit (.bool true)], args := [d] }
  | _ => none }
def auditPlaceRow : OpenClaim := { program := "ytnpiooaiceegmaadoor", sum := "e042954a85e435514ab3dbd029276a092c8f4176080de0be8d3aa3201e805913", func := "dactyl/dactyllaw38.AuditPlace", spec := "auditPlace", inPlace := ["internal/bytealg.IndexByteString", "internal/bytealg.IndexString"], unfollowed := true, recurses := true, named := ["unicode/utf8.first", "unicode/utf8.acceptRanges", "dactyl/class.ranges", "dactyl/class.looks", "internal/bytealg.MaxLen"], apart := false, laid := [("unicode/utf8.acceptRanges", laid_unicode_utf8_acceptRanges), ("dactyl/class.ranges", laid_dactyl_class_ranges), ("dactyl/class.looks", laid_dactyl_class_looks), ("unicode/utf8.first", laid_unicode_utf8_first)] }
def AuditPlaceSaid : Prop := auditPlaceRow.holds Tryd.pinned (OpenSpec.ofChange auditPlaceSpec)

/-- ITS FALSE NEIGHBOUR: 'it returns false'. Refute it at one input. -/
def auditPlaceWrong : ChangeSpec := { name := "auditPlace", fn := fun _ => fun
  | [d] => { results := [.lit (.bool false)], args := [d] }
  | _ => none }
def AuditPlaceWrongFalsely : Prop := auditPlaceRow.holds Tryd.pinned (OpenSpec.ofChange auditPlaceWrong)

/-- 'dactyllaw40.BindParses': WHATEVER THE INPUT: true; the input reads as it did. -/
def bindParsesSpec : ChangeSpec := { name := "bindParses", fn := fun _ => fun
  | [d] => { results := [.lit (.bool true)], args := [d] }
  | _ => none }
def bindParsesRow : OpenClaim := { program := "ytnpiooaiceegmaadoor", sum := "e042954a85e435514ab3dbd029276a092c8f4176080de0be8d3aa3201e805913", func := "dactyl/dactyllaw40.BindParses", spec := "bindParses", inPlace := ["internal/bytealg.CountString", "internal/bytealg.IndexByteString", "internal/bytealg.IndexString", "internal/abi.NoEscape", "internal/bytealg.abigen_runtime_cmpstring", "slices.overlaps[dactyl/bind.row]"], unfollowed := true, recurses := true, named := ["unicode/utf8.first", "unicode/utf8.acceptRanges", "internal/bytealg.MaxLen", "dactyl/key.named", "dactyl/emacs.names"], apart := false, laid := [("unicode/utf8.acceptRanges", laid_unicode_utf8_acceptRanges), ("dactyl/key.named", laid_dactyl_key_named), ("dactyl/emacs.names", laid_dactyl_emacs_names), ("unicode/utf8.first", laid_unicode_utf8_first)] }
def BindParsesSaid : Prop := bindParsesRow.holds Tryd.pinned (OpenSpec.ofChange bindParsesSpec)

/-- ITS FALSE NEIGHBOUR: 'it returns false'. Refute it at one input. -/
def bindParsesWrong : ChangeSpec := { name := "bindParses", fn := fun _ => fun
  | [d] => { results := [.lit (.bool false)], args := [d] }
  | _ => none }
def BindParsesWrongFalsely : Prop := bindParsesRow.holds Tryd.pinned (OpenSpec.ofChange bindParsesWrong)

/- THE SECOND FORM. 'bulk': how many values and letters a reading holds, each counted each time it is reached (what is shared counts as often as it is met; a slice's spare places count too). A statement '..UptoSaid' is the law's where the arguments, and the package variables that the reading takes, are together of bulk at most 1048576: NARROWER than '..Said'. Prove '..Said' where nothing that the law and all that it calls make is longer than what came in: it says more and counts as full. Else prove '..UptoSaid'. A law counts once. -/
mutual
def uptoBulk {H : Type} : DataW H → Nat
  | .lit (.string bytes) => bytes.length + 1
  | .lit _ => 1
  | .nil => 1
  | .ptr d => uptoBulk d + 1
  | .slice elems spare => uptoBulkAll elems + uptoBulkAll spare + 1
  | .agg parts => uptoBulkAll parts + 1
  | .iface _ d => uptoBulk d + 1
  | .map entries => uptoBulkEntries entries + 1
  | .held _ => 1
def uptoBulkAll {H : Type} : List (DataW H) → Nat
  | [] => 0
  | d :: r => uptoBulk d + uptoBulkAll r
def uptoBulkEntries {H : Type} : List (Lit × DataW H) → Nat
  | [] => 0
  | x :: r => uptoBulkEntry x + uptoBulkEntries r
def uptoBulkEntry {H : Type} : Lit × DataW H → Nat
  | (.string bytes, d) => bytes.length + uptoBulk d + 1
  | (_, d) => uptoBulk d + 1
 end
def uptoSmall : (H : Type) → List (DataW H) → Bool := fun _ ds => decide (uptoBulkAll ds ≤ 1048576)
def OpenSpec.upto (s : _root_.Go.ChangeSpec) : _root_.Go.OpenSpec := { _root_.Go.OpenSpec.ofChange s with cond := some uptoSmall }

/-- 'dactyllaw34.TapeTexts', WHERE WHAT IT READS IS OF BULK AT MOST 1048576: true; the input reads as it did. -/
def tapeTextsUptoRow : OpenClaim := { program := "ytnpiooaiceegmaadoor", sum := "e042954a85e435514ab3dbd029276a092c8f4176080de0be8d3aa3201e805913", func := "dactyl/dactyllaw34.TapeTexts", spec := "tapeTexts", inPlace := ["internal/bytealg.CountString", "internal/bytealg.IndexByteString", "internal/bytealg.IndexString", "internal/abi.NoEscape", "internal/bytealg.MakeNoZero"], unfollowed := true, recurses := true, named := ["unicode/utf8.first", "unicode/utf8.acceptRanges", "internal/bytealg.MaxLen"], apart := false, laid := [("unicode/utf8.acceptRanges", laid_unicode_utf8_acceptRanges), ("unicode/utf8.first", laid_unicode_utf8_first)], narrowed := true }
def TapeTextsUptoSaid : Prop := tapeTextsUptoRow.holds Tryd.pinned (OpenSpec.upto tapeTextsSpec)

/-- 'dactyllaw19.UndoDoes', WHERE WHAT IT READS IS OF BULK AT MOST 1048576: true; the input reads as it did. -/
def undoDoesUptoRow : OpenClaim := { program := "ytnpiooaiceegmaadoor", sum := "e042954a85e435514ab3dbd029276a092c8f4176080de0be8d3aa3201e805913", func := "dactyl/dactyllaw19.UndoDoes", spec := "undoDoes", inPlace := ["slices.overlaps[dactyl/api.Sign]"], unfollowed := true, recurses := true, named := ["unicode/utf8.first", "unicode/utf8.acceptRanges"], apart := false, laid := [("unicode/utf8.acceptRanges", laid_unicode_utf8_acceptRanges), ("unicode/utf8.first", laid_unicode_utf8_first)], narrowed := true }
def UndoDoesUptoSaid : Prop := undoDoesUptoRow.holds Tryd.pinned (OpenSpec.upto undoDoesSpec)

/-- 'dactyllaw19.UndoBounds', WHERE WHAT IT READS IS OF BULK AT MOST 1048576: true; the input reads as it did. -/
def undoBoundsUptoRow : OpenClaim := { program := "ytnpiooaiceegmaadoor", sum := "e042954a85e435514ab3dbd029276a092c8f4176080de0be8d3aa3201e805913", func := "dactyl/dactyllaw19.UndoBounds", spec := "undoBounds", inPlace := ["slices.overlaps[dactyl/api.Sign]"], unfollowed := true, recurses := true, named := ["unicode/utf8.first", "unicode/utf8.acceptRanges"], apart := false, laid := [("unicode/utf8.acceptRanges", laid_unicode_utf8_acceptRanges), ("unicode/utf8.first", laid_unicode_utf8_first)], narrowed := true }
def UndoBoundsUptoSaid : Prop := undoBoundsUptoRow.holds Tryd.pinned (OpenSpec.upto undoBoundsSpec)

/-- 'dactyllaw28.ViFits', WHERE WHAT IT READS IS OF BULK AT MOST 1048576: true; the input reads as it did. -/
def viFitsUptoRow : OpenClaim := { program := "ytnpiooaiceegmaadoor", sum := "e042954a85e435514ab3dbd029276a092c8f4176080de0be8d3aa3201e805913", func := "dactyl/dactyllaw28.ViFits", spec := "viFits", unfollowed := true, recurses := true, named := ["unicode/utf8.first", "unicode/utf8.acceptRanges", "dactyl/class.ranges", "dactyl/class.looks"], apart := false, laid := [("unicode/utf8.acceptRanges", laid_unicode_utf8_acceptRanges), ("dactyl/class.ranges", laid_dactyl_class_ranges), ("dactyl/class.looks", laid_dactyl_class_looks), ("unicode/utf8.first", laid_unicode_utf8_first)], narrowed := true }
def ViFitsUptoSaid : Prop := viFitsUptoRow.holds Tryd.pinned (OpenSpec.upto viFitsSpec)

/-- 'dactyllaw38.AuditPlace', WHERE WHAT IT READS IS OF BULK AT MOST 1048576: true; the input reads as it did. -/
def auditPlaceUptoRow : OpenClaim := { program := "ytnpiooaiceegmaadoor", sum := "e042954a85e435514ab3dbd029276a092c8f4176080de0be8d3aa3201e805913", func := "dactyl/dactyllaw38.AuditPlace", spec := "auditPlace", inPlace := ["internal/bytealg.IndexByteString", "internal/bytealg.IndexString"], unfollowed := true, recurses := true, named := ["unicode/utf8.first", "unicode/utf8.acceptRanges", "dactyl/class.ranges", "dactyl/class.looks", "internal/bytealg.MaxLen"], apart := false, laid := [("unicode/utf8.acceptRanges", laid_unicode_utf8_acceptRanges), ("dactyl/class.ranges", laid_dactyl_class_ranges), ("dactyl/class.looks", laid_dactyl_class_looks), ("unicode/utf8.first", laid_unicode_utf8_first)], narrowed := true }
def AuditPlaceUptoSaid : Prop := auditPlaceUptoRow.holds Tryd.pinned (OpenSpec.upto auditPlaceSpec)

/-- 'dactyllaw40.BindParses', WHERE WHAT IT READS IS OF BULK AT MOST 1048576: true; the input reads as it did. -/
def bindParsesUptoRow : OpenClaim := { program := "ytnpiooaiceegmaadoor", sum := "e042954a85e435514ab3dbd029276a092c8f4176080de0be8d3aa3201e805913", func := "dactyl/dactyllaw40.BindParses", spec := "bindParses", inPlace := ["internal/bytealg.CountString", "internal/bytealg.IndexByteString", "internal/bytealg.IndexString", "internal/abi.NoEscape", "internal/bytealg.abigen_runtime_cmpstring", "slices.overlaps[dactyl/bind.row]"], unfollowed := true, recurses := true, named := ["unicode/utf8.first", "unicode/utf8.acceptRanges", "internal/bytealg.MaxLen", "dactyl/key.named", "dactyl/emacs.names"], apart := false, laid := [("unicode/utf8.acceptRanges", laid_unicode_utf8_acceptRanges), ("dactyl/key.named", laid_dactyl_key_named), ("dactyl/emacs.names", laid_dactyl_emacs_names), ("unicode/utf8.first", laid_unicode_utf8_first)], narrowed := true }
def BindParsesUptoSaid : Prop := bindParsesUptoRow.holds Tryd.pinned (OpenSpec.upto bindParsesSpec)

end Rows
end Go.Proofs.YtnpiooaiceegmaaDoor
