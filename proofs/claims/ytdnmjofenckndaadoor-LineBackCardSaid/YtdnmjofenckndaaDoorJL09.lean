/-
  Joined: LCom.
-/
import Derived.Test.YtdnmjofenckndaaDoorJL01
import Derived.Test.YtdnmjofenckndaaDoorJL03
import Derived.Test.YtdnmjofenckndaaDoorJL08
import Derived.Test.YtdnmjofenckndaaDoorCards
import Derived.Test.YtdnmjofenckndaaDoorTie
import Derived.Deep.DeepHandedRow
import Derived.Lib.LaidTab
import Derived.Lib.LaidU8
import Derived.Stop.LaidErr
set_option linter.unusedVariables false
set_option linter.unusedSimpArgs false
set_option maxRecDepth 100000
set_option linter.unusedVariables false
set_option linter.unusedSimpArgs false
namespace Go.Proofs.YtdnmjofenckndaaDoor
open Go.ChangeShapes Go.WideShapes Go.ChangeAt Go.RowKit
namespace lineC
theorem own : ownKnob Tryd.prog.godebug = none := by kernel_rfl
theorem laidOut : laidOutB Tryd.prog = true := by kernel_rfl
theorem gR : Tryd.prog.globalNamed "dactyl/class.ranges" = some 4 := by kernel_rfl
theorem gL : Tryd.prog.globalNamed "dactyl/class.looks" = some 6 := by kernel_rfl
theorem gRType : (Tryd.prog.globals[4]?).map (·.type) = some 289 := by kernel_rfl
theorem gLType : (Tryd.prog.globals[6]?).map (·.type) = some 299 := by kernel_rfl
theorem cellsR : Tryd.prog.cellsOf 289 = 159 := by kernel_rfl
theorem cellsL : Tryd.prog.cellsOf 299 = 102 := by kernel_rfl
theorem cellsE : Tryd.prog.cellsOf 21 = 1 := by kernel_rfl
theorem eFirst : (Rows.laid_unicode_utf8_first : DataW Unit) = Lib.firstData := by kernel_rfl
theorem eAcc : (Rows.laid_unicode_utf8_acceptRanges : DataW Unit) = Lib.acceptData := by kernel_rfl
theorem extra : U8Extra Tryd.prog Tryd.lays260_ren := ⟨by kernel_rfl, by kernel_rfl, by kernel_rfl, by kernel_rfl, by kernel_rfl, by kernel_rfl, by kernel_rfl⟩
def laid : List (String × DataW Unit) := [("unicode/utf8.acceptRanges", Rows.laid_unicode_utf8_acceptRanges), ("dactyl/class.ranges", Rows.laid_dactyl_class_ranges), ("dactyl/class.looks", Rows.laid_dactyl_class_looks), ("unicode/utf8.first", Rows.laid_unicode_utf8_first)]
set_option maxRecDepth 100000 in
theorem tables {W : World} (h : laidMetH Tryd.prog laid W) : LnT W := by
  have h1 : Lib.TabIs Tryd.prog W "dactyl/class.ranges" .i32 rng :=
    Lib.tabIs_of_head (rest := [("dactyl/class.looks", Rows.laid_dactyl_class_looks), ("unicode/utf8.first", Rows.laid_unicode_utf8_first)]) gR gRType Tryd.underlying289 Tryd.underlying21 cellsE cellsR (laidMet.tail h)
  have h2 : Lib.TabIs Tryd.prog W "dactyl/class.looks" .i32 lks :=
    Lib.tabIs_of_head (rest := [("unicode/utf8.first", Rows.laid_unicode_utf8_first)]) gL gLType Tryd.underlying299 Tryd.underlying21 cellsE cellsL (laidMet.tail (laidMet.tail h))
  have h3 : Lib.VarReads Tryd.prog W "unicode/utf8.acceptRanges" Lib.acceptData := by rw [← eAcc]; exact Lib.laidMet.reads h (.head _)
  have h4 : Lib.VarReads Tryd.prog W "unicode/utf8.first" Lib.firstData := by rw [← eFirst]; exact Lib.laidMet.reads h (.tail _ (.tail _ (.tail _ (.head _))))
  have ht : Lib.Utf8Tabs 8 9 W := utf8Tabs_of_reads Tryd.lays260 extra h4 h3
  exact ⟨⟨fun i hi => h1.cell gR i hi, fun i hi => h2.cell gL i hi, block_lt_of_cell (h1.cell gR 0 (by decide)), block_lt_of_cell (h2.cell gL 0 (by decide))⟩, ⟨ht, block_lt_of_cell (ht.1 0 (by decide)), block_lt_of_cell (ht.2 0 (by decide)).1⟩⟩
/-- A world for the witness: the settled one, the tables as their initialisers lay them. -/
def lay (cs : Array Value) : Obj → Obj
  | .cells _ t frozen => .cells cs t frozen
  | o => o
noncomputable def laidWorld (os : Os) : World :=
  { World.holding Tryd.prog os ⟨#[], #[], []⟩ with heap := ((((World.holding Tryd.prog os ⟨#[], #[], []⟩).heap.modify 4 (lay (rng.map (Value.int .i32)).toArray)).modify 6 (lay (lks.map (Value.int .i32)).toArray)).modify 8 (lay (Lib.firstTab.map fun z => Value.int .u8 z).toArray)).modify 9 (lay ((List.range 16).flatMap fun i => [Value.int .u8 (Lib.accLo i), Value.int .u8 (Lib.accHi i)]).toArray) }
theorem laid_met (os : Os) (args : Array Value) : laidMet Tryd.prog laid ((laidWorld os).forCall (fun _ _ => 0) ⟨#[], args, []⟩).memory :=
  laidMet_of_run' 8 (by kernel_rfl) (by kernel_rfl)
end lineC
end Go.Proofs.YtdnmjofenckndaaDoor
