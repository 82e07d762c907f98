import Derived.Test.YtfhcfamjlhmgiaaDoorC8
import Derived.Test.YtfhcfamjlhmgiaaDoorLaw
import Derived.Test.YtfhcfamjlhmgiaaDoorCards
import Derived.Test.YtfhcfamjlhmgiaaDoorTie
import Derived.Deep.DeepHandedRow
import Derived.Lib.LaidTab
import Derived.Stop.LaidErr
namespace Go.Proofs.YtfhcfamjlhmgiaaDoor
set_option maxRecDepth 100000
open Go.ChangeShapes Go.WideShapes Go.ChangeAt Go.RowKit
namespace clsC
theorem own : ownKnob Tryd.prog.godebug = none := by kernel_rfl
theorem laidOut : laidOutB Tryd.prog = true := by kernel_rfl
theorem gR : Tryd.prog.globalNamed "dactyl/class.ranges" = some 1 := by kernel_rfl
theorem gL : Tryd.prog.globalNamed "dactyl/class.looks" = some 2 := by kernel_rfl
theorem gRType : (Tryd.prog.globals[1]?).map (·.type) = some 133 := by kernel_rfl
theorem gLType : (Tryd.prog.globals[2]?).map (·.type) = some 141 := by kernel_rfl
theorem cellsR : Tryd.prog.cellsOf 133 = 159 := by kernel_rfl
theorem cellsL : Tryd.prog.cellsOf 141 = 102 := by kernel_rfl
theorem cellsE : Tryd.prog.cellsOf 21 = 1 := by kernel_rfl
def laid : List (String × DataW Unit) := [("dactyl/class.ranges", Rows.laid_dactyl_class_ranges), ("dactyl/class.looks", Rows.laid_dactyl_class_looks)]
set_option maxRecDepth 100000 in
theorem tables {W : World} (h : laidMetH Tryd.prog laid W) : Tabs W := by
  have h1 : Lib.TabIs Tryd.prog W "dactyl/class.ranges" .i32 rng :=
    Lib.tabIs_of_head (rest := [("dactyl/class.looks", Rows.laid_dactyl_class_looks)]) gR gRType Tryd.underlying133 Tryd.underlying21 cellsE cellsR h
  have h2 : Lib.TabIs Tryd.prog W "dactyl/class.looks" .i32 lks :=
    Lib.tabIs_of_head (rest := []) gL gLType Tryd.underlying141 Tryd.underlying21 cellsE cellsL (laidMet.tail h)
  exact ⟨fun i hi => h1.cell gR i hi, fun i hi => h2.cell gL i hi, block_lt_of_cell (h1.cell gR 0 (by decide)), block_lt_of_cell (h2.cell gL 0 (by decide))⟩
/-- A world for the witness: the settled one, the tables as their initialisers lay them. -/
def lay (cs : Array Value) : Obj → Obj
  | .cells _ t frozen => .cells cs t frozen
  | o => o
noncomputable def laidWorld (os : Os) : World :=
  { World.holding Tryd.prog os ⟨#[], #[], []⟩ with heap := ((World.holding Tryd.prog os ⟨#[], #[], []⟩).heap.modify 1 (lay (rng.map (Value.int .i32)).toArray)).modify 2 (lay (lks.map (Value.int .i32)).toArray) }
theorem laid_met (os : Os) (args : Array Value) : laidMet Tryd.prog laid ((laidWorld os).forCall (fun _ _ => 0) ⟨#[], args, []⟩).memory :=
  laidMet_of_run' 8 (by kernel_rfl) (by kernel_rfl)
end clsC
end Go.Proofs.YtfhcfamjlhmgiaaDoor
