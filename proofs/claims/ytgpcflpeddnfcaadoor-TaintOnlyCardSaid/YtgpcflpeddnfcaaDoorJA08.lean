/-
  Joined: TCom.
-/
import Derived.Test.YtgpcflpeddnfcaaDoorJA01
import Derived.Test.YtgpcflpeddnfcaaDoorJA03
import Derived.Test.YtgpcflpeddnfcaaDoorJA07
import Derived.Test.YtgpcflpeddnfcaaDoorCards
import Derived.Test.YtgpcflpeddnfcaaDoorTie
import Derived.Deep.DeepHandedRow
import Derived.Lib.LaidTab
import Derived.Lib.LaidU8
import Derived.Stop.LaidErr
set_option linter.unusedVariables false
set_option linter.unusedSimpArgs false
set_option maxRecDepth 100000
set_option linter.unusedVariables false
set_option linter.unusedSimpArgs false
namespace Go.Proofs.YtgpcflpeddnfcaaDoor
open Go.ChangeShapes Go.WideShapes Go.ChangeAt Go.RowKit
namespace tntC
theorem own : ownKnob Tryd.prog.godebug = none := by kernel_rfl
theorem laidOut : laidOutB Tryd.prog = true := by kernel_rfl
theorem gR : Tryd.prog.globalNamed "dactyl/class.ranges" = some 3 := by kernel_rfl
theorem gL : Tryd.prog.globalNamed "dactyl/class.looks" = some 5 := by kernel_rfl
theorem gN : Tryd.prog.globalNamed "dactyl/taint.names" = some 2 := by kernel_rfl
theorem gRType : (Tryd.prog.globals[3]?).map (·.type) = some 237 := by kernel_rfl
theorem gLType : (Tryd.prog.globals[5]?).map (·.type) = some 251 := by kernel_rfl
theorem gNType : (Tryd.prog.globals[2]?).map (·.type) = some 204 := by kernel_rfl
theorem cellsR : Tryd.prog.cellsOf 237 = 159 := by kernel_rfl
theorem cellsL : Tryd.prog.cellsOf 251 = 102 := by kernel_rfl
theorem cellsE : Tryd.prog.cellsOf 21 = 1 := by kernel_rfl
theorem cellsS : Tryd.prog.cellsOf 9 = 1 := by kernel_rfl
def strD {H : Type} (s : ByteArray) : DataW H := .lit (.string s.data.toList)
theorem eN : (Rows.laid_dactyl_taint_names : DataW Unit) = .agg (tnS.map strD) := by kernel_rfl
def laid : List (String × DataW Unit) := [("dactyl/class.ranges", Rows.laid_dactyl_class_ranges), ("dactyl/class.looks", Rows.laid_dactyl_class_looks), ("dactyl/taint.names", Rows.laid_dactyl_taint_names)]
section
variable {H : Type} {enc : TypeId × Value → H} {w : World} {base : Nat} {sp : Nat → Bool} {held : Bool}
theorem cells_of_str {fuel : Nat} {cs : List Value} {s : ByteArray} {p : List MemPlace} (h : DataW.trod enc Tryd.prog w base sp held fuel 9 cs = some (strD s, p)) : cs = [.string s] := by
  obtain ⟨z, hz, e, _⟩ := DataW.trod_string Tryd.underlying9 h
  have e1 : z.data.toList = s.data.toList := by
    have := congrArg Prod.fst e
    unfold strD at this
    injection this with h1
    injection h1 with h2
    exact h2.symm
  have e2 : z = s := by
    cases z; cases s
    simpa using e1
  rw [hz, e2]
theorem cells_of_tab {fuel : Nat} {cs : List Value} {p : List MemPlace} (h : DataW.trod enc Tryd.prog w base sp held fuel 204 cs = some (.agg (tnS.map strD), p)) (i : Nat) (hi : i < 6) : cs[i]? = some (.string (tnS.getD i ⟨#[]⟩)) := by
  obtain ⟨f2, d, q, hd, ht⟩ := Lib.array_elem Tryd.underlying204 h i hi
  rw [cellsS] at ht
  have hk : i < tnS.length := hi
  rw [List.getElem?_map, List.getElem?_eq_getElem hk] at hd
  simp only [Option.map_some, Option.some.injEq] at hd
  subst hd
  have := cells_of_str ht
  have h0 : ((cs.drop (i * 1)).take 1)[0]? = some (.string tnS[i]) := by rw [this]; rfl
  rw [List.getElem?_take, if_pos (by decide), List.getElem?_drop, Nat.mul_one, Nat.add_zero] at h0
  rw [h0, List.getD, List.getElem?_eq_getElem hk]; rfl
end
set_option maxRecDepth 100000 in
theorem tables {W : World} (h : laidMetH Tryd.prog laid W) : Tabs W ∧ TN W := by
  have h1 : Lib.TabIs Tryd.prog W "dactyl/class.ranges" .i32 rng :=
    Lib.tabIs_of_head (rest := [("dactyl/class.looks", Rows.laid_dactyl_class_looks), ("dactyl/taint.names", Rows.laid_dactyl_taint_names)]) gR gRType Tryd.underlying237 Tryd.underlying21 cellsE cellsR h
  have h2 : Lib.TabIs Tryd.prog W "dactyl/class.looks" .i32 lks :=
    Lib.tabIs_of_head (rest := [("dactyl/taint.names", Rows.laid_dactyl_taint_names)]) gL gLType Tryd.underlying251 Tryd.underlying21 cellsE cellsL (laidMet.tail h)
  have h3 : Lib.VarReads Tryd.prog W "dactyl/taint.names" (.agg (tnS.map strD)) := by rw [← eN]; exact Lib.laidMet.reads h (.tail _ (.tail _ (.head _)))
  obtain ⟨g, t, cs, fuel, p, k1, k2, hv, hd⟩ := h3
  obtain rfl : 2 = g := Option.some.inj (gN.symm.trans k1)
  obtain rfl : 204 = t := Option.some.inj (gNType.symm.trans k2)
  have key : ∀ i, i < 6 → W.cell? ⟨2, i, none⟩ = some (.string (tnS.getD i ⟨#[]⟩)) := fun i hi => by
    rw [World.var?_cell gN hv i]
    have := cells_of_tab hd i hi
    simpa using this
  exact ⟨⟨fun i hi => h1.cell gR i hi, fun i hi => h2.cell gL i hi, block_lt_of_cell (h1.cell gR 0 (by decide)), block_lt_of_cell (h2.cell gL 0 (by decide))⟩, ⟨key, block_lt_of_cell (key 0 (by decide))⟩⟩
/-- A world for the witness: the settled one, the tables as their initialisers lay them. -/
def lay (cs : Array Value) : Obj → Obj
  | .cells _ t frozen => .cells cs t frozen
  | o => o
noncomputable def laidWorld (os : Os) : World :=
  { World.holding Tryd.prog os ⟨#[], #[], []⟩ with heap := (((World.holding Tryd.prog os ⟨#[], #[], []⟩).heap.modify 3 (lay (rng.map (Value.int .i32)).toArray)).modify 5 (lay (lks.map (Value.int .i32)).toArray)).modify 2 (lay (tnS.map Value.string).toArray) }
theorem laid_met (os : Os) (args : Array Value) : laidMet Tryd.prog laid ((laidWorld os).forCall (fun _ _ => 0) ⟨#[], args, []⟩).memory :=
  laidMet_of_run' 8 (by kernel_rfl) (by kernel_rfl)
end tntC
end Go.Proofs.YtgpcflpeddnfcaaDoor
