/-
  The tables of keys and of the commands' names, laid: what the cards of emacs tie.
-/
import Derived.Test.YtdifkjmpdmlobaaDoorKCom
import Derived.Test.YtdifkjmpdmlobaaDoorEm1
set_option linter.unusedVariables false
set_option linter.unusedSimpArgs false
namespace Go.Proofs.YtdifkjmpdmlobaaDoor
set_option maxRecDepth 100000
open Go.ChangeShapes Go.WideShapes Go.ChangeAt Go.RowKit
namespace emsE
theorem own : ownKnob Tryd.prog.godebug = none := by kernel_rfl
theorem laidOut : laidOutB Tryd.prog = true := by kernel_rfl
theorem gN : Tryd.prog.globalNamed "dactyl/emacs.names" = some 0 := by kernel_rfl
theorem gNType : (Tryd.prog.globals[0]?).map (·.type) = some 110 := by kernel_rfl
theorem cellsS : Tryd.prog.cellsOf 9 = 1 := by kernel_rfl
def strD {H : Type} (s : ByteArray) : DataW H := .lit (.string s.data.toList)
theorem eN : (Rows.laid_dactyl_emacs_names : DataW Unit) = .agg (enS.map strD) := by kernel_rfl
def laid : List (String × DataW Unit) := [("dactyl/key.named", Rows.laid_dactyl_key_named), ("dactyl/emacs.names", Rows.laid_dactyl_emacs_names)]
section
variable {H : Type} {enc : TypeId × Value → H} {w : World} {base : Nat} {sp : Nat → Bool} {held : Bool}
theorem cells_of_str {fuel : Nat} {cs : List Value} {s : ByteArray} {p : List MemPlace} (h : DataW.trod enc Tryd.prog w base sp held fuel 9 cs = some (strD s, p)) : cs = [.string s] := by
  obtain ⟨z, hz, e, _⟩ := DataW.trod_string Tryd.underlying9 h
  have e1 : z.data.toList = s.data.toList := by
    have := congrArg Prod.fst e
    unfold strD at this
    injection this with h1
    injection h1 with h2
    exact h2.symm
  have e2 : z = s := by
    cases z; cases s
    simpa using e1
  rw [hz, e2]
theorem cells_of_tab {fuel : Nat} {cs : List Value} {p : List MemPlace} (h : DataW.trod enc Tryd.prog w base sp held fuel 110 cs = some (.agg (enS.map strD), p)) (i : Nat) (hi : i < 42) : cs[i]? = some (.string (enS.getD i ⟨#[]⟩)) := by
  obtain ⟨f2, d, q, hd, ht⟩ := Lib.array_elem Tryd.underlying110 h i hi
  rw [cellsS] at ht
  have hk : i < enS.length := hi
  rw [List.getElem?_map, List.getElem?_eq_getElem hk] at hd
  simp only [Option.map_some, Option.some.injEq] at hd
  subst hd
  have := cells_of_str ht
  have h0 : ((cs.drop (i * 1)).take 1)[0]? = some (.string enS[i]) := by rw [this]; rfl
  rw [List.getElem?_take, if_pos (by decide), List.getElem?_drop, Nat.mul_one, Nat.add_zero] at h0
  rw [h0, List.getD, List.getElem?_eq_getElem hk]; rfl
end
set_option maxRecDepth 100000 in
theorem tables {W : World} (h : laidMetH Tryd.prog laid W) : KT W ∧ EN W := by
  have hk : KT W := by
    have h3 : Lib.VarReads Tryd.prog W "dactyl/key.named" (.agg (kTab.map keyK.rowD)) := by rw [← keyK.eK]; exact Lib.laidMet.reads h (.head _)
    obtain ⟨g, t, cs, fuel, p, h1, h2, hv, hd⟩ := h3
    obtain rfl : 1 = g := Option.some.inj (keyK.gK.symm.trans h1)
    obtain rfl : 176 = t := Option.some.inj (keyK.gKType.symm.trans h2)
    have key : ∀ i, i < 52 → W.cell? ⟨1, i, none⟩ = kCells[i]? := fun i hi => by
      rw [World.var?_cell keyK.gK hv i, keyK.at_part kCells i, keyK.kCells_row ⟨i / 4, by omega⟩, ← keyK.cells_of_tab hd (i / 4) (by omega), ← keyK.at_part]
      simp
    exact ⟨key, block_lt_of_cell (key 0 (by decide))⟩
  have h3 : Lib.VarReads Tryd.prog W "dactyl/emacs.names" (.agg (enS.map strD)) := by rw [← eN]; exact Lib.laidMet.reads h (.tail _ (.head _))
  obtain ⟨g, t, cs, fuel, p, k1, k2, hv, hd⟩ := h3
  obtain rfl : 0 = g := Option.some.inj (gN.symm.trans k1)
  obtain rfl : 110 = t := Option.some.inj (gNType.symm.trans k2)
  have key : ∀ i, i < 42 → W.cell? ⟨0, i, none⟩ = some (.string (enS.getD i ⟨#[]⟩)) := fun i hi => by
    rw [World.var?_cell gN hv i]
    have := cells_of_tab hd i hi
    simpa using this
  exact ⟨hk, ⟨key, block_lt_of_cell (key 0 (by decide))⟩⟩
/-- A world for the witness: the settled one, the tables as their initialisers lay them. -/
def lay (cs : Array Value) : Obj → Obj
  | .cells _ t frozen => .cells cs t frozen
  | o => o
noncomputable def laidWorld (os : Os) : World :=
  { World.holding Tryd.prog os ⟨#[], #[], []⟩ with heap := ((World.holding Tryd.prog os ⟨#[], #[], []⟩).heap.modify 1 (lay kCells.toArray)).modify 0 (lay (enS.map Value.string).toArray) }
theorem laid_met (os : Os) (args : Array Value) : laidMet Tryd.prog laid ((laidWorld os).forCall (fun _ _ => 0) ⟨#[], args, []⟩).memory :=
  laidMet_of_run' 8 (by kernel_rfl) (by kernel_rfl)
end emsE
end Go.Proofs.YtdifkjmpdmlobaaDoor
