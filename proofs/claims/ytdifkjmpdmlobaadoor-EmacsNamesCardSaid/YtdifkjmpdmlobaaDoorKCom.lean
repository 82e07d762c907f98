/-
  The table of keys, laid: what the cards of key and of what stands on it tie.
-/
import Derived.Test.YtdifkjmpdmlobaaDoorKy2
import Derived.Test.YtdifkjmpdmlobaaDoorLaw
import Derived.Test.YtdifkjmpdmlobaaDoorCards
import Derived.Test.YtdifkjmpdmlobaaDoorTie
import Derived.Deep.DeepHandedRow
import Derived.Lib.LaidTab
import Derived.Lib.LaidU8
import Derived.Stop.LaidErr
set_option linter.unusedVariables false
set_option linter.unusedSimpArgs false
namespace Go.Proofs.YtdifkjmpdmlobaaDoor
set_option maxRecDepth 100000
open Go.ChangeShapes Go.WideShapes Go.ChangeAt Go.RowKit
namespace keyK
theorem own : ownKnob Tryd.prog.godebug = none := by kernel_rfl
theorem laidOut : laidOutB Tryd.prog = true := by kernel_rfl
theorem gK : Tryd.prog.globalNamed "dactyl/key.named" = some 1 := by kernel_rfl
theorem gKType : (Tryd.prog.globals[1]?).map (·.type) = some 176 := by kernel_rfl
theorem cellsK : Tryd.prog.cellsOf 176 = 52 := by kernel_rfl
theorem cellsR : Tryd.prog.cellsOf 170 = 4 := by kernel_rfl
theorem cellsI : Tryd.prog.cellsOf 3 = 1 := by kernel_rfl
theorem cellsS : Tryd.prog.cellsOf 9 = 1 := by kernel_rfl
def rowD {H : Type} (r : KRow) : DataW H := .agg [.lit (.int .i64 r.1), .lit (.int .i64 r.2.1), .lit (.string r.2.2.1), .lit (.string r.2.2.2)]
theorem eK : (Rows.laid_dactyl_key_named : DataW Unit) = .agg (kTab.map rowD) := by kernel_rfl
def laid : List (String × DataW Unit) := [("dactyl/key.named", Rows.laid_dactyl_key_named)]
section
variable {H : Type} {enc : TypeId × Value → H} {w : World} {base : Nat} {sp : Nat → Bool} {held : Bool}
theorem cells_of_row {fuel : Nat} {cs : List Value} {r : KRow} {p : List MemPlace} (h : DataW.trod enc Tryd.prog w base sp held fuel 170 cs = some (rowD r, p)) : cs = rowL r := by
  obtain ⟨xs, n, rfl, hx, hl, hxl, hall⟩ := DataW.trod_struct Tryd.underlying170 h
  rw [cellsR] at hl
  have hxs : xs.map (·.1) = [.lit (.int .i64 r.1), .lit (.int .i64 r.2.1), .lit (.string r.2.2.1), .lit (.string r.2.2.2)] := by
    have := congrArg Prod.fst hx
    simpa [rowD] using this.symm
  match cs, hl, xs, hxl, hxs with
  | [c0, c1, c2, c3], _, [y0, y1, y2, y3], _, hxs =>
    have a0 : DataW.trod enc Tryd.prog w base sp held n 3 ([c0, c1, c2, c3].take (Tryd.prog.cellsOf 3)) = some y0 := hall 0 _ rfl
    have a1 : DataW.trod enc Tryd.prog w base sp held n 3 ([c1, c2, c3].take (Tryd.prog.cellsOf 3)) = some y1 := hall 1 _ rfl
    have a2 : DataW.trod enc Tryd.prog w base sp held n 9 ([c2, c3].take (Tryd.prog.cellsOf 9)) = some y2 := hall 2 _ rfl
    have a3 : DataW.trod enc Tryd.prog w base sp held n 9 ([c3].take (Tryd.prog.cellsOf 9)) = some y3 := hall 3 _ rfl
    rw [cellsI] at a0 a1
    rw [cellsS] at a2 a3
    simp only [List.map_cons, List.map_nil, List.cons.injEq, and_true] at hxs
    obtain ⟨x0, x1, x2, x3⟩ := hxs
    obtain ⟨z0, h0, e0, _⟩ := DataW.trod_int Tryd.underlying3 a0
    obtain ⟨z1, h1, e1, _⟩ := DataW.trod_int Tryd.underlying3 a1
    obtain ⟨z2, h2, e2, _⟩ := DataW.trod_string Tryd.underlying9 a2
    obtain ⟨z3, h3, e3, _⟩ := DataW.trod_string Tryd.underlying9 a3
    rw [e0] at x0; rw [e1] at x1; rw [e2] at x2; rw [e3] at x3
    replace h0 : [c0] = _ := h0; replace h1 : [c1] = _ := h1; replace h2 : [c2] = _ := h2; replace h3 : [c3] = _ := h3
    simp at x0 x1 x2 x3 h0 h1 h2 h3
    subst h0; subst h1; subst h2; subst h3
    unfold rowL
    rw [← x0, ← x1, ← x2, ← x3]
theorem cells_of_tab {fuel : Nat} {cs : List Value} {p : List MemPlace} (h : DataW.trod enc Tryd.prog w base sp held fuel 176 cs = some (.agg (kTab.map rowD), p)) (i : Nat) (hi : i < 13) : (cs.drop (i * 4)).take 4 = rowL (kTab.getD i kr0) := by
  obtain ⟨f2, d, q, hd, ht⟩ := Lib.array_elem Tryd.underlying176 h i hi
  rw [cellsR] at ht
  have hk : i < kTab.length := hi
  rw [List.getElem?_map, List.getElem?_eq_getElem hk] at hd
  simp only [Option.map_some, Option.some.injEq] at hd
  subst hd
  rw [cells_of_row ht, List.getD, List.getElem?_eq_getElem hk]; rfl
theorem kCells_at : ∀ i : Fin 52, ((rowL (kTab.getD (i.val / 4) kr0))[i.val % 4]?).isSome = true := by decide
theorem kCells_row : ∀ i : Fin 13, (kCells.drop (i.val * 4)).take 4 = rowL (kTab.getD i.val kr0) := by
  intro i
  match i with
  | ⟨0, _⟩ => rfl
  | ⟨1, _⟩ => rfl
  | ⟨2, _⟩ => rfl
  | ⟨3, _⟩ => rfl
  | ⟨4, _⟩ => rfl
  | ⟨5, _⟩ => rfl
  | ⟨6, _⟩ => rfl
  | ⟨7, _⟩ => rfl
  | ⟨8, _⟩ => rfl
  | ⟨9, _⟩ => rfl
  | ⟨10, _⟩ => rfl
  | ⟨11, _⟩ => rfl
  | ⟨12, _⟩ => rfl
theorem at_part {α : Type} (l : List α) (i : Nat) : l[i]? = ((l.drop (i / 4 * 4)).take 4)[i % 4]? := by
  rw [List.getElem?_take, if_pos (by omega), List.getElem?_drop]; congr 1; omega
end
set_option maxRecDepth 100000 in
theorem tables {W : World} (h : laidMetH Tryd.prog laid W) : KT W := by
  have h3 : Lib.VarReads Tryd.prog W "dactyl/key.named" (.agg (kTab.map rowD)) := by rw [← eK]; exact Lib.laidMet.reads h (.head _)
  obtain ⟨g, t, cs, fuel, p, h1, h2, hv, hd⟩ := h3
  obtain rfl : 1 = g := Option.some.inj (gK.symm.trans h1)
  obtain rfl : 176 = t := Option.some.inj (gKType.symm.trans h2)
  have key : ∀ i, i < 52 → W.cell? ⟨1, i, none⟩ = kCells[i]? := fun i hi => by
    rw [World.var?_cell gK hv i, at_part kCells i, kCells_row ⟨i / 4, by omega⟩, ← cells_of_tab hd (i / 4) (by omega), ← at_part]
    simp
  exact ⟨key, block_lt_of_cell (key 0 (by decide))⟩
/-- A world for the witness: the settled one, the table as its initialiser lays it. -/
def lay (cs : Array Value) : Obj → Obj
  | .cells _ t frozen => .cells cs t frozen
  | o => o
noncomputable def laidWorld (os : Os) : World :=
  { World.holding Tryd.prog os ⟨#[], #[], []⟩ with heap := (World.holding Tryd.prog os ⟨#[], #[], []⟩).heap.modify 1 (lay kCells.toArray) }
theorem laid_met (os : Os) (args : Array Value) : laidMet Tryd.prog laid ((laidWorld os).forCall (fun _ _ => 0) ⟨#[], args, []⟩).memory :=
  laidMet_of_run' 8 (by kernel_rfl) (by kernel_rfl)
end keyK
end Go.Proofs.YtdifkjmpdmlobaaDoor
