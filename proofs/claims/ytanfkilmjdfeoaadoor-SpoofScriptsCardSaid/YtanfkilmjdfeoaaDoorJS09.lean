/-
  Joined: PCom ArgSt.
-/
import Derived.Test.YtanfkilmjdfeoaaDoorJS01
import Derived.Test.YtanfkilmjdfeoaaDoorJS04
import Derived.Test.YtanfkilmjdfeoaaDoorJS07
import Derived.Test.YtanfkilmjdfeoaaDoorCards
import Derived.Test.YtanfkilmjdfeoaaDoorTie
import Derived.Deep.DeepHandedRow
import Derived.Lib.LaidTab
import Derived.Lib.LaidU8
import Derived.Stop.LaidErr
import Derived.Deep.SlicePairs
import Derived.ChangeArms
import Derived.Lib.SmallJoins
set_option linter.unusedVariables false
set_option linter.unusedSimpArgs false
set_option maxRecDepth 100000
set_option linter.unusedVariables false
set_option linter.unusedSimpArgs false
namespace Go.Proofs.YtanfkilmjdfeoaaDoor
open Go.ChangeShapes Go.WideShapes Go.ChangeAt Go.RowKit
namespace spofP
theorem own : ownKnob Tryd.prog.godebug = none := by kernel_rfl
theorem laidOut : laidOutB Tryd.prog = true := by kernel_rfl
theorem gR : Tryd.prog.globalNamed "dactyl/class.ranges" = some 2 := by kernel_rfl
theorem gL : Tryd.prog.globalNamed "dactyl/class.looks" = some 1 := by kernel_rfl
theorem gRType : (Tryd.prog.globals[2]?).map (·.type) = some 151 := by kernel_rfl
theorem gLType : (Tryd.prog.globals[1]?).map (·.type) = some 130 := by kernel_rfl
theorem cellsR : Tryd.prog.cellsOf 151 = 159 := by kernel_rfl
theorem cellsL : Tryd.prog.cellsOf 130 = 102 := by kernel_rfl
theorem cellsE : Tryd.prog.cellsOf 21 = 1 := by kernel_rfl
theorem eFirst : (Rows.laid_unicode_utf8_first : DataW Unit) = Lib.firstData := by kernel_rfl
theorem eAcc : (Rows.laid_unicode_utf8_acceptRanges : DataW Unit) = Lib.acceptData := by kernel_rfl
theorem extra : U8Extra Tryd.prog Tryd.lays260_ren := ⟨by kernel_rfl, by kernel_rfl, by kernel_rfl, by kernel_rfl, by kernel_rfl, by kernel_rfl, by kernel_rfl⟩
def laid : List (String × DataW Unit) := [("unicode/utf8.acceptRanges", Rows.laid_unicode_utf8_acceptRanges), ("dactyl/class.ranges", Rows.laid_dactyl_class_ranges), ("dactyl/class.looks", Rows.laid_dactyl_class_looks), ("unicode/utf8.first", Rows.laid_unicode_utf8_first)]
set_option maxRecDepth 100000 in
theorem tables {W : World} (h : laidMetH Tryd.prog laid W) : SpT W := by
  have h1 : Lib.TabIs Tryd.prog W "dactyl/class.ranges" .i32 rng :=
    Lib.tabIs_of_head (rest := [("dactyl/class.looks", Rows.laid_dactyl_class_looks), ("unicode/utf8.first", Rows.laid_unicode_utf8_first)]) gR gRType Tryd.underlying151 Tryd.underlying21 cellsE cellsR (laidMet.tail h)
  have h2 : Lib.TabIs Tryd.prog W "dactyl/class.looks" .i32 lks :=
    Lib.tabIs_of_head (rest := [("unicode/utf8.first", Rows.laid_unicode_utf8_first)]) gL gLType Tryd.underlying130 Tryd.underlying21 cellsE cellsL (laidMet.tail (laidMet.tail h))
  have h3 : Lib.VarReads Tryd.prog W "unicode/utf8.acceptRanges" Lib.acceptData := by rw [← eAcc]; exact Lib.laidMet.reads h (.head _)
  have h4 : Lib.VarReads Tryd.prog W "unicode/utf8.first" Lib.firstData := by rw [← eFirst]; exact Lib.laidMet.reads h (.tail _ (.tail _ (.tail _ (.head _))))
  have ht : Lib.Utf8Tabs 5 6 W := utf8Tabs_of_reads Tryd.lays260 extra h4 h3
  exact ⟨⟨fun i hi => h1.cell gR i hi, fun i hi => h2.cell gL i hi, block_lt_of_cell (h1.cell gR 0 (by decide)), block_lt_of_cell (h2.cell gL 0 (by decide))⟩, ⟨ht, block_lt_of_cell (ht.1 0 (by decide)), block_lt_of_cell (ht.2 0 (by decide)).1⟩⟩
/-- A world for the witness: the settled one, the tables as their initialisers lay them. -/
def lay (cs : Array Value) : Obj → Obj
  | .cells _ t frozen => .cells cs t frozen
  | o => o
noncomputable def laidWorld (os : Os) : World :=
  { World.holding Tryd.prog os ⟨#[], #[], []⟩ with heap := ((((World.holding Tryd.prog os ⟨#[], #[], []⟩).heap.modify 2 (lay (rng.map (Value.int .i32)).toArray)).modify 1 (lay (lks.map (Value.int .i32)).toArray)).modify 5 (lay (Lib.firstTab.map fun z => Value.int .u8 z).toArray)).modify 6 (lay ((List.range 16).flatMap fun i => [Value.int .u8 (Lib.accLo i), Value.int .u8 (Lib.accHi i)]).toArray) }
theorem laid_met (os : Os) (args : Array Value) : laidMet Tryd.prog laid ((laidWorld os).forCall (fun _ _ => 0) ⟨#[], args, []⟩).memory :=
  laidMet_of_run' 8 (by kernel_rfl) (by kernel_rfl)
end spofP
end Go.Proofs.YtanfkilmjdfeoaaDoor
set_option linter.unusedVariables false
set_option linter.unusedSimpArgs false
namespace Go.Proofs.YtanfkilmjdfeoaaDoor
open Go.ChangeShapes Go.WideShapes Go.ChangeAt Go.RowKit Go.Deep Go.Joins
section
variable {H : Type} {enc : TypeId × Value → H} {W : World}
theorem addT_none (b off k : Nat) : (⟨b, off, none⟩ : Addr).add k = ⟨b, off + k, none⟩ := by unfold Addr.add; split <;> simp_all
set_option maxRecDepth 100000 in
theorem cellsStrT : Tryd.prog.cellsOf 9 = 1 := by kernel_rfl
set_option maxRecDepth 100000 in
theorem arg_strs {base : Nat} {v0 : Value} {d0 : DataW H} {p : List MemPlace} (hv : Value.okWide Tryd.prog W .any base 30 v0) (h : DataW.Trod enc Tryd.prog W 0 (fun _ => true) true 30 v0 d0 p) :
    ∃ (l : List ByteArray) (a : Option Addr) (c : Nat), v0 = .slice a l.length c ∧ StrsIn W a l ∧ l.length ≤ 9223372036854775807 ∧ ∀ i, i < l.length → (l.getD i ⟨#[]⟩).size ≤ 9223372036854775807 := by
  obtain ⟨a0, len, cap, rfl⟩ := okWide_slice Tryd.underlying30 hv
  obtain ⟨fuel, hf⟩ := h
  rcases open_slice Tryd.underlying30 hf with ⟨hcs, _⟩ | ⟨a, len', cap', m, n, D, Pl, hcs, _, hl, hm, hmm, _, hx⟩
  · simp [Value.cells] at hcs
    obtain ⟨rfl, rfl, rfl⟩ := hcs
    exact ⟨[], none, 0, rfl, fun j hj => absurd hj (Nat.not_lt_zero j), by simp, fun j hj => absurd hj (Nat.not_lt_zero j)⟩
  · simp [Value.cells] at hcs
    obtain ⟨rfl, rfl, rfl⟩ := hcs
    have hlm : len ≤ m := by rw [hmm]; split <;> omega
    have key : ∀ i, i < len → ∃ q : ByteArray, W.cell? (a.add i) = some (.string q) ∧ q.size ≤ 9223372036854775807 := by
      intro i hi
      obtain ⟨cs', h1, h2⟩ := hx i (by omega)
      rw [cellsStrT] at h1
      obtain ⟨_, hlen, hcell⟩ := World.cells?_some h1
      obtain ⟨x0, hx0, _, hx1⟩ := DataW.trod_string Tryd.underlying9 h2
      have e0 := hcell 0 (by omega)
      rw [add_add] at e0
      exact ⟨x0, by simpa [hx0] using e0, by unfold maxLen at hx1; omega⟩
    obtain ⟨F, hF⟩ : ∃ F : Nat → ByteArray, ∀ i, i < len → W.cell? (a.add i) = some (.string (F i)) ∧ (F i).size ≤ 9223372036854775807 :=
      ⟨fun i => if h : i < len then (key i h).choose else ⟨#[]⟩, fun i hi => by simp only [dif_pos hi]; exact (key i hi).choose_spec⟩
    clear key
    have hgs : ∀ j, j < len → ((List.range len).map F).getD j ⟨#[]⟩ = F j := fun j hj2 => by
      rw [List.getD, List.getElem?_map, List.getElem?_range hj2]; rfl
    refine ⟨(List.range len).map F, some a, cap, by simp, ?_, by simp; unfold maxLen at hm; omega, fun j hj => by rw [hgs j (by simpa using hj)]; exact (hF j (by simpa using hj)).2⟩
    intro j hj
    have hj2 : j < len := by simpa using hj
    have c0 := (hF j hj2).1
    obtain ⟨b, off, sp⟩ := a
    have hsp : sp = none := by
      have c00 := (hF 0 (by omega)).1
      have h1 : W.cell? ⟨b, off, sp⟩ = some (.string (F 0)) := by simpa [Addr.add] using c00
      exact cell_spot h1
    subst hsp
    rw [addT_none] at c0
    rw [hgs j hj2]
    exact ⟨b, off, rfl, block_lt_of_cell c0, c0⟩
end
end Go.Proofs.YtanfkilmjdfeoaaDoor
