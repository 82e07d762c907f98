/-
  Joined: EvCom ArgEv.
-/
import Derived.Test.YtldblffhkokhlaaDoorJV08
import Derived.Test.YtldblffhkokhlaaDoorJV11
import Derived.Test.YtldblffhkokhlaaDoorJV12
import Derived.Test.YtldblffhkokhlaaDoorJV13
set_option linter.unusedVariables false
set_option linter.unusedSimpArgs false
set_option maxRecDepth 100000
set_option linter.unusedVariables false
set_option linter.unusedSimpArgs false
namespace Go.Proofs.YtldblffhkokhlaaDoor
open Go.ChangeShapes Go.WideShapes Go.ChangeAt Go.RowKit
namespace evtV
theorem own : ownKnob Tryd.prog.godebug = none := by kernel_rfl
theorem laidOut : laidOutB Tryd.prog = true := by kernel_rfl
theorem gV : Tryd.prog.globalNamed "dactyl/event.kinds" = some 0 := by kernel_rfl
theorem gVType : (Tryd.prog.globals[0]?).map (·.type) = some 131 := by kernel_rfl
theorem cellsR : Tryd.prog.cellsOf 79 = 3 := by kernel_rfl
theorem cellsI : Tryd.prog.cellsOf 3 = 1 := by kernel_rfl
theorem cellsS : Tryd.prog.cellsOf 9 = 1 := by kernel_rfl
theorem cellsB : Tryd.prog.cellsOf 4 = 1 := by kernel_rfl
def rowD {H : Type} (k : Int) : DataW H := .agg [.lit (.int .i64 k), .lit (.string (evN k)), .lit (.bool (evAb k))]
theorem eV : (Rows.laid_dactyl_event_kinds : DataW Unit) = .agg (evTab.map rowD) := by kernel_rfl
def laid : List (String × DataW Unit) := [("unicode/utf8.acceptRanges", Rows.laid_unicode_utf8_acceptRanges), ("dactyl/event.kinds", Rows.laid_dactyl_event_kinds), ("unicode/utf8.first", Rows.laid_unicode_utf8_first)]
section
variable {H : Type} {enc : TypeId × Value → H} {w : World} {base : Nat} {sp : Nat → Bool} {held : Bool}
theorem cells_of_rowV {fuel : Nat} {cs : List Value} {r : Int} {p : List MemPlace} (h : DataW.trod enc Tryd.prog w base sp held fuel 79 cs = some (rowD r, p)) : cs = evRow r := by
  obtain ⟨xs, n, rfl, hx, hl, hxl, hall⟩ := DataW.trod_struct Tryd.underlying79 h
  rw [cellsR] at hl
  have hxs : xs.map (·.1) = [.lit (.int .i64 r), .lit (.string (evN r)), .lit (.bool (evAb r))] := by
    have := congrArg Prod.fst hx
    simpa [rowD] using this.symm
  match cs, hl, xs, hxl, hxs with
  | [c0, c1, c2], _, [y0, y1, y2], _, hxs =>
    have a0 : DataW.trod enc Tryd.prog w base sp held n 3 ([c0, c1, c2].take (Tryd.prog.cellsOf 3)) = some y0 := hall 0 _ rfl
    have a1 : DataW.trod enc Tryd.prog w base sp held n 9 ([c1, c2].take (Tryd.prog.cellsOf 9)) = some y1 := hall 1 _ rfl
    have a2 : DataW.trod enc Tryd.prog w base sp held n 4 ([c2].take (Tryd.prog.cellsOf 4)) = some y2 := hall 2 _ rfl
    rw [cellsI] at a0
    rw [cellsS] at a1
    rw [cellsB] at a2
    simp only [List.map_cons, List.map_nil, List.cons.injEq, and_true] at hxs
    obtain ⟨x0, x1, x2⟩ := hxs
    obtain ⟨z0, h0, e0, _⟩ := DataW.trod_int Tryd.underlying3 a0
    obtain ⟨z1, h1, e1, _⟩ := DataW.trod_string Tryd.underlying9 a1
    obtain ⟨z2, h2, e2⟩ := DataW.trod_bool Tryd.underlying4 a2
    rw [e0] at x0; rw [e1] at x1; rw [e2] at x2
    replace h0 : [c0] = _ := h0; replace h1 : [c1] = _ := h1; replace h2 : [c2] = _ := h2
    simp at x0 x1 x2 h0 h1 h2
    subst h0; subst h1; subst h2
    unfold evRow mkL
    rw [← x1, ← x2, ← x0]
theorem cells_of_tabV {fuel : Nat} {cs : List Value} {p : List MemPlace} (h : DataW.trod enc Tryd.prog w base sp held fuel 131 cs = some (.agg (evTab.map rowD), p)) (i : Nat) (hi : i < 6) : (cs.drop (i * 3)).take 3 = evRow (evTab.getD i 0) := by
  obtain ⟨f2, d, q, hd, ht⟩ := Lib.array_elem Tryd.underlying131 h i hi
  rw [cellsR] at ht
  have hk : i < evTab.length := hi
  rw [List.getElem?_map, List.getElem?_eq_getElem hk] at hd
  simp only [Option.map_some, Option.some.injEq] at hd
  subst hd
  rw [cells_of_rowV ht, List.getD, List.getElem?_eq_getElem hk]; rfl
theorem evCells_row : ∀ i : Fin 6, (evCells.drop (i.val * 3)).take 3 = evRow (evTab.getD i.val 0) := by
  intro i
  match i with
  | ⟨0, _⟩ => rfl
  | ⟨1, _⟩ => rfl
  | ⟨2, _⟩ => rfl
  | ⟨3, _⟩ => rfl
  | ⟨4, _⟩ => rfl
  | ⟨5, _⟩ => rfl
theorem at_part3 {α : Type} (l : List α) (i : Nat) : l[i]? = ((l.drop (i / 3 * 3)).take 3)[i % 3]? := by
  rw [List.getElem?_take, if_pos (by omega), List.getElem?_drop]; congr 1; omega
end
set_option maxRecDepth 100000 in
theorem tables {W : World} (h : laidMetH Tryd.prog laid W) : UT W ∧ EVT W := by
  have h1 : Lib.VarReads Tryd.prog W "unicode/utf8.acceptRanges" Lib.acceptData := by rw [← utfU.eAcc]; exact Lib.laidMet.reads h (.head _)
  have h3 : Lib.VarReads Tryd.prog W "dactyl/event.kinds" (.agg (evTab.map rowD)) := by rw [← eV]; exact Lib.laidMet.reads h (.tail _ (.head _))
  have h2 : Lib.VarReads Tryd.prog W "unicode/utf8.first" Lib.firstData := by rw [← utfU.eFirst]; exact Lib.laidMet.reads h (.tail _ (.tail _ (.head _)))
  have ht : Lib.Utf8Tabs 2 3 W := utf8Tabs_of_reads Tryd.lays260 utfU.extra h2 h1
  have hU : UT W := ⟨ht, block_lt_of_cell (ht.1 0 (by decide)), block_lt_of_cell (ht.2 0 (by decide)).1⟩
  obtain ⟨g, t, cs, fuel, p, k1, k2, hv, hd⟩ := h3
  obtain rfl : 0 = g := Option.some.inj (gV.symm.trans k1)
  obtain rfl : 131 = t := Option.some.inj (gVType.symm.trans k2)
  have key : ∀ i, i < 18 → W.cell? ⟨0, i, none⟩ = evCells[i]? := fun i hi => by
    rw [World.var?_cell gV hv i, at_part3 evCells i, evCells_row ⟨i / 3, by omega⟩, ← cells_of_tabV hd (i / 3) (by omega), ← at_part3]
    simp
  exact ⟨hU, key, block_lt_of_cell (key 0 (by decide))⟩
/-- A world for the witness: the settled one, the tables as their initialisers lay them. -/
def lay (cs : Array Value) : Obj → Obj
  | .cells _ t frozen => .cells cs t frozen
  | o => o
noncomputable def laidWorld (os : Os) : World :=
  { World.holding Tryd.prog os ⟨#[], #[], []⟩ with heap := (((World.holding Tryd.prog os ⟨#[], #[], []⟩).heap.modify 2 (lay (Lib.firstTab.map fun z => Value.int .u8 z).toArray)).modify 3 (lay ((List.range 16).flatMap fun i => [Value.int .u8 (Lib.accLo i), Value.int .u8 (Lib.accHi i)]).toArray)).modify 0 (lay evCells.toArray) }
theorem laid_met (os : Os) (args : Array Value) : laidMet Tryd.prog laid ((laidWorld os).forCall (fun _ _ => 0) ⟨#[], args, []⟩).memory :=
  laidMet_of_run' 8 (by kernel_rfl) (by kernel_rfl)
end evtV
end Go.Proofs.YtldblffhkokhlaaDoor
set_option linter.unusedVariables false
set_option linter.unusedSimpArgs false
namespace Go.Proofs.YtldblffhkokhlaaDoor
open Go.ChangeShapes Go.WideShapes Go.ChangeAt Go.RowKit Go.Deep Go.Joins
section
variable {H : Type} {enc : TypeId × Value → H} {W : World}
set_option maxRecDepth 100000 in
theorem cellsEvA : Tryd.prog.cellsOf 24 = 3 := by kernel_rfl
set_option maxRecDepth 100000 in
theorem cellsIntA : Tryd.prog.cellsOf 3 = 1 := by kernel_rfl
set_option maxRecDepth 100000 in
theorem cellsSgA : Tryd.prog.cellsOf 22 = 1 := by kernel_rfl
theorem arg_event {base : Nat} {v0 : Value} {d0 : DataW H} {p : List MemPlace} (hv : Value.okWide Tryd.prog W .any base 24 v0) (h : DataW.Trod enc Tryd.prog W 0 (fun _ => true) true 24 v0 d0 p) :
    ∃ (y : SgArg) (k x : Int), v0 = .agg #[.int .i64 k, .slice y.a y.l.length y.c, .int .i64 x] ∧ y.In W W.heap.size := by
  obtain ⟨v0, v1, v2, y0, y1, y2, n, rfl, t0, t1, t2⟩ := open_agg3L Tryd.underlying24 (by kernel_rfl) cellsEvA hv h
  obtain ⟨k, hk, _, _⟩ := DataW.trod_int Tryd.underlying3 t0
  obtain ⟨y, rfl, hy⟩ := trod_sgarg t1
  obtain ⟨x, hx, _, _⟩ := DataW.trod_int Tryd.underlying3 t2
  obtain rfl : v0 = .int .i64 k := by simpa using hk
  obtain rfl : v2 = .int .i64 x := by simpa using hx
  exact ⟨y, k, x, rfl, hy⟩
theorem addE_none (b off k : Nat) : (⟨b, off, none⟩ : Addr).add k = ⟨b, off + k, none⟩ := by unfold Addr.add; split <;> simp_all
set_option maxRecDepth 100000 in
theorem arg_events {base : Nat} {v0 : Value} {d0 : DataW H} {p : List MemPlace} (hv : Value.okWide Tryd.prog W .any base 26 v0) (h : DataW.Trod enc Tryd.prog W 0 (fun _ => true) true 26 v0 d0 p) :
    ∃ (l : List Ev) (a : Option Addr) (c : Nat), v0 = .slice a l.length c ∧ EvsIn W a l ∧ l.length ≤ 9223372036854775807 := by
  obtain ⟨a0, len, cap, rfl⟩ := okWide_slice Tryd.underlying26 hv
  obtain ⟨fuel, hf⟩ := h
  rcases open_slice Tryd.underlying26 hf with ⟨hcs, _⟩ | ⟨a, len', cap', m, n, D, Pl, hcs, _, hl, hm, hmm, _, hx⟩
  · simp [Value.cells] at hcs
    obtain ⟨rfl, rfl, rfl⟩ := hcs
    exact ⟨[], none, 0, rfl, fun j hj => absurd hj (Nat.not_lt_zero j), by simp⟩
  · simp [Value.cells] at hcs
    obtain ⟨rfl, rfl, rfl⟩ := hcs
    have hlm : len ≤ m := by rw [hmm]; split <;> omega
    have key : ∀ i, i < len → ∃ q : Int × SgArg × Int, W.cell? (a.add (i * 3)) = some (.int .i64 q.1) ∧ W.cell? (a.add (i * 3 + 1)) = some (.slice q.2.1.a q.2.1.l.length q.2.1.c) ∧ W.cell? (a.add (i * 3 + 2)) = some (.int .i64 q.2.2) ∧ q.2.1.In W W.heap.size := by
      intro i hi
      obtain ⟨cs', h1, h2⟩ := hx i (by omega)
      rw [cellsEvA] at h1
      obtain ⟨_, hlen, hcell⟩ := World.cells?_some h1
      obtain ⟨xs, k, hk, hxy, _, hxl, hf⟩ := DataW.trod_struct Tryd.underlying24 h2
      match xs, hxl, cs', hlen with
      | [y0, y1, y2], _, [u0, u1, u2], _ =>
        have g0 := hf 0 _ rfl
        have g1 := hf 1 _ rfl
        have g2 := hf 2 _ rfl
        simp [cellsIntA, cellsSgA] at g0 g1 g2
        have e0 := hcell 0 (by omega)
        have e1 := hcell 1 (by omega)
        have e2 := hcell 2 (by omega)
        rw [add_add] at e0 e1 e2
        obtain ⟨x0, hx0, _, _⟩ := DataW.trod_int Tryd.underlying3 g0
        obtain ⟨y, hy, hin⟩ := trod_sgarg g1
        obtain ⟨x2, hx2, _, _⟩ := DataW.trod_int Tryd.underlying3 g2
        obtain rfl : u0 = .int .i64 x0 := by simpa using hx0
        subst hy
        obtain rfl : u2 = .int .i64 x2 := by simpa using hx2
        exact ⟨(x0, y, x2), by simpa using e0, by simpa using e1, by simpa using e2, hin⟩
    obtain ⟨F, hF⟩ : ∃ F : Nat → Int × SgArg × Int, ∀ i, i < len → W.cell? (a.add (i * 3)) = some (.int .i64 (F i).1) ∧ W.cell? (a.add (i * 3 + 1)) = some (.slice (F i).2.1.a (F i).2.1.l.length (F i).2.1.c) ∧ W.cell? (a.add (i * 3 + 2)) = some (.int .i64 (F i).2.2) ∧ (F i).2.1.In W W.heap.size :=
      ⟨fun i => if h : i < len then (key i h).choose else (0, SgArg.zero, 0), fun i hi => by simp only [dif_pos hi]; exact (key i hi).choose_spec⟩
    clear key
    refine ⟨(List.range len).map fun i => ((F i).1, (F i).2.1.l, (F i).2.2), some a, cap, by simp, ?_, by simp; unfold maxLen at hm; omega⟩
    intro j hj
    have hj2 : j < len := by simpa using hj
    obtain ⟨c0, c1, c2, hin⟩ := hF j hj2
    obtain ⟨b, off, sp⟩ := a
    have hsp : sp = none := by
      obtain ⟨c00, _⟩ := hF 0 (by omega)
      have h1 : W.cell? ⟨b, off, sp⟩ = some (.int .i64 (F 0).1) := by simpa [Addr.add] using c00
      exact cell_spot h1
    subst hsp
    rw [addE_none] at c0 c1 c2
    have hg : ((List.range len).map fun i => (((F i).1, (F i).2.1.l, (F i).2.2) : Ev)).getD j (0, [], 0) = ((F j).1, (F j).2.1.l, (F j).2.2) := by
      rw [List.getD, List.getElem?_map, List.getElem?_range hj2]; rfl
    rw [hg]
    exact ⟨b, off, (F j).2.1.a, (F j).2.1.c, rfl, block_lt_of_cell c0, c0, c1, c2, hin.1.s, hin.1.le⟩
end
end Go.Proofs.YtldblffhkokhlaaDoor
