/-
  Joined: UCom ArgC ArgH.
-/
import Derived.Test.YtdifkjmpdmlobaaDoorJH01
import Derived.Test.YtdifkjmpdmlobaaDoorJH02
import Derived.Test.YtdifkjmpdmlobaaDoorJH04
import Derived.Test.YtdifkjmpdmlobaaDoorCards
import Derived.Test.YtdifkjmpdmlobaaDoorTie
import Derived.Deep.DeepHandedRow
import Derived.Lib.LaidTab
import Derived.Lib.LaidU8
import Derived.Stop.LaidErr
set_option maxRecDepth 100000
set_option linter.unusedVariables false
set_option linter.unusedSimpArgs false
namespace Go.Proofs.YtdifkjmpdmlobaaDoor
set_option linter.unusedVariables false
set_option linter.unusedSimpArgs false
open Go.ChangeShapes Go.WideShapes Go.ChangeAt Go.RowKit
namespace utfU
theorem own : ownKnob Tryd.prog.godebug = none := by kernel_rfl
theorem laidOut : laidOutB Tryd.prog = true := by kernel_rfl
theorem eFirst : (Rows.laid_unicode_utf8_first : DataW Unit) = Lib.firstData := by kernel_rfl
theorem eAcc : (Rows.laid_unicode_utf8_acceptRanges : DataW Unit) = Lib.acceptData := by kernel_rfl
def laid : List (String × DataW Unit) := [("unicode/utf8.acceptRanges", Rows.laid_unicode_utf8_acceptRanges), ("unicode/utf8.first", Rows.laid_unicode_utf8_first)]
theorem extra : U8Extra Tryd.prog Tryd.lays260_ren := ⟨by kernel_rfl, by kernel_rfl, by kernel_rfl, by kernel_rfl, by kernel_rfl, by kernel_rfl, by kernel_rfl⟩
theorem tables {W : World} (h : laidMetH Tryd.prog laid W) : UT W := by
  have h1 : Lib.VarReads Tryd.prog W "unicode/utf8.acceptRanges" Lib.acceptData := by rw [← eAcc]; exact Lib.laidMet.reads h (.head _)
  have h2 : Lib.VarReads Tryd.prog W "unicode/utf8.first" Lib.firstData := by rw [← eFirst]; exact Lib.laidMet.reads h (.tail _ (.head _))
  have ht : Lib.Utf8Tabs 2 3 W := utf8Tabs_of_reads Tryd.lays260 extra h2 h1
  exact ⟨ht, block_lt_of_cell (ht.1 0 (by decide)), block_lt_of_cell (ht.2 0 (by decide)).1⟩
/-- A world for the witness: the settled one, the tables as their initialisers lay them. -/
def lay (cs : Array Value) : Obj → Obj
  | .cells _ t frozen => .cells cs t frozen
  | o => o
noncomputable def laidWorld (os : Os) : World :=
  { World.holding Tryd.prog os ⟨#[], #[], []⟩ with heap := ((World.holding Tryd.prog os ⟨#[], #[], []⟩).heap.modify 2 (lay (Lib.firstTab.map fun z => Value.int .u8 z).toArray)).modify 3 (lay ((List.range 16).flatMap fun i => [Value.int .u8 (Lib.accLo i), Value.int .u8 (Lib.accHi i)]).toArray) }
theorem laid_met (os : Os) (args : Array Value) : laidMet Tryd.prog laid ((laidWorld os).forCall (fun _ _ => 0) ⟨#[], args, []⟩).memory :=
  laidMet_of_run' 8 (by kernel_rfl) (by kernel_rfl)
end utfU
end Go.Proofs.YtdifkjmpdmlobaaDoor
set_option linter.unusedVariables false
set_option linter.unusedSimpArgs false
namespace Go.Proofs.YtdifkjmpdmlobaaDoor
open Go.ChangeShapes Go.WideShapes Go.ChangeAt Go.RowKit Go.Deep Go.Joins
/-- Signs that came in: where, what, and their room. -/
structure SgArg where
  a : Option Addr
  l : List (Int × Int)
  c : Nat
def SgArg.zero : SgArg := ⟨none, [], 0⟩
def SgArg.In (w : World) (B : Nat) (x : SgArg) : Prop := SlS (fun k => k < B) w x.a x.l x.c ∧ x.l.length ≤ 9223372036854775807
theorem SgArg.In.below {w w' : World} {x : SgArg} (h : x.In w w.heap.size) (hb : Below w.heap.size w w') : x.In w' w.heap.size := ⟨h.1.below hb, h.2⟩
section
variable {H : Type} {enc : TypeId × Value → H} {W : World}
theorem trod_sgarg {v0 : Value} {fuel : Nat} {x : DataW H × List MemPlace} (hf : DataW.trod enc Tryd.prog W 0 (fun _ => true) true fuel 28 [v0] = some x) :
    ∃ y : SgArg, v0 = .slice y.a y.l.length y.c ∧ y.In W W.heap.size := by
  rcases open_slice_pairs Tryd.underlying28 Tryd.underlying89 cellsSign rfl rfl cellsIntS cellsIntS hf with ⟨hcs, _⟩ | ⟨a, len, cap, m, n, V0, V1, D0, D1, P0, P1, hcs, _, hl, hm, hmm, _, hcell⟩
  · obtain rfl : v0 = .slice none 0 0 := by simpa using hcs
    exact ⟨⟨none, [], 0⟩, rfl, ⟨fun j hj => absurd hj (Nat.not_lt_zero j), Nat.le_refl _, fun _ => rfl, fun ad e => by cases e⟩, by simp⟩
  · obtain rfl : v0 = .slice (some a) len cap := by simpa using hcs
    have hlm : len ≤ m := by rw [hmm]; split <;> omega
    have key : ∀ i, i < len → ∃ q : Int × Int, V0 i = .int .i64 q.1 ∧ V1 i = .int .i64 q.2 := fun i hi => by
      obtain ⟨_, _, h1, h2⟩ := hcell i (by omega)
      obtain ⟨x, hx, _, _⟩ := DataW.trod_int Tryd.underlying3 h1
      obtain ⟨y, hy, _, _⟩ := DataW.trod_int Tryd.underlying3 h2
      exact ⟨(x, y), by simpa using hx, by simpa using hy⟩
    obtain ⟨F, hF⟩ : ∃ F : Nat → Int × Int, ∀ i, i < len → V0 i = .int .i64 (F i).1 ∧ V1 i = .int .i64 (F i).2 :=
      ⟨fun i => if h : i < len then (key i h).choose else (0, 0), fun i hi => by simp only [dif_pos hi]; exact (key i hi).choose_spec⟩
    clear key
    have hs : Signs W (some a) ((List.range len).map F) := by
      intro j hj
      have hj2 : j < len := by simpa using hj
      obtain ⟨c0, c1, _, _⟩ := hcell j (by omega)
      have hk := hF j hj2
      obtain ⟨b, off, sp⟩ := a
      have hsp : sp = none := by
        obtain ⟨c00, _⟩ := hcell 0 (by omega)
        have h1 : W.cell? ⟨b, off, sp⟩ = some (V0 0) := by simpa [Addr.add] using c00
        exact cell_spot h1
      subst hsp
      rw [addS_none] at c0 c1
      have hg : ((List.range len).map F).getD j (0, 0) = F j := by
        rw [List.getD, List.getElem?_map, List.getElem?_range hj2]; rfl
      rw [hg]
      refine ⟨b, off, rfl, block_lt_of_cell c0, ?_, ?_⟩
      · rw [c0, hk.1]
      · rw [show off + j * 2 + 1 = off + (j * 2 + 1) by omega, c1, hk.2]
    refine ⟨⟨some a, (List.range len).map F, cap⟩, by simp, ⟨hs, by simpa using hl, fun e => (by cases e), fun ad e hn => ?_⟩, by simp; unfold maxLen at hm; omega⟩
    obtain ⟨b, off, e2, hb, _⟩ := hs 0 (List.length_pos_iff.2 hn)
    have e3 : some a = some ad := e
    rw [e3] at e2; cases e2; exact hb
/-- Calls lie in memory: two numbers and signs each. -/
def CallsIn (w : World) (B : Nat) (a : Option Addr) (l : List (Int × Int × SgArg)) : Prop :=
  ∀ i, i < l.length → ∃ b off, a = some ⟨b, off, none⟩ ∧ b < B ∧ w.cell? ⟨b, off + i * 3, none⟩ = some (.int .i64 (l.getD i (0, 0, SgArg.zero)).1) ∧ w.cell? ⟨b, off + i * 3 + 1, none⟩ = some (.int .i64 (l.getD i (0, 0, SgArg.zero)).2.1) ∧
    w.cell? ⟨b, off + i * 3 + 2, none⟩ = some (.slice (l.getD i (0, 0, SgArg.zero)).2.2.a (l.getD i (0, 0, SgArg.zero)).2.2.l.length (l.getD i (0, 0, SgArg.zero)).2.2.c) ∧ (l.getD i (0, 0, SgArg.zero)).2.2.In w B ∧
    (-9223372036854775808 ≤ (l.getD i (0, 0, SgArg.zero)).2.1 ∧ (l.getD i (0, 0, SgArg.zero)).2.1 ≤ 9223372036854775807)
theorem CallsIn.below {w0 w' : World} {a : Option Addr} {l : List (Int × Int × SgArg)} (h : CallsIn w0 w0.heap.size a l) (hb : Below w0.heap.size w0 w') : CallsIn w' w0.heap.size a l := fun i hi => by
  obtain ⟨b, off, e, hlt, h1, h2, h3, h4, h5⟩ := h i hi
  exact ⟨b, off, e, hlt, (hb.cell (p := ⟨b, off + i * 3, none⟩) hlt).trans h1, (hb.cell (p := ⟨b, off + i * 3 + 1, none⟩) hlt).trans h2, (hb.cell (p := ⟨b, off + i * 3 + 2, none⟩) hlt).trans h3, h4.below hb, h5⟩
set_option maxRecDepth 100000 in
theorem cellsSgs : Tryd.prog.cellsOf 28 = 1 := by kernel_rfl
end
end Go.Proofs.YtdifkjmpdmlobaaDoor
set_option linter.unusedVariables false
set_option linter.unusedSimpArgs false
namespace Go.Proofs.YtdifkjmpdmlobaaDoor
open Go.ChangeShapes Go.WideShapes Go.ChangeAt Go.RowKit Go.Deep Go.Joins
/-- Lists of signs that came in. -/
def HistIn (w : World) (B : Nat) (a : Option Addr) (H : List SgArg) : Prop :=
  ∀ i, i < H.length → ∃ b off, a = some ⟨b, off, none⟩ ∧ b < B ∧ w.cell? ⟨b, off + i, none⟩ = some (.slice (H.getD i SgArg.zero).a (H.getD i SgArg.zero).l.length (H.getD i SgArg.zero).c) ∧ (H.getD i SgArg.zero).In w B
theorem HistIn.below {w w' : World} {a : Option Addr} {H : List SgArg} (h : HistIn w w.heap.size a H) (hb : Below w.heap.size w w') : HistIn w' w.heap.size a H := fun i hi => by
  obtain ⟨b, off, e, hlt, h1, h2⟩ := h i hi
  exact ⟨b, off, e, hlt, (hb.cell (p := ⟨b, off + i, none⟩) hlt).trans h1, h2.below hb⟩
section
variable {H : Type} {enc : TypeId × Value → H} {W : World}
set_option maxRecDepth 100000 in
theorem cellsSgs1 : Tryd.prog.cellsOf 28 = 1 := by kernel_rfl
theorem cell_spotS {w : World} {b off : Nat} {sp : Option Nat} {x : Option Addr} {n c : Nat} (h : w.cell? ⟨b, off, sp⟩ = some (.slice x n c)) : sp = none := by
  cases sp with
  | none => rfl
  | some k =>
    exfalso
    unfold World.cell? at h
    split at h <;> simp_all
set_option maxRecDepth 100000 in
theorem arg_hist {base : Nat} {v0 : Value} {d0 : DataW H} {p : List MemPlace} (hv : Value.okWide Tryd.prog W .any base 22 v0) (h : DataW.Trod enc Tryd.prog W 0 (fun _ => true) true 22 v0 d0 p) :
    ∃ (l : List SgArg) (a : Option Addr) (c : Nat), v0 = .slice a l.length c ∧ HistIn W W.heap.size a l ∧ l.length ≤ 9223372036854775807 := by
  obtain ⟨a0, len, cap, rfl⟩ := okWide_slice Tryd.underlying22 hv
  obtain ⟨fuel, hf⟩ := h
  rcases open_slice Tryd.underlying22 hf with ⟨hcs, _⟩ | ⟨a, len', cap', m, n, D, Pl, hcs, _, hl, hm, hmm, _, hx⟩
  · simp [Value.cells] at hcs
    obtain ⟨rfl, rfl, rfl⟩ := hcs
    exact ⟨[], none, 0, rfl, fun j hj => absurd hj (Nat.not_lt_zero j), by simp⟩
  · simp [Value.cells] at hcs
    obtain ⟨rfl, rfl, rfl⟩ := hcs
    have hlm : len ≤ m := by rw [hmm]; split <;> omega
    have key : ∀ i, i < len → ∃ q : SgArg, W.cell? (a.add i) = some (.slice q.a q.l.length q.c) ∧ q.In W W.heap.size := by
      intro i hi
      obtain ⟨cs', h1, h2⟩ := hx i (by omega)
      rw [cellsSgs1] at h1
      obtain ⟨_, hlen, hcell⟩ := World.cells?_some h1
      match cs', hlen with
      | [u0], _ =>
        have e0 := hcell 0 (by omega)
        rw [add_add] at e0
        obtain ⟨y, hy, hin⟩ := trod_sgarg h2
        subst hy
        exact ⟨y, by simpa using e0, hin⟩
    obtain ⟨F, hF⟩ : ∃ F : Nat → SgArg, ∀ i, i < len → W.cell? (a.add i) = some (.slice (F i).a (F i).l.length (F i).c) ∧ (F i).In W W.heap.size :=
      ⟨fun i => if h : i < len then (key i h).choose else SgArg.zero, fun i hi => by simp only [dif_pos hi]; exact (key i hi).choose_spec⟩
    clear key
    refine ⟨(List.range len).map F, some a, cap, by simp, ?_, by simp; unfold maxLen at hm; omega⟩
    intro j hj
    have hj2 : j < len := by simpa using hj
    obtain ⟨c0, c1⟩ := hF j hj2
    obtain ⟨b, off, sp⟩ := a
    have hsp : sp = none := by
      obtain ⟨c00, _⟩ := hF 0 (by omega)
      have h1 : W.cell? ⟨b, off, sp⟩ = some (.slice (F 0).a (F 0).l.length (F 0).c) := by simpa [Addr.add] using c00
      exact cell_spotS h1
    subst hsp
    rw [addS_none] at c0
    have hg : ((List.range len).map F).getD j SgArg.zero = F j := by
      rw [List.getD, List.getElem?_map, List.getElem?_range hj2]; rfl
    rw [hg]
    exact ⟨b, off, rfl, block_lt_of_cell c0, c0, c1⟩
end
end Go.Proofs.YtdifkjmpdmlobaaDoor
