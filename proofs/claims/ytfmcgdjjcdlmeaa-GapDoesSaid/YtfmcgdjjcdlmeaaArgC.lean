/-
  Arguments: slices of calls, each with signs.
-/
import Derived.Test.YtfmcgdjjcdlmeaaArgS
import Derived.Test.YtfmcgdjjcdlmeaaAp
set_option linter.unusedVariables false
set_option linter.unusedSimpArgs false
namespace Go.Proofs.Ytfmcgdjjcdlmeaa
set_option maxRecDepth 100000
open Go.ChangeShapes Go.WideShapes Go.ChangeAt Go.RowKit Go.Deep Go.Joins
/-- Signs that came in: where, what, and their room. -/
structure SgArg where
  a : Option Addr
  l : List (Int × Int)
  c : Nat
def SgArg.zero : SgArg := ⟨none, [], 0⟩
def SgArg.In (w : World) (B : Nat) (x : SgArg) : Prop := SlS (fun k => k < B) w x.a x.l x.c ∧ x.l.length ≤ 9223372036854775807
theorem SgArg.In.below {w w' : World} {x : SgArg} (h : x.In w w.heap.size) (hb : Below w.heap.size w w') : x.In w' w.heap.size := ⟨h.1.below hb, h.2⟩
section
variable {H : Type} {enc : TypeId × Value → H} {W : World}
theorem trod_sgarg {v0 : Value} {fuel : Nat} {x : DataW H × List MemPlace} (hf : DataW.trod enc Try.prog W 0 (fun _ => true) true fuel 28 [v0] = some x) :
    ∃ y : SgArg, v0 = .slice y.a y.l.length y.c ∧ y.In W W.heap.size := by
  rcases open_slice_pairs Try.underlying28 Try.underlying43 cellsSign rfl rfl cellsIntS cellsIntS hf with ⟨hcs, _⟩ | ⟨a, len, cap, m, n, V0, V1, D0, D1, P0, P1, hcs, _, hl, hm, hmm, _, hcell⟩
  · obtain rfl : v0 = .slice none 0 0 := by simpa using hcs
    exact ⟨⟨none, [], 0⟩, rfl, ⟨fun j hj => absurd hj (Nat.not_lt_zero j), Nat.le_refl _, fun _ => rfl, fun ad e => by cases e⟩, by simp⟩
  · obtain rfl : v0 = .slice (some a) len cap := by simpa using hcs
    have hlm : len ≤ m := by rw [hmm]; split <;> omega
    have key : ∀ i, i < len → ∃ q : Int × Int, V0 i = .int .i64 q.1 ∧ V1 i = .int .i64 q.2 := fun i hi => by
      obtain ⟨_, _, h1, h2⟩ := hcell i (by omega)
      obtain ⟨x, hx, _, _⟩ := DataW.trod_int Try.underlying3 h1
      obtain ⟨y, hy, _, _⟩ := DataW.trod_int Try.underlying3 h2
      exact ⟨(x, y), by simpa using hx, by simpa using hy⟩
    obtain ⟨F, hF⟩ : ∃ F : Nat → Int × Int, ∀ i, i < len → V0 i = .int .i64 (F i).1 ∧ V1 i = .int .i64 (F i).2 :=
      ⟨fun i => if h : i < len then (key i h).choose else (0, 0), fun i hi => by simp only [dif_pos hi]; exact (key i hi).choose_spec⟩
    clear key
    have hs : Signs W (some a) ((List.range len).map F) := by
      intro j hj
      have hj2 : j < len := by simpa using hj
      obtain ⟨c0, c1, _, _⟩ := hcell j (by omega)
      have hk := hF j hj2
      obtain ⟨b, off, sp⟩ := a
      have hsp : sp = none := by
        obtain ⟨c00, _⟩ := hcell 0 (by omega)
        have h1 : W.cell? ⟨b, off, sp⟩ = some (V0 0) := by simpa [Addr.add] using c00
        exact cell_spot h1
      subst hsp
      rw [addS_none] at c0 c1
      have hg : ((List.range len).map F).getD j (0, 0) = F j := by
        rw [List.getD, List.getElem?_map, List.getElem?_range hj2]; rfl
      rw [hg]
      refine ⟨b, off, rfl, block_lt_of_cell c0, ?_, ?_⟩
      · rw [c0, hk.1]
      · rw [show off + j * 2 + 1 = off + (j * 2 + 1) by omega, c1, hk.2]
    refine ⟨⟨some a, (List.range len).map F, cap⟩, by simp, ⟨hs, by simpa using hl, fun e => (by cases e), fun ad e hn => ?_⟩, by simp; unfold maxLen at hm; omega⟩
    obtain ⟨b, off, e2, hb, _⟩ := hs 0 (List.length_pos_iff.2 hn)
    have e3 : some a = some ad := e
    rw [e3] at e2; cases e2; exact hb
/-- Calls lie in memory: two numbers and signs each. -/
def CallsIn (w : World) (B : Nat) (a : Option Addr) (l : List (Int × Int × SgArg)) : Prop :=
  ∀ i, i < l.length → ∃ b off, a = some ⟨b, off, none⟩ ∧ b < B ∧ w.cell? ⟨b, off + i * 3, none⟩ = some (.int .i64 (l.getD i (0, 0, SgArg.zero)).1) ∧ w.cell? ⟨b, off + i * 3 + 1, none⟩ = some (.int .i64 (l.getD i (0, 0, SgArg.zero)).2.1) ∧
    w.cell? ⟨b, off + i * 3 + 2, none⟩ = some (.slice (l.getD i (0, 0, SgArg.zero)).2.2.a (l.getD i (0, 0, SgArg.zero)).2.2.l.length (l.getD i (0, 0, SgArg.zero)).2.2.c) ∧ (l.getD i (0, 0, SgArg.zero)).2.2.In w B ∧
    (-9223372036854775808 ≤ (l.getD i (0, 0, SgArg.zero)).2.1 ∧ (l.getD i (0, 0, SgArg.zero)).2.1 ≤ 9223372036854775807)
theorem CallsIn.below {w0 w' : World} {a : Option Addr} {l : List (Int × Int × SgArg)} (h : CallsIn w0 w0.heap.size a l) (hb : Below w0.heap.size w0 w') : CallsIn w' w0.heap.size a l := fun i hi => by
  obtain ⟨b, off, e, hlt, h1, h2, h3, h4, h5⟩ := h i hi
  exact ⟨b, off, e, hlt, (hb.cell (p := ⟨b, off + i * 3, none⟩) hlt).trans h1, (hb.cell (p := ⟨b, off + i * 3 + 1, none⟩) hlt).trans h2, (hb.cell (p := ⟨b, off + i * 3 + 2, none⟩) hlt).trans h3, h4.below hb, h5⟩
set_option maxRecDepth 100000 in
theorem cellsSgs : Try.prog.cellsOf 28 = 1 := by kernel_rfl
set_option maxRecDepth 100000 in
theorem cellsGCall : Try.prog.cellsOf 32 = 3 := by kernel_rfl
set_option maxRecDepth 100000 in
theorem arg_gcalls {base : Nat} {v0 : Value} {d0 : DataW H} {p : List MemPlace} (hv : Value.okWide Try.prog W .any base 22 v0) (h : DataW.Trod enc Try.prog W 0 (fun _ => true) true 22 v0 d0 p) :
    ∃ (l : List (Int × Int × SgArg)) (a : Option Addr) (c : Nat), v0 = .slice a l.length c ∧ CallsIn W W.heap.size a l ∧ l.length ≤ 9223372036854775807 := by
  obtain ⟨a0, len, cap, rfl⟩ := okWide_slice Try.underlying22 hv
  obtain ⟨fuel, hf⟩ := h
  rcases open_slice Try.underlying22 hf with ⟨hcs, _⟩ | ⟨a, len', cap', m, n, D, Pl, hcs, _, hl, hm, hmm, _, hx⟩
  · simp [Value.cells] at hcs
    obtain ⟨rfl, rfl, rfl⟩ := hcs
    exact ⟨[], none, 0, rfl, fun j hj => absurd hj (Nat.not_lt_zero j), by simp⟩
  · simp [Value.cells] at hcs
    obtain ⟨rfl, rfl, rfl⟩ := hcs
    have hlm : len ≤ m := by rw [hmm]; split <;> omega
    have key : ∀ i, i < len → ∃ q : Int × Int × SgArg, W.cell? (a.add (i * 3)) = some (.int .i64 q.1) ∧ W.cell? (a.add (i * 3 + 1)) = some (.int .i64 q.2.1) ∧ W.cell? (a.add (i * 3 + 2)) = some (.slice q.2.2.a q.2.2.l.length q.2.2.c) ∧ q.2.2.In W W.heap.size ∧ (-9223372036854775808 ≤ q.2.1 ∧ q.2.1 ≤ 9223372036854775807) := by
      intro i hi
      obtain ⟨cs', h1, h2⟩ := hx i (by omega)
      rw [cellsGCall] at h1
      obtain ⟨_, hlen, hcell⟩ := World.cells?_some h1
      obtain ⟨xs, k, hk, hxy, _, hxl, hf⟩ := DataW.trod_struct Try.underlying32 h2
      match xs, hxl, cs', hlen with
      | [y0, y1, y2], _, [u0, u1, u2], _ =>
        have g0 := hf 0 _ rfl
        have g1 := hf 1 _ rfl
        have g2 := hf 2 _ rfl
        simp [cellsIntS, cellsSgs] at g0 g1 g2
        have e0 := hcell 0 (by omega)
        have e1 := hcell 1 (by omega)
        have e2 := hcell 2 (by omega)
        rw [add_add] at e0 e1 e2
        obtain ⟨x0, hx0, _, _⟩ := DataW.trod_int Try.underlying3 g0
        obtain ⟨x1, hx1, _, wn⟩ := DataW.trod_int Try.underlying3 g1
        obtain ⟨y, hy, hin⟩ := trod_sgarg g2
        obtain rfl : u0 = .int .i64 x0 := by simpa using hx0
        obtain rfl : u1 = .int .i64 x1 := by simpa using hx1
        subst hy
        exact ⟨(x0, x1, y), by simpa using e0, by simpa using e1, by simpa using e2, hin, by simpa [Lit.wf, IntKind.min, IntKind.max, IntKind.signed, IntKind.bits] using wn⟩
    obtain ⟨F, hF⟩ : ∃ F : Nat → Int × Int × SgArg, ∀ i, i < len → W.cell? (a.add (i * 3)) = some (.int .i64 (F i).1) ∧ W.cell? (a.add (i * 3 + 1)) = some (.int .i64 (F i).2.1) ∧ W.cell? (a.add (i * 3 + 2)) = some (.slice (F i).2.2.a (F i).2.2.l.length (F i).2.2.c) ∧ (F i).2.2.In W W.heap.size ∧ (-9223372036854775808 ≤ (F i).2.1 ∧ (F i).2.1 ≤ 9223372036854775807) :=
      ⟨fun i => if h : i < len then (key i h).choose else (0, 0, SgArg.zero), fun i hi => by simp only [dif_pos hi]; exact (key i hi).choose_spec⟩
    clear key
    refine ⟨(List.range len).map F, some a, cap, by simp, ?_, by simp; unfold maxLen at hm; omega⟩
    intro j hj
    have hj2 : j < len := by simpa using hj
    obtain ⟨c0, c1, c2, c3, c4⟩ := hF j hj2
    obtain ⟨b, off, sp⟩ := a
    have hsp : sp = none := by
      obtain ⟨c00, _⟩ := hF 0 (by omega)
      have h1 : W.cell? ⟨b, off, sp⟩ = some (.int .i64 (F 0).1) := by simpa [Addr.add] using c00
      exact cell_spot h1
    subst hsp
    rw [addS_none] at c0 c1 c2
    have hg : ((List.range len).map F).getD j (0, 0, SgArg.zero) = F j := by
      rw [List.getD, List.getElem?_map, List.getElem?_range hj2]; rfl
    rw [hg]
    exact ⟨b, off, rfl, block_lt_of_cell c0, c0, c1, c2, c3, c4⟩
end
end Go.Proofs.Ytfmcgdjjcdlmeaa
