/-
  Joined: ArgC ArgL.
-/
import Derived.Test.YtldblffhkokhlaaDoorJV05
import Derived.Test.YtldblffhkokhlaaDoorJV07
set_option linter.unusedVariables false
set_option linter.unusedSimpArgs false
set_option maxRecDepth 100000
set_option linter.unusedVariables false
set_option linter.unusedSimpArgs false
namespace Go.Proofs.YtldblffhkokhlaaDoor
open Go.ChangeShapes Go.WideShapes Go.ChangeAt Go.RowKit Go.Deep Go.Joins
/-- Signs that came in: where, what, and their room. -/
structure SgArg where
  a : Option Addr
  l : List (Int × Int)
  c : Nat
def SgArg.zero : SgArg := ⟨none, [], 0⟩
def SgArg.In (w : World) (B : Nat) (x : SgArg) : Prop := SlS (fun k => k < B) w x.a x.l x.c ∧ x.l.length ≤ 9223372036854775807
theorem SgArg.In.below {w w' : World} {x : SgArg} (h : x.In w w.heap.size) (hb : Below w.heap.size w w') : x.In w' w.heap.size := ⟨h.1.below hb, h.2⟩
section
variable {H : Type} {enc : TypeId × Value → H} {W : World}
theorem trod_sgarg {v0 : Value} {fuel : Nat} {x : DataW H × List MemPlace} (hf : DataW.trod enc Tryd.prog W 0 (fun _ => true) true fuel 22 [v0] = some x) :
    ∃ y : SgArg, v0 = .slice y.a y.l.length y.c ∧ y.In W W.heap.size := by
  rcases open_slice_pairs Tryd.underlying22 Tryd.underlying77 cellsSign rfl rfl cellsIntS cellsIntS hf with ⟨hcs, _⟩ | ⟨a, len, cap, m, n, V0, V1, D0, D1, P0, P1, hcs, _, hl, hm, hmm, _, hcell⟩
  · obtain rfl : v0 = .slice none 0 0 := by simpa using hcs
    exact ⟨⟨none, [], 0⟩, rfl, ⟨fun j hj => absurd hj (Nat.not_lt_zero j), Nat.le_refl _, fun _ => rfl, fun ad e => by cases e⟩, by simp⟩
  · obtain rfl : v0 = .slice (some a) len cap := by simpa using hcs
    have hlm : len ≤ m := by rw [hmm]; split <;> omega
    have key : ∀ i, i < len → ∃ q : Int × Int, V0 i = .int .i64 q.1 ∧ V1 i = .int .i64 q.2 := fun i hi => by
      obtain ⟨_, _, h1, h2⟩ := hcell i (by omega)
      obtain ⟨x, hx, _, _⟩ := DataW.trod_int Tryd.underlying3 h1
      obtain ⟨y, hy, _, _⟩ := DataW.trod_int Tryd.underlying3 h2
      exact ⟨(x, y), by simpa using hx, by simpa using hy⟩
    obtain ⟨F, hF⟩ : ∃ F : Nat → Int × Int, ∀ i, i < len → V0 i = .int .i64 (F i).1 ∧ V1 i = .int .i64 (F i).2 :=
      ⟨fun i => if h : i < len then (key i h).choose else (0, 0), fun i hi => by simp only [dif_pos hi]; exact (key i hi).choose_spec⟩
    clear key
    have hs : Signs W (some a) ((List.range len).map F) := by
      intro j hj
      have hj2 : j < len := by simpa using hj
      obtain ⟨c0, c1, _, _⟩ := hcell j (by omega)
      have hk := hF j hj2
      obtain ⟨b, off, sp⟩ := a
      have hsp : sp = none := by
        obtain ⟨c00, _⟩ := hcell 0 (by omega)
        have h1 : W.cell? ⟨b, off, sp⟩ = some (V0 0) := by simpa [Addr.add] using c00
        exact cell_spot h1
      subst hsp
      rw [addS_none] at c0 c1
      have hg : ((List.range len).map F).getD j (0, 0) = F j := by
        rw [List.getD, List.getElem?_map, List.getElem?_range hj2]; rfl
      rw [hg]
      refine ⟨b, off, rfl, block_lt_of_cell c0, ?_, ?_⟩
      · rw [c0, hk.1]
      · rw [show off + j * 2 + 1 = off + (j * 2 + 1) by omega, c1, hk.2]
    refine ⟨⟨some a, (List.range len).map F, cap⟩, by simp, ⟨hs, by simpa using hl, fun e => (by cases e), fun ad e hn => ?_⟩, by simp; unfold maxLen at hm; omega⟩
    obtain ⟨b, off, e2, hb, _⟩ := hs 0 (List.length_pos_iff.2 hn)
    have e3 : some a = some ad := e
    rw [e3] at e2; cases e2; exact hb
/-- Calls lie in memory: two numbers and signs each. -/
def CallsIn (w : World) (B : Nat) (a : Option Addr) (l : List (Int × Int × SgArg)) : Prop :=
  ∀ i, i < l.length → ∃ b off, a = some ⟨b, off, none⟩ ∧ b < B ∧ w.cell? ⟨b, off + i * 3, none⟩ = some (.int .i64 (l.getD i (0, 0, SgArg.zero)).1) ∧ w.cell? ⟨b, off + i * 3 + 1, none⟩ = some (.int .i64 (l.getD i (0, 0, SgArg.zero)).2.1) ∧
    w.cell? ⟨b, off + i * 3 + 2, none⟩ = some (.slice (l.getD i (0, 0, SgArg.zero)).2.2.a (l.getD i (0, 0, SgArg.zero)).2.2.l.length (l.getD i (0, 0, SgArg.zero)).2.2.c) ∧ (l.getD i (0, 0, SgArg.zero)).2.2.In w B ∧
    (-9223372036854775808 ≤ (l.getD i (0, 0, SgArg.zero)).2.1 ∧ (l.getD i (0, 0, SgArg.zero)).2.1 ≤ 9223372036854775807)
theorem CallsIn.below {w0 w' : World} {a : Option Addr} {l : List (Int × Int × SgArg)} (h : CallsIn w0 w0.heap.size a l) (hb : Below w0.heap.size w0 w') : CallsIn w' w0.heap.size a l := fun i hi => by
  obtain ⟨b, off, e, hlt, h1, h2, h3, h4, h5⟩ := h i hi
  exact ⟨b, off, e, hlt, (hb.cell (p := ⟨b, off + i * 3, none⟩) hlt).trans h1, (hb.cell (p := ⟨b, off + i * 3 + 1, none⟩) hlt).trans h2, (hb.cell (p := ⟨b, off + i * 3 + 2, none⟩) hlt).trans h3, h4.below hb, h5⟩
set_option maxRecDepth 100000 in
theorem cellsSgs : Tryd.prog.cellsOf 22 = 1 := by kernel_rfl
end
end Go.Proofs.YtldblffhkokhlaaDoor
set_option linter.unusedVariables false
set_option linter.unusedSimpArgs false
namespace Go.Proofs.YtldblffhkokhlaaDoor
open Go.ChangeShapes Go.WideShapes Go.ChangeAt Go.RowKit Go.Deep Go.Joins
section
variable {H : Type} {enc : TypeId × Value → H} {W : World}
theorem array2L {α : Type} {cs : Array α} (h : cs.size = 2) : ∃ c0 c1, cs = #[c0, c1] := by
  obtain ⟨l⟩ := cs
  match l, h with
  | [c0, c1], _ => exact ⟨c0, c1, rfl⟩
theorem array3L {α : Type} {cs : Array α} (h : cs.size = 3) : ∃ c0 c1 c2, cs = #[c0, c1, c2] := by
  obtain ⟨l⟩ := cs
  match l, h with
  | [c0, c1, c2], _ => exact ⟨c0, c1, c2, rfl⟩
theorem open_agg2L {P : Program} {w : World} {base : Nat} {spare : Nat → Bool} {held : Bool} {r : Reach} {b0 : Nat} {t : TypeId} {f0 f1 : Field} {v : Value} {d : DataW H} {p : List MemPlace} (hs : P.underlying t = some (.struct #[f0, f1])) (hone : oneCellFields P #[f0, f1] = true) (hC : P.cellsOf t = 2)
    (hv : Value.okWide P w r b0 t v) (h : DataW.Trod enc P w base spare held t v d p) :
    ∃ (v0 v1 : Value) (y0 y1 : DataW H × List MemPlace) (n : Nat), v = .agg #[v0, v1] ∧ DataW.trod enc P w base spare held n f0.type [v0] = some y0 ∧ DataW.trod enc P w base spare held n f1.type [v1] = some y1 := by
  obtain ⟨cs, rfl, hsz⟩ := okWide_struct hs hv
  obtain ⟨c0, c1, rfl⟩ := array2L (hsz.trans hC)
  obtain ⟨fuel, hf⟩ := h
  obtain ⟨xs, n, _, _, hl, hlen, hf⟩ := DataW.trod_struct hs hf
  obtain ⟨o0, k0⟩ := hone_of hone 0 f0 rfl
  obtain ⟨o1, k1⟩ := hone_of hone 1 f1 rfl
  match xs, hlen with
  | [y0, y1], _ => exact ⟨c0, c1, y0, y1, n, rfl, by simpa [Value.cells, o0, k0] using hf 0 f0 rfl, by simpa [Value.cells, o1, k1] using hf 1 f1 rfl⟩
theorem open_agg3L {P : Program} {w : World} {base : Nat} {spare : Nat → Bool} {held : Bool} {r : Reach} {b0 : Nat} {t : TypeId} {f0 f1 f2 : Field} {v : Value} {d : DataW H} {p : List MemPlace} (hs : P.underlying t = some (.struct #[f0, f1, f2])) (hone : oneCellFields P #[f0, f1, f2] = true) (hC : P.cellsOf t = 3)
    (hv : Value.okWide P w r b0 t v) (h : DataW.Trod enc P w base spare held t v d p) :
    ∃ (v0 v1 v2 : Value) (y0 y1 y2 : DataW H × List MemPlace) (n : Nat), v = .agg #[v0, v1, v2] ∧ DataW.trod enc P w base spare held n f0.type [v0] = some y0 ∧ DataW.trod enc P w base spare held n f1.type [v1] = some y1 ∧ DataW.trod enc P w base spare held n f2.type [v2] = some y2 := by
  obtain ⟨cs, rfl, hsz⟩ := okWide_struct hs hv
  obtain ⟨c0, c1, c2, rfl⟩ := array3L (hsz.trans hC)
  obtain ⟨fuel, hf⟩ := h
  obtain ⟨xs, n, _, _, hl, hlen, hf⟩ := DataW.trod_struct hs hf
  obtain ⟨o0, k0⟩ := hone_of hone 0 f0 rfl
  obtain ⟨o1, k1⟩ := hone_of hone 1 f1 rfl
  obtain ⟨o2, k2⟩ := hone_of hone 2 f2 rfl
  match xs, hlen with
  | [y0, y1, y2], _ => exact ⟨c0, c1, c2, y0, y1, y2, n, rfl, by simpa [Value.cells, o0, k0] using hf 0 f0 rfl, by simpa [Value.cells, o1, k1] using hf 1 f1 rfl, by simpa [Value.cells, o2, k2] using hf 2 f2 rfl⟩
end
end Go.Proofs.YtldblffhkokhlaaDoor
