/-
  Joined: UCom ArgC ArgH ArgSg ArgHw.
-/
import Derived.Test.YtdnmjofenckndaaDoorJT01
import Derived.Test.YtdnmjofenckndaaDoorJT02
import Derived.Test.YtdnmjofenckndaaDoorJT03
import Derived.Test.YtdnmjofenckndaaDoorJT05
import Derived.Test.YtdnmjofenckndaaDoorCards
import Derived.Test.YtdnmjofenckndaaDoorTie
import Derived.Deep.DeepHandedRow
import Derived.Lib.LaidTab
import Derived.Lib.LaidU8
import Derived.Stop.LaidErr
import Derived.SizedLaws
set_option maxRecDepth 100000
set_option linter.unusedVariables false
set_option linter.unusedSimpArgs false
namespace Go.Proofs.YtdnmjofenckndaaDoor
set_option linter.unusedVariables false
set_option linter.unusedSimpArgs false
open Go.ChangeShapes Go.WideShapes Go.ChangeAt Go.RowKit
namespace utfU
theorem own : ownKnob Tryd.prog.godebug = none := by kernel_rfl
theorem laidOut : laidOutB Tryd.prog = true := by kernel_rfl
theorem eFirst : (Rows.laid_unicode_utf8_first : DataW Unit) = Lib.firstData := by kernel_rfl
theorem eAcc : (Rows.laid_unicode_utf8_acceptRanges : DataW Unit) = Lib.acceptData := by kernel_rfl
def laid : List (String × DataW Unit) := [("unicode/utf8.acceptRanges", Rows.laid_unicode_utf8_acceptRanges), ("unicode/utf8.first", Rows.laid_unicode_utf8_first)]
theorem extra : U8Extra Tryd.prog Tryd.lays260_ren := ⟨by kernel_rfl, by kernel_rfl, by kernel_rfl, by kernel_rfl, by kernel_rfl, by kernel_rfl, by kernel_rfl⟩
theorem tables {W : World} (h : laidMetH Tryd.prog laid W) : UT W := by
  have h1 : Lib.VarReads Tryd.prog W "unicode/utf8.acceptRanges" Lib.acceptData := by rw [← eAcc]; exact Lib.laidMet.reads h (.head _)
  have h2 : Lib.VarReads Tryd.prog W "unicode/utf8.first" Lib.firstData := by rw [← eFirst]; exact Lib.laidMet.reads h (.tail _ (.head _))
  have ht : Lib.Utf8Tabs 8 9 W := utf8Tabs_of_reads Tryd.lays260 extra h2 h1
  exact ⟨ht, block_lt_of_cell (ht.1 0 (by decide)), block_lt_of_cell (ht.2 0 (by decide)).1⟩
/-- A world for the witness: the settled one, the tables as their initialisers lay them. -/
def lay (cs : Array Value) : Obj → Obj
  | .cells _ t frozen => .cells cs t frozen
  | o => o
noncomputable def laidWorld (os : Os) : World :=
  { World.holding Tryd.prog os ⟨#[], #[], []⟩ with heap := ((World.holding Tryd.prog os ⟨#[], #[], []⟩).heap.modify 8 (lay (Lib.firstTab.map fun z => Value.int .u8 z).toArray)).modify 9 (lay ((List.range 16).flatMap fun i => [Value.int .u8 (Lib.accLo i), Value.int .u8 (Lib.accHi i)]).toArray) }
theorem laid_met (os : Os) (args : Array Value) : laidMet Tryd.prog laid ((laidWorld os).forCall (fun _ _ => 0) ⟨#[], args, []⟩).memory :=
  laidMet_of_run' 8 (by kernel_rfl) (by kernel_rfl)
end utfU
end Go.Proofs.YtdnmjofenckndaaDoor
set_option linter.unusedVariables false
set_option linter.unusedSimpArgs false
namespace Go.Proofs.YtdnmjofenckndaaDoor
open Go.ChangeShapes Go.WideShapes Go.ChangeAt Go.RowKit Go.Deep Go.Joins
/-- Signs that came in: where, what, and their room. -/
structure SgArg where
  a : Option Addr
  l : List (Int × Int)
  c : Nat
def SgArg.zero : SgArg := ⟨none, [], 0⟩
def SgArg.In (w : World) (B : Nat) (x : SgArg) : Prop := SlS (fun k => k < B) w x.a x.l x.c ∧ x.l.length ≤ 9223372036854775807
theorem SgArg.In.below {w w' : World} {x : SgArg} (h : x.In w w.heap.size) (hb : Below w.heap.size w w') : x.In w' w.heap.size := ⟨h.1.below hb, h.2⟩
section
variable {H : Type} {enc : TypeId × Value → H} {W : World}
theorem trod_sgarg {v0 : Value} {fuel : Nat} {x : DataW H × List MemPlace} (hf : DataW.trod enc Tryd.prog W 0 (fun _ => true) true fuel 22 [v0] = some x) :
    ∃ y : SgArg, v0 = .slice y.a y.l.length y.c ∧ y.In W W.heap.size := by
  rcases open_slice_pairs Tryd.underlying22 Tryd.underlying39 cellsSign rfl rfl cellsIntS cellsIntS hf with ⟨hcs, _⟩ | ⟨a, len, cap, m, n, V0, V1, D0, D1, P0, P1, hcs, _, hl, hm, hmm, _, hcell⟩
  · obtain rfl : v0 = .slice none 0 0 := by simpa using hcs
    exact ⟨⟨none, [], 0⟩, rfl, ⟨fun j hj => absurd hj (Nat.not_lt_zero j), Nat.le_refl _, fun _ => rfl, fun ad e => by cases e⟩, by simp⟩
  · obtain rfl : v0 = .slice (some a) len cap := by simpa using hcs
    have hlm : len ≤ m := by rw [hmm]; split <;> omega
    have key : ∀ i, i < len → ∃ q : Int × Int, V0 i = .int .i64 q.1 ∧ V1 i = .int .i64 q.2 := fun i hi => by
      obtain ⟨_, _, h1, h2⟩ := hcell i (by omega)
      obtain ⟨x, hx, _, _⟩ := DataW.trod_int Tryd.underlying3 h1
      obtain ⟨y, hy, _, _⟩ := DataW.trod_int Tryd.underlying3 h2
      exact ⟨(x, y), by simpa using hx, by simpa using hy⟩
    obtain ⟨F, hF⟩ : ∃ F : Nat → Int × Int, ∀ i, i < len → V0 i = .int .i64 (F i).1 ∧ V1 i = .int .i64 (F i).2 :=
      ⟨fun i => if h : i < len then (key i h).choose else (0, 0), fun i hi => by simp only [dif_pos hi]; exact (key i hi).choose_spec⟩
    clear key
    have hs : Signs W (some a) ((List.range len).map F) := by
      intro j hj
      have hj2 : j < len := by simpa using hj
      obtain ⟨c0, c1, _, _⟩ := hcell j (by omega)
      have hk := hF j hj2
      obtain ⟨b, off, sp⟩ := a
      have hsp : sp = none := by
        obtain ⟨c00, _⟩ := hcell 0 (by omega)
        have h1 : W.cell? ⟨b, off, sp⟩ = some (V0 0) := by simpa [Addr.add] using c00
        exact cell_spot h1
      subst hsp
      rw [addS_none] at c0 c1
      have hg : ((List.range len).map F).getD j (0, 0) = F j := by
        rw [List.getD, List.getElem?_map, List.getElem?_range hj2]; rfl
      rw [hg]
      refine ⟨b, off, rfl, block_lt_of_cell c0, ?_, ?_⟩
      · rw [c0, hk.1]
      · rw [show off + j * 2 + 1 = off + (j * 2 + 1) by omega, c1, hk.2]
    refine ⟨⟨some a, (List.range len).map F, cap⟩, by simp, ⟨hs, by simpa using hl, fun e => (by cases e), fun ad e hn => ?_⟩, by simp; unfold maxLen at hm; omega⟩
    obtain ⟨b, off, e2, hb, _⟩ := hs 0 (List.length_pos_iff.2 hn)
    have e3 : some a = some ad := e
    rw [e3] at e2; cases e2; exact hb
/-- Calls lie in memory: two numbers and signs each. -/
def CallsIn (w : World) (B : Nat) (a : Option Addr) (l : List (Int × Int × SgArg)) : Prop :=
  ∀ i, i < l.length → ∃ b off, a = some ⟨b, off, none⟩ ∧ b < B ∧ w.cell? ⟨b, off + i * 3, none⟩ = some (.int .i64 (l.getD i (0, 0, SgArg.zero)).1) ∧ w.cell? ⟨b, off + i * 3 + 1, none⟩ = some (.int .i64 (l.getD i (0, 0, SgArg.zero)).2.1) ∧
    w.cell? ⟨b, off + i * 3 + 2, none⟩ = some (.slice (l.getD i (0, 0, SgArg.zero)).2.2.a (l.getD i (0, 0, SgArg.zero)).2.2.l.length (l.getD i (0, 0, SgArg.zero)).2.2.c) ∧ (l.getD i (0, 0, SgArg.zero)).2.2.In w B ∧
    (-9223372036854775808 ≤ (l.getD i (0, 0, SgArg.zero)).2.1 ∧ (l.getD i (0, 0, SgArg.zero)).2.1 ≤ 9223372036854775807)
theorem CallsIn.below {w0 w' : World} {a : Option Addr} {l : List (Int × Int × SgArg)} (h : CallsIn w0 w0.heap.size a l) (hb : Below w0.heap.size w0 w') : CallsIn w' w0.heap.size a l := fun i hi => by
  obtain ⟨b, off, e, hlt, h1, h2, h3, h4, h5⟩ := h i hi
  exact ⟨b, off, e, hlt, (hb.cell (p := ⟨b, off + i * 3, none⟩) hlt).trans h1, (hb.cell (p := ⟨b, off + i * 3 + 1, none⟩) hlt).trans h2, (hb.cell (p := ⟨b, off + i * 3 + 2, none⟩) hlt).trans h3, h4.below hb, h5⟩
set_option maxRecDepth 100000 in
theorem cellsSgs : Tryd.prog.cellsOf 22 = 1 := by kernel_rfl
end
end Go.Proofs.YtdnmjofenckndaaDoor
set_option linter.unusedVariables false
set_option linter.unusedSimpArgs false
namespace Go.Proofs.YtdnmjofenckndaaDoor
open Go.ChangeShapes Go.WideShapes Go.ChangeAt Go.RowKit Go.Deep Go.Joins
/-- Lists of signs that came in. -/
def HistIn (w : World) (B : Nat) (a : Option Addr) (H : List SgArg) : Prop :=
  ∀ i, i < H.length → ∃ b off, a = some ⟨b, off, none⟩ ∧ b < B ∧ w.cell? ⟨b, off + i, none⟩ = some (.slice (H.getD i SgArg.zero).a (H.getD i SgArg.zero).l.length (H.getD i SgArg.zero).c) ∧ (H.getD i SgArg.zero).In w B
theorem HistIn.below {w w' : World} {a : Option Addr} {H : List SgArg} (h : HistIn w w.heap.size a H) (hb : Below w.heap.size w w') : HistIn w' w.heap.size a H := fun i hi => by
  obtain ⟨b, off, e, hlt, h1, h2⟩ := h i hi
  exact ⟨b, off, e, hlt, (hb.cell (p := ⟨b, off + i, none⟩) hlt).trans h1, h2.below hb⟩
section
variable {H : Type} {enc : TypeId × Value → H} {W : World}
set_option maxRecDepth 100000 in
theorem cellsSgs1 : Tryd.prog.cellsOf 22 = 1 := by kernel_rfl
theorem cell_spotS {w : World} {b off : Nat} {sp : Option Nat} {x : Option Addr} {n c : Nat} (h : w.cell? ⟨b, off, sp⟩ = some (.slice x n c)) : sp = none := by
  cases sp with
  | none => rfl
  | some k =>
    exfalso
    unfold World.cell? at h
    split at h <;> simp_all
set_option maxRecDepth 100000 in
theorem arg_hist {base : Nat} {v0 : Value} {d0 : DataW H} {p : List MemPlace} (hv : Value.okWide Tryd.prog W .any base 43 v0) (h : DataW.Trod enc Tryd.prog W 0 (fun _ => true) true 43 v0 d0 p) :
    ∃ (l : List SgArg) (a : Option Addr) (c : Nat), v0 = .slice a l.length c ∧ HistIn W W.heap.size a l ∧ l.length ≤ 9223372036854775807 := by
  obtain ⟨a0, len, cap, rfl⟩ := okWide_slice Tryd.underlying43 hv
  obtain ⟨fuel, hf⟩ := h
  rcases open_slice Tryd.underlying43 hf with ⟨hcs, _⟩ | ⟨a, len', cap', m, n, D, Pl, hcs, _, hl, hm, hmm, _, hx⟩
  · simp [Value.cells] at hcs
    obtain ⟨rfl, rfl, rfl⟩ := hcs
    exact ⟨[], none, 0, rfl, fun j hj => absurd hj (Nat.not_lt_zero j), by simp⟩
  · simp [Value.cells] at hcs
    obtain ⟨rfl, rfl, rfl⟩ := hcs
    have hlm : len ≤ m := by rw [hmm]; split <;> omega
    have key : ∀ i, i < len → ∃ q : SgArg, W.cell? (a.add i) = some (.slice q.a q.l.length q.c) ∧ q.In W W.heap.size := by
      intro i hi
      obtain ⟨cs', h1, h2⟩ := hx i (by omega)
      rw [cellsSgs1] at h1
      obtain ⟨_, hlen, hcell⟩ := World.cells?_some h1
      match cs', hlen with
      | [u0], _ =>
        have e0 := hcell 0 (by omega)
        rw [add_add] at e0
        obtain ⟨y, hy, hin⟩ := trod_sgarg h2
        subst hy
        exact ⟨y, by simpa using e0, hin⟩
    obtain ⟨F, hF⟩ : ∃ F : Nat → SgArg, ∀ i, i < len → W.cell? (a.add i) = some (.slice (F i).a (F i).l.length (F i).c) ∧ (F i).In W W.heap.size :=
      ⟨fun i => if h : i < len then (key i h).choose else SgArg.zero, fun i hi => by simp only [dif_pos hi]; exact (key i hi).choose_spec⟩
    clear key
    refine ⟨(List.range len).map F, some a, cap, by simp, ?_, by simp; unfold maxLen at hm; omega⟩
    intro j hj
    have hj2 : j < len := by simpa using hj
    obtain ⟨c0, c1⟩ := hF j hj2
    obtain ⟨b, off, sp⟩ := a
    have hsp : sp = none := by
      obtain ⟨c00, _⟩ := hF 0 (by omega)
      have h1 : W.cell? ⟨b, off, sp⟩ = some (.slice (F 0).a (F 0).l.length (F 0).c) := by simpa [Addr.add] using c00
      exact cell_spotS h1
    subst hsp
    rw [addS_none] at c0
    have hg : ((List.range len).map F).getD j SgArg.zero = F j := by
      rw [List.getD, List.getElem?_map, List.getElem?_range hj2]; rfl
    rw [hg]
    exact ⟨b, off, rfl, block_lt_of_cell c0, c0, c1⟩
end
end Go.Proofs.YtdnmjofenckndaaDoor
set_option linter.unusedVariables false
set_option linter.unusedSimpArgs false
namespace Go.Proofs.YtdnmjofenckndaaDoor
open Go.ChangeShapes Go.WideShapes Go.ChangeAt Go.RowKit Go.Deep Go.Joins
theorem arg_sg {H : Type} {enc : TypeId × Value → H} {W : World} {base : Nat} {v0 : Value} {d0 : DataW H} {p : List MemPlace} (hv : Value.okWide Tryd.prog W .any base 22 v0) (h : DataW.Trod enc Tryd.prog W 0 (fun _ => true) true 22 v0 d0 p) :
    ∃ y : SgArg, v0 = .slice y.a y.l.length y.c ∧ y.In W W.heap.size := by
  obtain ⟨a0, len, cap, rfl⟩ := okWide_slice Tryd.underlying22 hv
  obtain ⟨fuel, hf⟩ := h
  exact trod_sgarg hf
end Go.Proofs.YtdnmjofenckndaaDoor
set_option linter.unusedVariables false
set_option linter.unusedSimpArgs false
namespace Go.Proofs.YtdnmjofenckndaaDoor
open Go.ChangeShapes Go.WideShapes Go.ChangeAt Go.RowKit Go.Deep Go.Joins
theorem bytesSign : Tryd.prog.bytesOf 39 = 16 := by kernel_rfl
section
variable {H : Type} {enc : TypeId × Value → H} {W : World}
theorem weights_all {e : TypeId} {P : Program} : ∀ {ds : List (DataW H)} {d : DataW H}, d ∈ ds → ∀ n ∈ d.weights P e, n ∈ DataW.weightsAll P e ds
  | d0 :: ds, d, hd, n, hn => by
    simp only [DataW.weightsAll, List.mem_append]
    rcases List.mem_cons.1 hd with rfl | hd
    · exact Or.inl hn
    · exact Or.inr (weights_all hd n hn)
theorem trod_sgargW {v0 : Value} {fuel : Nat} {x : DataW H × List MemPlace} (hf : DataW.trod enc Tryd.prog W 0 (fun _ => true) true fuel 22 [v0] = some x) :
    ∃ y : SgArg, v0 = .slice y.a y.l.length y.c ∧ y.In W W.heap.size ∧ (y.l.length = 0 ∨ ∃ q ∈ x.1.weights Tryd.prog 22, y.l.length * 16 ≤ q) := by
  obtain ⟨y, rfl, hy⟩ := trod_sgarg hf
  refine ⟨y, rfl, hy, ?_⟩
  rcases open_slice Tryd.underlying22 hf with ⟨hcs, _⟩ | ⟨a, len, cap, m, n, D, Pl, hcs, _, hl, hm, hmm, rfl, _⟩
  · left
    simp at hcs
    exact hcs.2.1 ▸ (by simp_all)
  · right
    simp at hcs
    obtain ⟨_, h2, _⟩ := hcs
    refine ⟨(len + (m - len)) * 16, ?_, by rw [h2]; omega⟩
    simp [DataW.weights, Tryd.underlying22, bytesSign]
set_option maxRecDepth 100000 in
theorem arg_histW {base : Nat} {v0 : Value} {d0 : DataW H} {p : List MemPlace} (hv : Value.okWide Tryd.prog W .any base 43 v0) (h : DataW.Trod enc Tryd.prog W 0 (fun _ => true) true 43 v0 d0 p) :
    ∃ (l : List SgArg) (a : Option Addr) (c : Nat), v0 = .slice a l.length c ∧ HistIn W W.heap.size a l ∧ ∀ y ∈ l, y.l.length = 0 ∨ ∃ q ∈ d0.weights Tryd.prog 43, y.l.length * 16 ≤ q := by
  obtain ⟨a0, len, cap, rfl⟩ := okWide_slice Tryd.underlying43 hv
  obtain ⟨fuel, hf⟩ := h
  rcases open_slice Tryd.underlying43 hf with ⟨hcs, _⟩ | ⟨a, len', cap', m, n, D, Pl, hcs, _, hl, hm, hmm, hd, hx⟩
  · simp [Value.cells] at hcs
    obtain ⟨rfl, rfl, rfl⟩ := hcs
    exact ⟨[], none, 0, rfl, fun j hj => absurd hj (Nat.not_lt_zero j), by simp⟩
  · simp [Value.cells] at hcs
    obtain ⟨rfl, rfl, rfl⟩ := hcs
    have hd0 : d0 = .slice ((List.range len).map D) ((List.range (m - len)).map fun j => D (len + j)) := congrArg Prod.fst hd
    have hlm : len ≤ m := by rw [hmm]; split <;> omega
    have key : ∀ i, i < len → ∃ q : SgArg, W.cell? (a.add i) = some (.slice q.a q.l.length q.c) ∧ q.In W W.heap.size ∧ (q.l.length = 0 ∨ ∃ z ∈ d0.weights Tryd.prog 43, q.l.length * 16 ≤ z) := by
      intro i hi
      obtain ⟨cs', h1, h2⟩ := hx i (by omega)
      rw [cellsSgs1] at h1
      obtain ⟨_, hlen, hcell⟩ := World.cells?_some h1
      match cs', hlen with
      | [u0], _ =>
        have e0 := hcell 0 (by omega)
        rw [add_add] at e0
        obtain ⟨y, hy, hin, hw⟩ := trod_sgargW h2
        subst hy
        refine ⟨y, by simpa using e0, hin, hw.imp id fun ⟨z, hz, hz2⟩ => ⟨z, ?_, hz2⟩⟩
        have hmem : D i ∈ (List.range len).map D := List.mem_map.2 ⟨i, List.mem_range.2 hi, rfl⟩
        have h3 := weights_all (e := 22) (P := Tryd.prog) hmem z hz
        rw [hd0]
        simp only [DataW.weights, Tryd.underlying43, List.mem_cons, List.mem_append]
        exact Or.inr (Or.inl h3)
    obtain ⟨F, hF⟩ : ∃ F : Nat → SgArg, ∀ i, i < len → W.cell? (a.add i) = some (.slice (F i).a (F i).l.length (F i).c) ∧ (F i).In W W.heap.size ∧ ((F i).l.length = 0 ∨ ∃ z ∈ d0.weights Tryd.prog 43, (F i).l.length * 16 ≤ z) :=
      ⟨fun i => if h : i < len then (key i h).choose else SgArg.zero, fun i hi => by simp only [dif_pos hi]; exact (key i hi).choose_spec⟩
    clear key
    refine ⟨(List.range len).map F, some a, cap, by simp, ?_, ?_⟩
    · intro j hj
      have hj2 : j < len := by simpa using hj
      obtain ⟨c0, c1, _⟩ := hF j hj2
      obtain ⟨b, off, sp⟩ := a
      have hsp : sp = none := by
        obtain ⟨c00, _⟩ := hF 0 (by omega)
        have h1 : W.cell? ⟨b, off, sp⟩ = some (.slice (F 0).a (F 0).l.length (F 0).c) := by simpa [Addr.add] using c00
        exact cell_spotS h1
      subst hsp
      rw [addS_none] at c0
      have hg : ((List.range len).map F).getD j SgArg.zero = F j := by
        rw [List.getD, List.getElem?_map, List.getElem?_range hj2]; rfl
      rw [hg]
      exact ⟨b, off, rfl, block_lt_of_cell c0, c0, c1⟩
    · intro y hy
      obtain ⟨i, hi, rfl⟩ := List.mem_map.1 hy
      exact (hF i (List.mem_range.1 hi)).2.2
/-- Each list that came in lies within reach. -/
theorem hist_reach {l : List SgArg} {d0 : DataW H} {ts : List TypeId} {ds : List (DataW H)} {j : Nat} (h : (DataW.weightsEach Tryd.prog ts ds).all (· ≤ reachBytes) = true) (ht : ts[j]? = some 43) (hd : ds[j]? = some d0) (hl : ∀ y ∈ l, y.l.length = 0 ∨ ∃ q ∈ d0.weights Tryd.prog 43, y.l.length * 16 ≤ q) : ∀ y ∈ l, y.l.length ≤ 8796093022208 := by
  intro y hy
  rcases hl y hy with h0 | ⟨q, hq, h1⟩
  · omega
  · have h2 := List.all_eq_true.1 h _ (DataW.weights_mem_each ht hd q hq)
    have h3 : q ≤ reachBytes := by simpa using h2
    unfold reachBytes at h3
    omega
end
end Go.Proofs.YtdnmjofenckndaaDoor
