import Derived.Test.YtfmcgdjjcdlmeaaSg0
import Derived.Deep.SlicePairs
import Derived.ChangeArms
import Derived.Lib.LaidTab
import Derived.Lib.LaidU8
import Derived.Lib.SmallJoins
set_option linter.unusedVariables false
set_option linter.unusedSimpArgs false
namespace Go.Proofs.Ytfmcgdjjcdlmeaa
set_option maxRecDepth 100000
open Go.ChangeShapes Go.WideShapes Go.ChangeAt Go.RowKit Go.Deep Go.Joins
section
variable {H : Type} {enc : TypeId × Value → H} {W : World}
theorem addS_none (b off k : Nat) : (⟨b, off, none⟩ : Addr).add k = ⟨b, off + k, none⟩ := by unfold Addr.add; split <;> simp_all
set_option maxRecDepth 100000 in
theorem cellsIntS : Try.prog.cellsOf 3 = 1 := by kernel_rfl
set_option maxRecDepth 100000 in
theorem cellsSign : Try.prog.cellsOf 43 = 2 := by kernel_rfl
set_option maxRecDepth 100000 in
theorem arg_signs0 {base : Nat} {v0 : Value} {d0 : DataW H} {p : List MemPlace} (hv : Value.okWide Try.prog W .any base 28 v0) (h : DataW.Trod enc Try.prog W 0 (fun _ => true) true 28 v0 d0 p) :
    ∃ (l : List (Int × Int)) (a : Option Addr) (c : Nat), v0 = .slice a l.length c ∧ Signs W a l ∧ l.length ≤ 9223372036854775807 ∧ (a = none → c = 0) := by
  obtain ⟨a0, len, cap, rfl⟩ := okWide_slice Try.underlying28 hv
  obtain ⟨fuel, hf⟩ := h
  rcases open_slice_pairs Try.underlying28 Try.underlying43 cellsSign rfl rfl cellsIntS cellsIntS hf with ⟨hcs, _⟩ | ⟨a, len', cap', m, n, V0, V1, D0, D1, P0, P1, hcs, _, hl, hm, hmm, _, hcell⟩
  · simp [Value.cells] at hcs
    obtain ⟨rfl, rfl, rfl⟩ := hcs
    exact ⟨[], none, 0, rfl, fun j hj => absurd hj (Nat.not_lt_zero j), by simp, fun _ => rfl⟩
  · simp [Value.cells] at hcs
    obtain ⟨rfl, rfl, rfl⟩ := hcs
    have hlm : len ≤ m := by rw [hmm]; split <;> omega
    have key : ∀ i, i < len → ∃ q : Int × Int, V0 i = .int .i64 q.1 ∧ V1 i = .int .i64 q.2 := fun i hi => by
      obtain ⟨_, _, h1, h2⟩ := hcell i (by omega)
      obtain ⟨x, hx, _, _⟩ := DataW.trod_int Try.underlying3 h1
      obtain ⟨y, hy, _, _⟩ := DataW.trod_int Try.underlying3 h2
      exact ⟨(x, y), by simpa using hx, by simpa using hy⟩
    obtain ⟨F, hF⟩ : ∃ F : Nat → Int × Int, ∀ i, i < len → V0 i = .int .i64 (F i).1 ∧ V1 i = .int .i64 (F i).2 :=
      ⟨fun i => if h : i < len then (key i h).choose else (0, 0), fun i hi => by simp only [dif_pos hi]; exact (key i hi).choose_spec⟩
    clear key
    refine ⟨(List.range len).map F, some a, cap, by simp, ?_, by simp; unfold maxLen at hm; omega, fun h => by cases h⟩
    intro j hj
    have hj2 : j < len := by simpa using hj
    obtain ⟨c0, c1, _, _⟩ := hcell j (by omega)
    have hk := hF j hj2
    obtain ⟨b, off, sp⟩ := a
    have hsp : sp = none := by
      obtain ⟨c00, _⟩ := hcell 0 (by omega)
      have h1 : W.cell? ⟨b, off, sp⟩ = some (V0 0) := by simpa [Addr.add] using c00
      exact cell_spot h1
    subst hsp
    rw [addS_none] at c0 c1
    have hg : ((List.range len).map F).getD j (0, 0) = F j := by
      rw [List.getD, List.getElem?_map, List.getElem?_range hj2]; rfl
    rw [hg]
    refine ⟨b, off, rfl, block_lt_of_cell c0, ?_, ?_⟩
    · rw [c0, hk.1]
    · rw [show off + j * 2 + 1 = off + (j * 2 + 1) by omega, c1, hk.2]
theorem arg_signs {base : Nat} {v0 : Value} {d0 : DataW H} {p : List MemPlace} (hv : Value.okWide Try.prog W .any base 28 v0) (h : DataW.Trod enc Try.prog W 0 (fun _ => true) true 28 v0 d0 p) :
    ∃ (l : List (Int × Int)) (a : Option Addr) (c : Nat), v0 = .slice a l.length c ∧ Signs W a l ∧ l.length ≤ 9223372036854775807 := by
  obtain ⟨l, a, c, h1, h2, h3, _⟩ := arg_signs0 hv h
  exact ⟨l, a, c, h1, h2, h3⟩
theorem arg_sign {base : Nat} {v0 : Value} {d0 : DataW H} {p : List MemPlace} (hv : Value.okWide Try.prog W .any base 43 v0) (h : DataW.Trod enc Try.prog W 0 (fun _ => true) true 43 v0 d0 p) :
    ∃ (x y : Int), v0 = .agg #[.int .i64 x, .int .i64 y] := by
  obtain ⟨a0, a1, y0, y1, n, rfl, rfl, rfl, h0, h1⟩ := open_agg2 Try.underlying43 (by kernel_rfl) cellsSign hv h
  obtain ⟨x, hx, _, _⟩ := DataW.trod_int Try.underlying3 h0
  obtain ⟨y, hy, _, _⟩ := DataW.trod_int Try.underlying3 h1
  obtain rfl : a0 = .int .i64 x := by simpa using hx
  obtain rfl : a1 = .int .i64 y := by simpa using hy
  exact ⟨x, y, rfl⟩
end
end Go.Proofs.Ytfmcgdjjcdlmeaa
