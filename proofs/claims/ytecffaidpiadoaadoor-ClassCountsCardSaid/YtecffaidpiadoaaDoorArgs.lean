import Derived.Test.YtecffaidpiadoaaDoorP3
import Derived.Test.YtecffaidpiadoaaDoorC10
import Derived.Deep.Slices
import Derived.Deep.Fields
import Derived.ChangeSame
import Derived.Lib.SmallJoins
import Derived.Lib.LaidTab
import Derived.Lib.LaidU8
set_option linter.unusedVariables false
set_option linter.unusedSimpArgs false
namespace Go.Proofs.YtecffaidpiadoaaDoor
open Go.ChangeShapes Go.WideShapes Go.ChangeAt Go.RowKit Go.Deep Go.Joins
section
variable {H : Type} {enc : TypeId × Value → H} {W : World}
theorem add_none (b off k : Nat) : (⟨b, off, none⟩ : Addr).add k = ⟨b, off + k, none⟩ := by unfold Addr.add; split <;> simp_all
theorem cellsInt : Tryd.prog.cellsOf 3 = 1 := by kernel_rfl
theorem arg_ints {base : Nat} {v0 : Value} {d0 : DataW H} {p : List MemPlace} (hv : Value.okWide Tryd.prog W .any base 23 v0) (h : DataW.Trod enc Tryd.prog W 0 (fun _ => true) true 23 v0 d0 p) :
    ∃ (l : List Int) (a : Option Addr) (c : Nat), v0 = .slice a l.length c ∧ Ints W a l ∧ l.length ≤ 9223372036854775807 := by
  obtain ⟨a0, len, cap, rfl⟩ := okWide_slice Tryd.underlying23 hv
  obtain ⟨fuel, hf⟩ := h
  rcases open_ints Tryd.underlying23 Tryd.underlying3 cellsInt hf with ⟨hcs, _⟩ | ⟨a, len', cap', zs, hcs, _, hl, hm, hz, _, hcell, _⟩
  · simp [Value.cells] at hcs
    obtain ⟨rfl, rfl, rfl⟩ := hcs
    exact ⟨[], none, 0, rfl, ⟨fun j hj => absurd hj (Nat.not_lt_zero j), fun j b off hj => absurd hj (Nat.not_lt_zero j)⟩, by simp⟩
  · simp [Value.cells] at hcs
    obtain ⟨rfl, rfl, rfl⟩ := hcs
    simp only [if_true] at hz
    have hlen : (zs.take len).length = len := by rw [List.length_take]; omega
    have hk : ∀ j, j < (zs.take len).length → ∃ b off, a = ⟨b, off, none⟩ ∧ b < W.heap.size ∧ W.cell? ⟨b, off + j, none⟩ = some (.int .i64 ((zs.take len).getD j 0)) := by
      intro j hj
      have hj2 : j < len := by rw [hlen] at hj; exact hj
      obtain ⟨b, off, sp⟩ := a
      have h0 := hcell 0 (by omega)
      have hsp : sp = none := by
        have h1 : W.cell? ⟨b, off, sp⟩ = some (.int .i64 (zs.getD 0 0)) := by simpa [Addr.add] using h0
        exact cell_spot h1
      subst hsp
      have hcj := hcell j (by omega)
      rw [add_none] at hcj
      refine ⟨b, off, rfl, block_lt_of_cell hcj, ?_⟩
      rw [hcj]
      simp only [List.getD, List.getElem?_take, hj2, if_true]
    refine ⟨zs.take len, some a, cap, by rw [hlen], ⟨fun j hj => ?_, fun j b off hj e => ?_⟩, by rw [hlen]; unfold maxLen at hm; omega⟩
    · obtain ⟨b, off, rfl, h1, h2⟩ := hk j hj
      exact ⟨b, off, rfl, h1⟩
    · obtain ⟨b', off', rfl, h1, h2⟩ := hk j hj
      obtain ⟨rfl, rfl⟩ : b' = b ∧ off' = off := by simpa using e
      exact h2
end
end Go.Proofs.YtecffaidpiadoaaDoor
