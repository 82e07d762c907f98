/-
  Slices of cells in memory.
-/
import Derived.Test.YtfhcfamjlhmgiaaDoorSg1
import Derived.Test.YtfhcfamjlhmgiaaDoorMk
import Derived.Laws.StructEq
set_option linter.unusedVariables false
set_option linter.unusedSimpArgs false
namespace Go.Proofs.YtfhcfamjlhmgiaaDoor
set_option maxRecDepth 100000
open Go.RowKit
/-- A cell: value, looks, whose it is, of which value, the how manieth column. -/
abbrev Cl := Int × Int × Int × Int × Int
abbrev cl0 : Cl := (0, 0, 0, 0, 0)
/-- A slice of cells lies in memory. -/
def CellsIn (w : World) (a : Option Addr) (l : List Cl) : Prop :=
  ∀ i, i < l.length → ∃ b off, a = some ⟨b, off, none⟩ ∧ b < w.heap.size ∧ w.cell? ⟨b, off + i * 5, none⟩ = some (.int .i64 (l.getD i cl0).1) ∧ w.cell? ⟨b, off + i * 5 + 1, none⟩ = some (.int .i64 (l.getD i cl0).2.1) ∧
    w.cell? ⟨b, off + i * 5 + 2, none⟩ = some (.int .i64 (l.getD i cl0).2.2.1) ∧ w.cell? ⟨b, off + i * 5 + 3, none⟩ = some (.int .i64 (l.getD i cl0).2.2.2.1) ∧ w.cell? ⟨b, off + i * 5 + 4, none⟩ = some (.int .i64 (l.getD i cl0).2.2.2.2)
theorem CellsIn.below {w w' : World} {a : Option Addr} {l : List Cl} (h : CellsIn w a l) (hb : Below w.heap.size w w') : CellsIn w' a l := fun i hi => by
  obtain ⟨b, off, e, hlt, h1, h2, h3, h4, h5⟩ := h i hi
  exact ⟨b, off, e, Nat.lt_of_lt_of_le hlt hb.size, (hb.cell (p := ⟨b, off + i * 5, none⟩) hlt).trans h1, (hb.cell (p := ⟨b, off + i * 5 + 1, none⟩) hlt).trans h2, (hb.cell (p := ⟨b, off + i * 5 + 2, none⟩) hlt).trans h3,
    (hb.cell (p := ⟨b, off + i * 5 + 3, none⟩) hlt).trans h4, (hb.cell (p := ⟨b, off + i * 5 + 4, none⟩) hlt).trans h5⟩
def cCells (L : List Cl) : List Value := L.flatMap fun p => [Value.int .i64 p.1, Value.int .i64 p.2.1, Value.int .i64 p.2.2.1, Value.int .i64 p.2.2.2.1, Value.int .i64 p.2.2.2.2]
/-- A row of cells in memory. -/
def cRow (L : List Cl) : Array Value := (cCells L).toArray
theorem cCells_len (L : List Cl) : (cCells L).length = L.length * 5 := by
  unfold cCells; induction L with
  | nil => rfl
  | cons x R ih => simp only [List.flatMap_cons, List.length_append, List.length_cons, List.length_nil, ih]; omega
theorem cCells_at (L : List Cl) : ∀ i, i < L.length → (cCells L)[i * 5]? = some (.int .i64 (L.getD i cl0).1) ∧ (cCells L)[i * 5 + 1]? = some (.int .i64 (L.getD i cl0).2.1) ∧ (cCells L)[i * 5 + 2]? = some (.int .i64 (L.getD i cl0).2.2.1) ∧
    (cCells L)[i * 5 + 3]? = some (.int .i64 (L.getD i cl0).2.2.2.1) ∧ (cCells L)[i * 5 + 4]? = some (.int .i64 (L.getD i cl0).2.2.2.2) := by
  induction L with
  | nil => intro i hi; simp at hi
  | cons x L ih =>
    intro i hi
    cases i with
    | zero => exact ⟨rfl, rfl, rfl, rfl, rfl⟩
    | succ i =>
      have h := ih i (by simpa using hi)
      rw [show (i + 1) * 5 = i * 5 + 1 + 1 + 1 + 1 + 1 by omega]
      exact h
theorem cCells_snoc (L : List Cl) (x : Cl) : cCells (L ++ [x]) = cCells L ++ [.int .i64 x.1, .int .i64 x.2.1, .int .i64 x.2.2.1, .int .i64 x.2.2.2.1, .int .i64 x.2.2.2.2] := by simp [cCells]
theorem cCells_append (L M : List Cl) : cCells (L ++ M) = cCells L ++ cCells M := by simp [cCells]
theorem cells_of_blk {w : World} {g : Nat} {L : List Cl} {t : TypeId} {f : Nat × Nat} (h : w.heap[g]? = some (.cells (cRow L) t f)) : CellsIn w (some ⟨g, 0, none⟩) L := fun j hj => by
  have hh := cCells_at L j hj
  refine ⟨g, 0, rfl, blk_lt h, ?_, ?_, ?_, ?_, ?_⟩
  · rw [Nat.zero_add, cell_of_row _ _ _ _ _ _ h, cRow, List.getElem?_toArray]; exact hh.1
  · rw [Nat.zero_add, cell_of_row _ _ _ _ _ _ h, cRow, List.getElem?_toArray]; exact hh.2.1
  · rw [Nat.zero_add, cell_of_row _ _ _ _ _ _ h, cRow, List.getElem?_toArray]; exact hh.2.2.1
  · rw [Nat.zero_add, cell_of_row _ _ _ _ _ _ h, cRow, List.getElem?_toArray]; exact hh.2.2.2.1
  · rw [Nat.zero_add, cell_of_row _ _ _ _ _ _ h, cRow, List.getElem?_toArray]; exact hh.2.2.2.2
/-- A row of cells of the call's own. -/
def ownC (w : World) (B : Nat) (v : Value) (L : List Cl) : Prop := w.ownsRow B 67 5 v L.length (cCells L)
theorem cells_of_own {w : World} {B : Nat} {v : Value} {L : List Cl} (h : ownC w B v L) : ∃ a c, v = .slice a L.length c ∧ CellsIn w a L := by
  unfold ownC at h
  rcases h.2 with ⟨rfl, h0⟩ | ⟨g, cap, cur, rfl, _, hg, _⟩
  · exact ⟨none, 0, by rw [h0], fun j hj => by omega⟩
  · refine ⟨_, cap, rfl, fun j hj => ⟨g, 0, rfl, blk_lt hg, ?_, ?_, ?_, ?_, ?_⟩⟩
    · rw [Nat.zero_add, h.cellAt (j * 5) (by omega)]; exact (cCells_at L j hj).1
    · rw [Nat.zero_add, h.cellAt (j * 5 + 1) (by omega)]; exact (cCells_at L j hj).2.1
    · rw [Nat.zero_add, h.cellAt (j * 5 + 2) (by omega)]; exact (cCells_at L j hj).2.2.1
    · rw [Nat.zero_add, h.cellAt (j * 5 + 3) (by omega)]; exact (cCells_at L j hj).2.2.2.1
    · rw [Nat.zero_add, h.cellAt (j * 5 + 4) (by omega)]; exact (cCells_at L j hj).2.2.2.2
/-- A row of cells in a block of the call's own, whole. -/
theorem own_of_blk {w : World} {B g : Nat} {L : List Cl} (h : w.heap[g]? = some (.cells (cRow L) 67 (0, 0))) (hB : B ≤ g) (hl : L.length ≤ maxLen) : ownC w B (.slice (some ⟨g, 0, none⟩) L.length L.length) L :=
  ⟨cCells_len L, .inr ⟨g, L.length, cRow L, rfl, hB, h, Nat.le_refl _, hl, by rw [cRow, List.size_toArray, cCells_len], by
    rw [cRow]; show (cCells L).take _ = _; rw [List.take_of_length_le (by rw [cCells_len]; exact Nat.le_refl _)]⟩⟩
theorem infoCell : (Tryd.prog.info? 67).map (fun i => (i.zero, i.size, i.bytes)) = some (some (.agg #[.int .i64 0, .int .i64 0, .int .i64 0, .int .i64 0, .int .i64 0]), 5, 40) := by kernel_rfl
/-- A cell's value in a slot. -/
def clV (p : Cl) : Value := .agg #[.int .i64 p.1, .int .i64 p.2.1, .int .i64 p.2.2.1, .int .i64 p.2.2.2.1, .int .i64 p.2.2.2.2]
set_option maxHeartbeats 1000000 in
theorem neqCell (v a o f k v' a' o' f' k' : Int) (w : World) : (binOp .neq 67 (.agg #[.int .i64 v, .int .i64 a, .int .i64 o, .int .i64 f, .int .i64 k]) (.agg #[.int .i64 v', .int .i64 a', .int .i64 o', .int .i64 f', .int .i64 k'])).run Tryd.prog w = .ok (.bool (decide (((v, a, o, f, k) : Cl) ≠ (v', a', o', f', k')))) w := by
  by_cases h1 : v = v'
  · by_cases h2 : a = a'
    · by_cases h3 : o = o'
      · by_cases h4 : f = f'
        · by_cases h5 : k = k'
          · subst h1; subst h2; subst h3; subst h4; subst h5
            simp [go_sem]
          · simp [go_sem, h1, h2, h3, h4, h5]
        · simp [go_sem, h1, h2, h3, h4]
      · simp [go_sem, h1, h2, h3]
    · simp [go_sem, h1, h2]
  · simp [go_sem, h1]
end Go.Proofs.YtfhcfamjlhmgiaaDoor
