import Derived.Test.YtdifkjmpdmlobaaDoorSg1
set_option linter.unusedVariables false
set_option linter.unusedSimpArgs false
namespace Go.Proofs.YtdifkjmpdmlobaaDoor
set_option maxRecDepth 100000
open Go.RowKit
/-- A make of elements of several cells. -/
theorem make_rowN {P : Program} (t e : TypeId) (i : TypeInfo) (z : Value) (ht : P.underlying t = some (.slice e)) (hi : P.info? e = some i) (hz : i.zero = some z)
    (n : Nat) (hb : i.bytes * n ≤ 281474976710656) (h63 : n ≤ 9223372036854775807) (w : World) :
    (Instr.makeSlice t (.int .i64 (n : Int)) (.int .i64 (n : Int))).run P w = .ok (.slice (some ⟨w.heap.size, 0, none⟩) n n) (w.alloc (.cells (madeCells z.cells (n * i.size)) e)) := by
  have h := run_make (P := P) w t e i z ht hi hz .i64 .i64 (n : Int) (n : Int) (by omega) (by omega) (by
    have : ((i.bytes * n : Nat) : Int) ≤ 281474976710656 := by omega
    rwa [Int.natCast_mul] at this) (by omega)
  simpa only [Int.toNat_natCast] using h
theorem infoSign : (Tryd.prog.info? 89).map (fun i => (i.zero, i.size, i.bytes)) = some (some (.agg #[.int .i64 0, .int .i64 0]), 2, 16) := by kernel_rfl
theorem made_signs (n : Nat) : madeCells #[.int .i64 0, .int .i64 0] (n * 2) = sRow (List.replicate n (0, 0)) := by
  apply Array.ext
  · simp [madeCells, sRow, List.length_flatMap]
  · intro i h1 h2
    simp only [madeCells, Array.getElem_map, Array.getElem_range]
    have hi : i < n * 2 := by simpa [madeCells] using h1
    have hlt : i / 2 < (List.replicate n ((0 : Int), (0 : Int))).length := by simp; omega
    have h := sRow_at (List.replicate n ((0 : Int), (0 : Int))) (i / 2) hlt
    have hz : (List.replicate n ((0 : Int), (0 : Int))).getD (i / 2) (0, 0) = (0, 0) := by
      rw [List.getD, List.getElem?_replicate]; split <;> rfl
    rw [hz] at h
    have e : (sRow (List.replicate n ((0 : Int), (0 : Int))))[i]? = some (.int .i64 0) := by
      rw [sRow, List.getElem?_toArray]
      rcases Nat.mod_two_eq_zero_or_one i with hm | hm
      · have : i / 2 * 2 = i := by omega
        rw [this] at h; exact h.1
      · have : i / 2 * 2 + 1 = i := by omega
        rw [this] at h; exact h.2
    have e2 := Array.getElem?_eq_getElem h2
    rw [e] at e2
    injection e2 with e2
    rw [← e2]
    rcases Nat.mod_two_eq_zero_or_one i with hm | hm <;> simp [hm]
theorem sRow_set (L : List (Int × Int)) (k : Nat) (p : Int × Int) (h : k < L.length) : ((sRow L).setIfInBounds (k * 2) (.int .i64 p.1)).setIfInBounds (k * 2 + 1) (.int .i64 p.2) = sRow (L.set k p) := by
  apply Array.ext'
  simp only [sRow, Array.toList_setIfInBounds]
  induction L generalizing k with
  | nil => simp at h
  | cons x L ih =>
    cases k with
    | zero => rfl
    | succ k =>
      have := ih k (by simpa using h)
      rw [show (k + 1) * 2 = k * 2 + 1 + 1 by omega]
      simp only [List.flatMap_cons, List.cons_append, List.nil_append, List.set_cons_succ, this]
theorem sg_cells {w : World} {g k : Nat} {L : List (Int × Int)} {t : TypeId} {f : Nat × Nat} (h : w.heap[g]? = some (.cells (sRow L) t f)) (hk : k < L.length) :
    w.cell? ⟨g, k * 2, none⟩ = some (.int .i64 (L.getD k (0, 0)).1) ∧ w.cell? ⟨g, k * 2 + 1, none⟩ = some (.int .i64 (L.getD k (0, 0)).2) := by
  have hh := sRow_at L k hk
  rw [cell_of_row _ _ _ _ _ _ h, cell_of_row _ _ _ _ _ _ h, sRow, List.getElem?_toArray, List.getElem?_toArray]
  exact hh
theorem put_snoc {α β : Type} (l : List α) (f : α → β) (z : β) (d : α) (k : Nat) (h : k < l.length) :
    ((l.take k).map f ++ List.replicate (l.length - k) z).set k (f (l.getD k d)) = (l.take (k + 1)).map f ++ List.replicate (l.length - (k + 1)) z := by
  have hl : ((l.take k).map f).length = k := by simp; omega
  rw [List.set_append_right _ _ (by omega), hl, Nat.sub_self, List.take_succ_eq_append_getElem h, List.map_append, List.append_assoc]
  congr 1
  obtain ⟨m, hm⟩ : ∃ m, l.length - k = m + 1 := ⟨l.length - k - 1, by omega⟩
  have hm2 : l.length - (k + 1) = m := by omega
  rw [hm, hm2, List.replicate_succ, List.set_cons_zero, List.getD, List.getElem?_eq_getElem h]; rfl
theorem infoIntS : (Tryd.prog.info? 3).map (fun i => (i.zero, i.size, i.bytes)) = some (some (.int .i64 0), 1, 8) := by kernel_rfl
theorem made_ints (n : Nat) : madeCells #[.int .i64 0] (n * 1) = iRow (List.replicate n 0) := by
  apply Array.ext'
  rw [toList_madeCells_one]; simp [iRow]
theorem i_cell {w : World} {g k : Nat} {L : List Int} {t : TypeId} {f : Nat × Nat} (h : w.heap[g]? = some (.cells (iRow L) t f)) (hk : k < L.length) :
    w.cell? ⟨g, k, none⟩ = some (.int .i64 (L.getD k 0)) := by
  rw [cell_of_row _ _ _ _ _ _ h, iRow_at L k hk]
/-- A slice of numbers, out of a block. -/
theorem row_of_blk {w : World} {g : Nat} {L : List Int} {t : TypeId} {f : Nat × Nat} (h : w.heap[g]? = some (.cells (iRow L) t f)) : Row w (some ⟨g, 0, none⟩) L := fun j hj =>
  ⟨g, 0, rfl, by rw [Nat.zero_add]; exact i_cell h hj, blk_lt h⟩
theorem signs_of_blk {w : World} {g : Nat} {L : List (Int × Int)} {t : TypeId} {f : Nat × Nat} (h : w.heap[g]? = some (.cells (sRow L) t f)) : Signs w (some ⟨g, 0, none⟩) L := fun j hj =>
  ⟨g, 0, rfl, blk_lt h, by rw [Nat.zero_add]; exact (sg_cells h hj).1, by rw [Nat.zero_add]; exact (sg_cells h hj).2⟩
theorem app_cells {w : World} {h : Nat} {L : List Value} {t : TypeId} (hh : w.heap.size = h) {j : Nat} {x : Value} (hj : L[j]? = some x) : (w.alloc (.cells L.toArray t)).cell? ((⟨h, 0, none⟩ : Addr).add j) = some x := by
  subst hh
  have hadd : (⟨w.heap.size, 0, none⟩ : Addr).add j = ⟨w.heap.size, 0 + j, none⟩ := by unfold Addr.add; split <;> simp_all
  rw [hadd, World.cell?_alloc_new, Nat.zero_add, List.getElem?_toArray]; exact hj
end Go.Proofs.YtdifkjmpdmlobaaDoor
