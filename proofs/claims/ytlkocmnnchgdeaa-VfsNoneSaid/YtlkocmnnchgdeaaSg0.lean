/-
  Slices of signs in memory.
-/
import Derived.Test.YtlkocmnnchgdeaaProg
import Derived.Test.YtlkocmnnchgdeaaKit
import Derived.Handy
set_option linter.unusedVariables false
set_option linter.unusedSimpArgs false
namespace Go.Proofs.Ytlkocmnnchgdeaa
set_option maxRecDepth 100000
open Go.RowKit
theorem retI {k : IntKind} {a b : Int} (h : a = b) : Ending.returned (.int k a) = .returned (.int k b) := by rw [h]
theorem retV {k : IntKind} {a b : Int} (h : a = b) : Value.int k a = .int k b := by rw [h]
/-- A slice of signs (values and labels) lies in memory. -/
def Signs (w : World) (a : Option Addr) (l : List (Int × Int)) : Prop :=
  ∀ i, i < l.length → ∃ b off, a = some ⟨b, off, none⟩ ∧ b < w.heap.size ∧ w.cell? ⟨b, off + i * 2, none⟩ = some (.int .i64 (l.getD i (0, 0)).1) ∧ w.cell? ⟨b, off + i * 2 + 1, none⟩ = some (.int .i64 (l.getD i (0, 0)).2)
theorem Signs.below {w w' : World} {a : Option Addr} {l : List (Int × Int)} (h : Signs w a l) (hb : Below w.heap.size w w') : Signs w' a l := fun i hi => by
  obtain ⟨b, off, e, hlt, h1, h2⟩ := h i hi
  exact ⟨b, off, e, Nat.lt_of_lt_of_le hlt hb.size, (hb.cell (p := ⟨b, off + i * 2, none⟩) hlt).trans h1, (hb.cell (p := ⟨b, off + i * 2 + 1, none⟩) hlt).trans h2⟩
/-- A row of signs in memory. -/
def sRow (L : List (Int × Int)) : Array Value := (L.flatMap fun p => [Value.int .i64 p.1, Value.int .i64 p.2]).toArray
theorem sRow_at (L : List (Int × Int)) : ∀ i, i < L.length → (L.flatMap fun p => [Value.int .i64 p.1, Value.int .i64 p.2])[i * 2]? = some (.int .i64 (L.getD i (0, 0)).1) ∧ (L.flatMap fun p => [Value.int .i64 p.1, Value.int .i64 p.2])[i * 2 + 1]? = some (.int .i64 (L.getD i (0, 0)).2) := by
  induction L with
  | nil => intro i hi; simp at hi
  | cons x L ih =>
    intro i hi
    cases i with
    | zero => exact ⟨rfl, rfl⟩
    | succ i =>
      have h := ih i (by simpa using hi)
      rw [show (i + 1) * 2 = i * 2 + 1 + 1 by omega]
      exact h
theorem signs_new (w : World) (L : List (Int × Int)) (t : TypeId) : Signs (w.alloc (.cells (sRow L) t)) (some ⟨w.heap.size, 0, none⟩) L := fun i hi => by
  have h := sRow_at L i hi
  refine ⟨_, _, rfl, by simp, ?_, ?_⟩
  · rw [World.cell?_alloc_new, Nat.zero_add, sRow, List.getElem?_toArray]; exact h.1
  · rw [World.cell?_alloc_new, Nat.zero_add, sRow, List.getElem?_toArray]; exact h.2
/-- A row of numbers in memory. -/
def iRow (L : List Int) : Array Value := (L.map (Value.int .i64)).toArray
theorem iRow_at (L : List Int) (i : Nat) (h : i < L.length) : (iRow L)[i]? = some (.int .i64 (L.getD i 0)) := by
  rw [iRow, List.getElem?_toArray, List.getElem?_map, List.getD, List.getElem?_eq_getElem h]; rfl
theorem iRow_set (L : List Int) (i : Nat) (x : Int) : (iRow L).setIfInBounds i (.int .i64 x) = iRow (L.set i x) := by
  apply Array.ext'
  simp [iRow, List.map_set]
/-- A slice of numbers that came in. -/
structure Ints (w : World) (a : Option Addr) (l : List Int) : Prop where
  some : ∀ i, i < l.length → ∃ b off, a = Option.some ⟨b, off, none⟩ ∧ b < w.heap.size
  cell : ∀ i b off, i < l.length → a = Option.some ⟨b, off, none⟩ → w.cell? ⟨b, off + i, none⟩ = Option.some (.int .i64 (l.getD i 0))
theorem Ints.below {w w' : World} {a : Option Addr} {l : List Int} (h : Ints w a l) (hb : Below w.heap.size w w') : Ints w' a l :=
  ⟨fun i hi => by obtain ⟨b, off, e, hlt⟩ := h.some i hi; exact ⟨b, off, e, Nat.lt_of_lt_of_le hlt hb.size⟩, fun i b off hi e => by
    obtain ⟨b', off', e', hlt⟩ := h.some i hi
    have : b = b' ∧ off = off' := by rw [e] at e'; simpa using e'
    rw [hb.cell (p := ⟨b, off + i, none⟩) (by rw [this.1]; exact hlt)]; exact h.cell i b off hi e⟩
theorem ints_new (w : World) (l : List Int) : Ints (w.alloc (.cells (iRow l) 3)) (some ⟨w.heap.size, 0, none⟩) l :=
  ⟨fun i hi => ⟨_, _, rfl, by simp⟩, fun i b off hi e => by
    obtain ⟨rfl, rfl⟩ : w.heap.size = b ∧ 0 = off := by simpa using e
    rw [World.cell?_alloc_new, Nat.zero_add, iRow_at l i hi]⟩
end Go.Proofs.Ytlkocmnnchgdeaa
