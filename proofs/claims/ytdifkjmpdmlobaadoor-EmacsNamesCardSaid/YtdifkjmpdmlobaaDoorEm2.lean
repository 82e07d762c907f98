/-
  emacs: the tables of keys.
-/
import Derived.Test.YtdifkjmpdmlobaaDoorEm1
set_option linter.unusedVariables false
set_option linter.unusedSimpArgs false
namespace Go.Proofs.YtdifkjmpdmlobaaDoor
set_option maxRecDepth 100000
open Go.RowKit
/-- A row of the tables: a key's name, and what it asks for. -/
abbrev ER := ByteArray × Int
def erCells (L : List ER) : Array Value := (L.flatMap fun r => [Value.string r.1, .int .i64 r.2]).toArray
/-- A table that lies. -/
def ErB (w : World) (q : Nat) (L : List ER) : Prop := w.heap[q]? = some (.cells (erCells L) 142 (0, 0))
theorem erCells_at (L : List ER) : ∀ k, k < L.length → (erCells L)[k * 2]? = some (.string (L.getD k (⟨#[]⟩, 0)).1) ∧ (erCells L)[k * 2 + 1]? = some (.int .i64 (L.getD k (⟨#[]⟩, 0)).2) := by
  unfold erCells
  induction L with
  | nil => intro k hk; exact absurd hk (Nat.not_lt_zero k)
  | cons r L ih =>
    intro k hk
    cases k with
    | zero => exact ⟨rfl, rfl⟩
    | succ k =>
      have h := ih k (by simpa using hk)
      rw [List.getElem?_toArray] at h ⊢
      rw [List.getElem?_toArray] at h ⊢
      rw [List.flatMap_cons, show (k + 1) * 2 = k * 2 + 2 by omega, show k * 2 + 2 + 1 = (k * 2 + 1) + 2 by omega]
      exact h
theorem ErB.cells {w : World} {q : Nat} {L : List ER} (h : ErB w q L) (k : Nat) (hk : k < L.length) : w.cell? ⟨q, k * 2, none⟩ = some (.string (L.getD k (⟨#[]⟩, 0)).1) ∧ w.cell? ⟨q, k * 2 + 1, none⟩ = some (.int .i64 (L.getD k (⟨#[]⟩, 0)).2) := by
  rw [cell_of_row _ _ _ _ _ _ h, cell_of_row _ _ _ _ _ _ h]
  exact erCells_at L k hk
def erA : List ER := [(⟨#[67, 45, 97]⟩, 6), (⟨#[67, 45, 98]⟩, 2), (⟨#[67, 45, 99]⟩, 35), (⟨#[67, 45, 100]⟩, 37), (⟨#[67, 45, 101]⟩, 7), (⟨#[67, 45, 102]⟩, 3), (⟨#[67, 45, 103]⟩, 35), (⟨#[67, 45, 104]⟩, 9), (⟨#[67, 45, 105]⟩, 32), (⟨#[67, 45, 107]⟩, 10), (⟨#[67, 45, 108]⟩, 36), (⟨#[67, 45, 110]⟩, 27), (⟨#[67, 45, 112]⟩, 26), (⟨#[67, 45, 113]⟩, 34), (⟨#[67, 45, 114]⟩, 31), (⟨#[67, 45, 116]⟩, 17), (⟨#[67, 45, 117]⟩, 11), (⟨#[67, 45, 118]⟩, 34), (⟨#[67, 45, 119]⟩, 13), (⟨#[67, 45, 121]⟩, 15), (⟨#[67, 45, 64]⟩, 24), (⟨#[67, 45, 95]⟩, 22)]
set_option maxRecDepth 100000 in
set_option maxHeartbeats 4000000 in
theorem econtrols_any (w : World) : Calls Tryd.prog 103 #[] w fun e w' => e = .returned (.slice (some ⟨w.heap.size, 0, none⟩) 22 22) ∧ ErB w' w.heap.size erA ∧ Below w.heap.size w w' := by
  have hb := Lib.hid fun (o : Obj) => below_alloc w o
  have hn := Lib.hid (heap_alloc_new w (.cells (erCells erA) 142))
  go_enter Tryd.func103, Tryd.ntmps103
  go_wp2
  go_ret
  exact ⟨rfl, hn.out, hb.out _⟩
def erB : List ER := [(⟨#[77, 45, 102]⟩, 5), (⟨#[77, 45, 98]⟩, 4), (⟨#[77, 45, 100]⟩, 12), (⟨#[77, 45, 60, 55, 70, 62]⟩, 13), (⟨#[77, 45, 67, 45, 104]⟩, 13), (⟨#[77, 45, 121]⟩, 16), (⟨#[77, 45, 116]⟩, 18), (⟨#[77, 45, 117]⟩, 19), (⟨#[77, 45, 108]⟩, 20), (⟨#[77, 45, 99]⟩, 21), (⟨#[77, 45, 60, 51, 67, 62]⟩, 28), (⟨#[77, 45, 62]⟩, 29), (⟨#[77, 45, 112]⟩, 30), (⟨#[77, 45, 119]⟩, 40), (⟨#[77, 45, 107]⟩, 41), (⟨#[77, 45, 120]⟩, 25), (⟨#[77, 45, 114]⟩, 23), (⟨#[77, 45, 97]⟩, 14)]
set_option maxRecDepth 100000 in
set_option maxHeartbeats 4000000 in
theorem emetas_any (w : World) : Calls Tryd.prog 104 #[] w fun e w' => e = .returned (.slice (some ⟨w.heap.size, 0, none⟩) 18 18) ∧ ErB w' w.heap.size erB ∧ Below w.heap.size w w' := by
  have hb := Lib.hid fun (o : Obj) => below_alloc w o
  have hn := Lib.hid (heap_alloc_new w (.cells (erCells erB) 142))
  go_enter Tryd.func104, Tryd.ntmps104
  go_wp2
  go_ret
  exact ⟨rfl, hn.out, hb.out _⟩
def erC : List ER := [(⟨#[82, 69, 84]⟩, 33), (⟨#[76, 70, 68]⟩, 33), (⟨#[69, 83, 67]⟩, 35), (⟨#[68, 69, 76]⟩, 9), (⟨#[85, 80]⟩, 26), (⟨#[68, 79, 87, 78]⟩, 27), (⟨#[82, 73, 71, 72, 84]⟩, 3), (⟨#[76, 69, 70, 84]⟩, 2), (⟨#[72, 79, 77, 69]⟩, 6), (⟨#[69, 78, 68]⟩, 7), (⟨#[68, 69, 76, 69, 84, 69]⟩, 8), (⟨#[80, 71, 85, 80]⟩, 28), (⟨#[80, 71, 68, 78]⟩, 29)]
set_option maxRecDepth 100000 in
set_option maxHeartbeats 4000000 in
theorem eothers_any (w : World) : Calls Tryd.prog 105 #[] w fun e w' => e = .returned (.slice (some ⟨w.heap.size, 0, none⟩) 13 13) ∧ ErB w' w.heap.size erC ∧ Below w.heap.size w w' := by
  have hb := Lib.hid fun (o : Obj) => below_alloc w o
  have hn := Lib.hid (heap_alloc_new w (.cells (erCells erC) 142))
  go_enter Tryd.func105, Tryd.ntmps105
  go_wp2
  go_ret
  exact ⟨rfl, hn.out, hb.out _⟩
end Go.Proofs.YtdifkjmpdmlobaaDoor
