import Derived.Test.YtdifkjmpdmlobaaDoorE2
namespace Go.Proofs.YtdifkjmpdmlobaaDoor
set_option linter.unusedVariables false
set_option linter.unusedSimpArgs false
set_option maxRecDepth 100000
open Go.RowKit
theorem conv_lit {w : World} {g k c : Nat} (l : List Int) (hl : k = l.length) (h : ∀ i, i < k → w.cell? ⟨g, 0 + i, none⟩ = some (.int .u8 (l.getD i 0))) :
    ∀ dst, Tryd.prog.underlying dst = some .string → (convert 148 dst (.slice (some ⟨g, 0, none⟩) k c)).run Tryd.prog w = .ok (.string (txt l)) w := by
  intro dst hd
  rw [run_convert_bytes_arg w _ 5 Tryd.underlying148 Tryd.underlying5 g 0 _ _ l hl.symm h dst hd]
  rfl
theorem conv_new (w : World) (l : List Int) (n : Nat) (hn : n = l.length) :
    ∀ dst, Tryd.prog.underlying dst = some .string → (convert 148 dst (.slice (some ⟨w.heap.size, 0, none⟩) n n)).run Tryd.prog (w.alloc (Obj.cells (l.map (Value.int .u8)).toArray 5)) = .ok (.string (txt l)) (w.alloc (Obj.cells (l.map (Value.int .u8)).toArray 5)) := by
  refine conv_lit l hn (fun i hi => ?_)
  have h : (w.alloc (Obj.cells (l.map (Value.int .u8)).toArray 5)).heap[w.heap.size]? = some (Obj.cells (l.map (Value.int .u8)).toArray 5) := Array.getElem?_push_size
  have hi' : i < l.length := by omega
  simp only [World.cell?, h, Nat.zero_add]
  simp [List.getElem?_eq_getElem hi', List.getD]
end Go.Proofs.YtdifkjmpdmlobaaDoor
