/-
  Keys, the reference: names and bytes.
-/
import Derived.Test.YtdifkjmpdmlobaaDoorKy12
import Derived.Test.YtdifkjmpdmlobaaDoorW7
set_option linter.unusedVariables false
set_option linter.unusedSimpArgs false
namespace Go.Proofs.YtdifkjmpdmlobaaDoor
set_option maxRecDepth 100000
open Go.RowKit
theorem conv1 (v : Int) (w : World) (o : Obj) : ∀ dst, Tryd.prog.underlying dst = some .string → (convert 148 dst (.slice (some ⟨w.heap.size + 1, 0, none⟩) 1 1)).run Tryd.prog ((w.alloc o).alloc (Obj.cells #[.int .u8 v] 5)) = .ok (.string (txt [v])) ((w.alloc o).alloc (Obj.cells #[.int .u8 v] 5)) := by
  have h := conv_new (w.alloc o) [v] 1 rfl
  rwa [show (w.alloc o).heap.size = w.heap.size + 1 by simp] at h
theorem conv2 (u v : Int) (w : World) (o : Obj) : ∀ dst, Tryd.prog.underlying dst = some .string → (convert 148 dst (.slice (some ⟨w.heap.size + 1, 0, none⟩) 2 2)).run Tryd.prog ((w.alloc o).alloc (Obj.cells #[.int .u8 u, .int .u8 v] 5)) = .ok (.string (txt [u, v])) ((w.alloc o).alloc (Obj.cells #[.int .u8 u, .int .u8 v] 5)) := by
  have h := conv_new (w.alloc o) [u, v] 2 rfl
  rwa [show (w.alloc o).heap.size = w.heap.size + 1 by simp] at h
/-- What a value is named by the reference. -/
def svN (v : Int) : List UInt8 := if 32 ≤ v then sgN v else ctN v
theorem kTab_row : ∀ r ∈ kTab, kRowOf r.1 r.2.1 = r := by decide
end Go.Proofs.YtdifkjmpdmlobaaDoor
