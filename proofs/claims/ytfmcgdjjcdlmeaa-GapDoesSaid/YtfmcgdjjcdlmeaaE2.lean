import Derived.Test.YtfmcgdjjcdlmeaaE1
import Derived.Laws.BytesArg
namespace Go.Proofs.Ytfmcgdjjcdlmeaa
set_option linter.unusedVariables false
set_option linter.unusedSimpArgs false
set_option maxRecDepth 100000
open Go.RowKit
def u8s (l : List Int) : List Value := l.map (Value.int .u8)
structure EncInv (l : List Int) (a : Option Addr) (w : World) (k : Nat) (v : Value) (wr : World) : Prop where
  own : wr.ownsRow w.heap.size 5 1 v (encI (l.take k)).length (u8s (encI (l.take k)))
  bl : Below w.heap.size w wr
  le : k ≤ l.length
theorem enc_take (l : List Int) (k : Nat) (h : k < l.length) : encI (l.take (k + 1)) = encI (l.take k) ++ oneI (l.getD k 0) := by
  rw [List.take_add_one, encI_append, List.getElem?_eq_getElem h]
  simp [encI, List.getD, List.getElem?_eq_getElem h]
theorem enc_take_len (l : List Int) (k : Nat) (h : l.length ≤ 1000000) : (encI (l.take k)).length ≤ 4000000 := by
  have := encI_len (l.take k); simp at this; omega
end Go.Proofs.Ytfmcgdjjcdlmeaa
