/-
  Joined: Ky4 Sp1 Sp2 Sp3 Ky5 Ky6 Ky7 Ky8 Ky9.
-/
import Derived.Test.YtnpiooaiceegmaaDoorJW02
import Derived.Test.YtnpiooaiceegmaaDoorJW03
import Derived.Test.YtnpiooaiceegmaaDoorJW04
import Derived.Test.YtnpiooaiceegmaaDoorJW05
import Derived.Test.YtnpiooaiceegmaaDoorJW06
import Derived.Test.YtnpiooaiceegmaaDoorShelf
import Derived.Lib.UnsafeStr
import Derived.Deep.Cut
import Derived.Deep.RegionHeld3
import Derived.Laws.Strings2
set_option linter.unusedVariables false
set_option linter.unusedSimpArgs false
set_option maxRecDepth 100000
set_option linter.unusedVariables false
set_option linter.unusedSimpArgs false
namespace Go.Proofs.YtnpiooaiceegmaaDoor
open Go.RowKit
end Go.Proofs.YtnpiooaiceegmaaDoor
set_option linter.unusedVariables false
set_option linter.unusedSimpArgs false
namespace Go.Proofs.YtnpiooaiceegmaaDoor
open Go.RowKit
end Go.Proofs.YtnpiooaiceegmaaDoor
set_option linter.unusedVariables false
set_option linter.unusedSimpArgs false
namespace Go.Proofs.YtnpiooaiceegmaaDoor
open Go.RowKit
/-- Bytes that go together up to where the second ones go on with no further byte. -/
def PreR (r r' : List Int) : Prop := r = r' ∨ ∃ p q y z, r = p ++ q ∧ r' = p ++ y :: z ∧ ¬ (128 ≤ y ∧ y ≤ 191)
theorem PreR.cons {r r' : List Int} (h : PreR r r') (a : List Int) : PreR (a ++ r) (a ++ r') := by
  rcases h with rfl | ⟨p, q, y, z, rfl, rfl, hy⟩
  · exact Or.inl rfl
  · exact Or.inr ⟨a ++ p, q, y, z, by rw [List.append_assoc], by rw [List.append_assoc], hy⟩
end Go.Proofs.YtnpiooaiceegmaaDoor
set_option linter.unusedVariables false
set_option linter.unusedSimpArgs false
namespace Go.Proofs.YtnpiooaiceegmaaDoor
open Go.RowKit
def mkL (l : List UInt8) : ByteArray := ⟨l.toArray⟩
end Go.Proofs.YtnpiooaiceegmaaDoor
set_option linter.unusedVariables false
set_option linter.unusedSimpArgs false
namespace Go.Proofs.YtnpiooaiceegmaaDoor
open Go.RowKit
abbrev mkS (l : List UInt8) : ByteArray := ⟨l.toArray⟩
theorem mkS_size (l : List UInt8) : (mkS l).size = l.length := by simp [mkS, ByteArray.size]
theorem mkS_of (s : ByteArray) : mkS s.data.toList = s := by cases s; simp [mkS]
theorem khex2 (v : Int) (w : World) (h0 : 0 ≤ v) (h1 : v ≤ 9223372036854775807) : Calls Tryd.prog 106 #[.int .i64 v, .int .i64 2] w fun e w' => e = .returned (.string (mkS (hexN v 2))) ∧ Below w.heap.size w w' := by
  have X := hex_any v 2 w (by omega) h1
  rw [show hexS v 2 = hexN v 2 by rw [hexS_pos v 2 h0]; rfl] at X
  exact X
end Go.Proofs.YtnpiooaiceegmaaDoor
set_option linter.unusedVariables false
set_option linter.unusedSimpArgs false
namespace Go.Proofs.YtnpiooaiceegmaaDoor
open Go.RowKit
theorem kgrown {w w' : World} (h : Below w.heap.size w w') : w.grownBy w' none := ⟨h.os, h.tape, h.output, h.size, fun k hk _ => h.block k hk⟩
theorem kown_below {w w' : World} {base : Nat} {e : TypeId} {size : Nat} {v : Value} {n : Nat} {xs : List Value} (h : w.ownsRow base e size v n xs) (hb : Below w.heap.size w w') : w'.ownsRow base e size v n xs :=
  h.kept (kgrown hb) (by cases hv : v.ownBlock <;> simp)
set_option maxRecDepth 100000 in
set_option maxHeartbeats 2000000 in
theorem kbld_below {B b : Nat} {bs : List Value} {w w' : World} (h : IsBld B b bs w) (hb : Below w.heap.size w w') : IsBld B b bs w' := by
  rcases h with ⟨hB, v, h1, h2, h3⟩ | ⟨hB, v, h1, h2, h3⟩
  · exact Or.inl ⟨hB, v, blk_below h1 hb, kown_below h2 hb, h3⟩
  · exact Or.inr ⟨hB, v, blk_below h1 hb, kown_below h2 hb, h3⟩
theorem kbld_new (w : World) : IsBld w.heap.size w.heap.size [] (w.alloc (.cells #[.pointer none, .slice none 0 0] 103)) :=
  Or.inl ⟨Nat.le_refl _, _, heap_alloc_new w _, World.ownsRow_nil _ _ _ _, by simp [Value.ownBlock]⟩
theorem strC (l : List UInt8) : Lib.strCells (mkS l) = Lib.byteCells l := by unfold Lib.strCells mkS Lib.byteCells; simp
end Go.Proofs.YtnpiooaiceegmaaDoor
set_option linter.unusedVariables false
set_option linter.unusedSimpArgs false
namespace Go.Proofs.YtnpiooaiceegmaaDoor
open Go.RowKit
end Go.Proofs.YtnpiooaiceegmaaDoor
set_option linter.unusedVariables false
set_option linter.unusedSimpArgs false
namespace Go.Proofs.YtnpiooaiceegmaaDoor
open Go.RowKit
end Go.Proofs.YtnpiooaiceegmaaDoor
set_option linter.unusedVariables false
set_option linter.unusedSimpArgs false
namespace Go.Proofs.YtnpiooaiceegmaaDoor
open Go.RowKit
theorem list_size (s : ByteArray) : s.data.toList.length = s.size := Array.length_toList
theorem kunhex (s : ByteArray) (w : World) (hs : s.size ≤ 999999) : Calls Tryd.prog 104 #[.string s] w fun e w' => e = .returned (.tuple #[.int .i64 (uhR s.data.toList), .int .i64 (uhE s.data.toList)]) ∧ Below w.heap.size w w' := by
  have h := unhex_any s.data.toList w (by rw [list_size]; exact hs)
  rwa [show (⟨s.data.toList.toArray⟩ : ByteArray) = s from mkS_of s] at h
theorem uh_or (l : List UInt8) : (uhE l = 0 ∧ 0 ≤ uhR l) ∨ (uhE l = 6 ∧ uhR l = 0) := by
  rcases uh_cases l with h | h
  · exact Or.inl ⟨h.2.1, by omega⟩
  · exact Or.inr ⟨h.2.1, h.2.2⟩
end Go.Proofs.YtnpiooaiceegmaaDoor
