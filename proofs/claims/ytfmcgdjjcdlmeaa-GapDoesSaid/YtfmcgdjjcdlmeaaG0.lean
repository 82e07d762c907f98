/-
  Gap buffers: how one lies in memory.
-/
import Derived.Test.YtfmcgdjjcdlmeaaMk
import Derived.Deep.QuietTactic
import Derived.BigQuiet
import Derived.Deep.Cut
set_option linter.unusedVariables false
set_option linter.unusedSimpArgs false
namespace Go.Proofs.Ytfmcgdjjcdlmeaa
set_option maxRecDepth 100000
open Go.RowKit
abbrev Sn := Int × Int
/-- The room of a buffer: none, or a block of its own. -/
def RoomIn (p : Nat) (v : Value) (R : List Sn) (w : World) : Prop :=
  (v = .slice none 0 0 ∧ R = []) ∨ ∃ r, v = .slice (some ⟨r, 0, none⟩) R.length R.length ∧ r ≠ p ∧ w.heap[r]? = some (.cells (sRow R) 43 (0, 0))
/-- A buffer lies at a block: its cap, its room, its cursor, and where the gap ends. -/
structure GapAt (p : Nat) (M : Int) (v : Value) (R : List Sn) (a e : Nat) (w : World) : Prop where
  blk : w.heap[p]? = some (.cells #[.int .i64 M, v, .int .i64 (a : Int), .int .i64 (e : Int)] 56 (0, 0))
  room : RoomIn p v R w
  le1 : a ≤ e
  le2 : e ≤ R.length
  big : R.length ≤ 65536
  m1 : 1 ≤ M
  m2 : M ≤ 65536
/-- A buffer's signs. -/
def gsL (R : List Sn) (a e : Nat) : List Sn := R.take a ++ R.drop e
theorem gsL_len (R : List Sn) (a e : Nat) (h1 : a ≤ e) (h2 : e ≤ R.length) : (gsL R a e).length = R.length - (e - a) := by
  unfold gsL; rw [List.length_append, List.length_take, List.length_drop]; omega
/-- What a call of a buffer leaves: all blocks but its own two. -/
structure Kept (p : Nat) (v : Value) (w w' : World) : Prop where
  os : w'.os = w.os
  tape : w'.tape = w.tape
  output : w'.output = w.output
  size : w.heap.size ≤ w'.heap.size
  block : ∀ k, k < w.heap.size → k ≠ p → some k ≠ v.ownBlock → w'.heap[k]? = w.heap[k]?
theorem Kept.of {p : Nat} {v : Value} {w w' : World} (h : Below w.heap.size w w') : Kept p v w w' := ⟨h.os, h.tape, h.output, h.size, fun k hk _ _ => h.block k hk⟩
theorem Kept.set {p : Nat} {v : Value} {w w' : World} (h : Kept p v w w') (i : Nat) (u : Value) : Kept p v w (w'.setCell ⟨p, i, none⟩ u) :=
  ⟨h.os, h.tape, h.output, by have := h.size; simpa [World.setCell] using this, fun k hk hne hv => (Below.heap_setCell _ _ _ _ hne).trans (h.block k hk hne hv)⟩
theorem Kept.drew {p : Nat} {v : Value} {w w' : World} (h : Kept p v w w') (n : Nat) : Kept p v w (w'.drewN n) := by
  induction n with
  | zero => exact h
  | succ n ih => exact ⟨ih.os, ih.tape, ih.output, ih.size, ih.block⟩
theorem Kept.trans {p : Nat} {v v' : Value} {w w1 w2 : World} (h : Kept p v w w1) (k : Kept p v' w1 w2) (hv : v'.ownBlock = v.ownBlock ∨ ∀ r, v'.ownBlock = some r → w.heap.size ≤ r) : Kept p v w w2 :=
  ⟨k.os.trans h.os, k.tape.trans h.tape, k.output.trans h.output, Nat.le_trans h.size k.size, fun j hj hne hjv => by
    refine (k.block j (Nat.lt_of_lt_of_le hj h.size) hne (fun e => ?_)).trans (h.block j hj hne hjv)
    rcases hv with hv | hv
    · exact hjv (e.trans hv)
    · have := hv j e.symm; omega⟩
/-- Behind a call of a buffer that is not as old as B, what is older stays. -/
theorem Kept.below {p : Nat} {v : Value} {B : Nat} {w0 w w' : World} (h : Kept p v w w') (hb : Below B w0 w) (hB : B ≤ w.heap.size) (hp : B ≤ p) (hv : ∀ r, v.ownBlock = some r → B ≤ r) : Below B w0 w' :=
  hb.trans ⟨h.os, h.tape, h.output, h.size, fun k hk => h.block k (by omega) (by omega) (fun e => by have := hv k e.symm; omega)⟩
theorem RoomIn.keep {p : Nat} {v : Value} {R : List Sn} {w w' : World} (h : RoomIn p v R w) (hk : ∀ r, v.ownBlock = some r → w'.heap[r]? = w.heap[r]?) : RoomIn p v R w' := by
  rcases h with h | ⟨r, rfl, h1, h2⟩
  · exact Or.inl h
  · exact Or.inr ⟨r, rfl, h1, (hk r rfl).trans h2⟩
theorem RoomIn.lt {p : Nat} {v : Value} {R : List Sn} {w : World} (h : RoomIn p v R w) : ∀ r, v.ownBlock = some r → r < w.heap.size := by
  rcases h with ⟨rfl, _⟩ | ⟨r, rfl, _, h2⟩
  · intro r e; cases e
  · intro r' e; cases e; exact blk_lt h2
theorem RoomIn.ne {p : Nat} {v : Value} {R : List Sn} {w : World} (h : RoomIn p v R w) : ∀ r, v.ownBlock = some r → r ≠ p := by
  rcases h with ⟨rfl, _⟩ | ⟨r, rfl, h1, _⟩
  · intro r e; cases e
  · intro r' e; cases e; exact h1
theorem RoomIn.below {p : Nat} {v : Value} {R : List Sn} {w w' : World} (h : RoomIn p v R w) (hb : Below w.heap.size w w') : RoomIn p v R w' :=
  h.keep fun r e => hb.block r (h.lt r e)
theorem RoomIn.set {p : Nat} {v : Value} {R : List Sn} {w : World} (h : RoomIn p v R w) (i : Nat) (u : Value) : RoomIn p v R (w.setCell ⟨p, i, none⟩ u) :=
  h.keep fun r e => Below.heap_setCell _ _ _ _ (h.ne r e)
theorem GapAt.below {p : Nat} {M : Int} {v : Value} {R : List Sn} {a e : Nat} {w w' : World} (h : GapAt p M v R a e w) (hb : Below w.heap.size w w') : GapAt p M v R a e w' :=
  ⟨blk_below h.blk hb, h.room.below hb, h.le1, h.le2, h.big, h.m1, h.m2⟩
theorem GapAt.drew {p : Nat} {M : Int} {v : Value} {R : List Sn} {a e : Nat} {w : World} (h : GapAt p M v R a e w) (n : Nat) : GapAt p M v R a e (w.drewN n) :=
  h.below (drewN_below (Below.refl _ _) n)
theorem GapAt.slice {p : Nat} {M : Int} {v : Value} {R : List Sn} {a e : Nat} {w : World} (h : GapAt p M v R a e w) : ∃ ad, v = .slice ad R.length R.length := by
  rcases h.room with ⟨h1, h2⟩ | ⟨r, h1, _⟩
  · exact ⟨none, by rw [h1, h2]; rfl⟩
  · exact ⟨_, h1⟩
theorem GapAt.cells {p : Nat} {M : Int} {v : Value} {R : List Sn} {a e : Nat} {w : World} (h : GapAt p M v R a e w) :
    w.cell? ⟨p, 0, none⟩ = some (.int .i64 M) ∧ w.cell? ⟨p, 1, none⟩ = some v ∧ w.cell? ⟨p, 2, none⟩ = some (.int .i64 (a : Int)) ∧ w.cell? ⟨p, 3, none⟩ = some (.int .i64 (e : Int)) := by
  have y := fun i => cell_of_row _ _ i _ _ _ h.blk
  exact ⟨y 0, y 1, y 2, y 3⟩
end Go.Proofs.Ytfmcgdjjcdlmeaa
