/-
  Gap buffers: a buffer beside blocks that stay as they are.
-/
import Derived.Test.YtfmcgdjjcdlmeaaG13
import Derived.Test.YtfmcgdjjcdlmeaaG14
set_option linter.unusedVariables false
set_option linter.unusedSimpArgs false
namespace Go.Proofs.Ytfmcgdjjcdlmeaa
set_option maxRecDepth 100000
open Go.RowKit
/-- A buffer lies there, and none of the blocks S is of it. -/
def GapSt (S : Nat → Prop) (p : Nat) (M : Int) (L : List Sn) (a : Nat) (w : World) : Prop :=
  ∃ v R e, GapAt p M v R a e w ∧ gsL R a e = L ∧ ∀ k, S k → k < w.heap.size ∧ k ≠ p ∧ some k ≠ v.ownBlock
/-- The blocks S stay as they are. -/
structure KeptS (S : Nat → Prop) (w w' : World) : Prop where
  os : w'.os = w.os
  tape : w'.tape = w.tape
  output : w'.output = w.output
  size : w.heap.size ≤ w'.heap.size
  block : ∀ k, S k → w'.heap[k]? = w.heap[k]?
theorem KeptS.trans {S : Nat → Prop} {w w1 w2 : World} (h : KeptS S w w1) (k : KeptS S w1 w2) : KeptS S w w2 :=
  ⟨k.os.trans h.os, k.tape.trans h.tape, k.output.trans h.output, Nat.le_trans h.size k.size, fun j hj => (k.block j hj).trans (h.block j hj)⟩
theorem KeptS.below {S : Nat → Prop} {w w' : World} (h : KeptS S w w') (B : Nat) (hS : ∀ k, k < B → S k) : Below B w w' :=
  ⟨h.os, h.tape, h.output, h.size, fun k hk => h.block k (hS k hk)⟩
/-- Behind a call that leaves all older blocks: S may grow by what was made since. -/
theorem GapSt.grow {S T : Nat → Prop} {p : Nat} {M : Int} {L : List Sn} {a : Nat} {w w' : World} (h : GapSt S p M L a w) (hb : Below w.heap.size w w') (hT : ∀ k, T k → S k ∨ (w.heap.size ≤ k ∧ k < w'.heap.size)) : GapSt T p M L a w' := by
  obtain ⟨v, R, e, h4, h5, h6⟩ := h
  refine ⟨v, R, e, h4.below hb, h5, fun k hk => ?_⟩
  rcases hT k hk with hk | ⟨hk1, hk2⟩
  · have := h6 k hk
    exact ⟨Nat.lt_of_lt_of_le this.1 hb.size, this.2.1, this.2.2⟩
  · refine ⟨hk2, fun e => ?_, fun e => ?_⟩
    · have := blk_lt h4.blk; omega
    · have := h4.room.lt k e.symm; omega
/-- A call of the buffer leaves S. -/
theorem GapSt.kept {S : Nat → Prop} {p : Nat} {M : Int} {v v' : Value} {R' : List Sn} {a' e' : Nat} {L' : List Sn} {w w' : World} (h6 : ∀ k, S k → k < w.heap.size ∧ k ≠ p ∧ some k ≠ v.ownBlock) (g : GapAt p M v' R' a' e' w') (gl : gsL R' a' e' = L') (k : Kept p v w w') (hv : v' = v ∨ ∀ r, v'.ownBlock = some r → w.heap.size ≤ r) : GapSt S p M L' a' w' ∧ KeptS S w w' := by
  refine ⟨⟨v', R', e', g, gl, fun j hj => ?_⟩, ⟨k.os, k.tape, k.output, k.size, fun j hj => k.block j (h6 j hj).1 (h6 j hj).2.1 (h6 j hj).2.2⟩⟩
  have h := h6 j hj
  refine ⟨Nat.lt_of_lt_of_le h.1 k.size, h.2.1, fun e => ?_⟩
  rcases hv with rfl | hv
  · exact h.2.2 e
  · have := hv j e.symm; omega
theorem st_move {S : Nat → Prop} {p : Nat} {M : Int} {L : List Sn} {a : Nat} {w : World} (i : Int) (h : GapSt S p M L a w) (hi : i ≤ 9223372036854775807) :
    Calls Try.prog 17 #[.pointer (some ⟨p, 0, none⟩), .int .i64 i] w fun x w' => x = .returned (.tuple #[]) ∧ GapSt S p M L (mvT L.length i) w' ∧ KeptS S w w' := by
  obtain ⟨v, R, e, h4, h5, h6⟩ := h
  subst h5
  refine (gmove_any p M v R a e i w h4 hi).mono ?_
  rintro x w' ⟨rfl, R', e', g1, g2, _, g3⟩
  exact ⟨rfl, GapSt.kept h6 g1 g2 g3 (Or.inl rfl)⟩
theorem st_insert {S : Nat → Prop} {p : Nat} {M : Int} {L : List Sn} {a : Nat} {w : World} {b : Option Addr} {l : List Sn} (c : Nat) (h : GapSt S p M L a w) (hs : Signs w b l) (hb : l ≠ [] → ∀ ad, b = some ad → S ad.block) (hok : sgC l = true) (hM : (l.length : Int) + (L.length : Int) ≤ M) :
    Calls Try.prog 9 #[.pointer (some ⟨p, 0, none⟩), .slice b l.length c] w fun x w' => x = .returned (.int .i64 0) ∧ GapSt S p M (L.take a ++ l ++ L.drop a) (a + l.length) w' ∧ KeptS S w w' := by
  obtain ⟨v, R, e, h4, h5, h6⟩ := h
  subst h5
  refine (gin_any p M v R a e l b c w h4 hs (fun hl ad he => (h6 _ (hb hl ad he)).2) hok hM).mono ?_
  rintro x w' ⟨rfl, v', R', e', g1, g2, g3, g4⟩
  exact ⟨rfl, GapSt.kept h6 g1 g2 g3 g4⟩
theorem st_set {S : Nat → Prop} {p : Nat} {M : Int} {L : List Sn} {a : Nat} {w : World} {b : Option Addr} {l : List Sn} (c : Nat) (i : Int) (h : GapSt S p M L a w) (hs : Signs w b l) (hb : l ≠ [] → ∀ ad, b = some ad → S ad.block) (hok : sgC l = true) (hM : (l.length : Int) ≤ M) (hi : i ≤ 9223372036854775807) :
    Calls Try.prog 18 #[.pointer (some ⟨p, 0, none⟩), .slice b l.length c, .int .i64 i] w fun x w' => x = .returned (.int .i64 0) ∧ GapSt S p M l (mvT l.length i) w' ∧ KeptS S w w' := by
  obtain ⟨v, R, e, h4, h5, h6⟩ := h
  subst h5
  refine (gset_any p M v R a e l b c i w h4 hs (fun hl ad he => (h6 _ (hb hl ad he)).2) hok hM hi).mono ?_
  rintro x w' ⟨rfl, v', R', e', g1, g2, g3, g4⟩
  exact ⟨rfl, GapSt.kept h6 g1 g2 g3 g4⟩
end Go.Proofs.Ytfmcgdjjcdlmeaa
