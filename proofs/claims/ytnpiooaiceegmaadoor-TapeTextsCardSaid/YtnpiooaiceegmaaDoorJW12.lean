/-
  Joined: Ma0 Ma1 Ma2 Ma3 Ma4 Ma5.
-/
import Derived.Test.YtnpiooaiceegmaaDoorJW04
import Derived.Test.YtnpiooaiceegmaaDoorJW06
import Derived.Test.YtnpiooaiceegmaaDoorJW09
import Derived.Test.YtnpiooaiceegmaaDoorJW11
import Derived.Deep.Onto
import Derived.Deep.RegionHeld3
import Derived.BigQuiet
import Derived.Lib.QuietBelow
import Derived.Deep.QuietTactic
set_option linter.unusedVariables false
set_option linter.unusedSimpArgs false
set_option maxRecDepth 100000
set_option linter.unusedVariables false
set_option linter.unusedSimpArgs false
namespace Go.Proofs.YtnpiooaiceegmaaDoor
open Go.RowKit
def kC (L : List Ky) : List Value := L.flatMap fun p => [Value.int .i64 p.1, Value.int .i64 p.2.1, Value.string p.2.2.1, Value.bool p.2.2.2]
theorem kC_at (L : List Ky) : ∀ i, i < L.length → (kC L)[i * 4]? = some (.int .i64 (L.getD i k0).1) ∧ (kC L)[i * 4 + 1]? = some (.int .i64 (L.getD i k0).2.1) ∧ (kC L)[i * 4 + 2]? = some (.string (L.getD i k0).2.2.1) ∧ (kC L)[i * 4 + 3]? = some (.bool (L.getD i k0).2.2.2) := by
  induction L with
  | nil => intro i hi; simp at hi
  | cons x L ih =>
    intro i hi
    cases i with
    | zero => exact ⟨rfl, rfl, rfl, rfl⟩
    | succ i =>
      have h := ih i (by simpa using hi)
      rw [show (i + 1) * 4 = i * 4 + 1 + 1 + 1 + 1 by omega]
      exact h
/-- A row of keys of the call's own. -/
def OwK (w : World) (B : Nat) (v : Value) (L : List Ky) : Prop := w.ownsRow B 68 4 v L.length (kC L)
/-- A slice of keys, its room, and where its block is. -/
structure SlK (S : Nat → Prop) (w : World) (a : Option Addr) (L : List Ky) (c : Nat) : Prop where
  s : KeysIn w a L
  le : L.length ≤ c
  nl : a = none → c = 0
  st : ∀ ad, a = some ad → L ≠ [] → S ad.block
theorem SlK.mono {S T : Nat → Prop} {w : World} {a : Option Addr} {L : List Ky} {c : Nat} (h : SlK S w a L c) (hT : ∀ k, S k → T k) : SlK T w a L c := ⟨h.s, h.le, h.nl, fun ad e hn => hT _ (h.st ad e hn)⟩
theorem SlK.keep {S : Nat → Prop} {w w' : World} {a : Option Addr} {L : List Ky} {c : Nat} (h : SlK S w a L c) (hs : w.heap.size ≤ w'.heap.size) (hk : ∀ k, S k → w'.heap[k]? = w.heap[k]?) : SlK S w' a L c := by
  refine ⟨fun i hi => ?_, h.le, h.nl, h.st⟩
  obtain ⟨b, off, e, hb, h1, h2, h3, h4⟩ := h.s i hi
  have hS := h.st _ e (fun h0 => by rw [h0] at hi; simp at hi)
  have hkb : w'.heap[b]? = w.heap[b]? := hk b hS
  refine ⟨b, off, e, Nat.lt_of_lt_of_le hb hs, ?_, ?_, ?_, ?_⟩
  · rw [← h1]; unfold World.cell?; rw [hkb]
  · rw [← h2]; unfold World.cell?; rw [hkb]
  · rw [← h3]; unfold World.cell?; rw [hkb]
  · rw [← h4]; unfold World.cell?; rw [hkb]
theorem SlK.below {S : Nat → Prop} {w w' : World} {a : Option Addr} {L : List Ky} {c : Nat} (h : SlK S w a L c) (hb : Below w.heap.size w w') : SlK S w' a L c := ⟨h.s.below hb, h.le, h.nl, h.st⟩
theorem SlK.none (S : Nat → Prop) (w : World) : SlK S w none [] 0 := ⟨fun j hj => absurd hj (Nat.not_lt_zero j), Nat.le_refl _, fun _ => rfl, fun ad e => by cases e⟩
theorem OwK.sl {w : World} {B : Nat} {v : Value} {L : List Ky} (h : OwK w B v L) : ∃ a c, v = .slice a L.length c ∧ SlK (fun k => B ≤ k ∧ k < w.heap.size ∧ v.ownBlock = some k) w a L c := by
  unfold OwK at h
  rcases h.2 with ⟨rfl, h0⟩ | ⟨g, cap, cur, rfl, hB, hg, hle, _⟩
  · exact ⟨none, 0, by rw [h0], fun j hj => by omega, by omega, fun _ => rfl, fun ad e => by cases e⟩
  · refine ⟨_, cap, rfl, fun j hj => ⟨g, 0, rfl, blk_lt hg, ?_, ?_, ?_, ?_⟩, hle, fun e => (by cases e), fun ad e _ => (by cases e; exact ⟨hB, blk_lt hg, rfl⟩)⟩
    all_goals have := kC_at L j hj
    · rw [Nat.zero_add, h.cellAt (j * 4) (by omega)]; exact this.1
    · rw [Nat.zero_add, h.cellAt (j * 4 + 1) (by omega)]; exact this.2.1
    · rw [Nat.zero_add, h.cellAt (j * 4 + 2) (by omega)]; exact this.2.2.1
    · rw [Nat.zero_add, h.cellAt (j * 4 + 3) (by omega)]; exact this.2.2.2
theorem OwK.mono {w : World} {B B' : Nat} {v : Value} {L : List Ky} (h : OwK w B v L) (hB : B' ≤ B) : OwK w B' v L := World.ownsRow.mono h hB
theorem OwK.below {w w' : World} {B : Nat} {v : Value} {L : List Ky} (h : OwK w B v L) (hb : Below w.heap.size w w') : OwK w' B v L := by
  refine h.kept (row := none) ⟨hb.os, hb.tape, hb.output, hb.size, fun k hk _ => hb.block k hk⟩ ?_
  cases v.ownBlock <;> simp
end Go.Proofs.YtnpiooaiceegmaaDoor
set_option linter.unusedVariables false
set_option linter.unusedSimpArgs false
namespace Go.Proofs.YtnpiooaiceegmaaDoor
open Go.RowKit
/-- The blocks S stay as they are. -/
structure KeptM (S : Nat → Prop) (w w' : World) : Prop where
  os : w'.os = w.os
  tape : w'.tape = w.tape
  output : w'.output = w.output
  size : w.heap.size ≤ w'.heap.size
  block : ∀ k, S k → w'.heap[k]? = w.heap[k]?
theorem KeptM.trans {S : Nat → Prop} {w w1 w2 : World} (h : KeptM S w w1) (k : KeptM S w1 w2) : KeptM S w w2 :=
  ⟨k.os.trans h.os, k.tape.trans h.tape, k.output.trans h.output, Nat.le_trans h.size k.size, fun j hj => (k.block j hj).trans (h.block j hj)⟩
theorem KeptM.below {S : Nat → Prop} {w w' : World} (h : KeptM S w w') (B : Nat) (hS : ∀ k, k < B → S k) : Below B w w' :=
  ⟨h.os, h.tape, h.output, h.size, fun k hk => h.block k (hS k hk)⟩
theorem KeptM.of {S : Nat → Prop} {w w' : World} (h : Below w.heap.size w w') (hS : ∀ k, S k → k < w.heap.size) : KeptM S w w' := ⟨h.os, h.tape, h.output, h.size, fun k hk => h.block k (hS k hk)⟩
section
variable {S : Nat → Prop} {P : Nat} {M : Int} {K Nw : List Ky} {kp : Bool} {w w' : World}
end
end Go.Proofs.YtnpiooaiceegmaaDoor
set_option linter.unusedVariables false
set_option linter.unusedSimpArgs false
namespace Go.Proofs.YtnpiooaiceegmaaDoor
open Go.RowKit Go.Sort
section
variable {S : Nat → Prop} {P : Nat} {M : Int} {K Nw : List Ky} {kp : Bool} {w w' : World}
end
end Go.Proofs.YtnpiooaiceegmaaDoor
set_option linter.unusedVariables false
set_option linter.unusedSimpArgs false
namespace Go.Proofs.YtnpiooaiceegmaaDoor
open Go.RowKit Go.Sort
section
variable {S : Nat → Prop} {P : Nat} {M : Int} {K Nw : List Ky} {kp : Bool} {w w' : World}
end
end Go.Proofs.YtnpiooaiceegmaaDoor
set_option linter.unusedVariables false
set_option linter.unusedSimpArgs false
namespace Go.Proofs.YtnpiooaiceegmaaDoor
open Go.RowKit
section
variable {S : Nat → Prop} {P : Nat} {M : Int} {K Nw : List Ky} {kp : Bool} {w w' : World}
end
end Go.Proofs.YtnpiooaiceegmaaDoor
set_option linter.unusedVariables false
set_option linter.unusedSimpArgs false
namespace Go.Proofs.YtnpiooaiceegmaaDoor
open Go.RowKit Go.Sort
end Go.Proofs.YtnpiooaiceegmaaDoor
