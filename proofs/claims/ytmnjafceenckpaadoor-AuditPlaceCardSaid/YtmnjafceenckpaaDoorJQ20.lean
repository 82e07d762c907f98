/-
  Joined: Ma1 Ma2 Ma3 Ma4 Ma5 In0 In1 In2 In3 In4 In5.
-/
import Derived.Test.YtmnjafceenckpaaDoorJQ07
import Derived.Test.YtmnjafceenckpaaDoorJQ10
import Derived.Test.YtmnjafceenckpaaDoorJQ13
import Derived.Test.YtmnjafceenckpaaDoorJQ14
import Derived.Test.YtmnjafceenckpaaDoorJQ19
import Derived.Deep.RegionHeld3
import Derived.BigQuiet
import Derived.Lib.QuietBelow
import Derived.Deep.QuietTactic
set_option linter.unusedVariables false
set_option linter.unusedSimpArgs false
set_option maxRecDepth 100000
set_option linter.unusedVariables false
set_option linter.unusedSimpArgs false
namespace Go.Proofs.YtmnjafceenckpaaDoor
open Go.RowKit
/-- The blocks S stay as they are. -/
structure KeptM (S : Nat → Prop) (w w' : World) : Prop where
  os : w'.os = w.os
  tape : w'.tape = w.tape
  output : w'.output = w.output
  size : w.heap.size ≤ w'.heap.size
  block : ∀ k, S k → w'.heap[k]? = w.heap[k]?
theorem KeptM.trans {S : Nat → Prop} {w w1 w2 : World} (h : KeptM S w w1) (k : KeptM S w1 w2) : KeptM S w w2 :=
  ⟨k.os.trans h.os, k.tape.trans h.tape, k.output.trans h.output, Nat.le_trans h.size k.size, fun j hj => (k.block j hj).trans (h.block j hj)⟩
theorem KeptM.below {S : Nat → Prop} {w w' : World} (h : KeptM S w w') (B : Nat) (hS : ∀ k, k < B → S k) : Below B w w' :=
  ⟨h.os, h.tape, h.output, h.size, fun k hk => h.block k (hS k hk)⟩
theorem KeptM.of {S : Nat → Prop} {w w' : World} (h : Below w.heap.size w w') (hS : ∀ k, S k → k < w.heap.size) : KeptM S w w' := ⟨h.os, h.tape, h.output, h.size, fun k hk => h.block k (hS k hk)⟩
section
variable {S : Nat → Prop} {P : Nat} {M : Int} {K Nw : List Ky} {kp : Bool} {w w' : World}
theorem kept_set {S : Nat → Prop} {P : Nat} {w : World} (hP : ∀ k, S k → k ≠ P) (i : Nat) (v : Value) : KeptM S w (w.setCell ⟨P, i, none⟩ v) :=
  ⟨rfl, rfl, rfl, by simp [World.setCell], fun k hk => Below.heap_setCell _ _ _ _ (hP k hk)⟩
end
end Go.Proofs.YtmnjafceenckpaaDoor
set_option linter.unusedVariables false
set_option linter.unusedSimpArgs false
namespace Go.Proofs.YtmnjafceenckpaaDoor
open Go.RowKit Go.Sort
section
variable {S : Nat → Prop} {P : Nat} {M : Int} {K Nw : List Ky} {kp : Bool} {w w' : World}
end
end Go.Proofs.YtmnjafceenckpaaDoor
set_option linter.unusedVariables false
set_option linter.unusedSimpArgs false
namespace Go.Proofs.YtmnjafceenckpaaDoor
open Go.RowKit Go.Sort
section
variable {S : Nat → Prop} {P : Nat} {M : Int} {K Nw : List Ky} {kp : Bool} {w w' : World}
end
end Go.Proofs.YtmnjafceenckpaaDoor
set_option linter.unusedVariables false
set_option linter.unusedSimpArgs false
namespace Go.Proofs.YtmnjafceenckpaaDoor
open Go.RowKit
/-- Keys, so many times over. -/
def rpK (K : List Ky) (n : Nat) : List Ky := (List.replicate n K).flatten
theorem rpK_zero (K : List Ky) : rpK K 0 = [] := rfl
theorem rpK_succ (K : List Ky) (n : Nat) : rpK K (n + 1) = rpK K n ++ K := by
  unfold rpK
  rw [show n + 1 = n + 1 from rfl, List.replicate_succ', List.flatten_append]
  simp
theorem rpK_len (K : List Ky) (n : Nat) : (rpK K n).length = n * K.length := by
  induction n with
  | zero => simp [rpK]
  | succ n ih => rw [rpK_succ, List.length_append, ih, Nat.succ_mul]
section
variable {S : Nat → Prop} {P : Nat} {M : Int} {K Nw : List Ky} {kp : Bool} {w w' : World}
end
end Go.Proofs.YtmnjafceenckpaaDoor
set_option linter.unusedVariables false
set_option linter.unusedSimpArgs false
namespace Go.Proofs.YtmnjafceenckpaaDoor
open Go.RowKit Go.Sort
/-- The document's macro as a value. -/
abbrev mV (la : Option Addr) (ln lc : Nat) (na : Option Addr) (nn nc : Nat) (kp : Bool) : Value := .agg #[.slice la ln lc, .slice na nn nc, .bool kp]
end Go.Proofs.YtmnjafceenckpaaDoor
set_option linter.unusedVariables false
set_option linter.unusedSimpArgs false
namespace Go.Proofs.YtmnjafceenckpaaDoor
open Go.RowKit
/-- An input, by what it holds. -/
structure IS where
  most : Int
  wait : List UInt8
  pas : Bool
  pb : List UInt8
  ct : Nat
  mt : Nat
def u8L (l : List UInt8) : List Value := l.map fun b => Value.int .u8 (b.toNat : Int)
/-- A row of bytes of the object's own. -/
def OwU (w : World) (v : Value) (l : List UInt8) : Prop := w.ownsRow 0 5 1 v l.length (u8L l)
theorem owu_nil (w : World) : OwU w (.slice none 0 0) [] := World.ownsRow_nil _ _ _ _
theorem OwU.below {w w' : World} {v : Value} {l : List UInt8} (h : OwU w v l) (hb : Below w.heap.size w w') : OwU w' v l := by
  refine h.kept (row := none) ⟨hb.os, hb.tape, hb.output, hb.size, fun k hk _ => hb.block k hk⟩ ?_
  cases v.ownBlock <;> simp
/-- The object's cells. -/
def inC (s : IS) (bv : Value) : Array Value := #[.int .i64 s.most, .string (mkL s.wait), .bool s.pas, bv, .int .i64 (s.ct : Int), .int .i64 (s.mt : Int)]
theorem blk_ne {w : World} {a b : Nat} {c d : Array Value} {t u : TypeId} {f g : Nat × Nat} (h : w.heap[a]? = some (.cells c t f)) (h' : w.heap[b]? = some (.cells d u g)) (hT : t ≠ u) : a ≠ b := by
  rintro rfl
  rw [h] at h'; simp at h'; exact hT h'.2.1
section
variable {S : Nat → Prop} {p q B : Nat} {s : IS} {K : List Ky} {w w' : World}
end
end Go.Proofs.YtmnjafceenckpaaDoor
set_option linter.unusedVariables false
set_option linter.unusedSimpArgs false
namespace Go.Proofs.YtmnjafceenckpaaDoor
open Go.RowKit
/-- The tables lie in blocks that stay. -/
structure US (S : Nat → Prop) (w : World) : Prop where
  u : UT w
  a : S 2
  b : S 3
theorem US.kept {S : Nat → Prop} {w w' : World} (h : US S w) (k : KeptM S w w') : US S w' := by
  have hc : ∀ b, S b → ∀ i, w'.cell? ⟨b, i, none⟩ = w.cell? ⟨b, i, none⟩ := fun b hb i => by unfold World.cell?; rw [k.block b hb]
  obtain ⟨⟨u1, u2⟩, u3, u4⟩ := h.u
  exact ⟨⟨⟨fun c hc' => (hc _ h.a _).trans (u1 c hc'), fun i hi => ⟨(hc _ h.b _).trans (u2 i hi).1, (hc _ h.b _).trans (u2 i hi).2⟩⟩, Nat.lt_of_lt_of_le u3 k.size, Nat.lt_of_lt_of_le u4 k.size⟩, h.a, h.b⟩
theorem KeptM.refl (S : Nat → Prop) (w : World) : KeptM S w w := ⟨rfl, rfl, rfl, Nat.le_refl _, fun _ _ => rfl⟩
/-- A key by its kind and value. -/
def kv0 (a v : Int) : Ky := (a, v, ⟨#[]⟩, false)
/-- The keys of what waits, settled. -/
def stK (l : List UInt8) : List Ky := if l = [27] then [kv0 5 0] else if pB (mkL l) = true then l.map (fun b => kv0 1 (1114112 + (b.toNat : Int))) else []
/-- The kind of the key that a letter is of; 0: none. -/
def letF (x : Int) : Int := if x = 65 then 7 else if x = 66 then 8 else if x = 67 then 9 else if x = 68 then 10 else if x = 72 then 11 else if x = 70 then 12 else 0
theorem letF_none {x : Int} (h1 : x ≠ 65) (h2 : x ≠ 66) (h3 : x ≠ 67) (h4 : x ≠ 68) (h5 : x ≠ 72) (h6 : x ≠ 70) : letF x = 0 := by
  unfold letF; rw [if_neg h1, if_neg h2, if_neg h3, if_neg h4, if_neg h5, if_neg h6]
section
variable {S : Nat → Prop} {p q B : Nat} {s : IS} {K : List Ky} {w w' : World}
theorem idx_run (l : List UInt8) (k : Nat) (hk : k < l.length) (w : World) : (Instr.index 9 (.string (mkL l)) (.int .i64 (k : Int))).run Tryd.prog w = .ok (.int .u8 ((l.getD k 0).toNat : Int)) w := by
  rw [run_index_string (P := Tryd.prog) w 9 (mkL l) .i64 (k : Int) Tryd.underlying9, dif_pos ⟨by omega, by rw [mkL_size]; omega⟩]
  rw [List.getD, List.getElem?_eq_getElem hk]
  rfl
theorem mkL_ne {a b : List UInt8} (h : a ≠ b) : ¬ mkL a = mkL b := fun e => h (by
  have := congrArg ByteArray.data e
  simpa [mkL] using this)
theorem mkL_toList (l : List UInt8) : (mkL l).toList = l := by rw [ByteArray.toList_eq]; simp [mkL]
theorem bq_ne {a b : List UInt8} (h : a ≠ b) : ((mkL a).toList == b) = false := by rw [mkL_toList]; simpa using h
end
end Go.Proofs.YtmnjafceenckpaaDoor
set_option linter.unusedVariables false
set_option linter.unusedSimpArgs false
namespace Go.Proofs.YtmnjafceenckpaaDoor
open Go.RowKit
/-- What waits behind a byte while nothing waits, and the keys. -/
def frW (b : UInt8) : List UInt8 := if 128 ≤ b.toNat ∧ pB (mkL [b]) = true then [b] else []
def frK (b : UInt8) : List Ky :=
  if b.toNat < 32 then [kv0 2 b.toNat] else if b.toNat = 127 then [kv0 6 0] else if b.toNat < 127 then [kv0 1 b.toNat] else if pB (mkL [b]) = true then [] else [kv0 1 (1114112 + (b.toNat : Int))]
/-- The text of one byte. -/
theorem txt1 (b : UInt8) : txt [(b.toNat : Int)] = mkL [b] := by rw [mkL_txt]; rfl
theorem convB (b : UInt8) (w : World) : ∀ dst, Tryd.prog.underlying dst = some .string → (convert 54 dst (.slice (some ⟨w.heap.size, 0, none⟩) 1 1)).run Tryd.prog (w.alloc (Obj.cells #[.int .u8 (b.toNat : Int)] 5)) = .ok (.string (mkL [b])) (w.alloc (Obj.cells #[.int .u8 (b.toNat : Int)] 5)) := by
  intro dst hd
  rw [← txt1]
  exact conv_new w [(b.toNat : Int)] 1 rfl dst hd
section
variable {S : Nat → Prop} {p q B : Nat} {s : IS} {K : List Ky} {w w' : World}
end
end Go.Proofs.YtmnjafceenckpaaDoor
set_option linter.unusedVariables false
set_option linter.unusedSimpArgs false
namespace Go.Proofs.YtmnjafceenckpaaDoor
open Go.RowKit
theorem mkL_cat (a b : List UInt8) : mkL a ++ mkL b = mkL (a ++ b) := by
  apply ByteArray.ext
  simp [mkL]
/-- A byte behind 27. -/
def beS (b : UInt8) : List UInt8 × List Ky × Bool :=
  if b.toNat = 91 ∨ b.toNat = 79 then ([27, b], [], false) else if b.toNat ≤ 127 then ([], [kv0 3 b.toNat], false) else ([], [kv0 5 0], true)
/-- The key of a letter. -/
def lkK (b : UInt8) : List Ky := if letF b.toNat = 0 then [] else [kv0 (letF b.toNat) 0]
theorem dec_edge (x : Nat) : (decide ((x : Int) < 32) || decide (126 < (x : Int))) = decide (x < 32 ∨ 126 < x) := by
  by_cases h : x < 32
  · rw [decide_eq_true (show (x : Int) < 32 by omega), decide_eq_true (Or.inl h)]; rfl
  · by_cases h2 : 126 < x
    · rw [decide_eq_false (show ¬ (x : Int) < 32 by omega), decide_eq_true (show 126 < (x : Int) by omega), decide_eq_true (Or.inr h2)]; rfl
    · rw [decide_eq_false (show ¬ (x : Int) < 32 by omega), decide_eq_false (show ¬ 126 < (x : Int) by omega), decide_eq_false (by omega)]; rfl
section
variable {S : Nat → Prop} {p q B : Nat} {s : IS} {K : List Ky} {w w' : World}
end
end Go.Proofs.YtmnjafceenckpaaDoor
set_option linter.unusedVariables false
set_option linter.unusedSimpArgs false
namespace Go.Proofs.YtmnjafceenckpaaDoor
open Go.RowKit
/-- The key of signs before the last letter; none: none. -/
def sgK (g : List UInt8) : List Ky :=
  if g = [49] ∨ g = [55] then [kv0 11 0] else if g = [52] ∨ g = [56] then [kv0 12 0] else if g = [51] then [kv0 13 0] else if g = [53] then [kv0 14 0] else if g = [54] then [kv0 14 1] else []
/-- The keys that signs and a letter ask for. -/
def dnK (g : List UInt8) (b : UInt8) : List Ky := if b.toNat = 126 then sgK g else if g = [] then lkK b else []
/-- What is behind them: a paste begins, or nothing. -/
def dnS (s : IS) (g : List UInt8) (b : UInt8) : IS := if b.toNat = 126 ∧ g = [50, 48, 48] then { s with pas := true, pb := [], ct := 0, mt := 0 } else s
section
variable {S : Nat → Prop} {p q B : Nat} {s : IS} {K : List Ky} {w w' : World}
end
end Go.Proofs.YtmnjafceenckpaaDoor
set_option linter.unusedVariables false
set_option linter.unusedSimpArgs false
namespace Go.Proofs.YtmnjafceenckpaaDoor
open Go.RowKit
/-- What waits behind a byte behind a bracket and signs. -/
def bcW (g : List UInt8) (b : UInt8) : List UInt8 := if 32 ≤ b.toNat ∧ b.toNat ≤ 63 then (if g.length < 4 then 27 :: 91 :: (g ++ [b]) else 27 :: 91 :: g) else []
def bcS (s : IS) (g : List UInt8) (b : UInt8) : IS := if 64 ≤ b.toNat ∧ b.toNat ≤ 126 then dnS { s with wait := [] } g b else { s with wait := bcW g b }
def bcK (g : List UInt8) (b : UInt8) : List Ky := if 64 ≤ b.toNat ∧ b.toNat ≤ 126 then dnK g b else []
def bcB (b : UInt8) : Bool := !decide (32 ≤ b.toNat ∧ b.toNat ≤ 126)
section
variable {S : Nat → Prop} {p q B : Nat} {s : IS} {K : List Ky} {w w' : World}
end
end Go.Proofs.YtmnjafceenckpaaDoor
