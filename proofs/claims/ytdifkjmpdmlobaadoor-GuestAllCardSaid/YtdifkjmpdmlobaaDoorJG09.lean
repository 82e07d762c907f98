/-
  Joined: Sp6 Sp7 Sp8 Sp9 Sp10.
-/
import Derived.Test.YtdifkjmpdmlobaaDoorJG03
import Derived.Test.YtdifkjmpdmlobaaDoorJG04
import Derived.Test.YtdifkjmpdmlobaaDoorJG06
import Derived.Test.YtdifkjmpdmlobaaDoorJG08
import Derived.Deep.WholeRow
set_option linter.unusedVariables false
set_option linter.unusedSimpArgs false
set_option maxRecDepth 100000
set_option linter.unusedVariables false
set_option linter.unusedSimpArgs false
namespace Go.Proofs.YtdifkjmpdmlobaaDoor
open Go.RowKit
theorem len30 (f : Int → List UInt8) (h : ∀ v, (f v).length ≤ 4) : ∀ v, (f v).length ≤ 30 := fun v => by have := h v; omega
theorem strip_size (s : ByteArray) : (tellS stF s).size ≤ 4 * s.size := tellF_size stF 4 stF_len s
theorem fold_size (s : ByteArray) : (tellS foF s).size ≤ 4 * s.size := tellF_size foF 4 foF_len s
theorem told_size (s : ByteArray) : (tellS shF s).size ≤ 30 * s.size := tellF_size shF 30 shF_len s
/-- Do texts look alike? -/
def alB (a b : ByteArray) : Bool := (tellS foF (tellS stF a)).toList == (tellS foF (tellS stF b)).toList
end Go.Proofs.YtdifkjmpdmlobaaDoor
set_option linter.unusedVariables false
set_option linter.unusedSimpArgs false
namespace Go.Proofs.YtdifkjmpdmlobaaDoor
open Go.RowKit
theorem tell_take (f : Int → List UInt8) (l : List Int) (k : Nat) (h : k < l.length) : tellL f (l.take (k + 1)) = tellL f (l.take k) ++ f (l.getD k 0) := by
  rw [List.take_succ_eq_append_getElem h, tellF_app, List.getD, List.getElem?_eq_getElem h]
  unfold tellL
  rw [List.flatMap_cons, List.flatMap_nil, List.append_nil]; rfl
theorem mkL_app (a b : List UInt8) : mkL (a ++ b) = mkL a ++ mkL b := by
  apply ByteArray.ext
  simp [mkL, ByteArray.data_append]
theorem row_of_vals {w : World} {B : Nat} {v : Value} {l : List Int} (h : w.ownsRow B 3 1 v l.length (l.map (Value.int .i64))) : ∃ a c, v = .slice a l.length c ∧ Row w a l := row_own h
theorem rw_keep {w wr : World} {a : Option Addr} {l : List Int} (h : Row w a l) (hb : Below w.heap.size w wr) : Row wr a l := h.below hb
theorem in_get {s : ByteArray} {k : Nat} (h : k < (valsS s).length) : rightB ((valsS s).getD k 0) = true := by
  have hm : (valsS s).getD k 0 ∈ valsS s := by
    rw [List.getD, List.getElem?_eq_getElem h]; exact List.getElem_mem h
  unfold rightB
  rcases in_vals hm with h | h <;> rw [h]
  · rfl
  · rw [Bool.or_true]
theorem skel_right {v : Int} (h : rightB v = true) : rightB (skel v) = true := by
  rcases skel_what v with e | ⟨h0, h1, _⟩
  · rw [e]; exact h
  · unfold rightB; rw [(ptB_iff (skel v)).2 (by omega)]; rfl
end Go.Proofs.YtdifkjmpdmlobaaDoor
set_option linter.unusedVariables false
set_option linter.unusedSimpArgs false
namespace Go.Proofs.YtdifkjmpdmlobaaDoor
open Go.RowKit
/-- The script of a value. -/
def scP (v : Int) : Nat := if 97 ≤ v ∧ v ≤ 122 ∨ 65 ≤ v ∧ v ≤ 90 ∨ 192 ≤ v ∧ v ≤ 591 then 1 else if 880 ≤ v ∧ v ≤ 1023 then 2 else if 1024 ≤ v ∧ v ≤ 1327 then 3 else if cls v = 2 then 4 else 0
theorem scP_le (v : Int) : scP v ≤ 4 := by unfold scP; repeat' split
                                           all_goals omega
/-- Has a text a value of a script? -/
def hvB (l : List Int) (k : Nat) : Bool := l.any fun v => scP v == k
theorem hvB_app (l : List Int) (x : Int) (k : Nat) : hvB (l ++ [x]) k = (hvB l k || scP x == k) := by unfold hvB; rw [List.any_append, List.any_cons, List.any_nil, Bool.or_false]
theorem sc_cases (v : Int) : v ≤ 64 ∨ 65 ≤ v ∧ v ≤ 90 ∨ 91 ≤ v ∧ v ≤ 96 ∨ 97 ≤ v ∧ v ≤ 122 ∨ 123 ≤ v ∧ v ≤ 191 ∨ 192 ≤ v ∧ v ≤ 591 ∨ 592 ≤ v ∧ v ≤ 879 ∨ 880 ≤ v ∧ v ≤ 1023 ∨ 1024 ≤ v ∧ v ≤ 1327 ∨ 1328 ≤ v := by omega
end Go.Proofs.YtdifkjmpdmlobaaDoor
set_option linter.unusedVariables false
set_option linter.unusedSimpArgs false
namespace Go.Proofs.YtdifkjmpdmlobaaDoor
open Go.RowKit
def bRow (l : List Bool) : Array Value := (l.map Value.bool).toArray
def hvL (l : List Int) : List Bool := [hvB l 0, hvB l 1, hvB l 2, hvB l 3, hvB l 4]
theorem bRow_set (L : List Bool) (i : Nat) (x : Bool) : (bRow L).setIfInBounds i (.bool x) = bRow (L.set i x) := by
  apply Array.ext'
  simp [bRow, List.map_set]
theorem hvL_step (l : List Int) (x : Int) : hvL (l ++ [x]) = (hvL l).set (scP x) true := by
  have h := scP_le x
  unfold hvL
  rw [hvB_app, hvB_app, hvB_app, hvB_app, hvB_app]
  rcases (by omega : scP x = 0 ∨ scP x = 1 ∨ scP x = 2 ∨ scP x = 3 ∨ scP x = 4) with h | h | h | h | h <;> rw [h] <;> simp
theorem below_setRow5 (w : World) (g : Nat) (cs : Array Value) : Below g w (w.setRow g cs) :=
  ⟨rfl, rfl, rfl, by simp, fun k hk => setRow_other _ _ _ _ (by omega)⟩
end Go.Proofs.YtdifkjmpdmlobaaDoor
set_option linter.unusedVariables false
set_option linter.unusedSimpArgs false
namespace Go.Proofs.YtdifkjmpdmlobaaDoor
open Go.RowKit
/-- Does a text mix scripts? -/
def mxB (l : List Int) : Bool := hvB l 1 && (hvB l 2 || hvB l 3) || hvB l 2 && hvB l 3
/-- The scripts of a text, up to one. -/
def scI (l : List Int) : Nat → List Int
  | 0 => []
  | k + 1 => scI l k ++ (if hvB l (k + 1) = true then [((k + 1 : Nat) : Int)] else [])
theorem scI_len (l : List Int) : ∀ k, (scI l k).length ≤ k
  | 0 => Nat.le_refl _
  | k + 1 => by
    have := scI_len l k
    rw [scI, List.length_append]; split <;> simp <;> omega
theorem hvL_at (l : List Int) (k : Nat) (h : k < 5) : (hvL l)[k]? = some (hvB l k) := by
  rcases (by omega : k = 0 ∨ k = 1 ∨ k = 2 ∨ k = 3 ∨ k = 4) with rfl | rfl | rfl | rfl | rfl <;> rfl
theorem one_int (w : World) (x : Int) : ∀ j u, ([Value.int .i64 x] : List Value)[j]? = some u → (w.alloc (.cells #[.int .i64 x] 3)).cell? ((⟨w.heap.size, 0, none⟩ : Addr).add j) = some u := by
  intro j u hj
  match j, hj with
  | 0, hj => simp at hj; subst hj; simp [Addr.add]
/-- Strings lie in memory. -/
def StrsIn (w : World) (a : Option Addr) (l : List ByteArray) : Prop :=
  ∀ i, i < l.length → ∃ b off, a = some ⟨b, off, none⟩ ∧ b < w.heap.size ∧ w.cell? ⟨b, off + i, none⟩ = some (.string (l.getD i ⟨#[]⟩))
theorem StrsIn.below {w w' : World} {a : Option Addr} {l : List ByteArray} (h : StrsIn w a l) (hb : Below w.heap.size w w') : StrsIn w' a l := fun i hi => by
  obtain ⟨b, off, e, hlt, h1⟩ := h i hi
  exact ⟨b, off, e, Nat.lt_of_lt_of_le hlt hb.size, (hb.cell (p := ⟨b, off + i, none⟩) hlt).trans h1⟩
/-- Is it another text, and looks so? -/
def isLk (s t : ByteArray) : Bool := !(t.toList == s.toList) && alB s t
/-- Which text of a list looks like one, and is another. -/
def lkF (s : ByteArray) (l : List ByteArray) : Nat → Nat → Int
  | 0, _ => -1
  | f + 1, i => if i < l.length then (if isLk s (l.getD i ⟨#[]⟩) = true then (i : Int) else lkF s l f (i + 1)) else -1
end Go.Proofs.YtdifkjmpdmlobaaDoor
