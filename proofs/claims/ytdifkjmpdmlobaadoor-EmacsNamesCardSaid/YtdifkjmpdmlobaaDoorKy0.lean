/-
  Keys: which control bytes may be.
-/
import Derived.Test.YtdifkjmpdmlobaaDoorE2
import Derived.Test.YtdifkjmpdmlobaaDoorKit
set_option linter.unusedVariables false
set_option linter.unusedSimpArgs false
namespace Go.Proofs.YtdifkjmpdmlobaaDoor
set_option maxRecDepth 100000
open Go.RowKit
def lnB (v : Int) : Bool := decide (v = 10 ∨ v = 13 ∨ v = 27)
def ctB (v : Int) : Bool := decide (0 ≤ v ∧ v ≤ 31) && !lnB v
theorem lnB_yes {v : Int} (h : v = 10 ∨ v = 13 ∨ v = 27) : lnB v = true := decide_eq_true h
theorem lnB_no {v : Int} (h : ¬ (v = 10 ∨ v = 13 ∨ v = 27)) : lnB v = false := decide_eq_false h
theorem lineByte_any (v : Int) (w : World) : Calls Tryd.prog 119 #[.int .i64 v] w fun e w' => e = .returned (.bool (lnB v)) ∧ Below w.heap.size w w' := by
  by_cases h1 : v = 10
  · rw [lnB_yes (Or.inl h1)]; subst h1
    go_enter Tryd.func119, Tryd.ntmps119
    go_wp2
    go_ret
    exact ⟨rfl, Below.refl _ _⟩
  by_cases h2 : v = 13
  · rw [lnB_yes (Or.inr (Or.inl h2))]; subst h2
    go_enter Tryd.func119, Tryd.ntmps119
    go_wp2
    go_ret
    exact ⟨rfl, Below.refl _ _⟩
  by_cases h3 : v = 27
  · rw [lnB_yes (Or.inr (Or.inr h3))]; subst h3
    go_enter Tryd.func119, Tryd.ntmps119
    go_wp2
    go_ret
    exact ⟨rfl, Below.refl _ _⟩
  · rw [lnB_no (by omega)]
    go_enter Tryd.func119, Tryd.ntmps119
    go_wp2
    go_ret
    refine ⟨?_, Below.refl _ _⟩
    show Ending.returned (.bool (v == 10 || v == 13 || v == 27)) = _
    rw [show (v == 10 || v == 13 || v == 27) = false by simp [h1, h2, h3]]
end Go.Proofs.YtdifkjmpdmlobaaDoor
