/-
  Keys, the reference: which may be, what they are typed as they are, what signs are named.
-/
import Derived.Test.YtdifkjmpdmlobaaDoorKy11
set_option linter.unusedVariables false
set_option linter.unusedSimpArgs false
namespace Go.Proofs.YtdifkjmpdmlobaaDoor
set_option maxRecDepth 100000
open Go.RowKit
theorem may_other2 (kind v : Int) (h1 : kind ≠ 1) (h2 : kind ≠ 2) (h3 : kind ≠ 3) : mayB kind v = decide ((kind = 4 ∧ (v = 13 ∨ v = 10)) ∨ (5 ≤ kind ∧ kind ≤ 14 ∧ v = 0) ∨ (kind = 14 ∧ v = 1)) := by
  rw [may_other kind v h1 h2 h3, kFind_iff]
theorem rm4 (v : Int) : mayB 4 v = (decide (v = 10) || decide (v = 13)) := by
  rw [may_other2 _ _ (by decide) (by decide) (by decide), Bool.eq_iff_iff, decide_eq_true_iff]; simp; try omega
theorem rm14 (v : Int) : mayB 14 v = (decide (v = 0) || decide (v = 1)) := by
  rw [may_other2 _ _ (by decide) (by decide) (by decide), Bool.eq_iff_iff, decide_eq_true_iff]; simp; try omega
theorem rmo (kind v : Int) (h1 : kind ≠ 1) (h2 : kind ≠ 2) (h3 : kind ≠ 3) (h4 : kind ≠ 4) (h14 : kind ≠ 14) : mayB kind v = (decide (5 ≤ kind) && decide (kind ≤ 13) && decide (v = 0)) := by
  rw [may_other2 _ _ h1 h2 h3, Bool.eq_iff_iff, decide_eq_true_iff]; simp; try omega
end Go.Proofs.YtdifkjmpdmlobaaDoor
