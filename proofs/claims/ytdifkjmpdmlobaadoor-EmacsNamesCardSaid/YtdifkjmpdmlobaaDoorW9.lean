import Derived.Test.YtdifkjmpdmlobaaDoorW8
import Derived.Test.YtdifkjmpdmlobaaDoorLaw
import Derived.Test.YtdifkjmpdmlobaaDoorKit
namespace Go.Proofs.YtdifkjmpdmlobaaDoor
set_option linter.unusedVariables false
set_option linter.unusedSimpArgs false
set_option maxRecDepth 100000
open Go.RowKit
theorem und_range (l : List UInt8) : -9223372036854775808 ≤ undR l ∧ undR l ≤ 9223372036854775807 := by
  unfold undR undV
  split
  · split
    · exact rng_wrap _
    · exact rng_wrap _
  · omega
theorem und_cases (l : List UInt8) : (undE l = 0 ∧ decS (undR l) = l) ∨ (undE l = 6 ∧ undR l = 0) := by
  by_cases h : undOk l = true
  · left
    have e := und_yes h
    refine ⟨e.2, ?_⟩
    rw [e.1]
    unfold undOk at h
    rw [Bool.and_eq_true] at h
    simpa using h.2
  · right
    have e := und_no (by simpa using h)
    exact ⟨e.2, e.1⟩
end Go.Proofs.YtdifkjmpdmlobaaDoor
