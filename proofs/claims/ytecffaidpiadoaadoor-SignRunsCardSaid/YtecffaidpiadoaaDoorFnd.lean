/-
  The first place that meets a test, upwards and downwards. No program.
-/
import Derived.RowKit
set_option linter.unusedVariables false
namespace Go.Proofs.YtecffaidpiadoaaDoor
/-- The first place from p on, of f ones, that meets t; else d. -/
def upF (t : Int → Bool) (d : Int) : Nat → Int → Int
  | 0, _ => d
  | f + 1, p => if t p = true then p else upF t d f (p + 1)
/-- .. downwards. -/
def dnF (t : Int → Bool) (d : Int) : Nat → Int → Int
  | 0, _ => d
  | f + 1, p => if t p = true then p else dnF t d f (p - 1)
theorem up_hit {t : Int → Bool} {d p : Int} {f : Nat} (hf : 0 < f) (h : t p = true) : upF t d f p = p := by
  obtain ⟨g, rfl⟩ : ∃ g, f = g + 1 := ⟨f - 1, by omega⟩
  show (if t p = true then p else _) = p
  rw [if_pos h]
theorem up_miss {t : Int → Bool} {d p : Int} {f : Nat} (hf : 0 < f) (h : t p = false) : upF t d f p = upF t d (f - 1) (p + 1) := by
  obtain ⟨g, rfl⟩ : ∃ g, f = g + 1 := ⟨f - 1, by omega⟩
  show (if t p = true then p else _) = _
  rw [if_neg (by rw [h]; simp)]; rfl
theorem up_end {t : Int → Bool} {d p : Int} {f : Nat} (hf : f = 0) : upF t d f p = d := by subst hf; rfl
theorem dn_hit {t : Int → Bool} {d p : Int} {f : Nat} (hf : 0 < f) (h : t p = true) : dnF t d f p = p := by
  obtain ⟨g, rfl⟩ : ∃ g, f = g + 1 := ⟨f - 1, by omega⟩
  show (if t p = true then p else _) = p
  rw [if_pos h]
theorem dn_miss {t : Int → Bool} {d p : Int} {f : Nat} (hf : 0 < f) (h : t p = false) : dnF t d f p = dnF t d (f - 1) (p - 1) := by
  obtain ⟨g, rfl⟩ : ∃ g, f = g + 1 := ⟨f - 1, by omega⟩
  show (if t p = true then p else _) = _
  rw [if_neg (by rw [h]; simp)]; rfl
theorem dn_end {t : Int → Bool} {d p : Int} {f : Nat} (hf : f = 0) : dnF t d f p = d := by subst hf; rfl
end Go.Proofs.YtecffaidpiadoaaDoor
