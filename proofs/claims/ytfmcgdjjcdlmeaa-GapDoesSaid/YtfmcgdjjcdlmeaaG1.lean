/-
  Gap buffers: New, Len, At.
-/
import Derived.Test.YtfmcgdjjcdlmeaaG0
set_option linter.unusedVariables false
set_option linter.unusedSimpArgs false
namespace Go.Proofs.Ytfmcgdjjcdlmeaa
set_option maxRecDepth 100000
open Go.RowKit
theorem gnew_no (m : Int) (w : World) (h : m < 1 ∨ 65536 < m) : Calls Try.prog 7 #[.int .i64 m] w fun e w' => e = .returned (.tuple #[.pointer none, .int .i64 3]) ∧ w = w' := by
  by_cases h1 : m < 1
  · go_enter Try.func7, Try.ntmps7
    go_wp2_with fail
    go_ret2
    exact ⟨rfl, rfl⟩
  · have h2 : 65536 < m := by omega
    go_enter Try.func7, Try.ntmps7
    go_wp2_with fail
    go_ret2
    exact ⟨rfl, rfl⟩
theorem gnew_any (m : Int) (w : World) (h1 : 1 ≤ m) (h2 : m ≤ 65536) : Calls Try.prog 7 #[.int .i64 m] w fun e w' => e = .returned (.tuple #[.pointer (some ⟨w.heap.size, 0, none⟩), .int .i64 0]) ∧ w.alloc (.cells #[.int .i64 m, .slice none 0 0, .int .i64 0, .int .i64 0] 56) = w' := by
  have h3 : ¬ m < 1 := by omega
  have h4 : ¬ 65536 < m := by omega
  go_enter Try.func7, Try.ntmps7
  go_wp2_with fail
  go_ret2
  exact ⟨rfl, rfl⟩
theorem glen_nil (w : World) : Calls Try.prog 20 #[.pointer none] w fun e w' => e = .returned (.int .i64 0) ∧ w = w' := by
  go_enter Try.func20, Try.ntmps20
  go_wp2
  go_ret
  exact ⟨rfl, rfl⟩
theorem gat_nil (w : World) : Calls Try.prog 21 #[.pointer none] w fun e w' => e = .returned (.int .i64 0) ∧ w = w' := by
  go_enter Try.func21, Try.ntmps21
  go_wp2
  go_ret
  exact ⟨rfl, rfl⟩
theorem gat_any (p : Nat) (M : Int) (v : Value) (R : List Sn) (a e : Nat) (w : World) (h : GapAt p M v R a e w) : Calls Try.prog 21 #[.pointer (some ⟨p, 0, none⟩)] w fun e w' => e = .returned (.int .i64 (a : Int)) ∧ w = w' := by
  obtain ⟨c0, c1, c2, c3⟩ := h.cells
  go_enter Try.func21, Try.ntmps21
  go_wp2
  go_ret
  exact ⟨rfl, rfl⟩
set_option maxHeartbeats 2000000 in
theorem glen_any (p : Nat) (M : Int) (v : Value) (R : List Sn) (a e : Nat) (w : World) (h : GapAt p M v R a e w) : Calls Try.prog 20 #[.pointer (some ⟨p, 0, none⟩)] w fun x w' => x = .returned (.int .i64 ((gsL R a e).length : Int)) ∧ Below w.heap.size w w' := by
  obtain ⟨c0, c1, c2, c3⟩ := h.cells
  obtain ⟨ad, rfl⟩ := h.slice
  have hl := gsL_len R a e h.le1 h.le2
  have h1 := h.le1; have h2 := h.le2; have h3 := h.big
  have hr : Hid (((gsL R a e).length : Int) = (R.length : Int) - ((e : Int) - (a : Int))) := Lib.hid (by omega)
  clear h hl
  go_enter Try.func20, Try.ntmps20
  go_upto_region 3 with fail
  go_quiet (fail)
  go_wp2
  go_ret
  rw [hr.out]
  exact ⟨rfl, drewN_below (Below.refl _ _) _⟩
end Go.Proofs.Ytfmcgdjjcdlmeaa
