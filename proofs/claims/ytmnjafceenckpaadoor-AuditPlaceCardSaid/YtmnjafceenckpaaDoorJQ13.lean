/-
  Joined: Ky15 Ky16 Ky17 M5 M7 Sp4 Sp5 Es1 Ky18.
-/
import Derived.Test.YtmnjafceenckpaaDoorJQ02
import Derived.Test.YtmnjafceenckpaaDoorJQ04
import Derived.Test.YtmnjafceenckpaaDoorJQ08
import Derived.Test.YtmnjafceenckpaaDoorJQ10
import Derived.Test.YtmnjafceenckpaaDoorJQ11
import Derived.Test.YtmnjafceenckpaaDoorJQ12
import Derived.Deep.RegionHeld3
import Derived.Deep.CutRange
import Derived.Deep.QuietTactic
import Derived.BigQuiet
import Derived.Test.YtmnjafceenckpaaDoorShelf
import Derived.Lib.UnsafeStr
import Derived.Lib.QuietBelow
set_option linter.unusedVariables false
set_option linter.unusedSimpArgs false
set_option maxRecDepth 100000
set_option linter.unusedVariables false
set_option linter.unusedSimpArgs false
namespace Go.Proofs.YtmnjafceenckpaaDoor
open Go.RowKit
def PrPost (l : List UInt8) (w : World) (e : Ending) (w' : World) : Prop := e = .returned (.tuple #[kyV (prK l), .int .i64 (prE l)]) ∧ Below w.heap.size w w'
theorem pr_no {l : List UInt8} {w w' : World} (h : prOk l = false) (hb : Below w.heap.size w w') : PrPost l w (.returned (.tuple #[.agg #[.int .i64 0, .int .i64 0, .string ⟨#[]⟩, .bool false], .int .i64 6])) w' := by
  unfold PrPost prK prE; rw [h]; exact ⟨rfl, hb⟩
theorem pr_yes {l : List UInt8} {w w' : World} {k : Ky} (h : prOk l = true) (hk : kyOf l = k) (hb : Below w.heap.size w w') : PrPost l w (.returned (.tuple #[.agg #[.int .i64 k.1, .int .i64 k.2.1, .string k.2.2.1, .bool k.2.2.2], .int .i64 0])) w' := by
  unfold PrPost prK prE; rw [h, if_pos rfl, if_pos rfl, hk]; exact ⟨rfl, hb⟩
end Go.Proofs.YtmnjafceenckpaaDoor
set_option linter.unusedVariables false
set_option linter.unusedSimpArgs false
namespace Go.Proofs.YtmnjafceenckpaaDoor
open Go.RowKit
theorem ktoL_ne {a b : ByteArray} (h : ¬ a = b) : ¬ a.toList = b.toList := by
  rw [ByteArray.toList_eq, ByteArray.toList_eq]; intro e; exact h (ByteArray.ext (Array.ext' e))
end Go.Proofs.YtmnjafceenckpaaDoor
set_option linter.unusedVariables false
set_option linter.unusedSimpArgs false
namespace Go.Proofs.YtmnjafceenckpaaDoor
open Go.RowKit
end Go.Proofs.YtmnjafceenckpaaDoor
set_option linter.unusedVariables false
set_option linter.unusedSimpArgs false
namespace Go.Proofs.YtmnjafceenckpaaDoor
open Go.RowKit
def chk (o : Ot) : Int := if mayP o = true then 0 else 2
theorem chk_yes {o : Ot} (h : mayP o = true) : chk o = 0 := by unfold chk; rw [h]; rfl
theorem chk_no {o : Ot} (h : mayP o = false) : chk o = 2 := by unfold chk; rw [h]; rfl
theorem str_ne {t : ByteArray} (h : t.size ≠ 0) : t.toList.isEmpty = false ∧ ¬ t.toList = [] := by
  have h2 : ¬ t.toList = [] := by
    rw [ByteArray.toList_eq]
    intro e
    have := congrArg List.length e
    rw [Array.length_toList] at this
    exact h this
  exact ⟨by simpa using h2, h2⟩
theorem size0' {t : ByteArray} (h : t.size = 0) : t = ⟨#[]⟩ := size0 h
theorem allW_no {t : ByteArray} (h : tl t < t.size) : allW t = false := by
  cases h2 : allW t
  · rfl
  · rw [tl_all h2] at h; omega
set_option maxHeartbeats 2000000 in
theorem check_2 (n m : Int) (t : ByteArray) (w : World) : Calls Tryd.prog 42 #[.agg #[.int .i64 2, .int .i64 n, .int .i64 m, .string t]] w fun e w' => e = .returned (.int .i64 (chk (2, n, m, t))) ∧ Below w.heap.size w w' := by
  have B0 := below_alloc w (.cells #[.int .i64 2, .int .i64 n, .int .i64 m, .string t] 30)
  by_cases ht : t.size = 0
  · obtain rfl := size0' ht
    by_cases hn : n = 0
    · subst hn
      by_cases hm : m = 0
      · subst hm
        rw [chk_yes (by rfl)]
        go_enter Tryd.func42, Tryd.ntmps42
        go_wp2
        go_ret
        first | exact ⟨rfl, B0⟩ | exact ⟨rfl, below_alloc _ _⟩ | exact ⟨rfl, B0.setCell (p := ⟨w.heap.size, 1, none⟩) (Nat.le_refl _) _⟩ | exact ⟨rfl, B0.setCell (p := ⟨w.heap.size, 2, none⟩) (Nat.le_refl _) _⟩ | exact ⟨rfl, (B0.setCell (p := ⟨w.heap.size, 2, none⟩) (Nat.le_refl _) _).setCell (p := ⟨w.heap.size, 1, none⟩) (Nat.le_refl _) _⟩
      · rw [chk_no (by simp [mayP, hm])]
        go_enter Tryd.func42, Tryd.ntmps42
        go_wp2
        go_ret
        first | exact ⟨rfl, B0⟩ | exact ⟨rfl, below_alloc _ _⟩ | exact ⟨rfl, B0.setCell (p := ⟨w.heap.size, 1, none⟩) (Nat.le_refl _) _⟩ | exact ⟨rfl, B0.setCell (p := ⟨w.heap.size, 2, none⟩) (Nat.le_refl _) _⟩ | exact ⟨rfl, (B0.setCell (p := ⟨w.heap.size, 2, none⟩) (Nat.le_refl _) _).setCell (p := ⟨w.heap.size, 1, none⟩) (Nat.le_refl _) _⟩
    · rw [chk_no (by simp [mayP, hn])]
      go_enter Tryd.func42, Tryd.ntmps42
      go_wp2
      go_ret
      first | exact ⟨rfl, B0⟩ | exact ⟨rfl, below_alloc _ _⟩ | exact ⟨rfl, B0.setCell (p := ⟨w.heap.size, 1, none⟩) (Nat.le_refl _) _⟩ | exact ⟨rfl, B0.setCell (p := ⟨w.heap.size, 2, none⟩) (Nat.le_refl _) _⟩ | exact ⟨rfl, (B0.setCell (p := ⟨w.heap.size, 2, none⟩) (Nat.le_refl _) _).setCell (p := ⟨w.heap.size, 1, none⟩) (Nat.le_refl _) _⟩
  · obtain ⟨he, he2⟩ := str_ne ht
    rw [chk_no (by simp [mayP, ht])]
    by_cases hn : n = 0
    · subst hn
      by_cases hm : m = 0
      · subst hm
        go_enter Tryd.func42, Tryd.ntmps42
        go_wp2
        go_ret
        first | exact ⟨rfl, B0⟩ | exact ⟨rfl, below_alloc _ _⟩ | exact ⟨rfl, B0.setCell (p := ⟨w.heap.size, 1, none⟩) (Nat.le_refl _) _⟩ | exact ⟨rfl, B0.setCell (p := ⟨w.heap.size, 2, none⟩) (Nat.le_refl _) _⟩ | exact ⟨rfl, (B0.setCell (p := ⟨w.heap.size, 2, none⟩) (Nat.le_refl _) _).setCell (p := ⟨w.heap.size, 1, none⟩) (Nat.le_refl _) _⟩
      · skip
        go_enter Tryd.func42, Tryd.ntmps42
        go_wp2
        go_ret
        first | exact ⟨rfl, B0⟩ | exact ⟨rfl, below_alloc _ _⟩ | exact ⟨rfl, B0.setCell (p := ⟨w.heap.size, 1, none⟩) (Nat.le_refl _) _⟩ | exact ⟨rfl, B0.setCell (p := ⟨w.heap.size, 2, none⟩) (Nat.le_refl _) _⟩ | exact ⟨rfl, (B0.setCell (p := ⟨w.heap.size, 2, none⟩) (Nat.le_refl _) _).setCell (p := ⟨w.heap.size, 1, none⟩) (Nat.le_refl _) _⟩
    · skip
      go_enter Tryd.func42, Tryd.ntmps42
      go_wp2
      go_ret
      first | exact ⟨rfl, B0⟩ | exact ⟨rfl, below_alloc _ _⟩ | exact ⟨rfl, B0.setCell (p := ⟨w.heap.size, 1, none⟩) (Nat.le_refl _) _⟩ | exact ⟨rfl, B0.setCell (p := ⟨w.heap.size, 2, none⟩) (Nat.le_refl _) _⟩ | exact ⟨rfl, (B0.setCell (p := ⟨w.heap.size, 2, none⟩) (Nat.le_refl _) _).setCell (p := ⟨w.heap.size, 1, none⟩) (Nat.le_refl _) _⟩
set_option maxHeartbeats 2000000 in
theorem check_3 (n m : Int) (t : ByteArray) (w : World) : Calls Tryd.prog 42 #[.agg #[.int .i64 3, .int .i64 n, .int .i64 m, .string t]] w fun e w' => e = .returned (.int .i64 (chk (3, n, m, t))) ∧ Below w.heap.size w w' := by
  have B0 := below_alloc w (.cells #[.int .i64 3, .int .i64 n, .int .i64 m, .string t] 30)
  by_cases ht : t.size = 0
  · obtain rfl := size0' ht
    by_cases hn : n = 0
    · subst hn
      by_cases hm : m = 0
      · subst hm
        rw [chk_yes (by rfl)]
        go_enter Tryd.func42, Tryd.ntmps42
        go_wp2
        go_ret
        first | exact ⟨rfl, B0⟩ | exact ⟨rfl, below_alloc _ _⟩ | exact ⟨rfl, B0.setCell (p := ⟨w.heap.size, 1, none⟩) (Nat.le_refl _) _⟩ | exact ⟨rfl, B0.setCell (p := ⟨w.heap.size, 2, none⟩) (Nat.le_refl _) _⟩ | exact ⟨rfl, (B0.setCell (p := ⟨w.heap.size, 2, none⟩) (Nat.le_refl _) _).setCell (p := ⟨w.heap.size, 1, none⟩) (Nat.le_refl _) _⟩
      · rw [chk_no (by simp [mayP, hm])]
        go_enter Tryd.func42, Tryd.ntmps42
        go_wp2
        go_ret
        first | exact ⟨rfl, B0⟩ | exact ⟨rfl, below_alloc _ _⟩ | exact ⟨rfl, B0.setCell (p := ⟨w.heap.size, 1, none⟩) (Nat.le_refl _) _⟩ | exact ⟨rfl, B0.setCell (p := ⟨w.heap.size, 2, none⟩) (Nat.le_refl _) _⟩ | exact ⟨rfl, (B0.setCell (p := ⟨w.heap.size, 2, none⟩) (Nat.le_refl _) _).setCell (p := ⟨w.heap.size, 1, none⟩) (Nat.le_refl _) _⟩
    · rw [chk_no (by simp [mayP, hn])]
      go_enter Tryd.func42, Tryd.ntmps42
      go_wp2
      go_ret
      first | exact ⟨rfl, B0⟩ | exact ⟨rfl, below_alloc _ _⟩ | exact ⟨rfl, B0.setCell (p := ⟨w.heap.size, 1, none⟩) (Nat.le_refl _) _⟩ | exact ⟨rfl, B0.setCell (p := ⟨w.heap.size, 2, none⟩) (Nat.le_refl _) _⟩ | exact ⟨rfl, (B0.setCell (p := ⟨w.heap.size, 2, none⟩) (Nat.le_refl _) _).setCell (p := ⟨w.heap.size, 1, none⟩) (Nat.le_refl _) _⟩
  · obtain ⟨he, he2⟩ := str_ne ht
    rw [chk_no (by simp [mayP, ht])]
    by_cases hn : n = 0
    · subst hn
      by_cases hm : m = 0
      · subst hm
        go_enter Tryd.func42, Tryd.ntmps42
        go_wp2
        go_ret
        first | exact ⟨rfl, B0⟩ | exact ⟨rfl, below_alloc _ _⟩ | exact ⟨rfl, B0.setCell (p := ⟨w.heap.size, 1, none⟩) (Nat.le_refl _) _⟩ | exact ⟨rfl, B0.setCell (p := ⟨w.heap.size, 2, none⟩) (Nat.le_refl _) _⟩ | exact ⟨rfl, (B0.setCell (p := ⟨w.heap.size, 2, none⟩) (Nat.le_refl _) _).setCell (p := ⟨w.heap.size, 1, none⟩) (Nat.le_refl _) _⟩
      · skip
        go_enter Tryd.func42, Tryd.ntmps42
        go_wp2
        go_ret
        first | exact ⟨rfl, B0⟩ | exact ⟨rfl, below_alloc _ _⟩ | exact ⟨rfl, B0.setCell (p := ⟨w.heap.size, 1, none⟩) (Nat.le_refl _) _⟩ | exact ⟨rfl, B0.setCell (p := ⟨w.heap.size, 2, none⟩) (Nat.le_refl _) _⟩ | exact ⟨rfl, (B0.setCell (p := ⟨w.heap.size, 2, none⟩) (Nat.le_refl _) _).setCell (p := ⟨w.heap.size, 1, none⟩) (Nat.le_refl _) _⟩
    · skip
      go_enter Tryd.func42, Tryd.ntmps42
      go_wp2
      go_ret
      first | exact ⟨rfl, B0⟩ | exact ⟨rfl, below_alloc _ _⟩ | exact ⟨rfl, B0.setCell (p := ⟨w.heap.size, 1, none⟩) (Nat.le_refl _) _⟩ | exact ⟨rfl, B0.setCell (p := ⟨w.heap.size, 2, none⟩) (Nat.le_refl _) _⟩ | exact ⟨rfl, (B0.setCell (p := ⟨w.heap.size, 2, none⟩) (Nat.le_refl _) _).setCell (p := ⟨w.heap.size, 1, none⟩) (Nat.le_refl _) _⟩
set_option maxHeartbeats 2000000 in
theorem check_6 (n m : Int) (t : ByteArray) (w : World) : Calls Tryd.prog 42 #[.agg #[.int .i64 6, .int .i64 n, .int .i64 m, .string t]] w fun e w' => e = .returned (.int .i64 (chk (6, n, m, t))) ∧ Below w.heap.size w w' := by
  have B0 := below_alloc w (.cells #[.int .i64 6, .int .i64 n, .int .i64 m, .string t] 30)
  by_cases ht : t.size = 0
  · obtain rfl := size0' ht
    by_cases hn : n = 0
    · subst hn
      by_cases hm : m = 0
      · subst hm
        rw [chk_yes (by rfl)]
        go_enter Tryd.func42, Tryd.ntmps42
        go_wp2
        go_ret
        first | exact ⟨rfl, B0⟩ | exact ⟨rfl, below_alloc _ _⟩ | exact ⟨rfl, B0.setCell (p := ⟨w.heap.size, 1, none⟩) (Nat.le_refl _) _⟩ | exact ⟨rfl, B0.setCell (p := ⟨w.heap.size, 2, none⟩) (Nat.le_refl _) _⟩ | exact ⟨rfl, (B0.setCell (p := ⟨w.heap.size, 2, none⟩) (Nat.le_refl _) _).setCell (p := ⟨w.heap.size, 1, none⟩) (Nat.le_refl _) _⟩
      · rw [chk_no (by simp [mayP, hm])]
        go_enter Tryd.func42, Tryd.ntmps42
        go_wp2
        go_ret
        first | exact ⟨rfl, B0⟩ | exact ⟨rfl, below_alloc _ _⟩ | exact ⟨rfl, B0.setCell (p := ⟨w.heap.size, 1, none⟩) (Nat.le_refl _) _⟩ | exact ⟨rfl, B0.setCell (p := ⟨w.heap.size, 2, none⟩) (Nat.le_refl _) _⟩ | exact ⟨rfl, (B0.setCell (p := ⟨w.heap.size, 2, none⟩) (Nat.le_refl _) _).setCell (p := ⟨w.heap.size, 1, none⟩) (Nat.le_refl _) _⟩
    · rw [chk_no (by simp [mayP, hn])]
      go_enter Tryd.func42, Tryd.ntmps42
      go_wp2
      go_ret
      first | exact ⟨rfl, B0⟩ | exact ⟨rfl, below_alloc _ _⟩ | exact ⟨rfl, B0.setCell (p := ⟨w.heap.size, 1, none⟩) (Nat.le_refl _) _⟩ | exact ⟨rfl, B0.setCell (p := ⟨w.heap.size, 2, none⟩) (Nat.le_refl _) _⟩ | exact ⟨rfl, (B0.setCell (p := ⟨w.heap.size, 2, none⟩) (Nat.le_refl _) _).setCell (p := ⟨w.heap.size, 1, none⟩) (Nat.le_refl _) _⟩
  · obtain ⟨he, he2⟩ := str_ne ht
    rw [chk_no (by simp [mayP, ht])]
    by_cases hn : n = 0
    · subst hn
      by_cases hm : m = 0
      · subst hm
        go_enter Tryd.func42, Tryd.ntmps42
        go_wp2
        go_ret
        first | exact ⟨rfl, B0⟩ | exact ⟨rfl, below_alloc _ _⟩ | exact ⟨rfl, B0.setCell (p := ⟨w.heap.size, 1, none⟩) (Nat.le_refl _) _⟩ | exact ⟨rfl, B0.setCell (p := ⟨w.heap.size, 2, none⟩) (Nat.le_refl _) _⟩ | exact ⟨rfl, (B0.setCell (p := ⟨w.heap.size, 2, none⟩) (Nat.le_refl _) _).setCell (p := ⟨w.heap.size, 1, none⟩) (Nat.le_refl _) _⟩
      · skip
        go_enter Tryd.func42, Tryd.ntmps42
        go_wp2
        go_ret
        first | exact ⟨rfl, B0⟩ | exact ⟨rfl, below_alloc _ _⟩ | exact ⟨rfl, B0.setCell (p := ⟨w.heap.size, 1, none⟩) (Nat.le_refl _) _⟩ | exact ⟨rfl, B0.setCell (p := ⟨w.heap.size, 2, none⟩) (Nat.le_refl _) _⟩ | exact ⟨rfl, (B0.setCell (p := ⟨w.heap.size, 2, none⟩) (Nat.le_refl _) _).setCell (p := ⟨w.heap.size, 1, none⟩) (Nat.le_refl _) _⟩
    · skip
      go_enter Tryd.func42, Tryd.ntmps42
      go_wp2
      go_ret
      first | exact ⟨rfl, B0⟩ | exact ⟨rfl, below_alloc _ _⟩ | exact ⟨rfl, B0.setCell (p := ⟨w.heap.size, 1, none⟩) (Nat.le_refl _) _⟩ | exact ⟨rfl, B0.setCell (p := ⟨w.heap.size, 2, none⟩) (Nat.le_refl _) _⟩ | exact ⟨rfl, (B0.setCell (p := ⟨w.heap.size, 2, none⟩) (Nat.le_refl _) _).setCell (p := ⟨w.heap.size, 1, none⟩) (Nat.le_refl _) _⟩
set_option maxHeartbeats 2000000 in
theorem check_7 (n m : Int) (t : ByteArray) (w : World) : Calls Tryd.prog 42 #[.agg #[.int .i64 7, .int .i64 n, .int .i64 m, .string t]] w fun e w' => e = .returned (.int .i64 (chk (7, n, m, t))) ∧ Below w.heap.size w w' := by
  have B0 := below_alloc w (.cells #[.int .i64 7, .int .i64 n, .int .i64 m, .string t] 30)
  by_cases ht : t.size = 0
  · obtain rfl := size0' ht
    by_cases hn : n = 0
    · subst hn
      by_cases hm : m = 0
      · subst hm
        rw [chk_yes (by rfl)]
        go_enter Tryd.func42, Tryd.ntmps42
        go_wp2
        go_ret
        first | exact ⟨rfl, B0⟩ | exact ⟨rfl, below_alloc _ _⟩ | exact ⟨rfl, B0.setCell (p := ⟨w.heap.size, 1, none⟩) (Nat.le_refl _) _⟩ | exact ⟨rfl, B0.setCell (p := ⟨w.heap.size, 2, none⟩) (Nat.le_refl _) _⟩ | exact ⟨rfl, (B0.setCell (p := ⟨w.heap.size, 2, none⟩) (Nat.le_refl _) _).setCell (p := ⟨w.heap.size, 1, none⟩) (Nat.le_refl _) _⟩
      · rw [chk_no (by simp [mayP, hm])]
        go_enter Tryd.func42, Tryd.ntmps42
        go_wp2
        go_ret
        first | exact ⟨rfl, B0⟩ | exact ⟨rfl, below_alloc _ _⟩ | exact ⟨rfl, B0.setCell (p := ⟨w.heap.size, 1, none⟩) (Nat.le_refl _) _⟩ | exact ⟨rfl, B0.setCell (p := ⟨w.heap.size, 2, none⟩) (Nat.le_refl _) _⟩ | exact ⟨rfl, (B0.setCell (p := ⟨w.heap.size, 2, none⟩) (Nat.le_refl _) _).setCell (p := ⟨w.heap.size, 1, none⟩) (Nat.le_refl _) _⟩
    · rw [chk_no (by simp [mayP, hn])]
      go_enter Tryd.func42, Tryd.ntmps42
      go_wp2
      go_ret
      first | exact ⟨rfl, B0⟩ | exact ⟨rfl, below_alloc _ _⟩ | exact ⟨rfl, B0.setCell (p := ⟨w.heap.size, 1, none⟩) (Nat.le_refl _) _⟩ | exact ⟨rfl, B0.setCell (p := ⟨w.heap.size, 2, none⟩) (Nat.le_refl _) _⟩ | exact ⟨rfl, (B0.setCell (p := ⟨w.heap.size, 2, none⟩) (Nat.le_refl _) _).setCell (p := ⟨w.heap.size, 1, none⟩) (Nat.le_refl _) _⟩
  · obtain ⟨he, he2⟩ := str_ne ht
    rw [chk_no (by simp [mayP, ht])]
    by_cases hn : n = 0
    · subst hn
      by_cases hm : m = 0
      · subst hm
        go_enter Tryd.func42, Tryd.ntmps42
        go_wp2
        go_ret
        first | exact ⟨rfl, B0⟩ | exact ⟨rfl, below_alloc _ _⟩ | exact ⟨rfl, B0.setCell (p := ⟨w.heap.size, 1, none⟩) (Nat.le_refl _) _⟩ | exact ⟨rfl, B0.setCell (p := ⟨w.heap.size, 2, none⟩) (Nat.le_refl _) _⟩ | exact ⟨rfl, (B0.setCell (p := ⟨w.heap.size, 2, none⟩) (Nat.le_refl _) _).setCell (p := ⟨w.heap.size, 1, none⟩) (Nat.le_refl _) _⟩
      · skip
        go_enter Tryd.func42, Tryd.ntmps42
        go_wp2
        go_ret
        first | exact ⟨rfl, B0⟩ | exact ⟨rfl, below_alloc _ _⟩ | exact ⟨rfl, B0.setCell (p := ⟨w.heap.size, 1, none⟩) (Nat.le_refl _) _⟩ | exact ⟨rfl, B0.setCell (p := ⟨w.heap.size, 2, none⟩) (Nat.le_refl _) _⟩ | exact ⟨rfl, (B0.setCell (p := ⟨w.heap.size, 2, none⟩) (Nat.le_refl _) _).setCell (p := ⟨w.heap.size, 1, none⟩) (Nat.le_refl _) _⟩
    · skip
      go_enter Tryd.func42, Tryd.ntmps42
      go_wp2
      go_ret
      first | exact ⟨rfl, B0⟩ | exact ⟨rfl, below_alloc _ _⟩ | exact ⟨rfl, B0.setCell (p := ⟨w.heap.size, 1, none⟩) (Nat.le_refl _) _⟩ | exact ⟨rfl, B0.setCell (p := ⟨w.heap.size, 2, none⟩) (Nat.le_refl _) _⟩ | exact ⟨rfl, (B0.setCell (p := ⟨w.heap.size, 2, none⟩) (Nat.le_refl _) _).setCell (p := ⟨w.heap.size, 1, none⟩) (Nat.le_refl _) _⟩
set_option maxHeartbeats 2000000 in
theorem check_8 (n m : Int) (t : ByteArray) (w : World) : Calls Tryd.prog 42 #[.agg #[.int .i64 8, .int .i64 n, .int .i64 m, .string t]] w fun e w' => e = .returned (.int .i64 (chk (8, n, m, t))) ∧ Below w.heap.size w w' := by
  have B0 := below_alloc w (.cells #[.int .i64 8, .int .i64 n, .int .i64 m, .string t] 30)
  by_cases ht : t.size = 0
  · obtain rfl := size0' ht
    by_cases hn : n = 0
    · subst hn
      by_cases hm : m = 0
      · subst hm
        rw [chk_yes (by rfl)]
        go_enter Tryd.func42, Tryd.ntmps42
        go_wp2
        go_ret
        first | exact ⟨rfl, B0⟩ | exact ⟨rfl, below_alloc _ _⟩ | exact ⟨rfl, B0.setCell (p := ⟨w.heap.size, 1, none⟩) (Nat.le_refl _) _⟩ | exact ⟨rfl, B0.setCell (p := ⟨w.heap.size, 2, none⟩) (Nat.le_refl _) _⟩ | exact ⟨rfl, (B0.setCell (p := ⟨w.heap.size, 2, none⟩) (Nat.le_refl _) _).setCell (p := ⟨w.heap.size, 1, none⟩) (Nat.le_refl _) _⟩
      · rw [chk_no (by simp [mayP, hm])]
        go_enter Tryd.func42, Tryd.ntmps42
        go_wp2
        go_ret
        first | exact ⟨rfl, B0⟩ | exact ⟨rfl, below_alloc _ _⟩ | exact ⟨rfl, B0.setCell (p := ⟨w.heap.size, 1, none⟩) (Nat.le_refl _) _⟩ | exact ⟨rfl, B0.setCell (p := ⟨w.heap.size, 2, none⟩) (Nat.le_refl _) _⟩ | exact ⟨rfl, (B0.setCell (p := ⟨w.heap.size, 2, none⟩) (Nat.le_refl _) _).setCell (p := ⟨w.heap.size, 1, none⟩) (Nat.le_refl _) _⟩
    · rw [chk_no (by simp [mayP, hn])]
      go_enter Tryd.func42, Tryd.ntmps42
      go_wp2
      go_ret
      first | exact ⟨rfl, B0⟩ | exact ⟨rfl, below_alloc _ _⟩ | exact ⟨rfl, B0.setCell (p := ⟨w.heap.size, 1, none⟩) (Nat.le_refl _) _⟩ | exact ⟨rfl, B0.setCell (p := ⟨w.heap.size, 2, none⟩) (Nat.le_refl _) _⟩ | exact ⟨rfl, (B0.setCell (p := ⟨w.heap.size, 2, none⟩) (Nat.le_refl _) _).setCell (p := ⟨w.heap.size, 1, none⟩) (Nat.le_refl _) _⟩
  · obtain ⟨he, he2⟩ := str_ne ht
    rw [chk_no (by simp [mayP, ht])]
    by_cases hn : n = 0
    · subst hn
      by_cases hm : m = 0
      · subst hm
        go_enter Tryd.func42, Tryd.ntmps42
        go_wp2
        go_ret
        first | exact ⟨rfl, B0⟩ | exact ⟨rfl, below_alloc _ _⟩ | exact ⟨rfl, B0.setCell (p := ⟨w.heap.size, 1, none⟩) (Nat.le_refl _) _⟩ | exact ⟨rfl, B0.setCell (p := ⟨w.heap.size, 2, none⟩) (Nat.le_refl _) _⟩ | exact ⟨rfl, (B0.setCell (p := ⟨w.heap.size, 2, none⟩) (Nat.le_refl _) _).setCell (p := ⟨w.heap.size, 1, none⟩) (Nat.le_refl _) _⟩
      · skip
        go_enter Tryd.func42, Tryd.ntmps42
        go_wp2
        go_ret
        first | exact ⟨rfl, B0⟩ | exact ⟨rfl, below_alloc _ _⟩ | exact ⟨rfl, B0.setCell (p := ⟨w.heap.size, 1, none⟩) (Nat.le_refl _) _⟩ | exact ⟨rfl, B0.setCell (p := ⟨w.heap.size, 2, none⟩) (Nat.le_refl _) _⟩ | exact ⟨rfl, (B0.setCell (p := ⟨w.heap.size, 2, none⟩) (Nat.le_refl _) _).setCell (p := ⟨w.heap.size, 1, none⟩) (Nat.le_refl _) _⟩
    · skip
      go_enter Tryd.func42, Tryd.ntmps42
      go_wp2
      go_ret
      first | exact ⟨rfl, B0⟩ | exact ⟨rfl, below_alloc _ _⟩ | exact ⟨rfl, B0.setCell (p := ⟨w.heap.size, 1, none⟩) (Nat.le_refl _) _⟩ | exact ⟨rfl, B0.setCell (p := ⟨w.heap.size, 2, none⟩) (Nat.le_refl _) _⟩ | exact ⟨rfl, (B0.setCell (p := ⟨w.heap.size, 2, none⟩) (Nat.le_refl _) _).setCell (p := ⟨w.heap.size, 1, none⟩) (Nat.le_refl _) _⟩
set_option maxHeartbeats 2000000 in
theorem check_4 (n m : Int) (t : ByteArray) (w : World) : Calls Tryd.prog 42 #[.agg #[.int .i64 4, .int .i64 n, .int .i64 m, .string t]] w fun e w' => e = .returned (.int .i64 (chk (4, n, m, t))) ∧ Below w.heap.size w w' := by
  have B0 := below_alloc w (.cells #[.int .i64 4, .int .i64 n, .int .i64 m, .string t] 30)
  have NU := fun w => number_any 4 n w
  cases hk : numK 4 n
  · rw [hk] at NU
    replace NU := Lib.hid NU
    rw [chk_no (by unfold mayP; have hk' : (decide (0 ≤ n) && decide (n ≤ 7)) = false := hk; simp only [Bool.and_eq_false_iff, Bool.or_eq_false_iff, decide_eq_false_iff_not] at hk'; simp; omega)]
    clear hk
    go_enter Tryd.func42, Tryd.ntmps42
    go_wp2_with (first
      | (go_at_call 63; refine (NU.out _).mono ?_; rintro e w1 ⟨rfl, rfl⟩))
    go_ret
    first | exact ⟨rfl, B0⟩ | exact ⟨rfl, below_alloc _ _⟩ | exact ⟨rfl, B0.setCell (p := ⟨w.heap.size, 1, none⟩) (Nat.le_refl _) _⟩ | exact ⟨rfl, B0.setCell (p := ⟨w.heap.size, 2, none⟩) (Nat.le_refl _) _⟩ | exact ⟨rfl, (B0.setCell (p := ⟨w.heap.size, 2, none⟩) (Nat.le_refl _) _).setCell (p := ⟨w.heap.size, 1, none⟩) (Nat.le_refl _) _⟩
  · rw [hk] at NU
    replace NU := Lib.hid NU
    by_cases ht : t.size = 0
    · obtain rfl := size0' ht
      by_cases hm : m = 0
      · subst hm
        rw [chk_yes (by have hk2 : (decide (0 ≤ n) && decide (n ≤ 7)) = true := hk; simp only [Bool.and_eq_true, decide_eq_true_eq] at hk2; exact may_of (.looks n hk2.1 hk2.2))]
        go_enter Tryd.func42, Tryd.ntmps42
        go_wp2_with (first
          | (go_at_call 63; refine (NU.out _).mono ?_; rintro e w1 ⟨rfl, rfl⟩))
        go_ret
        first | exact ⟨rfl, B0⟩ | exact ⟨rfl, below_alloc _ _⟩ | exact ⟨rfl, B0.setCell (p := ⟨w.heap.size, 1, none⟩) (Nat.le_refl _) _⟩ | exact ⟨rfl, B0.setCell (p := ⟨w.heap.size, 2, none⟩) (Nat.le_refl _) _⟩ | exact ⟨rfl, (B0.setCell (p := ⟨w.heap.size, 2, none⟩) (Nat.le_refl _) _).setCell (p := ⟨w.heap.size, 1, none⟩) (Nat.le_refl _) _⟩
      · rw [chk_no (by simp [mayP, hm])]
        go_enter Tryd.func42, Tryd.ntmps42
        go_wp2_with (first
          | (go_at_call 63; refine (NU.out _).mono ?_; rintro e w1 ⟨rfl, rfl⟩))
        go_ret
        first | exact ⟨rfl, B0⟩ | exact ⟨rfl, below_alloc _ _⟩ | exact ⟨rfl, B0.setCell (p := ⟨w.heap.size, 1, none⟩) (Nat.le_refl _) _⟩ | exact ⟨rfl, B0.setCell (p := ⟨w.heap.size, 2, none⟩) (Nat.le_refl _) _⟩ | exact ⟨rfl, (B0.setCell (p := ⟨w.heap.size, 2, none⟩) (Nat.le_refl _) _).setCell (p := ⟨w.heap.size, 1, none⟩) (Nat.le_refl _) _⟩
    · obtain ⟨he, he2⟩ := str_ne ht
      rw [chk_no (by simp [mayP, ht])]
      by_cases hm : m = 0
      · subst hm
        go_enter Tryd.func42, Tryd.ntmps42
        go_wp2_with (first
          | (go_at_call 63; refine (NU.out _).mono ?_; rintro e w1 ⟨rfl, rfl⟩))
        go_ret
        first | exact ⟨rfl, B0⟩ | exact ⟨rfl, below_alloc _ _⟩ | exact ⟨rfl, B0.setCell (p := ⟨w.heap.size, 1, none⟩) (Nat.le_refl _) _⟩ | exact ⟨rfl, B0.setCell (p := ⟨w.heap.size, 2, none⟩) (Nat.le_refl _) _⟩ | exact ⟨rfl, (B0.setCell (p := ⟨w.heap.size, 2, none⟩) (Nat.le_refl _) _).setCell (p := ⟨w.heap.size, 1, none⟩) (Nat.le_refl _) _⟩
      · skip
        go_enter Tryd.func42, Tryd.ntmps42
        go_wp2_with (first
          | (go_at_call 63; refine (NU.out _).mono ?_; rintro e w1 ⟨rfl, rfl⟩))
        go_ret
        first | exact ⟨rfl, B0⟩ | exact ⟨rfl, below_alloc _ _⟩ | exact ⟨rfl, B0.setCell (p := ⟨w.heap.size, 1, none⟩) (Nat.le_refl _) _⟩ | exact ⟨rfl, B0.setCell (p := ⟨w.heap.size, 2, none⟩) (Nat.le_refl _) _⟩ | exact ⟨rfl, (B0.setCell (p := ⟨w.heap.size, 2, none⟩) (Nat.le_refl _) _).setCell (p := ⟨w.heap.size, 1, none⟩) (Nat.le_refl _) _⟩
set_option maxHeartbeats 2000000 in
theorem check_5 (n m : Int) (t : ByteArray) (w : World) : Calls Tryd.prog 42 #[.agg #[.int .i64 5, .int .i64 n, .int .i64 m, .string t]] w fun e w' => e = .returned (.int .i64 (chk (5, n, m, t))) ∧ Below w.heap.size w w' := by
  have B0 := below_alloc w (.cells #[.int .i64 5, .int .i64 n, .int .i64 m, .string t] 30)
  have NU := fun w => number_any 5 n w
  cases hk : numK 5 n
  · rw [hk] at NU
    replace NU := Lib.hid NU
    rw [chk_no (by unfold mayP; have hk' : (decide (n = 0) || decide (n = 1)) = false := hk; simp only [Bool.and_eq_false_iff, Bool.or_eq_false_iff, decide_eq_false_iff_not] at hk'; simp; omega)]
    clear hk
    go_enter Tryd.func42, Tryd.ntmps42
    go_wp2_with (first
      | (go_at_call 63; refine (NU.out _).mono ?_; rintro e w1 ⟨rfl, rfl⟩))
    go_ret
    first | exact ⟨rfl, B0⟩ | exact ⟨rfl, below_alloc _ _⟩ | exact ⟨rfl, B0.setCell (p := ⟨w.heap.size, 1, none⟩) (Nat.le_refl _) _⟩ | exact ⟨rfl, B0.setCell (p := ⟨w.heap.size, 2, none⟩) (Nat.le_refl _) _⟩ | exact ⟨rfl, (B0.setCell (p := ⟨w.heap.size, 2, none⟩) (Nat.le_refl _) _).setCell (p := ⟨w.heap.size, 1, none⟩) (Nat.le_refl _) _⟩
  · rw [hk] at NU
    replace NU := Lib.hid NU
    by_cases ht : t.size = 0
    · obtain rfl := size0' ht
      by_cases hm : m = 0
      · subst hm
        rw [chk_yes (by have hk2 : (decide (n = 0) || decide (n = 1)) = true := hk; simp only [Bool.or_eq_true, decide_eq_true_eq] at hk2; rcases hk2 with rfl | rfl; exact may_of .paste0; exact may_of .paste1)]
        go_enter Tryd.func42, Tryd.ntmps42
        go_wp2_with (first
          | (go_at_call 63; refine (NU.out _).mono ?_; rintro e w1 ⟨rfl, rfl⟩))
        go_ret
        first | exact ⟨rfl, B0⟩ | exact ⟨rfl, below_alloc _ _⟩ | exact ⟨rfl, B0.setCell (p := ⟨w.heap.size, 1, none⟩) (Nat.le_refl _) _⟩ | exact ⟨rfl, B0.setCell (p := ⟨w.heap.size, 2, none⟩) (Nat.le_refl _) _⟩ | exact ⟨rfl, (B0.setCell (p := ⟨w.heap.size, 2, none⟩) (Nat.le_refl _) _).setCell (p := ⟨w.heap.size, 1, none⟩) (Nat.le_refl _) _⟩
      · rw [chk_no (by simp [mayP, hm])]
        go_enter Tryd.func42, Tryd.ntmps42
        go_wp2_with (first
          | (go_at_call 63; refine (NU.out _).mono ?_; rintro e w1 ⟨rfl, rfl⟩))
        go_ret
        first | exact ⟨rfl, B0⟩ | exact ⟨rfl, below_alloc _ _⟩ | exact ⟨rfl, B0.setCell (p := ⟨w.heap.size, 1, none⟩) (Nat.le_refl _) _⟩ | exact ⟨rfl, B0.setCell (p := ⟨w.heap.size, 2, none⟩) (Nat.le_refl _) _⟩ | exact ⟨rfl, (B0.setCell (p := ⟨w.heap.size, 2, none⟩) (Nat.le_refl _) _).setCell (p := ⟨w.heap.size, 1, none⟩) (Nat.le_refl _) _⟩
    · obtain ⟨he, he2⟩ := str_ne ht
      rw [chk_no (by simp [mayP, ht])]
      by_cases hm : m = 0
      · subst hm
        go_enter Tryd.func42, Tryd.ntmps42
        go_wp2_with (first
          | (go_at_call 63; refine (NU.out _).mono ?_; rintro e w1 ⟨rfl, rfl⟩))
        go_ret
        first | exact ⟨rfl, B0⟩ | exact ⟨rfl, below_alloc _ _⟩ | exact ⟨rfl, B0.setCell (p := ⟨w.heap.size, 1, none⟩) (Nat.le_refl _) _⟩ | exact ⟨rfl, B0.setCell (p := ⟨w.heap.size, 2, none⟩) (Nat.le_refl _) _⟩ | exact ⟨rfl, (B0.setCell (p := ⟨w.heap.size, 2, none⟩) (Nat.le_refl _) _).setCell (p := ⟨w.heap.size, 1, none⟩) (Nat.le_refl _) _⟩
      · skip
        go_enter Tryd.func42, Tryd.ntmps42
        go_wp2_with (first
          | (go_at_call 63; refine (NU.out _).mono ?_; rintro e w1 ⟨rfl, rfl⟩))
        go_ret
        first | exact ⟨rfl, B0⟩ | exact ⟨rfl, below_alloc _ _⟩ | exact ⟨rfl, B0.setCell (p := ⟨w.heap.size, 1, none⟩) (Nat.le_refl _) _⟩ | exact ⟨rfl, B0.setCell (p := ⟨w.heap.size, 2, none⟩) (Nat.le_refl _) _⟩ | exact ⟨rfl, (B0.setCell (p := ⟨w.heap.size, 2, none⟩) (Nat.le_refl _) _).setCell (p := ⟨w.heap.size, 1, none⟩) (Nat.le_refl _) _⟩
set_option maxHeartbeats 2000000 in
theorem check_1 (n m : Int) (t : ByteArray) (w : World) : Calls Tryd.prog 42 #[.agg #[.int .i64 1, .int .i64 n, .int .i64 m, .string t]] w fun e w' => e = .returned (.int .i64 (chk (1, n, m, t))) ∧ Below w.heap.size w w' := by
  have B0 := below_alloc w (.cells #[.int .i64 1, .int .i64 n, .int .i64 m, .string t] 30)
  have NU := fun w => number_any 1 n w
  have SI := fun w => eside_any m w
  have hnk : numK 1 n = sideI n := rfl
  rw [hnk] at NU
  cases hm : sideI m
  · rw [hm] at SI
    replace NU := Lib.hid NU; replace SI := Lib.hid SI
    rw [chk_no (by unfold mayP; simp [hm])]
    clear hm hnk
    go_enter Tryd.func42, Tryd.ntmps42
    go_wp2_with (first
      | (go_at_call 62; refine (SI.out _).mono ?_; rintro e w1 ⟨rfl, rfl⟩)
      | (go_at_call 63; refine (NU.out _).mono ?_; rintro e w1 ⟨rfl, rfl⟩))
    go_ret
    first | exact ⟨rfl, B0⟩ | exact ⟨rfl, below_alloc _ _⟩ | exact ⟨rfl, B0.setCell (p := ⟨w.heap.size, 1, none⟩) (Nat.le_refl _) _⟩ | exact ⟨rfl, B0.setCell (p := ⟨w.heap.size, 2, none⟩) (Nat.le_refl _) _⟩ | exact ⟨rfl, (B0.setCell (p := ⟨w.heap.size, 2, none⟩) (Nat.le_refl _) _).setCell (p := ⟨w.heap.size, 1, none⟩) (Nat.le_refl _) _⟩
  cases hk : sideI n
  · rw [hm] at SI
    rw [hk] at NU
    replace NU := Lib.hid NU; replace SI := Lib.hid SI
    rw [chk_no (by unfold mayP; simp [hk])]
    clear hm hnk hk
    go_enter Tryd.func42, Tryd.ntmps42
    go_wp2_with (first
      | (go_at_call 62; refine (SI.out _).mono ?_; rintro e w1 ⟨rfl, rfl⟩)
      | (go_at_call 63; refine (NU.out _).mono ?_; rintro e w1 ⟨rfl, rfl⟩))
    go_ret
    first | exact ⟨rfl, B0⟩ | exact ⟨rfl, below_alloc _ _⟩ | exact ⟨rfl, B0.setCell (p := ⟨w.heap.size, 1, none⟩) (Nat.le_refl _) _⟩ | exact ⟨rfl, B0.setCell (p := ⟨w.heap.size, 2, none⟩) (Nat.le_refl _) _⟩ | exact ⟨rfl, (B0.setCell (p := ⟨w.heap.size, 2, none⟩) (Nat.le_refl _) _).setCell (p := ⟨w.heap.size, 1, none⟩) (Nat.le_refl _) _⟩
  rw [hm] at SI
  rw [hk] at NU
  replace NU := Lib.hid NU; replace SI := Lib.hid SI
  clear hnk
  by_cases ht : t.size = 0
  · obtain rfl := size0' ht
    rw [chk_yes (by unfold sideI at hk hm; simp only [Bool.and_eq_true, decide_eq_true_eq] at hk hm; exact may_of (.move n m hk.1 hk.2 hm.1 hm.2))]
    go_enter Tryd.func42, Tryd.ntmps42
    go_wp2_with (first
      | (go_at_call 62; refine (SI.out _).mono ?_; rintro e w1 ⟨rfl, rfl⟩)
      | (go_at_call 63; refine (NU.out _).mono ?_; rintro e w1 ⟨rfl, rfl⟩))
    go_ret
    first | exact ⟨rfl, B0⟩ | exact ⟨rfl, below_alloc _ _⟩ | exact ⟨rfl, B0.setCell (p := ⟨w.heap.size, 1, none⟩) (Nat.le_refl _) _⟩ | exact ⟨rfl, B0.setCell (p := ⟨w.heap.size, 2, none⟩) (Nat.le_refl _) _⟩ | exact ⟨rfl, (B0.setCell (p := ⟨w.heap.size, 2, none⟩) (Nat.le_refl _) _).setCell (p := ⟨w.heap.size, 1, none⟩) (Nat.le_refl _) _⟩
  · obtain ⟨he, he2⟩ := str_ne ht
    rw [chk_no (by simp [mayP, ht])]
    go_enter Tryd.func42, Tryd.ntmps42
    go_wp2_with (first
      | (go_at_call 62; refine (SI.out _).mono ?_; rintro e w1 ⟨rfl, rfl⟩)
      | (go_at_call 63; refine (NU.out _).mono ?_; rintro e w1 ⟨rfl, rfl⟩))
    go_ret
    first | exact ⟨rfl, B0⟩ | exact ⟨rfl, below_alloc _ _⟩ | exact ⟨rfl, B0.setCell (p := ⟨w.heap.size, 1, none⟩) (Nat.le_refl _) _⟩ | exact ⟨rfl, B0.setCell (p := ⟨w.heap.size, 2, none⟩) (Nat.le_refl _) _⟩ | exact ⟨rfl, (B0.setCell (p := ⟨w.heap.size, 2, none⟩) (Nat.le_refl _) _).setCell (p := ⟨w.heap.size, 1, none⟩) (Nat.le_refl _) _⟩
set_option maxHeartbeats 2000000 in
theorem check_0 (n m : Int) (t : ByteArray) (w : World) (hT : ET w) (hs : t.size ≤ 1000000) : Calls Tryd.prog 42 #[.agg #[.int .i64 0, .int .i64 n, .int .i64 m, .string t]] w fun e w' => e = .returned (.int .i64 (chk (0, n, m, t))) ∧ Below w.heap.size w w' := by
  have B0 := below_alloc w (.cells #[.int .i64 0, .int .i64 n, .int .i64 m, .string t] 30)
  have HT1 := Lib.hid (hT.below B0)
  have TL := Lib.hid (fun w hT => textLen_any t w hT hs)
  have q0 := heap_alloc_new w (.cells #[.int .i64 0, .int .i64 n, .int .i64 m, .string t] 30)
  clear hT
  by_cases ht : t.size = 0
  · obtain rfl := size0' ht
    rw [chk_no (by simp [mayP]; intro _ _ h; exact absurd h (by decide))]
    clear TL HT1
    have y := fun i => cell_of_row _ _ i _ _ _ q0
    have y3 := y 3
    dsimp at y3
    clear y q0
    go_enter Tryd.func42, Tryd.ntmps42
    go_upto_region 11 with fail
    go_quiet (fail)
    go_wp2
    go_ret
    exact ⟨rfl, drewN_below B0 _⟩
  · obtain ⟨he, he2⟩ := str_ne ht
    have B1 := B0.drew
    have HT5 := Lib.hid (show ET ((w.alloc (.cells #[.int .i64 0, .int .i64 n, .int .i64 m, .string t] 30)).drew) from HT1.out.below (Below.refl _ _).drew)
    have y := fun i => cell_of_row _ _ i _ _ _ q0
    have y3 := y 3
    dsimp at y3
    have hq := blk_lt q0
    by_cases hl : tl t < t.size
    · rw [chk_no (by simp [mayP, allW_no hl])]
      clear y
      go_enter Tryd.func42, Tryd.ntmps42
      go_upto_region 11 with fail
      go_region_held3 (fun w' => w'.cell? ⟨w.heap.size, 3, none⟩ = some (.string t)) (first | exact y3 | (exact (hb5.cell (p := ⟨w.heap.size, 3, none⟩) hq).trans y3) | go_keep) (first | (go_at_call 38; refine (TL.out _ HT5.out).mono ?_; rintro e w5 ⟨rfl, hb5⟩))
      go_wp2
      go_ret
      exact ⟨rfl, seqB B1 hb5⟩
    · have hw : allW t = true := allW_of (by have := tl_le t; omega)
      have hq2 := blk_lt q0
      have K : ∀ w', Below (w.alloc (.cells #[.int .i64 0, .int .i64 n, .int .i64 m, .string t] 30)).heap.size (w.alloc (.cells #[.int .i64 0, .int .i64 n, .int .i64 m, .string t] 30)) w' → w'.heap[w.heap.size]? = some (.cells #[.int .i64 0, .int .i64 n, .int .i64 m, .string t] 30 (0, 0)) := fun w' h => blk_below q0 h
      replace K := Lib.hid K
      by_cases hn : n = 0
      · subst hn
        by_cases hm : m = 0
        · subst hm
          rw [chk_yes (by simp only [mayP]; simp [hw]; omega)]
          clear y hw
          go_enter Tryd.func42, Tryd.ntmps42
          go_upto_region 11 with fail
          go_region_held3 (fun w' => w'.cell? ⟨w.heap.size, 3, none⟩ = some (.string t)) (first | exact y3 | (exact (hb5.cell (p := ⟨w.heap.size, 3, none⟩) hq).trans y3) | go_keep) (first | (go_at_call 38; refine (TL.out _ HT5.out).mono ?_; rintro e w5 ⟨rfl, hb5⟩))
          have z := K.out _ ((Below.refl _ _).drew.trans (hb5.mono (by simp)))
          have zz := fun i => cell_of_row _ _ i _ _ _ z
          have z1 := zz 1; have z2 := zz 2; have z3 := zz 3
          have zf := fun i => frozen_of_row _ w.heap.size i _ _ z
          dsimp at z1 z2 z3
          clear zz z
          go_wp2
          go_ret
          exact ⟨rfl, (seqB B1 hb5).setCell (p := ⟨w.heap.size, 3, none⟩) (Nat.le_refl _) _⟩
        · rw [chk_no (by simp [mayP, hm])]
          clear y hw
          go_enter Tryd.func42, Tryd.ntmps42
          go_upto_region 11 with fail
          go_region_held3 (fun w' => w'.cell? ⟨w.heap.size, 3, none⟩ = some (.string t)) (first | exact y3 | (exact (hb5.cell (p := ⟨w.heap.size, 3, none⟩) hq).trans y3) | go_keep) (first | (go_at_call 38; refine (TL.out _ HT5.out).mono ?_; rintro e w5 ⟨rfl, hb5⟩))
          have z := K.out _ ((Below.refl _ _).drew.trans (hb5.mono (by simp)))
          have zz := fun i => cell_of_row _ _ i _ _ _ z
          have z1 := zz 1; have z2 := zz 2; have z3 := zz 3
          have zf := fun i => frozen_of_row _ w.heap.size i _ _ z
          dsimp at z1 z2 z3
          clear zz z
          go_wp2
          go_ret
          exact ⟨rfl, (seqB B1 hb5).setCell (p := ⟨w.heap.size, 3, none⟩) (Nat.le_refl _) _⟩
      · rw [chk_no (by simp [mayP, hn])]
        clear y hw
        go_enter Tryd.func42, Tryd.ntmps42
        go_upto_region 11 with fail
        go_region_held3 (fun w' => w'.cell? ⟨w.heap.size, 3, none⟩ = some (.string t)) (first | exact y3 | (exact (hb5.cell (p := ⟨w.heap.size, 3, none⟩) hq).trans y3) | go_keep) (first | (go_at_call 38; refine (TL.out _ HT5.out).mono ?_; rintro e w5 ⟨rfl, hb5⟩))
        have z := K.out _ ((Below.refl _ _).drew.trans (hb5.mono (by simp)))
        have zz := fun i => cell_of_row _ _ i _ _ _ z
        have z1 := zz 1; have z2 := zz 2; have z3 := zz 3
        have zf := fun i => frozen_of_row _ w.heap.size i _ _ z
        dsimp at z1 z2 z3
        clear zz z
        go_wp2
        go_ret
        exact ⟨rfl, (seqB B1 hb5).setCell (p := ⟨w.heap.size, 3, none⟩) (Nat.le_refl _) _⟩
set_option maxHeartbeats 2000000 in
theorem check_x (k n m : Int) (t : ByteArray) (w : World) (hk : k < 0 ∨ 8 < k) : Calls Tryd.prog 42 #[.agg #[.int .i64 k, .int .i64 n, .int .i64 m, .string t]] w fun e w' => e = .returned (.int .i64 (chk (k, n, m, t))) ∧ Below w.heap.size w w' := by
  have B0 := below_alloc w (.cells #[.int .i64 k, .int .i64 n, .int .i64 m, .string t] 30)
  have hk0 : ¬ k = 0 := by omega
  have hk1 : ¬ k = 1 := by omega
  have hk2 : ¬ k = 2 := by omega
  have hk3 : ¬ k = 3 := by omega
  have hk4 : ¬ k = 4 := by omega
  have hk5 : ¬ k = 5 := by omega
  have hk6 : ¬ k = 6 := by omega
  have hk7 : ¬ k = 7 := by omega
  have hk8 : ¬ k = 8 := by omega
  rw [chk_no (by
    have h : (decide (2 ≤ k) && decide (k ≤ 8)) = false := by simp; omega
    unfold mayP; dsimp only; rw [if_neg hk0, if_neg hk1, if_neg hk4, if_neg hk5, h]; simp)]
  go_enter Tryd.func42, Tryd.ntmps42
  go_wp2
  go_ret
  first | exact ⟨rfl, B0⟩ | exact ⟨rfl, below_alloc _ _⟩ | exact ⟨rfl, B0.setCell (p := ⟨w.heap.size, 1, none⟩) (Nat.le_refl _) _⟩ | exact ⟨rfl, B0.setCell (p := ⟨w.heap.size, 2, none⟩) (Nat.le_refl _) _⟩ | exact ⟨rfl, (B0.setCell (p := ⟨w.heap.size, 2, none⟩) (Nat.le_refl _) _).setCell (p := ⟨w.heap.size, 1, none⟩) (Nat.le_refl _) _⟩
theorem echeck_any (p : Ot) (w : World) (hT : ET w) (hs : p.2.2.2.size ≤ 1000000) : Calls Tryd.prog 42 #[otV p] w fun e w' => e = .returned (.int .i64 (chk p)) ∧ Below w.heap.size w w' := by
  obtain ⟨k, n, m, t⟩ := p
  by_cases hx : k < 0 ∨ 8 < k
  · exact check_x k n m t w hx
  have : k = 0 ∨ k = 1 ∨ k = 2 ∨ k = 3 ∨ k = 4 ∨ k = 5 ∨ k = 6 ∨ k = 7 ∨ k = 8 := by omega
  rcases this with rfl | rfl | rfl | rfl | rfl | rfl | rfl | rfl | rfl
  · exact check_0 n m t w hT hs
  · exact check_1 n m t w
  · exact check_2 n m t w
  · exact check_3 n m t w
  · exact check_4 n m t w
  · exact check_5 n m t w
  · exact check_6 n m t w
  · exact check_7 n m t w
  · exact check_8 n m t w
end Go.Proofs.YtmnjafceenckpaaDoor
set_option linter.unusedVariables false
set_option linter.unusedSimpArgs false
namespace Go.Proofs.YtmnjafceenckpaaDoor
open Go.RowKit
theorem ret_str {a b : ByteArray} (h : a = b) : Ending.returned (.string a) = .returned (.string b) := by rw [h]
set_option maxHeartbeats 1000000 in
theorem elooks_any (n : Int) (w : World) (h0 : 0 ≤ n) (h7 : n ≤ 7) : Calls Tryd.prog 65 #[.int .i64 n] w fun e w' => e = .returned (.string (mkB (lkT n))) ∧ w = w' := by
  have : n = 0 ∨ n = 1 ∨ n = 2 ∨ n = 3 ∨ n = 4 ∨ n = 5 ∨ n = 6 ∨ n = 7 := by omega
  clear h0 h7
  rcases this with rfl | rfl | rfl | rfl | rfl | rfl | rfl | rfl
  all_goals
    go_enter Tryd.func65, Tryd.ntmps65
    go_wp2
    go_ret
    exact ⟨ret_str (by first | rfl | decide +kernel), rfl⟩
theorem move_bytes (a b : List UInt8) : (⟨#[27, 91]⟩ : ByteArray) ++ ⟨a.toArray⟩ ++ ⟨#[59]⟩ ++ ⟨b.toArray⟩ ++ ⟨#[72]⟩ = mkB (27 :: 91 :: (a ++ 59 :: (b ++ [72]))) := by
  have h1 : (⟨#[27, 91]⟩ : ByteArray) = mkB [27, 91] := rfl
  have h2 : (⟨#[59]⟩ : ByteArray) = mkB [59] := rfl
  have h3 : (⟨#[72]⟩ : ByteArray) = mkB [72] := rfl
  have h4 : (⟨a.toArray⟩ : ByteArray) = mkB a := rfl
  have h5 : (⟨b.toArray⟩ : ByteArray) = mkB b := rfl
  rw [h1, h2, h3, h4, h5]
  apply bL_inj
  simp only [bL_app, bL_mkB]
  simp
theorem looks_bytes (a : List UInt8) : (⟨#[27, 91]⟩ : ByteArray) ++ mkB a ++ ⟨#[109]⟩ = mkB (27 :: 91 :: (a ++ [109])) := by
  have h1 : (⟨#[27, 91]⟩ : ByteArray) = mkB [27, 91] := rfl
  have h3 : (⟨#[109]⟩ : ByteArray) = mkB [109] := rfl
  rw [h1, h3]
  apply bL_inj
  simp only [bL_app, bL_mkB]
  simp
theorem sum_run (a b : ByteArray) (h : a.size + b.size ≤ 8388608) (w : World) : (Op.stringOp .add a b).run Tryd.prog w = .ok (.string (a ++ b)) w := run_string_add_sum w a b (by omega)
set_option maxHeartbeats 2000000 in
theorem bytes_move (n m : Int) (w : World) (h1 : 1 ≤ n) (h2 : n ≤ 1000) (h3 : 1 ≤ m) (h4 : m ≤ 1000) : Calls Tryd.prog 43 #[.agg #[.int .i64 1, .int .i64 n, .int .i64 m, .string ⟨#[]⟩]] w fun e w' => e = .returned (.string (bt (1, n, m, mt))) ∧ Below w.heap.size w w' := by
  have hbt : bt (1, n, m, mt) = mkB (27 :: 91 :: (decS n ++ 59 :: (decS m ++ [72]))) := rfl
  rw [hbt, ← move_bytes]
  have B0 := below_alloc w (.cells #[.int .i64 1, .int .i64 n, .int .i64 m, .string ⟨#[]⟩] 30)
  have q0 := heap_alloc_new w (.cells #[.int .i64 1, .int .i64 n, .int .i64 m, .string ⟨#[]⟩] 30)
  have D1 := fun w => dec_any n w (by omega) (by omega)
  have D2 := fun w => dec_any m w (by omega) (by omega)
  have hd1 := (dec_small n h1 h2).1
  have hd2 := (dec_small m h3 h4).1
  have y := fun i => cell_of_row _ _ i _ _ _ q0; have y1 := y 1; have y2 := y 2; clear y; dsimp at y1 y2
  have hq := blk_lt q0
  have L1 : ((⟨(decS n).toArray⟩ : ByteArray)).size ≤ 4 := by rw [← bL_len]; exact hd1
  have L2 : ((⟨(decS m).toArray⟩ : ByteArray)).size ≤ 4 := by rw [← bL_len]; exact hd2
  generalize (⟨(decS n).toArray⟩ : ByteArray) = A at *
  generalize (⟨(decS m).toArray⟩ : ByteArray) = B at *
  have R1 := sum_run ⟨#[27, 91]⟩ A (by show 2 + A.size ≤ _; omega)
  have R2 := sum_run (⟨#[27, 91]⟩ ++ A) ⟨#[59]⟩ (by rw [ByteArray.size_append]; show 2 + A.size + 1 ≤ _; omega)
  have R3 := sum_run (⟨#[27, 91]⟩ ++ A ++ ⟨#[59]⟩) B (by rw [ByteArray.size_append, ByteArray.size_append]; show 2 + A.size + 1 + B.size ≤ _; omega)
  have R4 := sum_run (⟨#[27, 91]⟩ ++ A ++ ⟨#[59]⟩ ++ B) ⟨#[72]⟩ (by rw [ByteArray.size_append, ByteArray.size_append, ByteArray.size_append]; show 2 + A.size + 1 + B.size + 1 ≤ _; omega)
  replace D1 := Lib.hid D1; replace D2 := Lib.hid D2
  clear hd1 hd2 q0 hbt
  go_enter Tryd.func43, Tryd.ntmps43
  go_upto_region 11 with fail
  go_region_held3 (fun w' => w'.cell? ⟨w.heap.size, 1, none⟩ = some (.int .i64 n) ∧ w'.cell? ⟨w.heap.size, 2, none⟩ = some (.int .i64 m))
    (first | exact ⟨y1, y2⟩ | exact o1 | exact o2 | go_keep)
    (first
      | (go_at_call 64; (with_reducible refine (D2.out _).mono ?_); rintro e w2 ⟨rfl, hb2⟩; have o2 : w2.cell? ⟨w.heap.size, 1, none⟩ = some (.int .i64 n) ∧ w2.cell? ⟨w.heap.size, 2, none⟩ = some (.int .i64 m) := ⟨(hb2.cell (p := ⟨w.heap.size, 1, none⟩) (Nat.lt_of_lt_of_le hq hb1.size)).trans o1.1, (hb2.cell (p := ⟨w.heap.size, 2, none⟩) (Nat.lt_of_lt_of_le hq hb1.size)).trans o1.2⟩)
      | (go_at_call 64; (with_reducible refine (D1.out _).mono ?_); rintro e w1 ⟨rfl, hb1⟩; have o1 : w1.cell? ⟨w.heap.size, 1, none⟩ = some (.int .i64 n) ∧ w1.cell? ⟨w.heap.size, 2, none⟩ = some (.int .i64 m) := ⟨(hb1.cell (p := ⟨w.heap.size, 1, none⟩) hq).trans y1, (hb1.cell (p := ⟨w.heap.size, 2, none⟩) hq).trans y2⟩))
  go_wp2
  go_ret
  exact ⟨rfl, seqB (seqB B0.drew hb1) hb2⟩
set_option maxHeartbeats 2000000 in
theorem bytesOf_any (p : Ot) (w : World) (ho : mayP p = true) (hs : p.2.2.2.size ≤ 1000000) : Calls Tryd.prog 43 #[otV p] w fun e w' => e = .returned (.string (bt p)) ∧ Below w.heap.size w w' := by
  have hpc := pc_of ho
  have LK := Lib.hid (fun n w h0 h1 => elooks_any n w h0 h1)
  cases hpc with
  | text t h hw =>
    rw [by_text]
    have B0 := below_alloc w (.cells #[.int .i64 0, .int .i64 0, .int .i64 0, .string t] 30)
    clear hw ho LK
    show Calls _ _ #[.agg #[.int .i64 0, .int .i64 0, .int .i64 0, .string t]] _ _
    go_enter Tryd.func43, Tryd.ntmps43
    go_wp2
    go_ret
    exact ⟨rfl, B0⟩
  | move n m h1 h2 h3 h4 => exact bytes_move n m w h1 h2 h3 h4
  | looks n h1 h2 =>
    have hbt : bt (4, n, 0, mt) = mkB (27 :: 91 :: (lkT n ++ [109])) := rfl
    rw [hbt, ← looks_bytes]
    have B0 := below_alloc w (.cells #[.int .i64 4, .int .i64 n, .int .i64 0, .string ⟨#[]⟩] 30)
    have L := fun w => LK.out n w h1 h2
    have hl : (mkB (lkT n)).size ≤ 9 := by
      obtain ⟨k, rfl⟩ := Int.eq_ofNat_of_zero_le h1
      rw [← bL_len, bL_mkB]; exact (lk_small ⟨k, by omega⟩).1
    generalize mkB (lkT n) = A at *
    replace L := Lib.hid L
    clear hbt ho LK
    show Calls _ _ #[.agg #[.int .i64 4, .int .i64 n, .int .i64 0, .string ⟨#[]⟩]] _ _
    go_enter Tryd.func43, Tryd.ntmps43
    go_wp2_with (go_at_call 65; refine (L.out _).mono ?_; rintro e w1 ⟨rfl, rfl⟩)
    go_ret
    exact ⟨rfl, B0⟩
  | erase =>
    have B0 := below_alloc w (.cells #[.int .i64 2, .int .i64 0, .int .i64 0, .string ⟨#[]⟩] 30)
    clear ho LK
    show Calls _ _ #[.agg #[.int .i64 2, .int .i64 0, .int .i64 0, .string ⟨#[]⟩]] _ _
    go_enter Tryd.func43, Tryd.ntmps43
    go_wp2
    go_ret
    exact ⟨rfl, B0⟩
  | rest =>
    have B0 := below_alloc w (.cells #[.int .i64 3, .int .i64 0, .int .i64 0, .string ⟨#[]⟩] 30)
    clear ho LK
    show Calls _ _ #[.agg #[.int .i64 3, .int .i64 0, .int .i64 0, .string ⟨#[]⟩]] _ _
    go_enter Tryd.func43, Tryd.ntmps43
    go_wp2
    go_ret
    exact ⟨rfl, B0⟩
  | paste1 =>
    have B0 := below_alloc w (.cells #[.int .i64 5, .int .i64 1, .int .i64 0, .string ⟨#[]⟩] 30)
    clear ho LK
    show Calls _ _ #[.agg #[.int .i64 5, .int .i64 1, .int .i64 0, .string ⟨#[]⟩]] _ _
    go_enter Tryd.func43, Tryd.ntmps43
    go_wp2
    go_ret
    exact ⟨rfl, B0⟩
  | paste0 =>
    have B0 := below_alloc w (.cells #[.int .i64 5, .int .i64 0, .int .i64 0, .string ⟨#[]⟩] 30)
    clear ho LK
    show Calls _ _ #[.agg #[.int .i64 5, .int .i64 0, .int .i64 0, .string ⟨#[]⟩]] _ _
    go_enter Tryd.func43, Tryd.ntmps43
    go_wp2
    go_ret
    exact ⟨rfl, B0⟩
  | bell =>
    have B0 := below_alloc w (.cells #[.int .i64 6, .int .i64 0, .int .i64 0, .string ⟨#[]⟩] 30)
    clear ho LK
    show Calls _ _ #[.agg #[.int .i64 6, .int .i64 0, .int .i64 0, .string ⟨#[]⟩]] _ _
    go_enter Tryd.func43, Tryd.ntmps43
    go_wp2
    go_ret
    exact ⟨rfl, B0⟩
  | cr =>
    have B0 := below_alloc w (.cells #[.int .i64 7, .int .i64 0, .int .i64 0, .string ⟨#[]⟩] 30)
    clear ho LK
    show Calls _ _ #[.agg #[.int .i64 7, .int .i64 0, .int .i64 0, .string ⟨#[]⟩]] _ _
    go_enter Tryd.func43, Tryd.ntmps43
    go_wp2
    go_ret
    exact ⟨rfl, B0⟩
  | lf =>
    have B0 := below_alloc w (.cells #[.int .i64 8, .int .i64 0, .int .i64 0, .string ⟨#[]⟩] 30)
    clear ho LK
    show Calls _ _ #[.agg #[.int .i64 8, .int .i64 0, .int .i64 0, .string ⟨#[]⟩]] _ _
    go_enter Tryd.func43, Tryd.ntmps43
    go_wp2
    go_ret
    exact ⟨rfl, B0⟩
end Go.Proofs.YtmnjafceenckpaaDoor
set_option linter.unusedVariables false
set_option linter.unusedSimpArgs false
namespace Go.Proofs.YtmnjafceenckpaaDoor
open Go.RowKit
/-- The tables that are read. -/
structure SpT (w : World) : Prop where
  c : Tabs w
  u : UT w
theorem SpT.below {w w' : World} (h : SpT w) (hb : Below w.heap.size w w') : SpT w' := ⟨h.c.below hb, h.u.below hb⟩
/-- What a function tells of a value. -/
structure Tells (f : Int → List UInt8) (F : FuncId) : Prop where
  cf : ∀ (x : Int) (w : World), (callFunc F #[.int .i64 x]).run Tryd.prog w = .ok (.enter F #[.int .i64 x]) w
  run : ∀ v w, Tabs w → Calls Tryd.prog F #[.int .i64 v] w fun e w' => e = .returned (.string (mkL (f v))) ∧ Below w.heap.size w w'
end Go.Proofs.YtmnjafceenckpaaDoor
set_option linter.unusedVariables false
set_option linter.unusedSimpArgs false
namespace Go.Proofs.YtmnjafceenckpaaDoor
open Go.RowKit
theorem one_at (s : ByteArray) (i : Nat) (w : World) (hT : UT w) (hs : s.size ≤ 100000) (hi : i < s.size) : Calls Tryd.prog 30 #[.string (s.extract i s.size)] w fun e w' => e = .returned (.tuple #[.int .i64 ((vAt s i).1 : Int), .int .i64 ((vAt s i).2 : Int)]) ∧ Below w.heap.size w w' := by
  have h := one_any (s.extract i s.size) w hT (by rw [ext_size]; omega)
  have e : oneS (s.extract i s.size) = vAt s i := by
    unfold oneS; rw [if_neg (by rw [ext_size]; omega), vAt_tail s i 0 (by omega)]; rfl
  rw [e] at h
  exact h
end Go.Proofs.YtmnjafceenckpaaDoor
set_option linter.unusedVariables false
set_option linter.unusedSimpArgs false
namespace Go.Proofs.YtmnjafceenckpaaDoor
open Go.RowKit
/-- A value's letters. -/
def leF (v : Int) : List UInt8 := if v = 92 then [92, 92] else if 32 ≤ v ∧ v ≤ 126 then [v.toNat.toUInt8] else 92 :: 117 :: hexS v 6
def lnL (l : List (Int × Int)) : List UInt8 := l.flatMap fun p => leF p.1
theorem right_rng {v : Int} (h : rightB v = true) : 0 ≤ v ∧ v ≤ 1114367 := by
  unfold rightB at h
  rw [Bool.or_eq_true, ptB_iff, stB_iff] at h
  omega
theorem hex6 {v : Int} (h : rightB v = true) : hexS v 6 = hexL v 6 ∧ (hexL v 6).length = 6 ∧ uhR (hexL v 6) = v ∧ uhE (hexL v 6) = 0 ∧ ∀ c ∈ hexL v 6, 48 ≤ c.toNat ∧ c.toNat ≤ 70 := by
  have hr := right_rng h
  have hl := hexL_len v 6 6 (Nat.lt_of_le_of_lt (show v.toNat ≤ 1114367 by omega) (by decide)) (by decide) (by decide)
  have hn : (hexL v 6).length = 6 := by
    have : (6 : Int).toNat = 6 := rfl
    omega
  have hu := uh_hex v 6 hr.1 (by omega) (by rw [hexN_L v 6 (by omega)]; omega)
  rw [hexN_L v 6 (by omega)] at hu
  exact ⟨hexS_L v 6 hr.1 (by omega) (by omega), hn, hu.1, hu.2, hexL_ascii v 6⟩
theorem leF_ascii {v : Int} (h : rightB v = true) : ∀ c ∈ leF v, 32 ≤ c.toNat ∧ c.toNat ≤ 126 := by
  intro c hc
  unfold leF at hc
  split at hc
  · simp at hc; subst hc; decide
  · split at hc
    · rename_i h1 h2
      rw [List.mem_singleton] at hc
      subst hc
      have := u8_nat (x := v) (by omega) (by omega)
      omega
    · rw [(hex6 h).1] at hc
      simp only [List.mem_cons] at hc
      rcases hc with rfl | rfl | hc
      · decide
      · decide
      · have := (hex6 h).2.2.2.2 c hc; omega
theorem leF_len {v : Int} (h : rightB v = true) : 1 ≤ (leF v).length ∧ (leF v).length ≤ 8 := by
  unfold leF
  split
  · simp
  · split
    · simp
    · rw [(hex6 h).1]; simp [(hex6 h).2.1]
theorem sg_right {l : List (Int × Int)} (h : sgC l = true) : ∀ p ∈ l, rightB p.1 = true := by
  intro p hp
  unfold sgC at h
  rw [List.all_eq_true] at h
  have := h p hp
  unfold sgR at this
  rw [Bool.and_eq_true, Bool.and_eq_true] at this
  exact this.2.2
theorem lnL_ascii {l : List (Int × Int)} (h : sgC l = true) : ∀ c ∈ lnL l, 32 ≤ c.toNat ∧ c.toNat ≤ 126 := by
  intro c hc
  unfold lnL at hc
  rw [List.mem_flatMap] at hc
  obtain ⟨p, hp, hc⟩ := hc
  exact leF_ascii (sg_right h p hp) c hc
theorem lnL_cons (p : Int × Int) (l : List (Int × Int)) : lnL (p :: l) = leF p.1 ++ lnL l := rfl
theorem lnL_app (a b : List (Int × Int)) : lnL (a ++ b) = lnL a ++ lnL b := by unfold lnL; rw [List.flatMap_append]
theorem lnL_len {l : List (Int × Int)} (h : ∀ p ∈ l, rightB p.1 = true) : (lnL l).length ≤ 8 * l.length := by
  induction l with
  | nil => exact Nat.zero_le _
  | cons p l ih =>
    rw [lnL_cons, List.length_append, List.length_cons]
    have := (leF_len (h p (List.mem_cons_self ..))).2
    have := ih (fun q hq => h q (List.mem_cons_of_mem _ hq))
    omega
/-- The next value of letters, and of how many bytes it is. -/
def nxF (l : List UInt8) : Int × Nat :=
  if l.take 2 = [92, 92] then (92, 2)
  else if l.take 2 = [92, 117] ∧ 8 ≤ l.length ∧ uhE ((l.drop 2).take 6) = 0 ∧ rightB (uhR ((l.drop 2).take 6)) = true then (uhR ((l.drop 2).take 6), 8)
  else (((l.headD 0).toNat : Int), 1)
theorem nx_le {v : Int} (h : rightB v = true) (r : List UInt8) : nxF (leF v ++ r) = (v, (leF v).length) := by
  unfold nxF leF
  by_cases h1 : v = 92
  · subst h1; rw [if_pos rfl]; rfl
  · rw [if_neg h1]
    by_cases h2 : 32 ≤ v ∧ v ≤ 126
    · rw [if_pos h2]
      have hne : v.toNat.toUInt8 ≠ 92 := fun e => by
        have := u8_nat (x := v) (by omega) (by omega)
        rw [e] at this
        have : (92 : UInt8).toNat = 92 := rfl
        omega
      have ht : ∀ x, ([v.toNat.toUInt8] ++ r).take 2 ≠ [92, x] := fun x e => by
        cases r with
        | nil => simp at e
        | cons y r => simp at e; exact hne e.1
      rw [if_neg (ht 92), if_neg (fun e => ht 117 e.1)]
      have := u8_nat (x := v) (by omega) (by omega)
      show (((v.toNat.toUInt8).toNat : Int), 1) = _
      rw [this]
      refine Prod.ext ?_ rfl
      show ((v.toNat : Nat) : Int) = v
      omega
    · rw [if_neg h2]
      obtain ⟨e1, e2, e3, e4, _⟩ := hex6 h
      rw [e1]
      have ht : (92 :: 117 :: hexL v 6 ++ r).take 2 = [92, 117] := rfl
      have hd : ((92 :: 117 :: hexL v 6 ++ r).drop 2).take 6 = hexL v 6 := by
        show (hexL v 6 ++ r).take 6 = hexL v 6
        rw [List.take_append_of_le_length (by omega), List.take_of_length_le (by omega)]
      rw [ht, hd, if_neg (by decide), if_pos ⟨rfl, by simp [e2], e4, by rw [e3]; exact h⟩, e3]
      refine Prod.ext rfl ?_
      simp [e2]
/-- The values of letters, at most so many. -/
def unF : Nat → List UInt8 → Nat → List Int
  | 0, _, _ => []
  | f + 1, l, k => if l = [] then [] else match k with
    | 0 => []
    | k + 1 => (nxF l).1 :: unF f (l.drop (nxF l).2) k
theorem nx_pos (l : List UInt8) : 1 ≤ (nxF l).2 := by
  unfold nxF; split
  · show 1 ≤ 2; omega
  · split
    · show 1 ≤ 8; omega
    · show 1 ≤ 1; omega
theorem un_ln {l : List (Int × Int)} (h : ∀ p ∈ l, rightB p.1 = true) : ∀ f k, (lnL l).length ≤ f → l.length ≤ k → unF f (lnL l) k = l.map (·.1) := by
  induction l with
  | nil =>
    intro f k hf hk
    cases f with
    | zero => rfl
    | succ f => unfold unF; rw [if_pos (show lnL [] = [] from rfl)]; rfl
  | cons p l ih =>
    intro f k hf hk
    have hp := h p (List.mem_cons_self ..)
    have hl := leF_len hp
    rw [lnL_cons, List.length_append] at hf
    obtain ⟨g, rfl⟩ : ∃ g, f = g + 1 := ⟨f - 1, by omega⟩
    obtain ⟨m, rfl⟩ : ∃ m, k = m + 1 := ⟨k - 1, by simp at hk; omega⟩
    rw [lnL_cons]
    unfold unF
    rw [if_neg (fun e => by have := congrArg List.length e; rw [List.length_append] at this; simp at this; have := this.1; rw [this] at hl; simp at hl)]
    show (nxF _).1 :: unF g _ m = _
    rw [nx_le hp, List.drop_append_of_le_length (Nat.le_refl _), List.drop_of_length_le (Nat.le_refl _), List.nil_append, ih (fun q hq => h q (List.mem_cons_of_mem _ hq)) g m (by omega) (by simp at hk; omega)]
    rfl
/-- Unlike entries have unlike lines. -/
theorem ln_inj {a b : List (Int × Int)} (ha : ∀ p ∈ a, rightB p.1 = true) (hb : ∀ p ∈ b, rightB p.1 = true) (h : lnL a = lnL b) : a.map (·.1) = b.map (·.1) := by
  rw [← un_ln ha ((lnL a).length + (lnL b).length) (a.length + b.length) (by omega) (by omega), ← un_ln hb ((lnL a).length + (lnL b).length) (a.length + b.length) (by omega) (by omega), h]
theorem ln_vals {a b : List (Int × Int)} (h : a.map (·.1) = b.map (·.1)) : lnL a = lnL b := by
  have key : ∀ l : List (Int × Int), lnL l = (l.map (·.1)).flatMap leF := fun l => by
    unfold lnL; rw [List.flatMap_map]
  rw [key, key, h]
end Go.Proofs.YtmnjafceenckpaaDoor
set_option linter.unusedVariables false
set_option linter.unusedSimpArgs false
namespace Go.Proofs.YtmnjafceenckpaaDoor
open Go.RowKit Go.Sort
theorem nm_short (k : Ky) (h : keyB k = true) (ht : k.2.2.1.size ≤ 300) : (mkS (nmN k)).size ≤ 900000 := by
  rw [mkS_size]
  have hf := kyF_of h
  clear h
  cases hf with
  | sign v h0 h1 h => show (sgN v).length ≤ _; have := sgN_len v; omega
  | ctrl v h0 h1 => show (ctN v).length ≤ _; rw [ctN_len]; omega
  | meta1 v h0 h1 => rw [nm_meta1 v h0]; have := sgN_len v; simp; omega
  | meta0 v h0 h1 => rw [nm_meta0 v (by omega)]; have := ctN_len v; simp; omega
  | paste t c h =>
    show (psN t.data.toList c).length ≤ _
    unfold psN
    have : t.data.toList.length ≤ 300 := by rw [list_size]; exact ht
    simp only [List.length_cons, List.length_append, hx2_len]
    cases c <;> simp <;> omega
  | named kind v h1 h2 h3 h15 h =>
    rw [nm_named kind v _ _ h1 h2 h3 h15]
    have : ∀ r ∈ kTab, r.2.2.1.length ≤ 10 := by decide
    obtain ⟨r, hr⟩ := Option.isSome_iff_exists.1 h
    have ⟨hm, e1, e2⟩ := find_ok hr
    have e3 : kRowOf kind v = r := by unfold kRowOf; rw [hr]; rfl
    rw [e3]; have := this r hm; omega
end Go.Proofs.YtmnjafceenckpaaDoor
