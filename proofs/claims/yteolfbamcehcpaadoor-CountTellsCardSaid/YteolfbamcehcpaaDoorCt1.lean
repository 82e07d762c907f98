/-
  Counts: New, what digit a key is, the count with a digit more, whether it has begun.
-/
import Derived.Test.YteolfbamcehcpaaDoorCt0
import Derived.Test.YteolfbamcehcpaaDoorKy16
set_option linter.unusedVariables false
set_option linter.unusedSimpArgs false
namespace Go.Proofs.YteolfbamcehcpaaDoor
set_option maxRecDepth 100000
open Go.RowKit
def csRow (s : Cs) : Array Value := #[.bool s.1, .bool s.2.1, .int .i64 s.2.2.1, .bool s.2.2.2]
/-- A count lies at a block. -/
def CtAt (p : Nat) (s : Cs) (w : World) : Prop := w.heap[p]? = some (.cells (csRow s) 93 (0, 0))
theorem ctnew_any (w : World) : Calls Tryd.prog 22 #[] w fun e w' => e = .returned (.pointer (some ⟨w.heap.size, 0, none⟩)) ∧ w.alloc (.cells #[.bool false, .bool false, .int .i64 0, .bool false] 93) = w' := by
  go_enter Tryd.func22, Tryd.ntmps22
  go_wp2
  go_ret
  exact ⟨rfl, rfl⟩
set_option maxHeartbeats 1000000 in
theorem neqSt (a b : Bool) (n : Int) (c a' b' : Bool) (n' : Int) (c' : Bool) (w : World) : (binOp .neq 91 (.agg #[.bool a, .bool b, .int .i64 n, .bool c]) (.agg #[.bool a', .bool b', .int .i64 n', .bool c'])).run Tryd.prog w = .ok (.bool (decide (((a, b, n, c) : Cs) ≠ (a', b', n', c')))) w := by
  by_cases h1 : a = a'
  · by_cases h2 : b = b'
    · by_cases h3 : n = n'
      · by_cases h4 : c = c'
        · subst h1; subst h2; subst h3; subst h4
          simp [go_sem]
        · simp [go_sem, h1, h2, h3, h4]
      · simp [go_sem, h1, h2, h3]
    · simp [go_sem, h1, h2]
  · simp [go_sem, h1]
theorem ctbg_any (s : Cs) (w : World) : Calls Tryd.prog 60 #[.agg #[.bool s.1, .bool s.2.1, .int .i64 s.2.2.1, .bool s.2.2.2]] w fun e w' => e = .returned (.bool (csBg s)) ∧ Below w.heap.size w w' := by
  have NE := neqSt s.1 s.2.1 s.2.2.1 s.2.2.2 false false 0 false
  rw [show decide (((s.1, s.2.1, s.2.2.1, s.2.2.2) : Cs) ≠ (false, false, 0, false)) = csBg s from rfl] at NE
  generalize csBg s = b at *
  go_enter Tryd.func60, Tryd.ntmps60
  go_wp2
  go_ret
  exact ⟨rfl, below_alloc _ _⟩
theorem ctreader_any (k : Ky) (w : World) : Calls Tryd.prog 58 #[.agg #[.int .i64 k.1, .int .i64 k.2.1, .string k.2.2.1, .bool k.2.2.2]] w fun e w' => e = .returned (.func (.func 86) #[] #[.pointer (some ⟨w.heap.size, 0, none⟩)]) ∧ w.alloc (.cells #[.int .i64 k.1, .int .i64 k.2.1, .string k.2.2.1, .bool k.2.2.2] 23) = w' := by
  have hmf : ∀ (fn : Fn) (first cap : Array Value) (w : World), (Instr.makeFunc fn first cap).run Tryd.prog w = .ok (.func fn first cap) w := fun _ _ _ _ => rfl
  go_enter Tryd.func58, Tryd.ntmps58
  go_wp2
  go_ret
  exact ⟨rfl, rfl⟩
theorem ctdigit_any (k : Ky) (kind : Int) (q : Nat) (w : World) (h0 : w.cell? ⟨q, 0, none⟩ = some (.int .i64 k.1)) (h1 : w.cell? ⟨q, 1, none⟩ = some (.int .i64 k.2.1)) : Calls Tryd.prog 86 #[.int .i64 kind, .pointer (some ⟨q, 0, none⟩)] w fun e w' => e = .returned (.tuple #[.int .i64 (rdV k kind), .bool (rdB k kind)]) ∧ w = w' := by
  have no : ¬ (k.1 = kind ∧ 48 ≤ k.2.1 ∧ k.2.1 ≤ 57) → rdB k kind = false ∧ rdV k kind = 0 := fun h => by
    have : rdB k kind = false := decide_eq_false h
    exact ⟨this, by unfold rdV; rw [this]; rfl⟩
  by_cases h : k.1 = kind
  · by_cases ha : 48 ≤ k.2.1
    · by_cases hb : k.2.1 ≤ 57
      · have e1 : rdB k kind = true := decide_eq_true ⟨h, ha, hb⟩
        have e2 : rdV k kind = k.2.1 - 48 := by unfold rdV; rw [e1]; rfl
        rw [e1, e2]
        clear no e1 e2
        subst h
        go_enter Tryd.func86, Tryd.ntmps86
        go_wp2
        go_ret2
        exact ⟨rfl, rfl⟩
      · rw [(no (by omega)).1, (no (by omega)).2]
        clear no
        subst h
        go_enter Tryd.func86, Tryd.ntmps86
        go_wp2
        go_ret2
        exact ⟨rfl, rfl⟩
    · rw [(no (by omega)).1, (no (by omega)).2]
      clear no
      subst h
      go_enter Tryd.func86, Tryd.ntmps86
      go_wp2
      go_ret2
      exact ⟨rfl, rfl⟩
  · rw [(no (by omega)).1, (no (by omega)).2]
    clear no
    go_enter Tryd.func86, Tryd.ntmps86
    go_wp2
    go_ret2
    exact ⟨rfl, rfl⟩
set_option maxHeartbeats 2000000 in
set_option maxRecDepth 100000 in
theorem ctwith_any (a b c : Bool) (n d : Int) (w : World) (hn0 : 0 ≤ n) (hn1 : n ≤ 9999) (hd0 : 0 ≤ d) (hd1 : d ≤ 9) : Calls Tryd.prog 59 #[.agg #[.bool a, .bool b, .int .i64 n, .bool c], .int .i64 d] w fun e w' => e = .returned (.agg #[.bool true, .bool true, .int .i64 (min (n * 10 + d) 9999), .bool c]) ∧ Below w.heap.size w w' := by
  go_enter Tryd.func59, Tryd.ntmps59
  go_wp2
  refine bodyPost_ret (v := .agg #[.bool true, .bool true, .int .i64 (min (n * 10 + d) 9999), .bool c]) (by simp [results, Tryd.results59, go_sem]) rfl ?_
  exact ⟨rfl, seqB (below_alloc _ _) (below_alloc _ _)⟩
end Go.Proofs.YteolfbamcehcpaaDoor
