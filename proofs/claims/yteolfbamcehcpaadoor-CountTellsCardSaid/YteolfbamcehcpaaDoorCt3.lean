/-
  Counts: what a count says; no count.
-/
import Derived.Test.YteolfbamcehcpaaDoorCt2
set_option linter.unusedVariables false
set_option linter.unusedSimpArgs false
namespace Go.Proofs.YteolfbamcehcpaaDoor
set_option maxRecDepth 100000
open Go.RowKit
set_option maxHeartbeats 4000000 in
set_option maxRecDepth 100000 in
theorem ctvalue_any (p : Nat) (s : Cs) (w : World) (hp : CtAt p s w) (hn0 : 0 ≤ s.2.2.1) (hn1 : s.2.2.1 ≤ 9999) : Calls Tryd.prog 26 #[.pointer (some ⟨p, 0, none⟩)] w fun e w' => e = .returned (.tuple #[.int .i64 (csVal s), .bool (csBg s)]) ∧ Below w.heap.size w w' := by
  obtain ⟨a, b, n, c⟩ := s
  have BG := fun w => ctbg_any (a, b, n, c) w
  have HV : csVal (a, b, n, c) = if csBg (a, b, n, c) then (if c then -(if b then n else 1) else (if b then n else 1)) else 1 := rfl
  rw [HV]
  have pp := fun i => cell_of_row _ _ i _ _ _ hp
  have c0 := pp 0; have c1 := pp 1; have c2 := pp 2; have c3 := pp 3
  dsimp [csRow] at c0 c1 c2 c3
  dsimp only at hn0 hn1
  clear pp HV
  generalize csBg (a, b, n, c) = g at *
  replace BG := Lib.hid BG
  cases g with
  | false =>
    rw [if_neg (by decide)]
    go_enter Tryd.func26, Tryd.ntmps26
    go_wp2_with (go_at_call 60; refine (BG.out _).mono ?_; rintro e w4 ⟨rfl, hb4⟩)
    go_ret2
    exact ⟨rfl, hb4⟩
  | true =>
    rw [if_pos rfl]
    cases b <;> cases c
    all_goals
      go_enter Tryd.func26, Tryd.ntmps26
      go_wp2_with (go_at_call 60; refine (BG.out _).mono ?_; rintro e w4 ⟨rfl, hb4⟩; have p4 := blk_below hp hb4; have pp := fun i => cell_of_row _ _ i _ _ _ p4; have d0 := pp 0; have d1 := pp 1; have d2 := pp 2; have d3 := pp 3; dsimp [csRow] at d0 d1 d2 d3; clear pp)
      go_ret2
      exact ⟨rfl, hb4⟩
theorem ctvalue_nil (w : World) : Calls Tryd.prog 26 #[.pointer none] w fun e w' => e = .returned (.tuple #[.int .i64 1, .bool false]) ∧ Below w.heap.size w w' := by
  go_enter Tryd.func26, Tryd.ntmps26
  go_wp2
  go_ret2
  exact ⟨rfl, Below.refl _ _⟩
def TkPost (p : Nat) (s : Cs) (w : World) (e : Ending) (w' : World) : Prop := e = .returned (.tuple #[.int .i64 (csVal s), .bool (csBg s)]) ∧ CtAt p cs0 w' ∧ w.grownBy w' (some p)
set_option maxHeartbeats 4000000 in
set_option maxRecDepth 100000 in
theorem cttake_any (p : Nat) (s : Cs) (w : World) (hp : CtAt p s w) (hn0 : 0 ≤ s.2.2.1) (hn1 : s.2.2.1 ≤ 9999) : Calls Tryd.prog 27 #[.pointer (some ⟨p, 0, none⟩)] w (TkPost p s w) := by
  have V := Lib.hid (ctvalue_any p s w hp hn0 hn1)
  have HP : ∀ w', CtAt p cs0 w' → w.grownBy w' (some p) → TkPost p s w (.returned (.tuple #[.int .i64 (csVal s), .bool (csBg s)])) w' := fun w' h1 h2 => ⟨rfl, h1, h2⟩
  generalize csVal s = cv at *
  generalize csBg s = cb at *
  replace HP := Lib.hid HP
  clear hn0 hn1
  go_enter Tryd.func27, Tryd.ntmps27
  go_wp2_with (go_at_call 26; refine V.out.mono ?_; rintro e w5 ⟨rfl, hb5⟩; have p5 := blk_below hp hb5; have pp := fun i => cell_of_row _ _ i _ _ _ p5; have z0 := pp 0; have z1 := pp 1; have z2 := pp 2; have z3 := pp 3; dsimp [csRow] at z0 z1 z2 z3; have zf := fun i => frozen_of_row _ p i _ _ p5; have hfin := Lib.hid (four_set p5 (.bool false) (.bool false) (.int .i64 0) (.bool false)); have GF := Lib.hid (cgb_set (cgb_set (cgb_set (cgb_set (cgb_of hb5 (some p)) 0 (.bool false)) 1 (.bool false)) 2 (.int .i64 0)) 3 (.bool false)); clear pp p5)
  go_ret2
  exact HP.out _ hfin.out GF.out
theorem cttake_nil (w : World) : Calls Tryd.prog 27 #[.pointer none] w fun e w' => e = .returned (.tuple #[.int .i64 1, .bool false]) ∧ Below w.heap.size w w' := by
  have V := Lib.hid fun w => ctvalue_nil w
  go_enter Tryd.func27, Tryd.ntmps27
  go_wp2_with (go_at_call 26; refine (V.out _).mono ?_; rintro e w5 ⟨rfl, hb5⟩)
  go_ret2
  exact ⟨rfl, hb5⟩
theorem ctdo_nil (k : Ky) (w : World) : Calls Tryd.prog 24 #[.pointer none, .agg #[.int .i64 k.1, .int .i64 k.2.1, .string k.2.2.1, .bool k.2.2.2]] w fun e w' => e = .returned (.bool false) ∧ Below w.heap.size w w' := by
  go_enter Tryd.func24, Tryd.ntmps24
  go_wp2
  go_ret
  exact ⟨rfl, below_alloc _ _⟩
end Go.Proofs.YteolfbamcehcpaaDoor
