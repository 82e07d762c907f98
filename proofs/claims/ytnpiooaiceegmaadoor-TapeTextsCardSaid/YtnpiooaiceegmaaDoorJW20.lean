/-
  Joined: Tp40 Tp41 Tp42 Tp43 Tp44.
-/
import Derived.Test.YtnpiooaiceegmaaDoorJW13
import Derived.Test.YtnpiooaiceegmaaDoorJW14
import Derived.Test.YtnpiooaiceegmaaDoorJW15
import Derived.Test.YtnpiooaiceegmaaDoorJW16
import Derived.BigQuiet
import Derived.Deep.RegionHeld3
set_option linter.unusedVariables false
set_option linter.unusedSimpArgs false
set_option maxRecDepth 100000
set_option linter.unusedVariables false
set_option linter.unusedSimpArgs false
namespace Go.Proofs.YtnpiooaiceegmaaDoor
open Go.RowKit
/-- A sum of texts. -/
theorem tsum_run (a b : ByteArray) (h : a.size + b.size ≤ 140737488355328) (w : World) : (Op.stringOp .add a b).run Tryd.prog w = .ok (.string (a ++ b)) w := run_string_add_sum w a b (by omega)
theorem tsum_l (a b : List UInt8) (h : a.length + b.length ≤ 140737488355328) (w : World) : (Op.stringOp .add (mkL a) (mkL b)).run Tryd.prog w = .ok (.string (mkL (a ++ b))) w := by
  rw [tsum_run _ _ (by rw [mkL_size, mkL_size]; exact h), mkL_cat]
theorem qsyU {P : Program} {f : FuncId} {args : Array Value} {w0 : World} {v : Value} {g : Nat → World} (h : Calls P f args w0 fun e w' => e = .returned v ∧ w0 = w') (hg : ∃ m, w0 = g m) : Calls P f args w0 fun e w' => e = .returned v ∧ ∃ m, w' = g m := h.mono fun e w' h => ⟨h.1, by obtain ⟨m, hm⟩ := hg; exact ⟨m, h.2.symm.trans hm⟩⟩
theorem rdec_any (n : Int) (w : World) (h : in64 n) : Calls Tryd.prog 53 #[.int .i64 n] w fun e w' => e = .returned (.string (mkL (decS n))) ∧ w = w' := dec_ref n.natAbs n w (Nat.le_refl _) h.1 h.2
def LnPost (x : List UInt8) (w : World) (e : Ending) (w' : World) : Prop := e = .returned (.string (mkL x)) ∧ Below w.heap.size w w'
set_option maxHeartbeats 4000000 in
set_option maxRecDepth 100000 in
theorem rline_ti (a : Option Addr) (cz : Nat) (w : World) : Calls Tryd.prog 16 #[.agg #[.int .i64 1, .string ⟨#[]⟩, .int .i64 0, .int .i64 0, .slice a 0 cz]] w (LnPost [116, 105, 99, 107] w) := by
  have b0 := below_alloc w (.cells #[.int .i64 1, .string ⟨#[]⟩, .int .i64 0, .int .i64 0, .slice a 0 cz] 38)
  have r0 := heap_alloc_new w (.cells #[.int .i64 1, .string ⟨#[]⟩, .int .i64 0, .int .i64 0, .slice a 0 cz] 38)
  obtain ⟨W0, hW0⟩ : ∃ W0, w.alloc (.cells #[.int .i64 1, .string ⟨#[]⟩, .int .i64 0, .int .i64 0, .slice a 0 cz] 38) = W0 := ⟨_, rfl⟩
  rw [hW0] at b0 r0
  have zz := fun i => cell_of_row _ _ i _ _ _ r0
  have f0 := zz 0; have f1 := zz 1; have f2 := zz 2; have f3 := zz 3; have f4 := zz 4
  dsimp at f0 f1 f2 f3 f4
  have B0 := Lib.hid b0
  have hlt := blk_lt r0
  have f0a : ∀ o, (W0.alloc o).cell? ⟨w.heap.size, 0, none⟩ = some (.int .i64 1) := fun o => (World.cell?_alloc_lt _ _ _ hlt).trans f0
  replace hlt := Lib.hid hlt
  clear zz b0 r0
  go_enter Tryd.func16, Tryd.ntmps16
  go_wp2
  go_ret
  exact ⟨rfl, B0.out.trans ((below_alloc W0 _).mono B0.out.size)⟩
set_option maxHeartbeats 4000000 in
set_option maxRecDepth 100000 in
theorem rline_sa (a : Option Addr) (cz : Nat) (w : World) : Calls Tryd.prog 16 #[.agg #[.int .i64 5, .string ⟨#[]⟩, .int .i64 0, .int .i64 0, .slice a 0 cz]] w (LnPost [115, 97, 118, 101] w) := by
  have b0 := below_alloc w (.cells #[.int .i64 5, .string ⟨#[]⟩, .int .i64 0, .int .i64 0, .slice a 0 cz] 38)
  have r0 := heap_alloc_new w (.cells #[.int .i64 5, .string ⟨#[]⟩, .int .i64 0, .int .i64 0, .slice a 0 cz] 38)
  obtain ⟨W0, hW0⟩ : ∃ W0, w.alloc (.cells #[.int .i64 5, .string ⟨#[]⟩, .int .i64 0, .int .i64 0, .slice a 0 cz] 38) = W0 := ⟨_, rfl⟩
  rw [hW0] at b0 r0
  have zz := fun i => cell_of_row _ _ i _ _ _ r0
  have f0 := zz 0; have f1 := zz 1; have f2 := zz 2; have f3 := zz 3; have f4 := zz 4
  dsimp at f0 f1 f2 f3 f4
  have B0 := Lib.hid b0
  have hlt := blk_lt r0
  have f0a : ∀ o, (W0.alloc o).cell? ⟨w.heap.size, 0, none⟩ = some (.int .i64 5) := fun o => (World.cell?_alloc_lt _ _ _ hlt).trans f0
  replace hlt := Lib.hid hlt
  clear zz b0 r0
  go_enter Tryd.func16, Tryd.ntmps16
  go_wp2
  go_ret
  exact ⟨rfl, B0.out.trans ((below_alloc W0 _).mono B0.out.size)⟩
set_option maxHeartbeats 4000000 in
set_option maxRecDepth 100000 in
theorem rline_po (a : Option Addr) (cz : Nat) (w : World) : Calls Tryd.prog 16 #[.agg #[.int .i64 6, .string ⟨#[]⟩, .int .i64 0, .int .i64 0, .slice a 0 cz]] w (LnPost [112, 111, 119, 101, 114] w) := by
  have b0 := below_alloc w (.cells #[.int .i64 6, .string ⟨#[]⟩, .int .i64 0, .int .i64 0, .slice a 0 cz] 38)
  have r0 := heap_alloc_new w (.cells #[.int .i64 6, .string ⟨#[]⟩, .int .i64 0, .int .i64 0, .slice a 0 cz] 38)
  obtain ⟨W0, hW0⟩ : ∃ W0, w.alloc (.cells #[.int .i64 6, .string ⟨#[]⟩, .int .i64 0, .int .i64 0, .slice a 0 cz] 38) = W0 := ⟨_, rfl⟩
  rw [hW0] at b0 r0
  have zz := fun i => cell_of_row _ _ i _ _ _ r0
  have f0 := zz 0; have f1 := zz 1; have f2 := zz 2; have f3 := zz 3; have f4 := zz 4
  dsimp at f0 f1 f2 f3 f4
  have B0 := Lib.hid b0
  have hlt := blk_lt r0
  have f0a : ∀ o, (W0.alloc o).cell? ⟨w.heap.size, 0, none⟩ = some (.int .i64 6) := fun o => (World.cell?_alloc_lt _ _ _ hlt).trans f0
  replace hlt := Lib.hid hlt
  clear zz b0 r0
  go_enter Tryd.func16, Tryd.ntmps16
  go_wp2
  go_ret
  exact ⟨rfl, B0.out.trans ((below_alloc W0 _).mono B0.out.size)⟩
set_option maxHeartbeats 4000000 in
set_option maxRecDepth 100000 in
theorem rline_lo1 (a : Option Addr) (cz : Nat) (w : World) : Calls Tryd.prog 16 #[.agg #[.int .i64 4, .string ⟨#[]⟩, .int .i64 0, .int .i64 0, .slice a 0 cz]] w (LnPost [108, 111, 97, 100] w) := by
  have b0 := below_alloc w (.cells #[.int .i64 4, .string ⟨#[]⟩, .int .i64 0, .int .i64 0, .slice a 0 cz] 38)
  have r0 := heap_alloc_new w (.cells #[.int .i64 4, .string ⟨#[]⟩, .int .i64 0, .int .i64 0, .slice a 0 cz] 38)
  obtain ⟨W0, hW0⟩ : ∃ W0, w.alloc (.cells #[.int .i64 4, .string ⟨#[]⟩, .int .i64 0, .int .i64 0, .slice a 0 cz] 38) = W0 := ⟨_, rfl⟩
  rw [hW0] at b0 r0
  have zz := fun i => cell_of_row _ _ i _ _ _ r0
  have f0 := zz 0; have f1 := zz 1; have f2 := zz 2; have f3 := zz 3; have f4 := zz 4
  dsimp at f0 f1 f2 f3 f4
  have B0 := Lib.hid b0
  have hlt := blk_lt r0
  have f0a : ∀ o, (W0.alloc o).cell? ⟨w.heap.size, 0, none⟩ = some (.int .i64 4) := fun o => (World.cell?_alloc_lt _ _ _ hlt).trans f0
  replace hlt := Lib.hid hlt
  clear zz b0 r0
  go_enter Tryd.func16, Tryd.ntmps16
  go_wp2
  go_ret
  exact ⟨rfl, B0.out.trans ((below_alloc W0 _).mono B0.out.size)⟩
set_option maxHeartbeats 4000000 in
set_option maxRecDepth 100000 in
theorem rline_by (t : List UInt8) (a : Option Addr) (cz : Nat) (w : World) (ht : t.length ≤ 300000) : Calls Tryd.prog 16 #[.agg #[.int .i64 0, .string (mkL t), .int .i64 0, .int .i64 0, .slice a 0 cz]] w (LnPost ([98, 121, 116, 101, 115, 32] ++ wdL t) w) := by
  have b0 := below_alloc w (.cells #[.int .i64 0, .string (mkL t), .int .i64 0, .int .i64 0, .slice a 0 cz] 38)
  have r0 := heap_alloc_new w (.cells #[.int .i64 0, .string (mkL t), .int .i64 0, .int .i64 0, .slice a 0 cz] 38)
  obtain ⟨W0, hW0⟩ : ∃ W0, w.alloc (.cells #[.int .i64 0, .string (mkL t), .int .i64 0, .int .i64 0, .slice a 0 cz] 38) = W0 := ⟨_, rfl⟩
  rw [hW0] at b0 r0
  have zz := fun i => cell_of_row _ _ i _ _ _ r0
  have f0 := zz 0; have f1 := zz 1; have f2 := zz 2; have f3 := zz 3; have f4 := zz 4
  dsimp at f0 f1 f2 f3 f4
  have B0 := Lib.hid b0
  have hlt := blk_lt r0
  have f0a : ∀ o, (W0.alloc o).cell? ⟨w.heap.size, 0, none⟩ = some (.int .i64 0) := fun o => (World.cell?_alloc_lt _ _ _ hlt).trans f0
  replace hlt := Lib.hid hlt
  clear zz b0 r0
  have hl := wdL_len t
  have TW := Lib.hid (fun w => rword_ref t w (by omega))
  have S1 := fun w => tsum_l [98, 121, 116, 101, 115, 32] (wdL t) (by simp only [List.length_cons, List.length_nil]; omega) w
  have S1' : ∀ w, (Op.stringOp .add ⟨#[98, 121, 116, 101, 115, 32]⟩ (mkL (wdL t))).run Tryd.prog w = .ok (.string (mkL ([98, 121, 116, 101, 115, 32] ++ wdL t))) w := S1
  obtain ⟨X, hX⟩ : ∃ X, mkL ([98, 121, 116, 101, 115, 32] ++ wdL t) = X := ⟨_, rfl⟩
  have HX := Lib.hid hX
  rw [hX] at S1'
  generalize mkL (wdL t) = y at *
  by_cases h0 : t = []
  · subst h0
    replace f1 : W0.cell? ⟨w.heap.size, 1, none⟩ = some (.string ⟨#[]⟩) := f1
    replace TW : Hid (∀ w, Calls Tryd.prog 54 #[.string ⟨#[]⟩] w fun e w' => e = .returned (.string y) ∧ w = w') := TW
    clear S1 hX hl ht
    go_enter Tryd.func16, Tryd.ntmps16
    go_wp2_with (go_at_call 54; refine (TW.out _).mono ?_; rintro e w3 ⟨rfl, rfl⟩)
    go_ret
    exact ⟨by rw [← HX.out]; rfl, B0.out⟩
  · have hne : t ≠ [] := h0
    have g1 := (mkL_ne hne : ¬ mkL t = mkL [])
    have g2 : (mkL t).toList.isEmpty = false := by rw [mkL_toList]; cases t with
      | nil => exact absurd rfl hne
      | cons a b => rfl
    have g3 : ¬ (mkL t).toList = [] := by rw [mkL_toList]; exact hne
    generalize mkL t = s at *
    clear S1 hX hl ht h0 hne
    go_enter Tryd.func16, Tryd.ntmps16
    go_wp2_with (go_at_call 54; refine (TW.out _).mono ?_; rintro e w3 ⟨rfl, rfl⟩)
    go_ret
    exact ⟨by rw [← HX.out]; rfl, B0.out⟩
set_option maxHeartbeats 4000000 in
set_option maxRecDepth 100000 in
theorem rline_lo2 (t : List UInt8) (a : Option Addr) (cz : Nat) (w : World) (ht : t.length ≤ 300000) : Calls Tryd.prog 16 #[.agg #[.int .i64 4, .string (mkL t), .int .i64 1, .int .i64 0, .slice a 0 cz]] w (LnPost ([108, 111, 97, 100, 32] ++ wdL t) w) := by
  have b0 := below_alloc w (.cells #[.int .i64 4, .string (mkL t), .int .i64 1, .int .i64 0, .slice a 0 cz] 38)
  have r0 := heap_alloc_new w (.cells #[.int .i64 4, .string (mkL t), .int .i64 1, .int .i64 0, .slice a 0 cz] 38)
  obtain ⟨W0, hW0⟩ : ∃ W0, w.alloc (.cells #[.int .i64 4, .string (mkL t), .int .i64 1, .int .i64 0, .slice a 0 cz] 38) = W0 := ⟨_, rfl⟩
  rw [hW0] at b0 r0
  have zz := fun i => cell_of_row _ _ i _ _ _ r0
  have f0 := zz 0; have f1 := zz 1; have f2 := zz 2; have f3 := zz 3; have f4 := zz 4
  dsimp at f0 f1 f2 f3 f4
  have B0 := Lib.hid b0
  have hlt := blk_lt r0
  have f0a : ∀ o, (W0.alloc o).cell? ⟨w.heap.size, 0, none⟩ = some (.int .i64 4) := fun o => (World.cell?_alloc_lt _ _ _ hlt).trans f0
  replace hlt := Lib.hid hlt
  clear zz b0 r0
  have hl := wdL_len t
  have TW := Lib.hid (fun w => rword_ref t w (by omega))
  have S1 := fun w => tsum_l [108, 111, 97, 100, 32] (wdL t) (by simp only [List.length_cons, List.length_nil]; omega) w
  have S1' : ∀ w, (Op.stringOp .add ⟨#[108, 111, 97, 100, 32]⟩ (mkL (wdL t))).run Tryd.prog w = .ok (.string (mkL ([108, 111, 97, 100, 32] ++ wdL t))) w := S1
  obtain ⟨X, hX⟩ : ∃ X, mkL ([108, 111, 97, 100, 32] ++ wdL t) = X := ⟨_, rfl⟩
  have HX := Lib.hid hX
  rw [hX] at S1'
  generalize mkL (wdL t) = y at *
  by_cases h0 : t = []
  · subst h0
    replace f1 : W0.cell? ⟨w.heap.size, 1, none⟩ = some (.string ⟨#[]⟩) := f1
    replace TW : Hid (∀ w, Calls Tryd.prog 54 #[.string ⟨#[]⟩] w fun e w' => e = .returned (.string y) ∧ w = w') := TW
    clear S1 hX hl ht
    go_enter Tryd.func16, Tryd.ntmps16
    go_wp2_with (go_at_call 54; refine (TW.out _).mono ?_; rintro e w3 ⟨rfl, rfl⟩)
    go_ret
    exact ⟨by rw [← HX.out]; rfl, B0.out⟩
  · have hne : t ≠ [] := h0
    have g1 := (mkL_ne hne : ¬ mkL t = mkL [])
    have g2 : (mkL t).toList.isEmpty = false := by rw [mkL_toList]; cases t with
      | nil => exact absurd rfl hne
      | cons a b => rfl
    have g3 : ¬ (mkL t).toList = [] := by rw [mkL_toList]; exact hne
    generalize mkL t = s at *
    clear S1 hX hl ht h0 hne
    go_enter Tryd.func16, Tryd.ntmps16
    go_wp2_with (go_at_call 54; refine (TW.out _).mono ?_; rintro e w3 ⟨rfl, rfl⟩)
    go_ret
    exact ⟨by rw [← HX.out]; rfl, B0.out⟩
set_option maxHeartbeats 4000000 in
set_option maxRecDepth 100000 in
theorem rline_re (n m : Int) (a : Option Addr) (cz : Nat) (w : World) (hn : in64 n) (hm : in64 m) : Calls Tryd.prog 16 #[.agg #[.int .i64 2, .string ⟨#[]⟩, .int .i64 n, .int .i64 m, .slice a 0 cz]] w (LnPost ([114, 101, 115, 105, 122, 101, 32] ++ decS n ++ [32] ++ decS m) w) := by
  have b0 := below_alloc w (.cells #[.int .i64 2, .string ⟨#[]⟩, .int .i64 n, .int .i64 m, .slice a 0 cz] 38)
  have r0 := heap_alloc_new w (.cells #[.int .i64 2, .string ⟨#[]⟩, .int .i64 n, .int .i64 m, .slice a 0 cz] 38)
  obtain ⟨W0, hW0⟩ : ∃ W0, w.alloc (.cells #[.int .i64 2, .string ⟨#[]⟩, .int .i64 n, .int .i64 m, .slice a 0 cz] 38) = W0 := ⟨_, rfl⟩
  rw [hW0] at b0 r0
  have zz := fun i => cell_of_row _ _ i _ _ _ r0
  have f0 := zz 0; have f1 := zz 1; have f2 := zz 2; have f3 := zz 3; have f4 := zz 4
  dsimp at f0 f1 f2 f3 f4
  have B0 := Lib.hid b0
  have hlt := blk_lt r0
  have f0a : ∀ o, (W0.alloc o).cell? ⟨w.heap.size, 0, none⟩ = some (.int .i64 2) := fun o => (World.cell?_alloc_lt _ _ _ hlt).trans f0
  replace hlt := Lib.hid hlt
  clear zz b0 r0
  have l1 := decS_len n
  have l2 := decS_len m
  have D1 := Lib.hid (fun w => rdec_any n w hn)
  have D2 := Lib.hid (fun w => rdec_any m w hm)
  have S1 : ∀ w, (Op.stringOp .add ⟨#[114, 101, 115, 105, 122, 101, 32]⟩ (mkL (decS n))).run Tryd.prog w = .ok (.string (mkL ([114, 101, 115, 105, 122, 101, 32] ++ decS n))) w := fun w => tsum_l [114, 101, 115, 105, 122, 101, 32] (decS n) (by simp only [List.length_cons, List.length_nil]; omega) w
  have S2 : ∀ w, (Op.stringOp .add (mkL ([114, 101, 115, 105, 122, 101, 32] ++ decS n)) ⟨#[32]⟩).run Tryd.prog w = .ok (.string (mkL ([114, 101, 115, 105, 122, 101, 32] ++ decS n ++ [32]))) w := fun w => tsum_l ([114, 101, 115, 105, 122, 101, 32] ++ decS n) [32] (by simp only [List.length_append, List.length_cons, List.length_nil]; omega) w
  have S3 : ∀ w, (Op.stringOp .add (mkL ([114, 101, 115, 105, 122, 101, 32] ++ decS n ++ [32])) (mkL (decS m))).run Tryd.prog w = .ok (.string (mkL ([114, 101, 115, 105, 122, 101, 32] ++ decS n ++ [32] ++ decS m))) w := fun w => tsum_l ([114, 101, 115, 105, 122, 101, 32] ++ decS n ++ [32]) (decS m) (by simp only [List.length_append, List.length_cons, List.length_nil]; omega) w
  obtain ⟨X1, hX1⟩ : ∃ X, mkL ([114, 101, 115, 105, 122, 101, 32] ++ decS n) = X := ⟨_, rfl⟩
  obtain ⟨X2, hX2⟩ : ∃ X, mkL ([114, 101, 115, 105, 122, 101, 32] ++ decS n ++ [32]) = X := ⟨_, rfl⟩
  obtain ⟨X3, hX3⟩ : ∃ X, mkL ([114, 101, 115, 105, 122, 101, 32] ++ decS n ++ [32] ++ decS m) = X := ⟨_, rfl⟩
  have HX := Lib.hid hX3
  rw [hX1] at S1 S2
  rw [hX2] at S2 S3
  rw [hX3] at S3
  clear hX1 hX2 hX3 l1 l2 hn hm
  by_cases h1 : n = 0
  · by_cases h2 : m = 0
    · subst h1
      subst h2
      generalize mkL (decS 0) = d1 at *
      go_enter Tryd.func16, Tryd.ntmps16
      go_upto_region 8 with fail
      all_goals
        go_region_held3 (fun w' => w'.cell? ⟨w.heap.size, 2, none⟩ = some (.int .i64 0) ∧ w'.cell? ⟨w.heap.size, 3, none⟩ = some (.int .i64 0)) (first | exact ⟨f2, f3⟩ | go_keep) (first | (go_at_call 53; (with_reducible refine (D1.out _).mono ?_); rintro e w3 ⟨rfl, rfl⟩) | (go_at_call 53; (with_reducible refine (D2.out _).mono ?_); rintro e w3 ⟨rfl, rfl⟩))
        all_goals
          go_wp2
          go_ret
          exact ⟨by rw [← HX.out]; rfl, B0.out.drew⟩
    · subst h1
      have g2 := beqF h2
      generalize mkL (decS 0) = d1 at *
      generalize mkL (decS m) = d2 at *
      go_enter Tryd.func16, Tryd.ntmps16
      go_upto_region 8 with fail
      all_goals
        go_region_held3 (fun w' => w'.cell? ⟨w.heap.size, 2, none⟩ = some (.int .i64 0) ∧ w'.cell? ⟨w.heap.size, 3, none⟩ = some (.int .i64 m)) (first | exact ⟨f2, f3⟩ | go_keep) (first | (go_at_call 53; (with_reducible refine (D1.out _).mono ?_); rintro e w3 ⟨rfl, rfl⟩) | (go_at_call 53; (with_reducible refine (D2.out _).mono ?_); rintro e w3 ⟨rfl, rfl⟩))
        all_goals
          go_wp2
          go_ret
          exact ⟨by rw [← HX.out]; rfl, B0.out.drew⟩
  · by_cases h2 : m = 0
    · have g1 := beqF h1
      subst h2
      generalize mkL (decS n) = d1 at *
      generalize mkL (decS 0) = d2 at *
      go_enter Tryd.func16, Tryd.ntmps16
      go_upto_region 8 with fail
      all_goals
        go_region_held3 (fun w' => w'.cell? ⟨w.heap.size, 2, none⟩ = some (.int .i64 n) ∧ w'.cell? ⟨w.heap.size, 3, none⟩ = some (.int .i64 0)) (first | exact ⟨f2, f3⟩ | go_keep) (first | (go_at_call 53; (with_reducible refine (D1.out _).mono ?_); rintro e w3 ⟨rfl, rfl⟩) | (go_at_call 53; (with_reducible refine (D2.out _).mono ?_); rintro e w3 ⟨rfl, rfl⟩))
        all_goals
          go_wp2
          go_ret
          exact ⟨by rw [← HX.out]; rfl, B0.out.drew⟩
    · have g1 := beqF h1
      have g2 := beqF h2
      generalize mkL (decS n) = d1 at *
      generalize mkL (decS m) = d2 at *
      go_enter Tryd.func16, Tryd.ntmps16
      go_upto_region 8 with fail
      all_goals
        go_region_held3 (fun w' => w'.cell? ⟨w.heap.size, 2, none⟩ = some (.int .i64 n) ∧ w'.cell? ⟨w.heap.size, 3, none⟩ = some (.int .i64 m)) (first | exact ⟨f2, f3⟩ | go_keep) (first | (go_at_call 53; (with_reducible refine (D1.out _).mono ?_); rintro e w3 ⟨rfl, rfl⟩) | (go_at_call 53; (with_reducible refine (D2.out _).mono ?_); rintro e w3 ⟨rfl, rfl⟩))
        all_goals
          go_wp2
          go_ret
          exact ⟨by rw [← HX.out]; rfl, B0.out.drew⟩
end Go.Proofs.YtnpiooaiceegmaaDoor
set_option linter.unusedVariables false
set_option linter.unusedSimpArgs false
namespace Go.Proofs.YtnpiooaiceegmaaDoor
open Go.RowKit
/-- The line of an offer's first k words. -/
def ofs (L : List (List UInt8)) (k : Nat) : List UInt8 := ofW ++ (L.take k).flatMap fun x => 32 :: wdL x
theorem ofs_succ (L : List (List UInt8)) (k : Nat) (h : k < L.length) : ofs L (k + 1) = (ofs L k ++ [32]) ++ wdL (L.getD k []) := by
  unfold ofs
  have e : L.getD k [] = L[k] := by rw [List.getD, List.getElem?_eq_getElem h]; rfl
  rw [List.take_succ_eq_append_getElem h, List.flatMap_append, e, List.flatMap_singleton, List.append_assoc, List.append_assoc, List.singleton_append]
theorem ofs_len (L : List (List UInt8)) (hE : ∀ x, x ∈ L → x.length ≤ 300000) : ∀ k, k ≤ L.length → (ofs L k).length ≤ 5 + k * 900002
  | 0, _ => by unfold ofs; simp [ofW]
  | k + 1, h => by
    have h1 := ofs_len L hE k (by omega)
    have e : L.getD k [] = L[k] := by rw [List.getD, List.getElem?_eq_getElem h]; rfl
    have h2 := wdL_len (L.getD k [])
    have h3 := hE _ (List.getElem_mem h)
    rw [← e] at h3
    rw [ofs_succ L k h, List.length_append, List.length_append, List.length_singleton]
    omega
set_option maxHeartbeats 4000000 in
set_option maxRecDepth 100000 in
theorem rline_ofA (a : Option Addr) (l c : Nat) (w : World) (L : List (List UInt8)) (hL : L.length = l) (hl : l ≤ 100000) (hE : ∀ x, x ∈ L → x.length ≤ 300000) (hS : StI w a (L.map mkL)) (hg : (0 : Int) < (l : Int)) : Calls Tryd.prog 16 #[.agg #[.int .i64 3, .string ⟨#[]⟩, .int .i64 0, .int .i64 0, .slice a l c]] w (LnPost (ofs L L.length) w) := by
  have b0 := below_alloc w (.cells #[.int .i64 3, .string ⟨#[]⟩, .int .i64 0, .int .i64 0, .slice a l c] 38)
  have r0 := heap_alloc_new w (.cells #[.int .i64 3, .string ⟨#[]⟩, .int .i64 0, .int .i64 0, .slice a l c] 38)
  obtain ⟨W0, hW0⟩ : ∃ W0, w.alloc (.cells #[.int .i64 3, .string ⟨#[]⟩, .int .i64 0, .int .i64 0, .slice a l c] 38) = W0 := ⟨_, rfl⟩
  rw [hW0] at b0 r0
  have zz := fun i => cell_of_row _ _ i _ _ _ r0
  have f0 := zz 0; have f1 := zz 1; have f2 := zz 2; have f3 := zz 3; have f4 := zz 4
  dsimp at f0 f1 f2 f3 f4
  have B0 := Lib.hid b0
  have HL := Lib.hid hL
  have HE := Lib.hid hE
  have HS := Lib.hid hS
  obtain ⟨SP, hSP⟩ : ∃ SP, LnPost (ofs L L.length) w = SP := ⟨_, rfl⟩
  rw [hSP]
  have HSP := Lib.hid hSP
  have hst : mkL (ofs L 0) = ⟨#[111, 102, 102, 101, 114]⟩ := rfl
  have HST := Lib.hid hst
  clear zz b0 r0 hL hE hS hSP hst
  go_enter Tryd.func16, Tryd.ntmps16
  go_upto_region 11 with fail
  go_wp2
  clear hW0
  go_loopw [3, 4] (fun sv iv wr => ∃ k : Nat, k ≤ l ∧ iv = .int .i64 (k : Int) ∧ sv = .string (mkL (ofs L k)) ∧ wr = W0) (fun _ iv _ => l - (intOf iv).toNat)
  case atStart => exact ⟨0, Nat.zero_le _, rfl, by rw [HST.out], rfl⟩
  case round =>
    obtain ⟨k, hk, rfl, rfl, rfl⟩ := hrel
    by_cases hlt : k < l
    · 
      have hk1 : (k : Int) < (l : Int) := by omega
      have hk0 : (0 : Int) ≤ k := by omega
      have hkL : k < L.length := by rw [HL.out]; exact hlt
      obtain ⟨b, off, rfl, hb0, d0⟩ := HS.out k (by rw [List.length_map]; exact hkL)
      have d := (B0.out.cell (p := ⟨b, off + k, none⟩) hb0).trans d0
      have hx : (L.map mkL).getD k ⟨#[]⟩ = mkL (L.getD k []) := by
        rw [List.getD, List.getElem?_map, List.getD, List.getElem?_eq_getElem hkL]; rfl
      rw [hx] at d
      have hxl : (L.getD k []).length ≤ 300000 := by
        rw [List.getD, List.getElem?_eq_getElem hkL]; exact HE.out _ (List.getElem_mem hkL)
      have hol := ofs_len L HE.out k (by omega)
      have hwl := wdL_len (L.getD k [])
      have S1 : ∀ w, (Op.stringOp .add (mkL (ofs L k)) ⟨#[32]⟩).run Tryd.prog w = .ok (.string (mkL (ofs L k ++ [32]))) w := fun w => tsum_l (ofs L k) [32] (by simp only [List.length_cons, List.length_nil]; omega) w
      have S2 : ∀ w, (Op.stringOp .add (mkL (ofs L k ++ [32])) (mkL (wdL (L.getD k [])))).run Tryd.prog w = .ok (.string (mkL (ofs L (k + 1)))) w := fun w => by
        rw [ofs_succ L k hkL]
        exact tsum_l (ofs L k ++ [32]) _ (by rw [List.length_append, List.length_singleton]; omega) w
      have TW := Lib.hid (fun w => rword_ref (L.getD k []) w (by omega))
      obtain ⟨Y, hY⟩ : ∃ Y, mkL (ofs L (k + 1)) = Y := ⟨_, rfl⟩
      have HY := Lib.hid hY
      rw [hY] at S2
      clear hY
      generalize mkL (L.getD k []) = x at *
      generalize mkL (wdL (L.getD k [])) = wx at *
      generalize mkL (ofs L k) = y0 at *
      generalize mkL (ofs L k ++ [32]) = y1 at *
      clear hxl hx d0 hol hwl hkL
      go_wp2_with (go_at_call 54; refine (TW.out _).mono ?_; rintro e w3 ⟨rfl, rfl⟩)
      go_roundw
      case rel => exact ⟨k + 1, by omega, by go_num, by rw [HY.out], by first | trivial | rfl⟩
      case measure => (simp [intOf]; try omega)
    · obtain rfl : k = l := by omega
      have hnn : ¬ (k : Int) < (k : Int) := by omega
      have e : mkL (ofs L k) = mkL (ofs L L.length) := by rw [HL.out]
      rw [e]
      clear e
      generalize hz : mkL (ofs L L.length) = z at *
      have HZ := Lib.hid hz
      clear hz
      go_wp2
      rw [← HSP.out]
      exact ⟨by rw [HZ.out], B0.out⟩
set_option maxHeartbeats 4000000 in
set_option maxRecDepth 100000 in
theorem rline_ofB (a : Option Addr) (l c : Nat) (w : World) (L : List (List UInt8)) (hL : L.length = l) (hl : l ≤ 100000) (hE : ∀ x, x ∈ L → x.length ≤ 300000) (hS : StI w a (L.map mkL)) (hg : ¬ (0 : Int) < (l : Int)) : Calls Tryd.prog 16 #[.agg #[.int .i64 3, .string ⟨#[]⟩, .int .i64 0, .int .i64 0, .slice a l c]] w (LnPost (ofs L L.length) w) := by
  have b0 := below_alloc w (.cells #[.int .i64 3, .string ⟨#[]⟩, .int .i64 0, .int .i64 0, .slice a l c] 38)
  have r0 := heap_alloc_new w (.cells #[.int .i64 3, .string ⟨#[]⟩, .int .i64 0, .int .i64 0, .slice a l c] 38)
  obtain ⟨W0, hW0⟩ : ∃ W0, w.alloc (.cells #[.int .i64 3, .string ⟨#[]⟩, .int .i64 0, .int .i64 0, .slice a l c] 38) = W0 := ⟨_, rfl⟩
  rw [hW0] at b0 r0
  have zz := fun i => cell_of_row _ _ i _ _ _ r0
  have f0 := zz 0; have f1 := zz 1; have f2 := zz 2; have f3 := zz 3; have f4 := zz 4
  dsimp at f0 f1 f2 f3 f4
  have B0 := Lib.hid b0
  have HL := Lib.hid hL
  have HE := Lib.hid hE
  have HS := Lib.hid hS
  obtain ⟨SP, hSP⟩ : ∃ SP, LnPost (ofs L L.length) w = SP := ⟨_, rfl⟩
  rw [hSP]
  have HSP := Lib.hid hSP
  have hst : mkL (ofs L 0) = ⟨#[111, 102, 102, 101, 114]⟩ := rfl
  have HST := Lib.hid hst
  clear zz b0 r0 hL hE hS hSP hst
  go_enter Tryd.func16, Tryd.ntmps16
  go_upto_region 11 with fail
  go_wp2
  clear hW0
  go_loopw [3, 4] (fun sv iv wr => ∃ k : Nat, k ≤ l ∧ iv = .int .i64 (k : Int) ∧ sv = .string (mkL (ofs L k)) ∧ wr = W0) (fun _ iv _ => l - (intOf iv).toNat)
  case atStart => exact ⟨0, Nat.zero_le _, rfl, by rw [HST.out], rfl⟩
  case round =>
    obtain ⟨k, hk, rfl, rfl, rfl⟩ := hrel
    by_cases hlt : k < l
    · exact absurd hlt (by omega)
    · obtain rfl : k = l := by omega
      have hnn : ¬ (k : Int) < (k : Int) := by omega
      have e : mkL (ofs L k) = mkL (ofs L L.length) := by rw [HL.out]
      rw [e]
      clear e
      generalize hz : mkL (ofs L L.length) = z at *
      have HZ := Lib.hid hz
      clear hz
      go_wp2
      rw [← HSP.out]
      exact ⟨by rw [HZ.out], B0.out⟩
theorem rline_of (a : Option Addr) (l c : Nat) (w : World) (L : List (List UInt8)) (hL : L.length = l) (hl : l ≤ 100000) (hE : ∀ x, x ∈ L → x.length ≤ 300000) (hS : StI w a (L.map mkL)) : Calls Tryd.prog 16 #[.agg #[.int .i64 3, .string ⟨#[]⟩, .int .i64 0, .int .i64 0, .slice a l c]] w (LnPost (ofs L L.length) w) := by
  by_cases hg : (0 : Int) < (l : Int)
  · exact rline_ofA a l c w L hL hl hE hS hg
  · exact rline_ofB a l c w L hL hl hE hS hg
end Go.Proofs.YtnpiooaiceegmaaDoor
set_option linter.unusedVariables false
set_option linter.unusedSimpArgs false
namespace Go.Proofs.YtnpiooaiceegmaaDoor
open Go.RowKit
/-- The head's text of the first numbers. -/
def hdL (N : List Int) (k : Nat) : List UInt8 := [99, 111, 110, 102] ++ (N.take k).flatMap fun x => 32 :: decS x
def hdT (N : List Int) (vi : Bool) (p : List UInt8) : List UInt8 := hdL N 8 ++ (if vi = true then [32, 118, 105, 32] else [32, 101, 109, 97, 99, 115, 32]) ++ wdL p
theorem hdT_eq (a0 a1 a2 a3 a4 a5 a6 a7 : Int) : ((((((((((((((([99, 111, 110, 102, 32] ++ decS a0) ++ [32]) ++ decS a1) ++ [32]) ++ decS a2) ++ [32]) ++ decS a3) ++ [32]) ++ decS a4) ++ [32]) ++ decS a5) ++ [32]) ++ decS a6) ++ [32]) ++ decS a7) = hdL [a0, a1, a2, a3, a4, a5, a6, a7] 8 := by unfold hdL; simp [List.flatMap_cons, List.append_assoc]
set_option maxHeartbeats 4000000 in
set_option maxRecDepth 100000 in
theorem rhead_core (a0 a1 a2 a3 a4 a5 a6 a7 : Int) (vi : Bool) (w : World) (P d0 t0 d1 t1 d2 t2 d3 t3 d4 t4 d5 t5 d6 t6 d7 t7 u0 u1 u2 u3 u4 u5 u6 x8 x9 wp Y1 Y2 : ByteArray)
    (D0 : Hid (∀ w, Calls Tryd.prog 53 #[.int .i64 a0] w fun e w' => e = .returned (.string d0) ∧ w = w'))
    (D1 : Hid (∀ w, Calls Tryd.prog 53 #[.int .i64 a1] w fun e w' => e = .returned (.string d1) ∧ w = w'))
    (D2 : Hid (∀ w, Calls Tryd.prog 53 #[.int .i64 a2] w fun e w' => e = .returned (.string d2) ∧ w = w'))
    (D3 : Hid (∀ w, Calls Tryd.prog 53 #[.int .i64 a3] w fun e w' => e = .returned (.string d3) ∧ w = w'))
    (D4 : Hid (∀ w, Calls Tryd.prog 53 #[.int .i64 a4] w fun e w' => e = .returned (.string d4) ∧ w = w'))
    (D5 : Hid (∀ w, Calls Tryd.prog 53 #[.int .i64 a5] w fun e w' => e = .returned (.string d5) ∧ w = w'))
    (D6 : Hid (∀ w, Calls Tryd.prog 53 #[.int .i64 a6] w fun e w' => e = .returned (.string d6) ∧ w = w'))
    (D7 : Hid (∀ w, Calls Tryd.prog 53 #[.int .i64 a7] w fun e w' => e = .returned (.string d7) ∧ w = w'))
    (TW : Hid (∀ w, Calls Tryd.prog 54 #[.string P] w fun e w' => e = .returned (.string wp) ∧ w = w'))
    (S0 : ∀ w, (Op.stringOp .add ⟨#[99, 111, 110, 102, 32]⟩ d0).run Tryd.prog w = .ok (.string t0) w)
    (R0 : ∀ w, (Op.stringOp .add t0 ⟨#[32]⟩).run Tryd.prog w = .ok (.string u0) w)
    (S1 : ∀ w, (Op.stringOp .add u0 d1).run Tryd.prog w = .ok (.string t1) w)
    (R1 : ∀ w, (Op.stringOp .add t1 ⟨#[32]⟩).run Tryd.prog w = .ok (.string u1) w)
    (S2 : ∀ w, (Op.stringOp .add u1 d2).run Tryd.prog w = .ok (.string t2) w)
    (R2 : ∀ w, (Op.stringOp .add t2 ⟨#[32]⟩).run Tryd.prog w = .ok (.string u2) w)
    (S3 : ∀ w, (Op.stringOp .add u2 d3).run Tryd.prog w = .ok (.string t3) w)
    (R3 : ∀ w, (Op.stringOp .add t3 ⟨#[32]⟩).run Tryd.prog w = .ok (.string u3) w)
    (S4 : ∀ w, (Op.stringOp .add u3 d4).run Tryd.prog w = .ok (.string t4) w)
    (R4 : ∀ w, (Op.stringOp .add t4 ⟨#[32]⟩).run Tryd.prog w = .ok (.string u4) w)
    (S5 : ∀ w, (Op.stringOp .add u4 d5).run Tryd.prog w = .ok (.string t5) w)
    (R5 : ∀ w, (Op.stringOp .add t5 ⟨#[32]⟩).run Tryd.prog w = .ok (.string u5) w)
    (S6 : ∀ w, (Op.stringOp .add u5 d6).run Tryd.prog w = .ok (.string t6) w)
    (R6 : ∀ w, (Op.stringOp .add t6 ⟨#[32]⟩).run Tryd.prog w = .ok (.string u6) w)
    (S7 : ∀ w, (Op.stringOp .add u6 d7).run Tryd.prog w = .ok (.string t7) w)
    (V1 : ∀ w, (Op.stringOp .add t7 ⟨#[32, 118, 105, 32]⟩).run Tryd.prog w = .ok (.string x8) w) (V2 : ∀ w, (Op.stringOp .add x8 wp).run Tryd.prog w = .ok (.string Y1) w) (E1 : ∀ w, (Op.stringOp .add t7 ⟨#[32, 101, 109, 97, 99, 115, 32]⟩).run Tryd.prog w = .ok (.string x9) w) (E2 : ∀ w, (Op.stringOp .add x9 wp).run Tryd.prog w = .ok (.string Y2) w) : Calls Tryd.prog 52 #[.agg #[.int .i64 a0, .int .i64 a1, .int .i64 a2, .int .i64 a3, .int .i64 a4, .int .i64 a5, .int .i64 a6, .int .i64 a7, .bool vi, .string P]] w fun e w' => e = .returned (.string (if vi = true then Y1 else Y2)) ∧ Below w.heap.size w w' := by
  have b0 := below_alloc w (.cells #[.int .i64 a0, .int .i64 a1, .int .i64 a2, .int .i64 a3, .int .i64 a4, .int .i64 a5, .int .i64 a6, .int .i64 a7, .bool vi, .string P] 23)
  have r0 := heap_alloc_new w (.cells #[.int .i64 a0, .int .i64 a1, .int .i64 a2, .int .i64 a3, .int .i64 a4, .int .i64 a5, .int .i64 a6, .int .i64 a7, .bool vi, .string P] 23)
  obtain ⟨W0, hW0⟩ : ∃ W0, w.alloc (.cells #[.int .i64 a0, .int .i64 a1, .int .i64 a2, .int .i64 a3, .int .i64 a4, .int .i64 a5, .int .i64 a6, .int .i64 a7, .bool vi, .string P] 23) = W0 := ⟨_, rfl⟩
  rw [hW0] at b0 r0
  have zz := fun i => cell_of_row _ _ i _ _ _ r0
  have f0 := zz 0; have f1 := zz 1; have f2 := zz 2; have f3 := zz 3; have f4 := zz 4; have f5 := zz 5; have f6 := zz 6; have f7 := zz 7; have f8 := zz 8; have f9 := zz 9
  dsimp at f0 f1 f2 f3 f4 f5 f6 f7 f8 f9
  have B0 := Lib.hid b0
  clear zz b0 r0
  go_enter Tryd.func52, Tryd.ntmps52
  go_upto_region 1 with fail
  go_quiet ((go_at_call 53; first | ((with_reducible refine qsyU (D0.out _) ?_); exact ⟨_, rfl⟩) | ((with_reducible refine qsyU (D1.out _) ?_); exact ⟨_, rfl⟩) | ((with_reducible refine qsyU (D2.out _) ?_); exact ⟨_, rfl⟩) | ((with_reducible refine qsyU (D3.out _) ?_); exact ⟨_, rfl⟩) | ((with_reducible refine qsyU (D4.out _) ?_); exact ⟨_, rfl⟩) | ((with_reducible refine qsyU (D5.out _) ?_); exact ⟨_, rfl⟩) | ((with_reducible refine qsyU (D6.out _) ?_); exact ⟨_, rfl⟩) | ((with_reducible refine qsyU (D7.out _) ?_); exact ⟨_, rfl⟩)))
  cases vi
  · go_wp2_with (go_at_call 54; refine (TW.out _).mono ?_; rintro e w3 ⟨rfl, rfl⟩)
    go_ret
    exact ⟨rfl, drewN_below B0.out _⟩
  · go_wp2_with (go_at_call 54; refine (TW.out _).mono ?_; rintro e w3 ⟨rfl, rfl⟩)
    go_ret
    exact ⟨rfl, drewN_below B0.out _⟩
theorem rhead_any (a0 a1 a2 a3 a4 a5 a6 a7 : Int) (vi : Bool) (p : List UInt8) (w : World) (h0 : in64 a0) (h1 : in64 a1) (h2 : in64 a2) (h3 : in64 a3) (h4 : in64 a4) (h5 : in64 a5) (h6 : in64 a6) (h7 : in64 a7) (hp : p.length ≤ 300000) : Calls Tryd.prog 52 #[.agg #[.int .i64 a0, .int .i64 a1, .int .i64 a2, .int .i64 a3, .int .i64 a4, .int .i64 a5, .int .i64 a6, .int .i64 a7, .bool vi, .string (mkL p)]] w (LnPost (hdT [a0, a1, a2, a3, a4, a5, a6, a7] vi p) w) := by
  have l0 := decS_len a0
  have l1 := decS_len a1
  have l2 := decS_len a2
  have l3 := decS_len a3
  have l4 := decS_len a4
  have l5 := decS_len a5
  have l6 := decS_len a6
  have l7 := decS_len a7
  have hl := wdL_len p
  have h := rhead_core a0 a1 a2 a3 a4 a5 a6 a7 vi w (mkL p) _ _ _ _ _ _ _ _ _ _ _ _ _ _ _ _ _ _ _ _ _ _ _ _ _ _ (mkL (((((((((((((((([99, 111, 110, 102, 32] ++ decS a0) ++ [32]) ++ decS a1) ++ [32]) ++ decS a2) ++ [32]) ++ decS a3) ++ [32]) ++ decS a4) ++ [32]) ++ decS a5) ++ [32]) ++ decS a6) ++ [32]) ++ decS a7) ++ [32, 118, 105, 32] ++ wdL p)) (mkL (((((((((((((((([99, 111, 110, 102, 32] ++ decS a0) ++ [32]) ++ decS a1) ++ [32]) ++ decS a2) ++ [32]) ++ decS a3) ++ [32]) ++ decS a4) ++ [32]) ++ decS a5) ++ [32]) ++ decS a6) ++ [32]) ++ decS a7) ++ [32, 101, 109, 97, 99, 115, 32] ++ wdL p)) (Lib.hid (fun w => rdec_any a0 w h0)) (Lib.hid (fun w => rdec_any a1 w h1)) (Lib.hid (fun w => rdec_any a2 w h2)) (Lib.hid (fun w => rdec_any a3 w h3)) (Lib.hid (fun w => rdec_any a4 w h4)) (Lib.hid (fun w => rdec_any a5 w h5)) (Lib.hid (fun w => rdec_any a6 w h6)) (Lib.hid (fun w => rdec_any a7 w h7)) (Lib.hid (fun w => rword_ref p w (by omega))) (fun w => tsum_l [99, 111, 110, 102, 32] (decS a0) (by simp only [List.length_append, List.length_cons, List.length_nil]; omega) w) (fun w => tsum_l ([99, 111, 110, 102, 32] ++ decS a0) [32] (by simp only [List.length_append, List.length_cons, List.length_nil]; omega) w) (fun w => tsum_l (([99, 111, 110, 102, 32] ++ decS a0) ++ [32]) (decS a1) (by simp only [List.length_append, List.length_cons, List.length_nil]; omega) w) (fun w => tsum_l ((([99, 111, 110, 102, 32] ++ decS a0) ++ [32]) ++ decS a1) [32] (by simp only [List.length_append, List.length_cons, List.length_nil]; omega) w) (fun w => tsum_l (((([99, 111, 110, 102, 32] ++ decS a0) ++ [32]) ++ decS a1) ++ [32]) (decS a2) (by simp only [List.length_append, List.length_cons, List.length_nil]; omega) w) (fun w => tsum_l ((((([99, 111, 110, 102, 32] ++ decS a0) ++ [32]) ++ decS a1) ++ [32]) ++ decS a2) [32] (by simp only [List.length_append, List.length_cons, List.length_nil]; omega) w) (fun w => tsum_l (((((([99, 111, 110, 102, 32] ++ decS a0) ++ [32]) ++ decS a1) ++ [32]) ++ decS a2) ++ [32]) (decS a3) (by simp only [List.length_append, List.length_cons, List.length_nil]; omega) w) (fun w => tsum_l ((((((([99, 111, 110, 102, 32] ++ decS a0) ++ [32]) ++ decS a1) ++ [32]) ++ decS a2) ++ [32]) ++ decS a3) [32] (by simp only [List.length_append, List.length_cons, List.length_nil]; omega) w) (fun w => tsum_l (((((((([99, 111, 110, 102, 32] ++ decS a0) ++ [32]) ++ decS a1) ++ [32]) ++ decS a2) ++ [32]) ++ decS a3) ++ [32]) (decS a4) (by simp only [List.length_append, List.length_cons, List.length_nil]; omega) w) (fun w => tsum_l ((((((((([99, 111, 110, 102, 32] ++ decS a0) ++ [32]) ++ decS a1) ++ [32]) ++ decS a2) ++ [32]) ++ decS a3) ++ [32]) ++ decS a4) [32] (by simp only [List.length_append, List.length_cons, List.length_nil]; omega) w) (fun w => tsum_l (((((((((([99, 111, 110, 102, 32] ++ decS a0) ++ [32]) ++ decS a1) ++ [32]) ++ decS a2) ++ [32]) ++ decS a3) ++ [32]) ++ decS a4) ++ [32]) (decS a5) (by simp only [List.length_append, List.length_cons, List.length_nil]; omega) w) (fun w => tsum_l ((((((((((([99, 111, 110, 102, 32] ++ decS a0) ++ [32]) ++ decS a1) ++ [32]) ++ decS a2) ++ [32]) ++ decS a3) ++ [32]) ++ decS a4) ++ [32]) ++ decS a5) [32] (by simp only [List.length_append, List.length_cons, List.length_nil]; omega) w) (fun w => tsum_l (((((((((((([99, 111, 110, 102, 32] ++ decS a0) ++ [32]) ++ decS a1) ++ [32]) ++ decS a2) ++ [32]) ++ decS a3) ++ [32]) ++ decS a4) ++ [32]) ++ decS a5) ++ [32]) (decS a6) (by simp only [List.length_append, List.length_cons, List.length_nil]; omega) w) (fun w => tsum_l ((((((((((((([99, 111, 110, 102, 32] ++ decS a0) ++ [32]) ++ decS a1) ++ [32]) ++ decS a2) ++ [32]) ++ decS a3) ++ [32]) ++ decS a4) ++ [32]) ++ decS a5) ++ [32]) ++ decS a6) [32] (by simp only [List.length_append, List.length_cons, List.length_nil]; omega) w) (fun w => tsum_l (((((((((((((([99, 111, 110, 102, 32] ++ decS a0) ++ [32]) ++ decS a1) ++ [32]) ++ decS a2) ++ [32]) ++ decS a3) ++ [32]) ++ decS a4) ++ [32]) ++ decS a5) ++ [32]) ++ decS a6) ++ [32]) (decS a7) (by simp only [List.length_append, List.length_cons, List.length_nil]; omega) w) (fun w => tsum_l ((((((((((((((([99, 111, 110, 102, 32] ++ decS a0) ++ [32]) ++ decS a1) ++ [32]) ++ decS a2) ++ [32]) ++ decS a3) ++ [32]) ++ decS a4) ++ [32]) ++ decS a5) ++ [32]) ++ decS a6) ++ [32]) ++ decS a7) [32, 118, 105, 32] (by simp only [List.length_append, List.length_cons, List.length_nil]; omega) w) (fun w => tsum_l (((((((((((((((([99, 111, 110, 102, 32] ++ decS a0) ++ [32]) ++ decS a1) ++ [32]) ++ decS a2) ++ [32]) ++ decS a3) ++ [32]) ++ decS a4) ++ [32]) ++ decS a5) ++ [32]) ++ decS a6) ++ [32]) ++ decS a7) ++ [32, 118, 105, 32]) (wdL p) (by simp only [List.length_append, List.length_cons, List.length_nil]; omega) w) (fun w => tsum_l ((((((((((((((([99, 111, 110, 102, 32] ++ decS a0) ++ [32]) ++ decS a1) ++ [32]) ++ decS a2) ++ [32]) ++ decS a3) ++ [32]) ++ decS a4) ++ [32]) ++ decS a5) ++ [32]) ++ decS a6) ++ [32]) ++ decS a7) [32, 101, 109, 97, 99, 115, 32] (by simp only [List.length_append, List.length_cons, List.length_nil]; omega) w) (fun w => tsum_l (((((((((((((((([99, 111, 110, 102, 32] ++ decS a0) ++ [32]) ++ decS a1) ++ [32]) ++ decS a2) ++ [32]) ++ decS a3) ++ [32]) ++ decS a4) ++ [32]) ++ decS a5) ++ [32]) ++ decS a6) ++ [32]) ++ decS a7) ++ [32, 101, 109, 97, 99, 115, 32]) (wdL p) (by simp only [List.length_append, List.length_cons, List.length_nil]; omega) w)
  refine h.mono ?_
  rintro e w3 ⟨rfl, hb⟩
  refine ⟨?_, hb⟩
  rw [hdT_eq]
  cases vi <;> rfl
end Go.Proofs.YtnpiooaiceegmaaDoor
set_option linter.unusedVariables false
set_option linter.unusedSimpArgs false
namespace Go.Proofs.YtnpiooaiceegmaaDoor
open Go.RowKit
theorem hdT_cfT (a0 a1 a2 a3 a4 a5 a6 a7 : Int) (vi : Bool) (p : List UInt8) : hdT [a0, a1, a2, a3, a4, a5, a6, a7] vi p = cfT ([a0, a1, a2, a3, a4, a5, a6, a7], vi, p) := by
  unfold hdT hdL cfT cfLine cfL tjS cfK cfW
  cases vi <;> simp [List.flatMap_cons, List.append_assoc]
theorem ofs_tj (L : List (List UInt8)) : ofs L L.length = tjS (ofW :: L.map wdL) := by
  unfold ofs
  rw [List.take_length]
  show ofW ++ _ = ofW ++ _
  rw [List.flatMap_map]
theorem rline_any (x : Stp) (a : Option Addr) (c : Nat) (w : World) (hb : tsB x) (hx : x = plS x) (hS : StI w a (x.2.2.2.2.map mkL)) (l : List UInt8) (hl : stLn x = some l) :
    Calls Tryd.prog 16 #[tsV x a c] w (LnPost l w) := by
  obtain ⟨k, t, n, m, L⟩ := x
  obtain ⟨b1, b2, b3, b4, b5, b6⟩ := hb
  obtain ⟨W, hW, hWl⟩ : ∃ W, stW (k, t, n, m, L) = some W ∧ some (tjS W) = some l := by
    unfold stLn at hl
    split at hl
    · exact absurd hl (by simp)
    · rename_i W hW
      rw [if_pos hx] at hl
      exact ⟨W, hW, hl⟩
  clear hl
  unfold stW swW at hW
  unfold plS at hx
  unfold tsV
  dsimp only at *
  by_cases k0 : k = 0
  · subst k0
    simp only [if_true, Prod.mk.injEq, true_and, and_true] at hx
    obtain ⟨rfl, rfl, rfl⟩ := hx
    obtain rfl := Option.some.inj hW
    obtain rfl := Option.some.inj hWl
    have e : tjS [byW, wdL t] = [98, 121, 116, 101, 115, 32] ++ wdL t := by unfold tjS byW; simp
    rw [e]
    exact rline_by t a c w b1
  rw [if_neg k0] at hW hx
  by_cases k2 : k = 2
  · subst k2
    simp only [if_true, Prod.mk.injEq, true_and, and_true] at hx
    obtain ⟨rfl, rfl⟩ := hx
    obtain rfl := Option.some.inj hW
    obtain rfl := Option.some.inj hWl
    have e : tjS [reW, decS n, decS m] = [114, 101, 115, 105, 122, 101, 32] ++ decS n ++ [32] ++ decS m := by unfold tjS reW; simp
    rw [e]
    exact rline_re n m a c w b5 b6
  rw [if_neg k2] at hx
  by_cases k3 : k = 3
  · subst k3
    simp only [if_true, Prod.mk.injEq, true_and, and_true] at hx
    obtain ⟨rfl, rfl, rfl⟩ := hx
    obtain rfl := Option.some.inj hW
    obtain rfl := Option.some.inj hWl
    rw [← ofs_tj]
    exact rline_of a L.length c w L rfl b2 b3 hS
  rw [if_neg k3] at hx
  by_cases k4 : k = 4
  · subst k4
    by_cases n1 : n = 1
    · subst n1
      simp only [and_self, if_true, Prod.mk.injEq, true_and, and_true] at hx
      obtain ⟨rfl, rfl⟩ := hx
      obtain rfl := Option.some.inj hW
      obtain rfl := Option.some.inj hWl
      have e : tjS [loW, wdL t] = [108, 111, 97, 100, 32] ++ wdL t := by unfold tjS loW; simp
      rw [e]
      exact rline_lo2 t a c w b1
    · rw [if_neg (by rintro ⟨_, h⟩; exact n1 h)] at hx
      simp only [Prod.mk.injEq, true_and, and_true] at hx
      obtain ⟨rfl, rfl, rfl, rfl⟩ := hx
      obtain rfl := Option.some.inj hW
      obtain rfl := Option.some.inj hWl
      exact rline_lo1 a c w
  rw [if_neg (by rintro ⟨h, _⟩; exact k4 h)] at hx
  simp only [Prod.mk.injEq, true_and, and_true] at hx
  obtain ⟨rfl, rfl, rfl, rfl⟩ := hx
  by_cases k1 : k = 1
  · subst k1
    obtain rfl := Option.some.inj hW
    obtain rfl := Option.some.inj hWl
    exact rline_ti a c w
  rw [if_neg k1, if_neg k2, if_neg k3, if_neg k4] at hW
  by_cases k5 : k = 5
  · subst k5
    obtain rfl := Option.some.inj hW
    obtain rfl := Option.some.inj hWl
    exact rline_sa a c w
  rw [if_neg k5] at hW
  by_cases k6 : k = 6
  · subst k6
    obtain rfl := Option.some.inj hW
    obtain rfl := Option.some.inj hWl
    exact rline_po a c w
  rw [if_neg k6] at hW
  exact absurd hW (by simp)
end Go.Proofs.YtnpiooaiceegmaaDoor
set_option linter.unusedVariables false
set_option linter.unusedSimpArgs false
namespace Go.Proofs.YtnpiooaiceegmaaDoor
open Go.RowKit
theorem laC_0 (f : Cf) (C : List Crs) : laC f C 0 = cfT f ++ [10] := by unfold laC enT; simp
theorem crLn_txt (c : Crs) (l : List UInt8) : l ++ (crLn c ++ [10]) = l ++ [99, 114, 97, 115, 104, 32] ++ decS c.1 ++ [32] ++ wdL c.2 ++ [10] := by
  unfold crLn crLine tjS crW; simp
/-- What bounds a script of a text of 1500 bytes. -/
def scB4 (C : List Crs) (S : List Stp) : Prop := C.length ≤ 200 ∧ S.length ≤ 400 ∧ (∀ c ∈ C, in64 c.1 ∧ c.2.length ≤ 300000) ∧ ∀ x ∈ S, tsB x
theorem laS_len4 {f : Cf} {C : List Crs} {S : List Stp} (h1 : f.1.length = 8) (h2 : f.2.2.length ≤ 300000) (hB : scB4 C S) (k : Nat) : (laS f C S k).length ≤ 100000000000000 := by
  obtain ⟨hc, hs, hC, hS⟩ := hB
  unfold laS
  have hq : ∀ q ∈ cfT f :: (C.map crLn ++ (S.take k).map stLs), q.length ≤ 100001 * 1000001 := by
    intro q hq
    rcases List.mem_cons.1 hq with rfl | hq
    · exact Nat.le_trans (cfT_len h1 h2) (by omega)
    · rcases List.mem_append.1 hq with hq | hq
      · obtain ⟨c, hc, rfl⟩ := List.mem_map.1 hq
        have := crLn_len (hC c hc).2
        omega
      · obtain ⟨x, hx, rfl⟩ := List.mem_map.1 hq
        exact stLs_len (hS x (List.mem_of_mem_take hx))
  have := enT_len hq
  have hn : (cfT f :: (C.map crLn ++ (S.take k).map stLs)).length ≤ 601 := by
    rw [List.length_cons, List.length_append, List.length_map, List.length_map, List.length_take]; omega
  refine Nat.le_trans this (Nat.le_trans (Nat.mul_le_mul_right _ hn) ?_)
  omega
theorem stLn_ne {x : Stp} {l : List UInt8} (h : stLn x = some l) : l ≠ [] := by
  unfold stLn at h
  split at h
  · exact absurd h (by simp)
  · rename_i W hW
    split at h
    · obtain rfl := Option.some.inj h
      unfold stW swW at hW
      (repeat' split at hW) <;> first
        | (obtain rfl := Option.some.inj hW; simp [tjS, byW, tiW, reW, ofW, loW, saW, poW])
        | cases hW
    · exact absurd h (by simp)
end Go.Proofs.YtnpiooaiceegmaaDoor
