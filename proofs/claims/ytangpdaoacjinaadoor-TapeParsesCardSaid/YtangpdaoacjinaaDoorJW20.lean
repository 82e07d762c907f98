/-
  Joined: Tp40 Tp41 Tp42 Tp43 Tp44 Tp45 Tp46 Tp47.
-/
import Derived.Test.YtangpdaoacjinaaDoorJW13
import Derived.Test.YtangpdaoacjinaaDoorJW14
import Derived.Test.YtangpdaoacjinaaDoorJW15
import Derived.Test.YtangpdaoacjinaaDoorJW16
import Derived.Test.YtangpdaoacjinaaDoorJW18
import Derived.Test.YtangpdaoacjinaaDoorJW19
import Derived.BigQuiet
import Derived.Deep.RegionHeld3
set_option linter.unusedVariables false
set_option linter.unusedSimpArgs false
set_option maxRecDepth 100000
set_option linter.unusedVariables false
set_option linter.unusedSimpArgs false
namespace Go.Proofs.YtangpdaoacjinaaDoor
open Go.RowKit
/-- A sum of texts. -/
theorem tsum_run (a b : ByteArray) (h : a.size + b.size ≤ 140737488355328) (w : World) : (Op.stringOp .add a b).run Tryd.prog w = .ok (.string (a ++ b)) w := run_string_add_sum w a b (by omega)
theorem tsum_l (a b : List UInt8) (h : a.length + b.length ≤ 140737488355328) (w : World) : (Op.stringOp .add (mkL a) (mkL b)).run Tryd.prog w = .ok (.string (mkL (a ++ b))) w := by
  rw [tsum_run _ _ (by rw [mkL_size, mkL_size]; exact h), mkL_cat]
theorem qsyT {P : Program} {f : FuncId} {args : Array Value} {w : World} {n : Nat} {v : Value} (h : Calls P f args (w.drewN n) fun e w' => e = .returned v ∧ w.drewN n = w') : Calls P f args (w.drewN n) fun e w' => e = .returned v ∧ ∃ m, w' = w.drewN m := h.mono fun e w' h => ⟨h.1, n, h.2.symm⟩
theorem qsyU {P : Program} {f : FuncId} {args : Array Value} {w0 : World} {v : Value} {g : Nat → World} (h : Calls P f args w0 fun e w' => e = .returned v ∧ w0 = w') (hg : ∃ m, w0 = g m) : Calls P f args w0 fun e w' => e = .returned v ∧ ∃ m, w' = g m := h.mono fun e w' h => ⟨h.1, by obtain ⟨m, hm⟩ := hg; exact ⟨m, h.2.symm.trans hm⟩⟩
theorem rdec_any (n : Int) (w : World) (h : in64 n) : Calls Tryd.prog 64 #[.int .i64 n] w fun e w' => e = .returned (.string (mkL (decS n))) ∧ w = w' := dec_ref n.natAbs n w (Nat.le_refl _) h.1 h.2
def LnPost (x : List UInt8) (w : World) (e : Ending) (w' : World) : Prop := e = .returned (.string (mkL x)) ∧ Below w.heap.size w w'
set_option maxHeartbeats 4000000 in
set_option maxRecDepth 100000 in
theorem rline_ti (a : Option Addr) (cz : Nat) (w : World) : Calls Tryd.prog 22 #[.agg #[.int .i64 1, .string ⟨#[]⟩, .int .i64 0, .int .i64 0, .slice a 0 cz]] w (LnPost [116, 105, 99, 107] w) := by
  have b0 := below_alloc w (.cells #[.int .i64 1, .string ⟨#[]⟩, .int .i64 0, .int .i64 0, .slice a 0 cz] 41)
  have r0 := heap_alloc_new w (.cells #[.int .i64 1, .string ⟨#[]⟩, .int .i64 0, .int .i64 0, .slice a 0 cz] 41)
  obtain ⟨W0, hW0⟩ : ∃ W0, w.alloc (.cells #[.int .i64 1, .string ⟨#[]⟩, .int .i64 0, .int .i64 0, .slice a 0 cz] 41) = W0 := ⟨_, rfl⟩
  rw [hW0] at b0 r0
  have zz := fun i => cell_of_row _ _ i _ _ _ r0
  have f0 := zz 0; have f1 := zz 1; have f2 := zz 2; have f3 := zz 3; have f4 := zz 4
  dsimp at f0 f1 f2 f3 f4
  have B0 := Lib.hid b0
  have hlt := blk_lt r0
  have f0a : ∀ o, (W0.alloc o).cell? ⟨w.heap.size, 0, none⟩ = some (.int .i64 1) := fun o => (World.cell?_alloc_lt _ _ _ hlt).trans f0
  replace hlt := Lib.hid hlt
  clear zz b0 r0
  go_enter Tryd.func22, Tryd.ntmps22
  go_wp2
  go_ret
  exact ⟨rfl, B0.out.trans ((below_alloc W0 _).mono B0.out.size)⟩
set_option maxHeartbeats 4000000 in
set_option maxRecDepth 100000 in
theorem rline_sa (a : Option Addr) (cz : Nat) (w : World) : Calls Tryd.prog 22 #[.agg #[.int .i64 5, .string ⟨#[]⟩, .int .i64 0, .int .i64 0, .slice a 0 cz]] w (LnPost [115, 97, 118, 101] w) := by
  have b0 := below_alloc w (.cells #[.int .i64 5, .string ⟨#[]⟩, .int .i64 0, .int .i64 0, .slice a 0 cz] 41)
  have r0 := heap_alloc_new w (.cells #[.int .i64 5, .string ⟨#[]⟩, .int .i64 0, .int .i64 0, .slice a 0 cz] 41)
  obtain ⟨W0, hW0⟩ : ∃ W0, w.alloc (.cells #[.int .i64 5, .string ⟨#[]⟩, .int .i64 0, .int .i64 0, .slice a 0 cz] 41) = W0 := ⟨_, rfl⟩
  rw [hW0] at b0 r0
  have zz := fun i => cell_of_row _ _ i _ _ _ r0
  have f0 := zz 0; have f1 := zz 1; have f2 := zz 2; have f3 := zz 3; have f4 := zz 4
  dsimp at f0 f1 f2 f3 f4
  have B0 := Lib.hid b0
  have hlt := blk_lt r0
  have f0a : ∀ o, (W0.alloc o).cell? ⟨w.heap.size, 0, none⟩ = some (.int .i64 5) := fun o => (World.cell?_alloc_lt _ _ _ hlt).trans f0
  replace hlt := Lib.hid hlt
  clear zz b0 r0
  go_enter Tryd.func22, Tryd.ntmps22
  go_wp2
  go_ret
  exact ⟨rfl, B0.out.trans ((below_alloc W0 _).mono B0.out.size)⟩
set_option maxHeartbeats 4000000 in
set_option maxRecDepth 100000 in
theorem rline_po (a : Option Addr) (cz : Nat) (w : World) : Calls Tryd.prog 22 #[.agg #[.int .i64 6, .string ⟨#[]⟩, .int .i64 0, .int .i64 0, .slice a 0 cz]] w (LnPost [112, 111, 119, 101, 114] w) := by
  have b0 := below_alloc w (.cells #[.int .i64 6, .string ⟨#[]⟩, .int .i64 0, .int .i64 0, .slice a 0 cz] 41)
  have r0 := heap_alloc_new w (.cells #[.int .i64 6, .string ⟨#[]⟩, .int .i64 0, .int .i64 0, .slice a 0 cz] 41)
  obtain ⟨W0, hW0⟩ : ∃ W0, w.alloc (.cells #[.int .i64 6, .string ⟨#[]⟩, .int .i64 0, .int .i64 0, .slice a 0 cz] 41) = W0 := ⟨_, rfl⟩
  rw [hW0] at b0 r0
  have zz := fun i => cell_of_row _ _ i _ _ _ r0
  have f0 := zz 0; have f1 := zz 1; have f2 := zz 2; have f3 := zz 3; have f4 := zz 4
  dsimp at f0 f1 f2 f3 f4
  have B0 := Lib.hid b0
  have hlt := blk_lt r0
  have f0a : ∀ o, (W0.alloc o).cell? ⟨w.heap.size, 0, none⟩ = some (.int .i64 6) := fun o => (World.cell?_alloc_lt _ _ _ hlt).trans f0
  replace hlt := Lib.hid hlt
  clear zz b0 r0
  go_enter Tryd.func22, Tryd.ntmps22
  go_wp2
  go_ret
  exact ⟨rfl, B0.out.trans ((below_alloc W0 _).mono B0.out.size)⟩
set_option maxHeartbeats 4000000 in
set_option maxRecDepth 100000 in
theorem rline_lo1 (a : Option Addr) (cz : Nat) (w : World) : Calls Tryd.prog 22 #[.agg #[.int .i64 4, .string ⟨#[]⟩, .int .i64 0, .int .i64 0, .slice a 0 cz]] w (LnPost [108, 111, 97, 100] w) := by
  have b0 := below_alloc w (.cells #[.int .i64 4, .string ⟨#[]⟩, .int .i64 0, .int .i64 0, .slice a 0 cz] 41)
  have r0 := heap_alloc_new w (.cells #[.int .i64 4, .string ⟨#[]⟩, .int .i64 0, .int .i64 0, .slice a 0 cz] 41)
  obtain ⟨W0, hW0⟩ : ∃ W0, w.alloc (.cells #[.int .i64 4, .string ⟨#[]⟩, .int .i64 0, .int .i64 0, .slice a 0 cz] 41) = W0 := ⟨_, rfl⟩
  rw [hW0] at b0 r0
  have zz := fun i => cell_of_row _ _ i _ _ _ r0
  have f0 := zz 0; have f1 := zz 1; have f2 := zz 2; have f3 := zz 3; have f4 := zz 4
  dsimp at f0 f1 f2 f3 f4
  have B0 := Lib.hid b0
  have hlt := blk_lt r0
  have f0a : ∀ o, (W0.alloc o).cell? ⟨w.heap.size, 0, none⟩ = some (.int .i64 4) := fun o => (World.cell?_alloc_lt _ _ _ hlt).trans f0
  replace hlt := Lib.hid hlt
  clear zz b0 r0
  go_enter Tryd.func22, Tryd.ntmps22
  go_wp2
  go_ret
  exact ⟨rfl, B0.out.trans ((below_alloc W0 _).mono B0.out.size)⟩
set_option maxHeartbeats 4000000 in
set_option maxRecDepth 100000 in
theorem rline_by (t : List UInt8) (a : Option Addr) (cz : Nat) (w : World) (ht : t.length ≤ 300000) : Calls Tryd.prog 22 #[.agg #[.int .i64 0, .string (mkL t), .int .i64 0, .int .i64 0, .slice a 0 cz]] w (LnPost ([98, 121, 116, 101, 115, 32] ++ wdL t) w) := by
  have b0 := below_alloc w (.cells #[.int .i64 0, .string (mkL t), .int .i64 0, .int .i64 0, .slice a 0 cz] 41)
  have r0 := heap_alloc_new w (.cells #[.int .i64 0, .string (mkL t), .int .i64 0, .int .i64 0, .slice a 0 cz] 41)
  obtain ⟨W0, hW0⟩ : ∃ W0, w.alloc (.cells #[.int .i64 0, .string (mkL t), .int .i64 0, .int .i64 0, .slice a 0 cz] 41) = W0 := ⟨_, rfl⟩
  rw [hW0] at b0 r0
  have zz := fun i => cell_of_row _ _ i _ _ _ r0
  have f0 := zz 0; have f1 := zz 1; have f2 := zz 2; have f3 := zz 3; have f4 := zz 4
  dsimp at f0 f1 f2 f3 f4
  have B0 := Lib.hid b0
  have hlt := blk_lt r0
  have f0a : ∀ o, (W0.alloc o).cell? ⟨w.heap.size, 0, none⟩ = some (.int .i64 0) := fun o => (World.cell?_alloc_lt _ _ _ hlt).trans f0
  replace hlt := Lib.hid hlt
  clear zz b0 r0
  have hl := wdL_len t
  have TW := Lib.hid (fun w => rword_ref t w (by omega))
  have S1 := fun w => tsum_l [98, 121, 116, 101, 115, 32] (wdL t) (by simp only [List.length_cons, List.length_nil]; omega) w
  have S1' : ∀ w, (Op.stringOp .add ⟨#[98, 121, 116, 101, 115, 32]⟩ (mkL (wdL t))).run Tryd.prog w = .ok (.string (mkL ([98, 121, 116, 101, 115, 32] ++ wdL t))) w := S1
  obtain ⟨X, hX⟩ : ∃ X, mkL ([98, 121, 116, 101, 115, 32] ++ wdL t) = X := ⟨_, rfl⟩
  have HX := Lib.hid hX
  rw [hX] at S1'
  generalize mkL (wdL t) = y at *
  by_cases h0 : t = []
  · subst h0
    replace f1 : W0.cell? ⟨w.heap.size, 1, none⟩ = some (.string ⟨#[]⟩) := f1
    replace TW : Hid (∀ w, Calls Tryd.prog 15 #[.string ⟨#[]⟩] w fun e w' => e = .returned (.string y) ∧ w = w') := TW
    clear S1 hX hl ht
    go_enter Tryd.func22, Tryd.ntmps22
    go_wp2_with (go_at_call 15; refine (TW.out _).mono ?_; rintro e w3 ⟨rfl, rfl⟩)
    go_ret
    exact ⟨by rw [← HX.out]; rfl, B0.out⟩
  · have hne : t ≠ [] := h0
    have g1 := (mkL_ne hne : ¬ mkL t = mkL [])
    have g2 : (mkL t).toList.isEmpty = false := by rw [mkL_toList]; cases t with
      | nil => exact absurd rfl hne
      | cons a b => rfl
    have g3 : ¬ (mkL t).toList = [] := by rw [mkL_toList]; exact hne
    generalize mkL t = s at *
    clear S1 hX hl ht h0 hne
    go_enter Tryd.func22, Tryd.ntmps22
    go_wp2_with (go_at_call 15; refine (TW.out _).mono ?_; rintro e w3 ⟨rfl, rfl⟩)
    go_ret
    exact ⟨by rw [← HX.out]; rfl, B0.out⟩
set_option maxHeartbeats 4000000 in
set_option maxRecDepth 100000 in
theorem rline_lo2 (t : List UInt8) (a : Option Addr) (cz : Nat) (w : World) (ht : t.length ≤ 300000) : Calls Tryd.prog 22 #[.agg #[.int .i64 4, .string (mkL t), .int .i64 1, .int .i64 0, .slice a 0 cz]] w (LnPost ([108, 111, 97, 100, 32] ++ wdL t) w) := by
  have b0 := below_alloc w (.cells #[.int .i64 4, .string (mkL t), .int .i64 1, .int .i64 0, .slice a 0 cz] 41)
  have r0 := heap_alloc_new w (.cells #[.int .i64 4, .string (mkL t), .int .i64 1, .int .i64 0, .slice a 0 cz] 41)
  obtain ⟨W0, hW0⟩ : ∃ W0, w.alloc (.cells #[.int .i64 4, .string (mkL t), .int .i64 1, .int .i64 0, .slice a 0 cz] 41) = W0 := ⟨_, rfl⟩
  rw [hW0] at b0 r0
  have zz := fun i => cell_of_row _ _ i _ _ _ r0
  have f0 := zz 0; have f1 := zz 1; have f2 := zz 2; have f3 := zz 3; have f4 := zz 4
  dsimp at f0 f1 f2 f3 f4
  have B0 := Lib.hid b0
  have hlt := blk_lt r0
  have f0a : ∀ o, (W0.alloc o).cell? ⟨w.heap.size, 0, none⟩ = some (.int .i64 4) := fun o => (World.cell?_alloc_lt _ _ _ hlt).trans f0
  replace hlt := Lib.hid hlt
  clear zz b0 r0
  have hl := wdL_len t
  have TW := Lib.hid (fun w => rword_ref t w (by omega))
  have S1 := fun w => tsum_l [108, 111, 97, 100, 32] (wdL t) (by simp only [List.length_cons, List.length_nil]; omega) w
  have S1' : ∀ w, (Op.stringOp .add ⟨#[108, 111, 97, 100, 32]⟩ (mkL (wdL t))).run Tryd.prog w = .ok (.string (mkL ([108, 111, 97, 100, 32] ++ wdL t))) w := S1
  obtain ⟨X, hX⟩ : ∃ X, mkL ([108, 111, 97, 100, 32] ++ wdL t) = X := ⟨_, rfl⟩
  have HX := Lib.hid hX
  rw [hX] at S1'
  generalize mkL (wdL t) = y at *
  by_cases h0 : t = []
  · subst h0
    replace f1 : W0.cell? ⟨w.heap.size, 1, none⟩ = some (.string ⟨#[]⟩) := f1
    replace TW : Hid (∀ w, Calls Tryd.prog 15 #[.string ⟨#[]⟩] w fun e w' => e = .returned (.string y) ∧ w = w') := TW
    clear S1 hX hl ht
    go_enter Tryd.func22, Tryd.ntmps22
    go_wp2_with (go_at_call 15; refine (TW.out _).mono ?_; rintro e w3 ⟨rfl, rfl⟩)
    go_ret
    exact ⟨by rw [← HX.out]; rfl, B0.out⟩
  · have hne : t ≠ [] := h0
    have g1 := (mkL_ne hne : ¬ mkL t = mkL [])
    have g2 : (mkL t).toList.isEmpty = false := by rw [mkL_toList]; cases t with
      | nil => exact absurd rfl hne
      | cons a b => rfl
    have g3 : ¬ (mkL t).toList = [] := by rw [mkL_toList]; exact hne
    generalize mkL t = s at *
    clear S1 hX hl ht h0 hne
    go_enter Tryd.func22, Tryd.ntmps22
    go_wp2_with (go_at_call 15; refine (TW.out _).mono ?_; rintro e w3 ⟨rfl, rfl⟩)
    go_ret
    exact ⟨by rw [← HX.out]; rfl, B0.out⟩
set_option maxHeartbeats 4000000 in
set_option maxRecDepth 100000 in
theorem rline_re (n m : Int) (a : Option Addr) (cz : Nat) (w : World) (hn : in64 n) (hm : in64 m) : Calls Tryd.prog 22 #[.agg #[.int .i64 2, .string ⟨#[]⟩, .int .i64 n, .int .i64 m, .slice a 0 cz]] w (LnPost ([114, 101, 115, 105, 122, 101, 32] ++ decS n ++ [32] ++ decS m) w) := by
  have b0 := below_alloc w (.cells #[.int .i64 2, .string ⟨#[]⟩, .int .i64 n, .int .i64 m, .slice a 0 cz] 41)
  have r0 := heap_alloc_new w (.cells #[.int .i64 2, .string ⟨#[]⟩, .int .i64 n, .int .i64 m, .slice a 0 cz] 41)
  obtain ⟨W0, hW0⟩ : ∃ W0, w.alloc (.cells #[.int .i64 2, .string ⟨#[]⟩, .int .i64 n, .int .i64 m, .slice a 0 cz] 41) = W0 := ⟨_, rfl⟩
  rw [hW0] at b0 r0
  have zz := fun i => cell_of_row _ _ i _ _ _ r0
  have f0 := zz 0; have f1 := zz 1; have f2 := zz 2; have f3 := zz 3; have f4 := zz 4
  dsimp at f0 f1 f2 f3 f4
  have B0 := Lib.hid b0
  have hlt := blk_lt r0
  have f0a : ∀ o, (W0.alloc o).cell? ⟨w.heap.size, 0, none⟩ = some (.int .i64 2) := fun o => (World.cell?_alloc_lt _ _ _ hlt).trans f0
  replace hlt := Lib.hid hlt
  clear zz b0 r0
  have l1 := decS_len n
  have l2 := decS_len m
  have D1 := Lib.hid (fun w => rdec_any n w hn)
  have D2 := Lib.hid (fun w => rdec_any m w hm)
  have S1 : ∀ w, (Op.stringOp .add ⟨#[114, 101, 115, 105, 122, 101, 32]⟩ (mkL (decS n))).run Tryd.prog w = .ok (.string (mkL ([114, 101, 115, 105, 122, 101, 32] ++ decS n))) w := fun w => tsum_l [114, 101, 115, 105, 122, 101, 32] (decS n) (by simp only [List.length_cons, List.length_nil]; omega) w
  have S2 : ∀ w, (Op.stringOp .add (mkL ([114, 101, 115, 105, 122, 101, 32] ++ decS n)) ⟨#[32]⟩).run Tryd.prog w = .ok (.string (mkL ([114, 101, 115, 105, 122, 101, 32] ++ decS n ++ [32]))) w := fun w => tsum_l ([114, 101, 115, 105, 122, 101, 32] ++ decS n) [32] (by simp only [List.length_append, List.length_cons, List.length_nil]; omega) w
  have S3 : ∀ w, (Op.stringOp .add (mkL ([114, 101, 115, 105, 122, 101, 32] ++ decS n ++ [32])) (mkL (decS m))).run Tryd.prog w = .ok (.string (mkL ([114, 101, 115, 105, 122, 101, 32] ++ decS n ++ [32] ++ decS m))) w := fun w => tsum_l ([114, 101, 115, 105, 122, 101, 32] ++ decS n ++ [32]) (decS m) (by simp only [List.length_append, List.length_cons, List.length_nil]; omega) w
  obtain ⟨X1, hX1⟩ : ∃ X, mkL ([114, 101, 115, 105, 122, 101, 32] ++ decS n) = X := ⟨_, rfl⟩
  obtain ⟨X2, hX2⟩ : ∃ X, mkL ([114, 101, 115, 105, 122, 101, 32] ++ decS n ++ [32]) = X := ⟨_, rfl⟩
  obtain ⟨X3, hX3⟩ : ∃ X, mkL ([114, 101, 115, 105, 122, 101, 32] ++ decS n ++ [32] ++ decS m) = X := ⟨_, rfl⟩
  have HX := Lib.hid hX3
  rw [hX1] at S1 S2
  rw [hX2] at S2 S3
  rw [hX3] at S3
  clear hX1 hX2 hX3 l1 l2 hn hm
  by_cases h1 : n = 0
  · by_cases h2 : m = 0
    · subst h1
      subst h2
      generalize mkL (decS 0) = d1 at *
      go_enter Tryd.func22, Tryd.ntmps22
      go_upto_region 8 with fail
      all_goals
        go_region_held3 (fun w' => w'.cell? ⟨w.heap.size, 2, none⟩ = some (.int .i64 0) ∧ w'.cell? ⟨w.heap.size, 3, none⟩ = some (.int .i64 0)) (first | exact ⟨f2, f3⟩ | go_keep) (first | (go_at_call 64; (with_reducible refine (D1.out _).mono ?_); rintro e w3 ⟨rfl, rfl⟩) | (go_at_call 64; (with_reducible refine (D2.out _).mono ?_); rintro e w3 ⟨rfl, rfl⟩))
        all_goals
          go_wp2
          go_ret
          exact ⟨by rw [← HX.out]; rfl, B0.out.drew⟩
    · subst h1
      have g2 := beqF h2
      generalize mkL (decS 0) = d1 at *
      generalize mkL (decS m) = d2 at *
      go_enter Tryd.func22, Tryd.ntmps22
      go_upto_region 8 with fail
      all_goals
        go_region_held3 (fun w' => w'.cell? ⟨w.heap.size, 2, none⟩ = some (.int .i64 0) ∧ w'.cell? ⟨w.heap.size, 3, none⟩ = some (.int .i64 m)) (first | exact ⟨f2, f3⟩ | go_keep) (first | (go_at_call 64; (with_reducible refine (D1.out _).mono ?_); rintro e w3 ⟨rfl, rfl⟩) | (go_at_call 64; (with_reducible refine (D2.out _).mono ?_); rintro e w3 ⟨rfl, rfl⟩))
        all_goals
          go_wp2
          go_ret
          exact ⟨by rw [← HX.out]; rfl, B0.out.drew⟩
  · by_cases h2 : m = 0
    · have g1 := beqF h1
      subst h2
      generalize mkL (decS n) = d1 at *
      generalize mkL (decS 0) = d2 at *
      go_enter Tryd.func22, Tryd.ntmps22
      go_upto_region 8 with fail
      all_goals
        go_region_held3 (fun w' => w'.cell? ⟨w.heap.size, 2, none⟩ = some (.int .i64 n) ∧ w'.cell? ⟨w.heap.size, 3, none⟩ = some (.int .i64 0)) (first | exact ⟨f2, f3⟩ | go_keep) (first | (go_at_call 64; (with_reducible refine (D1.out _).mono ?_); rintro e w3 ⟨rfl, rfl⟩) | (go_at_call 64; (with_reducible refine (D2.out _).mono ?_); rintro e w3 ⟨rfl, rfl⟩))
        all_goals
          go_wp2
          go_ret
          exact ⟨by rw [← HX.out]; rfl, B0.out.drew⟩
    · have g1 := beqF h1
      have g2 := beqF h2
      generalize mkL (decS n) = d1 at *
      generalize mkL (decS m) = d2 at *
      go_enter Tryd.func22, Tryd.ntmps22
      go_upto_region 8 with fail
      all_goals
        go_region_held3 (fun w' => w'.cell? ⟨w.heap.size, 2, none⟩ = some (.int .i64 n) ∧ w'.cell? ⟨w.heap.size, 3, none⟩ = some (.int .i64 m)) (first | exact ⟨f2, f3⟩ | go_keep) (first | (go_at_call 64; (with_reducible refine (D1.out _).mono ?_); rintro e w3 ⟨rfl, rfl⟩) | (go_at_call 64; (with_reducible refine (D2.out _).mono ?_); rintro e w3 ⟨rfl, rfl⟩))
        all_goals
          go_wp2
          go_ret
          exact ⟨by rw [← HX.out]; rfl, B0.out.drew⟩
end Go.Proofs.YtangpdaoacjinaaDoor
set_option linter.unusedVariables false
set_option linter.unusedSimpArgs false
namespace Go.Proofs.YtangpdaoacjinaaDoor
open Go.RowKit
/-- The line of an offer's first k words. -/
def ofs (L : List (List UInt8)) (k : Nat) : List UInt8 := ofW ++ (L.take k).flatMap fun x => 32 :: wdL x
theorem ofs_succ (L : List (List UInt8)) (k : Nat) (h : k < L.length) : ofs L (k + 1) = (ofs L k ++ [32]) ++ wdL (L.getD k []) := by
  unfold ofs
  have e : L.getD k [] = L[k] := by rw [List.getD, List.getElem?_eq_getElem h]; rfl
  rw [List.take_succ_eq_append_getElem h, List.flatMap_append, e, List.flatMap_singleton, List.append_assoc, List.append_assoc, List.singleton_append]
theorem ofs_len (L : List (List UInt8)) (hE : ∀ x, x ∈ L → x.length ≤ 300000) : ∀ k, k ≤ L.length → (ofs L k).length ≤ 5 + k * 900002
  | 0, _ => by unfold ofs; simp [ofW]
  | k + 1, h => by
    have h1 := ofs_len L hE k (by omega)
    have e : L.getD k [] = L[k] := by rw [List.getD, List.getElem?_eq_getElem h]; rfl
    have h2 := wdL_len (L.getD k [])
    have h3 := hE _ (List.getElem_mem h)
    rw [← e] at h3
    rw [ofs_succ L k h, List.length_append, List.length_append, List.length_singleton]
    omega
set_option maxHeartbeats 4000000 in
set_option maxRecDepth 100000 in
theorem rline_ofA (a : Option Addr) (l c : Nat) (w : World) (L : List (List UInt8)) (hL : L.length = l) (hl : l ≤ 100000) (hE : ∀ x, x ∈ L → x.length ≤ 300000) (hS : StI w a (L.map mkL)) (hg : (0 : Int) < (l : Int)) : Calls Tryd.prog 22 #[.agg #[.int .i64 3, .string ⟨#[]⟩, .int .i64 0, .int .i64 0, .slice a l c]] w (LnPost (ofs L L.length) w) := by
  have b0 := below_alloc w (.cells #[.int .i64 3, .string ⟨#[]⟩, .int .i64 0, .int .i64 0, .slice a l c] 41)
  have r0 := heap_alloc_new w (.cells #[.int .i64 3, .string ⟨#[]⟩, .int .i64 0, .int .i64 0, .slice a l c] 41)
  obtain ⟨W0, hW0⟩ : ∃ W0, w.alloc (.cells #[.int .i64 3, .string ⟨#[]⟩, .int .i64 0, .int .i64 0, .slice a l c] 41) = W0 := ⟨_, rfl⟩
  rw [hW0] at b0 r0
  have zz := fun i => cell_of_row _ _ i _ _ _ r0
  have f0 := zz 0; have f1 := zz 1; have f2 := zz 2; have f3 := zz 3; have f4 := zz 4
  dsimp at f0 f1 f2 f3 f4
  have B0 := Lib.hid b0
  have HL := Lib.hid hL
  have HE := Lib.hid hE
  have HS := Lib.hid hS
  obtain ⟨SP, hSP⟩ : ∃ SP, LnPost (ofs L L.length) w = SP := ⟨_, rfl⟩
  rw [hSP]
  have HSP := Lib.hid hSP
  have hst : mkL (ofs L 0) = ⟨#[111, 102, 102, 101, 114]⟩ := rfl
  have HST := Lib.hid hst
  clear zz b0 r0 hL hE hS hSP hst
  go_enter Tryd.func22, Tryd.ntmps22
  go_upto_region 11 with fail
  go_wp2
  clear hW0
  go_loopw [3, 4] (fun sv iv wr => ∃ k : Nat, k ≤ l ∧ iv = .int .i64 (k : Int) ∧ sv = .string (mkL (ofs L k)) ∧ wr = W0) (fun _ iv _ => l - (intOf iv).toNat)
  case atStart => exact ⟨0, Nat.zero_le _, rfl, by rw [HST.out], rfl⟩
  case round =>
    obtain ⟨k, hk, rfl, rfl, rfl⟩ := hrel
    by_cases hlt : k < l
    · 
      have hk1 : (k : Int) < (l : Int) := by omega
      have hk0 : (0 : Int) ≤ k := by omega
      have hkL : k < L.length := by rw [HL.out]; exact hlt
      obtain ⟨b, off, rfl, hb0, d0⟩ := HS.out k (by rw [List.length_map]; exact hkL)
      have d := (B0.out.cell (p := ⟨b, off + k, none⟩) hb0).trans d0
      have hx : (L.map mkL).getD k ⟨#[]⟩ = mkL (L.getD k []) := by
        rw [List.getD, List.getElem?_map, List.getD, List.getElem?_eq_getElem hkL]; rfl
      rw [hx] at d
      have hxl : (L.getD k []).length ≤ 300000 := by
        rw [List.getD, List.getElem?_eq_getElem hkL]; exact HE.out _ (List.getElem_mem hkL)
      have hol := ofs_len L HE.out k (by omega)
      have hwl := wdL_len (L.getD k [])
      have S1 : ∀ w, (Op.stringOp .add (mkL (ofs L k)) ⟨#[32]⟩).run Tryd.prog w = .ok (.string (mkL (ofs L k ++ [32]))) w := fun w => tsum_l (ofs L k) [32] (by simp only [List.length_cons, List.length_nil]; omega) w
      have S2 : ∀ w, (Op.stringOp .add (mkL (ofs L k ++ [32])) (mkL (wdL (L.getD k [])))).run Tryd.prog w = .ok (.string (mkL (ofs L (k + 1)))) w := fun w => by
        rw [ofs_succ L k hkL]
        exact tsum_l (ofs L k ++ [32]) _ (by rw [List.length_append, List.length_singleton]; omega) w
      have TW := Lib.hid (fun w => rword_ref (L.getD k []) w (by omega))
      obtain ⟨Y, hY⟩ : ∃ Y, mkL (ofs L (k + 1)) = Y := ⟨_, rfl⟩
      have HY := Lib.hid hY
      rw [hY] at S2
      clear hY
      generalize mkL (L.getD k []) = x at *
      generalize mkL (wdL (L.getD k [])) = wx at *
      generalize mkL (ofs L k) = y0 at *
      generalize mkL (ofs L k ++ [32]) = y1 at *
      clear hxl hx d0 hol hwl hkL
      go_wp2_with (go_at_call 15; refine (TW.out _).mono ?_; rintro e w3 ⟨rfl, rfl⟩)
      go_roundw
      case rel => exact ⟨k + 1, by omega, by go_num, by rw [HY.out], by first | trivial | rfl⟩
      case measure => (simp [intOf]; try omega)
    · obtain rfl : k = l := by omega
      have hnn : ¬ (k : Int) < (k : Int) := by omega
      have e : mkL (ofs L k) = mkL (ofs L L.length) := by rw [HL.out]
      rw [e]
      clear e
      generalize hz : mkL (ofs L L.length) = z at *
      have HZ := Lib.hid hz
      clear hz
      go_wp2
      rw [← HSP.out]
      exact ⟨by rw [HZ.out], B0.out⟩
set_option maxHeartbeats 4000000 in
set_option maxRecDepth 100000 in
theorem rline_ofB (a : Option Addr) (l c : Nat) (w : World) (L : List (List UInt8)) (hL : L.length = l) (hl : l ≤ 100000) (hE : ∀ x, x ∈ L → x.length ≤ 300000) (hS : StI w a (L.map mkL)) (hg : ¬ (0 : Int) < (l : Int)) : Calls Tryd.prog 22 #[.agg #[.int .i64 3, .string ⟨#[]⟩, .int .i64 0, .int .i64 0, .slice a l c]] w (LnPost (ofs L L.length) w) := by
  have b0 := below_alloc w (.cells #[.int .i64 3, .string ⟨#[]⟩, .int .i64 0, .int .i64 0, .slice a l c] 41)
  have r0 := heap_alloc_new w (.cells #[.int .i64 3, .string ⟨#[]⟩, .int .i64 0, .int .i64 0, .slice a l c] 41)
  obtain ⟨W0, hW0⟩ : ∃ W0, w.alloc (.cells #[.int .i64 3, .string ⟨#[]⟩, .int .i64 0, .int .i64 0, .slice a l c] 41) = W0 := ⟨_, rfl⟩
  rw [hW0] at b0 r0
  have zz := fun i => cell_of_row _ _ i _ _ _ r0
  have f0 := zz 0; have f1 := zz 1; have f2 := zz 2; have f3 := zz 3; have f4 := zz 4
  dsimp at f0 f1 f2 f3 f4
  have B0 := Lib.hid b0
  have HL := Lib.hid hL
  have HE := Lib.hid hE
  have HS := Lib.hid hS
  obtain ⟨SP, hSP⟩ : ∃ SP, LnPost (ofs L L.length) w = SP := ⟨_, rfl⟩
  rw [hSP]
  have HSP := Lib.hid hSP
  have hst : mkL (ofs L 0) = ⟨#[111, 102, 102, 101, 114]⟩ := rfl
  have HST := Lib.hid hst
  clear zz b0 r0 hL hE hS hSP hst
  go_enter Tryd.func22, Tryd.ntmps22
  go_upto_region 11 with fail
  go_wp2
  clear hW0
  go_loopw [3, 4] (fun sv iv wr => ∃ k : Nat, k ≤ l ∧ iv = .int .i64 (k : Int) ∧ sv = .string (mkL (ofs L k)) ∧ wr = W0) (fun _ iv _ => l - (intOf iv).toNat)
  case atStart => exact ⟨0, Nat.zero_le _, rfl, by rw [HST.out], rfl⟩
  case round =>
    obtain ⟨k, hk, rfl, rfl, rfl⟩ := hrel
    by_cases hlt : k < l
    · exact absurd hlt (by omega)
    · obtain rfl : k = l := by omega
      have hnn : ¬ (k : Int) < (k : Int) := by omega
      have e : mkL (ofs L k) = mkL (ofs L L.length) := by rw [HL.out]
      rw [e]
      clear e
      generalize hz : mkL (ofs L L.length) = z at *
      have HZ := Lib.hid hz
      clear hz
      go_wp2
      rw [← HSP.out]
      exact ⟨by rw [HZ.out], B0.out⟩
theorem rline_of (a : Option Addr) (l c : Nat) (w : World) (L : List (List UInt8)) (hL : L.length = l) (hl : l ≤ 100000) (hE : ∀ x, x ∈ L → x.length ≤ 300000) (hS : StI w a (L.map mkL)) : Calls Tryd.prog 22 #[.agg #[.int .i64 3, .string ⟨#[]⟩, .int .i64 0, .int .i64 0, .slice a l c]] w (LnPost (ofs L L.length) w) := by
  by_cases hg : (0 : Int) < (l : Int)
  · exact rline_ofA a l c w L hL hl hE hS hg
  · exact rline_ofB a l c w L hL hl hE hS hg
end Go.Proofs.YtangpdaoacjinaaDoor
set_option linter.unusedVariables false
set_option linter.unusedSimpArgs false
namespace Go.Proofs.YtangpdaoacjinaaDoor
open Go.RowKit
/-- The head's text of the first numbers. -/
def hdL (N : List Int) (k : Nat) : List UInt8 := [99, 111, 110, 102] ++ (N.take k).flatMap fun x => 32 :: decS x
def hdT (N : List Int) (vi : Bool) (p : List UInt8) : List UInt8 := hdL N 8 ++ (if vi = true then [32, 118, 105, 32] else [32, 101, 109, 97, 99, 115, 32]) ++ wdL p
theorem hdT_eq (a0 a1 a2 a3 a4 a5 a6 a7 : Int) : ((((((((((((((([99, 111, 110, 102, 32] ++ decS a0) ++ [32]) ++ decS a1) ++ [32]) ++ decS a2) ++ [32]) ++ decS a3) ++ [32]) ++ decS a4) ++ [32]) ++ decS a5) ++ [32]) ++ decS a6) ++ [32]) ++ decS a7) = hdL [a0, a1, a2, a3, a4, a5, a6, a7] 8 := by unfold hdL; simp [List.flatMap_cons, List.append_assoc]
set_option maxHeartbeats 4000000 in
set_option maxRecDepth 100000 in
theorem rhead_core (a0 a1 a2 a3 a4 a5 a6 a7 : Int) (vi : Bool) (w : World) (P d0 t0 d1 t1 d2 t2 d3 t3 d4 t4 d5 t5 d6 t6 d7 t7 u0 u1 u2 u3 u4 u5 u6 x8 x9 wp Y1 Y2 : ByteArray)
    (D0 : Hid (∀ w, Calls Tryd.prog 64 #[.int .i64 a0] w fun e w' => e = .returned (.string d0) ∧ w = w'))
    (D1 : Hid (∀ w, Calls Tryd.prog 64 #[.int .i64 a1] w fun e w' => e = .returned (.string d1) ∧ w = w'))
    (D2 : Hid (∀ w, Calls Tryd.prog 64 #[.int .i64 a2] w fun e w' => e = .returned (.string d2) ∧ w = w'))
    (D3 : Hid (∀ w, Calls Tryd.prog 64 #[.int .i64 a3] w fun e w' => e = .returned (.string d3) ∧ w = w'))
    (D4 : Hid (∀ w, Calls Tryd.prog 64 #[.int .i64 a4] w fun e w' => e = .returned (.string d4) ∧ w = w'))
    (D5 : Hid (∀ w, Calls Tryd.prog 64 #[.int .i64 a5] w fun e w' => e = .returned (.string d5) ∧ w = w'))
    (D6 : Hid (∀ w, Calls Tryd.prog 64 #[.int .i64 a6] w fun e w' => e = .returned (.string d6) ∧ w = w'))
    (D7 : Hid (∀ w, Calls Tryd.prog 64 #[.int .i64 a7] w fun e w' => e = .returned (.string d7) ∧ w = w'))
    (TW : Hid (∀ w, Calls Tryd.prog 15 #[.string P] w fun e w' => e = .returned (.string wp) ∧ w = w'))
    (S0 : ∀ w, (Op.stringOp .add ⟨#[99, 111, 110, 102, 32]⟩ d0).run Tryd.prog w = .ok (.string t0) w)
    (R0 : ∀ w, (Op.stringOp .add t0 ⟨#[32]⟩).run Tryd.prog w = .ok (.string u0) w)
    (S1 : ∀ w, (Op.stringOp .add u0 d1).run Tryd.prog w = .ok (.string t1) w)
    (R1 : ∀ w, (Op.stringOp .add t1 ⟨#[32]⟩).run Tryd.prog w = .ok (.string u1) w)
    (S2 : ∀ w, (Op.stringOp .add u1 d2).run Tryd.prog w = .ok (.string t2) w)
    (R2 : ∀ w, (Op.stringOp .add t2 ⟨#[32]⟩).run Tryd.prog w = .ok (.string u2) w)
    (S3 : ∀ w, (Op.stringOp .add u2 d3).run Tryd.prog w = .ok (.string t3) w)
    (R3 : ∀ w, (Op.stringOp .add t3 ⟨#[32]⟩).run Tryd.prog w = .ok (.string u3) w)
    (S4 : ∀ w, (Op.stringOp .add u3 d4).run Tryd.prog w = .ok (.string t4) w)
    (R4 : ∀ w, (Op.stringOp .add t4 ⟨#[32]⟩).run Tryd.prog w = .ok (.string u4) w)
    (S5 : ∀ w, (Op.stringOp .add u4 d5).run Tryd.prog w = .ok (.string t5) w)
    (R5 : ∀ w, (Op.stringOp .add t5 ⟨#[32]⟩).run Tryd.prog w = .ok (.string u5) w)
    (S6 : ∀ w, (Op.stringOp .add u5 d6).run Tryd.prog w = .ok (.string t6) w)
    (R6 : ∀ w, (Op.stringOp .add t6 ⟨#[32]⟩).run Tryd.prog w = .ok (.string u6) w)
    (S7 : ∀ w, (Op.stringOp .add u6 d7).run Tryd.prog w = .ok (.string t7) w)
    (V1 : ∀ w, (Op.stringOp .add t7 ⟨#[32, 118, 105, 32]⟩).run Tryd.prog w = .ok (.string x8) w) (V2 : ∀ w, (Op.stringOp .add x8 wp).run Tryd.prog w = .ok (.string Y1) w) (E1 : ∀ w, (Op.stringOp .add t7 ⟨#[32, 101, 109, 97, 99, 115, 32]⟩).run Tryd.prog w = .ok (.string x9) w) (E2 : ∀ w, (Op.stringOp .add x9 wp).run Tryd.prog w = .ok (.string Y2) w) : Calls Tryd.prog 63 #[.agg #[.int .i64 a0, .int .i64 a1, .int .i64 a2, .int .i64 a3, .int .i64 a4, .int .i64 a5, .int .i64 a6, .int .i64 a7, .bool vi, .string P]] w fun e w' => e = .returned (.string (if vi = true then Y1 else Y2)) ∧ Below w.heap.size w w' := by
  have b0 := below_alloc w (.cells #[.int .i64 a0, .int .i64 a1, .int .i64 a2, .int .i64 a3, .int .i64 a4, .int .i64 a5, .int .i64 a6, .int .i64 a7, .bool vi, .string P] 29)
  have r0 := heap_alloc_new w (.cells #[.int .i64 a0, .int .i64 a1, .int .i64 a2, .int .i64 a3, .int .i64 a4, .int .i64 a5, .int .i64 a6, .int .i64 a7, .bool vi, .string P] 29)
  obtain ⟨W0, hW0⟩ : ∃ W0, w.alloc (.cells #[.int .i64 a0, .int .i64 a1, .int .i64 a2, .int .i64 a3, .int .i64 a4, .int .i64 a5, .int .i64 a6, .int .i64 a7, .bool vi, .string P] 29) = W0 := ⟨_, rfl⟩
  rw [hW0] at b0 r0
  have zz := fun i => cell_of_row _ _ i _ _ _ r0
  have f0 := zz 0; have f1 := zz 1; have f2 := zz 2; have f3 := zz 3; have f4 := zz 4; have f5 := zz 5; have f6 := zz 6; have f7 := zz 7; have f8 := zz 8; have f9 := zz 9
  dsimp at f0 f1 f2 f3 f4 f5 f6 f7 f8 f9
  have B0 := Lib.hid b0
  clear zz b0 r0
  go_enter Tryd.func63, Tryd.ntmps63
  go_upto_region 1 with fail
  go_quiet ((go_at_call 64; first | ((with_reducible refine qsyU (D0.out _) ?_); exact ⟨_, rfl⟩) | ((with_reducible refine qsyU (D1.out _) ?_); exact ⟨_, rfl⟩) | ((with_reducible refine qsyU (D2.out _) ?_); exact ⟨_, rfl⟩) | ((with_reducible refine qsyU (D3.out _) ?_); exact ⟨_, rfl⟩) | ((with_reducible refine qsyU (D4.out _) ?_); exact ⟨_, rfl⟩) | ((with_reducible refine qsyU (D5.out _) ?_); exact ⟨_, rfl⟩) | ((with_reducible refine qsyU (D6.out _) ?_); exact ⟨_, rfl⟩) | ((with_reducible refine qsyU (D7.out _) ?_); exact ⟨_, rfl⟩)))
  cases vi
  · go_wp2_with (go_at_call 15; refine (TW.out _).mono ?_; rintro e w3 ⟨rfl, rfl⟩)
    go_ret
    exact ⟨rfl, drewN_below B0.out _⟩
  · go_wp2_with (go_at_call 15; refine (TW.out _).mono ?_; rintro e w3 ⟨rfl, rfl⟩)
    go_ret
    exact ⟨rfl, drewN_below B0.out _⟩
theorem rhead_any (a0 a1 a2 a3 a4 a5 a6 a7 : Int) (vi : Bool) (p : List UInt8) (w : World) (h0 : in64 a0) (h1 : in64 a1) (h2 : in64 a2) (h3 : in64 a3) (h4 : in64 a4) (h5 : in64 a5) (h6 : in64 a6) (h7 : in64 a7) (hp : p.length ≤ 300000) : Calls Tryd.prog 63 #[.agg #[.int .i64 a0, .int .i64 a1, .int .i64 a2, .int .i64 a3, .int .i64 a4, .int .i64 a5, .int .i64 a6, .int .i64 a7, .bool vi, .string (mkL p)]] w (LnPost (hdT [a0, a1, a2, a3, a4, a5, a6, a7] vi p) w) := by
  have l0 := decS_len a0
  have l1 := decS_len a1
  have l2 := decS_len a2
  have l3 := decS_len a3
  have l4 := decS_len a4
  have l5 := decS_len a5
  have l6 := decS_len a6
  have l7 := decS_len a7
  have hl := wdL_len p
  have h := rhead_core a0 a1 a2 a3 a4 a5 a6 a7 vi w (mkL p) _ _ _ _ _ _ _ _ _ _ _ _ _ _ _ _ _ _ _ _ _ _ _ _ _ _ (mkL (((((((((((((((([99, 111, 110, 102, 32] ++ decS a0) ++ [32]) ++ decS a1) ++ [32]) ++ decS a2) ++ [32]) ++ decS a3) ++ [32]) ++ decS a4) ++ [32]) ++ decS a5) ++ [32]) ++ decS a6) ++ [32]) ++ decS a7) ++ [32, 118, 105, 32] ++ wdL p)) (mkL (((((((((((((((([99, 111, 110, 102, 32] ++ decS a0) ++ [32]) ++ decS a1) ++ [32]) ++ decS a2) ++ [32]) ++ decS a3) ++ [32]) ++ decS a4) ++ [32]) ++ decS a5) ++ [32]) ++ decS a6) ++ [32]) ++ decS a7) ++ [32, 101, 109, 97, 99, 115, 32] ++ wdL p)) (Lib.hid (fun w => rdec_any a0 w h0)) (Lib.hid (fun w => rdec_any a1 w h1)) (Lib.hid (fun w => rdec_any a2 w h2)) (Lib.hid (fun w => rdec_any a3 w h3)) (Lib.hid (fun w => rdec_any a4 w h4)) (Lib.hid (fun w => rdec_any a5 w h5)) (Lib.hid (fun w => rdec_any a6 w h6)) (Lib.hid (fun w => rdec_any a7 w h7)) (Lib.hid (fun w => rword_ref p w (by omega))) (fun w => tsum_l [99, 111, 110, 102, 32] (decS a0) (by simp only [List.length_append, List.length_cons, List.length_nil]; omega) w) (fun w => tsum_l ([99, 111, 110, 102, 32] ++ decS a0) [32] (by simp only [List.length_append, List.length_cons, List.length_nil]; omega) w) (fun w => tsum_l (([99, 111, 110, 102, 32] ++ decS a0) ++ [32]) (decS a1) (by simp only [List.length_append, List.length_cons, List.length_nil]; omega) w) (fun w => tsum_l ((([99, 111, 110, 102, 32] ++ decS a0) ++ [32]) ++ decS a1) [32] (by simp only [List.length_append, List.length_cons, List.length_nil]; omega) w) (fun w => tsum_l (((([99, 111, 110, 102, 32] ++ decS a0) ++ [32]) ++ decS a1) ++ [32]) (decS a2) (by simp only [List.length_append, List.length_cons, List.length_nil]; omega) w) (fun w => tsum_l ((((([99, 111, 110, 102, 32] ++ decS a0) ++ [32]) ++ decS a1) ++ [32]) ++ decS a2) [32] (by simp only [List.length_append, List.length_cons, List.length_nil]; omega) w) (fun w => tsum_l (((((([99, 111, 110, 102, 32] ++ decS a0) ++ [32]) ++ decS a1) ++ [32]) ++ decS a2) ++ [32]) (decS a3) (by simp only [List.length_append, List.length_cons, List.length_nil]; omega) w) (fun w => tsum_l ((((((([99, 111, 110, 102, 32] ++ decS a0) ++ [32]) ++ decS a1) ++ [32]) ++ decS a2) ++ [32]) ++ decS a3) [32] (by simp only [List.length_append, List.length_cons, List.length_nil]; omega) w) (fun w => tsum_l (((((((([99, 111, 110, 102, 32] ++ decS a0) ++ [32]) ++ decS a1) ++ [32]) ++ decS a2) ++ [32]) ++ decS a3) ++ [32]) (decS a4) (by simp only [List.length_append, List.length_cons, List.length_nil]; omega) w) (fun w => tsum_l ((((((((([99, 111, 110, 102, 32] ++ decS a0) ++ [32]) ++ decS a1) ++ [32]) ++ decS a2) ++ [32]) ++ decS a3) ++ [32]) ++ decS a4) [32] (by simp only [List.length_append, List.length_cons, List.length_nil]; omega) w) (fun w => tsum_l (((((((((([99, 111, 110, 102, 32] ++ decS a0) ++ [32]) ++ decS a1) ++ [32]) ++ decS a2) ++ [32]) ++ decS a3) ++ [32]) ++ decS a4) ++ [32]) (decS a5) (by simp only [List.length_append, List.length_cons, List.length_nil]; omega) w) (fun w => tsum_l ((((((((((([99, 111, 110, 102, 32] ++ decS a0) ++ [32]) ++ decS a1) ++ [32]) ++ decS a2) ++ [32]) ++ decS a3) ++ [32]) ++ decS a4) ++ [32]) ++ decS a5) [32] (by simp only [List.length_append, List.length_cons, List.length_nil]; omega) w) (fun w => tsum_l (((((((((((([99, 111, 110, 102, 32] ++ decS a0) ++ [32]) ++ decS a1) ++ [32]) ++ decS a2) ++ [32]) ++ decS a3) ++ [32]) ++ decS a4) ++ [32]) ++ decS a5) ++ [32]) (decS a6) (by simp only [List.length_append, List.length_cons, List.length_nil]; omega) w) (fun w => tsum_l ((((((((((((([99, 111, 110, 102, 32] ++ decS a0) ++ [32]) ++ decS a1) ++ [32]) ++ decS a2) ++ [32]) ++ decS a3) ++ [32]) ++ decS a4) ++ [32]) ++ decS a5) ++ [32]) ++ decS a6) [32] (by simp only [List.length_append, List.length_cons, List.length_nil]; omega) w) (fun w => tsum_l (((((((((((((([99, 111, 110, 102, 32] ++ decS a0) ++ [32]) ++ decS a1) ++ [32]) ++ decS a2) ++ [32]) ++ decS a3) ++ [32]) ++ decS a4) ++ [32]) ++ decS a5) ++ [32]) ++ decS a6) ++ [32]) (decS a7) (by simp only [List.length_append, List.length_cons, List.length_nil]; omega) w) (fun w => tsum_l ((((((((((((((([99, 111, 110, 102, 32] ++ decS a0) ++ [32]) ++ decS a1) ++ [32]) ++ decS a2) ++ [32]) ++ decS a3) ++ [32]) ++ decS a4) ++ [32]) ++ decS a5) ++ [32]) ++ decS a6) ++ [32]) ++ decS a7) [32, 118, 105, 32] (by simp only [List.length_append, List.length_cons, List.length_nil]; omega) w) (fun w => tsum_l (((((((((((((((([99, 111, 110, 102, 32] ++ decS a0) ++ [32]) ++ decS a1) ++ [32]) ++ decS a2) ++ [32]) ++ decS a3) ++ [32]) ++ decS a4) ++ [32]) ++ decS a5) ++ [32]) ++ decS a6) ++ [32]) ++ decS a7) ++ [32, 118, 105, 32]) (wdL p) (by simp only [List.length_append, List.length_cons, List.length_nil]; omega) w) (fun w => tsum_l ((((((((((((((([99, 111, 110, 102, 32] ++ decS a0) ++ [32]) ++ decS a1) ++ [32]) ++ decS a2) ++ [32]) ++ decS a3) ++ [32]) ++ decS a4) ++ [32]) ++ decS a5) ++ [32]) ++ decS a6) ++ [32]) ++ decS a7) [32, 101, 109, 97, 99, 115, 32] (by simp only [List.length_append, List.length_cons, List.length_nil]; omega) w) (fun w => tsum_l (((((((((((((((([99, 111, 110, 102, 32] ++ decS a0) ++ [32]) ++ decS a1) ++ [32]) ++ decS a2) ++ [32]) ++ decS a3) ++ [32]) ++ decS a4) ++ [32]) ++ decS a5) ++ [32]) ++ decS a6) ++ [32]) ++ decS a7) ++ [32, 101, 109, 97, 99, 115, 32]) (wdL p) (by simp only [List.length_append, List.length_cons, List.length_nil]; omega) w)
  refine h.mono ?_
  rintro e w3 ⟨rfl, hb⟩
  refine ⟨?_, hb⟩
  rw [hdT_eq]
  cases vi <;> rfl
end Go.Proofs.YtangpdaoacjinaaDoor
set_option linter.unusedVariables false
set_option linter.unusedSimpArgs false
namespace Go.Proofs.YtangpdaoacjinaaDoor
open Go.RowKit
theorem hdT_cfT (a0 a1 a2 a3 a4 a5 a6 a7 : Int) (vi : Bool) (p : List UInt8) : hdT [a0, a1, a2, a3, a4, a5, a6, a7] vi p = cfT ([a0, a1, a2, a3, a4, a5, a6, a7], vi, p) := by
  unfold hdT hdL cfT cfLine cfL tjS cfK cfW
  cases vi <;> simp [List.flatMap_cons, List.append_assoc]
theorem ofs_tj (L : List (List UInt8)) : ofs L L.length = tjS (ofW :: L.map wdL) := by
  unfold ofs
  rw [List.take_length]
  show ofW ++ _ = ofW ++ _
  rw [List.flatMap_map]
theorem rline_any (x : Stp) (a : Option Addr) (c : Nat) (w : World) (hb : tsB x) (hx : x = plS x) (hS : StI w a (x.2.2.2.2.map mkL)) (l : List UInt8) (hl : stLn x = some l) :
    Calls Tryd.prog 22 #[tsV x a c] w (LnPost l w) := by
  obtain ⟨k, t, n, m, L⟩ := x
  obtain ⟨b1, b2, b3, b4, b5, b6⟩ := hb
  obtain ⟨W, hW, hWl⟩ : ∃ W, stW (k, t, n, m, L) = some W ∧ some (tjS W) = some l := by
    unfold stLn at hl
    split at hl
    · exact absurd hl (by simp)
    · rename_i W hW
      rw [if_pos hx] at hl
      exact ⟨W, hW, hl⟩
  clear hl
  unfold stW swW at hW
  unfold plS at hx
  unfold tsV
  dsimp only at *
  by_cases k0 : k = 0
  · subst k0
    simp only [if_true, Prod.mk.injEq, true_and, and_true] at hx
    obtain ⟨rfl, rfl, rfl⟩ := hx
    obtain rfl := Option.some.inj hW
    obtain rfl := Option.some.inj hWl
    have e : tjS [byW, wdL t] = [98, 121, 116, 101, 115, 32] ++ wdL t := by unfold tjS byW; simp
    rw [e]
    exact rline_by t a c w b1
  rw [if_neg k0] at hW hx
  by_cases k2 : k = 2
  · subst k2
    simp only [if_true, Prod.mk.injEq, true_and, and_true] at hx
    obtain ⟨rfl, rfl⟩ := hx
    obtain rfl := Option.some.inj hW
    obtain rfl := Option.some.inj hWl
    have e : tjS [reW, decS n, decS m] = [114, 101, 115, 105, 122, 101, 32] ++ decS n ++ [32] ++ decS m := by unfold tjS reW; simp
    rw [e]
    exact rline_re n m a c w b5 b6
  rw [if_neg k2] at hx
  by_cases k3 : k = 3
  · subst k3
    simp only [if_true, Prod.mk.injEq, true_and, and_true] at hx
    obtain ⟨rfl, rfl, rfl⟩ := hx
    obtain rfl := Option.some.inj hW
    obtain rfl := Option.some.inj hWl
    rw [← ofs_tj]
    exact rline_of a L.length c w L rfl b2 b3 hS
  rw [if_neg k3] at hx
  by_cases k4 : k = 4
  · subst k4
    by_cases n1 : n = 1
    · subst n1
      simp only [and_self, if_true, Prod.mk.injEq, true_and, and_true] at hx
      obtain ⟨rfl, rfl⟩ := hx
      obtain rfl := Option.some.inj hW
      obtain rfl := Option.some.inj hWl
      have e : tjS [loW, wdL t] = [108, 111, 97, 100, 32] ++ wdL t := by unfold tjS loW; simp
      rw [e]
      exact rline_lo2 t a c w b1
    · rw [if_neg (by rintro ⟨_, h⟩; exact n1 h)] at hx
      simp only [Prod.mk.injEq, true_and, and_true] at hx
      obtain ⟨rfl, rfl, rfl, rfl⟩ := hx
      obtain rfl := Option.some.inj hW
      obtain rfl := Option.some.inj hWl
      exact rline_lo1 a c w
  rw [if_neg (by rintro ⟨h, _⟩; exact k4 h)] at hx
  simp only [Prod.mk.injEq, true_and, and_true] at hx
  obtain ⟨rfl, rfl, rfl, rfl⟩ := hx
  by_cases k1 : k = 1
  · subst k1
    obtain rfl := Option.some.inj hW
    obtain rfl := Option.some.inj hWl
    exact rline_ti a c w
  rw [if_neg k1, if_neg k2, if_neg k3, if_neg k4] at hW
  by_cases k5 : k = 5
  · subst k5
    obtain rfl := Option.some.inj hW
    obtain rfl := Option.some.inj hWl
    exact rline_sa a c w
  rw [if_neg k5] at hW
  by_cases k6 : k = 6
  · subst k6
    obtain rfl := Option.some.inj hW
    obtain rfl := Option.some.inj hWl
    exact rline_po a c w
  rw [if_neg k6] at hW
  exact absurd hW (by simp)
end Go.Proofs.YtangpdaoacjinaaDoor
set_option linter.unusedVariables false
set_option linter.unusedSimpArgs false
namespace Go.Proofs.YtangpdaoacjinaaDoor
open Go.RowKit
theorem laC_0 (f : Cf) (C : List Crs) : laC f C 0 = cfT f ++ [10] := by unfold laC enT; simp
theorem crLn_txt (c : Crs) (l : List UInt8) : l ++ (crLn c ++ [10]) = l ++ [99, 114, 97, 115, 104, 32] ++ decS c.1 ++ [32] ++ wdL c.2 ++ [10] := by
  unfold crLn crLine tjS crW; simp
/-- What bounds a script of a text of 1500 bytes. -/
def scB4 (C : List Crs) (S : List Stp) : Prop := C.length ≤ 200 ∧ S.length ≤ 400 ∧ (∀ c ∈ C, in64 c.1 ∧ c.2.length ≤ 300000) ∧ ∀ x ∈ S, tsB x
theorem laS_len4 {f : Cf} {C : List Crs} {S : List Stp} (h1 : f.1.length = 8) (h2 : f.2.2.length ≤ 300000) (hB : scB4 C S) (k : Nat) : (laS f C S k).length ≤ 100000000000000 := by
  obtain ⟨hc, hs, hC, hS⟩ := hB
  unfold laS
  have hq : ∀ q ∈ cfT f :: (C.map crLn ++ (S.take k).map stLs), q.length ≤ 100001 * 1000001 := by
    intro q hq
    rcases List.mem_cons.1 hq with rfl | hq
    · exact Nat.le_trans (cfT_len h1 h2) (by omega)
    · rcases List.mem_append.1 hq with hq | hq
      · obtain ⟨c, hc, rfl⟩ := List.mem_map.1 hq
        have := crLn_len (hC c hc).2
        omega
      · obtain ⟨x, hx, rfl⟩ := List.mem_map.1 hq
        exact stLs_len (hS x (List.mem_of_mem_take hx))
  have := enT_len hq
  have hn : (cfT f :: (C.map crLn ++ (S.take k).map stLs)).length ≤ 601 := by
    rw [List.length_cons, List.length_append, List.length_map, List.length_map, List.length_take]; omega
  refine Nat.le_trans this (Nat.le_trans (Nat.mul_le_mul_right _ hn) ?_)
  omega
theorem stLn_ne {x : Stp} {l : List UInt8} (h : stLn x = some l) : l ≠ [] := by
  unfold stLn at h
  split at h
  · exact absurd h (by simp)
  · rename_i W hW
    split at h
    · obtain rfl := Option.some.inj h
      unfold stW swW at hW
      (repeat' split at hW) <;> first
        | (obtain rfl := Option.some.inj hW; simp [tjS, byW, tiW, reW, ofW, loW, saW, poW])
        | cases hW
    · exact absurd h (by simp)
set_option maxRecDepth 100000 in
set_option maxHeartbeats 8000000 in
theorem rtext_any (n0 n1 n2 n3 n4 n5 n6 n7 : Int) (vi : Bool) (p : List UInt8) (C : List Crs) (S : List Stp) (ca sa : Option Addr) (nc cc ns sc : Nat) (w : World) (hnc : C.length = nc) (hns : S.length = ns) (hp : p.length ≤ 300000) (hN : ∀ x, x ∈ [n0, n1, n2, n3, n4, n5, n6, n7] → in64 x) (hB : scB4 C S) (hC : CrI w ca C) (hS : SpI w sa S)
    (hP : ∀ x ∈ S, x = plS x ∧ (stLn x).isSome = true) :
    Calls Tryd.prog 18 #[.agg #[.int .i64 n0, .int .i64 n1, .int .i64 n2, .int .i64 n3, .int .i64 n4, .int .i64 n5, .int .i64 n6, .int .i64 n7, .bool vi, .string (mkL p), .slice ca nc cc, .slice sa ns sc]] w (LnPost (laS ([n0, n1, n2, n3, n4, n5, n6, n7], vi, p) C S S.length) w) := by
  obtain ⟨f, hf⟩ : ∃ f : Cf, ([n0, n1, n2, n3, n4, n5, n6, n7], vi, p) = f := ⟨_, rfl⟩
  have hf8 : f.1.length = 8 := by rw [← hf]; rfl
  have hfp : f.2.2.length ≤ 300000 := by rw [← hf]; exact hp
  have HD0 := fun w => rhead_any n0 n1 n2 n3 n4 n5 n6 n7 vi p w (hN _ (by simp)) (hN _ (by simp)) (hN _ (by simp)) (hN _ (by simp)) (hN _ (by simp)) (hN _ (by simp)) (hN _ (by simp)) (hN _ (by simp)) hp
  rw [hdT_cfT, hf] at HD0
  have LC := Lib.hid (fun k => laC_len hf8 hfp hB.2.2.1 hB.1 k)
  have LS := Lib.hid (fun k => laS_len4 hf8 hfp hB k)
  rw [hf]
  have b0 := below_alloc w (.cells #[.int .i64 n0, .int .i64 n1, .int .i64 n2, .int .i64 n3, .int .i64 n4, .int .i64 n5, .int .i64 n6, .int .i64 n7, .bool vi, .string (mkL p), .slice ca nc cc, .slice sa ns sc] 33)
  have r0 := heap_alloc_new w (.cells #[.int .i64 n0, .int .i64 n1, .int .i64 n2, .int .i64 n3, .int .i64 n4, .int .i64 n5, .int .i64 n6, .int .i64 n7, .bool vi, .string (mkL p), .slice ca nc cc, .slice sa ns sc] 33)
  obtain ⟨W0, hW0⟩ : ∃ W0, w.alloc (.cells #[.int .i64 n0, .int .i64 n1, .int .i64 n2, .int .i64 n3, .int .i64 n4, .int .i64 n5, .int .i64 n6, .int .i64 n7, .bool vi, .string (mkL p), .slice ca nc cc, .slice sa ns sc] 33) = W0 := ⟨_, rfl⟩
  rw [hW0] at b0 r0
  have N1 := Lib.hid b0
  have R1 := Lib.hid r0
  have HBs := Lib.hid hB
  have HC := Lib.hid hC
  have HS := Lib.hid hS
  have hnc200 : nc ≤ 200 := by have := hB.1; omega
  have hns200 : ns ≤ 400 := by have := hB.2.1; omega
  have HNC := Lib.hid hnc
  have HNS := Lib.hid hns
  have HP := Lib.hid hP
  have HD : Hid (∀ w, Calls Tryd.prog 63 #[.agg #[.int .i64 n0, .int .i64 n1, .int .i64 n2, .int .i64 n3, .int .i64 n4, .int .i64 n5, .int .i64 n6, .int .i64 n7, .bool vi, .string (mkL p)]] w fun e w' => e = .returned (.string (mkL (cfT f))) ∧ Below w.heap.size w w') := Lib.hid HD0
  have hl0 := LC.out 0
  have S0 : ∀ w, (Op.stringOp .add (mkL (cfT f)) ⟨#[10]⟩).run Tryd.prog w = .ok (.string (mkL (laC f C 0))) w := fun w => by
    rw [laC_0] at hl0 ⊢
    rw [List.length_append] at hl0
    exact tsum_l (cfT f) [10] (by simp only [List.length_cons, List.length_nil]; omega) w
  have zz := fun i => cell_of_row _ _ i _ _ _ r0
  have f0 := zz 0; have f1 := zz 1; have f2 := zz 2; have f3 := zz 3; have f4 := zz 4; have f5 := zz 5; have f6 := zz 6; have f7 := zz 7; have f8 := zz 8; have f9 := zz 9
  dsimp at f0 f1 f2 f3 f4 f5 f6 f7 f8 f9
  generalize mkL (cfT f) = y0 at HD S0
  obtain ⟨SP, hSP⟩ : ∃ SP, LnPost (laS f C S S.length) w = SP := ⟨_, rfl⟩
  rw [hSP]
  have HSP := Lib.hid hSP
  clear zz b0 r0 hSP hB hC hS hnc hns hP hf8 hfp hp hN HD0 hl0
  go_enter Tryd.func18, Tryd.ntmps18
  go_upto_region 2 with (go_at_call 63; refine (HD.out _).mono ?_; rintro e w2 ⟨rfl, hb2⟩)
  have N2 := Lib.hid (seqB N1.out hb2)
  have R2 := Lib.hid (blk_below R1.out hb2)
  obtain ⟨CF, hCF⟩ : ∃ CF, #[Value.int .i64 n0, .int .i64 n1, .int .i64 n2, .int .i64 n3, .int .i64 n4, .int .i64 n5, .int .i64 n6, .int .i64 n7, .bool vi, .string (mkL p), .slice ca nc cc, .slice sa ns sc] = CF := ⟨_, rfl⟩
  have q10 : CF[10]? = some (.slice ca nc cc) := by rw [← hCF]; rfl
  have q11 : CF[11]? = some (.slice sa ns sc) := by rw [← hCF]; rfl
  rw [hCF] at R2
  have Q10 := Lib.hid q10; have Q11 := Lib.hid q11
  clear hb2 N1 R1 HD S0 hCF q10 q11 f0 f1 f2 f3 f4 f5 f6 f7 f8 f9 hW0
  go_wp2
  go_loopw [3, 4] (fun sv iv wr => ∃ k : Nat, k ≤ nc ∧ iv = .int .i64 (k : Int) ∧ sv = .string (mkL (laC f C k)) ∧ Hid (wr.heap[w.heap.size]? = some (.cells CF 33 (0, 0))) ∧ Hid (Below w.heap.size w wr)) (fun _ iv _ => nc - (intOf iv).toNat)
  case atStart => exact ⟨0, Nat.zero_le _, rfl, rfl, R2, N2⟩
  case round =>
    obtain ⟨k, hk, rfl, rfl, HR, HB⟩ := hrel
    clear N2 R2
    have f10 := (cell_of_row _ _ 10 _ _ _ HR.out).trans Q10.out
    by_cases hlt : k < nc
    · have hk1 : (k : Int) < nc := by omega
      have hk0 : (0 : Int) ≤ k := by omega
      have hlt' : k < C.length := by rw [HNC.out]; exact hlt
      obtain ⟨bb, off, ai, ci, rfl, hblt, c0, c1, hcv⟩ := (HC.out.below HB.out) k hlt'
      have hri := HBs.out.2.2.1 _ (getD_memX (0, []) hlt')
      have htk := laC_succ f C k hlt'
      have hll := LC.out k
      have hl2 := LC.out (k + 1)
      obtain ⟨v, hv⟩ : ∃ v, C.getD k (0, []) = v := ⟨_, rfl⟩
      rw [hv] at c0 c1 hcv hri htk
      obtain ⟨at', keep⟩ := v
      dsimp only at c0 c1 hcv hri
      rw [crLn_txt] at htk
      dsimp only at htk
      rw [htk] at hl2
      simp only [List.length_append] at hl2
      obtain ⟨m, hm⟩ : ∃ m, keep.length = m := ⟨_, rfl⟩
      rw [hm] at c1 hcv
      have CV : ∀ (n : Nat) , (convert 97 9 (.slice ai m ci)).run Tryd.prog (wr.drewN n) = .ok (.string (mkL keep)) (wr.drewN n) := fun n => hcv _ (drewN_below (Below.refl _ _) n) _ rfl
      have D := Lib.hid (fun w => rdec_any at' w hri.1)
      have W := Lib.hid (fun w => rword_ref keep w (by omega))
      have S1 : ∀ w, (Op.stringOp .add (mkL (laC f C k)) ⟨#[99, 114, 97, 115, 104, 32]⟩).run Tryd.prog w = .ok (.string (mkL (laC f C k ++ [99, 114, 97, 115, 104, 32]))) w := fun w => tsum_l _ [99, 114, 97, 115, 104, 32] (by simp only [List.length_append, List.length_cons, List.length_nil] at hl2 ⊢; omega) w
      have S2 : ∀ w, (Op.stringOp .add (mkL (laC f C k ++ [99, 114, 97, 115, 104, 32])) (mkL (decS at'))).run Tryd.prog w = .ok (.string (mkL (laC f C k ++ [99, 114, 97, 115, 104, 32] ++ decS at'))) w := fun w => tsum_l _ _ (by simp only [List.length_append, List.length_cons, List.length_nil] at hl2 ⊢; omega) w
      have S3 : ∀ w, (Op.stringOp .add (mkL (laC f C k ++ [99, 114, 97, 115, 104, 32] ++ decS at')) ⟨#[32]⟩).run Tryd.prog w = .ok (.string (mkL (laC f C k ++ [99, 114, 97, 115, 104, 32] ++ decS at' ++ [32]))) w := fun w => tsum_l _ [32] (by simp only [List.length_append, List.length_cons, List.length_nil] at hl2 ⊢; omega) w
      have S4 : ∀ w, (Op.stringOp .add (mkL (laC f C k ++ [99, 114, 97, 115, 104, 32] ++ decS at' ++ [32])) (mkL (wdL keep))).run Tryd.prog w = .ok (.string (mkL (laC f C k ++ [99, 114, 97, 115, 104, 32] ++ decS at' ++ [32] ++ wdL keep))) w := fun w => tsum_l _ _ (by simp only [List.length_append, List.length_cons, List.length_nil] at hl2 ⊢; omega) w
      have S5 : ∀ w, (Op.stringOp .add (mkL (laC f C k ++ [99, 114, 97, 115, 104, 32] ++ decS at' ++ [32] ++ wdL keep)) ⟨#[10]⟩).run Tryd.prog w = .ok (.string (mkL (laC f C (k + 1)))) w := fun w => by
        rw [htk]
        exact tsum_l _ [10] (by simp only [List.length_append, List.length_cons, List.length_nil] at hl2 ⊢; omega) w
      obtain ⟨Y, hY⟩ : ∃ Y, mkL (laC f C (k + 1)) = Y := ⟨_, rfl⟩
      have HY := Lib.hid hY
      rw [hY] at S5
      clear hY htk hl2 hll hcv hri hv hm
      obtain ⟨y1, e1⟩ : ∃ y, mkL (laC f C k ++ [99, 114, 97, 115, 104, 32]) = y := ⟨_, rfl⟩
      obtain ⟨y2, e2⟩ : ∃ y, mkL (laC f C k ++ [99, 114, 97, 115, 104, 32] ++ decS at') = y := ⟨_, rfl⟩
      obtain ⟨y3, e3⟩ : ∃ y, mkL (laC f C k ++ [99, 114, 97, 115, 104, 32] ++ decS at' ++ [32]) = y := ⟨_, rfl⟩
      obtain ⟨y4, e4⟩ : ∃ y, mkL (laC f C k ++ [99, 114, 97, 115, 104, 32] ++ decS at' ++ [32] ++ wdL keep) = y := ⟨_, rfl⟩
      rw [e1] at S1 S2
      rw [e2] at S2 S3
      rw [e3] at S3 S4
      rw [e4] at S4 S5
      clear e1 e2 e3 e4
      generalize mkL (laC f C k) = yk at *
      generalize mkL (decS at') = dv at *
      generalize mkL (wdL keep) = wv at *
      generalize mkL keep = kv at *
      clear hlt'
      go_upto_region 5 with fail
      go_quiet ((first | (go_at_call 64; (with_reducible refine qsyU (D.out _) ?_); exact ⟨_, rfl⟩) | (go_at_call 15; (with_reducible refine qsyU (W.out _) ?_); exact ⟨_, rfl⟩)))
      go_wp2
      go_roundw
      case rel => exact ⟨k + 1, by omega, by go_num, by rw [HY.out], Lib.hid (by first | exact HR.out | (rw [← HR.out]; rfl)), Lib.hid (drewN_below HB.out _)⟩
      case measure => (simp [intOf]; try omega)
    · obtain rfl : k = nc := by omega
      have hmm : ¬ (k : Int) < (k : Int) := by omega
      have HE := Lib.hid (laC_end f C S k HNC.out)
      have f11 := (cell_of_row _ _ 11 _ _ _ HR.out).trans Q11.out
      rw [HE.out]
      generalize hy : mkL (laS f C S 0) = yz
      have HYZ := Lib.hid hy
      clear hy
      go_wp2
      clear f10 f11
      go_loopw [3, 5, 6] (fun sv iv _ wv => ∃ j : Nat, j ≤ ns ∧ iv = .int .i64 (j : Int) ∧ sv = .string (mkL (laS f C S j)) ∧ Hid (wv.heap[w.heap.size]? = some (.cells CF 33 (0, 0))) ∧ Hid (Below w.heap.size w wv)) (fun _ iv _ _ => ns - (intOf iv).toNat)
      case atStart => exact ⟨0, Nat.zero_le _, rfl, by rw [HYZ.out], HR, HB⟩
      case round =>
        clear HR HB
        obtain ⟨j, hj, rfl, rfl, HR, HB⟩ := hrel
        have f11 := (cell_of_row _ _ 11 _ _ _ HR.out).trans Q11.out
        by_cases hlt : j < ns
        · have hk1 : (j : Int) < ns := by omega
          have hk0 : (0 : Int) ≤ j := by omega
          have hlt' : j < S.length := by rw [HNS.out]; exact hlt
          obtain ⟨bb, off, ai, ci, rfl, hblt, c0, c1, c2, c3, c4, hsi⟩ := (HS.out.below HB.out) j hlt'
          have hmem := getD_memX st0 hlt'
          have hri := HBs.out.2.2.2 _ hmem
          have hpl := HP.out _ hmem
          have htk := laS_succ f C S j hlt'
          have hll := LS.out (j + 1)
          obtain ⟨v, hv⟩ : ∃ v, S.getD j st0 = v := ⟨_, rfl⟩
          rw [hv] at c0 c1 c2 c3 c4 hsi hri htk hpl
          obtain ⟨kk, tt, nn, mm, ll⟩ := v
          dsimp only at c0 c1 c2 c3 c4 hsi
          obtain ⟨l, hl⟩ := Option.isSome_iff_exists.1 hpl.2
          have TX0 := rline_any (kk, tt, nn, mm, ll) ai ci wr hri hpl.1 hsi l hl
          unfold tsV LnPost at TX0
          dsimp only at TX0
          obtain ⟨m, hm⟩ : ∃ m, ll.length = m := ⟨_, rfl⟩
          rw [hm] at c4 TX0
          have TX := Lib.hid TX0
          rw [show stLs (kk, tt, nn, mm, ll) = l by unfold stLs; rw [hl]; rfl] at htk
          rw [htk] at hll
          simp only [List.length_append] at hll
          have hne := stLn_ne hl
          have S1 : ∀ w, (Op.stringOp .add (mkL (laS f C S j)) (mkL l)).run Tryd.prog w = .ok (.string (mkL (laS f C S j ++ l))) w := fun w => tsum_l _ _ (by simp only [List.length_append, List.length_cons, List.length_nil] at hll ⊢; omega) w
          have S2 : ∀ w, (Op.stringOp .add (mkL (laS f C S j ++ l)) ⟨#[10]⟩).run Tryd.prog w = .ok (.string (mkL (laS f C S (j + 1)))) w := fun w => by
            rw [htk, ← List.append_assoc]
            exact tsum_l _ [10] (by simp only [List.length_append, List.length_cons, List.length_nil] at hll ⊢; omega) w
          obtain ⟨Y, hY⟩ : ∃ Y, mkL (laS f C S (j + 1)) = Y := ⟨_, rfl⟩
          have HY := Lib.hid hY
          rw [hY] at S2
          have g1 := (mkL_ne hne : ¬ mkL l = mkL [])
          have g2 : (mkL l).toList.isEmpty = false := by
            rw [mkL_toList]
            cases l with
            | nil => exact absurd rfl hne
            | cons a b => rfl
          have g3 : ¬ (mkL l).toList = [] := by rw [mkL_toList]; exact hne
          clear hY htk hll hri hv hm hpl hl hmem hsi TX0 hne hlt'
          generalize mkL (laS f C S j ++ l) = y1 at *
          generalize mkL (laS f C S j) = y0 at *
          generalize mkL l = lv at *
          go_wp2_with (go_at_call 22; refine TX.out.mono ?_; rintro e w2 ⟨rfl, hb2⟩; have N2 := Lib.hid (seqB HB.out hb2); have R2 := Lib.hid (blk_below HR.out hb2); clear hb2 TX)
          go_roundw
          case rel => exact ⟨j + 1, by omega, by go_num, by rw [HY.out], R2, N2⟩
          case measure => (simp [intOf]; try omega)
        · obtain rfl : j = ns := by omega
          have hmm : ¬ (j : Int) < (j : Int) := by omega
          have HF := Lib.hid (show laS f C S S.length = laS f C S j by rw [HNS.out])
          generalize hy : mkL (laS f C S j) = yy
          have HYY := Lib.hid hy
          clear hy
          go_wp2
          rw [← HSP.out]
          exact ⟨by rw [HF.out, HYY.out], HB.out⟩
end Go.Proofs.YtangpdaoacjinaaDoor
set_option linter.unusedVariables false
set_option linter.unusedSimpArgs false
namespace Go.Proofs.YtangpdaoacjinaaDoor
open Go.RowKit
set_option maxRecDepth 100000 in
set_option maxHeartbeats 8000000 in
theorem rsame_zero (w : World) : Calls Tryd.prog 20 #[.agg #[.int .i64 0, .int .i64 0, .int .i64 0, .int .i64 0, .int .i64 0, .int .i64 0, .int .i64 0, .int .i64 0, .bool false, .string ⟨#[]⟩, .slice none 0 0, .slice none 0 0], .agg #[.int .i64 0, .int .i64 0, .int .i64 0, .int .i64 0, .int .i64 0, .int .i64 0, .int .i64 0, .int .i64 0, .bool false, .string ⟨#[]⟩, .slice none 0 0, .slice none 0 0]] w fun e w' => e = .returned (.bool true) ∧ Below w.heap.size w w' := by
  have b0 := below_alloc w (.cells #[.int .i64 0, .int .i64 0, .int .i64 0, .int .i64 0, .int .i64 0, .int .i64 0, .int .i64 0, .int .i64 0, .bool false, .string ⟨#[]⟩, .slice none 0 0, .slice none 0 0] 33)
  have r0 := heap_alloc_new w (.cells #[.int .i64 0, .int .i64 0, .int .i64 0, .int .i64 0, .int .i64 0, .int .i64 0, .int .i64 0, .int .i64 0, .bool false, .string ⟨#[]⟩, .slice none 0 0, .slice none 0 0] 33)
  obtain ⟨W0, hW0⟩ : ∃ W0, w.alloc (.cells #[.int .i64 0, .int .i64 0, .int .i64 0, .int .i64 0, .int .i64 0, .int .i64 0, .int .i64 0, .int .i64 0, .bool false, .string ⟨#[]⟩, .slice none 0 0, .slice none 0 0] 33) = W0 := ⟨_, rfl⟩
  rw [hW0] at b0 r0
  have b1 := below_alloc W0 (.cells #[.int .i64 0, .int .i64 0, .int .i64 0, .int .i64 0, .int .i64 0, .int .i64 0, .int .i64 0, .int .i64 0, .bool false, .string ⟨#[]⟩, .slice none 0 0, .slice none 0 0] 33)
  have r1 := blk_below r0 b1
  have r2 := heap_alloc_new W0 (.cells #[.int .i64 0, .int .i64 0, .int .i64 0, .int .i64 0, .int .i64 0, .int .i64 0, .int .i64 0, .int .i64 0, .bool false, .string ⟨#[]⟩, .slice none 0 0, .slice none 0 0] 33)
  have B1 := Lib.hid (seqB b0 b1)
  have zz := fun i => cell_of_row _ _ i _ _ _ r1
  have f0 := zz 0; have f1 := zz 1; have f2 := zz 2; have f3 := zz 3; have f4 := zz 4; have f5 := zz 5; have f6 := zz 6; have f7 := zz 7; have f8 := zz 8; have f9 := zz 9; have f10 := zz 10; have f11 := zz 11
  have yy := fun i => cell_of_row _ _ i _ _ _ r2
  have g0 := yy 0; have g1 := yy 1; have g2 := yy 2; have g3 := yy 3; have g4 := yy 4; have g5 := yy 5; have g6 := yy 6; have g7 := yy 7; have g8 := yy 8; have g9 := yy 9; have g10 := yy 10; have g11 := yy 11
  dsimp at f0 f1 f2 f3 f4 f5 f6 f7 f8 f9 f10 f11 g0 g1 g2 g3 g4 g5 g6 g7 g8 g9 g10 g11
  clear zz yy b0 b1 r0 r1 r2
  go_enter Tryd.func20, Tryd.ntmps20
  go_wp2
  go_loopw [5] (fun iv wr => iv = .int .i64 0 ∧ wr = W0.alloc (.cells #[.int .i64 0, .int .i64 0, .int .i64 0, .int .i64 0, .int .i64 0, .int .i64 0, .int .i64 0, .int .i64 0, .bool false, .string ⟨#[]⟩, .slice none 0 0, .slice none 0 0] 33)) (fun _ _ => 0)
  case atStart => exact ⟨rfl, rfl⟩
  case round =>
    obtain ⟨rfl, rfl⟩ := hrel
    go_wp2
    go_loopw [6] (fun iv wr => iv = .int .i64 0 ∧ wr = W0.alloc (.cells #[.int .i64 0, .int .i64 0, .int .i64 0, .int .i64 0, .int .i64 0, .int .i64 0, .int .i64 0, .int .i64 0, .bool false, .string ⟨#[]⟩, .slice none 0 0, .slice none 0 0] 33)) (fun _ _ => 0)
    case atStart => exact ⟨rfl, rfl⟩
    case round =>
      obtain ⟨rfl, rfl⟩ := hrel
      go_wp2
      first
        | exact ⟨rfl, B1.out⟩
        | (go_ret; exact ⟨rfl, B1.out⟩)
end Go.Proofs.YtangpdaoacjinaaDoor
set_option linter.unusedVariables false
set_option linter.unusedSimpArgs false
namespace Go.Proofs.YtangpdaoacjinaaDoor
open Go.RowKit
theorem enT_mem {L : List (List UInt8)} {q : List UInt8} (h : q ∈ L) : q.length + 1 ≤ (enT L).length := by
  induction L with
  | nil => cases h
  | cons a r ih =>
    unfold enT at *
    rw [List.flatMap_cons, List.length_append, List.length_append, List.length_singleton]
    rcases List.mem_cons.1 h with rfl | h
    · omega
    · have := ih h; omega
theorem enT_cnt {L : List (List UInt8)} {m : Nat} (h : ∀ q ∈ L, m ≤ q.length + 1) : L.length * m ≤ (enT L).length := by
  induction L with
  | nil => simp
  | cons a r ih =>
    have h1 := ih (fun q hq => h q (List.mem_cons_of_mem _ hq))
    have h2 := h a (List.mem_cons_self ..)
    unfold enT at *
    rw [List.flatMap_cons, List.length_append, List.length_append, List.length_singleton, List.length_cons, Nat.add_mul]
    omega
theorem tjS_mem {W : List (List UInt8)} {q : List UInt8} (h : q ∈ W) : q.length ≤ (tjS W).length := by
  cases W with
  | nil => cases h
  | cons a r =>
    show _ ≤ (a ++ r.flatMap fun y => 32 :: y).length
    rw [List.length_append]
    rcases List.mem_cons.1 h with rfl | h
    · omega
    · have : q.length ≤ (r.flatMap fun y => (32 : UInt8) :: y).length := by
        induction r with
        | nil => cases h
        | cons b r ih =>
          rw [List.flatMap_cons, List.length_append, List.length_cons]
          rcases List.mem_cons.1 h with rfl | h
          · omega
          · have := ih (List.mem_cons_of_mem _ h) h; omega
      omega
theorem tjS_cnt (W : List (List UInt8)) : W.length ≤ (tjS W).length + 1 := by
  cases W with
  | nil => simp
  | cons a r =>
    show _ ≤ (a ++ r.flatMap fun y => 32 :: y).length + 1
    rw [List.length_append, List.length_cons]
    have : r.length ≤ (r.flatMap fun y => (32 : UInt8) :: y).length := by
      induction r with
      | nil => simp
      | cons b r ih => rw [List.flatMap_cons, List.length_append, List.length_cons, List.length_cons]; omega
    omega
theorem wdB_ge (b : UInt8) : 1 ≤ (wdB b).length := by
  have key : ∀ x : Fin 256, 1 ≤ (wdB (UInt8.ofNat x.val)).length := by decide
  have k := key ⟨b.toNat, b.toNat_lt⟩
  rwa [show UInt8.ofNat (⟨b.toNat, b.toNat_lt⟩ : Fin 256).val = b from UInt8.ofNat_toNat] at k
theorem wdL_ge (s : List UInt8) : s.length + 1 ≤ (wdL s).length := by
  unfold wdL
  rw [List.length_cons]
  have : s.length ≤ (s.flatMap wdB).length := by
    induction s with
    | nil => simp
    | cons a r ih =>
      have := wdB_ge a
      rw [List.flatMap_cons, List.length_append, List.length_cons]; omega
  omega
theorem stLn_in {x : Stp} {l : List UInt8} (hx : x = plS x) (h : stLn x = some l) : x.2.1.length ≤ l.length ∧ x.2.2.2.2.length ≤ l.length ∧ (∀ y ∈ x.2.2.2.2, y.length ≤ l.length) ∧ 4 ≤ l.length := by
  obtain ⟨W, hW, rfl⟩ : ∃ W, stW x = some W ∧ tjS W = l := by
    unfold stLn at h
    split at h
    · exact absurd h (by simp)
    · rename_i W hW
      rw [if_pos hx] at h
      exact ⟨W, hW, Option.some.inj h⟩
  obtain ⟨k, t, n, m, L⟩ := x
  unfold plS at hx
  unfold stW swW at hW
  dsimp only at *
  have T := wdL_ge t
  by_cases k0 : k = 0
  · subst k0
    simp only [if_true, Prod.mk.injEq, true_and, and_true] at hx
    obtain ⟨rfl, rfl, rfl⟩ := hx
    obtain rfl := Option.some.inj hW
    have h1 := tjS_mem (W := [byW, wdL t]) (q := wdL t) (by simp)
    have h2 := tjS_mem (W := [byW, wdL t]) (q := byW) (by simp)
    have h3 : byW.length = 5 := rfl
    exact ⟨by omega, by simp, by simp, by omega⟩
  rw [if_neg k0] at hW hx
  by_cases k3 : k = 3
  · subst k3
    simp only [if_true, Prod.mk.injEq, true_and, and_true, Int.reduceEq, if_false] at hx
    obtain ⟨rfl, rfl, rfl⟩ := hx
    obtain rfl := Option.some.inj hW
    have h1 := tjS_cnt (ofW :: L.map wdL)
    rw [List.length_cons, List.length_map] at h1
    have h2 := tjS_mem (W := ofW :: L.map wdL) (q := ofW) (by simp)
    have h3 : ofW.length = 5 := rfl
    refine ⟨by simp, by omega, fun y hy => ?_, by omega⟩
    have h4 := tjS_mem (W := ofW :: L.map wdL) (q := wdL y) (List.mem_cons_of_mem _ (List.mem_map_of_mem hy))
    have h5 := wdL_ge y
    omega
  have hs : ∀ q : List UInt8, q ∈ W → 4 ≤ q.length → 4 ≤ (tjS W).length := fun q hq h4 => Nat.le_trans h4 (tjS_mem hq)
  by_cases k4 : k = 4 ∧ n = 1
  · obtain ⟨rfl, rfl⟩ := k4
    simp only [and_self, if_true, Prod.mk.injEq, true_and, and_true, Int.reduceEq, if_false] at hx
    obtain ⟨rfl, rfl⟩ := hx
    obtain rfl := Option.some.inj hW
    have h1 := tjS_mem (W := [loW, wdL t]) (q := wdL t) (by simp)
    exact ⟨by omega, by simp, by simp, hs loW (by simp) (by decide)⟩
  rw [if_neg k3, if_neg k4] at hx
  have hz : t = [] ∧ L = [] := by
    split at hx
    · simp only [Prod.mk.injEq] at hx; exact ⟨hx.2.1, hx.2.2.2.2⟩
    · simp only [Prod.mk.injEq] at hx; exact ⟨hx.2.1, hx.2.2.2.2⟩
  obtain ⟨rfl, rfl⟩ := hz
  refine ⟨by simp, by simp, by simp, ?_⟩
  (repeat' split at hW) <;> first
    | (obtain rfl := Option.some.inj hW; exact hs _ (List.mem_cons_self ..) (by decide))
    | cases hW
theorem cfT_p (f : Cf) : f.2.2.length ≤ (cfT f).length := by
  have h := tjS_mem (W := cfL f.1 8 ++ [cfK f.2.1, wdL f.2.2]) (q := wdL f.2.2) (by simp)
  have := wdL_ge f.2.2
  unfold cfT cfLine
  omega
theorem crLn_in (c : Crs) : c.2.length ≤ (crLn c).length ∧ 7 ≤ (crLn c).length := by
  unfold crLn crLine
  have h1 := tjS_mem (W := [crW, decS c.1, wdL c.2]) (q := wdL c.2) (by simp)
  have h2 := wdL_ge c.2
  refine ⟨by omega, ?_⟩
  have e : (tjS [crW, decS c.1, wdL c.2]).length = 5 + (1 + (decS c.1).length + (1 + (wdL c.2).length)) := by
    show (crW ++ _).length = _
    simp [crW]
    omega
  omega
theorem pr_bnd {t : List UInt8} {x : Scr} (h : prT t = some x) (hl : t.length ≤ 1500) :
    x.1.2.2.length ≤ 300000 ∧ cfOk x.1 ∧ scB4 x.2.1 x.2.2 ∧ (∀ y ∈ x.2.2, y = plS y ∧ (stLn y).isSome = true) ∧ laS x.1 x.2.1 x.2.2 x.2.2.length = t := by
  obtain ⟨hs, ⟨hc, hC, hS⟩, hp⟩ := prT_some h
  obtain ⟨f, C, S⟩ := x
  dsimp only at *
  unfold scT at hs
  split at hs
  case isFalse => cases hs
  rename_i ha
  have ht := Option.some.inj hs
  dsimp only at ht
  rw [List.all_eq_true] at ha
  have hin : ∀ q ∈ cfT f :: (C.map crLn ++ S.map stLs), q.length ≤ 1500 := fun q hq => by
    have := enT_mem hq
    rw [ht] at this; omega
  have hst : ∀ y ∈ S, y.2.1.length ≤ 1500 ∧ y.2.2.2.2.length ≤ 1500 ∧ (∀ z ∈ y.2.2.2.2, z.length ≤ 1500) ∧ 4 ≤ (stLs y).length := fun y hy => by
    obtain ⟨l, e⟩ := Option.isSome_iff_exists.1 (ha y hy)
    have h1 := stLn_in (hp y hy) e
    have h2 := hin (stLs y) (List.mem_cons_of_mem _ (List.mem_append_right _ (List.mem_map_of_mem hy)))
    have h3 : stLs y = l := by unfold stLs; rw [e]; rfl
    rw [h3] at h2 ⊢
    exact ⟨by omega, by omega, fun z hz => Nat.le_trans (h1.2.2.1 z hz) h2, h1.2.2.2⟩
  have hsum : (enT (C.map crLn)).length + (enT (S.map stLs)).length ≤ 1500 := by
    have h1 : enT (cfT f :: (C.map crLn ++ S.map stLs)) = (cfT f ++ [10]) ++ (enT (C.map crLn) ++ enT (S.map stLs)) := by
      unfold enT
      rw [List.flatMap_cons, List.flatMap_append]
    have h2 : t.length = (cfT f ++ [10]).length + ((enT (C.map crLn)).length + (enT (S.map stLs)).length) := by rw [← ht, h1, List.length_append, List.length_append (bs := enT (S.map stLs))]
    omega
  have n1 := enT_cnt (L := C.map crLn) (m := 8) (fun q hq => by
    obtain ⟨c, _, rfl⟩ := List.mem_map.1 hq
    have := (crLn_in c).2; omega)
  have n2 := enT_cnt (L := S.map stLs) (m := 5) (fun q hq => by
    obtain ⟨y, hy, rfl⟩ := List.mem_map.1 hq
    have := (hst y hy).2.2.2; omega)
  rw [List.length_map] at n1 n2
  have hpf := hin _ (List.mem_cons_self ..)
  have hpp := cfT_p f
  refine ⟨by omega, hc, ⟨by omega, by omega, fun c hc => ⟨hC c hc, ?_⟩, fun y hy => ?_⟩, fun y hy => ⟨hp y hy, ha y hy⟩, ?_⟩
  · have h1 := hin (crLn c) (List.mem_cons_of_mem _ (List.mem_append_left _ (List.mem_map_of_mem hc)))
    have := (crLn_in c).1; omega
  · obtain ⟨h1, h2, h3, _⟩ := hst y hy
    exact ⟨by omega, by omega, fun z hz => by have := h3 z hz; omega, hS y hy⟩
  · unfold laS
    rw [List.take_length]
    exact ht
end Go.Proofs.YtangpdaoacjinaaDoor
set_option linter.unusedVariables false
set_option linter.unusedSimpArgs false
namespace Go.Proofs.YtangpdaoacjinaaDoor
open Go.RowKit
theorem tp_last (q : List UInt8) (x : UInt8) : (∀ wx, (Instr.index 9 (.string (mkL (q ++ [x]))) (.int .i64 (((mkL (q ++ [x])).size : Int) - 1))).run Tryd.prog wx = .ok (.int .u8 (x.toNat : Int)) wx) ∧ (mkL (q ++ [x])).toList.isEmpty = false ∧ ¬ mkL (q ++ [x]) = mkL [] ∧ ¬ (mkL (q ++ [x])).toList = [] ∧ ∀ (h : (mkL (q ++ [x])).size - 1 < (mkL (q ++ [x])).size), ((mkL (q ++ [x]))[(mkL (q ++ [x])).size - 1]'h) = x := by
  have hsz : (mkL (q ++ [x])).size = q.length + 1 := by rw [mkL_size, List.length_append, List.length_singleton]
  have this : ∀ (i : Nat) (h : i < (mkL (q ++ [x])).size), i = q.length → ((mkL (q ++ [x]))[i]'h) = x := fun i h e => by
    subst e
    show (mkL (q ++ [x])).data[q.length] = x
    simp [mkL]
  refine ⟨fun wx => ?_, ?_, mkL_ne (by simp), ?_, fun h => this _ h (by omega)⟩
  · rw [run_index_string (P := Tryd.prog) wx 9 (mkL (q ++ [x])) .i64 _ Tryd.underlying9, dif_pos (by rw [hsz]; omega)]
    congr 3
    have hi : (((mkL (q ++ [x])).size : Int) - 1).toNat = q.length := by rw [hsz]; omega
    rw [this _ _ hi]
  · rw [mkL_toList]
    cases q <;> rfl
  · rw [mkL_toList]; simp
set_option maxRecDepth 100000 in
set_option maxHeartbeats 8000000 in
theorem tp_some (q : List UInt8) (x : Scr) (w : World) (hl : q.length ≤ 1499) (hx : prA (pcB 10 q) = some x) : Calls Tryd.prog 5 #[.string (mkL (q ++ [10]))] w fun e w' => e = .returned (.bool true) ∧ Below w.heap.size w w' := by
  have hpr : prT (q ++ [10]) = some x := by unfold prT; rw [if_pos (by simp), List.dropLast_concat]; exact hx
  obtain ⟨b1, ⟨b8, bN⟩, b3, b4, b5⟩ := pr_bnd hpr (by rw [List.length_append, List.length_singleton]; omega)
  have PA0 := fun w => tparse_ten q w (by omega)
  rw [hx] at PA0
  obtain ⟨f, C, S⟩ := x
  dsimp only at b1 b8 bN b3 b4 b5
  have PA := Lib.hid PA0
  have TX : Hid (∀ (n0 n1 n2 n3 n4 n5 n6 n7 : Int) (b : Bool) (p : List UInt8) (ca sa : Option Addr) (cc sc : Nat) (w : World), f = ([n0, n1, n2, n3, n4, n5, n6, n7], b, p) → CrI w ca C → SpI w sa S → Calls Tryd.prog 18 #[.agg #[.int .i64 n0, .int .i64 n1, .int .i64 n2, .int .i64 n3, .int .i64 n4, .int .i64 n5, .int .i64 n6, .int .i64 n7, .bool b, .string (mkL p), .slice ca C.length cc, .slice sa S.length sc]] w fun e w' => e = .returned (.string (mkL (q ++ [10]))) ∧ Below w.heap.size w w') := Lib.hid (by
    intro n0 n1 n2 n3 n4 n5 n6 n7 b p ca sa cc sc w hf hC hS
    subst hf
    have h := rtext_any n0 n1 n2 n3 n4 n5 n6 n7 b p C S ca sa C.length cc S.length sc w rfl rfl b1 bN b3 hC hS b4
    rw [b5] at h
    exact h)
  have hsz : (((mkL (q ++ [10])).size : Nat) : Int) ≤ 1500 := by rw [mkL_size, List.length_append, List.length_singleton]; omega
  clear PA0 b1 b8 bN b3 b4 b5 hpr hl hx
  generalize mkL (q ++ [10]) = T at *
  go_enter Tryd.func5, Tryd.ntmps5
  go_upto_region 3 with fail
  go_upto_region 4 with (go_at_call 23; refine (PA.out _).mono ?_; rintro e w1 ⟨⟨n0, n1, n2, n3, n4, n5, n6, n7, b, p, ca, sa, cc, sc, hf, rfl, hC1, hS1⟩, hb1⟩; have HC1 := Lib.hid hC1; have HS1 := Lib.hid hS1; have HB1 := Lib.hid hb1; have HF := Lib.hid hf; clear hC1 hS1 hb1 hf)
  try dsimp only at HC1 HS1
  have b2 := below_alloc w1 (.cells #[.int .i64 n0, .int .i64 n1, .int .i64 n2, .int .i64 n3, .int .i64 n4, .int .i64 n5, .int .i64 n6, .int .i64 n7, .bool b, .string (mkL p), .slice ca C.length cc, .slice sa S.length sc] 33)
  have r2 := heap_alloc_new w1 (.cells #[.int .i64 n0, .int .i64 n1, .int .i64 n2, .int .i64 n3, .int .i64 n4, .int .i64 n5, .int .i64 n6, .int .i64 n7, .bool b, .string (mkL p), .slice ca C.length cc, .slice sa S.length sc] 33)
  obtain ⟨Y, hY⟩ : ∃ Y, w1.heap.size = Y := ⟨_, rfl⟩
  obtain ⟨W2, hW2⟩ : ∃ W2, w1.alloc (.cells #[.int .i64 n0, .int .i64 n1, .int .i64 n2, .int .i64 n3, .int .i64 n4, .int .i64 n5, .int .i64 n6, .int .i64 n7, .bool b, .string (mkL p), .slice ca C.length cc, .slice sa S.length sc] 33) = W2 := ⟨_, rfl⟩
  have HC2 := Lib.hid (HC1.out.below b2)
  have HS2 := Lib.hid (HS1.out.below b2)
  have HB2 := Lib.hid (seqB HB1.out b2)
  rw [hW2] at HC2 HS2 HB2 r2 ⊢
  rw [hY] at r2 ⊢
  have R2 := Lib.hid r2
  clear b2 hY hW2 HC1 HS1 HB1 r2
  go_wp2_with (first
    | (go_at_call 12; refine (tawake_any _).mono ?_; rintro e w3 ⟨rfl, hb3⟩; have HB3 := Lib.hid (seqB HB2.out hb3); have R3 := Lib.hid (blk_below R2.out hb3); have HC3 := Lib.hid (HC2.out.below hb3); have HS3 := Lib.hid (HS2.out.below hb3); clear hb3; have kka := fun i => cell_of_row _ _ i _ _ _ R3.out; have a0 := kka 0; have a1 := kka 1; have a2 := kka 2; have a3 := kka 3; have a4 := kka 4; have a5 := kka 5; have a6 := kka 6; have a7 := kka 7; have a8 := kka 8; have a9 := kka 9; have a10 := kka 10; have a11 := kka 11; dsimp at a0 a1 a2 a3 a4 a5 a6 a7 a8 a9 a10 a11; clear kka)
    | (go_at_call 18; (with_reducible refine (TX.out _ _ _ _ _ _ _ _ _ _ _ _ _ _ _ HF.out HC3.out HS3.out).mono ?_); rintro e w4 ⟨rfl, hb4⟩; have HB4 := Lib.hid (seqB HB3.out hb4); clear hb4))
  go_ret
  exact ⟨rfl, HB4.out⟩
set_option maxRecDepth 100000 in
set_option maxHeartbeats 8000000 in
theorem tp_ten (q : List UInt8) (w : World) (hl : q.length ≤ 1499) (hx : prA (pcB 10 q) = none) : Calls Tryd.prog 5 #[.string (mkL (q ++ [10]))] w fun e w' => e = .returned (.bool true) ∧ Below w.heap.size w w' := by
  have PA0 := fun w => tparse_ten q w (by omega)
  rw [hx] at PA0
  have PA := Lib.hid PA0
  obtain ⟨hix, hie, hne1, hne3, hget⟩ := tp_last q 10
  rw [show (((10 : UInt8).toNat : Nat) : Int) = 10 from rfl] at hix
  have hsz : (((mkL (q ++ [10])).size : Nat) : Int) ≤ 1500 := by rw [mkL_size, List.length_append, List.length_singleton]; omega
  have hpos : 0 < (mkL (q ++ [10])).size := by rw [mkL_size, List.length_append, List.length_singleton]; omega
  have hpos1 : (0 : Int) ≤ ((mkL (q ++ [10])).size : Int) - 1 := by omega
  clear PA0 hx hl
  generalize mkL (q ++ [10]) = T at *
  go_enter Tryd.func5, Tryd.ntmps5
  go_upto_region 3 with fail
  go_upto_region 4 with (go_at_call 23; refine (PA.out _).mono ?_; rintro e w1 ⟨rfl, hb1⟩; have HB1 := Lib.hid hb1; clear hb1)
  have b2 := below_alloc w1 (.cells #[.int .i64 0, .int .i64 0, .int .i64 0, .int .i64 0, .int .i64 0, .int .i64 0, .int .i64 0, .int .i64 0, .bool false, .string ⟨#[]⟩, .slice none 0 0, .slice none 0 0] 33)
  have r2 := heap_alloc_new w1 (.cells #[.int .i64 0, .int .i64 0, .int .i64 0, .int .i64 0, .int .i64 0, .int .i64 0, .int .i64 0, .int .i64 0, .bool false, .string ⟨#[]⟩, .slice none 0 0, .slice none 0 0] 33)
  obtain ⟨Y, hY⟩ : ∃ Y, w1.heap.size = Y := ⟨_, rfl⟩
  obtain ⟨W2, hW2⟩ : ∃ W2, w1.alloc (.cells #[.int .i64 0, .int .i64 0, .int .i64 0, .int .i64 0, .int .i64 0, .int .i64 0, .int .i64 0, .int .i64 0, .bool false, .string ⟨#[]⟩, .slice none 0 0, .slice none 0 0] 33) = W2 := ⟨_, rfl⟩
  have HB2 := Lib.hid (seqB HB1.out b2)
  rw [hW2] at HB2 r2 ⊢
  rw [hY] at r2 ⊢
  have R2 := Lib.hid r2
  clear b2 hY hW2 HB1 r2 PA
  go_wp2_with (first
    | (go_at_call 12; refine (tawake_any _).mono ?_; rintro e w3 ⟨rfl, hb3⟩; have HB3 := Lib.hid (seqB HB2.out hb3); have R3 := Lib.hid (blk_below R2.out hb3); clear hb3; have kka := fun i => cell_of_row _ _ i _ _ _ R3.out; have a0 := kka 0; have a1 := kka 1; have a2 := kka 2; have a3 := kka 3; have a4 := kka 4; have a5 := kka 5; have a6 := kka 6; have a7 := kka 7; have a8 := kka 8; have a9 := kka 9; have a10 := kka 10; have a11 := kka 11; dsimp at a0 a1 a2 a3 a4 a5 a6 a7 a8 a9 a10 a11; clear kka)
    | (go_at_call 20; refine (rsame_zero _).mono ?_; rintro e w4 ⟨rfl, hb4⟩; have HB4 := Lib.hid (seqB HB3.out hb4); clear hb4))
  go_ret
  exact ⟨rfl, HB4.out⟩
set_option maxRecDepth 100000 in
set_option maxHeartbeats 8000000 in
theorem tp_form (q : List UInt8) (x : UInt8) (w : World) (hl : q.length ≤ 1499) (hx : x ≠ 10) : Calls Tryd.prog 5 #[.string (mkL (q ++ [x]))] w fun e w' => e = .returned (.bool true) ∧ Below w.heap.size w w' := by
  have PA0 := fun w => tparse_form (q ++ [x]) w (by rw [List.length_append, List.length_singleton]; omega) (fun r e => hx (by
    have := congrArg List.getLast? e
    simpa using this))
  have PA := Lib.hid PA0
  obtain ⟨hix, hie, hne1, hne3, hget⟩ := tp_last q x
  have hxb : ((x.toNat : Int) == 10) = false := by rw [beq_eq_false_iff_ne]; intro e; exact hx (UInt8.toNat_inj.1 (by have h10 : (10 : UInt8).toNat = 10 := rfl; omega))
  have hxb2 : ¬ (x.toNat : Int) = 10 := by simpa using hxb
  have hsz : (((mkL (q ++ [x])).size : Nat) : Int) ≤ 1500 := by rw [mkL_size, List.length_append, List.length_singleton]; omega
  have hpos : 0 < (mkL (q ++ [x])).size := by rw [mkL_size, List.length_append, List.length_singleton]; omega
  have hpos1 : (0 : Int) ≤ ((mkL (q ++ [x])).size : Int) - 1 := by omega
  clear PA0 hx hl
  generalize mkL (q ++ [x]) = T at *
  go_enter Tryd.func5, Tryd.ntmps5
  go_upto_region 3 with fail
  go_upto_region 4 with (go_at_call 23; refine (PA.out _).mono ?_; rintro e w1 ⟨rfl, hb1⟩; have HB1 := Lib.hid hb1; clear hb1)
  have b2 := below_alloc w1 (.cells #[.int .i64 0, .int .i64 0, .int .i64 0, .int .i64 0, .int .i64 0, .int .i64 0, .int .i64 0, .int .i64 0, .bool false, .string ⟨#[]⟩, .slice none 0 0, .slice none 0 0] 33)
  have r2 := heap_alloc_new w1 (.cells #[.int .i64 0, .int .i64 0, .int .i64 0, .int .i64 0, .int .i64 0, .int .i64 0, .int .i64 0, .int .i64 0, .bool false, .string ⟨#[]⟩, .slice none 0 0, .slice none 0 0] 33)
  obtain ⟨Y, hY⟩ : ∃ Y, w1.heap.size = Y := ⟨_, rfl⟩
  obtain ⟨W2, hW2⟩ : ∃ W2, w1.alloc (.cells #[.int .i64 0, .int .i64 0, .int .i64 0, .int .i64 0, .int .i64 0, .int .i64 0, .int .i64 0, .int .i64 0, .bool false, .string ⟨#[]⟩, .slice none 0 0, .slice none 0 0] 33) = W2 := ⟨_, rfl⟩
  have HB2 := Lib.hid (seqB HB1.out b2)
  rw [hW2] at HB2 r2 ⊢
  rw [hY] at r2 ⊢
  have R2 := Lib.hid r2
  clear b2 hY hW2 HB1 r2 PA
  go_wp2_with (first
    | (go_at_call 12; refine (tawake_any _).mono ?_; rintro e w3 ⟨rfl, hb3⟩; have HB3 := Lib.hid (seqB HB2.out hb3); have R3 := Lib.hid (blk_below R2.out hb3); clear hb3; have kka := fun i => cell_of_row _ _ i _ _ _ R3.out; have a0 := kka 0; have a1 := kka 1; have a2 := kka 2; have a3 := kka 3; have a4 := kka 4; have a5 := kka 5; have a6 := kka 6; have a7 := kka 7; have a8 := kka 8; have a9 := kka 9; have a10 := kka 10; have a11 := kka 11; dsimp at a0 a1 a2 a3 a4 a5 a6 a7 a8 a9 a10 a11; clear kka)
    | (go_at_call 20; refine (rsame_zero _).mono ?_; rintro e w4 ⟨rfl, hb4⟩; have HB4 := Lib.hid (seqB HB3.out hb4); clear hb4))
  go_ret
  exact ⟨rfl, HB4.out⟩
set_option maxRecDepth 100000 in
set_option maxHeartbeats 8000000 in
theorem tp_nil (w : World) : Calls Tryd.prog 5 #[.string ⟨#[]⟩] w fun e w' => e = .returned (.bool true) ∧ Below w.heap.size w w' := by
  have PA := Lib.hid (fun w => tparse_form [] w (by decide) (fun r e => by simp at e))
  go_enter Tryd.func5, Tryd.ntmps5
  go_upto_region 3 with fail
  go_upto_region 4 with (go_at_call 23; refine (PA.out _).mono ?_; rintro e w1 ⟨rfl, hb1⟩; have HB1 := Lib.hid hb1; clear hb1)
  have b2 := below_alloc w1 (.cells #[.int .i64 0, .int .i64 0, .int .i64 0, .int .i64 0, .int .i64 0, .int .i64 0, .int .i64 0, .int .i64 0, .bool false, .string ⟨#[]⟩, .slice none 0 0, .slice none 0 0] 33)
  have r2 := heap_alloc_new w1 (.cells #[.int .i64 0, .int .i64 0, .int .i64 0, .int .i64 0, .int .i64 0, .int .i64 0, .int .i64 0, .int .i64 0, .bool false, .string ⟨#[]⟩, .slice none 0 0, .slice none 0 0] 33)
  obtain ⟨Y, hY⟩ : ∃ Y, w1.heap.size = Y := ⟨_, rfl⟩
  obtain ⟨W2, hW2⟩ : ∃ W2, w1.alloc (.cells #[.int .i64 0, .int .i64 0, .int .i64 0, .int .i64 0, .int .i64 0, .int .i64 0, .int .i64 0, .int .i64 0, .bool false, .string ⟨#[]⟩, .slice none 0 0, .slice none 0 0] 33) = W2 := ⟨_, rfl⟩
  have HB2 := Lib.hid (seqB HB1.out b2)
  rw [hW2] at HB2 r2 ⊢
  rw [hY] at r2 ⊢
  have R2 := Lib.hid r2
  clear b2 hY hW2 HB1 r2 PA
  go_wp2_with (first
    | (go_at_call 12; refine (tawake_any _).mono ?_; rintro e w3 ⟨rfl, hb3⟩; have HB3 := Lib.hid (seqB HB2.out hb3); have R3 := Lib.hid (blk_below R2.out hb3); clear hb3; have kka := fun i => cell_of_row _ _ i _ _ _ R3.out; have a0 := kka 0; have a1 := kka 1; have a2 := kka 2; have a3 := kka 3; have a4 := kka 4; have a5 := kka 5; have a6 := kka 6; have a7 := kka 7; have a8 := kka 8; have a9 := kka 9; have a10 := kka 10; have a11 := kka 11; dsimp at a0 a1 a2 a3 a4 a5 a6 a7 a8 a9 a10 a11; clear kka)
    | (go_at_call 20; refine (rsame_zero _).mono ?_; rintro e w4 ⟨rfl, hb4⟩; have HB4 := Lib.hid (seqB HB3.out hb4); clear hb4))
  go_ret
  exact ⟨rfl, HB4.out⟩
set_option maxRecDepth 100000 in
set_option maxHeartbeats 8000000 in
theorem tapeparses_any (s : ByteArray) (w : World) : Calls Tryd.prog 5 #[.string s] w fun e w' => e = .returned (.bool true) ∧ Below w.heap.size w w' := by
  by_cases h1 : s.size ≤ 1500
  · obtain ⟨t, rfl⟩ : ∃ t, mkL t = s := ⟨s.data.toList, mk_of s⟩
    rw [mkL_size] at h1
    rcases List.eq_nil_or_concat t with rfl | ⟨q, x, rfl⟩
    · exact tp_nil w
    · rw [List.concat_eq_append] at h1 ⊢
      rw [List.length_append, List.length_singleton] at h1
      by_cases hx : x = 10
      · subst hx
        cases hp : prA (pcB 10 q) with
        | none => exact tp_ten q w (by omega) hp
        | some x => exact tp_some q x w (by omega) hp
      · exact tp_form q x w (by omega) hx
  · have g1 : (1500 : Int) < ((s.size : Nat) : Int) := by omega
    clear h1
    go_enter Tryd.func5, Tryd.ntmps5
    go_wp2_with (go_at_call 12; refine (tawake_any _).mono ?_; rintro e w4 ⟨rfl, hb4⟩)
    go_ret
    exact ⟨rfl, hb4⟩
end Go.Proofs.YtangpdaoacjinaaDoor
