/-
  Joined: Tp50.
-/
import Derived.Test.YtnpiooaiceegmaaDoorJW20
set_option linter.unusedVariables false
set_option linter.unusedSimpArgs false
set_option maxRecDepth 100000
set_option linter.unusedVariables false
set_option linter.unusedSimpArgs false
namespace Go.Proofs.YtnpiooaiceegmaaDoor
open Go.RowKit
theorem bneT {a b : Int} (h : ¬ a = b) : (a != b) = true := bne_iff_ne.2 h
set_option maxHeartbeats 4000000 in
set_option maxRecDepth 100000 in
theorem rlb_oA (k n m : Int) (t : List UInt8) (a : Option Addr) (l cz : Nat) (w : World) (hk0 : ¬ k = 0) (hk2 : ¬ k = 2) (hk3 : ¬ k = 3) (hk4 : ¬ k = 4) (hm0 : ¬ m = 0) : Calls Tryd.prog 16 #[.agg #[.int .i64 k, .string (mkL t), .int .i64 n, .int .i64 m, .slice a l cz]] w (LnPost [] w) := by
  have ghk0 := beqF hk0
  have bhk0 := bneT hk0
  have ghk2 := beqF hk2
  have bhk2 := bneT hk2
  have ghk3 := beqF hk3
  have bhk3 := bneT hk3
  have ghk4 := beqF hk4
  have bhk4 := bneT hk4
  have ghm0 := beqF hm0
  have bhm0 := bneT hm0
  have b0 := below_alloc w (.cells #[.int .i64 k, .string (mkL t), .int .i64 n, .int .i64 m, .slice a l cz] 38)
  have r0 := heap_alloc_new w (.cells #[.int .i64 k, .string (mkL t), .int .i64 n, .int .i64 m, .slice a l cz] 38)
  obtain ⟨W0, hW0⟩ : ∃ W0, w.alloc (.cells #[.int .i64 k, .string (mkL t), .int .i64 n, .int .i64 m, .slice a l cz] 38) = W0 := ⟨_, rfl⟩
  rw [hW0] at b0 r0
  have zz := fun i => cell_of_row _ _ i _ _ _ r0
  have f0 := zz 0; have f1 := zz 1; have f2 := zz 2; have f3 := zz 3; have f4 := zz 4
  dsimp at f0 f1 f2 f3 f4
  have B0 := Lib.hid b0
  clear zz b0 r0
  go_enter Tryd.func16, Tryd.ntmps16
  go_wp2
  go_ret
  exact ⟨rfl, B0.out⟩
set_option maxHeartbeats 4000000 in
set_option maxRecDepth 100000 in
theorem rlb_oB (k n : Int) (t : List UInt8) (a : Option Addr) (l cz : Nat) (w : World) (hk0 : ¬ k = 0) (hk2 : ¬ k = 2) (hk3 : ¬ k = 3) (hk4 : ¬ k = 4) (hl : (0 : Int) < (l : Int)) : Calls Tryd.prog 16 #[.agg #[.int .i64 k, .string (mkL t), .int .i64 n, .int .i64 0, .slice a l cz]] w (LnPost [] w) := by
  have ghk0 := beqF hk0
  have bhk0 := bneT hk0
  have ghk2 := beqF hk2
  have bhk2 := bneT hk2
  have ghk3 := beqF hk3
  have bhk3 := bneT hk3
  have ghk4 := beqF hk4
  have bhk4 := bneT hk4
  have b0 := below_alloc w (.cells #[.int .i64 k, .string (mkL t), .int .i64 n, .int .i64 0, .slice a l cz] 38)
  have r0 := heap_alloc_new w (.cells #[.int .i64 k, .string (mkL t), .int .i64 n, .int .i64 0, .slice a l cz] 38)
  obtain ⟨W0, hW0⟩ : ∃ W0, w.alloc (.cells #[.int .i64 k, .string (mkL t), .int .i64 n, .int .i64 0, .slice a l cz] 38) = W0 := ⟨_, rfl⟩
  rw [hW0] at b0 r0
  have zz := fun i => cell_of_row _ _ i _ _ _ r0
  have f0 := zz 0; have f1 := zz 1; have f2 := zz 2; have f3 := zz 3; have f4 := zz 4
  dsimp at f0 f1 f2 f3 f4
  have B0 := Lib.hid b0
  clear zz b0 r0
  go_enter Tryd.func16, Tryd.ntmps16
  go_wp2
  go_ret
  exact ⟨rfl, B0.out⟩
set_option maxHeartbeats 4000000 in
set_option maxRecDepth 100000 in
theorem rlb_oC (k n : Int) (t : List UInt8) (a : Option Addr) (cz : Nat) (w : World) (hk0 : ¬ k = 0) (hk2 : ¬ k = 2) (hk3 : ¬ k = 3) (hk4 : ¬ k = 4) (hn0 : ¬ n = 0) : Calls Tryd.prog 16 #[.agg #[.int .i64 k, .string (mkL t), .int .i64 n, .int .i64 0, .slice a 0 cz]] w (LnPost [] w) := by
  have ghk0 := beqF hk0
  have bhk0 := bneT hk0
  have ghk2 := beqF hk2
  have bhk2 := bneT hk2
  have ghk3 := beqF hk3
  have bhk3 := bneT hk3
  have ghk4 := beqF hk4
  have bhk4 := bneT hk4
  have ghn0 := beqF hn0
  have bhn0 := bneT hn0
  have b0 := below_alloc w (.cells #[.int .i64 k, .string (mkL t), .int .i64 n, .int .i64 0, .slice a 0 cz] 38)
  have r0 := heap_alloc_new w (.cells #[.int .i64 k, .string (mkL t), .int .i64 n, .int .i64 0, .slice a 0 cz] 38)
  obtain ⟨W0, hW0⟩ : ∃ W0, w.alloc (.cells #[.int .i64 k, .string (mkL t), .int .i64 n, .int .i64 0, .slice a 0 cz] 38) = W0 := ⟨_, rfl⟩
  rw [hW0] at b0 r0
  have zz := fun i => cell_of_row _ _ i _ _ _ r0
  have f0 := zz 0; have f1 := zz 1; have f2 := zz 2; have f3 := zz 3; have f4 := zz 4
  dsimp at f0 f1 f2 f3 f4
  have B0 := Lib.hid b0
  clear zz b0 r0
  go_enter Tryd.func16, Tryd.ntmps16
  go_wp2
  go_ret
  exact ⟨rfl, B0.out⟩
set_option maxHeartbeats 4000000 in
set_option maxRecDepth 100000 in
theorem rlb_oD (k : Int) (t : List UInt8) (a : Option Addr) (cz : Nat) (w : World) (hk0 : ¬ k = 0) (hk2 : ¬ k = 2) (hk3 : ¬ k = 3) (hk4 : ¬ k = 4) (ht : t ≠ []) : Calls Tryd.prog 16 #[.agg #[.int .i64 k, .string (mkL t), .int .i64 0, .int .i64 0, .slice a 0 cz]] w (LnPost [] w) := by
  have ghk0 := beqF hk0
  have bhk0 := bneT hk0
  have ghk2 := beqF hk2
  have bhk2 := bneT hk2
  have ghk3 := beqF hk3
  have bhk3 := bneT hk3
  have ghk4 := beqF hk4
  have bhk4 := bneT hk4
  have g1 := (mkL_ne ht : ¬ mkL t = mkL [])
  have g2 : (mkL t).toList.isEmpty = false := by rw [mkL_toList]; cases t with
    | nil => exact absurd rfl ht
    | cons a b => rfl
  have g3 : ¬ (mkL t).toList = [] := by rw [mkL_toList]; exact ht
  generalize mkL t = s at *
  clear ht
  have b0 := below_alloc w (.cells #[.int .i64 k, .string (s), .int .i64 0, .int .i64 0, .slice a 0 cz] 38)
  have r0 := heap_alloc_new w (.cells #[.int .i64 k, .string (s), .int .i64 0, .int .i64 0, .slice a 0 cz] 38)
  obtain ⟨W0, hW0⟩ : ∃ W0, w.alloc (.cells #[.int .i64 k, .string (s), .int .i64 0, .int .i64 0, .slice a 0 cz] 38) = W0 := ⟨_, rfl⟩
  rw [hW0] at b0 r0
  have zz := fun i => cell_of_row _ _ i _ _ _ r0
  have f0 := zz 0; have f1 := zz 1; have f2 := zz 2; have f3 := zz 3; have f4 := zz 4
  dsimp at f0 f1 f2 f3 f4
  have B0 := Lib.hid b0
  clear zz b0 r0
  go_enter Tryd.func16, Tryd.ntmps16
  go_wp2
  go_ret
  exact ⟨rfl, B0.out⟩
set_option maxHeartbeats 4000000 in
set_option maxRecDepth 100000 in
theorem rlb_oF (k : Int) (a : Option Addr) (cz : Nat) (w : World) (hk0 : ¬ k = 0) (hk2 : ¬ k = 2) (hk3 : ¬ k = 3) (hk4 : ¬ k = 4) (hk : k < 0) : Calls Tryd.prog 16 #[.agg #[.int .i64 k, .string ⟨#[]⟩, .int .i64 0, .int .i64 0, .slice a 0 cz]] w (LnPost [] w) := by
  have ghk0 := beqF hk0
  have bhk0 := bneT hk0
  have ghk2 := beqF hk2
  have bhk2 := bneT hk2
  have ghk3 := beqF hk3
  have bhk3 := bneT hk3
  have ghk4 := beqF hk4
  have bhk4 := bneT hk4
  have b0 := below_alloc w (.cells #[.int .i64 k, .string ⟨#[]⟩, .int .i64 0, .int .i64 0, .slice a 0 cz] 38)
  have r0 := heap_alloc_new w (.cells #[.int .i64 k, .string ⟨#[]⟩, .int .i64 0, .int .i64 0, .slice a 0 cz] 38)
  obtain ⟨W0, hW0⟩ : ∃ W0, w.alloc (.cells #[.int .i64 k, .string ⟨#[]⟩, .int .i64 0, .int .i64 0, .slice a 0 cz] 38) = W0 := ⟨_, rfl⟩
  rw [hW0] at b0 r0
  have zz := fun i => cell_of_row _ _ i _ _ _ r0
  have f0 := zz 0; have f1 := zz 1; have f2 := zz 2; have f3 := zz 3; have f4 := zz 4
  dsimp at f0 f1 f2 f3 f4
  have B0 := Lib.hid b0
  clear zz b0 r0
  go_enter Tryd.func16, Tryd.ntmps16
  go_wp2
  go_ret
  exact ⟨rfl, B0.out⟩
set_option maxHeartbeats 4000000 in
set_option maxRecDepth 100000 in
theorem rlb_oG (k : Int) (a : Option Addr) (cz : Nat) (w : World) (hk0 : ¬ k = 0) (hk2 : ¬ k = 2) (hk3 : ¬ k = 3) (hk4 : ¬ k = 4) (hk : 6 < k) : Calls Tryd.prog 16 #[.agg #[.int .i64 k, .string ⟨#[]⟩, .int .i64 0, .int .i64 0, .slice a 0 cz]] w (LnPost [] w) := by
  have ghk0 := beqF hk0
  have bhk0 := bneT hk0
  have ghk2 := beqF hk2
  have bhk2 := bneT hk2
  have ghk3 := beqF hk3
  have bhk3 := bneT hk3
  have ghk4 := beqF hk4
  have bhk4 := bneT hk4
  have hk0 : ¬ k < 0 := by omega
  have b0 := below_alloc w (.cells #[.int .i64 k, .string ⟨#[]⟩, .int .i64 0, .int .i64 0, .slice a 0 cz] 38)
  have r0 := heap_alloc_new w (.cells #[.int .i64 k, .string ⟨#[]⟩, .int .i64 0, .int .i64 0, .slice a 0 cz] 38)
  obtain ⟨W0, hW0⟩ : ∃ W0, w.alloc (.cells #[.int .i64 k, .string ⟨#[]⟩, .int .i64 0, .int .i64 0, .slice a 0 cz] 38) = W0 := ⟨_, rfl⟩
  rw [hW0] at b0 r0
  have zz := fun i => cell_of_row _ _ i _ _ _ r0
  have f0 := zz 0; have f1 := zz 1; have f2 := zz 2; have f3 := zz 3; have f4 := zz 4
  dsimp at f0 f1 f2 f3 f4
  have B0 := Lib.hid b0
  clear zz b0 r0
  go_enter Tryd.func16, Tryd.ntmps16
  go_wp2
  go_ret
  exact ⟨rfl, B0.out⟩
set_option maxHeartbeats 4000000 in
set_option maxRecDepth 100000 in
theorem rlb_0A (n m : Int) (t : List UInt8) (a : Option Addr) (l cz : Nat) (w : World) (hm0 : ¬ m = 0) : Calls Tryd.prog 16 #[.agg #[.int .i64 0, .string (mkL t), .int .i64 n, .int .i64 m, .slice a l cz]] w (LnPost [] w) := by
  have ghm0 := beqF hm0
  have bhm0 := bneT hm0
  have b0 := below_alloc w (.cells #[.int .i64 0, .string (mkL t), .int .i64 n, .int .i64 m, .slice a l cz] 38)
  have r0 := heap_alloc_new w (.cells #[.int .i64 0, .string (mkL t), .int .i64 n, .int .i64 m, .slice a l cz] 38)
  obtain ⟨W0, hW0⟩ : ∃ W0, w.alloc (.cells #[.int .i64 0, .string (mkL t), .int .i64 n, .int .i64 m, .slice a l cz] 38) = W0 := ⟨_, rfl⟩
  rw [hW0] at b0 r0
  have zz := fun i => cell_of_row _ _ i _ _ _ r0
  have f0 := zz 0; have f1 := zz 1; have f2 := zz 2; have f3 := zz 3; have f4 := zz 4
  dsimp at f0 f1 f2 f3 f4
  have B0 := Lib.hid b0
  clear zz b0 r0
  go_enter Tryd.func16, Tryd.ntmps16
  go_wp2
  go_ret
  exact ⟨rfl, B0.out⟩
set_option maxHeartbeats 4000000 in
set_option maxRecDepth 100000 in
theorem rlb_0B (n : Int) (t : List UInt8) (a : Option Addr) (l cz : Nat) (w : World) (hl : (0 : Int) < (l : Int)) : Calls Tryd.prog 16 #[.agg #[.int .i64 0, .string (mkL t), .int .i64 n, .int .i64 0, .slice a l cz]] w (LnPost [] w) := by
  have b0 := below_alloc w (.cells #[.int .i64 0, .string (mkL t), .int .i64 n, .int .i64 0, .slice a l cz] 38)
  have r0 := heap_alloc_new w (.cells #[.int .i64 0, .string (mkL t), .int .i64 n, .int .i64 0, .slice a l cz] 38)
  obtain ⟨W0, hW0⟩ : ∃ W0, w.alloc (.cells #[.int .i64 0, .string (mkL t), .int .i64 n, .int .i64 0, .slice a l cz] 38) = W0 := ⟨_, rfl⟩
  rw [hW0] at b0 r0
  have zz := fun i => cell_of_row _ _ i _ _ _ r0
  have f0 := zz 0; have f1 := zz 1; have f2 := zz 2; have f3 := zz 3; have f4 := zz 4
  dsimp at f0 f1 f2 f3 f4
  have B0 := Lib.hid b0
  clear zz b0 r0
  go_enter Tryd.func16, Tryd.ntmps16
  go_wp2
  go_ret
  exact ⟨rfl, B0.out⟩
set_option maxHeartbeats 4000000 in
set_option maxRecDepth 100000 in
theorem rlb_0C (n : Int) (t : List UInt8) (a : Option Addr) (cz : Nat) (w : World) (hn0 : ¬ n = 0) : Calls Tryd.prog 16 #[.agg #[.int .i64 0, .string (mkL t), .int .i64 n, .int .i64 0, .slice a 0 cz]] w (LnPost [] w) := by
  have ghn0 := beqF hn0
  have bhn0 := bneT hn0
  have b0 := below_alloc w (.cells #[.int .i64 0, .string (mkL t), .int .i64 n, .int .i64 0, .slice a 0 cz] 38)
  have r0 := heap_alloc_new w (.cells #[.int .i64 0, .string (mkL t), .int .i64 n, .int .i64 0, .slice a 0 cz] 38)
  obtain ⟨W0, hW0⟩ : ∃ W0, w.alloc (.cells #[.int .i64 0, .string (mkL t), .int .i64 n, .int .i64 0, .slice a 0 cz] 38) = W0 := ⟨_, rfl⟩
  rw [hW0] at b0 r0
  have zz := fun i => cell_of_row _ _ i _ _ _ r0
  have f0 := zz 0; have f1 := zz 1; have f2 := zz 2; have f3 := zz 3; have f4 := zz 4
  dsimp at f0 f1 f2 f3 f4
  have B0 := Lib.hid b0
  clear zz b0 r0
  go_enter Tryd.func16, Tryd.ntmps16
  go_wp2
  go_ret
  exact ⟨rfl, B0.out⟩
set_option maxHeartbeats 4000000 in
set_option maxRecDepth 100000 in
theorem rlb_2B0 (n : Int) (t : List UInt8) (a : Option Addr) (l cz : Nat) (w : World) (hl : (0 : Int) < (l : Int)) : Calls Tryd.prog 16 #[.agg #[.int .i64 2, .string (mkL t), .int .i64 n, .int .i64 0, .slice a l cz]] w (LnPost [] w) := by
  have b0 := below_alloc w (.cells #[.int .i64 2, .string (mkL t), .int .i64 n, .int .i64 0, .slice a l cz] 38)
  have r0 := heap_alloc_new w (.cells #[.int .i64 2, .string (mkL t), .int .i64 n, .int .i64 0, .slice a l cz] 38)
  obtain ⟨W0, hW0⟩ : ∃ W0, w.alloc (.cells #[.int .i64 2, .string (mkL t), .int .i64 n, .int .i64 0, .slice a l cz] 38) = W0 := ⟨_, rfl⟩
  rw [hW0] at b0 r0
  have zz := fun i => cell_of_row _ _ i _ _ _ r0
  have f0 := zz 0; have f1 := zz 1; have f2 := zz 2; have f3 := zz 3; have f4 := zz 4
  dsimp at f0 f1 f2 f3 f4
  have B0 := Lib.hid b0
  clear zz b0 r0
  go_enter Tryd.func16, Tryd.ntmps16
  go_wp2
  go_ret
  exact ⟨rfl, B0.out⟩
set_option maxHeartbeats 4000000 in
set_option maxRecDepth 100000 in
theorem rlb_2B1 (n m : Int) (t : List UInt8) (a : Option Addr) (l cz : Nat) (w : World) (hl : (0 : Int) < (l : Int)) (hm0 : ¬ m = 0) : Calls Tryd.prog 16 #[.agg #[.int .i64 2, .string (mkL t), .int .i64 n, .int .i64 m, .slice a l cz]] w (LnPost [] w) := by
  have ghm0 := beqF hm0
  have bhm0 := bneT hm0
  have b0 := below_alloc w (.cells #[.int .i64 2, .string (mkL t), .int .i64 n, .int .i64 m, .slice a l cz] 38)
  have r0 := heap_alloc_new w (.cells #[.int .i64 2, .string (mkL t), .int .i64 n, .int .i64 m, .slice a l cz] 38)
  obtain ⟨W0, hW0⟩ : ∃ W0, w.alloc (.cells #[.int .i64 2, .string (mkL t), .int .i64 n, .int .i64 m, .slice a l cz] 38) = W0 := ⟨_, rfl⟩
  rw [hW0] at b0 r0
  have zz := fun i => cell_of_row _ _ i _ _ _ r0
  have f0 := zz 0; have f1 := zz 1; have f2 := zz 2; have f3 := zz 3; have f4 := zz 4
  dsimp at f0 f1 f2 f3 f4
  have B0 := Lib.hid b0
  clear zz b0 r0
  go_enter Tryd.func16, Tryd.ntmps16
  go_wp2
  go_ret
  exact ⟨rfl, B0.out⟩
set_option maxHeartbeats 4000000 in
set_option maxRecDepth 100000 in
theorem rlb_2D00 (t : List UInt8) (a : Option Addr) (cz : Nat) (w : World) (ht : t ≠ []) : Calls Tryd.prog 16 #[.agg #[.int .i64 2, .string (mkL t), .int .i64 0, .int .i64 0, .slice a 0 cz]] w (LnPost [] w) := by
  have g1 := (mkL_ne ht : ¬ mkL t = mkL [])
  have g2 : (mkL t).toList.isEmpty = false := by rw [mkL_toList]; cases t with
    | nil => exact absurd rfl ht
    | cons a b => rfl
  have g3 : ¬ (mkL t).toList = [] := by rw [mkL_toList]; exact ht
  generalize mkL t = s at *
  clear ht
  have b0 := below_alloc w (.cells #[.int .i64 2, .string (s), .int .i64 0, .int .i64 0, .slice a 0 cz] 38)
  have r0 := heap_alloc_new w (.cells #[.int .i64 2, .string (s), .int .i64 0, .int .i64 0, .slice a 0 cz] 38)
  obtain ⟨W0, hW0⟩ : ∃ W0, w.alloc (.cells #[.int .i64 2, .string (s), .int .i64 0, .int .i64 0, .slice a 0 cz] 38) = W0 := ⟨_, rfl⟩
  rw [hW0] at b0 r0
  have zz := fun i => cell_of_row _ _ i _ _ _ r0
  have f0 := zz 0; have f1 := zz 1; have f2 := zz 2; have f3 := zz 3; have f4 := zz 4
  dsimp at f0 f1 f2 f3 f4
  have B0 := Lib.hid b0
  clear zz b0 r0
  go_enter Tryd.func16, Tryd.ntmps16
  go_wp2
  go_ret
  exact ⟨rfl, B0.out⟩
set_option maxHeartbeats 4000000 in
set_option maxRecDepth 100000 in
theorem rlb_2D01 (m : Int) (t : List UInt8) (a : Option Addr) (cz : Nat) (w : World) (ht : t ≠ []) (hm0 : ¬ m = 0) : Calls Tryd.prog 16 #[.agg #[.int .i64 2, .string (mkL t), .int .i64 0, .int .i64 m, .slice a 0 cz]] w (LnPost [] w) := by
  have g1 := (mkL_ne ht : ¬ mkL t = mkL [])
  have g2 : (mkL t).toList.isEmpty = false := by rw [mkL_toList]; cases t with
    | nil => exact absurd rfl ht
    | cons a b => rfl
  have g3 : ¬ (mkL t).toList = [] := by rw [mkL_toList]; exact ht
  generalize mkL t = s at *
  clear ht
  have ghm0 := beqF hm0
  have bhm0 := bneT hm0
  have b0 := below_alloc w (.cells #[.int .i64 2, .string (s), .int .i64 0, .int .i64 m, .slice a 0 cz] 38)
  have r0 := heap_alloc_new w (.cells #[.int .i64 2, .string (s), .int .i64 0, .int .i64 m, .slice a 0 cz] 38)
  obtain ⟨W0, hW0⟩ : ∃ W0, w.alloc (.cells #[.int .i64 2, .string (s), .int .i64 0, .int .i64 m, .slice a 0 cz] 38) = W0 := ⟨_, rfl⟩
  rw [hW0] at b0 r0
  have zz := fun i => cell_of_row _ _ i _ _ _ r0
  have f0 := zz 0; have f1 := zz 1; have f2 := zz 2; have f3 := zz 3; have f4 := zz 4
  dsimp at f0 f1 f2 f3 f4
  have B0 := Lib.hid b0
  clear zz b0 r0
  go_enter Tryd.func16, Tryd.ntmps16
  go_wp2
  go_ret
  exact ⟨rfl, B0.out⟩
set_option maxHeartbeats 4000000 in
set_option maxRecDepth 100000 in
theorem rlb_2D10 (n : Int) (t : List UInt8) (a : Option Addr) (cz : Nat) (w : World) (ht : t ≠ []) (hn0 : ¬ n = 0) : Calls Tryd.prog 16 #[.agg #[.int .i64 2, .string (mkL t), .int .i64 n, .int .i64 0, .slice a 0 cz]] w (LnPost [] w) := by
  have g1 := (mkL_ne ht : ¬ mkL t = mkL [])
  have g2 : (mkL t).toList.isEmpty = false := by rw [mkL_toList]; cases t with
    | nil => exact absurd rfl ht
    | cons a b => rfl
  have g3 : ¬ (mkL t).toList = [] := by rw [mkL_toList]; exact ht
  generalize mkL t = s at *
  clear ht
  have ghn0 := beqF hn0
  have bhn0 := bneT hn0
  have b0 := below_alloc w (.cells #[.int .i64 2, .string (s), .int .i64 n, .int .i64 0, .slice a 0 cz] 38)
  have r0 := heap_alloc_new w (.cells #[.int .i64 2, .string (s), .int .i64 n, .int .i64 0, .slice a 0 cz] 38)
  obtain ⟨W0, hW0⟩ : ∃ W0, w.alloc (.cells #[.int .i64 2, .string (s), .int .i64 n, .int .i64 0, .slice a 0 cz] 38) = W0 := ⟨_, rfl⟩
  rw [hW0] at b0 r0
  have zz := fun i => cell_of_row _ _ i _ _ _ r0
  have f0 := zz 0; have f1 := zz 1; have f2 := zz 2; have f3 := zz 3; have f4 := zz 4
  dsimp at f0 f1 f2 f3 f4
  have B0 := Lib.hid b0
  clear zz b0 r0
  go_enter Tryd.func16, Tryd.ntmps16
  go_wp2
  go_ret
  exact ⟨rfl, B0.out⟩
set_option maxHeartbeats 4000000 in
set_option maxRecDepth 100000 in
theorem rlb_2D11 (n m : Int) (t : List UInt8) (a : Option Addr) (cz : Nat) (w : World) (ht : t ≠ []) (hn0 : ¬ n = 0) (hm0 : ¬ m = 0) : Calls Tryd.prog 16 #[.agg #[.int .i64 2, .string (mkL t), .int .i64 n, .int .i64 m, .slice a 0 cz]] w (LnPost [] w) := by
  have g1 := (mkL_ne ht : ¬ mkL t = mkL [])
  have g2 : (mkL t).toList.isEmpty = false := by rw [mkL_toList]; cases t with
    | nil => exact absurd rfl ht
    | cons a b => rfl
  have g3 : ¬ (mkL t).toList = [] := by rw [mkL_toList]; exact ht
  generalize mkL t = s at *
  clear ht
  have ghn0 := beqF hn0
  have bhn0 := bneT hn0
  have ghm0 := beqF hm0
  have bhm0 := bneT hm0
  have b0 := below_alloc w (.cells #[.int .i64 2, .string (s), .int .i64 n, .int .i64 m, .slice a 0 cz] 38)
  have r0 := heap_alloc_new w (.cells #[.int .i64 2, .string (s), .int .i64 n, .int .i64 m, .slice a 0 cz] 38)
  obtain ⟨W0, hW0⟩ : ∃ W0, w.alloc (.cells #[.int .i64 2, .string (s), .int .i64 n, .int .i64 m, .slice a 0 cz] 38) = W0 := ⟨_, rfl⟩
  rw [hW0] at b0 r0
  have zz := fun i => cell_of_row _ _ i _ _ _ r0
  have f0 := zz 0; have f1 := zz 1; have f2 := zz 2; have f3 := zz 3; have f4 := zz 4
  dsimp at f0 f1 f2 f3 f4
  have B0 := Lib.hid b0
  clear zz b0 r0
  go_enter Tryd.func16, Tryd.ntmps16
  go_wp2
  go_ret
  exact ⟨rfl, B0.out⟩
set_option maxHeartbeats 4000000 in
set_option maxRecDepth 100000 in
theorem rlb_3A (n m : Int) (t : List UInt8) (a : Option Addr) (l cz : Nat) (w : World) (hm0 : ¬ m = 0) : Calls Tryd.prog 16 #[.agg #[.int .i64 3, .string (mkL t), .int .i64 n, .int .i64 m, .slice a l cz]] w (LnPost [] w) := by
  have ghm0 := beqF hm0
  have bhm0 := bneT hm0
  have b0 := below_alloc w (.cells #[.int .i64 3, .string (mkL t), .int .i64 n, .int .i64 m, .slice a l cz] 38)
  have r0 := heap_alloc_new w (.cells #[.int .i64 3, .string (mkL t), .int .i64 n, .int .i64 m, .slice a l cz] 38)
  obtain ⟨W0, hW0⟩ : ∃ W0, w.alloc (.cells #[.int .i64 3, .string (mkL t), .int .i64 n, .int .i64 m, .slice a l cz] 38) = W0 := ⟨_, rfl⟩
  rw [hW0] at b0 r0
  have zz := fun i => cell_of_row _ _ i _ _ _ r0
  have f0 := zz 0; have f1 := zz 1; have f2 := zz 2; have f3 := zz 3; have f4 := zz 4
  dsimp at f0 f1 f2 f3 f4
  have B0 := Lib.hid b0
  clear zz b0 r0
  go_enter Tryd.func16, Tryd.ntmps16
  go_wp2
  go_ret
  exact ⟨rfl, B0.out⟩
set_option maxHeartbeats 4000000 in
set_option maxRecDepth 100000 in
theorem rlb_3C0 (n : Int) (t : List UInt8) (a : Option Addr) (cz : Nat) (w : World) (hn0 : ¬ n = 0) : Calls Tryd.prog 16 #[.agg #[.int .i64 3, .string (mkL t), .int .i64 n, .int .i64 0, .slice a 0 cz]] w (LnPost [] w) := by
  have ghn0 := beqF hn0
  have bhn0 := bneT hn0
  have b0 := below_alloc w (.cells #[.int .i64 3, .string (mkL t), .int .i64 n, .int .i64 0, .slice a 0 cz] 38)
  have r0 := heap_alloc_new w (.cells #[.int .i64 3, .string (mkL t), .int .i64 n, .int .i64 0, .slice a 0 cz] 38)
  obtain ⟨W0, hW0⟩ : ∃ W0, w.alloc (.cells #[.int .i64 3, .string (mkL t), .int .i64 n, .int .i64 0, .slice a 0 cz] 38) = W0 := ⟨_, rfl⟩
  rw [hW0] at b0 r0
  have zz := fun i => cell_of_row _ _ i _ _ _ r0
  have f0 := zz 0; have f1 := zz 1; have f2 := zz 2; have f3 := zz 3; have f4 := zz 4
  dsimp at f0 f1 f2 f3 f4
  have B0 := Lib.hid b0
  clear zz b0 r0
  go_enter Tryd.func16, Tryd.ntmps16
  go_wp2
  go_ret
  exact ⟨rfl, B0.out⟩
set_option maxHeartbeats 4000000 in
set_option maxRecDepth 100000 in
theorem rlb_3C1 (n : Int) (t : List UInt8) (a : Option Addr) (l cz : Nat) (w : World) (hn0 : ¬ n = 0) (hl : (0 : Int) < (l : Int)) : Calls Tryd.prog 16 #[.agg #[.int .i64 3, .string (mkL t), .int .i64 n, .int .i64 0, .slice a l cz]] w (LnPost [] w) := by
  have ghn0 := beqF hn0
  have bhn0 := bneT hn0
  have b0 := below_alloc w (.cells #[.int .i64 3, .string (mkL t), .int .i64 n, .int .i64 0, .slice a l cz] 38)
  have r0 := heap_alloc_new w (.cells #[.int .i64 3, .string (mkL t), .int .i64 n, .int .i64 0, .slice a l cz] 38)
  obtain ⟨W0, hW0⟩ : ∃ W0, w.alloc (.cells #[.int .i64 3, .string (mkL t), .int .i64 n, .int .i64 0, .slice a l cz] 38) = W0 := ⟨_, rfl⟩
  rw [hW0] at b0 r0
  have zz := fun i => cell_of_row _ _ i _ _ _ r0
  have f0 := zz 0; have f1 := zz 1; have f2 := zz 2; have f3 := zz 3; have f4 := zz 4
  dsimp at f0 f1 f2 f3 f4
  have B0 := Lib.hid b0
  clear zz b0 r0
  go_enter Tryd.func16, Tryd.ntmps16
  go_wp2
  go_ret
  exact ⟨rfl, B0.out⟩
set_option maxHeartbeats 4000000 in
set_option maxRecDepth 100000 in
theorem rlb_3D0 (t : List UInt8) (a : Option Addr) (cz : Nat) (w : World) (ht : t ≠ []) : Calls Tryd.prog 16 #[.agg #[.int .i64 3, .string (mkL t), .int .i64 0, .int .i64 0, .slice a 0 cz]] w (LnPost [] w) := by
  have g1 := (mkL_ne ht : ¬ mkL t = mkL [])
  have g2 : (mkL t).toList.isEmpty = false := by rw [mkL_toList]; cases t with
    | nil => exact absurd rfl ht
    | cons a b => rfl
  have g3 : ¬ (mkL t).toList = [] := by rw [mkL_toList]; exact ht
  generalize mkL t = s at *
  clear ht
  have b0 := below_alloc w (.cells #[.int .i64 3, .string (s), .int .i64 0, .int .i64 0, .slice a 0 cz] 38)
  have r0 := heap_alloc_new w (.cells #[.int .i64 3, .string (s), .int .i64 0, .int .i64 0, .slice a 0 cz] 38)
  obtain ⟨W0, hW0⟩ : ∃ W0, w.alloc (.cells #[.int .i64 3, .string (s), .int .i64 0, .int .i64 0, .slice a 0 cz] 38) = W0 := ⟨_, rfl⟩
  rw [hW0] at b0 r0
  have zz := fun i => cell_of_row _ _ i _ _ _ r0
  have f0 := zz 0; have f1 := zz 1; have f2 := zz 2; have f3 := zz 3; have f4 := zz 4
  dsimp at f0 f1 f2 f3 f4
  have B0 := Lib.hid b0
  clear zz b0 r0
  go_enter Tryd.func16, Tryd.ntmps16
  go_wp2
  go_ret
  exact ⟨rfl, B0.out⟩
set_option maxHeartbeats 4000000 in
set_option maxRecDepth 100000 in
theorem rlb_3D1 (t : List UInt8) (a : Option Addr) (l cz : Nat) (w : World) (ht : t ≠ []) (hl : (0 : Int) < (l : Int)) : Calls Tryd.prog 16 #[.agg #[.int .i64 3, .string (mkL t), .int .i64 0, .int .i64 0, .slice a l cz]] w (LnPost [] w) := by
  have g1 := (mkL_ne ht : ¬ mkL t = mkL [])
  have g2 : (mkL t).toList.isEmpty = false := by rw [mkL_toList]; cases t with
    | nil => exact absurd rfl ht
    | cons a b => rfl
  have g3 : ¬ (mkL t).toList = [] := by rw [mkL_toList]; exact ht
  generalize mkL t = s at *
  clear ht
  have b0 := below_alloc w (.cells #[.int .i64 3, .string (s), .int .i64 0, .int .i64 0, .slice a l cz] 38)
  have r0 := heap_alloc_new w (.cells #[.int .i64 3, .string (s), .int .i64 0, .int .i64 0, .slice a l cz] 38)
  obtain ⟨W0, hW0⟩ : ∃ W0, w.alloc (.cells #[.int .i64 3, .string (s), .int .i64 0, .int .i64 0, .slice a l cz] 38) = W0 := ⟨_, rfl⟩
  rw [hW0] at b0 r0
  have zz := fun i => cell_of_row _ _ i _ _ _ r0
  have f0 := zz 0; have f1 := zz 1; have f2 := zz 2; have f3 := zz 3; have f4 := zz 4
  dsimp at f0 f1 f2 f3 f4
  have B0 := Lib.hid b0
  clear zz b0 r0
  go_enter Tryd.func16, Tryd.ntmps16
  go_wp2
  go_ret
  exact ⟨rfl, B0.out⟩
set_option maxHeartbeats 4000000 in
set_option maxRecDepth 100000 in
theorem rlb_4A (n m : Int) (t : List UInt8) (a : Option Addr) (l cz : Nat) (w : World) (hm0 : ¬ m = 0) : Calls Tryd.prog 16 #[.agg #[.int .i64 4, .string (mkL t), .int .i64 n, .int .i64 m, .slice a l cz]] w (LnPost [] w) := by
  have ghm0 := beqF hm0
  have bhm0 := bneT hm0
  have b0 := below_alloc w (.cells #[.int .i64 4, .string (mkL t), .int .i64 n, .int .i64 m, .slice a l cz] 38)
  have r0 := heap_alloc_new w (.cells #[.int .i64 4, .string (mkL t), .int .i64 n, .int .i64 m, .slice a l cz] 38)
  obtain ⟨W0, hW0⟩ : ∃ W0, w.alloc (.cells #[.int .i64 4, .string (mkL t), .int .i64 n, .int .i64 m, .slice a l cz] 38) = W0 := ⟨_, rfl⟩
  rw [hW0] at b0 r0
  have zz := fun i => cell_of_row _ _ i _ _ _ r0
  have f0 := zz 0; have f1 := zz 1; have f2 := zz 2; have f3 := zz 3; have f4 := zz 4
  dsimp at f0 f1 f2 f3 f4
  have B0 := Lib.hid b0
  clear zz b0 r0
  go_enter Tryd.func16, Tryd.ntmps16
  go_wp2
  go_ret
  exact ⟨rfl, B0.out⟩
set_option maxHeartbeats 4000000 in
set_option maxRecDepth 100000 in
theorem rlb_4B (n : Int) (t : List UInt8) (a : Option Addr) (l cz : Nat) (w : World) (hl : (0 : Int) < (l : Int)) : Calls Tryd.prog 16 #[.agg #[.int .i64 4, .string (mkL t), .int .i64 n, .int .i64 0, .slice a l cz]] w (LnPost [] w) := by
  have b0 := below_alloc w (.cells #[.int .i64 4, .string (mkL t), .int .i64 n, .int .i64 0, .slice a l cz] 38)
  have r0 := heap_alloc_new w (.cells #[.int .i64 4, .string (mkL t), .int .i64 n, .int .i64 0, .slice a l cz] 38)
  obtain ⟨W0, hW0⟩ : ∃ W0, w.alloc (.cells #[.int .i64 4, .string (mkL t), .int .i64 n, .int .i64 0, .slice a l cz] 38) = W0 := ⟨_, rfl⟩
  rw [hW0] at b0 r0
  have zz := fun i => cell_of_row _ _ i _ _ _ r0
  have f0 := zz 0; have f1 := zz 1; have f2 := zz 2; have f3 := zz 3; have f4 := zz 4
  dsimp at f0 f1 f2 f3 f4
  have B0 := Lib.hid b0
  clear zz b0 r0
  go_enter Tryd.func16, Tryd.ntmps16
  go_wp2
  go_ret
  exact ⟨rfl, B0.out⟩
set_option maxHeartbeats 4000000 in
set_option maxRecDepth 100000 in
theorem rlb_4D0 (t : List UInt8) (a : Option Addr) (cz : Nat) (w : World) (ht : t ≠ []) : Calls Tryd.prog 16 #[.agg #[.int .i64 4, .string (mkL t), .int .i64 0, .int .i64 0, .slice a 0 cz]] w (LnPost [] w) := by
  have g1 := (mkL_ne ht : ¬ mkL t = mkL [])
  have g2 : (mkL t).toList.isEmpty = false := by rw [mkL_toList]; cases t with
    | nil => exact absurd rfl ht
    | cons a b => rfl
  have g3 : ¬ (mkL t).toList = [] := by rw [mkL_toList]; exact ht
  generalize mkL t = s at *
  clear ht
  have b0 := below_alloc w (.cells #[.int .i64 4, .string (s), .int .i64 0, .int .i64 0, .slice a 0 cz] 38)
  have r0 := heap_alloc_new w (.cells #[.int .i64 4, .string (s), .int .i64 0, .int .i64 0, .slice a 0 cz] 38)
  obtain ⟨W0, hW0⟩ : ∃ W0, w.alloc (.cells #[.int .i64 4, .string (s), .int .i64 0, .int .i64 0, .slice a 0 cz] 38) = W0 := ⟨_, rfl⟩
  rw [hW0] at b0 r0
  have zz := fun i => cell_of_row _ _ i _ _ _ r0
  have f0 := zz 0; have f1 := zz 1; have f2 := zz 2; have f3 := zz 3; have f4 := zz 4
  dsimp at f0 f1 f2 f3 f4
  have B0 := Lib.hid b0
  clear zz b0 r0
  go_enter Tryd.func16, Tryd.ntmps16
  go_wp2
  go_ret
  exact ⟨rfl, B0.out⟩
set_option maxHeartbeats 4000000 in
set_option maxRecDepth 100000 in
theorem rlb_4D1 (n : Int) (t : List UInt8) (a : Option Addr) (cz : Nat) (w : World) (ht : t ≠ []) (hn0 : ¬ n = 0) (hn1 : ¬ n = 1) : Calls Tryd.prog 16 #[.agg #[.int .i64 4, .string (mkL t), .int .i64 n, .int .i64 0, .slice a 0 cz]] w (LnPost [] w) := by
  have g1 := (mkL_ne ht : ¬ mkL t = mkL [])
  have g2 : (mkL t).toList.isEmpty = false := by rw [mkL_toList]; cases t with
    | nil => exact absurd rfl ht
    | cons a b => rfl
  have g3 : ¬ (mkL t).toList = [] := by rw [mkL_toList]; exact ht
  generalize mkL t = s at *
  clear ht
  have ghn0 := beqF hn0
  have bhn0 := bneT hn0
  have ghn1 := beqF hn1
  have bhn1 := bneT hn1
  have b0 := below_alloc w (.cells #[.int .i64 4, .string (s), .int .i64 n, .int .i64 0, .slice a 0 cz] 38)
  have r0 := heap_alloc_new w (.cells #[.int .i64 4, .string (s), .int .i64 n, .int .i64 0, .slice a 0 cz] 38)
  obtain ⟨W0, hW0⟩ : ∃ W0, w.alloc (.cells #[.int .i64 4, .string (s), .int .i64 n, .int .i64 0, .slice a 0 cz] 38) = W0 := ⟨_, rfl⟩
  rw [hW0] at b0 r0
  have zz := fun i => cell_of_row _ _ i _ _ _ r0
  have f0 := zz 0; have f1 := zz 1; have f2 := zz 2; have f3 := zz 3; have f4 := zz 4
  dsimp at f0 f1 f2 f3 f4
  have B0 := Lib.hid b0
  clear zz b0 r0
  go_enter Tryd.func16, Tryd.ntmps16
  go_wp2
  go_ret
  exact ⟨rfl, B0.out⟩
set_option maxHeartbeats 4000000 in
set_option maxRecDepth 100000 in
theorem rlb_4E (n : Int) (a : Option Addr) (cz : Nat) (w : World) (hn0 : ¬ n = 0) (hn1 : ¬ n = 1) : Calls Tryd.prog 16 #[.agg #[.int .i64 4, .string ⟨#[]⟩, .int .i64 n, .int .i64 0, .slice a 0 cz]] w (LnPost [] w) := by
  have ghn0 := beqF hn0
  have bhn0 := bneT hn0
  have ghn1 := beqF hn1
  have bhn1 := bneT hn1
  have b0 := below_alloc w (.cells #[.int .i64 4, .string ⟨#[]⟩, .int .i64 n, .int .i64 0, .slice a 0 cz] 38)
  have r0 := heap_alloc_new w (.cells #[.int .i64 4, .string ⟨#[]⟩, .int .i64 n, .int .i64 0, .slice a 0 cz] 38)
  obtain ⟨W0, hW0⟩ : ∃ W0, w.alloc (.cells #[.int .i64 4, .string ⟨#[]⟩, .int .i64 n, .int .i64 0, .slice a 0 cz] 38) = W0 := ⟨_, rfl⟩
  rw [hW0] at b0 r0
  have zz := fun i => cell_of_row _ _ i _ _ _ r0
  have f0 := zz 0; have f1 := zz 1; have f2 := zz 2; have f3 := zz 3; have f4 := zz 4
  dsimp at f0 f1 f2 f3 f4
  have B0 := Lib.hid b0
  clear zz b0 r0
  go_enter Tryd.func16, Tryd.ntmps16
  go_wp2
  go_ret
  exact ⟨rfl, B0.out⟩
theorem lne_pos {L : List (List UInt8)} (h : ¬ L = []) : (0 : Int) < ((L.length : Nat) : Int) := by
  have := List.length_pos_iff.2 h
  omega
/-- The line of any step. -/
theorem rline_all (x : Stp) (a : Option Addr) (c : Nat) (w : World) (hb : tsB x) (hS : StI w a (x.2.2.2.2.map mkL)) : Calls Tryd.prog 16 #[tsV x a c] w (LnPost (stLs x) w) := by
  cases hg : stLn x with
  | some l =>
    obtain ⟨W, _, _, hx, _⟩ := stLn_W hg
    rw [show stLs x = l by unfold stLs; rw [hg]; rfl]
    exact rline_any x a c w hb hx hS l hg
  | none =>
    rw [show stLs x = [] by unfold stLs; rw [hg]; rfl]
    obtain ⟨k, t, n, m, L⟩ := x
    unfold tsV
    dsimp only
    clear hb hS
    by_cases k0 : k = 0
    · subst k0
      by_cases hm : m = 0
      · subst hm
        by_cases hL : L = []
        · subst hL
          by_cases hn : n = 0
          · subst hn; exact absurd hg (by simp [stLn, stW, swW, plS])
          · exact rlb_0C n t a c w hn
        · exact rlb_0B n t a L.length c w (lne_pos hL)
      · exact rlb_0A n m t a L.length c w hm
    by_cases k2 : k = 2
    · subst k2
      by_cases hL : L = []
      · subst hL
        by_cases ht : t = []
        · subst ht; exact absurd hg (by simp [stLn, stW, swW, plS])
        · by_cases hn : n = 0 <;> by_cases hm : m = 0
          · subst hn; subst hm; exact rlb_2D00 t a c w ht
          · subst hn; exact rlb_2D01 m t a c w ht hm
          · subst hm; exact rlb_2D10 n t a c w ht hn
          · exact rlb_2D11 n m t a c w ht hn hm
      · by_cases hm : m = 0
        · subst hm; exact rlb_2B0 n t a L.length c w (lne_pos hL)
        · exact rlb_2B1 n m t a L.length c w (lne_pos hL) hm
    by_cases k3 : k = 3
    · subst k3
      by_cases hm : m = 0
      · subst hm
        by_cases hn : n = 0
        · subst hn
          by_cases ht : t = []
          · subst ht; exact absurd hg (by simp [stLn, stW, swW, plS])
          · by_cases hL : L = []
            · subst hL; exact rlb_3D0 t a c w ht
            · exact rlb_3D1 t a L.length c w ht (lne_pos hL)
        · by_cases hL : L = []
          · subst hL; exact rlb_3C0 n t a c w hn
          · exact rlb_3C1 n t a L.length c w hn (lne_pos hL)
      · exact rlb_3A n m t a L.length c w hm
    by_cases k4 : k = 4
    · subst k4
      by_cases hm : m = 0
      · subst hm
        by_cases hL : L = []
        · subst hL
          by_cases hn : n = 1
          · subst hn; exact absurd hg (by simp [stLn, stW, swW, plS])
          · by_cases ht : t = []
            · subst ht
              by_cases hn0 : n = 0
              · subst hn0; exact absurd hg (by simp [stLn, stW, swW, plS])
              · exact rlb_4E n a c w hn0 hn
            · by_cases hn0 : n = 0
              · subst hn0; exact rlb_4D0 t a c w ht
              · exact rlb_4D1 n t a c w ht hn0 hn
        · exact rlb_4B n t a L.length c w (lne_pos hL)
      · exact rlb_4A n m t a L.length c w hm
    by_cases hm : m = 0
    · subst hm
      by_cases hL : L = []
      · subst hL
        by_cases hn : n = 0
        · subst hn
          by_cases ht : t = []
          · subst ht
            by_cases h1 : k < 0
            · exact rlb_oF k a c w k0 k2 k3 k4 h1
            · by_cases h2 : 6 < k
              · exact rlb_oG k a c w k0 k2 k3 k4 h2
              · exfalso
                have : k = 1 ∨ k = 5 ∨ k = 6 := by omega
                rcases this with rfl | rfl | rfl <;> exact absurd hg (by simp [stLn, stW, swW, plS])
          · exact rlb_oD k t a c w k0 k2 k3 k4 ht
        · exact rlb_oC k n t a c w k0 k2 k3 k4 hn
      · exact rlb_oB k n t a L.length c w k0 k2 k3 k4 (lne_pos hL)
    · exact rlb_oA k n m t a L.length c w k0 k2 k3 k4 hm
end Go.Proofs.YtnpiooaiceegmaaDoor
