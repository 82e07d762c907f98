/-
  Joined: M13.
-/
import Derived.Test.YtmnjafceenckpaaDoorJQ14
import Derived.Lib.QuietBelow
import Derived.Deep.QuietTactic
import Derived.BigQuiet
set_option linter.unusedVariables false
set_option linter.unusedSimpArgs false
set_option maxRecDepth 100000
set_option linter.unusedVariables false
set_option linter.unusedSimpArgs false
namespace Go.Proofs.YtmnjafceenckpaaDoor
open Go.RowKit Go.Sort
theorem ctl_text (b : ByteArray) (e : Nat) : (ctl b e).1.2.2.2.size = 0 := by
  unfold ctl
  repeat' split
  all_goals rfl
set_option maxHeartbeats 4000000 in
theorem one_text (s : ByteArray) (w : World) (hT : ET w) (hs : s.size ≤ 800000) (ht : 0 < tl s) : Calls Tryd.prog 27 #[.string s] w fun e w' => e = .returned (.tuple #[otV (oneP s).1, .int .i64 ((oneP s).2 : Int)]) ∧ Below w.heap.size w w' := by
  have B0 := below_alloc w (.cells #[.int .i64 0, .int .i64 0, .int .i64 0, .string ⟨#[]⟩] 30)
  have Q0 := Lib.hid (heap_alloc_new w (.cells #[.int .i64 0, .int .i64 0, .int .i64 0, .string ⟨#[]⟩] 30))
  have TL := textLen_any s (w.alloc (.cells #[.int .i64 0, .int .i64 0, .int .i64 0, .string ⟨#[]⟩] 30)) (hT.below B0) (by omega)
  have ho : oneP s = ((0, 0, 0, s.extract 0 (tl s)), tl s) := by unfold oneP; rw [if_pos ht]
  rw [ho]
  have hle := tl_le s
  generalize tl s = n at *
  replace TL := Lib.hid TL
  have hn0 : (0 : Int) < n := by omega
  have hn1 : (n : Int) ≤ s.size := by omega
  clear ho hT
  go_enter Tryd.func27, Tryd.ntmps27
  go_wp2_with (fail)
  go_at_call 38
  refine TL.out.mono ?_
  rintro e w1 ⟨rfl, hb1⟩
  have hq := blk_below Q0.out hb1
  have N1 := seqB B0 hb1
  have zf := fun i => frozen_of_row _ w.heap.size i _ _ hq
  have zz := fun i => cell_of_row _ _ i _ _ _ hq
  have z0 := zz 0; have z1 := zz 1; have z2 := zz 2; have z3 := zz 3
  have hlt := blk_lt hq
  have hfin := Lib.hid (out_set hq 0 0 0 (s.extract 0 n))
  have NF := Lib.hid (out_set_below w1 w w.heap.size (.int .i64 0) (.int .i64 0) (.int .i64 0) (.string (s.extract 0 n)) (Nat.le_refl _) N1)
  clear zz hq
  dsimp at z0 z1 z2 z3
  go_wp2
  generalize hWF : World.setCell _ _ _ = WF
  have hqf : WF.heap[w.heap.size]? = some (.cells #[.int .i64 0, .int .i64 0, .int .i64 0, .string (s.extract 0 n)] 30 (0, 0)) := by rw [← hWF]; exact hfin.out
  have hN : Below w.heap.size w WF := by rw [← hWF]; exact NF.out
  have y := fun i => cell_of_row _ _ i _ _ _ hqf
  have y0 := y 0; have y1 := y 1; have y2 := y 2; have y3 := y 3
  dsimp at y0 y1 y2 y3
  clear y hqf hWF
  refine bodyPost_ret (v := .tuple #[.agg #[.int .i64 0, .int .i64 0, .int .i64 0, .string (s.extract 0 n)], .int .i64 n]) (by simp [results, Tryd.results27, go_sem, y0, y1, y2, y3]) rfl ?_
  exact ⟨rfl, hN⟩
set_option maxHeartbeats 4000000 in
theorem one_nil (s : ByteArray) (w : World) (hT : ET w) (ht : tl s = 0) (h0 : s.size = 0) : Calls Tryd.prog 27 #[.string s] w fun e w' => e = .returned (.tuple #[otV (oneP s).1, .int .i64 ((oneP s).2 : Int)]) ∧ Below w.heap.size w w' := by
  have B0 := below_alloc w (.cells #[.int .i64 0, .int .i64 0, .int .i64 0, .string ⟨#[]⟩] 30)
  have Q0 := Lib.hid (heap_alloc_new w (.cells #[.int .i64 0, .int .i64 0, .int .i64 0, .string ⟨#[]⟩] 30))
  have TL := textLen_any s (w.alloc (.cells #[.int .i64 0, .int .i64 0, .int .i64 0, .string ⟨#[]⟩] 30)) (hT.below B0) (by omega)
  have ho : oneP s = (ot0, 0) := by unfold oneP; rw [if_neg (by omega), if_pos h0]
  rw [ho]
  rw [ht] at TL
  obtain rfl := size0' h0
  replace TL := Lib.hid TL
  clear ho hT ht
  go_enter Tryd.func27, Tryd.ntmps27
  go_wp2_with (fail)
  go_at_call 38
  refine TL.out.mono ?_
  rintro e w1 ⟨rfl, hb1⟩
  have hq := blk_below Q0.out hb1
  have N1 := seqB B0 hb1
  have zf := fun i => frozen_of_row _ w.heap.size i _ _ hq
  have zz := fun i => cell_of_row _ _ i _ _ _ hq
  have z0 := zz 0; have z1 := zz 1; have z2 := zz 2; have z3 := zz 3
  have hlt := blk_lt hq
  have hfin := Lib.hid (out_set hq 0 0 0 ⟨#[]⟩)
  have NF := Lib.hid (out_set_below w1 w w.heap.size (.int .i64 0) (.int .i64 0) (.int .i64 0) (.string ⟨#[]⟩) (Nat.le_refl _) N1)
  clear zz hq
  dsimp at z0 z1 z2 z3
  go_wp2
  generalize hWF : World.setCell _ _ _ = WF
  have hqf : WF.heap[w.heap.size]? = some (.cells #[.int .i64 0, .int .i64 0, .int .i64 0, .string ⟨#[]⟩] 30 (0, 0)) := by rw [← hWF]; exact hfin.out
  have hN : Below w.heap.size w WF := by rw [← hWF]; exact NF.out
  have y := fun i => cell_of_row _ _ i _ _ _ hqf
  have y0 := y 0; have y1 := y 1; have y2 := y 2; have y3 := y 3
  dsimp at y0 y1 y2 y3
  clear y hqf hWF
  refine bodyPost_ret (v := .tuple #[.agg #[.int .i64 0, .int .i64 0, .int .i64 0, .string ⟨#[]⟩], .int .i64 0]) (by simp [results, Tryd.results27, go_sem, y0, y1, y2, y3]) rfl ?_
  exact ⟨rfl, hN⟩
set_option maxHeartbeats 4000000 in
theorem one_7 (s : ByteArray) (w : World) (hT : ET w) (hs : s.size ≤ 800000) (ht : tl s = 0) (h0 : 0 < s.size) (hc : (s.get! 0).toNat = 7) : Calls Tryd.prog 27 #[.string s] w fun e w' => e = .returned (.tuple #[otV (oneP s).1, .int .i64 ((oneP s).2 : Int)]) ∧ Below w.heap.size w w' := by
  have B0 := below_alloc w (.cells #[.int .i64 0, .int .i64 0, .int .i64 0, .string ⟨#[]⟩] 30)
  have Q0 := Lib.hid (heap_alloc_new w (.cells #[.int .i64 0, .int .i64 0, .int .i64 0, .string ⟨#[]⟩] 30))
  have TL := textLen_any s (w.alloc (.cells #[.int .i64 0, .int .i64 0, .int .i64 0, .string ⟨#[]⟩] 30)) (hT.below B0) (by omega)
  have ho : oneP s = ((6, 0, 0, mt), 1) := by
    unfold oneP; rw [if_neg (by omega), if_neg (by omega)]; rw [if_pos hc]
  rw [ho]
  rw [ht] at TL
  rw [get_get s 0 h0] at hc
  obtain ⟨he, he2⟩ := str_ne (show s.size ≠ 0 by omega)
  replace TL := Lib.hid TL
  have hc1 : (s[0].toNat : Int) = 7 := by omega
  clear ho hT ht
  go_enter Tryd.func27, Tryd.ntmps27
  go_wp2_with (fail)
  go_at_call 38
  refine TL.out.mono ?_
  rintro e w1 ⟨rfl, hb1⟩
  have hq := blk_below Q0.out hb1
  have N1 := seqB B0 hb1
  have zf := fun i => frozen_of_row _ w.heap.size i _ _ hq
  have zz := fun i => cell_of_row _ _ i _ _ _ hq
  have z0 := zz 0; have z1 := zz 1; have z2 := zz 2; have z3 := zz 3
  have hlt := blk_lt hq
  have hfin := Lib.hid (out_set hq 6 0 0 ⟨#[]⟩)
  have NF := Lib.hid (out_set_below w1 w w.heap.size (.int .i64 6) (.int .i64 0) (.int .i64 0) (.string ⟨#[]⟩) (Nat.le_refl _) N1)
  clear zz hq
  dsimp at z0 z1 z2 z3
  go_wp2
  generalize hWF : World.setCell _ _ _ = WF
  have hqf : WF.heap[w.heap.size]? = some (.cells #[.int .i64 6, .int .i64 0, .int .i64 0, .string ⟨#[]⟩] 30 (0, 0)) := by rw [← hWF]; exact hfin.out
  have hN : Below w.heap.size w WF := by rw [← hWF]; exact NF.out
  have y := fun i => cell_of_row _ _ i _ _ _ hqf
  have y0 := y 0; have y1 := y 1; have y2 := y 2; have y3 := y 3
  dsimp at y0 y1 y2 y3
  clear y hqf hWF
  refine bodyPost_ret (v := .tuple #[.agg #[.int .i64 6, .int .i64 0, .int .i64 0, .string ⟨#[]⟩], .int .i64 1]) (by simp [results, Tryd.results27, go_sem, y0, y1, y2, y3]) rfl ?_
  exact ⟨rfl, hN⟩
set_option maxHeartbeats 4000000 in
theorem one_13 (s : ByteArray) (w : World) (hT : ET w) (hs : s.size ≤ 800000) (ht : tl s = 0) (h0 : 0 < s.size) (hc : (s.get! 0).toNat = 13) : Calls Tryd.prog 27 #[.string s] w fun e w' => e = .returned (.tuple #[otV (oneP s).1, .int .i64 ((oneP s).2 : Int)]) ∧ Below w.heap.size w w' := by
  have B0 := below_alloc w (.cells #[.int .i64 0, .int .i64 0, .int .i64 0, .string ⟨#[]⟩] 30)
  have Q0 := Lib.hid (heap_alloc_new w (.cells #[.int .i64 0, .int .i64 0, .int .i64 0, .string ⟨#[]⟩] 30))
  have TL := textLen_any s (w.alloc (.cells #[.int .i64 0, .int .i64 0, .int .i64 0, .string ⟨#[]⟩] 30)) (hT.below B0) (by omega)
  have ho : oneP s = ((7, 0, 0, mt), 1) := by
    unfold oneP; rw [if_neg (by omega), if_neg (by omega)]; rw [if_neg (by omega)]; rw [if_pos hc]
  rw [ho]
  rw [ht] at TL
  rw [get_get s 0 h0] at hc
  obtain ⟨he, he2⟩ := str_ne (show s.size ≠ 0 by omega)
  replace TL := Lib.hid TL
  have hc1 : (s[0].toNat : Int) = 13 := by omega
  clear ho hT ht
  go_enter Tryd.func27, Tryd.ntmps27
  go_wp2_with (fail)
  go_at_call 38
  refine TL.out.mono ?_
  rintro e w1 ⟨rfl, hb1⟩
  have hq := blk_below Q0.out hb1
  have N1 := seqB B0 hb1
  have zf := fun i => frozen_of_row _ w.heap.size i _ _ hq
  have zz := fun i => cell_of_row _ _ i _ _ _ hq
  have z0 := zz 0; have z1 := zz 1; have z2 := zz 2; have z3 := zz 3
  have hlt := blk_lt hq
  have hfin := Lib.hid (out_set hq 7 0 0 ⟨#[]⟩)
  have NF := Lib.hid (out_set_below w1 w w.heap.size (.int .i64 7) (.int .i64 0) (.int .i64 0) (.string ⟨#[]⟩) (Nat.le_refl _) N1)
  clear zz hq
  dsimp at z0 z1 z2 z3
  go_wp2
  generalize hWF : World.setCell _ _ _ = WF
  have hqf : WF.heap[w.heap.size]? = some (.cells #[.int .i64 7, .int .i64 0, .int .i64 0, .string ⟨#[]⟩] 30 (0, 0)) := by rw [← hWF]; exact hfin.out
  have hN : Below w.heap.size w WF := by rw [← hWF]; exact NF.out
  have y := fun i => cell_of_row _ _ i _ _ _ hqf
  have y0 := y 0; have y1 := y 1; have y2 := y 2; have y3 := y 3
  dsimp at y0 y1 y2 y3
  clear y hqf hWF
  refine bodyPost_ret (v := .tuple #[.agg #[.int .i64 7, .int .i64 0, .int .i64 0, .string ⟨#[]⟩], .int .i64 1]) (by simp [results, Tryd.results27, go_sem, y0, y1, y2, y3]) rfl ?_
  exact ⟨rfl, hN⟩
set_option maxHeartbeats 4000000 in
theorem one_10 (s : ByteArray) (w : World) (hT : ET w) (hs : s.size ≤ 800000) (ht : tl s = 0) (h0 : 0 < s.size) (hc : (s.get! 0).toNat = 10) : Calls Tryd.prog 27 #[.string s] w fun e w' => e = .returned (.tuple #[otV (oneP s).1, .int .i64 ((oneP s).2 : Int)]) ∧ Below w.heap.size w w' := by
  have B0 := below_alloc w (.cells #[.int .i64 0, .int .i64 0, .int .i64 0, .string ⟨#[]⟩] 30)
  have Q0 := Lib.hid (heap_alloc_new w (.cells #[.int .i64 0, .int .i64 0, .int .i64 0, .string ⟨#[]⟩] 30))
  have TL := textLen_any s (w.alloc (.cells #[.int .i64 0, .int .i64 0, .int .i64 0, .string ⟨#[]⟩] 30)) (hT.below B0) (by omega)
  have ho : oneP s = ((8, 0, 0, mt), 1) := by
    unfold oneP; rw [if_neg (by omega), if_neg (by omega)]; rw [if_neg (by omega)]; rw [if_neg (by omega)]; rw [if_pos hc]
  rw [ho]
  rw [ht] at TL
  rw [get_get s 0 h0] at hc
  obtain ⟨he, he2⟩ := str_ne (show s.size ≠ 0 by omega)
  replace TL := Lib.hid TL
  have hc1 : (s[0].toNat : Int) = 10 := by omega
  clear ho hT ht
  go_enter Tryd.func27, Tryd.ntmps27
  go_wp2_with (fail)
  go_at_call 38
  refine TL.out.mono ?_
  rintro e w1 ⟨rfl, hb1⟩
  have hq := blk_below Q0.out hb1
  have N1 := seqB B0 hb1
  have zf := fun i => frozen_of_row _ w.heap.size i _ _ hq
  have zz := fun i => cell_of_row _ _ i _ _ _ hq
  have z0 := zz 0; have z1 := zz 1; have z2 := zz 2; have z3 := zz 3
  have hlt := blk_lt hq
  have hfin := Lib.hid (out_set hq 8 0 0 ⟨#[]⟩)
  have NF := Lib.hid (out_set_below w1 w w.heap.size (.int .i64 8) (.int .i64 0) (.int .i64 0) (.string ⟨#[]⟩) (Nat.le_refl _) N1)
  clear zz hq
  dsimp at z0 z1 z2 z3
  go_wp2
  generalize hWF : World.setCell _ _ _ = WF
  have hqf : WF.heap[w.heap.size]? = some (.cells #[.int .i64 8, .int .i64 0, .int .i64 0, .string ⟨#[]⟩] 30 (0, 0)) := by rw [← hWF]; exact hfin.out
  have hN : Below w.heap.size w WF := by rw [← hWF]; exact NF.out
  have y := fun i => cell_of_row _ _ i _ _ _ hqf
  have y0 := y 0; have y1 := y 1; have y2 := y 2; have y3 := y 3
  dsimp at y0 y1 y2 y3
  clear y hqf hWF
  refine bodyPost_ret (v := .tuple #[.agg #[.int .i64 8, .int .i64 0, .int .i64 0, .string ⟨#[]⟩], .int .i64 1]) (by simp [results, Tryd.results27, go_sem, y0, y1, y2, y3]) rfl ?_
  exact ⟨rfl, hN⟩
set_option maxHeartbeats 4000000 in
theorem one_nopre (s : ByteArray) (w : World) (hT : ET w) (hs : s.size ≤ 800000) (ht : tl s = 0) (h0 : 0 < s.size) (h7 : (s.get! 0).toNat ≠ 7) (h13 : (s.get! 0).toNat ≠ 13) (h10 : (s.get! 0).toNat ≠ 10) (hp : Lib.hasPrefix (bL s) [27, 91] = false) : Calls Tryd.prog 27 #[.string s] w fun e w' => e = .returned (.tuple #[otV (oneP s).1, .int .i64 ((oneP s).2 : Int)]) ∧ Below w.heap.size w w' := by
  have B0 := below_alloc w (.cells #[.int .i64 0, .int .i64 0, .int .i64 0, .string ⟨#[]⟩] 30)
  have Q0 := Lib.hid (heap_alloc_new w (.cells #[.int .i64 0, .int .i64 0, .int .i64 0, .string ⟨#[]⟩] 30))
  have TL := textLen_any s (w.alloc (.cells #[.int .i64 0, .int .i64 0, .int .i64 0, .string ⟨#[]⟩] 30)) (hT.below B0) (by omega)
  have ho : oneP s = (ot0, 0) := by unfold oneP; rw [if_neg (by omega), if_neg (by omega), if_neg h7, if_neg h13, if_neg h10, if_pos hp]
  rw [ho]
  rw [ht] at TL
  have HP : ∀ w, Calls Tryd.prog 39 #[.string s, .string ⟨#[27, 91]⟩] w fun e w' => e = .returned (.bool (Lib.hasPrefix (bL s) [27, 91])) ∧ w = w' := fun w => (Tryd.strings_HasPrefix s ⟨#[27, 91]⟩ w).mono fun e w' h => ⟨h.1, h.2.symm⟩
  rw [hp] at HP
  rw [get_get s 0 h0] at h7 h13 h10
  have g7 : ¬ (s[0].toNat : Int) = 7 := by omega
  have g13 : ¬ (s[0].toNat : Int) = 13 := by omega
  have g10 : ¬ (s[0].toNat : Int) = 10 := by omega
  obtain ⟨he, he2⟩ := str_ne (show s.size ≠ 0 by omega)
  replace TL := Lib.hid TL; replace HP := Lib.hid HP
  clear ho hT ht hp h7 h13 h10
  go_enter Tryd.func27, Tryd.ntmps27
  go_wp2_with (fail)
  go_at_call 38
  refine TL.out.mono ?_
  rintro e w1 ⟨rfl, hb1⟩
  have hq := blk_below Q0.out hb1
  have N1 := seqB B0 hb1
  have zf := fun i => frozen_of_row _ w.heap.size i _ _ hq
  have zz := fun i => cell_of_row _ _ i _ _ _ hq
  have z0 := zz 0; have z1 := zz 1; have z2 := zz 2; have z3 := zz 3
  have hlt := blk_lt hq
  have hfin := Lib.hid (out_set hq 0 0 0 ⟨#[]⟩)
  have NF := Lib.hid (out_set_below w1 w w.heap.size (.int .i64 0) (.int .i64 0) (.int .i64 0) (.string ⟨#[]⟩) (Nat.le_refl _) N1)
  clear zz hq
  dsimp at z0 z1 z2 z3
  go_wp2_with (go_at_call 39; refine (HP.out _).mono ?_; rintro e w2 ⟨rfl, rfl⟩)
  generalize hWF : World.setCell _ _ _ = WF
  have hqf : WF.heap[w.heap.size]? = some (.cells #[.int .i64 0, .int .i64 0, .int .i64 0, .string ⟨#[]⟩] 30 (0, 0)) := by rw [← hWF]; exact hfin.out
  have hN : Below w.heap.size w WF := by rw [← hWF]; exact NF.out
  have y := fun i => cell_of_row _ _ i _ _ _ hqf
  have y0 := y 0; have y1 := y 1; have y2 := y 2; have y3 := y 3
  dsimp at y0 y1 y2 y3
  clear y hqf hWF
  refine bodyPost_ret (v := .tuple #[.agg #[.int .i64 0, .int .i64 0, .int .i64 0, .string ⟨#[]⟩], .int .i64 0]) (by simp [results, Tryd.results27, go_sem, y0, y1, y2, y3]) rfl ?_
  exact ⟨rfl, hN⟩
set_option maxHeartbeats 4000000 in
theorem one_nolet (s : ByteArray) (w : World) (hT : ET w) (hs : s.size ≤ 800000) (ht : tl s = 0) (h0 : 0 < s.size) (h7 : (s.get! 0).toNat ≠ 7) (h13 : (s.get! 0).toNat ≠ 13) (h10 : (s.get! 0).toNat ≠ 10) (hp : Lib.hasPrefix (bL s) [27, 91] = true) (hl : ltr s = none) : Calls Tryd.prog 27 #[.string s] w fun e w' => e = .returned (.tuple #[otV (oneP s).1, .int .i64 ((oneP s).2 : Int)]) ∧ Below w.heap.size w w' := by
  have B0 := below_alloc w (.cells #[.int .i64 0, .int .i64 0, .int .i64 0, .string ⟨#[]⟩] 30)
  have Q0 := Lib.hid (heap_alloc_new w (.cells #[.int .i64 0, .int .i64 0, .int .i64 0, .string ⟨#[]⟩] 30))
  have TL := textLen_any s (w.alloc (.cells #[.int .i64 0, .int .i64 0, .int .i64 0, .string ⟨#[]⟩] 30)) (hT.below B0) (by omega)
  have ho : oneP s = (ot0, 0) := by unfold oneP oneC; rw [if_neg (by omega), if_neg (by omega), if_neg h7, if_neg h13, if_neg h10, if_neg (by rw [hp]; simp), hl]
  rw [ho]
  rw [ht] at TL
  have HP : ∀ w, Calls Tryd.prog 39 #[.string s, .string ⟨#[27, 91]⟩] w fun e w' => e = .returned (.bool (Lib.hasPrefix (bL s) [27, 91])) ∧ w = w' := fun w => (Tryd.strings_HasPrefix s ⟨#[27, 91]⟩ w).mono fun e w' h => ⟨h.1, h.2.symm⟩
  rw [hp] at HP
  have LT := fun w => letter_any s w (by omega)
  have hli : ltI s = -1 := by unfold ltI; rw [hl]
  rw [hli] at LT
  rw [get_get s 0 h0] at h7 h13 h10
  have g7 : ¬ (s[0].toNat : Int) = 7 := by omega
  have g13 : ¬ (s[0].toNat : Int) = 13 := by omega
  have g10 : ¬ (s[0].toNat : Int) = 10 := by omega
  obtain ⟨he, he2⟩ := str_ne (show s.size ≠ 0 by omega)
  replace TL := Lib.hid TL; replace HP := Lib.hid HP; replace LT := Lib.hid LT
  clear ho hT ht hp h7 h13 h10 hli hl
  go_enter Tryd.func27, Tryd.ntmps27
  go_wp2_with (fail)
  go_at_call 38
  refine TL.out.mono ?_
  rintro e w1 ⟨rfl, hb1⟩
  have hq := blk_below Q0.out hb1
  have N1 := seqB B0 hb1
  have zf := fun i => frozen_of_row _ w.heap.size i _ _ hq
  have zz := fun i => cell_of_row _ _ i _ _ _ hq
  have z0 := zz 0; have z1 := zz 1; have z2 := zz 2; have z3 := zz 3
  have hlt := blk_lt hq
  have hfin := Lib.hid (out_set hq 0 0 0 ⟨#[]⟩)
  have NF := Lib.hid (out_set_below w1 w w.heap.size (.int .i64 0) (.int .i64 0) (.int .i64 0) (.string ⟨#[]⟩) (Nat.le_refl _) N1)
  clear zz hq
  dsimp at z0 z1 z2 z3
  go_wp2_with (first | (go_at_call 39; refine (HP.out _).mono ?_; rintro e w2 ⟨rfl, rfl⟩) | (go_at_call 40; refine (LT.out _).mono ?_; rintro e w3 ⟨rfl, rfl⟩))
  generalize hWF : World.setCell _ _ _ = WF
  have hqf : WF.heap[w.heap.size]? = some (.cells #[.int .i64 0, .int .i64 0, .int .i64 0, .string ⟨#[]⟩] 30 (0, 0)) := by rw [← hWF]; exact hfin.out
  have hN : Below w.heap.size w WF := by rw [← hWF]; exact NF.out
  have y := fun i => cell_of_row _ _ i _ _ _ hqf
  have y0 := y 0; have y1 := y 1; have y2 := y 2; have y3 := y 3
  dsimp at y0 y1 y2 y3
  clear y hqf hWF
  refine bodyPost_ret (v := .tuple #[.agg #[.int .i64 0, .int .i64 0, .int .i64 0, .string ⟨#[]⟩], .int .i64 0]) (by simp [results, Tryd.results27, go_sem, y0, y1, y2, y3]) rfl ?_
  exact ⟨rfl, hN⟩
end Go.Proofs.YtmnjafceenckpaaDoor
