/-
  Joined: R34 R35 R36 R40 R37.
-/
import Derived.Test.YtcdecnmhogmhaaaDoorJ05
import Derived.Test.YtcdecnmhogmhaaaDoorJ06
import Derived.Test.YtcdecnmhogmhaaaDoorJ10
import Derived.Test.YtcdecnmhogmhaaaDoorJ11
set_option linter.unusedVariables false
set_option linter.unusedSimpArgs false
set_option maxRecDepth 100000
set_option linter.unusedVariables false
set_option linter.unusedSimpArgs false
namespace Go.Proofs.YtcdecnmhogmhaaaDoor
open Go.RowKit
set_option maxHeartbeats 8000000 in
theorem shows_neg (p l : List (Int × Int)) (a b : Option Addr) (c d : Nat) (at_ wd h : Int) (w : World) (hT : Tabs w) (h1 : p.length ≤ 30) (h2 : l.length ≤ 60) (hw : ¬ (80 < wd ∧ wd ≤ 1000)) (hh : ¬ (40 < h ∧ h ≤ 1000)) (ha : Signs w a p) (hb : Signs w b l) (hbad : at_ < 0) :
    Calls Tryd.prog 3 #[.agg #[.slice a p.length c, .slice b l.length d, .int .i64 at_, .int .i64 wd, .int .i64 h]] w fun e w' => e = .returned (.bool true) ∧ Below w.heap.size w w' := by
  have B0 := below_alloc w (.cells #[.slice a p.length c, .slice b l.length d, .int .i64 at_, .int .i64 wd, .int .i64 h] 24)
  have HA := Lib.hid (ha.below B0); have HB := Lib.hid (hb.below B0); have HT := Lib.hid (hT.below B0)
  have AW := Lib.hid fun w (h : Tabs w) => pawake_any w h
  have q0 := Lib.hid (heap_alloc_new w (.cells #[.slice a p.length c, .slice b l.length d, .int .i64 at_, .int .i64 wd, .int .i64 h] 24))
  have a1' : ¬ (30 : Int) < p.length := by omega
  have a2' : ¬ (60 : Int) < l.length := by omega
  have SR := Lib.hid (scr_range p l a b c d at_ wd h (w.alloc (.cells #[.slice a p.length c, .slice b l.length d, .int .i64 at_, .int .i64 wd, .int .i64 h] 24)) (by omega) (Or.inl hbad))
  clear ha hb hT
  go_enter Tryd.func3, Tryd.ntmps3
  go_upto_region 1 with fail
  go_cut [37] from 8 to 36 (fun s37 wx => s37 = .bool false ∧ wx = w.alloc (.cells #[.slice a p.length c, .slice b l.length d, .int .i64 at_, .int .i64 wd, .int .i64 h] 24))
  case first =>
    by_cases x1 : 80 < wd
    · have x1' : ¬ wd ≤ 1000 := fun x => hw ⟨x1, x⟩
      by_cases x2 : 40 < h
      · have x2' : ¬ h ≤ 1000 := fun x => hh ⟨x2, x⟩
        clear hw hh
        go_wp2_with fail
        go_meet
        exact ⟨rfl, rfl⟩
      · clear hw hh
        go_wp2_with fail
        go_meet
        exact ⟨rfl, rfl⟩
    · by_cases x2 : 40 < h
      · have x2' : ¬ h ≤ 1000 := fun x => hh ⟨x2, x⟩
        clear hw hh
        go_wp2_with fail
        go_meet
        exact ⟨rfl, rfl⟩
      · clear hw hh
        go_wp2_with fail
        go_meet
        exact ⟨rfl, rfl⟩
  case rest =>
  obtain ⟨rfl, rfl⟩ := hcut
  clear a1' a2' hw hh
  cases hp : sgC p
  · go_wp2_with (first
      | (go_at_call 14; refine SR.out.mono ?_; rintro e w1 ⟨rfl, hb1⟩; have B2 := below_alloc w1 (.cells #[.int .i64 0, .int .i64 0, .slice none 0 0, .int .i64 0, .int .i64 0] 28); have k2 := heap_alloc_new w1 (.cells #[.int .i64 0, .int .i64 0, .slice none 0 0, .int .i64 0, .int .i64 0] 28); have A2 := Lib.hid ((HA.out.below hb1).below B2); have L2 := Lib.hid ((HB.out.below hb1).below B2); have T2 := Lib.hid ((HT.out.below hb1).below B2); have F2 := blk_below (blk_below q0.out hb1) B2; have y := fun i => cell_of_row _ _ i _ _ _ F2; have y0 := y 0; have y1 := y 1; have y2 := y 2; have y3 := y 3; have y4 := y 4; clear y; dsimp at y0 y1 y2 y3 y4)
      | (go_at_call 15; (with_reducible refine (sgall_ref p a c _ (by omega) A2.out).mono ?_); rintro e w3 ⟨rfl, hb3⟩; rw [hp]; have F3 := blk_below F2 hb3; have y := fun i => cell_of_row _ _ i _ _ _ F3; have s0 := y 0; have s1 := y 1; have s2 := y 2; have s3 := y 3; have s4 := y 4; clear y; dsimp at s0 s1 s2 s3 s4; have T3 := Lib.hid (T2.out.below hb3); have k3 := blk_below k2 hb3)
      | (go_at_call 13; refine (AW.out _ T3.out).mono ?_; rintro e w5 ⟨rfl, hb5⟩; have k5 := blk_below k3 hb5; have z := fun i => cell_of_row _ _ i _ _ _ k5; have z0 := z 0; have z2 := z 2; clear z; dsimp at z0 z2))
    go_ret
    exact ⟨rfl, seqB (seqB (seqB (seqB B0 hb1) B2) hb3) hb5⟩
  · cases hl : sgC l
    · go_wp2_with (first
        | (go_at_call 14; refine SR.out.mono ?_; rintro e w1 ⟨rfl, hb1⟩; have B2 := below_alloc w1 (.cells #[.int .i64 0, .int .i64 0, .slice none 0 0, .int .i64 0, .int .i64 0] 28); have k2 := heap_alloc_new w1 (.cells #[.int .i64 0, .int .i64 0, .slice none 0 0, .int .i64 0, .int .i64 0] 28); have A2 := Lib.hid ((HA.out.below hb1).below B2); have L2 := Lib.hid ((HB.out.below hb1).below B2); have T2 := Lib.hid ((HT.out.below hb1).below B2); have F2 := blk_below (blk_below q0.out hb1) B2; have y := fun i => cell_of_row _ _ i _ _ _ F2; have y0 := y 0; have y1 := y 1; have y2 := y 2; have y3 := y 3; have y4 := y 4; clear y; dsimp at y0 y1 y2 y3 y4)
        | (go_at_call 15; (with_reducible refine (sgall_ref p a c _ (by omega) A2.out).mono ?_); rintro e w3 ⟨rfl, hb3⟩; rw [hp]; have F3 := blk_below F2 hb3; have y := fun i => cell_of_row _ _ i _ _ _ F3; have s0 := y 0; have s1 := y 1; have s2 := y 2; have s3 := y 3; have s4 := y 4; clear y; dsimp at s0 s1 s2 s3 s4; have T3 := Lib.hid (T2.out.below hb3); have k3 := blk_below k2 hb3)
        | (go_at_call 15; (with_reducible refine (sgall_ref l b d _ (by omega) (L2.out.below hb3)).mono ?_); rintro e w4 ⟨rfl, hb4⟩; rw [hl]; have F4 := blk_below F3 hb4; have y := fun i => cell_of_row _ _ i _ _ _ F4; have t0 := y 0; have t1 := y 1; have t2 := y 2; have t3 := y 3; have t4 := y 4; clear y; dsimp at t0 t1 t2 t3 t4; have T4 := Lib.hid (T3.out.below hb4); have k4 := blk_below k3 hb4)
        | (go_at_call 13; refine (AW.out _ T4.out).mono ?_; rintro e w5 ⟨rfl, hb5⟩; have k5 := blk_below k4 hb5; have z := fun i => cell_of_row _ _ i _ _ _ k5; have z0 := z 0; have z2 := z 2; clear z; dsimp at z0 z2))
      go_ret
      exact ⟨rfl, seqB (seqB (seqB (seqB (seqB B0 hb1) B2) hb3) hb4) hb5⟩
    · go_wp2_with (first
        | (go_at_call 14; refine SR.out.mono ?_; rintro e w1 ⟨rfl, hb1⟩; have B2 := below_alloc w1 (.cells #[.int .i64 0, .int .i64 0, .slice none 0 0, .int .i64 0, .int .i64 0] 28); have k2 := heap_alloc_new w1 (.cells #[.int .i64 0, .int .i64 0, .slice none 0 0, .int .i64 0, .int .i64 0] 28); have A2 := Lib.hid ((HA.out.below hb1).below B2); have L2 := Lib.hid ((HB.out.below hb1).below B2); have T2 := Lib.hid ((HT.out.below hb1).below B2); have F2 := blk_below (blk_below q0.out hb1) B2; have y := fun i => cell_of_row _ _ i _ _ _ F2; have y0 := y 0; have y1 := y 1; have y2 := y 2; have y3 := y 3; have y4 := y 4; clear y; dsimp at y0 y1 y2 y3 y4)
        | (go_at_call 15; (with_reducible refine (sgall_ref p a c _ (by omega) A2.out).mono ?_); rintro e w3 ⟨rfl, hb3⟩; rw [hp]; have F3 := blk_below F2 hb3; have y := fun i => cell_of_row _ _ i _ _ _ F3; have s0 := y 0; have s1 := y 1; have s2 := y 2; have s3 := y 3; have s4 := y 4; clear y; dsimp at s0 s1 s2 s3 s4; have T3 := Lib.hid (T2.out.below hb3); have k3 := blk_below k2 hb3)
        | (go_at_call 15; (with_reducible refine (sgall_ref l b d _ (by omega) (L2.out.below hb3)).mono ?_); rintro e w4 ⟨rfl, hb4⟩; rw [hl]; have F4 := blk_below F3 hb4; have y := fun i => cell_of_row _ _ i _ _ _ F4; have t0 := y 0; have t1 := y 1; have t2 := y 2; have t3 := y 3; have t4 := y 4; clear y; dsimp at t0 t1 t2 t3 t4; have T4 := Lib.hid (T3.out.below hb4); have k4 := blk_below k3 hb4)
        | (go_at_call 13; refine (AW.out _ T4.out).mono ?_; rintro e w5 ⟨rfl, hb5⟩; have k5 := blk_below k4 hb5; have z := fun i => cell_of_row _ _ i _ _ _ k5; have z0 := z 0; have z2 := z 2; clear z; dsimp at z0 z2))
      go_ret
      exact ⟨rfl, seqB (seqB (seqB (seqB (seqB B0 hb1) B2) hb3) hb4) hb5⟩
set_option maxHeartbeats 8000000 in
theorem shows_far (p l : List (Int × Int)) (a b : Option Addr) (c d : Nat) (at_ wd h : Int) (w : World) (hT : Tabs w) (h1 : p.length ≤ 30) (h2 : l.length ≤ 60) (hw : ¬ (80 < wd ∧ wd ≤ 1000)) (hh : ¬ (40 < h ∧ h ≤ 1000)) (ha : Signs w a p) (hb : Signs w b l) (hbad : (l.length : Int) < at_) (h0 : ¬ at_ < 0) :
    Calls Tryd.prog 3 #[.agg #[.slice a p.length c, .slice b l.length d, .int .i64 at_, .int .i64 wd, .int .i64 h]] w fun e w' => e = .returned (.bool true) ∧ Below w.heap.size w w' := by
  have B0 := below_alloc w (.cells #[.slice a p.length c, .slice b l.length d, .int .i64 at_, .int .i64 wd, .int .i64 h] 24)
  have HA := Lib.hid (ha.below B0); have HB := Lib.hid (hb.below B0); have HT := Lib.hid (hT.below B0)
  have AW := Lib.hid fun w (h : Tabs w) => pawake_any w h
  have q0 := Lib.hid (heap_alloc_new w (.cells #[.slice a p.length c, .slice b l.length d, .int .i64 at_, .int .i64 wd, .int .i64 h] 24))
  have a1' : ¬ (30 : Int) < p.length := by omega
  have a2' : ¬ (60 : Int) < l.length := by omega
  have SR := Lib.hid (scr_range p l a b c d at_ wd h (w.alloc (.cells #[.slice a p.length c, .slice b l.length d, .int .i64 at_, .int .i64 wd, .int .i64 h] 24)) (by omega) (Or.inr (Or.inl hbad)))
  clear ha hb hT
  go_enter Tryd.func3, Tryd.ntmps3
  go_upto_region 1 with fail
  go_cut [37] from 8 to 36 (fun s37 wx => s37 = .bool false ∧ wx = w.alloc (.cells #[.slice a p.length c, .slice b l.length d, .int .i64 at_, .int .i64 wd, .int .i64 h] 24))
  case first =>
    by_cases x1 : 80 < wd
    · have x1' : ¬ wd ≤ 1000 := fun x => hw ⟨x1, x⟩
      by_cases x2 : 40 < h
      · have x2' : ¬ h ≤ 1000 := fun x => hh ⟨x2, x⟩
        clear hw hh
        go_wp2_with fail
        go_meet
        exact ⟨rfl, rfl⟩
      · clear hw hh
        go_wp2_with fail
        go_meet
        exact ⟨rfl, rfl⟩
    · by_cases x2 : 40 < h
      · have x2' : ¬ h ≤ 1000 := fun x => hh ⟨x2, x⟩
        clear hw hh
        go_wp2_with fail
        go_meet
        exact ⟨rfl, rfl⟩
      · clear hw hh
        go_wp2_with fail
        go_meet
        exact ⟨rfl, rfl⟩
  case rest =>
  obtain ⟨rfl, rfl⟩ := hcut
  clear a1' a2' hw hh
  cases hp : sgC p
  · go_wp2_with (first
      | (go_at_call 14; refine SR.out.mono ?_; rintro e w1 ⟨rfl, hb1⟩; have B2 := below_alloc w1 (.cells #[.int .i64 0, .int .i64 0, .slice none 0 0, .int .i64 0, .int .i64 0] 28); have k2 := heap_alloc_new w1 (.cells #[.int .i64 0, .int .i64 0, .slice none 0 0, .int .i64 0, .int .i64 0] 28); have A2 := Lib.hid ((HA.out.below hb1).below B2); have L2 := Lib.hid ((HB.out.below hb1).below B2); have T2 := Lib.hid ((HT.out.below hb1).below B2); have F2 := blk_below (blk_below q0.out hb1) B2; have y := fun i => cell_of_row _ _ i _ _ _ F2; have y0 := y 0; have y1 := y 1; have y2 := y 2; have y3 := y 3; have y4 := y 4; clear y; dsimp at y0 y1 y2 y3 y4)
      | (go_at_call 15; (with_reducible refine (sgall_ref p a c _ (by omega) A2.out).mono ?_); rintro e w3 ⟨rfl, hb3⟩; rw [hp]; have F3 := blk_below F2 hb3; have y := fun i => cell_of_row _ _ i _ _ _ F3; have s0 := y 0; have s1 := y 1; have s2 := y 2; have s3 := y 3; have s4 := y 4; clear y; dsimp at s0 s1 s2 s3 s4; have T3 := Lib.hid (T2.out.below hb3); have k3 := blk_below k2 hb3)
      | (go_at_call 13; refine (AW.out _ T3.out).mono ?_; rintro e w5 ⟨rfl, hb5⟩; have k5 := blk_below k3 hb5; have z := fun i => cell_of_row _ _ i _ _ _ k5; have z0 := z 0; have z2 := z 2; clear z; dsimp at z0 z2))
    go_ret
    exact ⟨rfl, seqB (seqB (seqB (seqB B0 hb1) B2) hb3) hb5⟩
  · cases hl : sgC l
    · go_wp2_with (first
        | (go_at_call 14; refine SR.out.mono ?_; rintro e w1 ⟨rfl, hb1⟩; have B2 := below_alloc w1 (.cells #[.int .i64 0, .int .i64 0, .slice none 0 0, .int .i64 0, .int .i64 0] 28); have k2 := heap_alloc_new w1 (.cells #[.int .i64 0, .int .i64 0, .slice none 0 0, .int .i64 0, .int .i64 0] 28); have A2 := Lib.hid ((HA.out.below hb1).below B2); have L2 := Lib.hid ((HB.out.below hb1).below B2); have T2 := Lib.hid ((HT.out.below hb1).below B2); have F2 := blk_below (blk_below q0.out hb1) B2; have y := fun i => cell_of_row _ _ i _ _ _ F2; have y0 := y 0; have y1 := y 1; have y2 := y 2; have y3 := y 3; have y4 := y 4; clear y; dsimp at y0 y1 y2 y3 y4)
        | (go_at_call 15; (with_reducible refine (sgall_ref p a c _ (by omega) A2.out).mono ?_); rintro e w3 ⟨rfl, hb3⟩; rw [hp]; have F3 := blk_below F2 hb3; have y := fun i => cell_of_row _ _ i _ _ _ F3; have s0 := y 0; have s1 := y 1; have s2 := y 2; have s3 := y 3; have s4 := y 4; clear y; dsimp at s0 s1 s2 s3 s4; have T3 := Lib.hid (T2.out.below hb3); have k3 := blk_below k2 hb3)
        | (go_at_call 15; (with_reducible refine (sgall_ref l b d _ (by omega) (L2.out.below hb3)).mono ?_); rintro e w4 ⟨rfl, hb4⟩; rw [hl]; have F4 := blk_below F3 hb4; have y := fun i => cell_of_row _ _ i _ _ _ F4; have t0 := y 0; have t1 := y 1; have t2 := y 2; have t3 := y 3; have t4 := y 4; clear y; dsimp at t0 t1 t2 t3 t4; have T4 := Lib.hid (T3.out.below hb4); have k4 := blk_below k3 hb4)
        | (go_at_call 13; refine (AW.out _ T4.out).mono ?_; rintro e w5 ⟨rfl, hb5⟩; have k5 := blk_below k4 hb5; have z := fun i => cell_of_row _ _ i _ _ _ k5; have z0 := z 0; have z2 := z 2; clear z; dsimp at z0 z2))
      go_ret
      exact ⟨rfl, seqB (seqB (seqB (seqB (seqB B0 hb1) B2) hb3) hb4) hb5⟩
    · go_wp2_with (first
        | (go_at_call 14; refine SR.out.mono ?_; rintro e w1 ⟨rfl, hb1⟩; have B2 := below_alloc w1 (.cells #[.int .i64 0, .int .i64 0, .slice none 0 0, .int .i64 0, .int .i64 0] 28); have k2 := heap_alloc_new w1 (.cells #[.int .i64 0, .int .i64 0, .slice none 0 0, .int .i64 0, .int .i64 0] 28); have A2 := Lib.hid ((HA.out.below hb1).below B2); have L2 := Lib.hid ((HB.out.below hb1).below B2); have T2 := Lib.hid ((HT.out.below hb1).below B2); have F2 := blk_below (blk_below q0.out hb1) B2; have y := fun i => cell_of_row _ _ i _ _ _ F2; have y0 := y 0; have y1 := y 1; have y2 := y 2; have y3 := y 3; have y4 := y 4; clear y; dsimp at y0 y1 y2 y3 y4)
        | (go_at_call 15; (with_reducible refine (sgall_ref p a c _ (by omega) A2.out).mono ?_); rintro e w3 ⟨rfl, hb3⟩; rw [hp]; have F3 := blk_below F2 hb3; have y := fun i => cell_of_row _ _ i _ _ _ F3; have s0 := y 0; have s1 := y 1; have s2 := y 2; have s3 := y 3; have s4 := y 4; clear y; dsimp at s0 s1 s2 s3 s4; have T3 := Lib.hid (T2.out.below hb3); have k3 := blk_below k2 hb3)
        | (go_at_call 15; (with_reducible refine (sgall_ref l b d _ (by omega) (L2.out.below hb3)).mono ?_); rintro e w4 ⟨rfl, hb4⟩; rw [hl]; have F4 := blk_below F3 hb4; have y := fun i => cell_of_row _ _ i _ _ _ F4; have t0 := y 0; have t1 := y 1; have t2 := y 2; have t3 := y 3; have t4 := y 4; clear y; dsimp at t0 t1 t2 t3 t4; have T4 := Lib.hid (T3.out.below hb4); have k4 := blk_below k3 hb4)
        | (go_at_call 13; refine (AW.out _ T4.out).mono ?_; rintro e w5 ⟨rfl, hb5⟩; have k5 := blk_below k4 hb5; have z := fun i => cell_of_row _ _ i _ _ _ k5; have z0 := z 0; have z2 := z 2; clear z; dsimp at z0 z2))
      go_ret
      exact ⟨rfl, seqB (seqB (seqB (seqB (seqB B0 hb1) B2) hb3) hb4) hb5⟩
set_option maxHeartbeats 8000000 in
theorem shows_side (p l : List (Int × Int)) (a b : Option Addr) (c d : Nat) (at_ wd h : Int) (w : World) (hT : Tabs w) (h1 : p.length ≤ 30) (h2 : l.length ≤ 60) (hw : ¬ (80 < wd ∧ wd ≤ 1000)) (hh : ¬ (40 < h ∧ h ≤ 1000)) (ha : Signs w a p) (hb : Signs w b l) (hbad : (sideB wd && sideB h) = false) (h0 : ¬ at_ < 0) (h3 : ¬ (l.length : Int) < at_) :
    Calls Tryd.prog 3 #[.agg #[.slice a p.length c, .slice b l.length d, .int .i64 at_, .int .i64 wd, .int .i64 h]] w fun e w' => e = .returned (.bool true) ∧ Below w.heap.size w w' := by
  have B0 := below_alloc w (.cells #[.slice a p.length c, .slice b l.length d, .int .i64 at_, .int .i64 wd, .int .i64 h] 24)
  have HA := Lib.hid (ha.below B0); have HB := Lib.hid (hb.below B0); have HT := Lib.hid (hT.below B0)
  have AW := Lib.hid fun w (h : Tabs w) => pawake_any w h
  have q0 := Lib.hid (heap_alloc_new w (.cells #[.slice a p.length c, .slice b l.length d, .int .i64 at_, .int .i64 wd, .int .i64 h] 24))
  have a1' : ¬ (30 : Int) < p.length := by omega
  have a2' : ¬ (60 : Int) < l.length := by omega
  have SR := Lib.hid (scr_range p l a b c d at_ wd h (w.alloc (.cells #[.slice a p.length c, .slice b l.length d, .int .i64 at_, .int .i64 wd, .int .i64 h] 24)) (by omega) (Or.inr (Or.inr (by cases x : sideB wd <;> cases y : sideB h <;> simp [x, y] at hbad ⊢))))
  have hsd := hbad
  clear ha hb hT
  go_enter Tryd.func3, Tryd.ntmps3
  go_upto_region 1 with fail
  go_cut [37] from 8 to 36 (fun s37 wx => s37 = .bool false ∧ wx = w.alloc (.cells #[.slice a p.length c, .slice b l.length d, .int .i64 at_, .int .i64 wd, .int .i64 h] 24))
  case first =>
    by_cases x1 : 80 < wd
    · have x1' : ¬ wd ≤ 1000 := fun x => hw ⟨x1, x⟩
      by_cases x2 : 40 < h
      · have x2' : ¬ h ≤ 1000 := fun x => hh ⟨x2, x⟩
        clear hw hh
        go_wp2_with fail
        go_meet
        exact ⟨rfl, rfl⟩
      · clear hw hh
        go_wp2_with fail
        go_meet
        exact ⟨rfl, rfl⟩
    · by_cases x2 : 40 < h
      · have x2' : ¬ h ≤ 1000 := fun x => hh ⟨x2, x⟩
        clear hw hh
        go_wp2_with fail
        go_meet
        exact ⟨rfl, rfl⟩
      · clear hw hh
        go_wp2_with fail
        go_meet
        exact ⟨rfl, rfl⟩
  case rest =>
  obtain ⟨rfl, rfl⟩ := hcut
  clear a1' a2' hw hh
  cases hp : sgC p
  · go_wp2_with (first
      | (go_at_call 14; refine SR.out.mono ?_; rintro e w1 ⟨rfl, hb1⟩; have B2 := below_alloc w1 (.cells #[.int .i64 0, .int .i64 0, .slice none 0 0, .int .i64 0, .int .i64 0] 28); have k2 := heap_alloc_new w1 (.cells #[.int .i64 0, .int .i64 0, .slice none 0 0, .int .i64 0, .int .i64 0] 28); have A2 := Lib.hid ((HA.out.below hb1).below B2); have L2 := Lib.hid ((HB.out.below hb1).below B2); have T2 := Lib.hid ((HT.out.below hb1).below B2); have F2 := blk_below (blk_below q0.out hb1) B2; have y := fun i => cell_of_row _ _ i _ _ _ F2; have y0 := y 0; have y1 := y 1; have y2 := y 2; have y3 := y 3; have y4 := y 4; clear y; dsimp at y0 y1 y2 y3 y4)
      | (go_at_call 15; (with_reducible refine (sgall_ref p a c _ (by omega) A2.out).mono ?_); rintro e w3 ⟨rfl, hb3⟩; rw [hp]; have F3 := blk_below F2 hb3; have y := fun i => cell_of_row _ _ i _ _ _ F3; have s0 := y 0; have s1 := y 1; have s2 := y 2; have s3 := y 3; have s4 := y 4; clear y; dsimp at s0 s1 s2 s3 s4; have T3 := Lib.hid (T2.out.below hb3); have k3 := blk_below k2 hb3)
      | (go_at_call 16; refine (sides_ref _ _ _).mono ?_; rintro e w6 ⟨rfl, rfl⟩; rw [hsd])
      | (go_at_call 13; refine (AW.out _ T3.out).mono ?_; rintro e w5 ⟨rfl, hb5⟩; have k5 := blk_below k3 hb5; have z := fun i => cell_of_row _ _ i _ _ _ k5; have z0 := z 0; have z2 := z 2; clear z; dsimp at z0 z2))
    go_ret
    exact ⟨rfl, seqB (seqB (seqB (seqB B0 hb1) B2) hb3) hb5⟩
  · cases hl : sgC l
    · go_wp2_with (first
        | (go_at_call 14; refine SR.out.mono ?_; rintro e w1 ⟨rfl, hb1⟩; have B2 := below_alloc w1 (.cells #[.int .i64 0, .int .i64 0, .slice none 0 0, .int .i64 0, .int .i64 0] 28); have k2 := heap_alloc_new w1 (.cells #[.int .i64 0, .int .i64 0, .slice none 0 0, .int .i64 0, .int .i64 0] 28); have A2 := Lib.hid ((HA.out.below hb1).below B2); have L2 := Lib.hid ((HB.out.below hb1).below B2); have T2 := Lib.hid ((HT.out.below hb1).below B2); have F2 := blk_below (blk_below q0.out hb1) B2; have y := fun i => cell_of_row _ _ i _ _ _ F2; have y0 := y 0; have y1 := y 1; have y2 := y 2; have y3 := y 3; have y4 := y 4; clear y; dsimp at y0 y1 y2 y3 y4)
        | (go_at_call 15; (with_reducible refine (sgall_ref p a c _ (by omega) A2.out).mono ?_); rintro e w3 ⟨rfl, hb3⟩; rw [hp]; have F3 := blk_below F2 hb3; have y := fun i => cell_of_row _ _ i _ _ _ F3; have s0 := y 0; have s1 := y 1; have s2 := y 2; have s3 := y 3; have s4 := y 4; clear y; dsimp at s0 s1 s2 s3 s4; have T3 := Lib.hid (T2.out.below hb3); have k3 := blk_below k2 hb3)
        | (go_at_call 15; (with_reducible refine (sgall_ref l b d _ (by omega) (L2.out.below hb3)).mono ?_); rintro e w4 ⟨rfl, hb4⟩; rw [hl]; have F4 := blk_below F3 hb4; have y := fun i => cell_of_row _ _ i _ _ _ F4; have t0 := y 0; have t1 := y 1; have t2 := y 2; have t3 := y 3; have t4 := y 4; clear y; dsimp at t0 t1 t2 t3 t4; have T4 := Lib.hid (T3.out.below hb4); have k4 := blk_below k3 hb4)
        | (go_at_call 16; refine (sides_ref _ _ _).mono ?_; rintro e w6 ⟨rfl, rfl⟩; rw [hsd])
        | (go_at_call 13; refine (AW.out _ T4.out).mono ?_; rintro e w5 ⟨rfl, hb5⟩; have k5 := blk_below k4 hb5; have z := fun i => cell_of_row _ _ i _ _ _ k5; have z0 := z 0; have z2 := z 2; clear z; dsimp at z0 z2))
      go_ret
      exact ⟨rfl, seqB (seqB (seqB (seqB (seqB B0 hb1) B2) hb3) hb4) hb5⟩
    · go_wp2_with (first
        | (go_at_call 14; refine SR.out.mono ?_; rintro e w1 ⟨rfl, hb1⟩; have B2 := below_alloc w1 (.cells #[.int .i64 0, .int .i64 0, .slice none 0 0, .int .i64 0, .int .i64 0] 28); have k2 := heap_alloc_new w1 (.cells #[.int .i64 0, .int .i64 0, .slice none 0 0, .int .i64 0, .int .i64 0] 28); have A2 := Lib.hid ((HA.out.below hb1).below B2); have L2 := Lib.hid ((HB.out.below hb1).below B2); have T2 := Lib.hid ((HT.out.below hb1).below B2); have F2 := blk_below (blk_below q0.out hb1) B2; have y := fun i => cell_of_row _ _ i _ _ _ F2; have y0 := y 0; have y1 := y 1; have y2 := y 2; have y3 := y 3; have y4 := y 4; clear y; dsimp at y0 y1 y2 y3 y4)
        | (go_at_call 15; (with_reducible refine (sgall_ref p a c _ (by omega) A2.out).mono ?_); rintro e w3 ⟨rfl, hb3⟩; rw [hp]; have F3 := blk_below F2 hb3; have y := fun i => cell_of_row _ _ i _ _ _ F3; have s0 := y 0; have s1 := y 1; have s2 := y 2; have s3 := y 3; have s4 := y 4; clear y; dsimp at s0 s1 s2 s3 s4; have T3 := Lib.hid (T2.out.below hb3); have k3 := blk_below k2 hb3)
        | (go_at_call 15; (with_reducible refine (sgall_ref l b d _ (by omega) (L2.out.below hb3)).mono ?_); rintro e w4 ⟨rfl, hb4⟩; rw [hl]; have F4 := blk_below F3 hb4; have y := fun i => cell_of_row _ _ i _ _ _ F4; have t0 := y 0; have t1 := y 1; have t2 := y 2; have t3 := y 3; have t4 := y 4; clear y; dsimp at t0 t1 t2 t3 t4; have T4 := Lib.hid (T3.out.below hb4); have k4 := blk_below k3 hb4)
        | (go_at_call 16; refine (sides_ref _ _ _).mono ?_; rintro e w6 ⟨rfl, rfl⟩; rw [hsd])
        | (go_at_call 13; refine (AW.out _ T4.out).mono ?_; rintro e w5 ⟨rfl, hb5⟩; have k5 := blk_below k4 hb5; have z := fun i => cell_of_row _ _ i _ _ _ k5; have z0 := z 0; have z2 := z 2; clear z; dsimp at z0 z2))
      go_ret
      exact ⟨rfl, seqB (seqB (seqB (seqB (seqB B0 hb1) B2) hb3) hb4) hb5⟩
end Go.Proofs.YtcdecnmhogmhaaaDoor
set_option linter.unusedVariables false
set_option linter.unusedSimpArgs false
namespace Go.Proofs.YtcdecnmhogmhaaaDoor
open Go.RowKit
set_option maxHeartbeats 8000000 in
theorem shows_arg (p l : List (Int × Int)) (a b : Option Addr) (c d at' wd' h' : Nat) (w : World) (hT : Tabs w) (h1 : p.length ≤ 30) (h2 : l.length ≤ 60) (hw1 : 1 ≤ wd') (hw : wd' ≤ 80) (hh1 : 1 ≤ h') (hh : h' ≤ 40) (hat : at' ≤ l.length) (ha : Signs w a p) (hb : Signs w b l) (hS : (sgC p && sgC l) = false) :
    Calls Tryd.prog 3 #[.agg #[.slice a p.length c, .slice b l.length d, .int .i64 at', .int .i64 wd', .int .i64 h']] w fun e w' => e = .returned (.bool true) ∧ Below w.heap.size w w' := by
  have B0 := below_alloc w (.cells #[.slice a p.length c, .slice b l.length d, .int .i64 at', .int .i64 wd', .int .i64 h'] 24)
  have HA := Lib.hid (ha.below B0); have HB := Lib.hid (hb.below B0); have HT := Lib.hid (hT.below B0)
  have AW := Lib.hid fun w (h : Tabs w) => pawake_any w h
  have q0 := Lib.hid (heap_alloc_new w (.cells #[.slice a p.length c, .slice b l.length d, .int .i64 at', .int .i64 wd', .int .i64 h'] 24))
  have a1' : ¬ (30 : Int) < p.length := by omega
  have a2' : ¬ (60 : Int) < l.length := by omega
  have SR := Lib.hid (scr_arg p l a b c d at' wd' h' (w.alloc (.cells #[.slice a p.length c, .slice b l.length d, .int .i64 at', .int .i64 wd', .int .i64 h'] 24)) (by omega) (by omega) HA.out HB.out hat hw1 (by omega) hh1 (by omega) hS)
  have hsd : (sideB (wd' : Int) && sideB (h' : Int)) = true := by rw [sideB_yes wd' hw1 (by omega), sideB_yes h' hh1 (by omega)]; rfl
  have n1 : ¬ (at' : Int) < 0 := by omega
  have n2 : ¬ (l.length : Int) < at' := by omega
  have n3 : ¬ (80 : Int) < wd' := by omega
  have n4 : ¬ (40 : Int) < h' := by omega
  clear ha hb hT
  cases hp : sgC p
  · clear hS
    go_enter Tryd.func3, Tryd.ntmps3
    go_wp2_with (first
      | (go_at_call 14; refine SR.out.mono ?_; rintro e w1 ⟨rfl, hb1⟩; have B2 := below_alloc w1 (.cells #[.int .i64 0, .int .i64 0, .slice none 0 0, .int .i64 0, .int .i64 0] 28); have k2 := heap_alloc_new w1 (.cells #[.int .i64 0, .int .i64 0, .slice none 0 0, .int .i64 0, .int .i64 0] 28); have A2 := Lib.hid ((HA.out.below hb1).below B2); have L2 := Lib.hid ((HB.out.below hb1).below B2); have T2 := Lib.hid ((HT.out.below hb1).below B2); have F2 := blk_below (blk_below q0.out hb1) B2; have y := fun i => cell_of_row _ _ i _ _ _ F2; have y0 := y 0; have y1 := y 1; have y2 := y 2; have y3 := y 3; have y4 := y 4; clear y; dsimp at y0 y1 y2 y3 y4)
      | (go_at_call 15; (with_reducible refine (sgall_ref p a c _ (by omega) A2.out).mono ?_); rintro e w3 ⟨rfl, hb3⟩; rw [hp]; have F3 := blk_below F2 hb3; have y := fun i => cell_of_row _ _ i _ _ _ F3; have s0 := y 0; have s1 := y 1; have s2 := y 2; have s3 := y 3; have s4 := y 4; clear y; dsimp at s0 s1 s2 s3 s4; have T3 := Lib.hid (T2.out.below hb3); have k3 := blk_below k2 hb3)
      | (go_at_call 16; refine (sides_ref _ _ _).mono ?_; rintro e w6 ⟨rfl, rfl⟩; rw [hsd])
      | (go_at_call 13; refine (AW.out _ T3.out).mono ?_; rintro e w5 ⟨rfl, hb5⟩; have k5 := blk_below k3 hb5; have z := fun i => cell_of_row _ _ i _ _ _ k5; have z0 := z 0; have z2 := z 2; clear z; dsimp at z0 z2))
    go_ret
    exact ⟨rfl, seqB (seqB (seqB (seqB B0 hb1) B2) hb3) hb5⟩
  · have hl : sgC l = false := by rw [hp] at hS; exact hS
    clear hS
    go_enter Tryd.func3, Tryd.ntmps3
    go_wp2_with (first
      | (go_at_call 14; refine SR.out.mono ?_; rintro e w1 ⟨rfl, hb1⟩; have B2 := below_alloc w1 (.cells #[.int .i64 0, .int .i64 0, .slice none 0 0, .int .i64 0, .int .i64 0] 28); have k2 := heap_alloc_new w1 (.cells #[.int .i64 0, .int .i64 0, .slice none 0 0, .int .i64 0, .int .i64 0] 28); have A2 := Lib.hid ((HA.out.below hb1).below B2); have L2 := Lib.hid ((HB.out.below hb1).below B2); have T2 := Lib.hid ((HT.out.below hb1).below B2); have F2 := blk_below (blk_below q0.out hb1) B2; have y := fun i => cell_of_row _ _ i _ _ _ F2; have y0 := y 0; have y1 := y 1; have y2 := y 2; have y3 := y 3; have y4 := y 4; clear y; dsimp at y0 y1 y2 y3 y4)
      | (go_at_call 15; (with_reducible refine (sgall_ref p a c _ (by omega) A2.out).mono ?_); rintro e w3 ⟨rfl, hb3⟩; rw [hp]; have F3 := blk_below F2 hb3; have y := fun i => cell_of_row _ _ i _ _ _ F3; have s0 := y 0; have s1 := y 1; have s2 := y 2; have s3 := y 3; have s4 := y 4; clear y; dsimp at s0 s1 s2 s3 s4; have T3 := Lib.hid (T2.out.below hb3); have k3 := blk_below k2 hb3)
      | (go_at_call 15; (with_reducible refine (sgall_ref l b d _ (by omega) (L2.out.below hb3)).mono ?_); rintro e w4 ⟨rfl, hb4⟩; rw [hl]; have F4 := blk_below F3 hb4; have y := fun i => cell_of_row _ _ i _ _ _ F4; have t0 := y 0; have t1 := y 1; have t2 := y 2; have t3 := y 3; have t4 := y 4; clear y; dsimp at t0 t1 t2 t3 t4; have T4 := Lib.hid (T3.out.below hb4); have k4 := blk_below k3 hb4)
      | (go_at_call 16; refine (sides_ref _ _ _).mono ?_; rintro e w6 ⟨rfl, rfl⟩; rw [hsd])
      | (go_at_call 13; refine (AW.out _ T4.out).mono ?_; rintro e w5 ⟨rfl, hb5⟩; have k5 := blk_below k4 hb5; have z := fun i => cell_of_row _ _ i _ _ _ k5; have z0 := z 0; have z2 := z 2; clear z; dsimp at z0 z2))
    go_ret
    exact ⟨rfl, seqB (seqB (seqB (seqB (seqB B0 hb1) B2) hb3) hb4) hb5⟩
end Go.Proofs.YtcdecnmhogmhaaaDoor
set_option linter.unusedVariables false
set_option linter.unusedSimpArgs false
namespace Go.Proofs.YtcdecnmhogmhaaaDoor
open Go.RowKit Go.Sort
theorem rowsS_self (x : List (List Cl)) : rowsS x x = true := rowsS_yes fun j _ => shS_yes rfl fun i _ => by unfold clE; rw [beq_self_eq_true, beq_self_eq_true]; rfl
theorem shA_self (x : List Cl) : shA x x = true := shA_yes rfl fun _ _ => rfl
/-- Two screens of the same content. -/
theorem scr_both (p l : List (Int × Int)) (a b : Option Addr) (c d at_ wd h : Nat) (w : World) (hp : p.length ≤ 1000) (hl : l.length ≤ 1000) (ha : Signs w a p) (hb : Signs w b l) (hT : Tabs w) (hat : at_ ≤ l.length) (hw1 : 1 ≤ wd) (hw2 : wd ≤ 1000) (hh1 : 1 ≤ h) (hh2 : h ≤ 1000) (hP : sgC p = true) (hL : sgC l = true) :
    ∃ (R C : Nat) (rows : List (List Cl)), R < h ∧ rows.length = h ∧ (∀ i, (rows.getD i []).length ≤ 1000) ∧ (2 ≤ wd → C < wd ∧ ∀ i, i < h → (rows.getD i []).length = wd ∧ FullOk (rows.getD i [])) ∧
    (Calls Tryd.prog 14 #[.slice a p.length c, .slice b l.length d, .int .i64 at_, .int .i64 wd, .int .i64 h] w fun e w' => ∃ g : Nat, e = .returned (.tuple #[.agg #[.int .i64 wd, .int .i64 h, .slice (some ⟨g, 0, none⟩) h h, .int .i64 R, .int .i64 C], .int .i64 0]) ∧ RowsB w' g rows ∧ Below w.heap.size w w') ∧
    (∀ w2, Signs w2 a p → Signs w2 b l → Calls Tryd.prog 17 #[.slice a p.length c, .slice b l.length d, .int .i64 at_, .int .i64 wd, .int .i64 h] w2 fun e w' => ∃ ra rc, e = .returned (.agg #[.int .i64 wd, .int .i64 h, .slice ra h rc, .int .i64 R, .int .i64 C]) ∧ RowsC w' ra rows ∧ Below w2.heap.size w2 w') := by
  obtain ⟨r, cc, hc, hr⟩ := curP_rng (vwOf p l) wd at_
  have ht : topP (vwOf p l) wd at_ h = topN (lyRows (vwOf p l) wd).length r h := by unfold topP; rw [hc]; rfl
  obtain ⟨h1, _, h3⟩ := topN_le (lyRows (vwOf p l) wd).length r h hr
  rw [← ht] at h1 h3
  have hlay := rowOk_lay (rowOk_vw p l)
  refine ⟨r - topP (vwOf p l) wd at_ h, cc, scR (vwOf p l) wd (topP (vwOf p l) wd at_ h) h, h3 hh1, scR_len _ _ _ _, fun i => ?_, fun hw => ⟨?_, scr_full p l hw _ h⟩, ?_, fun w2 ha2 hb2 => ?_⟩
  · by_cases hi : i < h
    · rw [scR_at _ _ _ _ i hi, fillN_len]
      have := row_le hw1 hlay (topP (vwOf p l) wd at_ h + i) (L := vwOf p l) (w := wd)
      omega
    · rw [List.getD, List.getElem?_eq_none (by rw [scR_len]; omega)]; exact Nat.zero_le _
  · obtain ⟨r', c', e', _, _, h4, _⟩ := cur_what (L := vwOf p l) (w := wd) (at_ := at_) (h := h) hw hh1 hlay
    rw [hc] at e'
    have := (Prod.mk.inj e').2
    omega
  · refine (scr_any p l a b c d at_ wd h w hp hl ha hb hT hat hw1 hw2 hh1 hh2 hP hL).mono ?_
    rintro e w' ⟨g, rfl, hr, hb⟩
    refine ⟨g, ?_, hr, hb⟩
    rw [hc]
    show Ending.returned (.tuple #[.agg #[_, _, _, .int .i64 ((r : Int) - topP (vwOf p l) wd at_ h), _], _]) = _
    rw [show (r : Int) - topP (vwOf p l) wd at_ h = ((r - topP (vwOf p l) wd at_ h : Nat) : Int) by omega]
  · refine (scr_ref p l a b c d at_ wd h w2 hp hl ha2 hb2 hat hw1 hw2 hh1 hh2 hP hL).mono ?_
    rintro e w' ⟨ra, rc, rfl, hr, hb⟩
    refine ⟨ra, rc, ?_, hr, hb⟩
    rw [hc]
    show Ending.returned (.agg #[_, _, _, .int .i64 ((r : Int) - topP (vwOf p l) wd at_ h), _]) = _
    rw [show (r : Int) - topP (vwOf p l) wd at_ h = ((r - topP (vwOf p l) wd at_ h : Nat) : Int) by omega]
end Go.Proofs.YtcdecnmhogmhaaaDoor
set_option linter.unusedVariables false
set_option linter.unusedSimpArgs false
namespace Go.Proofs.YtcdecnmhogmhaaaDoor
open Go.RowKit
def goodS (p l : List (Int × Int)) (at_ : Int) : Bool := decide (0 ≤ at_) && decide (at_ ≤ l.length) && (sgC p && sgC l)
/-- A screen that is refused. -/
theorem scr_bad (p l : List (Int × Int)) (a b : Option Addr) (c d : Nat) (at_ : Int) (wd h : Nat) (w : World) (hp : p.length ≤ 1000) (hl : l.length ≤ 1000) (ha : Signs w a p) (hb : Signs w b l) (hw1 : 1 ≤ wd) (hw2 : wd ≤ 1000) (hh1 : 1 ≤ h) (hh2 : h ≤ 1000) (hg : goodS p l at_ = false) :
    Calls Tryd.prog 14 #[.slice a p.length c, .slice b l.length d, .int .i64 at_, .int .i64 wd, .int .i64 h] w fun e w' => ∃ E : Int, (E = 2 ∨ E = 3) ∧ e = .returned (.tuple #[.agg #[.int .i64 0, .int .i64 0, .slice none 0 0, .int .i64 0, .int .i64 0], .int .i64 E]) ∧ Below w.heap.size w w' := by
  by_cases h1 : at_ < 0
  · exact (scr_range p l a b c d at_ wd h w hl (Or.inl h1)).mono fun e w' ⟨h1, h2⟩ => ⟨3, Or.inr rfl, h1, h2⟩
  by_cases h2 : (l.length : Int) < at_
  · exact (scr_range p l a b c d at_ wd h w hl (Or.inr (Or.inl h2))).mono fun e w' ⟨h1, h2⟩ => ⟨3, Or.inr rfl, h1, h2⟩
  obtain ⟨at', rfl⟩ := Int.eq_ofNat_of_zero_le (show 0 ≤ at_ by omega)
  have hS : (sgC p && sgC l) = false := by
    unfold goodS at hg
    rw [decide_eq_true (by omega), decide_eq_true (by omega)] at hg
    exact hg
  exact (scr_arg p l a b c d at' wd h w hp hl ha hb (by omega) hw1 hw2 hh1 hh2 hS).mono fun e w' ⟨h1, h2⟩ => ⟨2, Or.inl rfl, h1, h2⟩
theorem goodS_yes {p l : List (Int × Int)} {at_ : Int} (h : goodS p l at_ = true) : ∃ n : Nat, at_ = n ∧ n ≤ l.length ∧ sgC p = true ∧ sgC l = true := by
  unfold goodS at h
  simp only [Bool.and_eq_true, decide_eq_true_eq] at h
  exact ⟨at_.toNat, by omega, by omega, h.2.1, h.2.2⟩
/-- A screen of any kind. -/
theorem scr_gen (p l : List (Int × Int)) (a b : Option Addr) (c d : Nat) (at_ : Int) (wd h : Nat) (w : World) (hp : p.length ≤ 1000) (hl : l.length ≤ 1000) (ha : Signs w a p) (hb : Signs w b l) (hT : Tabs w) (hw1 : 1 ≤ wd) (hw2 : wd ≤ 1000) (hh1 : 1 ≤ h) (hh2 : h ≤ 1000) :
    Calls Tryd.prog 14 #[.slice a p.length c, .slice b l.length d, .int .i64 at_, .int .i64 wd, .int .i64 h] w fun e w' => ∃ (W H R C E : Int) (x : Option Addr) (n m : Nat), e = .returned (.tuple #[.agg #[.int .i64 W, .int .i64 H, .slice x n m, .int .i64 R, .int .i64 C], .int .i64 E]) ∧ Below w.heap.size w w' := by
  cases hg : goodS p l at_
  · exact (scr_bad p l a b c d at_ wd h w hp hl ha hb hw1 hw2 hh1 hh2 hg).mono fun e w' ⟨E, _, h1, h2⟩ => ⟨_, _, _, _, _, _, _, _, h1, h2⟩
  · obtain ⟨n, rfl, hn, h1, h2⟩ := goodS_yes hg
    exact (scr_any p l a b c d n wd h w hp hl ha hb hT hn hw1 hw2 hh1 hh2 h1 h2).mono fun e w' ⟨g, h1, _, h2⟩ => ⟨_, _, _, _, _, _, _, _, h1, h2⟩
set_option maxHeartbeats 8000000 in
theorem fits_big (p p2 x y : List (Int × Int)) (a b a2 b2 : Option Addr) (c d c2 d2 : Nat) (at_ wd h bt wd2 h2 : Int) (w : World) (hT : Tabs w) (hmp : p.length ≤ 9223372036854775807) (hmx : x.length ≤ 9223372036854775807) (hmy : y.length ≤ 9223372036854775807)
    (hbig : 10 < p.length ∨ 20 < x.length ∨ 20 < y.length ∨ wd < 4 ∨ 80 < wd ∨ h < 1 ∨ 60 < h) :
    Calls Tryd.prog 4 #[.agg #[.slice a p.length c, .slice b x.length d, .int .i64 at_, .int .i64 wd, .int .i64 h], .agg #[.slice a2 p2.length c2, .slice b2 y.length d2, .int .i64 bt, .int .i64 wd2, .int .i64 h2]] w fun e w' => e = .returned (.bool true) ∧ Below w.heap.size w w' := by
  have B0 := seqB (below_alloc w (.cells #[.slice a p.length c, .slice b x.length d, .int .i64 at_, .int .i64 wd, .int .i64 h] 24)) (below_alloc _ (.cells #[.slice a2 p2.length c2, .slice b2 y.length d2, .int .i64 bt, .int .i64 wd2, .int .i64 h2] 24))
  have HT := Lib.hid (hT.below B0)
  have AW := Lib.hid fun w (h : Tabs w) => pawake_any w h
  clear hT
  by_cases k0 : 10 < p.length
  · have k0' : (10 : Int) < p.length := by omega
    clear hbig
    go_enter Tryd.func4, Tryd.ntmps4
    go_wp2_with (go_at_call 13; refine (AW.out _ HT.out).mono ?_; rintro e w2 ⟨rfl, hb2⟩)
    go_ret
    exact ⟨rfl, seqB B0 hb2⟩
  have k0' : ¬ (10 : Int) < p.length := by omega
  by_cases k1 : 20 < x.length
  · have k1' : (20 : Int) < x.length := by omega
    clear hbig
    go_enter Tryd.func4, Tryd.ntmps4
    go_wp2_with (go_at_call 13; refine (AW.out _ HT.out).mono ?_; rintro e w2 ⟨rfl, hb2⟩)
    go_ret
    exact ⟨rfl, seqB B0 hb2⟩
  have k1' : ¬ (20 : Int) < x.length := by omega
  by_cases k2 : 20 < y.length
  · have k2' : (20 : Int) < y.length := by omega
    clear hbig
    go_enter Tryd.func4, Tryd.ntmps4
    go_wp2_with (go_at_call 13; refine (AW.out _ HT.out).mono ?_; rintro e w2 ⟨rfl, hb2⟩)
    go_ret
    exact ⟨rfl, seqB B0 hb2⟩
  have k2' : ¬ (20 : Int) < y.length := by omega
  by_cases k3 : wd < 4
  · have k3' : wd < 4 := by omega
    clear hbig
    go_enter Tryd.func4, Tryd.ntmps4
    go_wp2_with (go_at_call 13; refine (AW.out _ HT.out).mono ?_; rintro e w2 ⟨rfl, hb2⟩)
    go_ret
    exact ⟨rfl, seqB B0 hb2⟩
  have k3' : ¬ wd < 4 := by omega
  by_cases k4 : 80 < wd
  · have k4' : 80 < wd := by omega
    clear hbig
    go_enter Tryd.func4, Tryd.ntmps4
    go_wp2_with (go_at_call 13; refine (AW.out _ HT.out).mono ?_; rintro e w2 ⟨rfl, hb2⟩)
    go_ret
    exact ⟨rfl, seqB B0 hb2⟩
  have k4' : ¬ 80 < wd := by omega
  by_cases k5 : h < 1
  · have k5' : h < 1 := by omega
    clear hbig
    go_enter Tryd.func4, Tryd.ntmps4
    go_wp2_with (go_at_call 13; refine (AW.out _ HT.out).mono ?_; rintro e w2 ⟨rfl, hb2⟩)
    go_ret
    exact ⟨rfl, seqB B0 hb2⟩
  have k5' : ¬ h < 1 := by omega
  by_cases k6 : 60 < h
  · have k6' : 60 < h := by omega
    clear hbig
    go_enter Tryd.func4, Tryd.ntmps4
    go_wp2_with (go_at_call 13; refine (AW.out _ HT.out).mono ?_; rintro e w2 ⟨rfl, hb2⟩)
    go_ret
    exact ⟨rfl, seqB B0 hb2⟩
  have k6' : ¬ 60 < h := by omega
  omega
set_option maxHeartbeats 8000000 in
theorem fits_bad1 (p p2 x y : List (Int × Int)) (a b a2 b2 : Option Addr) (c d c2 d2 : Nat) (wd h : Nat) (at_ bt wd2 h2 : Int) (w : World) (hT : Tabs w) (hp : p.length ≤ 10) (hx : x.length ≤ 20) (hy : y.length ≤ 20) (h4 : 4 ≤ wd) (h80 : wd ≤ 80) (h1 : 1 ≤ h) (h60 : h ≤ 60) (ha : Signs w a p) (hb : Signs w b x) (hb2 : Signs w b2 y) (hg : goodS p x at_ = false) :
    Calls Tryd.prog 4 #[.agg #[.slice a p.length c, .slice b x.length d, .int .i64 at_, .int .i64 wd, .int .i64 h], .agg #[.slice a2 p2.length c2, .slice b2 y.length d2, .int .i64 bt, .int .i64 wd2, .int .i64 h2]] w fun e w' => e = .returned (.bool true) ∧ Below w.heap.size w w' := by
  have B0 := seqB (below_alloc w (.cells #[.slice a p.length c, .slice b x.length d, .int .i64 at_, .int .i64 wd, .int .i64 h] 24)) (below_alloc _ (.cells #[.slice a2 p2.length c2, .slice b2 y.length d2, .int .i64 bt, .int .i64 wd2, .int .i64 h2] 24))
  have HT := Lib.hid (hT.below B0); have HA := Lib.hid (ha.below B0); have HB := Lib.hid (hb.below B0); have HC := Lib.hid (hb2.below B0)
  have AW := Lib.hid fun w (h : Tabs w) => pawake_any w h
  have q0 := blk_alloc (heap_alloc_new w (.cells #[.slice a p.length c, .slice b x.length d, .int .i64 at_, .int .i64 wd, .int .i64 h] 24)) (.cells #[.slice a2 p2.length c2, .slice b2 y.length d2, .int .i64 bt, .int .i64 wd2, .int .i64 h2] 24)
  have q1 := heap_alloc_new (w.alloc (.cells #[.slice a p.length c, .slice b x.length d, .int .i64 at_, .int .i64 wd, .int .i64 h] 24)) (.cells #[.slice a2 p2.length c2, .slice b2 y.length d2, .int .i64 bt, .int .i64 wd2, .int .i64 h2] 24)
  rw [show (w.alloc (.cells #[.slice a p.length c, .slice b x.length d, .int .i64 at_, .int .i64 wd, .int .i64 h] 24)).heap.size = w.heap.size + 1 by simp] at q1
  replace q0 := Lib.hid q0; replace q1 := Lib.hid q1
  clear hT ha hb hb2
  have k0' : ¬ (10 : Int) < p.length := by omega
  have k1' : ¬ (20 : Int) < x.length := by omega
  have k2' : ¬ (20 : Int) < y.length := by omega
  have k3' : ¬ (wd : Int) < 4 := by omega
  have k4' : ¬ (80 : Int) < wd := by omega
  have k5' : ¬ (h : Int) < 1 := by omega
  have k6' : ¬ (60 : Int) < h := by omega
  have S1 := Lib.hid (fun w ha hb => scr_bad p x a b c d at_ wd h w (by omega) (by omega) ha hb (by omega) (by omega) (by omega) (by omega) hg)
  have S2 := Lib.hid (fun w ha hb hT => scr_gen p y a b2 c d2 bt wd h w (by omega) (by omega) ha hb hT (by omega) (by omega) (by omega) (by omega))
  clear hg
  go_enter Tryd.func4, Tryd.ntmps4
  go_wp2_with (fail)
  go_at_call 14
  refine (S1.out _ HA.out HB.out).mono ?_
  rintro e w1 ⟨E1, hE1, rfl, hb1⟩
  have hE1n : ¬ E1 = 0 := (by omega); have B1 := below_alloc w1 (.cells #[.int .i64 0, .int .i64 0, .slice none 0 0, .int .i64 0, .int .i64 0] 28); have A1 := Lib.hid ((HA.out.below hb1).below B1); have C1h := Lib.hid ((HC.out.below hb1).below B1); have T1 := Lib.hid ((HT.out.below hb1).below B1); have F1 := blk_below (blk_below q0.out hb1) B1; have G1 := blk_below (blk_below q1.out hb1) B1
  have yy := fun i => cell_of_row _ _ i _ _ _ F1; have y0 := yy 0; have y1 := yy 1; have y2 := yy 2; have y3 := yy 3; have y4 := yy 4; clear yy; dsimp at y0 y1 y2 y3 y4
  have yy := fun i => cell_of_row _ _ i _ _ _ G1; have z0 := yy 0; have z1 := yy 1; have z2 := yy 2; have z3 := yy 3; have z4 := yy 4; clear yy; dsimp at z0 z1 z2 z3 z4
  go_wp2_with (fail)
  go_at_call 14
  refine (S2.out _ A1.out C1h.out T1.out).mono ?_
  rintro e w2 ⟨W2, H2, R2, C2, E2, x2, n2, m2, rfl, hb2⟩
  have B2 := below_alloc w2 (.cells #[.int .i64 W2, .int .i64 H2, .slice x2 n2 m2, .int .i64 R2, .int .i64 C2] 28); have T2 := Lib.hid ((T1.out.below hb2).below B2)
  go_wp2_with (fail)
  go_at_call 13
  refine (AW.out _ T2.out).mono ?_
  rintro e w3 ⟨rfl, hb3⟩
  go_wp2
  go_ret
  exact ⟨rfl, seqB (seqB (seqB (seqB (seqB B0 hb1) B1) hb2) B2) hb3⟩
set_option maxHeartbeats 8000000 in
theorem fits_bad2 (p p2 x y : List (Int × Int)) (a b a2 b2 : Option Addr) (c d c2 d2 : Nat) (wd h : Nat) (at_ bt wd2 h2 : Int) (w : World) (hT : Tabs w) (hp : p.length ≤ 10) (hx : x.length ≤ 20) (hy : y.length ≤ 20) (h4 : 4 ≤ wd) (h80 : wd ≤ 80) (h1 : 1 ≤ h) (h60 : h ≤ 60) (ha : Signs w a p) (hb : Signs w b x) (hb2 : Signs w b2 y) (hg : goodS p x at_ = true) (hg2 : goodS p y bt = false) :
    Calls Tryd.prog 4 #[.agg #[.slice a p.length c, .slice b x.length d, .int .i64 at_, .int .i64 wd, .int .i64 h], .agg #[.slice a2 p2.length c2, .slice b2 y.length d2, .int .i64 bt, .int .i64 wd2, .int .i64 h2]] w fun e w' => e = .returned (.bool true) ∧ Below w.heap.size w w' := by
  have B0 := seqB (below_alloc w (.cells #[.slice a p.length c, .slice b x.length d, .int .i64 at_, .int .i64 wd, .int .i64 h] 24)) (below_alloc _ (.cells #[.slice a2 p2.length c2, .slice b2 y.length d2, .int .i64 bt, .int .i64 wd2, .int .i64 h2] 24))
  have HT := Lib.hid (hT.below B0); have HA := Lib.hid (ha.below B0); have HB := Lib.hid (hb.below B0); have HC := Lib.hid (hb2.below B0)
  have AW := Lib.hid fun w (h : Tabs w) => pawake_any w h
  have q0 := blk_alloc (heap_alloc_new w (.cells #[.slice a p.length c, .slice b x.length d, .int .i64 at_, .int .i64 wd, .int .i64 h] 24)) (.cells #[.slice a2 p2.length c2, .slice b2 y.length d2, .int .i64 bt, .int .i64 wd2, .int .i64 h2] 24)
  have q1 := heap_alloc_new (w.alloc (.cells #[.slice a p.length c, .slice b x.length d, .int .i64 at_, .int .i64 wd, .int .i64 h] 24)) (.cells #[.slice a2 p2.length c2, .slice b2 y.length d2, .int .i64 bt, .int .i64 wd2, .int .i64 h2] 24)
  rw [show (w.alloc (.cells #[.slice a p.length c, .slice b x.length d, .int .i64 at_, .int .i64 wd, .int .i64 h] 24)).heap.size = w.heap.size + 1 by simp] at q1
  replace q0 := Lib.hid q0; replace q1 := Lib.hid q1
  clear hT ha hb hb2
  have k0' : ¬ (10 : Int) < p.length := by omega
  have k1' : ¬ (20 : Int) < x.length := by omega
  have k2' : ¬ (20 : Int) < y.length := by omega
  have k3' : ¬ (wd : Int) < 4 := by omega
  have k4' : ¬ (80 : Int) < wd := by omega
  have k5' : ¬ (h : Int) < 1 := by omega
  have k6' : ¬ (60 : Int) < h := by omega
  obtain ⟨at', rfl, hat, hP, hX⟩ := goodS_yes hg
  have S1 := Lib.hid (fun w ha hb hT => scr_any p x a b c d at' wd h w (by omega) (by omega) ha hb hT hat (by omega) (by omega) (by omega) (by omega) hP hX)
  have S2 := Lib.hid (fun w ha hb => scr_bad p y a b2 c d2 bt wd h w (by omega) (by omega) ha hb (by omega) (by omega) (by omega) (by omega) hg2)
  clear hg hg2 hP hX hat
  generalize (curP (vwOf p x) wd at').1 - topP (vwOf p x) wd at' h = R1 at *
  generalize (curP (vwOf p x) wd at').2 = C1 at *
  go_enter Tryd.func4, Tryd.ntmps4
  go_wp2_with (fail)
  go_at_call 14
  refine (S1.out _ HA.out HB.out HT.out).mono ?_
  rintro e w1 ⟨g1, rfl, _, hb1⟩
  have B1 := below_alloc w1 (.cells #[.int .i64 wd, .int .i64 h, .slice (some ⟨g1, 0, none⟩) h h, .int .i64 R1, .int .i64 C1] 28); have A1 := Lib.hid ((HA.out.below hb1).below B1); have C1h := Lib.hid ((HC.out.below hb1).below B1); have T1 := Lib.hid ((HT.out.below hb1).below B1); have F1 := blk_below (blk_below q0.out hb1) B1; have G1 := blk_below (blk_below q1.out hb1) B1
  have yy := fun i => cell_of_row _ _ i _ _ _ F1; have y0 := yy 0; have y1 := yy 1; have y2 := yy 2; have y3 := yy 3; have y4 := yy 4; clear yy; dsimp at y0 y1 y2 y3 y4
  have yy := fun i => cell_of_row _ _ i _ _ _ G1; have z0 := yy 0; have z1 := yy 1; have z2 := yy 2; have z3 := yy 3; have z4 := yy 4; clear yy; dsimp at z0 z1 z2 z3 z4
  go_wp2_with (fail)
  go_at_call 14
  refine (S2.out _ A1.out C1h.out).mono ?_
  rintro e w2 ⟨E2, hE2, rfl, hb2⟩
  have hE2n : ¬ E2 = 0 := (by omega); have B2 := below_alloc w2 (.cells #[.int .i64 0, .int .i64 0, .slice none 0 0, .int .i64 0, .int .i64 0] 28); have T2 := Lib.hid ((T1.out.below hb2).below B2)
  go_wp2_with (fail)
  go_at_call 13
  refine (AW.out _ T2.out).mono ?_
  rintro e w3 ⟨rfl, hb3⟩
  go_wp2
  go_ret
  exact ⟨rfl, seqB (seqB (seqB (seqB (seqB B0 hb1) B1) hb2) B2) hb3⟩
end Go.Proofs.YtcdecnmhogmhaaaDoor
set_option linter.unusedVariables false
set_option linter.unusedSimpArgs false
namespace Go.Proofs.YtcdecnmhogmhaaaDoor
open Go.RowKit Go.Sort
set_option maxHeartbeats 8000000 in
theorem shows_good (p l : List (Int × Int)) (a b : Option Addr) (c d at' wd' h' : Nat) (w : World) (hT : Tabs w) (h1 : p.length ≤ 30) (h2 : l.length ≤ 60) (hw1 : 1 ≤ wd') (hw : wd' ≤ 80) (hh1 : 1 ≤ h') (hh : h' ≤ 40) (hat : at' ≤ l.length) (ha : Signs w a p) (hb : Signs w b l) (hp : sgC p = true) (hl : sgC l = true) :
    Calls Tryd.prog 3 #[.agg #[.slice a p.length c, .slice b l.length d, .int .i64 at', .int .i64 wd', .int .i64 h']] w fun e w' => e = .returned (.bool true) ∧ Below w.heap.size w w' := by
  have B0 := below_alloc w (.cells #[.slice a p.length c, .slice b l.length d, .int .i64 at', .int .i64 wd', .int .i64 h'] 24)
  have HA := Lib.hid (ha.below B0); have HB := Lib.hid (hb.below B0); have HT := Lib.hid (hT.below B0)
  have AW := Lib.hid fun w (h : Tabs w) => pawake_any w h
  have q0 := Lib.hid (heap_alloc_new w (.cells #[.slice a p.length c, .slice b l.length d, .int .i64 at', .int .i64 wd', .int .i64 h'] 24))
  have a1' : ¬ (30 : Int) < p.length := by omega
  have a2' : ¬ (60 : Int) < l.length := by omega
  obtain ⟨R, C, rows, hR, hrl, hrb, hgood, SC, SX⟩ := scr_both p l a b c d at' wd' h' (w.alloc (.cells #[.slice a p.length c, .slice b l.length d, .int .i64 at', .int .i64 wd', .int .i64 h'] 24)) (by omega) (by omega) HA.out HB.out HT.out hat hw1 (by omega) hh1 (by omega) hp hl
  replace SC := Lib.hid SC; replace SX := Lib.hid SX
  have hsd : (sideB (wd' : Int) && sideB (h' : Int)) = true := by rw [sideB_yes wd' hw1 (by omega), sideB_yes h' hh1 (by omega)]; rfl
  have n1 : ¬ (at' : Int) < 0 := by omega
  have n2 : ¬ (l.length : Int) < at' := by omega
  have n3 : ¬ (80 : Int) < wd' := by omega
  have n4 : ¬ (40 : Int) < h' := by omega
  clear ha hb hT
  go_enter Tryd.func3, Tryd.ntmps3
  go_wp2_with (first
    | (go_at_call 14; refine SC.out.mono ?_; rintro e w1 ⟨g, rfl, hr1, hb1⟩; have B2 := below_alloc w1 (.cells #[.int .i64 wd', .int .i64 h', .slice (some ⟨g, 0, none⟩) h' h', .int .i64 R, .int .i64 C] 28); have k2 := heap_alloc_new w1 (.cells #[.int .i64 wd', .int .i64 h', .slice (some ⟨g, 0, none⟩) h' h', .int .i64 R, .int .i64 C] 28); have A2 := Lib.hid ((HA.out.below hb1).below B2); have L2 := Lib.hid ((HB.out.below hb1).below B2); have T2 := Lib.hid ((HT.out.below hb1).below B2); have R2 := Lib.hid (hr1.below B2); have F2 := blk_below (blk_below q0.out hb1) B2; have y := fun i => cell_of_row _ _ i _ _ _ F2; have y0 := y 0; have y1 := y 1; have y2 := y 2; have y3 := y 3; have y4 := y 4; clear y; dsimp at y0 y1 y2 y3 y4)
    | (go_at_call 15; (with_reducible refine (sgall_ref p a c _ (by omega) A2.out).mono ?_); rintro e w3 ⟨rfl, hb3⟩; rw [hp]; have F3 := blk_below F2 hb3; have y := fun i => cell_of_row _ _ i _ _ _ F3; have s0 := y 0; have s1 := y 1; have s2 := y 2; have s3 := y 3; have s4 := y 4; clear y; dsimp at s0 s1 s2 s3 s4; have T3 := Lib.hid (T2.out.below hb3); have k3 := blk_below k2 hb3)
    | (go_at_call 15; (with_reducible refine (sgall_ref l b d _ (by omega) (L2.out.below hb3)).mono ?_); rintro e w4 ⟨rfl, hb4⟩; rw [hl]; have F4 := blk_below F3 hb4; have y := fun i => cell_of_row _ _ i _ _ _ F4; have t0 := y 0; have t1 := y 1; have t2 := y 2; have t3 := y 3; have t4 := y 4; clear y; dsimp at t0 t1 t2 t3 t4; have T4 := Lib.hid (T3.out.below hb4); have k4 := blk_below k3 hb4)
    | (go_at_call 16; refine (sides_ref _ _ _).mono ?_; rintro e w6 ⟨rfl, rfl⟩; rw [hsd])
    | (go_at_call 17; refine (SX.out _ ((A2.out.below hb3).below hb4) ((L2.out.below hb3).below hb4)).mono ?_; rintro e w7 ⟨ra, rc, rfl, hr7, hb7⟩))
  have B8 := below_alloc w7 (.cells #[.int .i64 wd', .int .i64 h', .slice ra h' rc, .int .i64 R, .int .i64 C] 28)
  have X8 := heap_alloc_new w7 (.cells #[.int .i64 wd', .int .i64 h', .slice ra h' rc, .int .i64 R, .int .i64 C] 28)
  have F8 := blk_below (blk_below F4 hb7) B8
  have k8 := blk_below (blk_below k4 hb7) B8
  have R8 := Lib.hid ((((R2.out.below hb3).below hb4).below hb7).below B8)
  have Q8 := Lib.hid (hr7.below B8)
  have T8 := Lib.hid ((T4.out.below hb7).below B8)
  have N8 := seqB (seqB (seqB (seqB (seqB (seqB B0 hb1) B2) hb3) hb4) hb7) B8
  generalize w1.heap.size = sx at *
  generalize w7.heap.size = xx at *
  generalize w7.alloc (.cells #[.int .i64 wd', .int .i64 h', .slice ra h' rc, .int .i64 R, .int .i64 C] 28) = W8 at *
  replace F8 := Lib.hid F8; replace k8 := Lib.hid k8; replace X8 := Lib.hid X8
  have HG := Lib.hid hgood
  clear hb1 B2 hb3 hb4 hb7 B8 y0 y1 y2 y3 y4 s0 s1 s2 s3 s4 t0 t1 t2 t3 t4 k2 k3 k4 F2 F3 F4 A2 L2 T2 T3 T4 R2 SC SX hr1 hr7 n1 n2 n3 n4 a1' a2' hp hl hsd hgood
  go_loopw [7] (fun iv wr => ∃ k : Nat, k ≤ h' ∧ iv = .int .i64 (k : Int) ∧ Below W8.heap.size W8 wr) (fun iv _ => h' - (intOf iv).toNat)
  case atStart => exact ⟨0, Nat.zero_le _, rfl, Below.refl _ _⟩
  case round =>
    obtain ⟨k, hk, rfl, hbl⟩ := hrel
    have F9 := blk_below F8.out hbl
    have k9 := blk_below k8.out hbl
    have X9 := blk_below X8.out hbl
    have f4 := cell_of_row _ _ 4 _ _ _ F9
    have f3 := cell_of_row _ _ 3 _ _ _ F9
    have s2 := cell_of_row _ _ 2 _ _ _ k9
    have x2 := cell_of_row _ _ 2 _ _ _ X9
    dsimp at f3 f4 s2 x2
    by_cases hlt : k < h'
    · have hk1 : (k : Int) < h' := by omega
      have hk0 : (0 : Int) ≤ k := by omega
      obtain ⟨u1, u2, ua, uc, ue, _, u3, u4, _⟩ := (R8.out.below hbl).rows k (by omega)
      obtain ⟨rfl, rfl⟩ : g = u1 ∧ 0 = u2 := by simpa using ue
      obtain ⟨v1, v2, va, vc, rfl, _, v3, v4, _⟩ := (Q8.out.below hbl) k (by omega)
      rw [Nat.zero_add] at u3
      have hlen := hrb k
      have AL := Lib.hid (fun dd os => by
        have := (shall_ref (rows.getD k []) (rows.getD k []) ua va uc vc (grow (redrawn wr dd) os) (by omega) (by omega) (u4.below (below_regrown wr dd os)) (v4.below (below_regrown wr dd os))).regrown_of
        rw [shA_self] at this
        exact this)
      have G1 := fun dd os => cell_regrown s2 dd os
      have G2 := fun dd os => cell_regrown x2 dd os
      have G3 := fun dd os => cell_regrown f4 dd os
      have G4 := fun dd os => cell_regrown u3 dd os
      have G5 := fun dd os => cell_regrown v3 dd os
      generalize (rows.getD k []).length = ln at *
      clear u4 v4 ue hlen
      go_wp2
      clear s2 x2 f4 f3 u3 v3
      refine wp_region_quiet_below (by kernel_rfl) (by kernel_rfl) ?_
      repeat (any_goals (go_big_quiet_step ((go_at_call 18; exact AL.out _ _))))
      refine wpQuiet_nil ?_
      intro _ hw'
      obtain ⟨⟨dq, osq⟩, hw''⟩ := hw'
      subst hw''
      go_wp2
      exact ⟨⟨k + 1, by omega, by go_num, hbl.trans ((below_regrown wr dq osq).mono hbl.size)⟩, by simp [intOf]; omega⟩
    · obtain rfl : k = h' := by omega
      have hk1 : ¬ (k : Int) < k := by omega
      have R9 := Lib.hid (R8.out.below hbl)
      have Q9 := Lib.hid (Q8.out.below hbl)
      have T9 := Lib.hid (T8.out.below hbl)
      have SM := Lib.hid (fun w2 (h1 : RowsIn w2 (some ⟨g, 0, none⟩) rows) (h2 : RowsIn w2 ra rows) => (by
        have := psame_ref wd' k R C wd' k R C rows rows (some ⟨g, 0, none⟩) ra k rc w2 (by omega) (by omega) (fun i _ => by have := hrb i; omega) (fun i _ => by have := hrb i; omega) h1 h2
        rw [hrl] at this
        refine this.mono ?_
        rintro e w' ⟨rfl, h⟩
        refine ⟨?_, h⟩
        rcases scrS_cases wd' k R C wd' k R C rows rows with ⟨h1, _⟩ | ⟨_, h2⟩
        · rw [h1, rowsS_self]
        · exact absurd h2 (by simp) : Calls Tryd.prog 19 #[.agg #[.int .i64 wd', .int .i64 k, .slice (some ⟨g, 0, none⟩) k k, .int .i64 R, .int .i64 C], .agg #[.int .i64 wd', .int .i64 k, .slice ra k rc, .int .i64 R, .int .i64 C]] w2 fun e w' => e = .returned (.bool true) ∧ Below w2.heap.size w2 w'))
      have N9 := N8.trans (hbl.mono N8.size)
      clear f3 s2 x2
      by_cases hw2 : wd' < 2
      · have hw2' : (wd' : Int) < 2 := by omega
        go_wp2_with (first
          | (go_at_call 13; refine (AW.out _ T9.out).mono ?_; rintro e w5 ⟨rfl, hb5⟩; have F5 := blk_below F9 hb5; have k5 := blk_below k9 hb5; have X5 := blk_below X9 hb5; have y := fun i => cell_of_row _ _ i _ _ _ k5; have sa0 := y 0; have sa1 := y 1; have sa2 := y 2; have sa3 := y 3; have sa4 := y 4; clear y; dsimp at sa0 sa1 sa2 sa3 sa4; have y := fun i => cell_of_row _ _ i _ _ _ X5; have xa0 := y 0; have xa1 := y 1; have xa2 := y 2; have xa3 := y 3; have xa4 := y 4; clear y; dsimp at xa0 xa1 xa2 xa3 xa4; have y := fun i => cell_of_row _ _ i _ _ _ F5; have fa0 := y 0; have fa1 := y 1; have fa2 := y 2; have fa3 := y 3; have fa4 := y 4; clear y; dsimp at fa0 fa1 fa2 fa3 fa4)
          | (go_at_call 19; refine (SM.out _ (R9.out.below hb5).rows.rows (Q9.out.below hb5).rows).mono ?_; rintro e w6 ⟨rfl, hb6⟩; have F6 := blk_below F5 hb6; have y := fun i => cell_of_row _ _ i _ _ _ F6; have fb0 := y 0; have fb1 := y 1; have fb2 := y 2; have fb3 := y 3; have fb4 := y 4; clear y; dsimp at fb0 fb1 fb2 fb3 fb4))
        go_ret
        exact ⟨rfl, seqB (seqB N9 hb5) hb6⟩
      · have hw2' : ¬ (wd' : Int) < 2 := by omega
        obtain ⟨hC, hfull⟩ := HG.out (by omega)
        have MY := Lib.hid (fun w2 (h2 : RowsB w2 g rows) => may_ref wd' k R C rows (some ⟨g, 0, none⟩) k w2 (by omega) (by omega) (by omega) (by omega) (by omega) hC hrl hfull h2.rows.rows)
        have CK := Lib.hid (fun w2 (h2 : RowsB w2 g rows) hT => check_any wd' k R C rows (some ⟨g, 0, none⟩) k w2 (by omega) (by omega) (by omega) (by omega) (by omega) hC hrl hfull h2.rows.rows hT)
        clear hC hfull
        go_wp2_with (first
          | (go_at_call 13; refine (AW.out _ T9.out).mono ?_; rintro e w5 ⟨rfl, hb5⟩; have F5 := blk_below F9 hb5; have k5 := blk_below k9 hb5; have X5 := blk_below X9 hb5; have y := fun i => cell_of_row _ _ i _ _ _ k5; have sa0 := y 0; have sa1 := y 1; have sa2 := y 2; have sa3 := y 3; have sa4 := y 4; clear y; dsimp at sa0 sa1 sa2 sa3 sa4; have y := fun i => cell_of_row _ _ i _ _ _ X5; have xa0 := y 0; have xa1 := y 1; have xa2 := y 2; have xa3 := y 3; have xa4 := y 4; clear y; dsimp at xa0 xa1 xa2 xa3 xa4; have y := fun i => cell_of_row _ _ i _ _ _ F5; have fa0 := y 0; have fa1 := y 1; have fa2 := y 2; have fa3 := y 3; have fa4 := y 4; clear y; dsimp at fa0 fa1 fa2 fa3 fa4)
          | (go_at_call 19; refine (SM.out _ (R9.out.below hb5).rows.rows (Q9.out.below hb5).rows).mono ?_; rintro e w6 ⟨rfl, hb6⟩; have F6 := blk_below F5 hb6; have y := fun i => cell_of_row _ _ i _ _ _ F6; have fb0 := y 0; have fb1 := y 1; have fb2 := y 2; have fb3 := y 3; have fb4 := y 4; clear y; dsimp at fb0 fb1 fb2 fb3 fb4; have k6 := blk_below k5 hb6; have y := fun i => cell_of_row _ _ i _ _ _ k6; have sb0 := y 0; have sb1 := y 1; have sb2 := y 2; have sb3 := y 3; have sb4 := y 4; clear y; dsimp at sb0 sb1 sb2 sb3 sb4)
          | (go_at_call 20; refine (MY.out _ ((R9.out.below hb5).below hb6)).mono ?_; rintro e w7 ⟨rfl, hb7⟩; have k7 := blk_below k6 hb7; have y := fun i => cell_of_row _ _ i _ _ _ k7; have sc0 := y 0; have sc1 := y 1; have sc2 := y 2; have sc3 := y 3; have sc4 := y 4; clear y; dsimp at sc0 sc1 sc2 sc3 sc4)
          | (go_at_call 21; refine (CK.out _ (((R9.out.below hb5).below hb6).below hb7) (((T9.out.below hb5).below hb6).below hb7)).mono ?_; rintro e w8 ⟨rfl, hb8⟩))
        go_ret
        exact ⟨rfl, seqB (seqB (seqB (seqB N9 hb5) hb6) hb7) hb8⟩
end Go.Proofs.YtcdecnmhogmhaaaDoor
