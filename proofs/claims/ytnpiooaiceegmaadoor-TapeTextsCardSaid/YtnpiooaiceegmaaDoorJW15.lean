/-
  Joined: Tp11 Tp12 Tp13 Tp14 Tp15 Tp4 Tp16 Tp17 Tp18 Tp19.
-/
import Derived.Test.YtnpiooaiceegmaaDoorJW10
import Derived.Test.YtnpiooaiceegmaaDoorJW14
import Derived.BigQuiet
import Derived.Lib.BufferRead
set_option linter.unusedVariables false
set_option linter.unusedSimpArgs false
set_option maxRecDepth 100000
set_option linter.unusedVariables false
set_option linter.unusedSimpArgs false
namespace Go.Proofs.YtnpiooaiceegmaaDoor
open Go.RowKit
theorem seq_list {x y : List (List UInt8)} (hl : x.length = y.length) (h : ∀ j, j < x.length → x.getD j [] = y.getD j []) : x = y := by
  apply List.ext_getElem hl
  intro i h1 h2
  have := h i h1
  rwa [List.getD, List.getD, List.getElem?_eq_getElem h1, List.getElem?_eq_getElem h2] at this
theorem mapD (x : List (List UInt8)) (k : Nat) (h : k < x.length) : (x.map mkL).getD k ⟨#[]⟩ = mkL (x.getD k []) := by
  rw [List.getD, List.getElem?_map, List.getD, List.getElem?_eq_getElem h]; rfl
set_option maxRecDepth 100000 in
set_option maxHeartbeats 4000000 in
theorem tequal_any (x y : List (List UInt8)) (a b : Option Addr) (n m c d : Nat) (w : World) (hx : x.length = n) (hy : y.length = m) (hn : n ≤ 1000000) (hm : m ≤ 1000000) (ha : StI w a (x.map mkL)) (hb : StI w b (y.map mkL)) :
    Calls Tryd.prog 111 #[.slice a n c, .slice b m d] w fun e w' => e = .returned (.bool (decide (x = y))) ∧ ∃ q, w' = w.drewN q := by
  have HA := Lib.hid ha
  have HB := Lib.hid hb
  have HX := Lib.hid hx
  have HY := Lib.hid hy
  obtain ⟨R, hR⟩ : ∃ R, decide (x = y) = R := ⟨_, rfl⟩
  rw [hR]
  have HR := Lib.hid hR
  by_cases hl : n = m
  · subst hl
    clear ha hb hx hy hR hm
    go_enter Tryd.func111, Tryd.ntmps111
    go_upto_region 4 with fail
    go_loopw [13] (fun iv wr => ∃ k : Nat, k ≤ n ∧ iv = .int .i64 (k : Int) ∧ Hid (∀ j, j < k → x.getD j [] = y.getD j []) ∧ ∃ q, wr = w.drewN q) (fun iv _ => n - (intOf iv).toNat)
    case atStart => exact ⟨0, Nat.zero_le _, rfl, Lib.hid (fun j hj => absurd hj (by omega)), 0, rfl⟩
    case round =>
      obtain ⟨k, hk, rfl, hall, q, rfl⟩ := hrel
      by_cases hlt : k < n
      · have hkx : k < x.length := by rw [HX.out]; exact hlt
        have hky : k < y.length := by rw [HY.out]; exact hlt
        obtain ⟨b1, o1, rfl, hb1, c1⟩ := HA.out k (by rw [List.length_map]; exact hkx)
        obtain ⟨b2, o2, rfl, hb2, d1⟩ := HB.out k (by rw [List.length_map]; exact hky)
        rw [mapD x k hkx] at c1
        rw [mapD y k hky] at d1
        have hk1 : (k : Int) < (n : Int) := by omega
        have hk0 : (0 : Int) ≤ k := by omega
        by_cases he : x.getD k [] = y.getD k []
        · have HF : Hid (∀ j, j < k + 1 → x.getD j [] = y.getD j []) := Lib.hid (by
            intro j hj
            rcases Nat.lt_succ_iff_lt_or_eq.1 hj with h | rfl
            · exact hall.out j h
            · exact he)
          rw [← he] at d1
          generalize mkL (x.getD k []) = s1 at *
          clear he hkx hky
          go_upto_region 6 with fail
          go_quiet (fail)
          go_wp2
          go_roundw
          case rel => exact ⟨k + 1, by omega, by go_num, HF, _, rfl⟩
          case measure => (simp [intOf]; try omega)
        · have hr : R = false := by rw [← HR.out]; exact decide_eq_false (fun e => he (by rw [e]))
          subst hr
          have h1 := bq_ne he
          have h2 : ((mkL (x.getD k [])).toList == (mkL (y.getD k [])).toList) = false := by rw [mkL_toList (y.getD k [])]; exact h1
          have h3 := mkL_ne he
          generalize mkL (x.getD k []) = s1 at *
          generalize mkL (y.getD k []) = s2 at *
          clear he hkx hky h1
          go_upto_region 6 with fail
          go_quiet (fail)
          go_wp2
          go_ret
          exact ⟨rfl, _, World.drewN_drewN ..⟩
      · obtain rfl : k = n := by omega
        have hnn : ¬ (k : Int) < (k : Int) := by omega
        have hr : R = true := by
          rw [← HR.out]
          exact decide_eq_true (seq_list (by rw [HX.out, HY.out]) (fun j hj => hall.out j (by rw [← HX.out]; exact hj)))
        subst hr
        go_wp2
        go_ret
        exact ⟨rfl, _, rfl⟩
  · have hr : R = false := by rw [← hR]; exact decide_eq_false (fun e => hl (by rw [← hx, ← hy, e]))
    subst hr
    have hln : ((n : Int) == (m : Int)) = false := by rw [beq_eq_false_iff_ne]; omega
    clear ha hb hx hy hR
    go_enter Tryd.func111, Tryd.ntmps111
    go_wp2
    go_ret
    exact ⟨rfl, 0, rfl⟩
end Go.Proofs.YtnpiooaiceegmaaDoor
set_option linter.unusedVariables false
set_option linter.unusedSimpArgs false
namespace Go.Proofs.YtnpiooaiceegmaaDoor
open Go.RowKit
/-- A step: kind, text, N, M, words. -/
abbrev Stp := Int × List UInt8 × Int × Int × List (List UInt8)
set_option maxRecDepth 100000 in
set_option maxHeartbeats 8000000 in
theorem tsame_any (k1 k2 n1 n2 m1 m2 : Int) (t1 t2 : List UInt8) (L1 L2 : List (List UInt8)) (a b : Option Addr) (l1 l2 c d : Nat) (w : World) (hx : L1.length = l1) (hy : L2.length = l2) (hn : l1 ≤ 1000000) (hm : l2 ≤ 1000000) (ha : StI w a (L1.map mkL)) (hb : StI w b (L2.map mkL)) :
    Calls Tryd.prog 59 #[.agg #[.int .i64 k1, .string (mkL t1), .int .i64 n1, .int .i64 m1, .slice a l1 c], .agg #[.int .i64 k2, .string (mkL t2), .int .i64 n2, .int .i64 m2, .slice b l2 d]] w fun e w' => e = .returned (.bool (decide (((k1, t1, n1, m1, L1) : Stp) = (k2, t2, n2, m2, L2)))) ∧ Below w.heap.size w w' := by
  obtain ⟨R, hR⟩ : ∃ R, decide (((k1, t1, n1, m1, L1) : Stp) = (k2, t2, n2, m2, L2)) = R := ⟨_, rfl⟩
  rw [hR]
  have HR := Lib.hid hR
  have b0 := below_alloc w (.cells #[.int .i64 k1, .string (mkL t1), .int .i64 n1, .int .i64 m1, .slice a l1 c] 38)
  have r0 := heap_alloc_new w (.cells #[.int .i64 k1, .string (mkL t1), .int .i64 n1, .int .i64 m1, .slice a l1 c] 38)
  obtain ⟨W0, hW0⟩ : ∃ W0, w.alloc (.cells #[.int .i64 k1, .string (mkL t1), .int .i64 n1, .int .i64 m1, .slice a l1 c] 38) = W0 := ⟨_, rfl⟩
  rw [hW0] at b0 r0
  have b1 := below_alloc W0 (.cells #[.int .i64 k2, .string (mkL t2), .int .i64 n2, .int .i64 m2, .slice b l2 d] 38)
  have r1 := heap_alloc_new W0 (.cells #[.int .i64 k2, .string (mkL t2), .int .i64 n2, .int .i64 m2, .slice b l2 d] 38)
  obtain ⟨S0, hS0⟩ : ∃ S0, W0.heap.size = S0 := ⟨_, rfl⟩
  obtain ⟨W1, hW1⟩ : ∃ W1, W0.alloc (.cells #[.int .i64 k2, .string (mkL t2), .int .i64 n2, .int .i64 m2, .slice b l2 d] 38) = W1 := ⟨_, rfl⟩
  have r01 := blk_below r0 b1
  have B1 := seqB b0 b1
  rw [hW1] at r1 r01 B1
  rw [hS0] at r1
  have xx := fun i => cell_of_row _ _ i _ _ _ r01
  have yy := fun i => cell_of_row _ _ i _ _ _ r1
  have x0 := xx 0; have x1 := xx 1; have x2 := xx 2; have x3 := xx 3; have x4 := xx 4
  have y0 := yy 0; have y1 := yy 1; have y2 := yy 2; have y3 := yy 3; have y4 := yy 4
  dsimp at x0 x1 x2 x3 x4 y0 y1 y2 y3 y4
  have EQ := Lib.hid (fun W (hb' : Below w.heap.size w W) => tequal_any L1 L2 a b l1 l2 c d W hx hy hn hm (ha.below hb') (hb.below hb'))
  have B1 := Lib.hid B1
  clear xx yy b0 b1 r0 r1 r01 hx hy ha hb
  by_cases h1 : k1 = k2
  · subst h1
    by_cases h2 : t1 = t2
    · subst h2
      by_cases h3 : n1 = n2
      · subst h3
        by_cases h4 : m1 = m2
        · subst h4
          have hr : decide (L1 = L2) = R := by rw [← HR.out]; exact decide_eq_decide.2 ⟨fun e => by rw [e], fun e => by injections⟩
          have ER := EQ.out W1 B1.out
          rw [hr] at ER
          replace ER := Lib.hid ER
          clear HR hR hr EQ
          go_enter Tryd.func59, Tryd.ntmps59
          go_wp2_with (go_at_call 111; refine ER.out.mono ?_; rintro e w3 ⟨rfl, q, rfl⟩)
          go_ret
          exact ⟨rfl, drewN_below B1.out q⟩
        · have hr : R = false := by rw [← HR.out]; exact decide_eq_false (fun e => h4 (by injections <;> first | assumption | (symm; assumption)))
          subst hr
          have g4 : (m1 == m2) = false := by rw [beq_eq_false_iff_ne]; exact h4
          clear HR hR h4
          go_enter Tryd.func59, Tryd.ntmps59
          go_wp2
          go_ret
          exact ⟨rfl, B1.out⟩
      · have hr : R = false := by rw [← HR.out]; exact decide_eq_false (fun e => h3 (by injections <;> first | assumption | (symm; assumption)))
        subst hr
        have g3 : (n1 == n2) = false := by rw [beq_eq_false_iff_ne]; exact h3
        clear HR hR h3
        go_enter Tryd.func59, Tryd.ntmps59
        go_wp2
        go_ret
        exact ⟨rfl, B1.out⟩
    · have hr : R = false := by rw [← HR.out]; exact decide_eq_false (fun e => h2 (by injections <;> first | assumption | (symm; assumption)))
      subst hr
      have g1 := bq_ne h2
      have g2 : ((mkL t1).toList == (mkL t2).toList) = false := by rw [mkL_toList t2]; exact g1
      have g3 := mkL_ne h2
      generalize mkL t1 = s1 at *
      generalize mkL t2 = s2 at *
      clear HR hR h2 g1
      go_enter Tryd.func59, Tryd.ntmps59
      go_wp2
      go_ret
      exact ⟨rfl, B1.out⟩
  · have hr : R = false := by rw [← HR.out]; exact decide_eq_false (fun e => h1 (by injections <;> first | assumption | (symm; assumption)))
    subst hr
    have g1 : (k1 == k2) = false := by rw [beq_eq_false_iff_ne]; exact h1
    clear HR hR h1
    go_enter Tryd.func59, Tryd.ntmps59
    go_wp2
    go_ret
    exact ⟨rfl, B1.out⟩
end Go.Proofs.YtnpiooaiceegmaaDoor
set_option linter.unusedVariables false
set_option linter.unusedSimpArgs false
namespace Go.Proofs.YtnpiooaiceegmaaDoor
open Go.RowKit
theorem infoStp : (Tryd.prog.info? 38).map (fun i => i.size) = some 5 := by kernel_rfl
set_option maxRecDepth 100000 in
set_option maxHeartbeats 4000000 in
theorem tplain_4n (t : List UInt8) (n m : Int) (a : Option Addr) (l c : Nat) (w : World) (hn : (n == 1) = false) :
    Calls Tryd.prog 62 #[.agg #[.int .i64 4, .string (mkL t), .int .i64 n, .int .i64 m, .slice a l c]] w fun e w' => e = .returned (.agg #[.int .i64 4, .string ⟨#[]⟩, .int .i64 0, .int .i64 0, .slice none 0 0]) ∧ Below w.heap.size w w' := by
  have b0 := below_alloc w (.cells #[.int .i64 4, .string (mkL t), .int .i64 n, .int .i64 m, .slice a l c] 38)
  have r0 := heap_alloc_new w (.cells #[.int .i64 4, .string (mkL t), .int .i64 n, .int .i64 m, .slice a l c] 38)
  obtain ⟨W0, hW0⟩ : ∃ W0, w.alloc (.cells #[.int .i64 4, .string (mkL t), .int .i64 n, .int .i64 m, .slice a l c] 38) = W0 := ⟨_, rfl⟩
  rw [hW0] at b0 r0
  have b1 := below_alloc W0 (.cells #[.int .i64 0, .string ⟨#[]⟩, .int .i64 0, .int .i64 0, .slice none 0 0] 38)
  have r1 := heap_alloc_new W0 (.cells #[.int .i64 0, .string ⟨#[]⟩, .int .i64 0, .int .i64 0, .slice none 0 0] 38)
  obtain ⟨S1, hS1⟩ : ∃ S1, W0.heap.size = S1 := ⟨_, rfl⟩
  obtain ⟨W1, hW1⟩ : ∃ W1, W0.alloc (.cells #[.int .i64 0, .string ⟨#[]⟩, .int .i64 0, .int .i64 0, .slice none 0 0] 38) = W1 := ⟨_, rfl⟩
  have r01 := blk_below r0 b1
  have B1 := seqB b0 b1
  have hlt0 : w.heap.size < S1 := by rw [← hS1]; exact blk_lt r0
  rw [hW1] at r1 r01 B1
  rw [hS1] at r1
  have xx := fun i => cell_of_row _ _ i _ _ _ r01
  have x0 := xx 0
  dsimp at x0
  have R1 := Lib.hid r1
  have R01 := Lib.hid r01
  have HB := Lib.hid B1
  clear xx b0 b1 r0 r1 r01 B1
  go_enter Tryd.func62, Tryd.ntmps62
  go_upto_region 2 with fail
  clear hW0 hW1 hS1 x0
  have b2 := below_alloc W1 (.cells #[.int .i64 4, .string ⟨#[]⟩, .int .i64 0, .int .i64 0, .slice none 0 0] 38)
  have r2 := heap_alloc_new W1 (.cells #[.int .i64 4, .string ⟨#[]⟩, .int .i64 0, .int .i64 0, .slice none 0 0] 38)
  have r12 := blk_below R1.out b2
  have r02 := blk_below R01.out b2
  have B2 := Lib.hid (seqB HB.out b2)
  have hlt1 : S1 < W1.heap.size := blk_lt R1.out
  obtain ⟨S2, hS2⟩ : ∃ S2, W1.heap.size = S2 := ⟨_, rfl⟩
  rw [hS2] at r2 hlt1 ⊢
  obtain ⟨W2, hW2⟩ : ∃ W2, W1.alloc (.cells #[.int .i64 4, .string ⟨#[]⟩, .int .i64 0, .int .i64 0, .slice none 0 0] 38) = W2 := ⟨_, rfl⟩
  rw [hW2] at r2 r12 r02 B2 ⊢
  clear hS2 hW2 b2
  have xx := fun i => cell_of_row _ _ i _ _ _ r02
  have x0 := xx 0; have x1 := xx 1; have x2 := xx 2; have x4 := xx 4
  have yy := fun i => cell_of_row _ _ i _ _ _ r2
  have y0 := yy 0; have y1 := yy 1; have y2 := yy 2; have y3 := yy 3; have y4 := yy 4
  have zz := fun i => cell_of_row _ _ i _ _ _ r12
  have z0 := zz 0; have z1 := zz 1; have z2 := zz 2; have z3 := zz 3; have z4 := zz 4
  have zf := fun i => frozen_of_row _ S1 i _ _ r12
  dsimp at x0 x1 x2 x4 y0 y1 y2 y3 y4 z0 z1 z2 z3 z4
  have RF := Lib.hid (blk_set (blk_set (blk_set (blk_set (blk_set r12 0 (.int .i64 4)) 1 (.string ⟨#[]⟩)) 2 (.int .i64 0)) 3 (.int .i64 0)) 4 (.slice none 0 0))
  have hge : w.heap.size ≤ S1 := Nat.le_of_lt hlt0
  have BF := Lib.hid (((((B2.out.setCell (p := ⟨S1, 0, none⟩) hge (.int .i64 4)).setCell (p := ⟨S1, 1, none⟩) hge (.string ⟨#[]⟩)).setCell (p := ⟨S1, 2, none⟩) hge (.int .i64 0)).setCell (p := ⟨S1, 3, none⟩) hge (.int .i64 0)).setCell (p := ⟨S1, 4, none⟩) hge (.slice none 0 0))
  clear xx yy zz r2 r02 r12
  go_wp2
  exact bodyPost_ret (results_cell_row rfl _ _ S1 38 _ (0, 0) _ rfl RF.out Tryd.underlying38 rfl (infoStp.trans rfl)) rfl ⟨rfl, BF.out⟩
set_option maxRecDepth 100000 in
set_option maxHeartbeats 4000000 in
theorem tplain_no (t : List UInt8) (n m : Int) (a : Option Addr) (l c : Nat) (w : World) (k : Int) (h0 : (k == 0) = false) (h2 : (k == 2) = false) (h3 : (k == 3) = false) (h4 : (k == 4) = false) :
    Calls Tryd.prog 62 #[.agg #[.int .i64 k, .string (mkL t), .int .i64 n, .int .i64 m, .slice a l c]] w fun e w' => e = .returned (.agg #[.int .i64 k, .string ⟨#[]⟩, .int .i64 0, .int .i64 0, .slice none 0 0]) ∧ Below w.heap.size w w' := by
  have b0 := below_alloc w (.cells #[.int .i64 k, .string (mkL t), .int .i64 n, .int .i64 m, .slice a l c] 38)
  have r0 := heap_alloc_new w (.cells #[.int .i64 k, .string (mkL t), .int .i64 n, .int .i64 m, .slice a l c] 38)
  obtain ⟨W0, hW0⟩ : ∃ W0, w.alloc (.cells #[.int .i64 k, .string (mkL t), .int .i64 n, .int .i64 m, .slice a l c] 38) = W0 := ⟨_, rfl⟩
  rw [hW0] at b0 r0
  have b1 := below_alloc W0 (.cells #[.int .i64 0, .string ⟨#[]⟩, .int .i64 0, .int .i64 0, .slice none 0 0] 38)
  have r1 := heap_alloc_new W0 (.cells #[.int .i64 0, .string ⟨#[]⟩, .int .i64 0, .int .i64 0, .slice none 0 0] 38)
  obtain ⟨S1, hS1⟩ : ∃ S1, W0.heap.size = S1 := ⟨_, rfl⟩
  obtain ⟨W1, hW1⟩ : ∃ W1, W0.alloc (.cells #[.int .i64 0, .string ⟨#[]⟩, .int .i64 0, .int .i64 0, .slice none 0 0] 38) = W1 := ⟨_, rfl⟩
  have r01 := blk_below r0 b1
  have B1 := seqB b0 b1
  have hlt0 : w.heap.size < S1 := by rw [← hS1]; exact blk_lt r0
  rw [hW1] at r1 r01 B1
  rw [hS1] at r1
  have xx := fun i => cell_of_row _ _ i _ _ _ r01
  have x0 := xx 0
  dsimp at x0
  have R1 := Lib.hid r1
  have R01 := Lib.hid r01
  have HB := Lib.hid B1
  clear xx b0 b1 r0 r1 r01 B1
  go_enter Tryd.func62, Tryd.ntmps62
  go_upto_region 2 with fail
  clear hW0 hW1 hS1 x0
  have b2 := below_alloc W1 (.cells #[.int .i64 k, .string ⟨#[]⟩, .int .i64 0, .int .i64 0, .slice none 0 0] 38)
  have r2 := heap_alloc_new W1 (.cells #[.int .i64 k, .string ⟨#[]⟩, .int .i64 0, .int .i64 0, .slice none 0 0] 38)
  have r12 := blk_below R1.out b2
  have r02 := blk_below R01.out b2
  have B2 := Lib.hid (seqB HB.out b2)
  have hlt1 : S1 < W1.heap.size := blk_lt R1.out
  obtain ⟨S2, hS2⟩ : ∃ S2, W1.heap.size = S2 := ⟨_, rfl⟩
  rw [hS2] at r2 hlt1 ⊢
  obtain ⟨W2, hW2⟩ : ∃ W2, W1.alloc (.cells #[.int .i64 k, .string ⟨#[]⟩, .int .i64 0, .int .i64 0, .slice none 0 0] 38) = W2 := ⟨_, rfl⟩
  rw [hW2] at r2 r12 r02 B2 ⊢
  clear hS2 hW2 b2
  have xx := fun i => cell_of_row _ _ i _ _ _ r02
  have x0 := xx 0; have x1 := xx 1; have x2 := xx 2; have x4 := xx 4
  have yy := fun i => cell_of_row _ _ i _ _ _ r2
  have y0 := yy 0; have y1 := yy 1; have y2 := yy 2; have y3 := yy 3; have y4 := yy 4
  have zz := fun i => cell_of_row _ _ i _ _ _ r12
  have z0 := zz 0; have z1 := zz 1; have z2 := zz 2; have z3 := zz 3; have z4 := zz 4
  have zf := fun i => frozen_of_row _ S1 i _ _ r12
  dsimp at x0 x1 x2 x4 y0 y1 y2 y3 y4 z0 z1 z2 z3 z4
  have RF := Lib.hid (blk_set (blk_set (blk_set (blk_set (blk_set r12 0 (.int .i64 k)) 1 (.string ⟨#[]⟩)) 2 (.int .i64 0)) 3 (.int .i64 0)) 4 (.slice none 0 0))
  have hge : w.heap.size ≤ S1 := Nat.le_of_lt hlt0
  have BF := Lib.hid (((((B2.out.setCell (p := ⟨S1, 0, none⟩) hge (.int .i64 k)).setCell (p := ⟨S1, 1, none⟩) hge (.string ⟨#[]⟩)).setCell (p := ⟨S1, 2, none⟩) hge (.int .i64 0)).setCell (p := ⟨S1, 3, none⟩) hge (.int .i64 0)).setCell (p := ⟨S1, 4, none⟩) hge (.slice none 0 0))
  clear xx yy zz r2 r02 r12
  go_wp2
  exact bodyPost_ret (results_cell_row rfl _ _ S1 38 _ (0, 0) _ rfl RF.out Tryd.underlying38 rfl (infoStp.trans rfl)) rfl ⟨rfl, BF.out⟩
end Go.Proofs.YtnpiooaiceegmaaDoor
set_option linter.unusedVariables false
set_option linter.unusedSimpArgs false
namespace Go.Proofs.YtnpiooaiceegmaaDoor
open Go.RowKit
set_option maxRecDepth 100000 in
set_option maxHeartbeats 4000000 in
theorem tplain_0 (t : List UInt8) (n m : Int) (a : Option Addr) (l c : Nat) (w : World)  :
    Calls Tryd.prog 62 #[.agg #[.int .i64 0, .string (mkL t), .int .i64 n, .int .i64 m, .slice a l c]] w fun e w' => e = .returned (.agg #[.int .i64 0, .string (mkL t), .int .i64 0, .int .i64 0, .slice none 0 0]) ∧ Below w.heap.size w w' := by
  have b0 := below_alloc w (.cells #[.int .i64 0, .string (mkL t), .int .i64 n, .int .i64 m, .slice a l c] 38)
  have r0 := heap_alloc_new w (.cells #[.int .i64 0, .string (mkL t), .int .i64 n, .int .i64 m, .slice a l c] 38)
  obtain ⟨W0, hW0⟩ : ∃ W0, w.alloc (.cells #[.int .i64 0, .string (mkL t), .int .i64 n, .int .i64 m, .slice a l c] 38) = W0 := ⟨_, rfl⟩
  rw [hW0] at b0 r0
  have b1 := below_alloc W0 (.cells #[.int .i64 0, .string ⟨#[]⟩, .int .i64 0, .int .i64 0, .slice none 0 0] 38)
  have r1 := heap_alloc_new W0 (.cells #[.int .i64 0, .string ⟨#[]⟩, .int .i64 0, .int .i64 0, .slice none 0 0] 38)
  obtain ⟨S1, hS1⟩ : ∃ S1, W0.heap.size = S1 := ⟨_, rfl⟩
  obtain ⟨W1, hW1⟩ : ∃ W1, W0.alloc (.cells #[.int .i64 0, .string ⟨#[]⟩, .int .i64 0, .int .i64 0, .slice none 0 0] 38) = W1 := ⟨_, rfl⟩
  have r01 := blk_below r0 b1
  have B1 := seqB b0 b1
  have hlt0 : w.heap.size < S1 := by rw [← hS1]; exact blk_lt r0
  rw [hW1] at r1 r01 B1
  rw [hS1] at r1
  have xx := fun i => cell_of_row _ _ i _ _ _ r01
  have x0 := xx 0
  dsimp at x0
  have R1 := Lib.hid r1
  have R01 := Lib.hid r01
  have HB := Lib.hid B1
  clear xx b0 b1 r0 r1 r01 B1
  go_enter Tryd.func62, Tryd.ntmps62
  go_upto_region 2 with fail
  clear hW0 hW1 hS1 x0
  have b2 := below_alloc W1 (.cells #[.int .i64 0, .string ⟨#[]⟩, .int .i64 0, .int .i64 0, .slice none 0 0] 38)
  have r2 := heap_alloc_new W1 (.cells #[.int .i64 0, .string ⟨#[]⟩, .int .i64 0, .int .i64 0, .slice none 0 0] 38)
  have r12 := blk_below R1.out b2
  have r02 := blk_below R01.out b2
  have B2 := Lib.hid (seqB HB.out b2)
  have hlt1 : S1 < W1.heap.size := blk_lt R1.out
  obtain ⟨S2, hS2⟩ : ∃ S2, W1.heap.size = S2 := ⟨_, rfl⟩
  rw [hS2] at r2 hlt1 ⊢
  obtain ⟨W2, hW2⟩ : ∃ W2, W1.alloc (.cells #[.int .i64 0, .string ⟨#[]⟩, .int .i64 0, .int .i64 0, .slice none 0 0] 38) = W2 := ⟨_, rfl⟩
  rw [hW2] at r2 r12 r02 B2 ⊢
  clear hS2 hW2 b2
  have xx := fun i => cell_of_row _ _ i _ _ _ r02
  have x0 := xx 0; have x1 := xx 1; have x2 := xx 2; have x4 := xx 4
  have yy := fun i => cell_of_row _ _ i _ _ _ r2
  have y0 := yy 0; have y1 := yy 1; have y2 := yy 2; have y3 := yy 3; have y4 := yy 4
  have yf := fun i => frozen_of_row _ S2 i _ _ r2
  dsimp at x0 x1 x2 x4 y0 y1 y2 y3 y4
  have R2 := Lib.hid r2
  have R12 := Lib.hid r12
  clear xx yy r2 r02 r12
  go_upto_region 12 with fail
  clear x0 x1 x2 x4 y0 y1 y2 y3 y4 yf
  have hge2 : w.heap.size ≤ S2 := by omega
  have r3 := blk_set R2.out 1 (.string (mkL t))
  have r13 : (W2.setCell ⟨S2, 1, none⟩ (.string (mkL t))).heap[S1]? = _ := (Below.heap_setCell _ _ _ _ (show S1 ≠ S2 by omega)).trans R12.out
  have B3 := Lib.hid (B2.out.setCell (p := ⟨S2, 1, none⟩) hge2 (.string (mkL t)))
  obtain ⟨W3, hW3⟩ : ∃ W3, W2.setCell ⟨S2, 1, none⟩ (.string (mkL t)) = W3 := ⟨_, rfl⟩
  rw [hW3] at r3 r13 B3 ⊢
  clear hW3
  have yy := fun i => cell_of_row _ _ i _ _ _ r3
  have y0 := yy 0; have y1 := yy 1; have y2 := yy 2; have y3 := yy 3; have y4 := yy 4
  have zz := fun i => cell_of_row _ _ i _ _ _ r13
  have z0 := zz 0; have z1 := zz 1; have z2 := zz 2; have z3 := zz 3; have z4 := zz 4
  have zf := fun i => frozen_of_row _ S1 i _ _ r13
  dsimp at y0 y1 y2 y3 y4 z0 z1 z2 z3 z4
  simp at y0 y1 y2 y3 y4
  have RF := Lib.hid (blk_set (blk_set (blk_set (blk_set (blk_set r13 0 (.int .i64 0)) 1 (.string (mkL t))) 2 (.int .i64 0)) 3 (.int .i64 0)) 4 (.slice none 0 0))
  have hge : w.heap.size ≤ S1 := Nat.le_of_lt hlt0
  have BF := Lib.hid (((((B3.out.setCell (p := ⟨S1, 0, none⟩) hge (.int .i64 0)).setCell (p := ⟨S1, 1, none⟩) hge (.string (mkL t))).setCell (p := ⟨S1, 2, none⟩) hge (.int .i64 0)).setCell (p := ⟨S1, 3, none⟩) hge (.int .i64 0)).setCell (p := ⟨S1, 4, none⟩) hge (.slice none 0 0))
  clear yy zz r3 r13
  go_wp2
  exact bodyPost_ret (results_cell_row rfl _ _ S1 38 _ (0, 0) _ rfl RF.out Tryd.underlying38 rfl (infoStp.trans rfl)) rfl ⟨rfl, BF.out⟩
set_option maxRecDepth 100000 in
set_option maxHeartbeats 4000000 in
theorem tplain_3 (t : List UInt8) (n m : Int) (a : Option Addr) (l c : Nat) (w : World)  :
    Calls Tryd.prog 62 #[.agg #[.int .i64 3, .string (mkL t), .int .i64 n, .int .i64 m, .slice a l c]] w fun e w' => e = .returned (.agg #[.int .i64 3, .string ⟨#[]⟩, .int .i64 0, .int .i64 0, .slice a l c]) ∧ Below w.heap.size w w' := by
  have b0 := below_alloc w (.cells #[.int .i64 3, .string (mkL t), .int .i64 n, .int .i64 m, .slice a l c] 38)
  have r0 := heap_alloc_new w (.cells #[.int .i64 3, .string (mkL t), .int .i64 n, .int .i64 m, .slice a l c] 38)
  obtain ⟨W0, hW0⟩ : ∃ W0, w.alloc (.cells #[.int .i64 3, .string (mkL t), .int .i64 n, .int .i64 m, .slice a l c] 38) = W0 := ⟨_, rfl⟩
  rw [hW0] at b0 r0
  have b1 := below_alloc W0 (.cells #[.int .i64 0, .string ⟨#[]⟩, .int .i64 0, .int .i64 0, .slice none 0 0] 38)
  have r1 := heap_alloc_new W0 (.cells #[.int .i64 0, .string ⟨#[]⟩, .int .i64 0, .int .i64 0, .slice none 0 0] 38)
  obtain ⟨S1, hS1⟩ : ∃ S1, W0.heap.size = S1 := ⟨_, rfl⟩
  obtain ⟨W1, hW1⟩ : ∃ W1, W0.alloc (.cells #[.int .i64 0, .string ⟨#[]⟩, .int .i64 0, .int .i64 0, .slice none 0 0] 38) = W1 := ⟨_, rfl⟩
  have r01 := blk_below r0 b1
  have B1 := seqB b0 b1
  have hlt0 : w.heap.size < S1 := by rw [← hS1]; exact blk_lt r0
  rw [hW1] at r1 r01 B1
  rw [hS1] at r1
  have xx := fun i => cell_of_row _ _ i _ _ _ r01
  have x0 := xx 0
  dsimp at x0
  have R1 := Lib.hid r1
  have R01 := Lib.hid r01
  have HB := Lib.hid B1
  clear xx b0 b1 r0 r1 r01 B1
  go_enter Tryd.func62, Tryd.ntmps62
  go_upto_region 2 with fail
  clear hW0 hW1 hS1 x0
  have b2 := below_alloc W1 (.cells #[.int .i64 3, .string ⟨#[]⟩, .int .i64 0, .int .i64 0, .slice none 0 0] 38)
  have r2 := heap_alloc_new W1 (.cells #[.int .i64 3, .string ⟨#[]⟩, .int .i64 0, .int .i64 0, .slice none 0 0] 38)
  have r12 := blk_below R1.out b2
  have r02 := blk_below R01.out b2
  have B2 := Lib.hid (seqB HB.out b2)
  have hlt1 : S1 < W1.heap.size := blk_lt R1.out
  obtain ⟨S2, hS2⟩ : ∃ S2, W1.heap.size = S2 := ⟨_, rfl⟩
  rw [hS2] at r2 hlt1 ⊢
  obtain ⟨W2, hW2⟩ : ∃ W2, W1.alloc (.cells #[.int .i64 3, .string ⟨#[]⟩, .int .i64 0, .int .i64 0, .slice none 0 0] 38) = W2 := ⟨_, rfl⟩
  rw [hW2] at r2 r12 r02 B2 ⊢
  clear hS2 hW2 b2
  have xx := fun i => cell_of_row _ _ i _ _ _ r02
  have x0 := xx 0; have x1 := xx 1; have x2 := xx 2; have x4 := xx 4
  have yy := fun i => cell_of_row _ _ i _ _ _ r2
  have y0 := yy 0; have y1 := yy 1; have y2 := yy 2; have y3 := yy 3; have y4 := yy 4
  have yf := fun i => frozen_of_row _ S2 i _ _ r2
  dsimp at x0 x1 x2 x4 y0 y1 y2 y3 y4
  have R2 := Lib.hid r2
  have R12 := Lib.hid r12
  clear xx yy r2 r02 r12
  go_upto_region 12 with fail
  clear x0 x1 x2 x4 y0 y1 y2 y3 y4 yf
  have hge2 : w.heap.size ≤ S2 := by omega
  have r3 := blk_set R2.out 4 (.slice a l c)
  have r13 : (W2.setCell ⟨S2, 4, none⟩ (.slice a l c)).heap[S1]? = _ := (Below.heap_setCell _ _ _ _ (show S1 ≠ S2 by omega)).trans R12.out
  have B3 := Lib.hid (B2.out.setCell (p := ⟨S2, 4, none⟩) hge2 (.slice a l c))
  obtain ⟨W3, hW3⟩ : ∃ W3, W2.setCell ⟨S2, 4, none⟩ (.slice a l c) = W3 := ⟨_, rfl⟩
  rw [hW3] at r3 r13 B3 ⊢
  clear hW3
  have yy := fun i => cell_of_row _ _ i _ _ _ r3
  have y0 := yy 0; have y1 := yy 1; have y2 := yy 2; have y3 := yy 3; have y4 := yy 4
  have zz := fun i => cell_of_row _ _ i _ _ _ r13
  have z0 := zz 0; have z1 := zz 1; have z2 := zz 2; have z3 := zz 3; have z4 := zz 4
  have zf := fun i => frozen_of_row _ S1 i _ _ r13
  dsimp at y0 y1 y2 y3 y4 z0 z1 z2 z3 z4
  simp at y0 y1 y2 y3 y4
  have RF := Lib.hid (blk_set (blk_set (blk_set (blk_set (blk_set r13 0 (.int .i64 3)) 1 (.string ⟨#[]⟩)) 2 (.int .i64 0)) 3 (.int .i64 0)) 4 (.slice a l c))
  have hge : w.heap.size ≤ S1 := Nat.le_of_lt hlt0
  have BF := Lib.hid (((((B3.out.setCell (p := ⟨S1, 0, none⟩) hge (.int .i64 3)).setCell (p := ⟨S1, 1, none⟩) hge (.string ⟨#[]⟩)).setCell (p := ⟨S1, 2, none⟩) hge (.int .i64 0)).setCell (p := ⟨S1, 3, none⟩) hge (.int .i64 0)).setCell (p := ⟨S1, 4, none⟩) hge (.slice a l c))
  clear yy zz r3 r13
  go_wp2
  exact bodyPost_ret (results_cell_row rfl _ _ S1 38 _ (0, 0) _ rfl RF.out Tryd.underlying38 rfl (infoStp.trans rfl)) rfl ⟨rfl, BF.out⟩
end Go.Proofs.YtnpiooaiceegmaaDoor
set_option linter.unusedVariables false
set_option linter.unusedSimpArgs false
namespace Go.Proofs.YtnpiooaiceegmaaDoor
open Go.RowKit
set_option maxRecDepth 100000 in
set_option maxHeartbeats 4000000 in
theorem tplain_2 (t : List UInt8) (n m : Int) (a : Option Addr) (l c : Nat) (w : World)  :
    Calls Tryd.prog 62 #[.agg #[.int .i64 2, .string (mkL t), .int .i64 n, .int .i64 m, .slice a l c]] w fun e w' => e = .returned (.agg #[.int .i64 2, .string ⟨#[]⟩, .int .i64 n, .int .i64 m, .slice none 0 0]) ∧ Below w.heap.size w w' := by
  have b0 := below_alloc w (.cells #[.int .i64 2, .string (mkL t), .int .i64 n, .int .i64 m, .slice a l c] 38)
  have r0 := heap_alloc_new w (.cells #[.int .i64 2, .string (mkL t), .int .i64 n, .int .i64 m, .slice a l c] 38)
  obtain ⟨W0, hW0⟩ : ∃ W0, w.alloc (.cells #[.int .i64 2, .string (mkL t), .int .i64 n, .int .i64 m, .slice a l c] 38) = W0 := ⟨_, rfl⟩
  rw [hW0] at b0 r0
  have b1 := below_alloc W0 (.cells #[.int .i64 0, .string ⟨#[]⟩, .int .i64 0, .int .i64 0, .slice none 0 0] 38)
  have r1 := heap_alloc_new W0 (.cells #[.int .i64 0, .string ⟨#[]⟩, .int .i64 0, .int .i64 0, .slice none 0 0] 38)
  obtain ⟨S1, hS1⟩ : ∃ S1, W0.heap.size = S1 := ⟨_, rfl⟩
  obtain ⟨W1, hW1⟩ : ∃ W1, W0.alloc (.cells #[.int .i64 0, .string ⟨#[]⟩, .int .i64 0, .int .i64 0, .slice none 0 0] 38) = W1 := ⟨_, rfl⟩
  have r01 := blk_below r0 b1
  have B1 := seqB b0 b1
  have hlt0 : w.heap.size < S1 := by rw [← hS1]; exact blk_lt r0
  rw [hW1] at r1 r01 B1
  rw [hS1] at r1
  have xx := fun i => cell_of_row _ _ i _ _ _ r01
  have x0 := xx 0
  dsimp at x0
  have R1 := Lib.hid r1
  have R01 := Lib.hid r01
  have HB := Lib.hid B1
  clear xx b0 b1 r0 r1 r01 B1
  go_enter Tryd.func62, Tryd.ntmps62
  go_upto_region 2 with fail
  clear hW0 hW1 hS1 x0
  have b2 := below_alloc W1 (.cells #[.int .i64 2, .string ⟨#[]⟩, .int .i64 0, .int .i64 0, .slice none 0 0] 38)
  have r2 := heap_alloc_new W1 (.cells #[.int .i64 2, .string ⟨#[]⟩, .int .i64 0, .int .i64 0, .slice none 0 0] 38)
  have r12 := blk_below R1.out b2
  have r02 := blk_below R01.out b2
  have B2 := Lib.hid (seqB HB.out b2)
  have hlt1 : S1 < W1.heap.size := blk_lt R1.out
  obtain ⟨S2, hS2⟩ : ∃ S2, W1.heap.size = S2 := ⟨_, rfl⟩
  rw [hS2] at r2 hlt1 ⊢
  obtain ⟨W2, hW2⟩ : ∃ W2, W1.alloc (.cells #[.int .i64 2, .string ⟨#[]⟩, .int .i64 0, .int .i64 0, .slice none 0 0] 38) = W2 := ⟨_, rfl⟩
  rw [hW2] at r2 r12 r02 B2 ⊢
  clear hS2 hW2 b2
  have xx := fun i => cell_of_row _ _ i _ _ _ r02
  have x0 := xx 0; have x1 := xx 1; have x2 := xx 2; have x4 := xx 4
  have yy := fun i => cell_of_row _ _ i _ _ _ r2
  have y0 := yy 0; have y1 := yy 1; have y2 := yy 2; have y3 := yy 3; have y4 := yy 4
  have x3 := xx 3
  have yf := fun i => frozen_of_row _ S2 i _ _ r2
  dsimp at x0 x1 x2 x3 x4 y0 y1 y2 y3 y4
  have R2 := Lib.hid r2
  have R12 := Lib.hid r12
  have hne2 : S2 ≠ w.heap.size := by omega
  have hge2 : w.heap.size ≤ S2 := by omega
  have hge : w.heap.size ≤ S1 := Nat.le_of_lt hlt0
  have hS12 : S1 ≠ S2 := by omega
  clear xx yy r2 r02 r12
  go_upto_region 6 with fail
  go_region
  clear x0 x1 x2 x3 x4 y0 y1 y2 y3 y4 yf
  have r3 : (((W2.setCell ⟨S2, 2, none⟩ (.int .i64 n)).setCell ⟨S2, 3, none⟩ (.int .i64 m)).drew).heap[S2]? = _ := blk_set (blk_set R2.out 2 (.int .i64 n)) 3 (.int .i64 m)
  have r13 : (((W2.setCell ⟨S2, 2, none⟩ (.int .i64 n)).setCell ⟨S2, 3, none⟩ (.int .i64 m)).drew).heap[S1]? = _ := (Below.heap_setCell _ _ _ _ hS12).trans ((Below.heap_setCell _ _ _ _ hS12).trans R12.out)
  have B3 := Lib.hid (((B2.out.setCell (p := ⟨S2, 2, none⟩) hge2 (.int .i64 n)).setCell (p := ⟨S2, 3, none⟩) hge2 (.int .i64 m)).drew)
  obtain ⟨W3, hW3⟩ : ∃ W3, ((W2.setCell ⟨S2, 2, none⟩ (.int .i64 n)).setCell ⟨S2, 3, none⟩ (.int .i64 m)).drew = W3 := ⟨_, rfl⟩
  rw [hW3] at r3 r13 B3 ⊢
  clear hW3
  have yy := fun i => cell_of_row _ _ i _ _ _ r3
  have y0 := yy 0; have y1 := yy 1; have y2 := yy 2; have y3 := yy 3; have y4 := yy 4
  have zz := fun i => cell_of_row _ _ i _ _ _ r13
  have z0 := zz 0; have z1 := zz 1; have z2 := zz 2; have z3 := zz 3; have z4 := zz 4
  have zf := fun i => frozen_of_row _ S1 i _ _ r13
  dsimp at z0 z1 z2 z3 z4
  simp at y0 y1 y2 y3 y4
  have RF := Lib.hid (blk_set (blk_set (blk_set (blk_set (blk_set r13 0 (.int .i64 2)) 1 (.string ⟨#[]⟩)) 2 (.int .i64 n)) 3 (.int .i64 m)) 4 (.slice none 0 0))
  have BF := Lib.hid (((((B3.out.setCell (p := ⟨S1, 0, none⟩) hge (.int .i64 2)).setCell (p := ⟨S1, 1, none⟩) hge (.string ⟨#[]⟩)).setCell (p := ⟨S1, 2, none⟩) hge (.int .i64 n)).setCell (p := ⟨S1, 3, none⟩) hge (.int .i64 m)).setCell (p := ⟨S1, 4, none⟩) hge (.slice none 0 0))
  clear yy zz r3 r13
  go_wp2
  exact bodyPost_ret (results_cell_row rfl _ _ S1 38 _ (0, 0) _ rfl RF.out Tryd.underlying38 rfl (infoStp.trans rfl)) rfl ⟨rfl, BF.out⟩
set_option maxRecDepth 100000 in
set_option maxHeartbeats 4000000 in
theorem tplain_4 (t : List UInt8) (n m : Int) (a : Option Addr) (l c : Nat) (w : World)  :
    Calls Tryd.prog 62 #[.agg #[.int .i64 4, .string (mkL t), .int .i64 1, .int .i64 m, .slice a l c]] w fun e w' => e = .returned (.agg #[.int .i64 4, .string (mkL t), .int .i64 1, .int .i64 0, .slice none 0 0]) ∧ Below w.heap.size w w' := by
  have b0 := below_alloc w (.cells #[.int .i64 4, .string (mkL t), .int .i64 1, .int .i64 m, .slice a l c] 38)
  have r0 := heap_alloc_new w (.cells #[.int .i64 4, .string (mkL t), .int .i64 1, .int .i64 m, .slice a l c] 38)
  obtain ⟨W0, hW0⟩ : ∃ W0, w.alloc (.cells #[.int .i64 4, .string (mkL t), .int .i64 1, .int .i64 m, .slice a l c] 38) = W0 := ⟨_, rfl⟩
  rw [hW0] at b0 r0
  have b1 := below_alloc W0 (.cells #[.int .i64 0, .string ⟨#[]⟩, .int .i64 0, .int .i64 0, .slice none 0 0] 38)
  have r1 := heap_alloc_new W0 (.cells #[.int .i64 0, .string ⟨#[]⟩, .int .i64 0, .int .i64 0, .slice none 0 0] 38)
  obtain ⟨S1, hS1⟩ : ∃ S1, W0.heap.size = S1 := ⟨_, rfl⟩
  obtain ⟨W1, hW1⟩ : ∃ W1, W0.alloc (.cells #[.int .i64 0, .string ⟨#[]⟩, .int .i64 0, .int .i64 0, .slice none 0 0] 38) = W1 := ⟨_, rfl⟩
  have r01 := blk_below r0 b1
  have B1 := seqB b0 b1
  have hlt0 : w.heap.size < S1 := by rw [← hS1]; exact blk_lt r0
  rw [hW1] at r1 r01 B1
  rw [hS1] at r1
  have xx := fun i => cell_of_row _ _ i _ _ _ r01
  have x0 := xx 0
  dsimp at x0
  have R1 := Lib.hid r1
  have R01 := Lib.hid r01
  have HB := Lib.hid B1
  clear xx b0 b1 r0 r1 r01 B1
  go_enter Tryd.func62, Tryd.ntmps62
  go_upto_region 2 with fail
  clear hW0 hW1 hS1 x0
  have b2 := below_alloc W1 (.cells #[.int .i64 4, .string ⟨#[]⟩, .int .i64 0, .int .i64 0, .slice none 0 0] 38)
  have r2 := heap_alloc_new W1 (.cells #[.int .i64 4, .string ⟨#[]⟩, .int .i64 0, .int .i64 0, .slice none 0 0] 38)
  have r12 := blk_below R1.out b2
  have r02 := blk_below R01.out b2
  have B2 := Lib.hid (seqB HB.out b2)
  have hlt1 : S1 < W1.heap.size := blk_lt R1.out
  obtain ⟨S2, hS2⟩ : ∃ S2, W1.heap.size = S2 := ⟨_, rfl⟩
  rw [hS2] at r2 hlt1 ⊢
  obtain ⟨W2, hW2⟩ : ∃ W2, W1.alloc (.cells #[.int .i64 4, .string ⟨#[]⟩, .int .i64 0, .int .i64 0, .slice none 0 0] 38) = W2 := ⟨_, rfl⟩
  rw [hW2] at r2 r12 r02 B2 ⊢
  clear hS2 hW2 b2
  have xx := fun i => cell_of_row _ _ i _ _ _ r02
  have x0 := xx 0; have x1 := xx 1; have x2 := xx 2; have x4 := xx 4
  have yy := fun i => cell_of_row _ _ i _ _ _ r2
  have y0 := yy 0; have y1 := yy 1; have y2 := yy 2; have y3 := yy 3; have y4 := yy 4
  have x3 := xx 3
  have yf := fun i => frozen_of_row _ S2 i _ _ r2
  dsimp at x0 x1 x2 x3 x4 y0 y1 y2 y3 y4
  have R2 := Lib.hid r2
  have R12 := Lib.hid r12
  have hne2 : S2 ≠ w.heap.size := by omega
  have hge2 : w.heap.size ≤ S2 := by omega
  have hge : w.heap.size ≤ S1 := Nat.le_of_lt hlt0
  have hS12 : S1 ≠ S2 := by omega
  clear xx yy r2 r02 r12
  go_upto_region 11 with fail
  go_region
  clear x0 x1 x2 x3 x4 y0 y1 y2 y3 y4 yf
  have r3 : (((W2.setCell ⟨S2, 2, none⟩ (.int .i64 1)).setCell ⟨S2, 1, none⟩ (.string (mkL t))).drew).heap[S2]? = _ := blk_set (blk_set R2.out 2 (.int .i64 1)) 1 (.string (mkL t))
  have r13 : (((W2.setCell ⟨S2, 2, none⟩ (.int .i64 1)).setCell ⟨S2, 1, none⟩ (.string (mkL t))).drew).heap[S1]? = _ := (Below.heap_setCell _ _ _ _ hS12).trans ((Below.heap_setCell _ _ _ _ hS12).trans R12.out)
  have B3 := Lib.hid (((B2.out.setCell (p := ⟨S2, 2, none⟩) hge2 (.int .i64 1)).setCell (p := ⟨S2, 1, none⟩) hge2 (.string (mkL t))).drew)
  obtain ⟨W3, hW3⟩ : ∃ W3, ((W2.setCell ⟨S2, 2, none⟩ (.int .i64 1)).setCell ⟨S2, 1, none⟩ (.string (mkL t))).drew = W3 := ⟨_, rfl⟩
  rw [hW3] at r3 r13 B3 ⊢
  clear hW3
  have yy := fun i => cell_of_row _ _ i _ _ _ r3
  have y0 := yy 0; have y1 := yy 1; have y2 := yy 2; have y3 := yy 3; have y4 := yy 4
  have zz := fun i => cell_of_row _ _ i _ _ _ r13
  have z0 := zz 0; have z1 := zz 1; have z2 := zz 2; have z3 := zz 3; have z4 := zz 4
  have zf := fun i => frozen_of_row _ S1 i _ _ r13
  dsimp at z0 z1 z2 z3 z4
  simp at y0 y1 y2 y3 y4
  have RF := Lib.hid (blk_set (blk_set (blk_set (blk_set (blk_set r13 0 (.int .i64 4)) 1 (.string (mkL t))) 2 (.int .i64 1)) 3 (.int .i64 0)) 4 (.slice none 0 0))
  have BF := Lib.hid (((((B3.out.setCell (p := ⟨S1, 0, none⟩) hge (.int .i64 4)).setCell (p := ⟨S1, 1, none⟩) hge (.string (mkL t))).setCell (p := ⟨S1, 2, none⟩) hge (.int .i64 1)).setCell (p := ⟨S1, 3, none⟩) hge (.int .i64 0)).setCell (p := ⟨S1, 4, none⟩) hge (.slice none 0 0))
  clear yy zz r3 r13
  go_wp2
  exact bodyPost_ret (results_cell_row rfl _ _ S1 38 _ (0, 0) _ rfl RF.out Tryd.underlying38 rfl (infoStp.trans rfl)) rfl ⟨rfl, BF.out⟩
end Go.Proofs.YtnpiooaiceegmaaDoor
set_option linter.unusedVariables false
set_option linter.unusedSimpArgs false
namespace Go.Proofs.YtnpiooaiceegmaaDoor
open Go.RowKit
/-- A row of bytes of the call's own. -/
def owW (w : World) (B : Nat) (v : Value) (p : List UInt8) : Prop := w.ownsRow B 5 1 v p.length (u8L p)
theorem owW_conv {w : World} {B : Nat} {v : Value} {p : List UInt8} (h : owW w B v p) : ∃ a c, v = .slice a p.length c ∧ ∀ dst, Tryd.prog.underlying dst = some .string → (convert 95 dst (.slice a p.length c)).run Tryd.prog w = .ok (.string (mkL p)) w := by
  unfold owW at h
  rcases h.2 with ⟨rfl, h0⟩ | ⟨g, cap, cur, rfl, hB, hg, hle, hr⟩
  · have hp : p = [] := List.length_eq_zero_iff.1 h0
    subst hp
    exact ⟨none, 0, rfl, fun dst hd => Lib.run_convert_nil_bytes w _ _ _ 0 Tryd.underlying95 Tryd.underlying5 hd⟩
  · refine ⟨_, cap, rfl, fun dst hd => ?_⟩
    exact run_convert_bytes_back (P := Tryd.prog) w 95 dst 5 ⟨g, 0, none⟩ cap p Tryd.underlying95 Tryd.underlying5 hd (fun j hj => by
      have hc := h.cellAt j (by omega)
      have e : (⟨g, 0, none⟩ : Addr).add j = ⟨g, j, none⟩ := by unfold Addr.add; split <;> simp_all
      rw [e, hc]
      simp [u8L, List.getElem?_eq_getElem hj])
/-- What is answered of a word: its text; or that it is none. -/
def UwR (W : List UInt8) (e : Ending) : Prop := ∃ (u : List UInt8) (f : Int), e = .returned (.tuple #[.string (mkL u), .int .i64 f]) ∧ ((f = 0 ∧ wdL u = W) ∨ (f = 6 ∧ u = [] ∧ ∀ s, wdL s ≠ W))
theorem uw_bad {W : List UInt8} (h : ∀ s, wdL s ≠ W) : UwR W (.returned (.tuple #[.string ⟨#[]⟩, .int .i64 6])) := ⟨[], 6, rfl, Or.inr ⟨rfl, rfl, h⟩⟩
theorem pre1 (c : UInt8) (l : List UInt8) : Lib.hasPrefix (c :: l) [46] = decide (c = 46) := by
  unfold Lib.hasPrefix
  rw [Bool.eq_iff_iff, decide_eq_true_eq]
  simp [List.isPrefixOf]
  exact ⟨fun h => h.symm, fun h => h.symm⟩
set_option maxHeartbeats 8000000 in
set_option maxRecDepth 100000 in
theorem tunword_any (W : List UInt8) (w : World) (hW : W.length ≤ 300000) : Calls Tryd.prog 45 #[.string (mkL W)] w fun e w' => UwR W e ∧ Below w.heap.size w w' := by
  obtain ⟨i0, hi, hz0, hz1, hz2⟩ := info_parts infoU8
  have PF : Hid (∀ w, Calls Tryd.prog 100 #[.string (mkL W), .string ⟨#[46]⟩] w fun e w' => e = .returned (.bool (Lib.hasPrefix W [46])) ∧ w = w') := Lib.hid (fun w => (Tryd.strings_HasPrefix (mkL W) ⟨#[46]⟩ w).mono fun e w' h => ⟨h.1, h.2.symm⟩)
  obtain ⟨n, hn⟩ : ∃ n, W.length = n := ⟨_, rfl⟩
  have hz : (mkL W).size = n := by rw [mkL_size, hn]
  by_cases hpre : Lib.hasPrefix W [46] = true
  · rw [hpre] at PF
    have hn1 : 1 ≤ n := by
      cases W with
      | nil => cases hpre
      | cons c l => rw [← hn, List.length_cons]; omega
    have HN := Lib.hid hn
    have n1 : (n : Int) ≤ 300000 := by omega
    clear hpre hn
    go_enter Tryd.func45, Tryd.ntmps45
    go_upto_region 5 with (go_at_call 100; refine (PF.out _).mono ?_; rintro e w1 ⟨rfl, rfl⟩)
    go_loopw [4, 5] (fun vv iv wr => ∃ (i : Nat) (p : List UInt8) (a : Option Addr) (c : Nat), 1 ≤ i ∧ i ≤ n ∧ iv = .int .i64 (i : Int) ∧ vv = .slice a p.length c ∧ Hid (owW wr w.heap.size (.slice a p.length c) p) ∧ p.length ≤ i ∧ Hid (UwI W p i) ∧ Hid (Below w.heap.size w wr)) (fun _ iv _ => n - (intOf iv).toNat)
    case atStart => exact ⟨1, [], none, 0, Nat.le_refl _, hn1, rfl, rfl, Lib.hid (World.ownsRow_nil _ _ _ _), Nat.zero_le _, Lib.hid (uw_0 W), Lib.hid (Below.refl _ _)⟩
    case round =>
      obtain ⟨i, p, a, c, hi1, hin, rfl, rfl, HO, hpl, HU, HB⟩ := hrel
      have hown := HO.out
      unfold owW at hown
      have hb := HB.out
      have hsz := hb.size
      by_cases hlt : i < n
      · have hil : i < W.length := by rw [HN.out]; exact hlt
        have hk1 : (i : Int) < (n : Int) := by omega
        have hk0 : (0 : Int) ≤ (i : Int) := by omega
        have ix := fun w => idx_run W i hil w
        by_cases hc : W.getD i 0 = 92
        · rw [hc] at ix
          have c92 : (((92 : UInt8).toNat : Nat) : Int) = 92 := rfl
          rw [c92] at ix
          by_cases h2 : i + 2 < n
          · have hk2 : (i : Int) + 2 < (n : Int) := by omega
            have hk3 : ¬ (n : Int) ≤ (i : Int) + 2 := by omega
            have hk4 : (i : Int) + 1 ≤ (i : Int) + 3 := by omega
            have hk5 : (i : Int) + 3 ≤ (n : Int) := by omega
            have hx : (mkL W).extract (i + 1) (i + 3) = mkL ((W.drop (i + 1)).take 2) := by rw [mkL_ext, show i + 3 - (i + 1) = 2 by omega]
            have UN := Lib.hid (fun w => kunhex (mkL ((W.drop (i + 1)).take 2)) w (by rw [mkL_size, List.length_take]; omega))
            have hp3 := uw_push3 HU.out hil hc
            have hor := uh_or ((W.drop (i + 1)).take 2)
            have hno : uhE ((W.drop (i + 1)).take 2) ≠ 0 → ∀ s, wdL s ≠ W := fun h0 s hs => by
              obtain ⟨x, r, _, _, hx, _⟩ := uw_hex HU.out hil hc hs
              rw [hx] at h0
              exact h0 (hex2 x).2.1
            rw [show (mkL ((W.drop (i + 1)).take 2)).data.toList = (W.drop (i + 1)).take 2 from rfl] at UN
            generalize mkL ((W.drop (i + 1)).take 2) = mx at *
            rcases hor with ⟨he, hr0⟩ | ⟨he, hr0⟩
            · rw [he] at UN
              have huw := u8_wrap hr0
              generalize uhR ((W.drop (i + 1)).take 2) = ur at *
              generalize hcc : ur.toNat.toUInt8 = cc at *
              have HU' := Lib.hid hp3
              clear hp3 hno he hil hc hcc
              go_upto_region 12 with (go_at_call 104; refine (UN.out _).mono ?_; rintro e w3 ⟨rfl, hb3⟩)
              have ho3 : w3.ownsRow w.heap.size 5 1 (.slice a p.length c) p.length (u8L p) := World.ownsRow.kept hown (row := none) ⟨hb3.os, hb3.tape, hb3.output, hb3.size, fun k hk _ => hb3.block k hk⟩ (by cases (Value.slice a p.length c).ownBlock <;> simp)
              have hb4 := seqB hb hb3
              have hsz4 := hb4.size
              have huw' := huw
              clear hown hb hb3
              go_wp2_with (at_builtin; refine wpList_append_own _ rfl _ _ 95 rfl w.heap.size 5 i0 (.int .u8 0) 1 1 Tryd.underlying95 hi hz0 hz1 hz2 rfl (by decide) _ _ _ rfl (ho3.alloc _) ⟨w3.heap.size, 0, none⟩ 1 1 [.int .u8 (cc.toNat : Int)] rfl rfl ?g1 ?g2 ?g3 ?g4 ?g5 ?_)
              case g1 => intro j x hj; exact app_cells rfl hj
              case g2 => simp [Value.oneCell']
              case g3 => unfold maxLen; omega
              case g4 => omega
              case g5 => simp; omega
              intro v' w5 hown5 hgrow5 _
              have N5 := Lib.hid ((hb4.alloc hb4.size (.cells #[.int .u8 (cc.toNat : Int)] 5)).grown hgrow5 (by simp; omega) (fun j hj => (ho3.lt j hj).1))
              have O5 : owW w5 w.heap.size v' (p ++ [cc]) := by
                unfold owW
                rw [List.length_append, show u8L (p ++ [cc]) = u8L p ++ [.int .u8 (cc.toNat : Int)] by simp [u8L]]
                exact hown5
              obtain ⟨a5, c5, e5, _⟩ := owW_conv O5
              subst e5
              have O5 := Lib.hid O5
              rw [List.length_append, List.length_singleton] at *
              clear hown5 hgrow5 ho3 hsz hsz4
              go_wp2
              go_roundw
              case rel => exact ⟨i + 3, p ++ [cc], a5, c5, by omega, by omega, by go_num, by first | rfl | (rw [List.length_append]; rfl), by first | exact O5 | (rw [List.length_append]; exact O5), by first | omega | (rw [List.length_append, List.length_singleton]; omega), HU', N5⟩
              case measure => (simp [intOf]; try omega)
            · rw [he] at UN
              have HNO := Lib.hid (uw_bad (hno (by rw [he]; decide)))
              generalize uhR ((W.drop (i + 1)).take 2) = ur at *
              clear hp3 hno he hil hc hown
              go_upto_region 12 with (go_at_call 104; refine (UN.out _).mono ?_; rintro e w3 ⟨rfl, hb3⟩)
              go_wp2
              refine bodyPost_ret (v := .tuple #[.string ⟨#[]⟩, .int .i64 6]) (by simp [results, Tryd.results45, go_sem]) rfl ?_
              exact ⟨HNO.out, seqB hb hb3⟩
          · have hk3 : (n : Int) ≤ (i : Int) + 2 := by omega
            have HNO := Lib.hid (uw_bad (fun s hs => by
              obtain ⟨x, r, _, h3, _, _⟩ := uw_hex HU.out hil hc hs
              rw [HN.out] at h3
              exact h2 h3))
            clear hil hc hown
            go_wp2
            refine bodyPost_ret (v := .tuple #[.string ⟨#[]⟩, .int .i64 6]) (by simp [results, Tryd.results45, go_sem]) rfl ?_
            exact ⟨HNO.out, hb⟩
        · have HU' := Lib.hid (uw_plain HU.out hil hc)
          have hne : (((W.getD i 0).toNat : Int) == 92) = false := by
            have : (W.getD i 0).toNat ≠ 92 := fun e => hc (UInt8.toNat_inj.1 e)
            rw [beq_eq_false_iff_ne]; omega
          clear hc hil
          generalize W.getD i 0 = cc at *
          go_wp2_with (at_builtin; refine wpList_append_own _ rfl _ _ 95 rfl w.heap.size 5 i0 (.int .u8 0) 1 1 Tryd.underlying95 hi hz0 hz1 hz2 rfl (by decide) _ _ _ rfl (hown.alloc _) ⟨wr.heap.size, 0, none⟩ 1 1 [.int .u8 (cc.toNat : Int)] rfl rfl ?g1 ?g2 ?g3 ?g4 ?g5 ?_)
          case g1 => intro j x hj; exact app_cells rfl hj
          case g2 => simp [Value.oneCell']
          case g3 => unfold maxLen; omega
          case g4 => omega
          case g5 => simp; omega
          intro v' w5 hown5 hgrow5 _
          have N5 := Lib.hid ((hb.alloc hb.size (.cells #[.int .u8 (cc.toNat : Int)] 5)).grown hgrow5 (by simp; omega) (fun j hj => (hown.lt j hj).1))
          have O5 : owW w5 w.heap.size v' (p ++ [cc]) := by
            unfold owW
            rw [List.length_append, show u8L (p ++ [cc]) = u8L p ++ [.int .u8 (cc.toNat : Int)] by simp [u8L]]
            exact hown5
          obtain ⟨a5, c5, e5, _⟩ := owW_conv O5
          subst e5
          have O5 := Lib.hid O5
          rw [List.length_append, List.length_singleton] at *
          clear hown5 hgrow5 hown hsz
          go_wp2
          go_roundw
          case rel => exact ⟨i + 1, p ++ [cc], a5, c5, by omega, by omega, by go_num, by first | rfl | (rw [List.length_append]; rfl), by first | exact O5 | (rw [List.length_append]; exact O5), by first | omega | (rw [List.length_append, List.length_singleton]; omega), HU', N5⟩
          case measure => (simp [intOf]; try omega)
      · obtain rfl : i = n := by omega
        have hnn : ¬ (i : Int) < (i : Int) := by omega
        have hend := fun s hs => uw_end HU.out (by rw [HN.out]; exact Nat.lt_irrefl _) (s := s) hs
        obtain ⟨a', c', e', hcv⟩ := owW_conv HO.out
        obtain ⟨rfl, rfl⟩ : a = a' ∧ c = c' := by simpa using e'
        have TW := Lib.hid (fun w => tword_any p w (by omega))
        generalize hP : p.length = P at *
        by_cases hq : wdL p = W
        · have hq1 : ((mkL (wdL p)).toList == (mkL W).toList) = true := by rw [hq]; simp
          have HNO : Hid (UwR W (.returned (.tuple #[.string (mkL p), .int .i64 0]))) := Lib.hid ⟨p, 0, rfl, Or.inl ⟨rfl, hq⟩⟩
          clear hend hq hown
          go_upto_region 17 with fail
          go_wp2_with (go_at_call 46; refine (TW.out _).mono ?_; rintro e w3 ⟨rfl, hb3⟩)
          refine bodyPost_ret (v := .tuple #[.string (mkL p), .int .i64 0]) (by simp [results, Tryd.results45, go_sem]) rfl ?_
          exact ⟨HNO.out, seqB hb hb3⟩
        · have hqn : (mkL (wdL p)).toList ≠ (mkL W).toList := by rw [mkL_toList, mkL_toList]; exact hq
          have hq1 : ((mkL (wdL p)).toList == (mkL W).toList) = false := by rw [beq_eq_false_iff_ne]; exact hqn
          have hq3 := mkL_ne hq
          have HNO := Lib.hid (uw_bad (fun s hs => hq (by rw [← hend s hs]; exact hs)))
          clear hend hq hown
          go_upto_region 17 with fail
          go_wp2_with (go_at_call 46; refine (TW.out _).mono ?_; rintro e w3 ⟨rfl, hb3⟩)
          refine bodyPost_ret (v := .tuple #[.string ⟨#[]⟩, .int .i64 6]) (by simp [results, Tryd.results45, go_sem]) rfl ?_
          exact ⟨HNO.out, seqB hb hb3⟩
  · have hb : Lib.hasPrefix W [46] = false := Bool.not_eq_true _ ▸ hpre
    rw [hb] at PF
    have hno : ∀ s, wdL s ≠ W := fun s hs => by
      rw [← hs] at hb
      unfold wdL at hb
      rw [pre1] at hb
      exact absurd rfl (of_decide_eq_false hb)
    have HNO := Lib.hid (uw_bad hno)
    clear hno hb hpre
    go_enter Tryd.func45, Tryd.ntmps45
    go_wp2_with (go_at_call 100; refine (PF.out _).mono ?_; rintro e w1 ⟨rfl, rfl⟩)
    refine bodyPost_ret (v := .tuple #[.string ⟨#[]⟩, .int .i64 6]) (by simp [results, Tryd.results45, go_sem]) rfl ?_
    exact ⟨HNO.out, Below.refl _ _⟩
end Go.Proofs.YtnpiooaiceegmaaDoor
set_option linter.unusedVariables false
set_option linter.unusedSimpArgs false
namespace Go.Proofs.YtnpiooaiceegmaaDoor
open Go.RowKit
/-- What stands behind a word's dot, read. -/
def uwG : List UInt8 → List UInt8
  | [] => []
  | [c] => [c]
  | [c, a] => [c, a]
  | c :: a :: b :: r => if c = 92 then UInt8.ofNat (uhR [a, b]).toNat :: uwG r else c :: uwG (a :: b :: r)
theorem uwG_step (x : UInt8) (r : List UInt8) : uwG (wdB x ++ r) = x :: uwG r := by
  by_cases hp : wdP x
  · have hB : wdB x = [x] := if_pos hp
    have h92 : x ≠ 92 := fun e => hp.2.2 (by rw [e]; rfl)
    rw [hB, List.singleton_append]
    match r with
    | [] => rfl
    | [a] => rfl
    | a :: b :: r =>
      conv => lhs; unfold uwG
      rw [if_neg h92]
  · have hB : wdB x = 92 :: hexN (x.toNat : Int) 2 := if_neg hp
    obtain ⟨h1, _, h3, _⟩ := hex2 x
    generalize hexN (x.toNat : Int) 2 = X at *
    match X, h1 with
    | [a, b], _ =>
      rw [hB]
      show uwG (92 :: a :: b :: r) = _
      conv => lhs; unfold uwG
      rw [if_pos rfl, h3, Int.toNat_natCast, UInt8.ofNat_toNat]
theorem uwG_wd (s : List UInt8) : uwG (s.flatMap wdB) = s := by
  induction s with
  | nil => rfl
  | cons x s ih => rw [List.flatMap_cons, uwG_step, ih]
/-- A word's text, if it is one. -/
def uwO (W : List UInt8) : Option (List UInt8) := if wdL (uwG W.tail) = W then some (uwG W.tail) else none
theorem uwO_wd (s : List UInt8) : uwO (wdL s) = some s := by
  have h : uwG (wdL s).tail = s := uwG_wd s
  unfold uwO
  rw [h, if_pos rfl]
theorem uwO_some {W s : List UInt8} (h : uwO W = some s) : wdL s = W := by
  unfold uwO at h
  split at h
  · rename_i e
    obtain rfl := Option.some.inj h
    exact e
  · cases h
def uwS (W : List UInt8) : List UInt8 := (uwO W).getD []
def uwE (W : List UInt8) : Int := if (uwO W).isSome = true then 0 else 6
theorem uw_of {W : List UInt8} {e : Ending} (h : UwR W e) : e = .returned (.tuple #[.string (mkL (uwS W)), .int .i64 (uwE W)]) := by
  obtain ⟨u, f, rfl, h⟩ := h
  rcases h with ⟨rfl, h⟩ | ⟨rfl, rfl, h⟩
  · unfold uwS uwE
    rw [← h, uwO_wd]; rfl
  · unfold uwS uwE
    cases e : uwO W with
    | none => rfl
    | some s => exact absurd (uwO_some e) (h s)
theorem uwS_wd (s : List UInt8) : uwS (wdL s) = s := by unfold uwS; rw [uwO_wd]; rfl
theorem uwE_wd (s : List UInt8) : uwE (wdL s) = 0 := by unfold uwE; rw [uwO_wd]; rfl
theorem und_in {n : Int} (h : in64 n) : undR (decS n) = n ∧ undE (decS n) = 0 := und_dec n h.1 h.2
/-- A step of which all is zero but what its line tells. -/
def plS (x : Stp) : Stp :=
  if x.1 = 0 then (0, x.2.1, 0, 0, []) else if x.1 = 2 then (2, [], x.2.2.1, x.2.2.2.1, []) else if x.1 = 3 then (3, [], 0, 0, x.2.2.2.2)
  else if x.1 = 4 ∧ x.2.2.1 = 1 then (4, x.2.1, 1, 0, []) else (x.1, [], 0, 0, [])
def stW (x : Stp) : Option (List (List UInt8)) := swW x.1 x.2.1 x.2.2.1 x.2.2.2.1 x.2.2.2.2
/-- A step's line, if it may be. -/
def stLn (x : Stp) : Option (List UInt8) := match stW x with
  | none => none
  | some W => if x = plS x then some (tjS W) else none
def tsOk (x : Stp) : Prop := in64 x.1 ∧ in64 x.2.2.1 ∧ in64 x.2.2.2.1
theorem tjS_jo (p : List UInt8) (ps : List (List UInt8)) : tjS (p :: ps) = joB 32 p ps := rfl
theorem pcB_tj {W : List (List UInt8)} (h0 : W ≠ []) (h : ∀ q ∈ W, ∀ c ∈ q, c ≠ 32) : pcB 32 (tjS W) = W := by
  cases W with
  | nil => exact absurd rfl h0
  | cons p ps =>
    rw [tjS_jo]
    unfold pcB
    rw [spB_of 32 p ps (h p (List.mem_cons_self ..)) (fun q hq => h q (List.mem_cons_of_mem _ hq))]
theorem dec_no (n : Int) : ∀ c ∈ decS n, c.toNat = 45 ∨ 48 ≤ c.toNat ∧ c.toNat ≤ 57 := by
  have hd : ∀ m l, ∀ c ∈ tell 10 20 m l, 48 ≤ c.toNat ∧ c.toNat ≤ 57 := fun m l c hc => by
    have h := digs_tell 10 (by omega) (by omega) 20 m l
    rw [digs, List.all_eq_true] at h
    have := h c hc
    revert this
    have key : ∀ x : Fin 256, decide (worth ((UInt8.ofNat x.val).toNat : Int) < 10) = true → 48 ≤ (UInt8.ofNat x.val).toNat ∧ (UInt8.ofNat x.val).toNat ≤ 57 := by decide
    have k := key ⟨c.toNat, c.toNat_lt⟩
    rw [show UInt8.ofNat (⟨c.toNat, c.toNat_lt⟩ : Fin 256).val = c from UInt8.ofNat_toNat] at k
    exact k
  intro c hc
  unfold decS at hc
  split at hc
  · rcases List.mem_cons.1 hc with rfl | hc
    · exact .inl rfl
    · exact .inr (hd _ _ c hc)
  · exact .inr (hd _ _ c hc)
theorem wd_no (s : List UInt8) : ∀ c ∈ wdL s, 33 ≤ c.toNat ∧ c.toNat ≤ 126 := by
  intro c hc
  unfold wdL at hc
  rcases List.mem_cons.1 hc with rfl | hc
  · decide
  · obtain ⟨b, _, hb⟩ := List.mem_flatMap.1 hc
    have key : ∀ x : Fin 256, ∀ c ∈ wdB (UInt8.ofNat x.val), 33 ≤ c.toNat ∧ c.toNat ≤ 126 := by decide
    have k := key ⟨b.toNat, b.toNat_lt⟩ c
    rw [show UInt8.ofNat (⟨b.toNat, b.toNat_lt⟩ : Fin 256).val = b from UInt8.ofNat_toNat] at k
    exact k hb
end Go.Proofs.YtnpiooaiceegmaaDoor
set_option linter.unusedVariables false
set_option linter.unusedSimpArgs false
namespace Go.Proofs.YtnpiooaiceegmaaDoor
open Go.RowKit
abbrev Crs := Int × List UInt8
abbrev Cf := List Int × Bool × List UInt8
def wA (W : List (List UInt8)) (i : Nat) : List UInt8 := W.getD i []
/-- The crash of a line's words. -/
def rdC (W : List (List UInt8)) : Option Crs :=
  if wA W 0 = crW ∧ undE (wA W 1) = 0 ∧ uwE (wA W 2) = 0 ∧ W.length ≤ 3 then some (undR (wA W 1), uwS (wA W 2)) else none
def rdF (W : List (List UInt8)) : Option Cf :=
  if wA W 0 = cfW ∧ (∀ i, i < 8 → undE (wA W (i + 1)) = 0) ∧ (wA W 9 = cfK true ∨ wA W 9 = cfK false) ∧ uwE (wA W 10) = 0 ∧ W.length ≤ 11
  then some ((List.range 8).map (fun i => undR (wA W (i + 1))), decide (wA W 9 = cfK true), uwS (wA W 10)) else none
/-- The step of a line's words. -/
def rdS (W : List (List UInt8)) : Option Stp :=
  if wA W 0 = byW then (if uwE (wA W 1) = 0 ∧ W.length ≤ 2 then some (0, uwS (wA W 1), 0, 0, []) else none)
  else if wA W 0 = tiW then (if W.length ≤ 1 then some (1, [], 0, 0, []) else none)
  else if wA W 0 = reW then (if undE (wA W 1) = 0 ∧ undE (wA W 2) = 0 ∧ W.length ≤ 3 then some (2, [], undR (wA W 1), undR (wA W 2), []) else none)
  else if wA W 0 = ofW then (if ∀ q ∈ W.tail, uwE q = 0 then some (3, [], 0, 0, W.tail.map uwS) else none)
  else if wA W 0 = loW then (if W.length ≤ 1 then some (4, [], 0, 0, []) else if uwE (wA W 1) = 0 ∧ W.length ≤ 2 then some (4, uwS (wA W 1), 1, 0, []) else none)
  else if wA W 0 = saW then (if W.length ≤ 1 then some (5, [], 0, 0, []) else none)
  else if wA W 0 = poW then (if W.length ≤ 1 then some (6, [], 0, 0, []) else none)
  else none
theorem cr_words (a : Int) (k : List UInt8) : ∀ q ∈ [crW, decS a, wdL k], ∀ c ∈ q, c ≠ 32 := by
  intro q hq c hc e
  subst e
  rcases List.mem_cons.1 hq with rfl | hq
  · revert hc; decide
  · rcases List.mem_cons.1 hq with rfl | hq
    · have := dec_no a _ hc; revert this; decide
    · rcases List.mem_cons.1 hq with rfl | hq
      · have := wd_no k _ hc; revert this; decide
      · cases hq
theorem rdC_good {c : Crs} (h : in64 c.1) : rdC (pcB 32 (crLine c.1 c.2)) = some c := by
  unfold crLine
  rw [pcB_tj (by simp) (cr_words c.1 c.2)]
  unfold rdC
  have u := und_in h
  rw [if_pos ⟨rfl, u.2, uwE_wd c.2, Nat.le_refl _⟩]
  show some (undR (decS c.1), uwS (wdL c.2)) = _
  rw [u.1, uwS_wd]
theorem map_wd (L : List (List UInt8)) : (L.map wdL).map uwS = L := by
  rw [List.map_map]
  conv => rhs; rw [← List.map_id L]
  exact List.map_congr_left fun q _ => uwS_wd q
theorem in0 : in64 0 := by unfold in64; omega
theorem in1 : ∀ k : Int, 0 ≤ k → k ≤ 6 → in64 k := by intro k h1 h2; unfold in64; omega
theorem stW_ok {x : Stp} {W : List (List UInt8)} (h : stW x = some W) : W ≠ [] ∧ ∀ q ∈ W, (∀ c ∈ q, c ≠ 32 ∧ c ≠ 10) := by
  have hd : ∀ n : Int, ∀ c ∈ decS n, c ≠ 32 ∧ c ≠ 10 := fun n c hc => by
    have := dec_no n c hc
    constructor <;> (intro e; subst e; revert this; decide)
  have hw : ∀ s, ∀ c ∈ wdL s, c ≠ 32 ∧ c ≠ 10 := fun s c hc => by
    have := wd_no s c hc
    constructor <;> (intro e; subst e; revert this; decide)
  have hk : ∀ q ∈ [byW, tiW, reW, ofW, loW, saW, poW], ∀ c ∈ q, c ≠ 32 ∧ c ≠ 10 := by decide
  have hk2 := fun q hq => hk q hq
  have one : ∀ a, a ∈ [byW, tiW, reW, ofW, loW, saW, poW] → ∀ q ∈ [a], (∀ c ∈ q, c ≠ 32 ∧ c ≠ 10) := fun a ha q hq => by
    rcases List.mem_cons.1 hq with rfl | hq
    · exact hk _ ha
    · cases hq
  unfold stW swW at h
  repeat' split at h
  all_goals first | (cases h; done) | skip
  all_goals
    obtain rfl := Option.some.inj h
    refine ⟨by simp, ?_⟩
  · intro q hq
    rcases List.mem_cons.1 hq with rfl | hq
    · exact hk _ (by decide)
    · rcases List.mem_cons.1 hq with rfl | hq
      · exact hw _
      · cases hq
  · exact one _ (by decide)
  · intro q hq
    rcases List.mem_cons.1 hq with rfl | hq
    · exact hk _ (by decide)
    · rcases List.mem_cons.1 hq with rfl | hq
      · exact hd _
      · rcases List.mem_cons.1 hq with rfl | hq
        · exact hd _
        · cases hq
  · intro q hq
    rcases List.mem_cons.1 hq with rfl | hq
    · exact hk _ (by decide)
    · obtain ⟨s, _, rfl⟩ := List.mem_map.1 hq
      exact hw _
  · intro q hq
    rcases List.mem_cons.1 hq with rfl | hq
    · exact hk _ (by decide)
    · rcases List.mem_cons.1 hq with rfl | hq
      · exact hw _
      · cases hq
  · exact one _ (by decide)
  · exact one _ (by decide)
  · exact one _ (by decide)
theorem stLn_W {x : Stp} {l : List UInt8} (h : stLn x = some l) : ∃ W, stW x = some W ∧ l = tjS W ∧ x = plS x ∧ pcB 32 l = W := by
  unfold stLn at h
  cases e : stW x with
  | none => rw [e] at h; cases h
  | some W =>
    rw [e] at h
    dsimp only at h
    split at h
    · rename_i hp
      obtain rfl := Option.some.inj h
      have := stW_ok e
      exact ⟨W, rfl, rfl, hp, pcB_tj this.1 fun q hq c hc => (this.2 q hq c hc).1⟩
    · cases h
theorem rdS_good {x : Stp} {l : List UInt8} (h : stLn x = some l) (ho : tsOk x) : rdS (pcB 32 l) = some x := by
  obtain ⟨W, h1, rfl, hp, h3⟩ := stLn_W h
  rw [h3]
  obtain ⟨k, t, n, m, L⟩ := x
  obtain ⟨_, o2, o3⟩ := ho
  dsimp only at o2 o3
  have e2 := und_in o2
  have e3 := und_in o3
  unfold stW at h1
  dsimp only at h1
  unfold plS at hp
  dsimp only at hp
  unfold swW at h1
  split at h1
  · subst k
    obtain rfl := Option.some.inj h1
    rw [if_pos rfl] at hp
    simp only [Prod.mk.injEq, true_and, and_true] at hp
    obtain ⟨rfl, rfl, rfl⟩ := hp
    unfold rdS
    rw [if_pos (show wA [byW, wdL t] 0 = byW from rfl), if_pos (show uwE (wA [byW, wdL t] 1) = 0 ∧ [byW, wdL t].length ≤ 2 from ⟨uwE_wd t, Nat.le_refl _⟩)]
    show some ((0 : Int), uwS (wdL t), (0 : Int), (0 : Int), ([] : List (List UInt8))) = _
    rw [uwS_wd]
  · rename_i k0
    rw [if_neg k0] at hp
    split at h1
    · subst k
      obtain rfl := Option.some.inj h1
      rw [if_neg (by decide), if_neg (by decide), if_neg (by simp)] at hp
      simp only [Prod.mk.injEq, true_and, and_true] at hp
      obtain ⟨rfl, rfl, rfl, rfl⟩ := hp
      rfl
    · split at h1
      · subst k
        obtain rfl := Option.some.inj h1
        rw [if_pos rfl] at hp
        simp only [Prod.mk.injEq, true_and, and_true] at hp
        obtain ⟨rfl, rfl⟩ := hp
        unfold rdS
        rw [if_neg (by show ¬ (reW = byW); decide), if_neg (by show ¬ (reW = tiW); decide), if_pos (show wA [reW, decS n, decS m] 0 = reW from rfl), if_pos (show undE (wA [reW, decS n, decS m] 1) = 0 ∧ undE (wA [reW, decS n, decS m] 2) = 0 ∧ [reW, decS n, decS m].length ≤ 3 from ⟨e2.2, e3.2, Nat.le_refl _⟩)]
        show some ((2 : Int), ([] : List UInt8), undR (decS n), undR (decS m), ([] : List (List UInt8))) = _
        rw [e2.1, e3.1]
      · rename_i k2
        rw [if_neg k2] at hp
        split at h1
        · subst k
          obtain rfl := Option.some.inj h1
          rw [if_pos rfl] at hp
          simp only [Prod.mk.injEq, true_and, and_true] at hp
          obtain ⟨rfl, rfl, rfl⟩ := hp
          unfold rdS
          rw [if_neg (by show ¬ (ofW = byW); decide), if_neg (by show ¬ (ofW = tiW); decide), if_neg (by show ¬ (ofW = reW); decide), if_pos (show wA (ofW :: L.map wdL) 0 = ofW from rfl), if_pos (show ∀ q ∈ (ofW :: L.map wdL).tail, uwE q = 0 from fun q hq => by
            obtain ⟨s, _, rfl⟩ := List.mem_map.1 hq
            exact uwE_wd s)]
          show some ((3 : Int), ([] : List UInt8), (0 : Int), (0 : Int), (L.map wdL).map uwS) = _
          rw [map_wd]
        · rename_i k3
          rw [if_neg k3] at hp
          split at h1
          · subst k
            split at h1
            · subst n
              obtain rfl := Option.some.inj h1
              rw [if_pos ⟨rfl, rfl⟩] at hp
              simp only [Prod.mk.injEq, true_and, and_true] at hp
              obtain ⟨rfl, rfl⟩ := hp
              unfold rdS
              rw [if_neg (by show ¬ (loW = byW); decide), if_neg (by show ¬ (loW = tiW); decide), if_neg (by show ¬ (loW = reW); decide), if_neg (by show ¬ (loW = ofW); decide), if_pos (show wA [loW, wdL t] 0 = loW from rfl), if_neg (by show ¬ (2 ≤ 1); decide), if_pos (show uwE (wA [loW, wdL t] 1) = 0 ∧ [loW, wdL t].length ≤ 2 from ⟨uwE_wd t, Nat.le_refl _⟩)]
              show some ((4 : Int), uwS (wdL t), (1 : Int), (0 : Int), ([] : List (List UInt8))) = _
              rw [uwS_wd]
            · rename_i hn
              obtain rfl := Option.some.inj h1
              rw [if_neg (fun e => hn e.2)] at hp
              simp only [Prod.mk.injEq, true_and, and_true] at hp
              obtain ⟨rfl, rfl, rfl, rfl⟩ := hp
              rfl
          · rename_i k4
            rw [if_neg (fun e => k4 e.1)] at hp
            simp only [Prod.mk.injEq, true_and, and_true] at hp
            obtain ⟨rfl, rfl, rfl, rfl⟩ := hp
            split at h1
            · subst k
              obtain rfl := Option.some.inj h1
              rfl
            · split at h1
              · subst k
                obtain rfl := Option.some.inj h1
                rfl
              · cases h1
theorem rdS_cr {W : List (List UInt8)} (h : wA W 0 = crW) : rdS W = none := by
  unfold rdS
  rw [h, if_neg (by decide), if_neg (by decide), if_neg (by decide), if_neg (by decide), if_neg (by decide), if_neg (by decide), if_neg (by decide)]
theorem rdC_0 {W : List (List UInt8)} {c : Crs} (h : rdC W = some c) : wA W 0 = crW := by
  unfold rdC at h
  split at h
  · rename_i hc; exact hc.1
  · cases h
def cfOk (f : Cf) : Prop := f.1.length = 8 ∧ ∀ n ∈ f.1, in64 n
def cfT (f : Cf) : List UInt8 := cfLine f.1 f.2.1 f.2.2
theorem rdF_good {f : Cf} (h : cfOk f) : rdF (pcB 32 (cfT f)) = some f ∧ pcB 32 (cfT f) = cfL f.1 8 ++ [cfK f.2.1, wdL f.2.2] := by
  obtain ⟨N, vi, p⟩ := f
  obtain ⟨hl, hn⟩ := h
  dsimp only at hl hn
  match N, hl with
  | [a0, a1, a2, a3, a4, a5, a6, a7], _ =>
    have hd : ∀ n : Int, ∀ c ∈ decS n, c ≠ 32 := fun n c hc e => by
      have := dec_no n c hc
      subst e; revert this; decide
    have hW : pcB 32 (cfT ([a0, a1, a2, a3, a4, a5, a6, a7], vi, p)) = [cfW, decS a0, decS a1, decS a2, decS a3, decS a4, decS a5, decS a6, decS a7, cfK vi, wdL p] := by
      show pcB 32 (tjS [cfW, decS a0, decS a1, decS a2, decS a3, decS a4, decS a5, decS a6, decS a7, cfK vi, wdL p]) = _
      refine pcB_tj (by simp) fun q hq => ?_
      simp only [List.mem_cons, List.not_mem_nil, or_false] at hq
      rcases hq with rfl | rfl | rfl | rfl | rfl | rfl | rfl | rfl | rfl | rfl | rfl
      · decide
      · exact hd _
      · exact hd _
      · exact hd _
      · exact hd _
      · exact hd _
      · exact hd _
      · exact hd _
      · exact hd _
      · cases vi <;> decide
      · intro c hc e
        have := wd_no p c hc
        subst e; revert this; decide
    refine ⟨?_, hW⟩
    rw [hW]
    have e := fun n hn' => und_in (hn n hn')
    unfold rdF
    rw [if_pos]
    · show some ([undR (decS a0), undR (decS a1), undR (decS a2), undR (decS a3), undR (decS a4), undR (decS a5), undR (decS a6), undR (decS a7)], decide (cfK vi = cfK true), uwS (wdL p)) = _
      rw [uwS_wd, (e a0 (by simp)).1, (e a1 (by simp)).1, (e a2 (by simp)).1, (e a3 (by simp)).1, (e a4 (by simp)).1, (e a5 (by simp)).1, (e a6 (by simp)).1, (e a7 (by simp)).1]
      cases vi <;> rfl
    · refine ⟨rfl, ?_, ?_, uwE_wd p, Nat.le_refl _⟩
      · intro i hi
        match i, hi with
        | 0, _ => exact (e a0 (by simp)).2
        | 1, _ => exact (e a1 (by simp)).2
        | 2, _ => exact (e a2 (by simp)).2
        | 3, _ => exact (e a3 (by simp)).2
        | 4, _ => exact (e a4 (by simp)).2
        | 5, _ => exact (e a5 (by simp)).2
        | 6, _ => exact (e a6 (by simp)).2
        | 7, _ => exact (e a7 (by simp)).2
        | i + 8, h => exact absurd h (by omega)
      · cases vi
        · exact .inr rfl
        · exact .inl rfl
end Go.Proofs.YtnpiooaiceegmaaDoor
set_option linter.unusedVariables false
set_option linter.unusedSimpArgs false
namespace Go.Proofs.YtnpiooaiceegmaaDoor
open Go.RowKit
abbrev Scr := Cf × List Crs × List Stp
def enT (L : List (List UInt8)) : List UInt8 := L.flatMap fun l => l ++ [10]
def crLn (c : Crs) : List UInt8 := crLine c.1 c.2
def stLs (x : Stp) : List UInt8 := (stLn x).getD []
/-- A script's text; none: some step may not be. -/
def scT (s : Scr) : Option (List UInt8) := if s.2.2.all (fun x => (stLn x).isSome) = true then some (enT (cfT s.1 :: (s.2.1.map crLn ++ s.2.2.map stLs))) else none
def prL : List (List UInt8) → List Crs → List Stp → Option (List Crs × List Stp)
  | [], c, s => some (c, s)
  | l :: r, c, s => match (if s = [] then rdC (pcB 32 l) else none) with
    | some x => prL r (c ++ [x]) s
    | none => match rdS (pcB 32 l) with
      | some x => prL r c (s ++ [x])
      | none => none
def prA : List (List UInt8) → Option Scr
  | [] => none
  | l :: r => match rdF (pcB 32 l) with
    | none => none
    | some f => match prL r [] [] with
      | none => none
      | some q => some (f, q)
def prT (t : List UInt8) : Option Scr := if t.getLast? = some 10 then prA (pcB 10 t.dropLast) else none
def scOk (s : Scr) : Prop := cfOk s.1 ∧ (∀ c ∈ s.2.1, in64 c.1) ∧ ∀ x ∈ s.2.2, tsOk x
theorem enT_jo (p : List UInt8) (ps : List (List UInt8)) : enT (p :: ps) = joB 10 p ps ++ [10] := by
  induction ps generalizing p with
  | nil => rw [joB_nil]; simp [enT]
  | cons q ps ih =>
    rw [joB_cons]
    show p ++ [10] ++ enT (q :: ps) = _
    rw [ih]; simp
theorem pc_enT {L : List (List UInt8)} (h0 : L ≠ []) (h : ∀ q ∈ L, ∀ c ∈ q, c ≠ 10) : (enT L).getLast? = some 10 ∧ pcB 10 (enT L).dropLast = L := by
  cases L with
  | nil => exact absurd rfl h0
  | cons p ps =>
    rw [enT_jo]
    refine ⟨by simp, ?_⟩
    rw [List.dropLast_concat]
    unfold pcB
    rw [spB_of 10 p ps (h p (List.mem_cons_self ..)) (fun q hq => h q (List.mem_cons_of_mem _ hq))]
theorem enT_app (a b : List (List UInt8)) : enT (a ++ b) = enT a ++ enT b := List.flatMap_append
theorem prL_steps : ∀ (ss : List Stp) (c : List Crs) (s : List Stp), (∀ x ∈ ss, tsOk x ∧ (stLn x).isSome = true) → prL (ss.map stLs) c s = some (c, s ++ ss)
  | [], c, s, _ => by simp [prL]
  | x :: ss, c, s, h => by
    have hx := h x (List.mem_cons_self ..)
    obtain ⟨l, hl⟩ := Option.isSome_iff_exists.1 hx.2
    have hr := rdS_good hl hx.1
    have hls : stLs x = l := by unfold stLs; rw [hl]; rfl
    have hc : (if s = [] then rdC (pcB 32 l) else none) = none := by
      split
      · cases hcc : rdC (pcB 32 l) with
        | none => rfl
        | some y => rw [rdS_cr (rdC_0 hcc)] at hr; cases hr
      · rfl
    have ih := prL_steps ss c (s ++ [x]) (fun y hy => h y (List.mem_cons_of_mem _ hy))
    rw [List.map_cons, hls]
    unfold prL
    rw [hc]
    dsimp only
    rw [hr]
    dsimp only
    rw [ih, List.append_assoc]; rfl
theorem prL_good : ∀ (cs c : List Crs) (ss : List Stp), (∀ x ∈ cs, in64 x.1) → (∀ x ∈ ss, tsOk x ∧ (stLn x).isSome = true) → prL (cs.map crLn ++ ss.map stLs) c [] = some (c ++ cs, ss)
  | [], c, ss, _, h => by
    have := prL_steps ss c [] h
    simpa using this
  | x :: cs, c, ss, h1, h2 => by
    have hr := rdC_good (h1 x (List.mem_cons_self ..))
    have ih := prL_good cs (c ++ [x]) ss (fun y hy => h1 y (List.mem_cons_of_mem _ hy)) h2
    show prL (crLn x :: (cs.map crLn ++ ss.map stLs)) c [] = _
    unfold prL
    rw [if_pos rfl]
    unfold crLn at hr ⊢
    rw [hr]
    dsimp only
    rw [show (fun c : Crs => crLine c.1 c.2) = crLn from rfl, ih, List.append_assoc]; rfl
theorem tj_no10 {W : List (List UInt8)} (h : ∀ q ∈ W, ∀ c ∈ q, c ≠ 10) : ∀ c ∈ tjS W, c ≠ 10 := by
  cases W with
  | nil => intro c hc; cases hc
  | cons p ps =>
    intro c hc
    rcases List.mem_append.1 hc with hc | hc
    · exact h p (List.mem_cons_self ..) c hc
    · obtain ⟨q, hq, hc⟩ := List.mem_flatMap.1 hc
      rcases List.mem_cons.1 hc with rfl | hc
      · decide
      · exact h q (List.mem_cons_of_mem _ hq) c hc
theorem dec_no10 (n : Int) : ∀ c ∈ decS n, c ≠ 10 := fun c hc e => by
  have := dec_no n c hc
  subst e; revert this; decide
theorem wd_no10 (s : List UInt8) : ∀ c ∈ wdL s, c ≠ 10 := fun c hc e => by
  have := wd_no s c hc
  subst e; revert this; decide
theorem crLn_no10 (x : Crs) : ∀ c ∈ crLn x, c ≠ 10 := by
  unfold crLn crLine
  refine tj_no10 fun q hq => ?_
  simp only [List.mem_cons, List.not_mem_nil, or_false] at hq
  rcases hq with rfl | rfl | rfl
  · decide
  · exact dec_no10 _
  · exact wd_no10 _
theorem cfT_no10 (f : Cf) : ∀ c ∈ cfT f, c ≠ 10 := by
  unfold cfT cfLine
  refine tj_no10 fun q hq => ?_
  rcases List.mem_append.1 hq with hq | hq
  · unfold cfL at hq
    rcases List.mem_cons.1 hq with rfl | hq
    · decide
    · obtain ⟨n, _, rfl⟩ := List.mem_map.1 hq
      exact dec_no10 n
  · simp only [List.mem_cons, List.not_mem_nil, or_false] at hq
    rcases hq with rfl | rfl
    · cases f.2.1 <;> decide
    · exact wd_no10 _
theorem stLs_no10 (x : Stp) : ∀ c ∈ stLs x, c ≠ 10 := by
  unfold stLs
  cases h : stLn x with
  | none => intro c hc; cases hc
  | some l =>
    obtain ⟨W, h1, rfl, _, _⟩ := stLn_W h
    exact tj_no10 fun q hq c hc => ((stW_ok h1).2 q hq c hc).2
theorem prT_good {t : List UInt8} {x : Scr} (h : scT x = some t) (ho : scOk x) : prT t = some x := by
  unfold scT at h
  split at h
  · rename_i ha
    obtain rfl := Option.some.inj h
    rw [List.all_eq_true] at ha
    have hn : ∀ q ∈ cfT x.1 :: (x.2.1.map crLn ++ x.2.2.map stLs), ∀ c ∈ q, c ≠ 10 := by
      intro q hq
      rcases List.mem_cons.1 hq with rfl | hq
      · exact cfT_no10 _
      · rcases List.mem_append.1 hq with hq | hq
        · obtain ⟨y, _, rfl⟩ := List.mem_map.1 hq; exact crLn_no10 y
        · obtain ⟨y, _, rfl⟩ := List.mem_map.1 hq; exact stLs_no10 y
    have hp := pc_enT (by simp) hn
    unfold prT
    rw [if_pos hp.1, hp.2]
    show (match rdF (pcB 32 (cfT x.1)) with
        | none => none
        | some f => match prL (x.2.1.map crLn ++ x.2.2.map stLs) [] [] with
          | none => none
          | some q => some (f, q)) = some x
    rw [(rdF_good ho.1).1]
    dsimp only
    rw [prL_good x.2.1 [] x.2.2 ho.2.1 (fun y hy => ⟨ho.2.2 y hy, ha y hy⟩)]
    rfl
  · cases h
end Go.Proofs.YtnpiooaiceegmaaDoor
set_option linter.unusedVariables false
set_option linter.unusedSimpArgs false
namespace Go.Proofs.YtnpiooaiceegmaaDoor
open Go.RowKit
theorem beqF {a b : Int} (h : ¬ a = b) : (a == b) = false := by rw [beq_eq_false_iff_ne]; exact h
/-- A step's fields as they lie. -/
def tsV (x : Stp) (a : Option Addr) (c : Nat) : Value := .agg #[.int .i64 x.1, .string (mkL x.2.1), .int .i64 x.2.2.1, .int .i64 x.2.2.2.1, .slice a x.2.2.2.2.length c]
/-- What bounds a step. -/
def tsB (x : Stp) : Prop := x.2.1.length ≤ 300000 ∧ x.2.2.2.2.length ≤ 100000 ∧ (∀ y, y ∈ x.2.2.2.2 → y.length ≤ 300000) ∧ tsOk x
theorem tsw_any (x : Stp) (a : Option Addr) (c : Nat) (w : World) (hb : tsB x) (hS : StI w a (x.2.2.2.2.map mkL)) : Calls Tryd.prog 61 #[tsV x a c] w (SwP w (stW x)) := by
  obtain ⟨k, t, n, m, L⟩ := x
  obtain ⟨h1, h2, h3, _, h5, h6⟩ := hb
  dsimp only at h1 h2 h3 h5 h6 hS
  unfold stW tsV
  dsimp only
  unfold swW
  by_cases k0 : k = 0
  · subst k0; rw [if_pos rfl]; exact tsw_0 t n m a L.length c w h1
  rw [if_neg k0]
  by_cases k1 : k = 1
  · subst k1; rw [if_pos rfl]; exact tsw_1 t n m a L.length c w
  rw [if_neg k1]
  by_cases k2 : k = 2
  · subst k2; rw [if_pos rfl]; exact tsw_2 t n m a L.length c w h5 h6
  rw [if_neg k2]
  by_cases k3 : k = 3
  · subst k3; rw [if_pos rfl]; exact tsw_3 t n m a L.length c w L rfl h2 h3 hS
  rw [if_neg k3]
  by_cases k4 : k = 4
  · subst k4; rw [if_pos rfl]
    by_cases hn : n = 1
    · subst hn; rw [if_pos rfl]; exact tsw_4 t m a L.length c w h1
    · rw [if_neg hn]; exact tsw_4n t n m a L.length c w (beqF hn)
  rw [if_neg k4]
  by_cases k5 : k = 5
  · subst k5; rw [if_pos rfl]; exact tsw_5 t n m a L.length c w
  rw [if_neg k5]
  by_cases k6 : k = 6
  · subst k6; rw [if_pos rfl]; exact tsw_6 t n m a L.length c w
  rw [if_neg k6]
  exact tsw_no t n m a L.length c w k (beqF k0) (beqF k1) (beqF k2) (beqF k3) (beqF k4) (beqF k5) (beqF k6)
theorem sti_nil (w : World) (a : Option Addr) : StI w a (([] : List (List UInt8)).map mkL) := fun i hi => by simp at hi
theorem tplain_any (x : Stp) (a : Option Addr) (c : Nat) (w : World) (hS : StI w a (x.2.2.2.2.map mkL)) : Calls Tryd.prog 62 #[tsV x a c] w fun e w' => (∃ a' c', e = .returned (tsV (plS x) a' c') ∧ StI w a' ((plS x).2.2.2.2.map mkL)) ∧ Below w.heap.size w w' := by
  obtain ⟨k, t, n, m, L⟩ := x
  dsimp only at hS
  unfold plS tsV
  dsimp only
  have fin : ∀ {e : Ending} {w' : World} {y : Stp} {a' : Option Addr} {c' : Nat}, StI w a' (y.2.2.2.2.map mkL) → (e = .returned (tsV y a' c') ∧ Below w.heap.size w w') → (∃ a' c', e = .returned (tsV y a' c') ∧ StI w a' (y.2.2.2.2.map mkL)) ∧ Below w.heap.size w w' := fun h1 h2 => ⟨⟨_, _, h2.1, h1⟩, h2.2⟩
  by_cases k0 : k = 0
  · subst k0; rw [if_pos rfl]
    exact (tplain_0 t n m a L.length c w).mono fun e w' h => fin (y := (0, t, 0, 0, [])) (sti_nil w none) h
  rw [if_neg k0]
  by_cases k2 : k = 2
  · subst k2; rw [if_pos rfl]
    exact (tplain_2 t n m a L.length c w).mono fun e w' h => fin (y := (2, [], n, m, [])) (sti_nil w none) h
  rw [if_neg k2]
  by_cases k3 : k = 3
  · subst k3; rw [if_pos rfl]
    exact (tplain_3 t n m a L.length c w).mono fun e w' h => fin (y := (3, [], 0, 0, L)) hS h
  rw [if_neg k3]
  by_cases k4 : k = 4
  · subst k4
    by_cases hn : n = 1
    · subst hn; rw [if_pos ⟨rfl, rfl⟩]
      exact (tplain_4 t 1 m a L.length c w).mono fun e w' h => fin (y := (4, t, 1, 0, [])) (sti_nil w none) h
    · rw [if_neg (fun e => hn e.2)]
      exact (tplain_4n t n m a L.length c w (beqF hn)).mono fun e w' h => fin (y := (4, [], 0, 0, [])) (sti_nil w none) h
  rw [if_neg (fun e => k4 e.1)]
  exact (tplain_no t n m a L.length c w k (beqF k0) (beqF k2) (beqF k3) (beqF k4)).mono fun e w' h => fin (y := (k, [], 0, 0, [])) (sti_nil w none) h
theorem tsame_st (x y : Stp) (a b : Option Addr) (c d : Nat) (w : World) (hx : x.2.2.2.2.length ≤ 1000000) (hy : y.2.2.2.2.length ≤ 1000000) (ha : StI w a (x.2.2.2.2.map mkL)) (hb : StI w b (y.2.2.2.2.map mkL)) :
    Calls Tryd.prog 59 #[tsV x a c, tsV y b d] w fun e w' => e = .returned (.bool (decide (x = y))) ∧ Below w.heap.size w w' := by
  obtain ⟨k, t, n, m, L⟩ := x
  obtain ⟨k2, t2, n2, m2, L2⟩ := y
  exact tsame_any k k2 n n2 m m2 t t2 L L2 a b L.length L2.length c d w rfl rfl hx hy ha hb
end Go.Proofs.YtnpiooaiceegmaaDoor
