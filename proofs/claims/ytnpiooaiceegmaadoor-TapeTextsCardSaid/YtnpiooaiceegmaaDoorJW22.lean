/-
  Joined: Tp51 Tp52 Tp53.
-/
import Derived.Test.YtnpiooaiceegmaaDoorJW19
import Derived.Test.YtnpiooaiceegmaaDoorJW20
import Derived.Test.YtnpiooaiceegmaaDoorJW21
set_option linter.unusedVariables false
set_option linter.unusedSimpArgs false
set_option maxRecDepth 100000
set_option linter.unusedVariables false
set_option linter.unusedSimpArgs false
namespace Go.Proofs.YtnpiooaiceegmaaDoor
open Go.RowKit
set_option maxRecDepth 100000 in
set_option maxHeartbeats 4000000 in
theorem rtexts_any (x y : List (List UInt8)) (a b : Option Addr) (n m c d : Nat) (w : World) (hx : x.length = n) (hy : y.length = m) (hn : n ≤ 1000000) (hm : m ≤ 1000000) (ha : StI w a (x.map mkL)) (hb : StI w b (y.map mkL)) :
    Calls Tryd.prog 60 #[.slice a n c, .slice b m d] w fun e w' => e = .returned (.bool (decide (x = y))) ∧ ∃ q, w' = w.drewN q := by
  have HA := Lib.hid ha
  have HB := Lib.hid hb
  have HX := Lib.hid hx
  have HY := Lib.hid hy
  obtain ⟨R, hR⟩ : ∃ R, decide (x = y) = R := ⟨_, rfl⟩
  rw [hR]
  have HR := Lib.hid hR
  by_cases hl : n = m
  · subst hl
    clear ha hb hx hy hR hm
    go_enter Tryd.func60, Tryd.ntmps60
    go_wp2
    go_loopw [5] (fun iv wr => ∃ k : Nat, k ≤ n ∧ iv = .int .i64 (k : Int) ∧ Hid (∀ j, j < k → x.getD j [] = y.getD j []) ∧ ∃ q, wr = w.drewN q) (fun iv _ => n - (intOf iv).toNat)
    case atStart => exact ⟨0, Nat.zero_le _, rfl, Lib.hid (fun j hj => absurd hj (by omega)), 0, rfl⟩
    case round =>
      obtain ⟨k, hk, rfl, hall, q, rfl⟩ := hrel
      by_cases hlt : k < n
      · have hkx : k < x.length := by rw [HX.out]; exact hlt
        have hky : k < y.length := by rw [HY.out]; exact hlt
        obtain ⟨b1, o1, rfl, hb1, c1⟩ := HA.out k (by rw [List.length_map]; exact hkx)
        obtain ⟨b2, o2, rfl, hb2, d1⟩ := HB.out k (by rw [List.length_map]; exact hky)
        rw [mapD x k hkx] at c1
        rw [mapD y k hky] at d1
        have hk1 : (k : Int) < (n : Int) := by omega
        have hk0 : (0 : Int) ≤ k := by omega
        by_cases he : x.getD k [] = y.getD k []
        · have HF : Hid (∀ j, j < k + 1 → x.getD j [] = y.getD j []) := Lib.hid (by
            intro j hj
            rcases Nat.lt_succ_iff_lt_or_eq.1 hj with h | rfl
            · exact hall.out j h
            · exact he)
          rw [← he] at d1
          generalize mkL (x.getD k []) = s1 at *
          clear he hkx hky
          go_upto_region 6 with fail
          go_quiet (fail)
          go_wp2
          go_roundw
          case rel => exact ⟨k + 1, by omega, by go_num, HF, _, rfl⟩
          case measure => (simp [intOf]; try omega)
        · have hr : R = false := by rw [← HR.out]; exact decide_eq_false (fun e => he (by rw [e]))
          subst hr
          have h1 := bq_ne he
          have h2 : ((mkL (x.getD k [])).toList == (mkL (y.getD k [])).toList) = false := by rw [mkL_toList (y.getD k [])]; exact h1
          have h3 := mkL_ne he
          generalize mkL (x.getD k []) = s1 at *
          generalize mkL (y.getD k []) = s2 at *
          clear he hkx hky h1
          go_upto_region 6 with fail
          go_quiet (fail)
          go_wp2
          go_ret
          exact ⟨rfl, _, World.drewN_drewN ..⟩
      · obtain rfl : k = n := by omega
        have hnn : ¬ (k : Int) < (k : Int) := by omega
        have hr : R = true := by
          rw [← HR.out]
          exact decide_eq_true (seq_list (by rw [HX.out, HY.out]) (fun j hj => hall.out j (by rw [← HX.out]; exact hj)))
        subst hr
        go_wp2
        go_ret
        exact ⟨rfl, _, rfl⟩
  · have hr : R = false := by rw [← hR]; exact decide_eq_false (fun e => hl (by rw [← hx, ← hy, e]))
    subst hr
    have hln : ((n : Int) == (m : Int)) = false := by rw [beq_eq_false_iff_ne]; omega
    clear ha hb hx hy hR
    go_enter Tryd.func60, Tryd.ntmps60
    go_wp2
    go_ret
    exact ⟨rfl, 0, rfl⟩
theorem ba_ne {p p' : ByteArray} (h : ¬ p = p') : ¬ p.toList = p'.toList := fun e => h (by
  rw [ByteArray.toList_eq, ByteArray.toList_eq] at e
  cases p; cases p'
  congr
  exact Array.toList_inj.1 e)
theorem eqConfN (n0 n1 n2 n3 n4 n5 n6 n7 m0 m1 m2 m3 m4 m5 m6 m7 : Int) (b b' : Bool) (p p' : ByteArray) (h : ¬ (n0 = m0 ∧ n1 = m1 ∧ n2 = m2 ∧ n3 = m3 ∧ n4 = m4 ∧ n5 = m5 ∧ n6 = m6 ∧ n7 = m7 ∧ b = b' ∧ p = p')) (w : World) : (binOp .eql 23 (.agg #[.int .i64 n0, .int .i64 n1, .int .i64 n2, .int .i64 n3, .int .i64 n4, .int .i64 n5, .int .i64 n6, .int .i64 n7, .bool b, .string p]) (.agg #[.int .i64 m0, .int .i64 m1, .int .i64 m2, .int .i64 m3, .int .i64 m4, .int .i64 m5, .int .i64 m6, .int .i64 m7, .bool b', .string p'])).run Tryd.prog w = .ok (.bool false) w := by
  by_cases h0 : n0 = m0
  case neg => simp [go_sem, h0]
  by_cases h1 : n1 = m1
  case neg => simp [go_sem, h0, h1]
  by_cases h2 : n2 = m2
  case neg => simp [go_sem, h0, h1, h2]
  by_cases h3 : n3 = m3
  case neg => simp [go_sem, h0, h1, h2, h3]
  by_cases h4 : n4 = m4
  case neg => simp [go_sem, h0, h1, h2, h3, h4]
  by_cases h5 : n5 = m5
  case neg => simp [go_sem, h0, h1, h2, h3, h4, h5]
  by_cases h6 : n6 = m6
  case neg => simp [go_sem, h0, h1, h2, h3, h4, h5, h6]
  by_cases h7 : n7 = m7
  case neg => simp [go_sem, h0, h1, h2, h3, h4, h5, h6, h7]
  by_cases h8 : b = b'
  case neg => simp [go_sem, h0, h1, h2, h3, h4, h5, h6, h7, h8]
  by_cases h9 : p = p'
  case neg => simp [go_sem, h0, h1, h2, h3, h4, h5, h6, h7, h8, h9, ba_ne h9]
  exact absurd ⟨h0, h1, h2, h3, h4, h5, h6, h7, h8, h9⟩ h
theorem neConfN (n0 n1 n2 n3 n4 n5 n6 n7 m0 m1 m2 m3 m4 m5 m6 m7 : Int) (b b' : Bool) (p p' : ByteArray) (h : ¬ (n0 = m0 ∧ n1 = m1 ∧ n2 = m2 ∧ n3 = m3 ∧ n4 = m4 ∧ n5 = m5 ∧ n6 = m6 ∧ n7 = m7 ∧ b = b' ∧ p = p')) (w : World) : (binOp .neq 23 (.agg #[.int .i64 n0, .int .i64 n1, .int .i64 n2, .int .i64 n3, .int .i64 n4, .int .i64 n5, .int .i64 n6, .int .i64 n7, .bool b, .string p]) (.agg #[.int .i64 m0, .int .i64 m1, .int .i64 m2, .int .i64 m3, .int .i64 m4, .int .i64 m5, .int .i64 m6, .int .i64 m7, .bool b', .string p'])).run Tryd.prog w = .ok (.bool true) w := by
  by_cases h0 : n0 = m0
  case neg => simp [go_sem, h0]
  by_cases h1 : n1 = m1
  case neg => simp [go_sem, h0, h1]
  by_cases h2 : n2 = m2
  case neg => simp [go_sem, h0, h1, h2]
  by_cases h3 : n3 = m3
  case neg => simp [go_sem, h0, h1, h2, h3]
  by_cases h4 : n4 = m4
  case neg => simp [go_sem, h0, h1, h2, h3, h4]
  by_cases h5 : n5 = m5
  case neg => simp [go_sem, h0, h1, h2, h3, h4, h5]
  by_cases h6 : n6 = m6
  case neg => simp [go_sem, h0, h1, h2, h3, h4, h5, h6]
  by_cases h7 : n7 = m7
  case neg => simp [go_sem, h0, h1, h2, h3, h4, h5, h6, h7]
  by_cases h8 : b = b'
  case neg => simp [go_sem, h0, h1, h2, h3, h4, h5, h6, h7, h8]
  by_cases h9 : p = p'
  case neg => simp [go_sem, h0, h1, h2, h3, h4, h5, h6, h7, h8, h9, ba_ne h9]
  exact absurd ⟨h0, h1, h2, h3, h4, h5, h6, h7, h8, h9⟩ h
theorem neConfE (n0 n1 n2 n3 n4 n5 n6 n7 : Int) (b : Bool) (p : ByteArray) (w : World) : (binOp .neq 23 (.agg #[.int .i64 n0, .int .i64 n1, .int .i64 n2, .int .i64 n3, .int .i64 n4, .int .i64 n5, .int .i64 n6, .int .i64 n7, .bool b, .string p]) (.agg #[.int .i64 n0, .int .i64 n1, .int .i64 n2, .int .i64 n3, .int .i64 n4, .int .i64 n5, .int .i64 n6, .int .i64 n7, .bool b, .string p])).run Tryd.prog w = .ok (.bool false) w := by
  simp [go_sem]
end Go.Proofs.YtnpiooaiceegmaaDoor
set_option linter.unusedVariables false
set_option linter.unusedSimpArgs false
namespace Go.Proofs.YtnpiooaiceegmaaDoor
open Go.RowKit
set_option maxRecDepth 100000 in
set_option maxHeartbeats 8000000 in
theorem rsame_nec (n0 n1 n2 n3 n4 n5 n6 n7 m0 m1 m2 m3 m4 m5 m6 m7 : Int) (b b2 : Bool) (p p2 : ByteArray) (hne : ¬ (n0 = m0 ∧ n1 = m1 ∧ n2 = m2 ∧ n3 = m3 ∧ n4 = m4 ∧ n5 = m5 ∧ n6 = m6 ∧ n7 = m7 ∧ b = b2 ∧ p = p2)) (C D : List Crs) (S U : List Stp) (ca sa cb sb : Option Addr) (cc sc cd sd : Nat) (w : World) :
    Calls Tryd.prog 14 #[.agg #[.int .i64 n0, .int .i64 n1, .int .i64 n2, .int .i64 n3, .int .i64 n4, .int .i64 n5, .int .i64 n6, .int .i64 n7, .bool b, .string p, .slice ca C.length cc, .slice sa S.length sc], .agg #[.int .i64 m0, .int .i64 m1, .int .i64 m2, .int .i64 m3, .int .i64 m4, .int .i64 m5, .int .i64 m6, .int .i64 m7, .bool b2, .string p2, .slice cb D.length cd, .slice sb U.length sd]] w fun e w' => e = .returned (.bool false) ∧ Below w.heap.size w w' := by
  have b0 := below_alloc w (.cells #[.int .i64 n0, .int .i64 n1, .int .i64 n2, .int .i64 n3, .int .i64 n4, .int .i64 n5, .int .i64 n6, .int .i64 n7, .bool b, .string p, .slice ca C.length cc, .slice sa S.length sc] 27)
  have r0 := heap_alloc_new w (.cells #[.int .i64 n0, .int .i64 n1, .int .i64 n2, .int .i64 n3, .int .i64 n4, .int .i64 n5, .int .i64 n6, .int .i64 n7, .bool b, .string p, .slice ca C.length cc, .slice sa S.length sc] 27)
  obtain ⟨W0, hW0⟩ : ∃ W0, w.alloc (.cells #[.int .i64 n0, .int .i64 n1, .int .i64 n2, .int .i64 n3, .int .i64 n4, .int .i64 n5, .int .i64 n6, .int .i64 n7, .bool b, .string p, .slice ca C.length cc, .slice sa S.length sc] 27) = W0 := ⟨_, rfl⟩
  rw [hW0] at b0 r0
  have b1 := below_alloc W0 (.cells #[.int .i64 m0, .int .i64 m1, .int .i64 m2, .int .i64 m3, .int .i64 m4, .int .i64 m5, .int .i64 m6, .int .i64 m7, .bool b2, .string p2, .slice cb D.length cd, .slice sb U.length sd] 27)
  have r1 := heap_alloc_new W0 (.cells #[.int .i64 m0, .int .i64 m1, .int .i64 m2, .int .i64 m3, .int .i64 m4, .int .i64 m5, .int .i64 m6, .int .i64 m7, .bool b2, .string p2, .slice cb D.length cd, .slice sb U.length sd] 27)
  obtain ⟨BN, hBN⟩ : ∃ BN, W0.heap.size = BN := ⟨_, rfl⟩
  obtain ⟨W1, hW1⟩ : ∃ W1, W0.alloc (.cells #[.int .i64 m0, .int .i64 m1, .int .i64 m2, .int .i64 m3, .int .i64 m4, .int .i64 m5, .int .i64 m6, .int .i64 m7, .bool b2, .string p2, .slice cb D.length cd, .slice sb U.length sd] 27) = W1 := ⟨_, rfl⟩
  rw [hW1] at b1 r1
  have NB := Lib.hid (seqB b0 b1)
  have QQ := Lib.hid (blk_below r0 b1)
  rw [hBN] at r1
  have RR := Lib.hid r1
  have yy := fun i => cell_of_row _ _ i _ _ _ QQ.out
  have zz := fun i => cell_of_row _ _ i _ _ _ RR.out
  have y0 := yy 0; have y1 := yy 1; have y2 := yy 2; have y3 := yy 3; have y4 := yy 4; have y5 := yy 5; have y6 := yy 6; have y7 := yy 7; have y8 := yy 8; have y9 := yy 9; have y10 := yy 10; have y11 := yy 11
  have z0 := zz 0; have z1 := zz 1; have z2 := zz 2; have z3 := zz 3; have z4 := zz 4; have z5 := zz 5; have z6 := zz 6; have z7 := zz 7; have z8 := zz 8; have z9 := zz 9; have z10 := zz 10; have z11 := zz 11
  dsimp at y0 y1 y2 y3 y4 y5 y6 y7 y8 y9 y10 y11 z0 z1 z2 z3 z4 z5 z6 z7 z8 z9 z10 z11
  clear yy zz r0 r1 b0 b1
  have EQC := fun (W : World) => neConfN n0 n1 n2 n3 n4 n5 n6 n7 m0 m1 m2 m3 m4 m5 m6 m7 b b2 p p2 hne W
  clear hne QQ RR
  go_enter Tryd.func14, Tryd.ntmps14
  go_wp2
  try go_ret
  exact ⟨rfl, NB.out⟩
set_option maxRecDepth 100000 in
set_option maxHeartbeats 8000000 in
theorem rsame_eqc (n0 n1 n2 n3 n4 n5 n6 n7 : Int) (b : Bool) (p : ByteArray) (C D : List Crs) (S U : List Stp) (ca sa cb sb : Option Addr) (cc sc cd sd : Nat) (w : World) (hC : C.length ≤ 1000000) (hD : D.length ≤ 1000000) (hS : S.length ≤ 1000000) (hU : U.length ≤ 1000000) (hSL : ∀ x ∈ S, x.2.2.2.2.length ≤ 1000000) (hUL : ∀ x ∈ U, x.2.2.2.2.length ≤ 1000000)
    (h1 : CrI w ca C) (h2 : SpI w sa S) (h3 : CrI w cb D) (h4 : SpI w sb U) :
    Calls Tryd.prog 14 #[.agg #[.int .i64 n0, .int .i64 n1, .int .i64 n2, .int .i64 n3, .int .i64 n4, .int .i64 n5, .int .i64 n6, .int .i64 n7, .bool b, .string p, .slice ca C.length cc, .slice sa S.length sc], .agg #[.int .i64 n0, .int .i64 n1, .int .i64 n2, .int .i64 n3, .int .i64 n4, .int .i64 n5, .int .i64 n6, .int .i64 n7, .bool b, .string p, .slice cb D.length cd, .slice sb U.length sd]] w fun e w' => e = .returned (.bool (decide (C = D) && decide (S = U))) ∧ Below w.heap.size w w' := by
  have b0 := below_alloc w (.cells #[.int .i64 n0, .int .i64 n1, .int .i64 n2, .int .i64 n3, .int .i64 n4, .int .i64 n5, .int .i64 n6, .int .i64 n7, .bool b, .string p, .slice ca C.length cc, .slice sa S.length sc] 27)
  have r0 := heap_alloc_new w (.cells #[.int .i64 n0, .int .i64 n1, .int .i64 n2, .int .i64 n3, .int .i64 n4, .int .i64 n5, .int .i64 n6, .int .i64 n7, .bool b, .string p, .slice ca C.length cc, .slice sa S.length sc] 27)
  obtain ⟨W0, hW0⟩ : ∃ W0, w.alloc (.cells #[.int .i64 n0, .int .i64 n1, .int .i64 n2, .int .i64 n3, .int .i64 n4, .int .i64 n5, .int .i64 n6, .int .i64 n7, .bool b, .string p, .slice ca C.length cc, .slice sa S.length sc] 27) = W0 := ⟨_, rfl⟩
  rw [hW0] at b0 r0
  have b1 := below_alloc W0 (.cells #[.int .i64 n0, .int .i64 n1, .int .i64 n2, .int .i64 n3, .int .i64 n4, .int .i64 n5, .int .i64 n6, .int .i64 n7, .bool b, .string p, .slice cb D.length cd, .slice sb U.length sd] 27)
  have r1 := heap_alloc_new W0 (.cells #[.int .i64 n0, .int .i64 n1, .int .i64 n2, .int .i64 n3, .int .i64 n4, .int .i64 n5, .int .i64 n6, .int .i64 n7, .bool b, .string p, .slice cb D.length cd, .slice sb U.length sd] 27)
  obtain ⟨BN, hBN⟩ : ∃ BN, W0.heap.size = BN := ⟨_, rfl⟩
  obtain ⟨W1, hW1⟩ : ∃ W1, W0.alloc (.cells #[.int .i64 n0, .int .i64 n1, .int .i64 n2, .int .i64 n3, .int .i64 n4, .int .i64 n5, .int .i64 n6, .int .i64 n7, .bool b, .string p, .slice cb D.length cd, .slice sb U.length sd] 27) = W1 := ⟨_, rfl⟩
  rw [hW1] at b1 r1
  have NB := Lib.hid (seqB b0 b1)
  have QQ := Lib.hid (blk_below r0 b1)
  rw [hBN] at r1
  have RR := Lib.hid r1
  have yy := fun i => cell_of_row _ _ i _ _ _ QQ.out
  have zz := fun i => cell_of_row _ _ i _ _ _ RR.out
  have y0 := yy 0; have y1 := yy 1; have y2 := yy 2; have y3 := yy 3; have y4 := yy 4; have y5 := yy 5; have y6 := yy 6; have y7 := yy 7; have y8 := yy 8; have y9 := yy 9; have y10 := yy 10; have y11 := yy 11
  have z0 := zz 0; have z1 := zz 1; have z2 := zz 2; have z3 := zz 3; have z4 := zz 4; have z5 := zz 5; have z6 := zz 6; have z7 := zz 7; have z8 := zz 8; have z9 := zz 9; have z10 := zz 10; have z11 := zz 11
  dsimp at y0 y1 y2 y3 y4 y5 y6 y7 y8 y9 y10 y11 z0 z1 z2 z3 z4 z5 z6 z7 z8 z9 z10 z11
  clear yy zz r0 r1 b0 b1
  have EQC := fun (W : World) => neConfE n0 n1 n2 n3 n4 n5 n6 n7 b p W
  have HC := Lib.hid h1; have HS := Lib.hid h2; have HD := Lib.hid h3; have HU := Lib.hid h4
  have HSL := Lib.hid hSL; have HUL := Lib.hid hUL
  clear h1 h2 h3 h4 hSL hUL
  obtain ⟨R, hR⟩ : ∃ R, (decide (C = D) && decide (S = U)) = R := ⟨_, rfl⟩
  rw [hR]
  have HR := Lib.hid hR
  clear hR
  obtain ⟨lc, hlc⟩ : ∃ n, C.length = n := ⟨_, rfl⟩
  obtain ⟨ld, hld⟩ : ∃ n, D.length = n := ⟨_, rfl⟩
  obtain ⟨ls, hls⟩ : ∃ n, S.length = n := ⟨_, rfl⟩
  obtain ⟨lu, hlu⟩ : ∃ n, U.length = n := ⟨_, rfl⟩
  rw [hlc] at hC y10 QQ hW0 ⊢
  rw [hld] at hD z10 RR hW1 ⊢
  rw [hls] at hS y11 QQ hW0 ⊢
  rw [hlu] at hU z11 RR hW1 ⊢
  have HLC := Lib.hid hlc; have HLD := Lib.hid hld; have HLS := Lib.hid hls; have HLU := Lib.hid hlu
  clear hlc hld hls hlu
  by_cases e1 : lc = ld
  rotate_left
  · have HF : Hid (R = false) := Lib.hid (by rw [← HR.out, decide_eq_false (fun e => e1 (by rw [← HLC.out, ← HLD.out, e])), Bool.false_and])
    have g1 : ¬ (lc : Int) = (ld : Int) := by omega
    have g2 := beqF g1
    clear e1 QQ RR
    go_enter Tryd.func14, Tryd.ntmps14
    go_wp2
    try go_ret
    rw [HF.out]
    exact ⟨rfl, NB.out⟩
  subst e1
  by_cases e2 : ls = lu
  rotate_left
  · have HF : Hid (R = false) := Lib.hid (by rw [← HR.out, decide_eq_false (fun e : S = U => e2 (by rw [← HLS.out, ← HLU.out, e])), Bool.and_false])
    have g1 : ¬ (ls : Int) = (lu : Int) := by omega
    have g2 := beqF g1
    clear e2 QQ RR
    go_enter Tryd.func14, Tryd.ntmps14
    go_wp2
    try go_ret
    rw [HF.out]
    exact ⟨rfl, NB.out⟩
  subst e2
  go_enter Tryd.func14, Tryd.ntmps14
  go_upto_region 3 with fail
  obtain ⟨CA, hCA⟩ : ∃ CA, #[Value.int .i64 n0, .int .i64 n1, .int .i64 n2, .int .i64 n3, .int .i64 n4, .int .i64 n5, .int .i64 n6, .int .i64 n7, .bool b, .string p, .slice ca lc cc, .slice sa ls sc] = CA := ⟨_, rfl⟩
  obtain ⟨CB, hCB⟩ : ∃ CB, #[Value.int .i64 n0, .int .i64 n1, .int .i64 n2, .int .i64 n3, .int .i64 n4, .int .i64 n5, .int .i64 n6, .int .i64 n7, .bool b, .string p, .slice cb lc cd, .slice sb ls sd] = CB := ⟨_, rfl⟩
  have qa10 := Lib.hid (show CA[10]? = some (.slice ca lc cc) by rw [← hCA]; rfl)
  have qa11 := Lib.hid (show CA[11]? = some (.slice sa ls sc) by rw [← hCA]; rfl)
  have qb10 := Lib.hid (show CB[10]? = some (.slice cb lc cd) by rw [← hCB]; rfl)
  have qb11 := Lib.hid (show CB[11]? = some (.slice sb ls sd) by rw [← hCB]; rfl)
  rw [hCA] at QQ
  rw [hCB] at RR
  clear hCA hCB y0 y1 y2 y3 y4 y5 y6 y7 y8 y9 y10 y11 z0 z1 z2 z3 z4 z5 z6 z7 z8 z9 z10 z11 hW0 hW1 hBN
  go_wp2
  go_loopw [5] (fun iv wr => ∃ k : Nat, k ≤ lc ∧ iv = .int .i64 (k : Int) ∧ Hid (∀ j, j < k → C.getD j (0, []) = D.getD j (0, [])) ∧ Hid (wr.heap[w.heap.size]? = some (.cells CA 27 (0, 0))) ∧ Hid (wr.heap[BN]? = some (.cells CB 27 (0, 0))) ∧ Hid (Below w.heap.size w wr)) (fun iv _ => lc - (intOf iv).toNat)
  case atStart => exact ⟨0, Nat.zero_le _, rfl, Lib.hid (fun j hj => absurd hj (by omega)), QQ, RR, NB⟩
  case round =>
    obtain ⟨k, hk, rfl, hall, HA, HB, HW⟩ := hrel
    clear QQ RR NB
    have f10 := (cell_of_row _ _ 10 _ _ _ HA.out).trans qa10.out
    have g10 := (cell_of_row _ _ 10 _ _ _ HB.out).trans qb10.out
    by_cases hlt : k < lc
    · have hk1 : (k : Int) < lc := by omega
      have hk0 : (0 : Int) ≤ k := by omega
      obtain ⟨b1, o1, a1, e1, rfl, hb1, c0, c1, hs1⟩ := (HC.out.below HW.out) k (by rw [HLC.out]; exact hlt)
      obtain ⟨b2, o2, a2, e2, rfl, hb2, d0, d1, hs2⟩ := (HD.out.below HW.out) k (by rw [HLD.out]; exact hlt)
      obtain ⟨v, hv⟩ : ∃ v, C.getD k (0, []) = v := ⟨_, rfl⟩
      obtain ⟨u, hu⟩ : ∃ u, D.getD k (0, []) = u := ⟨_, rfl⟩
      have HV := Lib.hid hv; have HU2 := Lib.hid hu
      rw [hv] at c0 c1 hs1
      rw [hu] at d0 d1 hs2
      obtain ⟨vi, vl⟩ := v
      obtain ⟨ui, ul⟩ := u
      dsimp only at c0 c1 hs1 d0 d1 hs2
      have CV1 : ∀ (q : Nat), (convert 95 9 (.slice a1 vl.length e1)).run Tryd.prog (wr.drewN q) = .ok (.string (mkL vl)) (wr.drewN q) := fun q => hs1 _ (drewN_below (Below.refl _ _) q) _ rfl
      have CV2 : ∀ (q : Nat), (convert 95 9 (.slice a2 ul.length e2)).run Tryd.prog (wr.drewN q) = .ok (.string (mkL ul)) (wr.drewN q) := fun q => hs2 _ (drewN_below (Below.refl _ _) q) _ rfl
      clear hs1 hs2 hv hu
      generalize vl.length = vn at *
      generalize ul.length = un at *
      by_cases hi : vi = ui
      · subst hi
        by_cases he : vl = ul
        · have HALL : Hid (∀ j, j < k + 1 → C.getD j (0, []) = D.getD j (0, [])) := Lib.hid (fun j hj => by
            rcases Nat.lt_succ_iff_lt_or_eq.1 hj with h | rfl
            · exact hall.out j h
            · rw [HV.out, HU2.out, he])
          rw [← he] at CV2
          clear he
          generalize mkL vl = s1 at *
          go_upto_region 6 with fail
          go_quiet (fail)
          go_wp2
          go_roundw
          case rel => exact ⟨k + 1, by omega, by go_num, HALL, Lib.hid (by first | exact HA.out | (rw [← HA.out]; rfl)), Lib.hid (by first | exact HB.out | (rw [← HB.out]; rfl)), Lib.hid (drewN_below HW.out _)⟩
          case measure => (simp [intOf]; try omega)
        · have HF : Hid (R = false) := Lib.hid (by rw [← HR.out, decide_eq_false (fun e => he (by have h := congrArg (fun l => l.getD k (0, [])) e; (try dsimp only at h); rw [HV.out, HU2.out] at h; injection h)), Bool.false_and])
          have h1 := bq_ne he
          have h2 : ((mkL vl).toList == (mkL ul).toList) = false := by rw [mkL_toList ul]; exact h1
          have h3 := mkL_ne he
          clear he h1
          generalize mkL vl = s1 at *
          generalize mkL ul = s2 at *
          go_upto_region 6 with fail
          go_quiet (fail)
          go_wp2
          try go_ret
          rw [HF.out]
          exact ⟨rfl, drewN_below HW.out _⟩
      · have HF : Hid (R = false) := Lib.hid (by rw [← HR.out, decide_eq_false (fun e => hi (by have h := congrArg (fun l => l.getD k (0, [])) e; (try dsimp only at h); rw [HV.out, HU2.out] at h; injection h)), Bool.false_and])
        have g1 := beqF hi
        go_upto_region 6 with fail
        go_quiet (fail)
        go_wp2
        try go_ret
        rw [HF.out]
        exact ⟨rfl, drewN_below HW.out _⟩
    · obtain rfl : k = lc := by omega
      have hmm : ¬ (k : Int) < (k : Int) := by omega
      have HCD : Hid (C = D) := Lib.hid (list_eqD (0, []) (by rw [HLC.out, HLD.out]) (by rw [HLC.out]; exact hall.out))
      have f11 := (cell_of_row _ _ 11 _ _ _ HA.out).trans qa11.out
      have g11 := (cell_of_row _ _ 11 _ _ _ HB.out).trans qb11.out
      go_wp2
      clear f10 g10 f11 g11
      go_loopw [6, 7, 8] (fun iv _ _ wv => ∃ j : Nat, j ≤ ls ∧ iv = .int .i64 (j : Int) ∧ Hid (∀ i, i < j → S.getD i st0 = U.getD i st0) ∧ Hid (wv.heap[w.heap.size]? = some (.cells CA 27 (0, 0))) ∧ Hid (wv.heap[BN]? = some (.cells CB 27 (0, 0))) ∧ Hid (Below w.heap.size w wv)) (fun iv _ _ _ => ls - (intOf iv).toNat)
      case atStart => exact ⟨0, Nat.zero_le _, rfl, Lib.hid (fun j hj => absurd hj (by omega)), HA, HB, HW⟩
      case round =>
        clear HA HB HW
        obtain ⟨j, hj, rfl, hal2, HA, HB, HW⟩ := hrel
        have f11 := (cell_of_row _ _ 11 _ _ _ HA.out).trans qa11.out
        have g11 := (cell_of_row _ _ 11 _ _ _ HB.out).trans qb11.out
        by_cases hlt : j < ls
        · have hk1 : (j : Int) < ls := by omega
          have hk0 : (0 : Int) ≤ j := by omega
          obtain ⟨b1, o1, a1, e1, rfl, hb1, c0, c1, c2, c3, c4, hs1⟩ := (HS.out.below HW.out) j (by rw [HLS.out]; exact hlt)
          obtain ⟨b2, o2, a2, e2, rfl, hb2, d0, d1, d2, d3, d4, hs2⟩ := (HU.out.below HW.out) j (by rw [HLU.out]; exact hlt)
          obtain ⟨v, hv⟩ : ∃ v, S.getD j st0 = v := ⟨_, rfl⟩
          obtain ⟨u, hu⟩ : ∃ u, U.getD j st0 = u := ⟨_, rfl⟩
          have HV := Lib.hid hv; have HU2 := Lib.hid hu
          have hvl := HSL.out _ (getD_memX st0 (by rw [HLS.out]; exact hlt))
          have hul := HUL.out _ (getD_memX st0 (by rw [HLU.out]; exact hlt))
          rw [hv] at c0 c1 c2 c3 c4 hs1 hvl
          rw [hu] at d0 d1 d2 d3 d4 hs2 hul
          obtain ⟨vk, vt, vn, vm, vl⟩ := v
          obtain ⟨uk, ut, un, um, ul⟩ := u
          dsimp only at c0 c1 c2 c3 c4 hs1 d0 d1 d2 d3 d4 hs2 hvl hul
          have BA := below_alloc wr (.cells #[.int .i64 vk, .string (mkL vt), .int .i64 vn, .int .i64 vm, .slice a1 vl.length e1] 38)
          have r0 := heap_alloc_new wr (.cells #[.int .i64 vk, .string (mkL vt), .int .i64 vn, .int .i64 vm, .slice a1 vl.length e1] 38)
          obtain ⟨X, hX⟩ : ∃ X, wr.heap.size = X := ⟨_, rfl⟩
          obtain ⟨W, hW⟩ : ∃ W, wr.alloc (.cells #[.int .i64 vk, .string (mkL vt), .int .i64 vn, .int .i64 vm, .slice a1 vl.length e1] 38) = W := ⟨_, rfl⟩
          rw [hW] at BA r0
          have BB := below_alloc W (.cells #[.int .i64 uk, .string (mkL ut), .int .i64 un, .int .i64 um, .slice a2 ul.length e2] 38)
          have r1 := heap_alloc_new W (.cells #[.int .i64 uk, .string (mkL ut), .int .i64 un, .int .i64 um, .slice a2 ul.length e2] 38)
          obtain ⟨Y, hY⟩ : ∃ Y, W.heap.size = Y := ⟨_, rfl⟩
          obtain ⟨W2, hW2⟩ : ∃ W2, W.alloc (.cells #[.int .i64 uk, .string (mkL ut), .int .i64 un, .int .i64 um, .slice a2 ul.length e2] 38) = W2 := ⟨_, rfl⟩
          rw [hW2] at BB r1
          have BW := seqB (Below.refl _ _) (seqB BA BB)
          have TS := Lib.hid (rtexts_any vl ul a1 a2 vl.length ul.length e1 e2 W2 rfl rfl hvl hul ((hs1.below BA).below BB) ((hs2.below BA).below BB))
          have N1 := Lib.hid (seqB HW.out (seqB BA BB))
          have HA2 := Lib.hid (blk_below (blk_below HA.out BA) BB)
          have HB2 := Lib.hid (blk_below (blk_below HB.out BA) BB)
          have e0 := (BA.cell (p := ⟨b2, o2 + j * 5, none⟩) hb2).trans d0
          have e1' := (BA.cell (p := ⟨b2, o2 + j * 5 + 1, none⟩) hb2).trans d1
          have e2' := (BA.cell (p := ⟨b2, o2 + j * 5 + 2, none⟩) hb2).trans d2
          have e3' := (BA.cell (p := ⟨b2, o2 + j * 5 + 3, none⟩) hb2).trans d3
          have e4' := (BA.cell (p := ⟨b2, o2 + j * 5 + 4, none⟩) hb2).trans d4
          have gg := (cell_of_row _ _ 11 _ _ _ (blk_below HB.out BA)).trans qb11.out
          have r0' := blk_below r0 BB
          rw [hX] at r0'
          rw [hY] at r1
          have yy := fun i => cell_of_row _ _ i _ _ _ r0'
          have zz := fun i => cell_of_row _ _ i _ _ _ r1
          have g0 := yy 0; have g1 := yy 1; have g2 := yy 2; have g3 := yy 3; have g4 := yy 4
          have h0 := zz 0; have h1 := zz 1; have h2 := zz 2; have h3 := zz 3; have h4 := zz 4
          dsimp at g0 g1 g2 g3 g4 h0 h1 h2 h3 h4
          clear yy zz r0 r0' r1 BA BB BW hs1 hs2 hv hu hvl hul d0 d1 d2 d3 d4
          generalize vl.length = vln at *
          generalize ul.length = uln at *
          by_cases hk : vk = uk
          rotate_left
          · have HF : Hid (R = false) := Lib.hid (by rw [← HR.out, decide_eq_false (fun e : S = U => hk (by have h := congrArg (fun l => l.getD j st0) e; (try dsimp only at h); rw [HV.out, HU2.out] at h; simp only [Prod.mk.injEq] at h; exact h.1)), Bool.and_false])
            have k1 := beqF hk
            generalize mkL vt = s1 at *
            generalize mkL ut = s2 at *
            go_wp2
            try go_ret
            rw [HF.out]
            exact ⟨rfl, N1.out⟩
          subst hk
          by_cases ht : vt = ut
          rotate_left
          · have HF : Hid (R = false) := Lib.hid (by rw [← HR.out, decide_eq_false (fun e : S = U => ht (by have h := congrArg (fun l => l.getD j st0) e; (try dsimp only at h); rw [HV.out, HU2.out] at h; simp only [Prod.mk.injEq] at h; exact h.2.1)), Bool.and_false])
            have k1 := bq_ne ht
            have k2 : ((mkL vt).toList == (mkL ut).toList) = false := by rw [mkL_toList ut]; exact k1
            have k3 := mkL_ne ht
            clear ht k1
            generalize mkL vt = s1 at *
            generalize mkL ut = s2 at *
            go_wp2
            try go_ret
            rw [HF.out]
            exact ⟨rfl, N1.out⟩
          subst ht
          generalize mkL vt = s1 at *
          by_cases hn : vn = un
          rotate_left
          · have HF : Hid (R = false) := Lib.hid (by rw [← HR.out, decide_eq_false (fun e : S = U => hn (by have h := congrArg (fun l => l.getD j st0) e; (try dsimp only at h); rw [HV.out, HU2.out] at h; simp only [Prod.mk.injEq] at h; exact h.2.2.1)), Bool.and_false])
            have k1 := beqF hn
            go_wp2
            try go_ret
            rw [HF.out]
            exact ⟨rfl, N1.out⟩
          subst hn
          by_cases hm : vm = um
          rotate_left
          · have HF : Hid (R = false) := Lib.hid (by rw [← HR.out, decide_eq_false (fun e : S = U => hm (by have h := congrArg (fun l => l.getD j st0) e; (try dsimp only at h); rw [HV.out, HU2.out] at h; simp only [Prod.mk.injEq] at h; exact h.2.2.2.1)), Bool.and_false])
            have k1 := beqF hm
            go_wp2
            try go_ret
            rw [HF.out]
            exact ⟨rfl, N1.out⟩
          subst hm
          by_cases hL : vl = ul
          rotate_left
          · have HF : Hid (R = false) := Lib.hid (by rw [← HR.out, decide_eq_false (fun e : S = U => hL (by have h := congrArg (fun l => l.getD j st0) e; (try dsimp only at h); rw [HV.out, HU2.out] at h; simp only [Prod.mk.injEq] at h; exact h.2.2.2.2)), Bool.and_false])
            rw [decide_eq_false hL] at TS
            clear hL
            go_wp2_with (go_at_call 60; refine TS.out.mono ?_; rintro e w3 ⟨rfl, q3, rfl⟩)
            try go_ret
            rw [HF.out]
            exact ⟨rfl, drewN_below N1.out _⟩
          have HALL : Hid (∀ i, i < j + 1 → S.getD i st0 = U.getD i st0) := Lib.hid (fun i hi => by
            rcases Nat.lt_succ_iff_lt_or_eq.1 hi with h | rfl
            · exact hal2.out i h
            · rw [HV.out, HU2.out, hL])
          rw [decide_eq_true hL] at TS
          clear hL
          go_wp2_with (go_at_call 60; refine TS.out.mono ?_; rintro e w3 ⟨rfl, q3, rfl⟩)
          go_roundw
          case rel => exact ⟨j + 1, by omega, by go_num, HALL, Lib.hid (by first | exact HA2.out | (rw [← HA2.out]; rfl)), Lib.hid (by first | exact HB2.out | (rw [← HB2.out]; rfl)), Lib.hid (drewN_below N1.out _)⟩
          case measure => (simp [intOf]; try omega)
        · obtain rfl : j = ls := by omega
          have hmm : ¬ (j : Int) < (j : Int) := by omega
          have HSU : Hid (S = U) := Lib.hid (list_eqD st0 (by rw [HLS.out, HLU.out]) (by rw [HLS.out]; exact hal2.out))
          have HF : Hid (R = true) := Lib.hid (by rw [← HR.out, decide_eq_true HCD.out, decide_eq_true HSU.out]; rfl)
          go_wp2
          try go_ret
          rw [HF.out]
          exact ⟨rfl, HW.out⟩
end Go.Proofs.YtnpiooaiceegmaaDoor
set_option linter.unusedVariables false
set_option linter.unusedSimpArgs false
namespace Go.Proofs.YtnpiooaiceegmaaDoor
open Go.RowKit
set_option maxRecDepth 100000 in
set_option maxHeartbeats 8000000 in
theorem rtext_all (n0 n1 n2 n3 n4 n5 n6 n7 : Int) (vi : Bool) (p : List UInt8) (C : List Crs) (S : List Stp) (ca sa : Option Addr) (nc cc ns sc : Nat) (w : World) (hnc : C.length = nc) (hns : S.length = ns) (hp : p.length ≤ 300000) (hN : ∀ x, x ∈ [n0, n1, n2, n3, n4, n5, n6, n7] → in64 x) (hB : scB4 C S) (hC : CrI w ca C) (hS : SpI w sa S) :
    Calls Tryd.prog 12 #[.agg #[.int .i64 n0, .int .i64 n1, .int .i64 n2, .int .i64 n3, .int .i64 n4, .int .i64 n5, .int .i64 n6, .int .i64 n7, .bool vi, .string (mkL p), .slice ca nc cc, .slice sa ns sc]] w (LnPost ((scT (([n0, n1, n2, n3, n4, n5, n6, n7], vi, p), C, S)).getD []) w) := by
  obtain ⟨f, hf⟩ : ∃ f : Cf, ([n0, n1, n2, n3, n4, n5, n6, n7], vi, p) = f := ⟨_, rfl⟩
  have hf8 : f.1.length = 8 := by rw [← hf]; rfl
  have hfp : f.2.2.length ≤ 300000 := by rw [← hf]; exact hp
  have HD0 := fun w => rhead_any n0 n1 n2 n3 n4 n5 n6 n7 vi p w (hN _ (by simp)) (hN _ (by simp)) (hN _ (by simp)) (hN _ (by simp)) (hN _ (by simp)) (hN _ (by simp)) (hN _ (by simp)) (hN _ (by simp)) hp
  rw [hdT_cfT, hf] at HD0
  have LC := Lib.hid (fun k => laC_len hf8 hfp hB.2.2.1 hB.1 k)
  have LS := Lib.hid (fun k => laS_len4 hf8 hfp hB k)
  rw [hf]
  have b0 := below_alloc w (.cells #[.int .i64 n0, .int .i64 n1, .int .i64 n2, .int .i64 n3, .int .i64 n4, .int .i64 n5, .int .i64 n6, .int .i64 n7, .bool vi, .string (mkL p), .slice ca nc cc, .slice sa ns sc] 27)
  have r0 := heap_alloc_new w (.cells #[.int .i64 n0, .int .i64 n1, .int .i64 n2, .int .i64 n3, .int .i64 n4, .int .i64 n5, .int .i64 n6, .int .i64 n7, .bool vi, .string (mkL p), .slice ca nc cc, .slice sa ns sc] 27)
  obtain ⟨W0, hW0⟩ : ∃ W0, w.alloc (.cells #[.int .i64 n0, .int .i64 n1, .int .i64 n2, .int .i64 n3, .int .i64 n4, .int .i64 n5, .int .i64 n6, .int .i64 n7, .bool vi, .string (mkL p), .slice ca nc cc, .slice sa ns sc] 27) = W0 := ⟨_, rfl⟩
  rw [hW0] at b0 r0
  have N1 := Lib.hid b0
  have R1 := Lib.hid r0
  have HBs := Lib.hid hB
  have HC := Lib.hid hC
  have HS := Lib.hid hS
  have hnc200 : nc ≤ 200 := by have := hB.1; omega
  have hns200 : ns ≤ 400 := by have := hB.2.1; omega
  have HNC := Lib.hid hnc
  have HNS := Lib.hid hns
  have HD : Hid (∀ w, Calls Tryd.prog 52 #[.agg #[.int .i64 n0, .int .i64 n1, .int .i64 n2, .int .i64 n3, .int .i64 n4, .int .i64 n5, .int .i64 n6, .int .i64 n7, .bool vi, .string (mkL p)]] w fun e w' => e = .returned (.string (mkL (cfT f))) ∧ Below w.heap.size w w') := Lib.hid HD0
  have hl0 := LC.out 0
  have S0 : ∀ w, (Op.stringOp .add (mkL (cfT f)) ⟨#[10]⟩).run Tryd.prog w = .ok (.string (mkL (laC f C 0))) w := fun w => by
    rw [laC_0] at hl0 ⊢
    rw [List.length_append] at hl0
    exact tsum_l (cfT f) [10] (by simp only [List.length_cons, List.length_nil]; omega) w
  have zz := fun i => cell_of_row _ _ i _ _ _ r0
  have f0 := zz 0; have f1 := zz 1; have f2 := zz 2; have f3 := zz 3; have f4 := zz 4; have f5 := zz 5; have f6 := zz 6; have f7 := zz 7; have f8 := zz 8; have f9 := zz 9
  dsimp at f0 f1 f2 f3 f4 f5 f6 f7 f8 f9
  generalize mkL (cfT f) = y0 at HD S0
  obtain ⟨SP, hSP⟩ : ∃ SP, LnPost ((scT (f, C, S)).getD []) w = SP := ⟨_, rfl⟩
  rw [hSP]
  have HSP := Lib.hid hSP
  clear zz b0 r0 hSP hB hC hS hnc hns hf8 hfp hp hN HD0 hl0
  go_enter Tryd.func12, Tryd.ntmps12
  go_upto_region 2 with (go_at_call 52; refine (HD.out _).mono ?_; rintro e w2 ⟨rfl, hb2⟩)
  have N2 := Lib.hid (seqB N1.out hb2)
  have R2 := Lib.hid (blk_below R1.out hb2)
  obtain ⟨CF, hCF⟩ : ∃ CF, #[Value.int .i64 n0, .int .i64 n1, .int .i64 n2, .int .i64 n3, .int .i64 n4, .int .i64 n5, .int .i64 n6, .int .i64 n7, .bool vi, .string (mkL p), .slice ca nc cc, .slice sa ns sc] = CF := ⟨_, rfl⟩
  have q10 : CF[10]? = some (.slice ca nc cc) := by rw [← hCF]; rfl
  have q11 : CF[11]? = some (.slice sa ns sc) := by rw [← hCF]; rfl
  rw [hCF] at R2
  have Q10 := Lib.hid q10; have Q11 := Lib.hid q11
  clear hb2 N1 R1 HD S0 hCF q10 q11 f0 f1 f2 f3 f4 f5 f6 f7 f8 f9 hW0
  go_wp2
  go_loopw [3, 4] (fun sv iv wr => ∃ k : Nat, k ≤ nc ∧ iv = .int .i64 (k : Int) ∧ sv = .string (mkL (laC f C k)) ∧ Hid (wr.heap[w.heap.size]? = some (.cells CF 27 (0, 0))) ∧ Hid (Below w.heap.size w wr)) (fun _ iv _ => nc - (intOf iv).toNat)
  case atStart => exact ⟨0, Nat.zero_le _, rfl, rfl, R2, N2⟩
  case round =>
    obtain ⟨k, hk, rfl, rfl, HR, HB⟩ := hrel
    clear N2 R2
    have f10 := (cell_of_row _ _ 10 _ _ _ HR.out).trans Q10.out
    by_cases hlt : k < nc
    · have hk1 : (k : Int) < nc := by omega
      have hk0 : (0 : Int) ≤ k := by omega
      have hlt' : k < C.length := by rw [HNC.out]; exact hlt
      obtain ⟨bb, off, ai, ci, rfl, hblt, c0, c1, hcv⟩ := (HC.out.below HB.out) k hlt'
      have hri := HBs.out.2.2.1 _ (getD_memX (0, []) hlt')
      have htk := laC_succ f C k hlt'
      have hll := LC.out k
      have hl2 := LC.out (k + 1)
      obtain ⟨v, hv⟩ : ∃ v, C.getD k (0, []) = v := ⟨_, rfl⟩
      rw [hv] at c0 c1 hcv hri htk
      obtain ⟨at', keep⟩ := v
      dsimp only at c0 c1 hcv hri
      rw [crLn_txt] at htk
      dsimp only at htk
      rw [htk] at hl2
      simp only [List.length_append] at hl2
      obtain ⟨m, hm⟩ : ∃ m, keep.length = m := ⟨_, rfl⟩
      rw [hm] at c1 hcv
      have CV : ∀ (n : Nat) , (convert 95 9 (.slice ai m ci)).run Tryd.prog (wr.drewN n) = .ok (.string (mkL keep)) (wr.drewN n) := fun n => hcv _ (drewN_below (Below.refl _ _) n) _ rfl
      have D := Lib.hid (fun w => rdec_any at' w hri.1)
      have W := Lib.hid (fun w => rword_ref keep w (by omega))
      have S1 : ∀ w, (Op.stringOp .add (mkL (laC f C k)) ⟨#[99, 114, 97, 115, 104, 32]⟩).run Tryd.prog w = .ok (.string (mkL (laC f C k ++ [99, 114, 97, 115, 104, 32]))) w := fun w => tsum_l _ [99, 114, 97, 115, 104, 32] (by simp only [List.length_append, List.length_cons, List.length_nil] at hl2 ⊢; omega) w
      have S2 : ∀ w, (Op.stringOp .add (mkL (laC f C k ++ [99, 114, 97, 115, 104, 32])) (mkL (decS at'))).run Tryd.prog w = .ok (.string (mkL (laC f C k ++ [99, 114, 97, 115, 104, 32] ++ decS at'))) w := fun w => tsum_l _ _ (by simp only [List.length_append, List.length_cons, List.length_nil] at hl2 ⊢; omega) w
      have S3 : ∀ w, (Op.stringOp .add (mkL (laC f C k ++ [99, 114, 97, 115, 104, 32] ++ decS at')) ⟨#[32]⟩).run Tryd.prog w = .ok (.string (mkL (laC f C k ++ [99, 114, 97, 115, 104, 32] ++ decS at' ++ [32]))) w := fun w => tsum_l _ [32] (by simp only [List.length_append, List.length_cons, List.length_nil] at hl2 ⊢; omega) w
      have S4 : ∀ w, (Op.stringOp .add (mkL (laC f C k ++ [99, 114, 97, 115, 104, 32] ++ decS at' ++ [32])) (mkL (wdL keep))).run Tryd.prog w = .ok (.string (mkL (laC f C k ++ [99, 114, 97, 115, 104, 32] ++ decS at' ++ [32] ++ wdL keep))) w := fun w => tsum_l _ _ (by simp only [List.length_append, List.length_cons, List.length_nil] at hl2 ⊢; omega) w
      have S5 : ∀ w, (Op.stringOp .add (mkL (laC f C k ++ [99, 114, 97, 115, 104, 32] ++ decS at' ++ [32] ++ wdL keep)) ⟨#[10]⟩).run Tryd.prog w = .ok (.string (mkL (laC f C (k + 1)))) w := fun w => by
        rw [htk]
        exact tsum_l _ [10] (by simp only [List.length_append, List.length_cons, List.length_nil] at hl2 ⊢; omega) w
      obtain ⟨Y, hY⟩ : ∃ Y, mkL (laC f C (k + 1)) = Y := ⟨_, rfl⟩
      have HY := Lib.hid hY
      rw [hY] at S5
      clear hY htk hl2 hll hcv hri hv hm
      obtain ⟨y1, e1⟩ : ∃ y, mkL (laC f C k ++ [99, 114, 97, 115, 104, 32]) = y := ⟨_, rfl⟩
      obtain ⟨y2, e2⟩ : ∃ y, mkL (laC f C k ++ [99, 114, 97, 115, 104, 32] ++ decS at') = y := ⟨_, rfl⟩
      obtain ⟨y3, e3⟩ : ∃ y, mkL (laC f C k ++ [99, 114, 97, 115, 104, 32] ++ decS at' ++ [32]) = y := ⟨_, rfl⟩
      obtain ⟨y4, e4⟩ : ∃ y, mkL (laC f C k ++ [99, 114, 97, 115, 104, 32] ++ decS at' ++ [32] ++ wdL keep) = y := ⟨_, rfl⟩
      rw [e1] at S1 S2
      rw [e2] at S2 S3
      rw [e3] at S3 S4
      rw [e4] at S4 S5
      clear e1 e2 e3 e4
      generalize mkL (laC f C k) = yk at *
      generalize mkL (decS at') = dv at *
      generalize mkL (wdL keep) = wv at *
      generalize mkL keep = kv at *
      clear hlt'
      go_upto_region 5 with fail
      go_quiet ((first | (go_at_call 53; (with_reducible refine qsyU (D.out _) ?_); exact ⟨_, rfl⟩) | (go_at_call 54; (with_reducible refine qsyU (W.out _) ?_); exact ⟨_, rfl⟩)))
      go_wp2
      go_roundw
      case rel => exact ⟨k + 1, by omega, by go_num, by rw [HY.out], Lib.hid (by first | exact HR.out | (rw [← HR.out]; rfl)), Lib.hid (drewN_below HB.out _)⟩
      case measure => (simp [intOf]; try omega)
    · obtain rfl : k = nc := by omega
      have hmm : ¬ (k : Int) < (k : Int) := by omega
      have HE := Lib.hid (laC_end f C S k HNC.out)
      have f11 := (cell_of_row _ _ 11 _ _ _ HR.out).trans Q11.out
      rw [HE.out]
      generalize hy : mkL (laS f C S 0) = yz
      have HYZ := Lib.hid hy
      clear hy
      go_wp2
      clear f10 f11
      go_loopw [3, 5, 6] (fun sv iv _ wv => ∃ j : Nat, j ≤ ns ∧ iv = .int .i64 (j : Int) ∧ sv = .string (mkL (laS f C S j)) ∧ Hid (∀ i, i < j → (stLn (S.getD i st0)).isSome = true) ∧ Hid (wv.heap[w.heap.size]? = some (.cells CF 27 (0, 0))) ∧ Hid (Below w.heap.size w wv)) (fun _ iv _ _ => ns - (intOf iv).toNat)
      case atStart => exact ⟨0, Nat.zero_le _, rfl, by rw [HYZ.out], Lib.hid (fun i hi => absurd hi (by omega)), HR, HB⟩
      case round =>
        clear HR HB
        obtain ⟨j, hj, rfl, rfl, hall, HR, HB⟩ := hrel
        have f11 := (cell_of_row _ _ 11 _ _ _ HR.out).trans Q11.out
        by_cases hlt : j < ns
        · have hk1 : (j : Int) < ns := by omega
          have hk0 : (0 : Int) ≤ j := by omega
          have hlt' : j < S.length := by rw [HNS.out]; exact hlt
          obtain ⟨bb, off, ai, ci, rfl, hblt, c0, c1, c2, c3, c4, hsi⟩ := (HS.out.below HB.out) j hlt'
          have hmem := getD_memX st0 hlt'
          have hri := HBs.out.2.2.2 _ hmem
          have htk := laS_succ f C S j hlt'
          have hll := LS.out (j + 1)
          obtain ⟨v, hv⟩ : ∃ v, S.getD j st0 = v := ⟨_, rfl⟩
          have HV := Lib.hid hv
          have HM := Lib.hid hmem
          rw [hv] at c0 c1 c2 c3 c4 hsi hri htk
          obtain ⟨kk, tt, nn, mm, ll⟩ := v
          dsimp only at c0 c1 c2 c3 c4 hsi
          have TX0 := rline_all (kk, tt, nn, mm, ll) ai ci wr hri hsi
          unfold tsV LnPost at TX0
          dsimp only at TX0
          obtain ⟨m, hm⟩ : ∃ m, ll.length = m := ⟨_, rfl⟩
          rw [hm] at c4 TX0
          have TX := Lib.hid TX0
          cases hl : stLn (kk, tt, nn, mm, ll) with
          | none =>
            have hno : Hid (scT (f, C, S) = none) := Lib.hid (sc_no (x := (kk, tt, nn, mm, ll)) (by rw [← HV.out]; exact HM.out) hl)
            rw [show stLs (kk, tt, nn, mm, ll) = [] by unfold stLs; rw [hl]; rfl] at TX
            have TXn : Hid (Calls Tryd.prog 16 #[.agg #[.int .i64 kk, .string (mkL tt), .int .i64 nn, .int .i64 mm, .slice ai m ci]] wr fun e w' => e = .returned (.string ⟨#[]⟩) ∧ Below wr.heap.size wr w') := TX
            clear htk hll hri hv hm hl hmem hsi TX0 hlt' TX HM HV
            go_wp2_with (go_at_call 16; refine TXn.out.mono ?_; rintro e w2 ⟨rfl, hb2⟩; have N2 := Lib.hid (seqB HB.out hb2); clear hb2)
            try go_ret
            rw [← HSP.out, hno.out]
            exact ⟨rfl, N2.out⟩
          | some l =>
            rw [show stLs (kk, tt, nn, mm, ll) = l by unfold stLs; rw [hl]; rfl] at htk TX
            rw [htk] at hll
            simp only [List.length_append] at hll
            have hne := stLn_ne hl
            have S1 : ∀ w, (Op.stringOp .add (mkL (laS f C S j)) (mkL l)).run Tryd.prog w = .ok (.string (mkL (laS f C S j ++ l))) w := fun w => tsum_l _ _ (by simp only [List.length_append, List.length_cons, List.length_nil] at hll ⊢; omega) w
            have S2 : ∀ w, (Op.stringOp .add (mkL (laS f C S j ++ l)) ⟨#[10]⟩).run Tryd.prog w = .ok (.string (mkL (laS f C S (j + 1)))) w := fun w => by
              rw [htk, ← List.append_assoc]
              exact tsum_l _ [10] (by simp only [List.length_append, List.length_cons, List.length_nil] at hll ⊢; omega) w
            obtain ⟨Y, hY⟩ : ∃ Y, mkL (laS f C S (j + 1)) = Y := ⟨_, rfl⟩
            have HY := Lib.hid hY
            rw [hY] at S2
            have g1 := (mkL_ne hne : ¬ mkL l = mkL [])
            have g2 : (mkL l).toList.isEmpty = false := by
              rw [mkL_toList]
              cases l with
              | nil => exact absurd rfl hne
              | cons a b => rfl
            have g3 : ¬ (mkL l).toList = [] := by rw [mkL_toList]; exact hne
            have HAL : Hid (∀ i, i < j + 1 → (stLn (S.getD i st0)).isSome = true) := Lib.hid (fun i hi => by
              rcases Nat.lt_succ_iff_lt_or_eq.1 hi with h | rfl
              · exact hall.out i h
              · rw [HV.out, hl]; rfl)
            clear hY htk hll hri hv hm hl hmem hsi TX0 hne hlt'
            generalize mkL (laS f C S j ++ l) = y1 at *
            generalize mkL (laS f C S j) = y0 at *
            generalize mkL l = lv at *
            go_wp2_with (go_at_call 16; refine TX.out.mono ?_; rintro e w2 ⟨rfl, hb2⟩; have N2 := Lib.hid (seqB HB.out hb2); have R2 := Lib.hid (blk_below HR.out hb2); clear hb2 TX)
            go_roundw
            case rel => exact ⟨j + 1, by omega, by go_num, by rw [HY.out], HAL, R2, N2⟩
            case measure => (simp [intOf]; try omega)
        · obtain rfl : j = ns := by omega
          have hmm : ¬ (j : Int) < (j : Int) := by omega
          have HF : Hid ((scT (f, C, S)).getD [] = laS f C S j) := Lib.hid (by rw [sc_yes (by rw [HNS.out]; exact hall.out), HNS.out]; rfl)
          generalize hy : mkL (laS f C S j) = yy
          have HYY := Lib.hid hy
          clear hy
          go_wp2
          rw [← HSP.out]
          exact ⟨by rw [HF.out, HYY.out], HB.out⟩
end Go.Proofs.YtnpiooaiceegmaaDoor
