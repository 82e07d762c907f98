/-
  Joined: Tp31 Tp32 Tp33 Tp34.
-/
import Derived.Test.YtnpiooaiceegmaaDoorJW17
import Derived.Deep.AppendLies
import Derived.Deep.RegionLaw
set_option linter.unusedVariables false
set_option linter.unusedSimpArgs false
set_option maxRecDepth 100000
set_option linter.unusedVariables false
set_option linter.unusedSimpArgs false
namespace Go.Proofs.YtnpiooaiceegmaaDoor
open Go.RowKit
theorem bd_two {a : Prop} [Decidable a] {e : Int} {c : Prop} [Decidable c] (h : a ↔ (e = 0 ∧ c)) : decide a = (!bdN false e && decide c) := by
  unfold bdN
  by_cases h1 : e = 0
  · subst h1
    rw [Bool.eq_iff_iff, decide_eq_true_eq, h]
    simp
  · rw [decide_eq_false (fun x => h1 (h.1 x).1), beqF h1]; rfl
theorem bd_three {a : Prop} [Decidable a] {e f : Int} {c : Prop} [Decidable c] (h : a ↔ (e = 0 ∧ f = 0 ∧ c)) : decide a = (!bdN (bdN false e) f && decide c) := by
  unfold bdN
  by_cases h1 : e = 0
  · subst h1
    by_cases h2 : f = 0
    · subst h2
      rw [Bool.eq_iff_iff, decide_eq_true_eq, h]
      simp
    · rw [decide_eq_false (fun x => h2 (h.1 x).2.1), beqF h2]; rfl
  · rw [decide_eq_false (fun x => h1 (h.1 x).1), beqF h1]; rfl
set_option maxRecDepth 100000 in
set_option maxHeartbeats 8000000 in
theorem tstepof_by (l : List UInt8) (w : World) (hl : l.length ≤ 300000) (h0 : wA (pcB 32 l) 0 = byW) : Calls Tryd.prog 69 #[.string (mkL l)] w (SoPost (rdS (pcB 32 l)) w) := by
  have b0 := below_alloc w (.cells #[.int .i64 0, .string ⟨#[]⟩, .int .i64 0, .int .i64 0, .slice none 0 0] 38)
  have r0 := heap_alloc_new w (.cells #[.int .i64 0, .string ⟨#[]⟩, .int .i64 0, .int .i64 0, .slice none 0 0] 38)
  obtain ⟨W0, hW0⟩ : ∃ W0, w.alloc (.cells #[.int .i64 0, .string ⟨#[]⟩, .int .i64 0, .int .i64 0, .slice none 0 0] 38) = W0 := ⟨_, rfl⟩
  rw [hW0] at b0 r0
  have RD := Lib.hid (treader_any l W0 hl)
  have hM := Lib.hid (pcB_le hl)
  generalize pcB 32 l = P at *
  have B0 := Lib.hid b0
  have R0 := Lib.hid r0
  have H0 := Lib.hid h0
  clear b0 r0 hl h0
  obtain ⟨T, hT⟩ : ∃ T, w.heap.size = T := ⟨_, rfl⟩
  go_enter Tryd.func69, Tryd.ntmps69
  go_upto_region 2 with (go_at_call 116; refine RD.out.mono ?_; rintro e w1 ⟨g, q, r, rfl, hw1, hg1, hb1⟩)
  have X1 := rlS_new R0.out B0.out hw1 hg1 hb1
  rw [hT] at X1
  have HX1 := Lib.hid X1
  clear hw1 hg1 hb1 X1 hW0
  go_upto_region 3 with fail
  have X1 := HX1.out
  obtain ⟨X, hX⟩ : ∃ X, w1.heap.size = X := ⟨_, rfl⟩
  have hrX : r < X := by rw [← hX]; exact X1.qlt.2.2.2
  have hqX : X ≠ q := by have := X1.qlt; omega
  have b2 := below_alloc w1 (.cells #[.int .i64 0, .string ⟨#[]⟩, .int .i64 0, .int .i64 0, .slice none 0 0] 38)
  have r2 := heap_alloc_new w1 (.cells #[.int .i64 0, .string ⟨#[]⟩, .int .i64 0, .int .i64 0, .slice none 0 0] 38)
  obtain ⟨W2, hW2⟩ : ∃ W2, w1.alloc (.cells #[.int .i64 0, .string ⟨#[]⟩, .int .i64 0, .int .i64 0, .slice none 0 0] 38) = W2 := ⟨_, rfl⟩
  rw [hW2] at b2 r2 ⊢
  rw [hX] at r2 ⊢
  have X2 := X1.below b2
  have NX0 := tnext_any g q r P 0 false W2 X2.rd
  rw [H0.out] at NX0
  have NX : Hid (Calls Tryd.prog 166 #[.pointer (some ⟨r, 0, none⟩)] W2 fun e w' => e = .returned (.string ⟨#[98, 121, 116, 101, 115]⟩) ∧ WrS g q r P (0 + 1) false w' ∧ KeepB W2.heap.size q W2 w') := Lib.hid NX0
  have HX2 := Lib.hid X2
  have R2 := Lib.hid r2
  have HrX := Lib.hid hrX
  have HqX := Lib.hid hqX
  clear X1 X2 b2 r2 hrX hqX NX0 hX hW2 HX1
  go_upto_region 6 with (go_at_call 166; refine NX.out.mono ?_; rintro e w3 ⟨rfl, hw3, hk3⟩; have X3 := Lib.hid (HX2.out.step hw3 hk3); have RX3 := Lib.hid (kb_blk R2.out HqX.out hk3); clear hw3 hk3)
  have TXT := Lib.hid (ttxt_any g q r P 1 false w3 X3.out.rd hM.out)
  have HE : rdS P = (if uwE (wA P 1) = 0 ∧ P.length ≤ 2 then some (((0 : Int), uwS (wA P 1), (0 : Int), (0 : Int), ([] : List (List UInt8))) : Stp) else none) := by rw [rdS_at, H0.out, if_pos rfl]
  have HR := so_if (c := uwE (wA P 1) = 0 ∧ P.length ≤ 2) (x := ((0, uwS (wA P 1), 0, 0, []) : Stp)) (b := !bdN false (uwE (wA P 1)) && decide (P.length ≤ 1 + 1)) (bd_two Iff.rfl)
  rw [← HE] at HR
  obtain ⟨bd, hbd⟩ : ∃ bd, bdN false (uwE (wA P 1)) = bd := ⟨_, rfl⟩
  obtain ⟨tx, htx⟩ : ∃ tx, uwS (wA P 1) = tx := ⟨_, rfl⟩
  rw [hbd] at HR TXT
  rw [htx] at HR TXT
  have HOK := Lib.hid HR.1
  have HV := Lib.hid HR.2
  clear HR HE hbd htx
  go_upto_region 25 with (go_at_call 118; refine TXT.out.mono ?_; rintro e w5 ⟨rfl, hw5, hk5⟩; have X5 := Lib.hid (X3.out.step hw5 hk5); have RX5 := Lib.hid (kb_blk RX3.out HqX.out hk5); have y1 := cell_of_row _ _ 1 _ _ _ RX5.out; have z1 := frozen_of_row _ X 1 _ _ RX5.out; dsimp at y1; clear hw5 hk5)
  have X7 := X5.out.set HrX.out 1 (.string (mkL tx))
  have R7 : (w5.setCell ⟨X, 1, none⟩ (.string (mkL tx))).heap[X]? = some (.cells #[.int .i64 0, .string (mkL tx), .int .i64 0, .int .i64 0, .slice none 0 0] 38 (0, 0)) := blk_set RX5.out 1 (.string (mkL tx))
  obtain ⟨W7, hW7⟩ : ∃ W7, w5.setCell ⟨X, 1, none⟩ (.string (mkL tx)) = W7 := ⟨_, rfl⟩
  rw [hW7] at X7 R7 ⊢
  clear hW7 y1 z1 X5 RX5 X3 RX3 TXT
  have xx := fun i => cell_of_row _ _ i _ _ _ R7
  have x0 := xx 0; have x1 := xx 1; have x2 := xx 2; have x3 := xx 3; have x4 := xx 4
  dsimp at x0 x1 x2 x3 x4
  have hres := X7.res
  have tt := fun i => cell_of_row _ _ i _ _ _ hres
  have t0 := tt 0; have t1 := tt 1; have t2 := tt 2; have t3 := tt 3; have t4 := tt 4
  dsimp at t0 t1 t2 t3 t4
  have zf := fun i => frozen_of_row _ T i _ _ hres
  have DN := Lib.hid (tdone_any g q r P (1 + 1) bd W7.drew X7.drew.rd)
  rw [← HOK.out] at DN
  have BF := Lib.hid (set5_below X7.bl X7.lt.1 (.int .i64 0) (.string (mkL tx)) (.int .i64 0) (.int .i64 0) (.slice none 0 0))
  have RF := Lib.hid (set5_res hres (.int .i64 0) (.string (mkL tx)) (.int .i64 0) (.int .i64 0) (.slice none 0 0))
  have OF : Hid (owS (set5 W7 T (.int .i64 0) (.string (mkL tx)) (.int .i64 0) (.int .i64 0) (.slice none 0 0)).drew 0 (.slice none 0 0) []) := Lib.hid (World.ownsRow_nil _ _ _ _)
  clear xx tt hres R7 X7 HX2 R2 NX hM HrX HqX
  generalize hmt : mkL tx = mt at *
  have HMT := Lib.hid hmt
  clear hmt
  go_region_with (go_at_call 119; refine DN.out.mono ?_; rintro e w9 ⟨rfl, rfl⟩)
  all_goals
    clear zf t0 t1 t2 t3 t4 x0 x1 x2 x3 x4
    simp only [Act.put, List.getElem_toArray, List.getElem_cons_zero, List.getElem_cons_succ, List.setIfInBounds_toArray, List.set_cons_zero, List.set_cons_succ]
    go_wp2
    have RF' := RF.out
    have BF' := BF.out
    have OF' := OF.out
    unfold set5 at RF' BF' OF'
    generalize World.setCell _ _ _ = WF at *
    have kk := fun i => cell_of_row _ _ i _ _ _ RF'
    have k0 := kk 0; have k1 := kk 1; have k2 := kk 2; have k3 := kk 3; have k4 := kk 4
    dsimp at k0 k1 k2 k3 k4
    refine bodyPost_ret (v := .tuple #[.agg #[.int .i64 0, .string mt, .int .i64 0, .int .i64 0, .slice none 0 0], .bool (rdS P).isSome]) (by simp [results, Tryd.results69, go_sem, k0, k1, k2, k3, k4]) rfl ?_
    exact sopost_any HMT.out HV.out OF' BF'.drew
set_option maxRecDepth 100000 in
set_option maxHeartbeats 8000000 in
theorem tstepof_re (l : List UInt8) (w : World) (hl : l.length ≤ 300000) (h0 : wA (pcB 32 l) 0 = reW) : Calls Tryd.prog 69 #[.string (mkL l)] w (SoPost (rdS (pcB 32 l)) w) := by
  have b0 := below_alloc w (.cells #[.int .i64 0, .string ⟨#[]⟩, .int .i64 0, .int .i64 0, .slice none 0 0] 38)
  have r0 := heap_alloc_new w (.cells #[.int .i64 0, .string ⟨#[]⟩, .int .i64 0, .int .i64 0, .slice none 0 0] 38)
  obtain ⟨W0, hW0⟩ : ∃ W0, w.alloc (.cells #[.int .i64 0, .string ⟨#[]⟩, .int .i64 0, .int .i64 0, .slice none 0 0] 38) = W0 := ⟨_, rfl⟩
  rw [hW0] at b0 r0
  have RD := Lib.hid (treader_any l W0 hl)
  have hM := Lib.hid (pcB_le hl)
  generalize pcB 32 l = P at *
  have B0 := Lib.hid b0
  have R0 := Lib.hid r0
  have H0 := Lib.hid h0
  clear b0 r0 hl h0
  obtain ⟨T, hT⟩ : ∃ T, w.heap.size = T := ⟨_, rfl⟩
  go_enter Tryd.func69, Tryd.ntmps69
  go_upto_region 2 with (go_at_call 116; refine RD.out.mono ?_; rintro e w1 ⟨g, q, r, rfl, hw1, hg1, hb1⟩)
  have X1 := rlS_new R0.out B0.out hw1 hg1 hb1
  rw [hT] at X1
  have HX1 := Lib.hid X1
  clear hw1 hg1 hb1 X1 hW0
  go_upto_region 3 with fail
  have X1 := HX1.out
  obtain ⟨X, hX⟩ : ∃ X, w1.heap.size = X := ⟨_, rfl⟩
  have hrX : r < X := by rw [← hX]; exact X1.qlt.2.2.2
  have hqX : X ≠ q := by have := X1.qlt; omega
  have b2 := below_alloc w1 (.cells #[.int .i64 0, .string ⟨#[]⟩, .int .i64 0, .int .i64 0, .slice none 0 0] 38)
  have r2 := heap_alloc_new w1 (.cells #[.int .i64 0, .string ⟨#[]⟩, .int .i64 0, .int .i64 0, .slice none 0 0] 38)
  obtain ⟨W2, hW2⟩ : ∃ W2, w1.alloc (.cells #[.int .i64 0, .string ⟨#[]⟩, .int .i64 0, .int .i64 0, .slice none 0 0] 38) = W2 := ⟨_, rfl⟩
  rw [hW2] at b2 r2 ⊢
  rw [hX] at r2 ⊢
  have X2 := X1.below b2
  have NX0 := tnext_any g q r P 0 false W2 X2.rd
  rw [H0.out] at NX0
  have NX : Hid (Calls Tryd.prog 166 #[.pointer (some ⟨r, 0, none⟩)] W2 fun e w' => e = .returned (.string ⟨#[114, 101, 115, 105, 122, 101]⟩) ∧ WrS g q r P (0 + 1) false w' ∧ KeepB W2.heap.size q W2 w') := Lib.hid NX0
  have HX2 := Lib.hid X2
  have R2 := Lib.hid r2
  have HrX := Lib.hid hrX
  have HqX := Lib.hid hqX
  clear X1 X2 b2 r2 hrX hqX NX0 hX hW2 HX1
  go_upto_region 11 with (go_at_call 166; refine NX.out.mono ?_; rintro e w3 ⟨rfl, hw3, hk3⟩; have X3 := Lib.hid (HX2.out.step hw3 hk3); have RX3 := Lib.hid (kb_blk R2.out HqX.out hk3); have y0 := cell_of_row _ _ 0 _ _ _ RX3.out; have z0 := frozen_of_row _ X 0 _ _ RX3.out; dsimp at y0; clear hw3 hk3)
  have X4 := Lib.hid (X3.out.set HrX.out 0 (.int .i64 2))
  have R4 : Hid ((w3.setCell ⟨X, 0, none⟩ (.int .i64 2)).heap[X]? = some (.cells #[.int .i64 2, .string ⟨#[]⟩, .int .i64 0, .int .i64 0, .slice none 0 0] 38 (0, 0))) := Lib.hid (blk_set RX3.out 0 (.int .i64 2))
  obtain ⟨W4, hW4⟩ : ∃ W4, w3.setCell ⟨X, 0, none⟩ (.int .i64 2) = W4 := ⟨_, rfl⟩
  rw [hW4] at X4 R4 ⊢
  clear hW4 y0 z0 X3 RX3
  have NB1 := Lib.hid (tnumber_any g q r P 1 false W4 X4.out.rd hM.out)
  have HE : rdS P = (if undE (wA P 1) = 0 ∧ undE (wA P 2) = 0 ∧ P.length ≤ 3 then some (((2 : Int), ([] : List UInt8), undR (wA P 1), undR (wA P 2), ([] : List (List UInt8))) : Stp) else none) := by rw [rdS_at, H0.out, if_neg (by decide), if_neg (by decide), if_pos rfl]
  have HR := so_if (c := undE (wA P 1) = 0 ∧ undE (wA P 2) = 0 ∧ P.length ≤ 3) (x := ((2, [], undR (wA P 1), undR (wA P 2), []) : Stp)) (b := !bdN (bdN false (undE (wA P 1))) (undE (wA P 2)) && decide (P.length ≤ 2 + 1)) (bd_three Iff.rfl)
  rw [← HE] at HR
  clear HE
  obtain ⟨n1, hn1⟩ : ∃ n1, undR (wA P 1) = n1 := ⟨_, rfl⟩
  rw [hn1] at HR NB1
  obtain ⟨b1, hb1⟩ : ∃ b1, bdN false (undE (wA P 1)) = b1 := ⟨_, rfl⟩
  rw [hb1] at HR NB1
  clear hn1 hb1
  go_upto_region 12 with (go_at_call 117; refine NB1.out.mono ?_; rintro e w5 ⟨rfl, hw5, hk5⟩; have X5 := Lib.hid (X4.out.step hw5 hk5); have RX5 := Lib.hid (kb_blk R4.out HqX.out hk5); have y2 := cell_of_row _ _ 2 _ _ _ RX5.out; have z2 := frozen_of_row _ X 2 _ _ RX5.out; dsimp at y2; clear hw5 hk5)
  have X6 := Lib.hid (X5.out.set HrX.out 2 (.int .i64 n1))
  have R6 : Hid ((w5.setCell ⟨X, 2, none⟩ (.int .i64 n1)).heap[X]? = some (.cells #[.int .i64 2, .string ⟨#[]⟩, .int .i64 n1, .int .i64 0, .slice none 0 0] 38 (0, 0))) := Lib.hid (blk_set RX5.out 2 (.int .i64 n1))
  obtain ⟨W6, hW6⟩ : ∃ W6, w5.setCell ⟨X, 2, none⟩ (.int .i64 n1) = W6 := ⟨_, rfl⟩
  rw [hW6] at X6 R6 ⊢
  clear hW6 y2 z2 X5 RX5 NB1
  have NB2 := Lib.hid (tnumber_any g q r P 2 b1 W6 X6.out.rd hM.out)
  obtain ⟨n2, hn2⟩ : ∃ n2, undR (wA P 2) = n2 := ⟨_, rfl⟩
  rw [hn2] at HR NB2
  obtain ⟨bd, hbd⟩ : ∃ bd, bdN b1 (undE (wA P 2)) = bd := ⟨_, rfl⟩
  rw [hbd] at HR NB2
  have HOK := Lib.hid HR.1
  have HV := Lib.hid HR.2
  clear HR hn2 hbd
  go_upto_region 25 with (go_at_call 117; refine NB2.out.mono ?_; rintro e w8 ⟨rfl, hw8, hk8⟩; have X8 := Lib.hid (X6.out.step hw8 hk8); have RX8 := Lib.hid (kb_blk R6.out HqX.out hk8); have y3 := cell_of_row _ _ 3 _ _ _ RX8.out; have z3 := frozen_of_row _ X 3 _ _ RX8.out; dsimp at y3; clear hw8 hk8)
  have X7 := X8.out.set HrX.out 3 (.int .i64 n2)
  have R7 : (w8.setCell ⟨X, 3, none⟩ (.int .i64 n2)).heap[X]? = some (.cells #[.int .i64 2, .string ⟨#[]⟩, .int .i64 n1, .int .i64 n2, .slice none 0 0] 38 (0, 0)) := blk_set RX8.out 3 (.int .i64 n2)
  obtain ⟨W7, hW7⟩ : ∃ W7, w8.setCell ⟨X, 3, none⟩ (.int .i64 n2) = W7 := ⟨_, rfl⟩
  rw [hW7] at X7 R7 ⊢
  clear hW7 y3 z3 X8 RX8 X6 R6 X4 R4 NB2
  have xx := fun i => cell_of_row _ _ i _ _ _ R7
  have x0 := xx 0; have x1 := xx 1; have x2 := xx 2; have x3 := xx 3; have x4 := xx 4
  dsimp at x0 x1 x2 x3 x4
  have hres := X7.res
  have tt := fun i => cell_of_row _ _ i _ _ _ hres
  have t0 := tt 0; have t1 := tt 1; have t2 := tt 2; have t3 := tt 3; have t4 := tt 4
  dsimp at t0 t1 t2 t3 t4
  have zf := fun i => frozen_of_row _ T i _ _ hres
  have DN := Lib.hid (tdone_any g q r P (2 + 1) bd W7.drew X7.drew.rd)
  rw [← HOK.out] at DN
  have BF := Lib.hid (set5_below X7.bl X7.lt.1 (.int .i64 2) (.string ⟨#[]⟩) (.int .i64 n1) (.int .i64 n2) (.slice none 0 0))
  have RF := Lib.hid (set5_res hres (.int .i64 2) (.string ⟨#[]⟩) (.int .i64 n1) (.int .i64 n2) (.slice none 0 0))
  have OF : Hid (owS (set5 W7 T (.int .i64 2) (.string ⟨#[]⟩) (.int .i64 n1) (.int .i64 n2) (.slice none 0 0)).drew 0 (.slice none 0 0) []) := Lib.hid (World.ownsRow_nil _ _ _ _)
  clear xx tt hres R7 X7 HX2 R2 NX hM HrX HqX
  have HMT : Hid (mkL [] = ⟨#[]⟩) := Lib.hid rfl
  go_region_with (go_at_call 119; refine DN.out.mono ?_; rintro e w9 ⟨rfl, rfl⟩)
  all_goals
    clear zf t0 t1 t2 t3 t4 x0 x1 x2 x3 x4
    simp only [Act.put, List.getElem_toArray, List.getElem_cons_zero, List.getElem_cons_succ, List.setIfInBounds_toArray, List.set_cons_zero, List.set_cons_succ]
    go_wp2
    have RF' := RF.out
    have BF' := BF.out
    have OF' := OF.out
    unfold set5 at RF' BF' OF'
    generalize World.setCell _ _ _ = WF at *
    have kk := fun i => cell_of_row _ _ i _ _ _ RF'
    have k0 := kk 0; have k1 := kk 1; have k2 := kk 2; have k3 := kk 3; have k4 := kk 4
    dsimp at k0 k1 k2 k3 k4
    refine bodyPost_ret (v := .tuple #[.agg #[.int .i64 2, .string ⟨#[]⟩, .int .i64 n1, .int .i64 n2, .slice none 0 0], .bool (rdS P).isSome]) (by simp [results, Tryd.results69, go_sem, k0, k1, k2, k3, k4]) rfl ?_
    exact sopost_any HMT.out HV.out OF' BF'.drew
set_option maxRecDepth 100000 in
set_option maxHeartbeats 8000000 in
theorem tstepof_lo1 (l : List UInt8) (w : World) (hl : l.length ≤ 300000) (h0 : wA (pcB 32 l) 0 = loW) (h1 : (pcB 32 l).length ≤ 1) : Calls Tryd.prog 69 #[.string (mkL l)] w (SoPost (rdS (pcB 32 l)) w) := by
  have b0 := below_alloc w (.cells #[.int .i64 0, .string ⟨#[]⟩, .int .i64 0, .int .i64 0, .slice none 0 0] 38)
  have r0 := heap_alloc_new w (.cells #[.int .i64 0, .string ⟨#[]⟩, .int .i64 0, .int .i64 0, .slice none 0 0] 38)
  obtain ⟨W0, hW0⟩ : ∃ W0, w.alloc (.cells #[.int .i64 0, .string ⟨#[]⟩, .int .i64 0, .int .i64 0, .slice none 0 0] 38) = W0 := ⟨_, rfl⟩
  rw [hW0] at b0 r0
  have RD := Lib.hid (treader_any l W0 hl)
  have hM := Lib.hid (pcB_le hl)
  generalize pcB 32 l = P at *
  have B0 := Lib.hid b0
  have R0 := Lib.hid r0
  have H0 := Lib.hid h0
  clear b0 r0 hl h0
  obtain ⟨T, hT⟩ : ∃ T, w.heap.size = T := ⟨_, rfl⟩
  go_enter Tryd.func69, Tryd.ntmps69
  go_upto_region 2 with (go_at_call 116; refine RD.out.mono ?_; rintro e w1 ⟨g, q, r, rfl, hw1, hg1, hb1⟩)
  have X1 := rlS_new R0.out B0.out hw1 hg1 hb1
  rw [hT] at X1
  have HX1 := Lib.hid X1
  clear hw1 hg1 hb1 X1 hW0
  go_upto_region 3 with fail
  have X1 := HX1.out
  obtain ⟨X, hX⟩ : ∃ X, w1.heap.size = X := ⟨_, rfl⟩
  have hrX : r < X := by rw [← hX]; exact X1.qlt.2.2.2
  have hqX : X ≠ q := by have := X1.qlt; omega
  have b2 := below_alloc w1 (.cells #[.int .i64 0, .string ⟨#[]⟩, .int .i64 0, .int .i64 0, .slice none 0 0] 38)
  have r2 := heap_alloc_new w1 (.cells #[.int .i64 0, .string ⟨#[]⟩, .int .i64 0, .int .i64 0, .slice none 0 0] 38)
  obtain ⟨W2, hW2⟩ : ∃ W2, w1.alloc (.cells #[.int .i64 0, .string ⟨#[]⟩, .int .i64 0, .int .i64 0, .slice none 0 0] 38) = W2 := ⟨_, rfl⟩
  rw [hW2] at b2 r2 ⊢
  rw [hX] at r2 ⊢
  have X2 := X1.below b2
  have NX0 := tnext_any g q r P 0 false W2 X2.rd
  rw [H0.out] at NX0
  have NX : Hid (Calls Tryd.prog 166 #[.pointer (some ⟨r, 0, none⟩)] W2 fun e w' => e = .returned (.string ⟨#[108, 111, 97, 100]⟩) ∧ WrS g q r P (0 + 1) false w' ∧ KeepB W2.heap.size q W2 w') := Lib.hid NX0
  have HX2 := Lib.hid X2
  have R2 := Lib.hid r2
  have HrX := Lib.hid hrX
  have HqX := Lib.hid hqX
  clear X1 X2 b2 r2 hrX hqX NX0 hX hW2 HX1
  go_upto_region 19 with (go_at_call 166; refine NX.out.mono ?_; rintro e w3 ⟨rfl, hw3, hk3⟩; have X3 := Lib.hid (HX2.out.step hw3 hk3); have RX3 := Lib.hid (kb_blk R2.out HqX.out hk3); have y0 := cell_of_row _ _ 0 _ _ _ RX3.out; have z0 := frozen_of_row _ X 0 _ _ RX3.out; dsimp at y0; clear hw3 hk3)
  have X4 := Lib.hid (X3.out.set HrX.out 0 (.int .i64 4))
  have R4 : Hid ((w3.setCell ⟨X, 0, none⟩ (.int .i64 4)).heap[X]? = some (.cells #[.int .i64 4, .string ⟨#[]⟩, .int .i64 0, .int .i64 0, .slice none 0 0] 38 (0, 0))) := Lib.hid (blk_set RX3.out 0 (.int .i64 4))
  obtain ⟨W4, hW4⟩ : ∃ W4, w3.setCell ⟨X, 0, none⟩ (.int .i64 4) = W4 := ⟨_, rfl⟩
  rw [hW4] at X4 R4 ⊢
  clear hW4 y0 z0 X3 RX3
  obtain ⟨la, hq, _⟩ := X4.out.rd.c
  have q0 := cell_of_row _ _ 0 _ _ _ hq
  dsimp at q0
  clear hq
  have HE : rdS P = (if P.length ≤ 1 then some (((4 : Int), ([] : List UInt8), (0 : Int), (0 : Int), ([] : List (List UInt8))) : Stp) else if uwE (wA P 1) = 0 ∧ P.length ≤ 2 then some (((4 : Int), uwS (wA P 1), (1 : Int), (0 : Int), ([] : List (List UInt8))) : Stp) else none) := by rw [rdS_at, H0.out, if_neg (by decide), if_neg (by decide), if_neg (by decide), if_neg (by decide), if_pos rfl]
  rw [if_pos h1] at HE
  have HOK : Hid ((rdS P).isSome = (!false && decide (P.length ≤ 0 + 1))) := Lib.hid (by rw [HE, decide_eq_true (show P.length ≤ 0 + 1 from h1)]; rfl)
  have HV : Hid (∀ s, rdS P = some s → s = (4, [], 0, 0, [])) := Lib.hid (fun s hs => by rw [HE] at hs; exact (Option.some.inj hs).symm)
  rw [show P.length - (0 + 1) = 0 by omega] at q0
  clear HE h1
  go_upto_region 25 with fail
  have X7 := X4.out
  have R7 := R4.out
  obtain ⟨W7, hW7⟩ : ∃ W7, W4 = W7 := ⟨_, rfl⟩
  rw [hW7] at X7 R7 ⊢
  clear hW7 q0 X4 R4
  have xx := fun i => cell_of_row _ _ i _ _ _ R7
  have x0 := xx 0; have x1 := xx 1; have x2 := xx 2; have x3 := xx 3; have x4 := xx 4
  dsimp at x0 x1 x2 x3 x4
  have hres := X7.res
  have tt := fun i => cell_of_row _ _ i _ _ _ hres
  have t0 := tt 0; have t1 := tt 1; have t2 := tt 2; have t3 := tt 3; have t4 := tt 4
  dsimp at t0 t1 t2 t3 t4
  have zf := fun i => frozen_of_row _ T i _ _ hres
  have DN := Lib.hid (tdone_any g q r P (0 + 1) false W7.drew X7.drew.rd)
  rw [← HOK.out] at DN
  have BF := Lib.hid (set5_below X7.bl X7.lt.1 (.int .i64 4) (.string ⟨#[]⟩) (.int .i64 0) (.int .i64 0) (.slice none 0 0))
  have RF := Lib.hid (set5_res hres (.int .i64 4) (.string ⟨#[]⟩) (.int .i64 0) (.int .i64 0) (.slice none 0 0))
  have OF : Hid (owS (set5 W7 T (.int .i64 4) (.string ⟨#[]⟩) (.int .i64 0) (.int .i64 0) (.slice none 0 0)).drew 0 (.slice none 0 0) []) := Lib.hid (World.ownsRow_nil _ _ _ _)
  clear xx tt hres R7 X7 HX2 R2 NX hM HrX HqX
  have HMT : Hid (mkL [] = ⟨#[]⟩) := Lib.hid rfl
  go_region_with (go_at_call 119; refine DN.out.mono ?_; rintro e w9 ⟨rfl, rfl⟩)
  all_goals
    clear zf t0 t1 t2 t3 t4 x0 x1 x2 x3 x4
    simp only [Act.put, List.getElem_toArray, List.getElem_cons_zero, List.getElem_cons_succ, List.setIfInBounds_toArray, List.set_cons_zero, List.set_cons_succ]
    go_wp2
    have RF' := RF.out
    have BF' := BF.out
    have OF' := OF.out
    unfold set5 at RF' BF' OF'
    generalize World.setCell _ _ _ = WF at *
    have kk := fun i => cell_of_row _ _ i _ _ _ RF'
    have k0 := kk 0; have k1 := kk 1; have k2 := kk 2; have k3 := kk 3; have k4 := kk 4
    dsimp at k0 k1 k2 k3 k4
    refine bodyPost_ret (v := .tuple #[.agg #[.int .i64 4, .string ⟨#[]⟩, .int .i64 0, .int .i64 0, .slice none 0 0], .bool (rdS P).isSome]) (by simp [results, Tryd.results69, go_sem, k0, k1, k2, k3, k4]) rfl ?_
    exact sopost_any HMT.out HV.out OF' BF'.drew
set_option maxRecDepth 100000 in
set_option maxHeartbeats 8000000 in
theorem tstepof_lo2 (l : List UInt8) (w : World) (hl : l.length ≤ 300000) (h0 : wA (pcB 32 l) 0 = loW) (h1 : ¬ (pcB 32 l).length ≤ 1) : Calls Tryd.prog 69 #[.string (mkL l)] w (SoPost (rdS (pcB 32 l)) w) := by
  have b0 := below_alloc w (.cells #[.int .i64 0, .string ⟨#[]⟩, .int .i64 0, .int .i64 0, .slice none 0 0] 38)
  have r0 := heap_alloc_new w (.cells #[.int .i64 0, .string ⟨#[]⟩, .int .i64 0, .int .i64 0, .slice none 0 0] 38)
  obtain ⟨W0, hW0⟩ : ∃ W0, w.alloc (.cells #[.int .i64 0, .string ⟨#[]⟩, .int .i64 0, .int .i64 0, .slice none 0 0] 38) = W0 := ⟨_, rfl⟩
  rw [hW0] at b0 r0
  have RD := Lib.hid (treader_any l W0 hl)
  have hM := Lib.hid (pcB_le hl)
  generalize pcB 32 l = P at *
  have B0 := Lib.hid b0
  have R0 := Lib.hid r0
  have H0 := Lib.hid h0
  clear b0 r0 hl h0
  obtain ⟨T, hT⟩ : ∃ T, w.heap.size = T := ⟨_, rfl⟩
  go_enter Tryd.func69, Tryd.ntmps69
  go_upto_region 2 with (go_at_call 116; refine RD.out.mono ?_; rintro e w1 ⟨g, q, r, rfl, hw1, hg1, hb1⟩)
  have X1 := rlS_new R0.out B0.out hw1 hg1 hb1
  rw [hT] at X1
  have HX1 := Lib.hid X1
  clear hw1 hg1 hb1 X1 hW0
  go_upto_region 3 with fail
  have X1 := HX1.out
  obtain ⟨X, hX⟩ : ∃ X, w1.heap.size = X := ⟨_, rfl⟩
  have hrX : r < X := by rw [← hX]; exact X1.qlt.2.2.2
  have hqX : X ≠ q := by have := X1.qlt; omega
  have b2 := below_alloc w1 (.cells #[.int .i64 0, .string ⟨#[]⟩, .int .i64 0, .int .i64 0, .slice none 0 0] 38)
  have r2 := heap_alloc_new w1 (.cells #[.int .i64 0, .string ⟨#[]⟩, .int .i64 0, .int .i64 0, .slice none 0 0] 38)
  obtain ⟨W2, hW2⟩ : ∃ W2, w1.alloc (.cells #[.int .i64 0, .string ⟨#[]⟩, .int .i64 0, .int .i64 0, .slice none 0 0] 38) = W2 := ⟨_, rfl⟩
  rw [hW2] at b2 r2 ⊢
  rw [hX] at r2 ⊢
  have X2 := X1.below b2
  have NX0 := tnext_any g q r P 0 false W2 X2.rd
  rw [H0.out] at NX0
  have NX : Hid (Calls Tryd.prog 166 #[.pointer (some ⟨r, 0, none⟩)] W2 fun e w' => e = .returned (.string ⟨#[108, 111, 97, 100]⟩) ∧ WrS g q r P (0 + 1) false w' ∧ KeepB W2.heap.size q W2 w') := Lib.hid NX0
  have HX2 := Lib.hid X2
  have R2 := Lib.hid r2
  have HrX := Lib.hid hrX
  have HqX := Lib.hid hqX
  clear X1 X2 b2 r2 hrX hqX NX0 hX hW2 HX1
  go_upto_region 19 with (go_at_call 166; refine NX.out.mono ?_; rintro e w3 ⟨rfl, hw3, hk3⟩; have X3 := Lib.hid (HX2.out.step hw3 hk3); have RX3 := Lib.hid (kb_blk R2.out HqX.out hk3); have y0 := cell_of_row _ _ 0 _ _ _ RX3.out; have z0 := frozen_of_row _ X 0 _ _ RX3.out; dsimp at y0; clear hw3 hk3)
  have X4 := Lib.hid (X3.out.set HrX.out 0 (.int .i64 4))
  have R4 : Hid ((w3.setCell ⟨X, 0, none⟩ (.int .i64 4)).heap[X]? = some (.cells #[.int .i64 4, .string ⟨#[]⟩, .int .i64 0, .int .i64 0, .slice none 0 0] 38 (0, 0))) := Lib.hid (blk_set RX3.out 0 (.int .i64 4))
  obtain ⟨W4, hW4⟩ : ∃ W4, w3.setCell ⟨X, 0, none⟩ (.int .i64 4) = W4 := ⟨_, rfl⟩
  rw [hW4] at X4 R4 ⊢
  clear hW4 y0 z0 X3 RX3
  obtain ⟨la, hq, _⟩ := X4.out.rd.c
  have q0 := cell_of_row _ _ 0 _ _ _ hq
  dsimp at q0
  clear hq
  have HE : rdS P = (if P.length ≤ 1 then some (((4 : Int), ([] : List UInt8), (0 : Int), (0 : Int), ([] : List (List UInt8))) : Stp) else if uwE (wA P 1) = 0 ∧ P.length ≤ 2 then some (((4 : Int), uwS (wA P 1), (1 : Int), (0 : Int), ([] : List (List UInt8))) : Stp) else none) := by rw [rdS_at, H0.out, if_neg (by decide), if_neg (by decide), if_neg (by decide), if_neg (by decide), if_pos rfl]
  rw [if_neg h1] at HE
  have TXT := Lib.hid (ttxt_any g q r P 1 false W4 X4.out.rd hM.out)
  have HR := so_if (c := uwE (wA P 1) = 0 ∧ P.length ≤ 2) (x := ((4, uwS (wA P 1), 1, 0, []) : Stp)) (b := !bdN false (uwE (wA P 1)) && decide (P.length ≤ 1 + 1)) (bd_two Iff.rfl)
  rw [← HE] at HR
  obtain ⟨bd, hbd⟩ : ∃ bd, bdN false (uwE (wA P 1)) = bd := ⟨_, rfl⟩
  obtain ⟨tx, htx⟩ : ∃ tx, uwS (wA P 1) = tx := ⟨_, rfl⟩
  rw [hbd] at HR TXT
  rw [htx] at HR TXT
  have HOK := Lib.hid HR.1
  have HV := Lib.hid HR.2
  obtain ⟨pn, hpn⟩ : ∃ pn, P.length - (0 + 1) = pn := ⟨_, rfl⟩
  have hpos : (0 : Int) < (pn : Int) := by omega
  rw [hpn] at q0
  clear HR HE hbd htx hpn h1
  go_upto_region 25 with (go_at_call 118; refine TXT.out.mono ?_; rintro e w5 ⟨rfl, hw5, hk5⟩; have X5 := Lib.hid (X4.out.step hw5 hk5); have RX5 := Lib.hid (kb_blk R4.out HqX.out hk5); have y1 := cell_of_row _ _ 1 _ _ _ RX5.out; have z1 := frozen_of_row _ X 1 _ _ RX5.out; dsimp at y1; have y2 := cell_of_row _ _ 2 _ _ _ RX5.out; have z2 := frozen_of_row _ X 2 _ _ RX5.out; dsimp at y2; clear hw5 hk5)
  have X6 := X5.out.set HrX.out 2 (.int .i64 1)
  have X7 := X6.set HrX.out 1 (.string (mkL tx))
  have R6 : (w5.setCell ⟨X, 2, none⟩ (.int .i64 1)).heap[X]? = some (.cells #[.int .i64 4, .string ⟨#[]⟩, .int .i64 1, .int .i64 0, .slice none 0 0] 38 (0, 0)) := blk_set RX5.out 2 (.int .i64 1)
  have R7 : ((w5.setCell ⟨X, 2, none⟩ (.int .i64 1)).setCell ⟨X, 1, none⟩ (.string (mkL tx))).heap[X]? = some (.cells #[.int .i64 4, .string (mkL tx), .int .i64 1, .int .i64 0, .slice none 0 0] 38 (0, 0)) := blk_set R6 1 (.string (mkL tx))
  obtain ⟨W7, hW7⟩ : ∃ W7, (w5.setCell ⟨X, 2, none⟩ (.int .i64 1)).setCell ⟨X, 1, none⟩ (.string (mkL tx)) = W7 := ⟨_, rfl⟩
  rw [hW7] at X7 R7 ⊢
  clear hW7 y1 z1 y2 z2 X5 RX5 X4 R4 TXT X6 R6 q0 hpos
  have xx := fun i => cell_of_row _ _ i _ _ _ R7
  have x0 := xx 0; have x1 := xx 1; have x2 := xx 2; have x3 := xx 3; have x4 := xx 4
  dsimp at x0 x1 x2 x3 x4
  have hres := X7.res
  have tt := fun i => cell_of_row _ _ i _ _ _ hres
  have t0 := tt 0; have t1 := tt 1; have t2 := tt 2; have t3 := tt 3; have t4 := tt 4
  dsimp at t0 t1 t2 t3 t4
  have zf := fun i => frozen_of_row _ T i _ _ hres
  have DN := Lib.hid (tdone_any g q r P (1 + 1) bd W7.drew X7.drew.rd)
  rw [← HOK.out] at DN
  have BF := Lib.hid (set5_below X7.bl X7.lt.1 (.int .i64 4) (.string (mkL tx)) (.int .i64 1) (.int .i64 0) (.slice none 0 0))
  have RF := Lib.hid (set5_res hres (.int .i64 4) (.string (mkL tx)) (.int .i64 1) (.int .i64 0) (.slice none 0 0))
  have OF : Hid (owS (set5 W7 T (.int .i64 4) (.string (mkL tx)) (.int .i64 1) (.int .i64 0) (.slice none 0 0)).drew 0 (.slice none 0 0) []) := Lib.hid (World.ownsRow_nil _ _ _ _)
  clear xx tt hres R7 X7 HX2 R2 NX hM HrX HqX
  generalize hmt : mkL tx = mt at *
  have HMT := Lib.hid hmt
  clear hmt
  go_region_with (go_at_call 119; refine DN.out.mono ?_; rintro e w9 ⟨rfl, rfl⟩)
  all_goals
    clear zf t0 t1 t2 t3 t4 x0 x1 x2 x3 x4
    simp only [Act.put, List.getElem_toArray, List.getElem_cons_zero, List.getElem_cons_succ, List.setIfInBounds_toArray, List.set_cons_zero, List.set_cons_succ]
    go_wp2
    have RF' := RF.out
    have BF' := BF.out
    have OF' := OF.out
    unfold set5 at RF' BF' OF'
    generalize World.setCell _ _ _ = WF at *
    have kk := fun i => cell_of_row _ _ i _ _ _ RF'
    have k0 := kk 0; have k1 := kk 1; have k2 := kk 2; have k3 := kk 3; have k4 := kk 4
    dsimp at k0 k1 k2 k3 k4
    refine bodyPost_ret (v := .tuple #[.agg #[.int .i64 4, .string mt, .int .i64 1, .int .i64 0, .slice none 0 0], .bool (rdS P).isSome]) (by simp [results, Tryd.results69, go_sem, k0, k1, k2, k3, k4]) rfl ?_
    exact sopost_any HMT.out HV.out OF' BF'.drew
end Go.Proofs.YtnpiooaiceegmaaDoor
set_option linter.unusedVariables false
set_option linter.unusedSimpArgs false
namespace Go.Proofs.YtnpiooaiceegmaaDoor
open Go.RowKit
set_option maxRecDepth 100000 in
set_option maxHeartbeats 8000000 in
theorem tstepof_no (l : List UInt8) (w : World) (hl : l.length ≤ 300000) (hby : wA (pcB 32 l) 0 ≠ byW) (hti : wA (pcB 32 l) 0 ≠ tiW) (hre : wA (pcB 32 l) 0 ≠ reW) (hof : wA (pcB 32 l) 0 ≠ ofW) (hlo : wA (pcB 32 l) 0 ≠ loW) (hsa : wA (pcB 32 l) 0 ≠ saW) (hpo : wA (pcB 32 l) 0 ≠ poW) : Calls Tryd.prog 69 #[.string (mkL l)] w (SoPost (rdS (pcB 32 l)) w) := by
  have b0 := below_alloc w (.cells #[.int .i64 0, .string ⟨#[]⟩, .int .i64 0, .int .i64 0, .slice none 0 0] 38)
  have r0 := heap_alloc_new w (.cells #[.int .i64 0, .string ⟨#[]⟩, .int .i64 0, .int .i64 0, .slice none 0 0] 38)
  obtain ⟨W0, hW0⟩ : ∃ W0, w.alloc (.cells #[.int .i64 0, .string ⟨#[]⟩, .int .i64 0, .int .i64 0, .slice none 0 0] 38) = W0 := ⟨_, rfl⟩
  rw [hW0] at b0 r0
  have RD := Lib.hid (treader_any l W0 hl)
  generalize pcB 32 l = P at *
  have B0 := Lib.hid b0
  have R0 := Lib.hid r0
  have HE : rdS P = none := by rw [rdS_at, if_neg hby, if_neg hti, if_neg hre, if_neg hof, if_neg hlo, if_neg hsa, if_neg hpo]
  have HC := Lib.hid HE
  have eby : ((mkL (wA P 0)).toList == [98, 121, 116, 101, 115]) = false := (teq_no hby).2.2.2.2.1
  have eti : ((mkL (wA P 0)).toList == [116, 105, 99, 107]) = false := (teq_no hti).2.2.2.2.1
  have ere : ((mkL (wA P 0)).toList == [114, 101, 115, 105, 122, 101]) = false := (teq_no hre).2.2.2.2.1
  have eof : ((mkL (wA P 0)).toList == [111, 102, 102, 101, 114]) = false := (teq_no hof).2.2.2.2.1
  have elo : ((mkL (wA P 0)).toList == [108, 111, 97, 100]) = false := (teq_no hlo).2.2.2.2.1
  have esa : ((mkL (wA P 0)).toList == [115, 97, 118, 101]) = false := (teq_no hsa).2.2.2.2.1
  have epo : ((mkL (wA P 0)).toList == [112, 111, 119, 101, 114]) = false := (teq_no hpo).2.2.2.2.1
  clear b0 r0 hl HE hby hti hre hof hlo hsa hpo
  obtain ⟨s0, hs0⟩ : ∃ s0, mkL (wA P 0) = s0 := ⟨_, rfl⟩
  rw [hs0] at eby eti ere eof elo esa epo
  obtain ⟨T, hT⟩ : ∃ T, w.heap.size = T := ⟨_, rfl⟩
  go_enter Tryd.func69, Tryd.ntmps69
  go_upto_region 2 with (go_at_call 116; refine RD.out.mono ?_; rintro e w1 ⟨g, q, r, rfl, hw1, hg1, hb1⟩)
  have X1 := rlS_new R0.out B0.out hw1 hg1 hb1
  rw [hT] at X1
  have HX1 := Lib.hid X1
  clear hw1 hg1 hb1 X1 hW0
  go_upto_region 3 with fail
  have X1 := HX1.out
  have b2 := below_alloc w1 (.cells #[.int .i64 0, .string ⟨#[]⟩, .int .i64 0, .int .i64 0, .slice none 0 0] 38)
  obtain ⟨W2, hW2⟩ : ∃ W2, w1.alloc (.cells #[.int .i64 0, .string ⟨#[]⟩, .int .i64 0, .int .i64 0, .slice none 0 0] 38) = W2 := ⟨_, rfl⟩
  rw [hW2] at b2 ⊢
  have X2 := X1.below b2
  have NX0 := tnext_any g q r P 0 false W2 X2.rd
  rw [hs0] at NX0
  have NX := Lib.hid NX0
  have HX2 := Lib.hid X2
  clear X1 X2 b2 NX0 hW2 HX1 hs0
  go_upto_region 4 with (go_at_call 166; refine NX.out.mono ?_; rintro e w3 ⟨rfl, hw3, hk3⟩)
  have X3 := HX2.out.step hw3 hk3
  have hres := X3.res
  have tt := fun i => cell_of_row _ _ i _ _ _ hres
  have t0 := tt 0; have t1 := tt 1; have t2 := tt 2; have t3 := tt 3; have t4 := tt 4
  dsimp at t0 t1 t2 t3 t4
  have zf := fun i => frozen_of_row _ T i _ _ hres
  have BF := Lib.hid (set5_below X3.bl X3.lt.1 (.int .i64 0) (.string ⟨#[]⟩) (.int .i64 0) (.int .i64 0) (.slice none 0 0))
  have RF := Lib.hid (set5_res hres (.int .i64 0) (.string ⟨#[]⟩) (.int .i64 0) (.int .i64 0) (.slice none 0 0))
  clear hw3 hk3 X3 HX2 NX hres tt
  go_wp2
  have RF' := RF.out
  have BF' := BF.out
  unfold set5 at RF' BF'
  generalize World.setCell _ _ _ = WF at *
  have kk := fun i => cell_of_row _ _ i _ _ _ RF'
  have k0 := kk 0; have k1 := kk 1; have k2 := kk 2; have k3 := kk 3; have k4 := kk 4
  dsimp at k0 k1 k2 k3 k4
  refine bodyPost_ret (v := .tuple #[.agg #[.int .i64 0, .string ⟨#[]⟩, .int .i64 0, .int .i64 0, .slice none 0 0], .bool false]) (by simp [results, Tryd.results69, go_sem, k0, k1, k2, k3, k4]) rfl ?_
  rw [HC.out]
  exact ⟨⟨0, [], 0, 0, none, 0, 0, rfl, fun s hs => (by cases hs)⟩, BF'⟩
end Go.Proofs.YtnpiooaiceegmaaDoor
set_option linter.unusedVariables false
set_option linter.unusedSimpArgs false
namespace Go.Proofs.YtnpiooaiceegmaaDoor
open Go.RowKit
theorem RlS.grown {w0 : World} {T : Nat} {o : Obj} {g q r : Nat} {P : List (List UInt8)} {i : Nat} {bad : Bool} {w w' : World} {row : Option Nat} {B : Nat} (h : RlS w0 T o g q r P i bad w) (hg : w.grownBy w' row) (hr : r < B) (hrow : ∀ k, row = some k → B ≤ k) : RlS w0 T o g q r P i bad w' := by
  have hq := h.qlt
  have hl := h.rd.lt
  have hk : ∀ k, k < B → k < w.heap.size → w'.heap[k]? = w.heap[k]? := fun k hk hk2 => hg.block k hk2 (fun e => by have := hrow k e.symm; omega)
  have h0 := h.lt
  refine ⟨h.rd.kept hg.size (fun k hkk => hk k (by omega) (by omega)), (hk T (by omega) (by omega)).trans h.res, h.lt, ⟨hg.os.trans h.bl.os, hg.tape.trans h.bl.tape, hg.output.trans h.bl.output, Nat.le_trans h.bl.size hg.size, fun k hk1 => (hk k (by omega) (by omega)).trans (h.bl.block k hk1)⟩⟩
theorem owS_keepB {w w' : World} {B q : Nat} {v : Value} {L : List (List UInt8)} {cs : Array Value} {T : TypeId} {fr : Nat × Nat} (h : owS w B v L) (hk : KeepB w.heap.size q w w') (hq : w.heap[q]? = some (.cells cs T fr)) (hT : T ≠ 9) : owS w' B v L :=
  World.ownsRow.kept h (row := some q) ⟨hk.os, hk.tape, hk.output, hk.size, fun k hk1 hk2 => hk.block k hk1 (fun e => hk2 (by rw [e]))⟩ (Or.inr (fun e => own_ne_kind h hq hT e))
theorem owS_set5 {w : World} {B T : Nat} {v : Value} {L : List (List UInt8)} {a0 a1 a2 a3 a4 : Value} {Ty : TypeId} {fr : Nat × Nat} (h : owS w B v L) (hq : w.heap[T]? = some (.cells #[a0, a1, a2, a3, a4] Ty fr)) (hT : Ty ≠ 9) (v0 v1 v2 v3 v4 : Value) : owS (set5 w T v0 v1 v2 v3 v4).drew 0 v L := by
  have q1 := blk_set hq 0 v0
  have q2 := blk_set q1 1 v1
  have q3 := blk_set q2 2 v2
  have q4 := blk_set q3 3 v3
  have o1 := own_set h (a := ⟨T, 0, none⟩) (own_ne_kind h hq hT) v0
  have o2 := own_set o1 (a := ⟨T, 1, none⟩) (own_ne_kind o1 q1 hT) v1
  have o3 := own_set o2 (a := ⟨T, 2, none⟩) (own_ne_kind o2 q2 hT) v2
  have o4 := own_set o3 (a := ⟨T, 3, none⟩) (own_ne_kind o3 q3 hT) v3
  have o5 := own_set o4 (a := ⟨T, 4, none⟩) (own_ne_kind o4 q4 hT) v4
  exact World.ownsRow.mono (own_below o5 (Below.refl _ _).drew) (Nat.zero_le _)
/-- The words read so far; one was none. -/
def ofR (P : List (List UInt8)) (k : Nat) : List (List UInt8) := (P.tail.take k).map uwS
def bdO (P : List (List UInt8)) (k : Nat) : Bool := (P.tail.take k).any fun q => !(uwE q == 0)
theorem tail_wA (P : List (List UInt8)) (k : Nat) (h : k + 1 < P.length) : k < P.tail.length ∧ P.tail[k]? = some (wA P (k + 1)) := by
  cases P with
  | nil => simp at h
  | cons x r =>
    have hk : k < r.length := by simpa using h
    refine ⟨hk, ?_⟩
    show r[k]? = some (r.getD k [])
    rw [List.getD, List.getElem?_eq_getElem hk]; rfl
theorem ofR_succ (P : List (List UInt8)) (k : Nat) (h : k + 1 < P.length) : ofR P (k + 1) = ofR P k ++ [uwS (wA P (k + 1))] ∧ bdO P (k + 1) = bdN (bdO P k) (uwE (wA P (k + 1))) := by
  obtain ⟨h1, h2⟩ := tail_wA P k h
  rw [List.getElem?_eq_getElem h1] at h2
  have h3 := Option.some.inj h2
  unfold ofR bdO bdN
  rw [List.take_succ_eq_append_getElem h1, h3, List.map_append, List.any_append]
  exact ⟨rfl, by simp⟩
theorem ofR_len (P : List (List UInt8)) (k : Nat) (h : k + 1 ≤ P.length) : (ofR P k).length = k := by
  unfold ofR
  rw [List.length_map, List.length_take, List.length_tail]; omega
theorem of_end {P : List (List UInt8)} {k : Nat} (h : k + 1 = P.length) (h0 : wA P 0 = ofW) : (rdS P).isSome = (!bdO P k && decide (P.length ≤ k + 1)) ∧ ∀ s, rdS P = some s → s = (3, [], 0, 0, ofR P k) := by
  have ht : P.tail.take k = P.tail := List.take_of_length_le (by rw [List.length_tail]; omega)
  have HE : rdS P = (if ∀ q ∈ P.tail, uwE q = 0 then some (((3 : Int), ([] : List UInt8), (0 : Int), (0 : Int), P.tail.map uwS) : Stp) else none) := by rw [rdS_at, h0, if_neg (by decide), if_neg (by decide), if_neg (by decide), if_pos rfl]
  have hb : bdO P k = !decide (∀ q ∈ P.tail, uwE q = 0) := by
    unfold bdO
    rw [ht]
    by_cases hc : ∀ q ∈ P.tail, uwE q = 0
    · rw [decide_eq_true hc, List.any_eq_false.2 (fun q hq => by rw [hc q hq]; decide)]; rfl
    · rw [decide_eq_false hc]
      rw [Bool.not_false, List.any_eq_true]
      rcases Classical.not_forall.1 hc with ⟨q, hq⟩
      rcases Classical.not_imp.1 hq with ⟨h1, h2⟩
      exact ⟨q, h1, by rw [beqF h2]; rfl⟩
  have hr : ofR P k = P.tail.map uwS := by unfold ofR; rw [ht]
  rw [HE, hb, hr, decide_eq_true (show P.length ≤ k + 1 by omega)]
  by_cases hc : ∀ q ∈ P.tail, uwE q = 0
  · rw [if_pos hc, decide_eq_true hc]; exact ⟨rfl, fun s e => (Option.some.inj e).symm⟩
  · rw [if_neg hc, decide_eq_false hc]; exact ⟨rfl, fun s e => (by cases e)⟩
def leftN (q : Nat) (w : World) : Nat := match w.cell? ⟨q, 0, none⟩ with
  | some (.slice _ n _) => n
  | _ => 0
theorem leftN_eq {w0 : World} {T : Nat} {o : Obj} {g q r : Nat} {P : List (List UInt8)} {i : Nat} {bad : Bool} {w : World} (h : RlS w0 T o g q r P i bad w) : leftN q w = P.length - i := by
  obtain ⟨a, h1, _⟩ := h.rd.c
  have := cell_of_row _ _ 0 _ _ _ h1
  dsimp at this
  unfold leftN
  rw [this]
set_option maxRecDepth 100000 in
set_option maxHeartbeats 8000000 in
theorem tstepof_of (l : List UInt8) (w : World) (hl : l.length ≤ 300000) (h0 : wA (pcB 32 l) 0 = ofW) : Calls Tryd.prog 69 #[.string (mkL l)] w (SoPost (rdS (pcB 32 l)) w) := by
  have b0 := below_alloc w (.cells #[.int .i64 0, .string ⟨#[]⟩, .int .i64 0, .int .i64 0, .slice none 0 0] 38)
  have r0 := heap_alloc_new w (.cells #[.int .i64 0, .string ⟨#[]⟩, .int .i64 0, .int .i64 0, .slice none 0 0] 38)
  obtain ⟨W0, hW0⟩ : ∃ W0, w.alloc (.cells #[.int .i64 0, .string ⟨#[]⟩, .int .i64 0, .int .i64 0, .slice none 0 0] 38) = W0 := ⟨_, rfl⟩
  rw [hW0] at b0 r0
  have RD := Lib.hid (treader_any l W0 hl)
  have hM := Lib.hid (pcB_le hl)
  have hP1 := Lib.hid (show (pcB 32 l).length ≤ 300001 by have := pcB_len 32 l; omega)
  have hP0 := Lib.hid (show 1 ≤ (pcB 32 l).length by unfold pcB; simp)
  generalize pcB 32 l = P at *
  have B0 := Lib.hid b0
  have R0 := Lib.hid r0
  have H0 := Lib.hid h0
  clear b0 r0 hl h0
  obtain ⟨T, hT⟩ : ∃ T, w.heap.size = T := ⟨_, rfl⟩
  go_enter Tryd.func69, Tryd.ntmps69
  go_upto_region 2 with (go_at_call 116; refine RD.out.mono ?_; rintro e w1 ⟨g, q, r, rfl, hw1, hg1, hb1⟩)
  have X1 := rlS_new R0.out B0.out hw1 hg1 hb1
  rw [hT] at X1
  have HX1 := Lib.hid X1
  clear hw1 hg1 hb1 X1 hW0
  go_upto_region 3 with fail
  have X1 := HX1.out
  obtain ⟨X, hX⟩ : ∃ X, w1.heap.size = X := ⟨_, rfl⟩
  have hrX : r < X := by rw [← hX]; exact X1.qlt.2.2.2
  have hqX : X ≠ q := by have := X1.qlt; omega
  have b2 := below_alloc w1 (.cells #[.int .i64 0, .string ⟨#[]⟩, .int .i64 0, .int .i64 0, .slice none 0 0] 38)
  have r2 := heap_alloc_new w1 (.cells #[.int .i64 0, .string ⟨#[]⟩, .int .i64 0, .int .i64 0, .slice none 0 0] 38)
  obtain ⟨W2, hW2⟩ : ∃ W2, w1.alloc (.cells #[.int .i64 0, .string ⟨#[]⟩, .int .i64 0, .int .i64 0, .slice none 0 0] 38) = W2 := ⟨_, rfl⟩
  rw [hW2] at b2 r2 ⊢
  rw [hX] at r2 ⊢
  have X2 := X1.below b2
  have NX0 := tnext_any g q r P 0 false W2 X2.rd
  rw [H0.out] at NX0
  have NX : Hid (Calls Tryd.prog 166 #[.pointer (some ⟨r, 0, none⟩)] W2 fun e w' => e = .returned (.string ⟨#[111, 102, 102, 101, 114]⟩) ∧ WrS g q r P (0 + 1) false w' ∧ KeepB W2.heap.size q W2 w') := Lib.hid NX0
  have HX2 := Lib.hid X2
  have R2 := Lib.hid r2
  have HrX := Lib.hid hrX
  have HqX := Lib.hid hqX
  clear X1 X2 b2 r2 hrX hqX NX0 hX hW2 HX1
  go_upto_region 15 with (go_at_call 166; refine NX.out.mono ?_; rintro e w3 ⟨rfl, hw3, hk3⟩; have X3 := Lib.hid (HX2.out.step hw3 hk3); have RX3 := Lib.hid (kb_blk R2.out HqX.out hk3); have y0 := cell_of_row _ _ 0 _ _ _ RX3.out; have z0 := frozen_of_row _ X 0 _ _ RX3.out; dsimp at y0; clear hw3 hk3)
  have X4 := Lib.hid (X3.out.set HrX.out 0 (.int .i64 3))
  have R4 : Hid ((w3.setCell ⟨X, 0, none⟩ (.int .i64 3)).heap[X]? = some (.cells #[.int .i64 3, .string ⟨#[]⟩, .int .i64 0, .int .i64 0, .slice none 0 0] 38 (0, 0))) := Lib.hid (blk_set RX3.out 0 (.int .i64 3))
  obtain ⟨W4, hW4⟩ : ∃ W4, w3.setCell ⟨X, 0, none⟩ (.int .i64 3) = W4 := ⟨_, rfl⟩
  rw [hW4] at X4 R4 ⊢
  obtain ⟨B, hB⟩ : ∃ B, W4.heap.size = B := ⟨_, rfl⟩
  have hXB := Lib.hid (show X < B by rw [← hB]; exact blk_lt R4.out)
  have hBW := Lib.hid (show B ≤ W4.heap.size by omega)
  clear hW4 y0 z0 X3 RX3 hB
  obtain ⟨i0, hi, hz0, hz1, hz2⟩ := info_parts infoTS
  have O4 : Hid (owS W4 B (.slice none 0 0) (ofR P 0)) := Lib.hid (World.ownsRow_nil _ _ _ _)
  have hPl := hP1.out
  go_loopw [44] (fun sv wr => ∃ (k : Nat) (av : Option Addr) (cv : Nat), k + 1 ≤ P.length ∧ Hid (RlS w T (.cells #[.int .i64 0, .string ⟨#[]⟩, .int .i64 0, .int .i64 0, .slice none 0 0] 38 (0, 0)) g q r P (k + 1) (bdO P k) wr) ∧ Hid (wr.heap[X]? = some (.cells #[.int .i64 3, .string ⟨#[]⟩, .int .i64 0, .int .i64 0, .slice av k cv] 38 (0, 0))) ∧ Hid (owS wr B (.slice av k cv) (ofR P k)) ∧ Hid (B ≤ wr.heap.size)) (fun _ wr => leftN q wr)
  case atStart => exact ⟨0, none, 0, hP0.out, X4, R4, O4, hBW⟩
  case round =>
    obtain ⟨k, av, cv, hk, HX, RX, HO, HZ⟩ := hrel
    clear X4 R4 O4 hBW
    obtain ⟨la, hq, _⟩ := HX.out.rd.c
    have q0 := cell_of_row _ _ 0 _ _ _ hq
    dsimp at q0
    have HQ := Lib.hid hq
    clear hq
    by_cases hlt : k + 1 < P.length
    · have hpos : (0 : Int) < ((P.length - (k + 1) : Nat) : Int) := by omega
      have LE := Lib.hid (leftN_eq HX.out)
      have hst := ofR_succ P k hlt
      have hol := ofR_len P k (by omega)
      have TXT := Lib.hid (ttxt_any g q r P (k + 1) (bdO P k) wr.drew HX.out.drew.rd hM.out)
      rw [← hst.2] at TXT
      have HS1 := Lib.hid hst.1
      have HLT := Lib.hid hlt
      generalize uwS (wA P (k + 1)) = tx at *
      have y4 := cell_of_row _ _ 4 _ _ _ RX.out
      dsimp at y4
      have HOL := Lib.hid hol
      have hk9 : k ≤ 300001 := by omega
      generalize hpn : P.length - (k + 1) = pn at *
      have HPN := Lib.hid hpn
      clear hpn hst hol hlt hk hPl
      go_upto_region 16 with fail
      go_region_law (first
        | (go_simp; go_at_call 118; refine TXT.out.mono ?_; rintro e w5 ⟨rfl, hw5, hk5⟩
           have X5 := HX.out.drew.step hw5 hk5
           have R5 := kb_blk (w := wr.drew) RX.out HqX.out hk5
           have O5 := owS_keepB (w := wr.drew) HO.out hk5 HQ.out (by decide)
           have Z5 := Lib.hid (Nat.le_trans HZ.out hk5.size)
           have y5 := cell_of_row _ _ 4 _ _ _ R5
           dsimp at y5
           have BA := below_alloc w5 (.cells #[.string (mkL tx)] 9)
           have O6 : Hid ((w5.alloc (.cells #[.string (mkL tx)] 9)).ownsRow B 9 1 (.slice av k cv) k ((ofR P k).map fun x => Value.string (mkL x))) := Lib.hid (by
             have h := owS_below O5 BA
             unfold owS at h
             rw [HOL.out] at h
             exact h)
           have R6 := Lib.hid (blk_below R5 BA)
           have X6 := Lib.hid (X5.below BA)
           have y6 := cell_of_row _ _ 4 _ _ _ R6.out
           dsimp at y6
           clear hw5 hk5 X5 R5 O5 BA)
        | (refine step_append_lies _ (by rfl) _ _ 36 (by rfl) B 9 i0 _ 1 16 Tryd.underlying36 hi hz0 hz1 hz2 rfl (by decide) (.slice av k cv) k _ (by rfl) O6.out ⟨w5.heap.size, 0, none⟩ 1 1 [.string (mkL tx)] (by rfl) rfl (fun j x hj => app_cells rfl hj) (by simp [Value.oneCell']) (by decide) (by unfold maxLen; omega) (by omega) (by have := Z5.out; simp; omega) _ rfl ?_
           intro g6 c6 w6 o6 gr6 p6 hg6
           have RX7 := (gr6.block X (blk_lt R6.out) (fun e => own_ne_kind O6.out R6.out (by decide) e.symm)).trans R6.out
           have X7 := Lib.hid (X6.out.grown gr6 (Nat.lt_trans HrX.out hXB.out) (fun k e => (O6.out.lt k e).1))
           have Z7 := Lib.hid (Nat.le_trans Z5.out (Nat.le_trans (by simp : w5.heap.size ≤ (w5.alloc (.cells #[.string (mkL tx)] 9)).heap.size) gr6.size))
           have O7 := Lib.hid o6
           have y7 := cell_of_row _ _ 4 _ _ _ RX7
           have z7 := frozen_of_row _ X 4 _ _ RX7
           dsimp at y7
           have R7 := Lib.hid RX7
           clear RX7 o6 gr6 p6 hg6))
      all_goals
        try simp only [Act.put, List.getElem_toArray, List.getElem_cons_zero, List.getElem_cons_succ, List.setIfInBounds_toArray, List.set_cons_zero, List.set_cons_succ]
        have X8 := Lib.hid (X7.out.set HrX.out 4 (.slice (some ⟨g6, 0, none⟩) (k + 1) c6))
        have R8 : Hid ((w6.setCell ⟨X, 4, none⟩ (.slice (some ⟨g6, 0, none⟩) (k + 1) c6)).heap[X]? = some (.cells #[.int .i64 3, .string ⟨#[]⟩, .int .i64 0, .int .i64 0, .slice (some ⟨g6, 0, none⟩) (k + 1) c6] 38 (0, 0))) := Lib.hid (blk_set R7.out 4 (.slice (some ⟨g6, 0, none⟩) (k + 1) c6))
        have O8 : Hid (owS (w6.setCell ⟨X, 4, none⟩ (.slice (some ⟨g6, 0, none⟩) (k + 1) c6)) B (.slice (some ⟨g6, 0, none⟩) (k + 1) c6) (ofR P (k + 1))) := Lib.hid (by
          unfold owS
          rw [HS1.out, List.length_append, List.map_append, HOL.out]
          exact own_set O7.out (a := ⟨X, 4, none⟩) (own_ne_kind O7.out R7.out (by decide)) _)
        have Z8 := Lib.hid (show B ≤ (w6.setCell ⟨X, 4, none⟩ (.slice (some ⟨g6, 0, none⟩) (k + 1) c6)).heap.size by have := Z7.out; simpa [World.setCell] using this)
        have L8 := Lib.hid (leftN_eq X8.out)
        clear X7 R7 O7 Z7 O6 R6 X6 Z5 y4 y5 y6 y7 z7 TXT
        go_wp2
        go_roundw
        case rel => exact ⟨k + 1, _, c6, HLT.out, X8, R8, O8, Z8⟩
        case measure => (rw [L8.out, LE.out]; have := HLT.out; have := HPN.out; omega)
    · have hke : k + 1 = P.length := by omega
      rw [show P.length - (k + 1) = 0 by omega] at q0
      have HR := of_end hke H0.out
      have HOK := Lib.hid HR.1
      have HV := Lib.hid HR.2
      clear HR hke hlt hk hPl
      go_upto_region 25 with fail
      have X7 := HX.out
      have R7 := RX.out
      obtain ⟨W7, hW7⟩ : ∃ W7, wr = W7 := ⟨_, rfl⟩
      have O7 := HO.out
      rw [hW7] at X7 R7 O7 ⊢
      clear hW7 q0 HX RX HO HZ
      have xx := fun i => cell_of_row _ _ i _ _ _ R7
      have x0 := xx 0; have x1 := xx 1; have x2 := xx 2; have x3 := xx 3; have x4 := xx 4
      dsimp at x0 x1 x2 x3 x4
      have hres := X7.res
      have tt := fun i => cell_of_row _ _ i _ _ _ hres
      have t0 := tt 0; have t1 := tt 1; have t2 := tt 2; have t3 := tt 3; have t4 := tt 4
      dsimp at t0 t1 t2 t3 t4
      have zf := fun i => frozen_of_row _ T i _ _ hres
      have DN := Lib.hid (tdone_any g q r P (k + 1) (bdO P k) W7.drew X7.drew.rd)
      rw [← HOK.out] at DN
      have BF := Lib.hid (set5_below X7.bl X7.lt.1 (.int .i64 3) (.string ⟨#[]⟩) (.int .i64 0) (.int .i64 0) (.slice av k cv))
      have RF := Lib.hid (set5_res hres (.int .i64 3) (.string ⟨#[]⟩) (.int .i64 0) (.int .i64 0) (.slice av k cv))
      have OF : Hid (owS (set5 W7 T (.int .i64 3) (.string ⟨#[]⟩) (.int .i64 0) (.int .i64 0) (.slice av k cv)).drew 0 (.slice av k cv) (ofR P k)) := Lib.hid (owS_set5 O7 hres (by decide) _ _ _ _ _)
      clear xx tt hres R7 X7 HX2 R2 NX hM HrX HqX
      have HMT : Hid (mkL [] = ⟨#[]⟩) := Lib.hid rfl
      go_region_with (go_at_call 119; refine DN.out.mono ?_; rintro e w9 ⟨rfl, rfl⟩)
      all_goals
        clear zf t0 t1 t2 t3 t4 x0 x1 x2 x3 x4
        simp only [Act.put, List.getElem_toArray, List.getElem_cons_zero, List.getElem_cons_succ, List.setIfInBounds_toArray, List.set_cons_zero, List.set_cons_succ]
        go_wp2
        have RF' := RF.out
        have BF' := BF.out
        have OF' := OF.out
        unfold set5 at RF' BF' OF'
        generalize World.setCell _ _ _ = WF at *
        have kk := fun i => cell_of_row _ _ i _ _ _ RF'
        have k0 := kk 0; have k1 := kk 1; have k2 := kk 2; have k3 := kk 3; have k4 := kk 4
        dsimp at k0 k1 k2 k3 k4
        refine bodyPost_ret (v := .tuple #[.agg #[.int .i64 3, .string ⟨#[]⟩, .int .i64 0, .int .i64 0, .slice av k cv], .bool (rdS P).isSome]) (by simp [results, Tryd.results69, go_sem, k0, k1, k2, k3, k4]) rfl ?_
        exact sopost_any HMT.out HV.out OF' BF'.drew
end Go.Proofs.YtnpiooaiceegmaaDoor
set_option linter.unusedVariables false
set_option linter.unusedSimpArgs false
namespace Go.Proofs.YtnpiooaiceegmaaDoor
open Go.RowKit
theorem tconfof_any (l : List UInt8) (w : World) (hl : l.length ≤ 300000) : Calls Tryd.prog 67 #[.string (mkL l)] w (CnPost (rdF (pcB 32 l)) w) := by
  by_cases h : wA (pcB 32 l) 0 = cfW
  · exact tconfof_yes l w hl h
  · exact tconfof_no l w hl h
theorem tstepof_any (l : List UInt8) (w : World) (hl : l.length ≤ 300000) : Calls Tryd.prog 69 #[.string (mkL l)] w (SoPost (rdS (pcB 32 l)) w) := by
  by_cases h1 : wA (pcB 32 l) 0 = byW
  · exact tstepof_by l w hl h1
  by_cases h2 : wA (pcB 32 l) 0 = tiW
  · exact tstepof_ti l w hl h2
  by_cases h3 : wA (pcB 32 l) 0 = reW
  · exact tstepof_re l w hl h3
  by_cases h4 : wA (pcB 32 l) 0 = ofW
  · exact tstepof_of l w hl h4
  by_cases h5 : wA (pcB 32 l) 0 = loW
  · by_cases h6 : (pcB 32 l).length ≤ 1
    · exact tstepof_lo1 l w hl h5 h6
    · exact tstepof_lo2 l w hl h5 h6
  by_cases h6 : wA (pcB 32 l) 0 = saW
  · exact tstepof_sa l w hl h6
  by_cases h7 : wA (pcB 32 l) 0 = poW
  · exact tstepof_po l w hl h7
  exact tstepof_no l w hl h1 h2 h3 h4 h5 h6 h7
theorem tsuf_yes (r : List UInt8) : Lib.hasSuffix (r ++ [10]) [10] = true ∧ Lib.trimSuffix (r ++ [10]) [10] = r := by
  have h : Lib.hasSuffix (r ++ [10]) [10] = true := by
    unfold Lib.hasSuffix
    rw [List.isSuffixOf_iff_suffix]
    exact ⟨r, rfl⟩
  refine ⟨h, ?_⟩
  unfold Lib.trimSuffix
  rw [if_pos h, List.length_append, List.length_singleton, Nat.add_sub_cancel, List.take_left]
/-- What a script's box holds. -/
abbrev scC (n0 n1 n2 n3 n4 n5 n6 n7 : Int) (b : Bool) (p : ByteArray) (cv sv : Value) : Array Value := #[.int .i64 n0, .int .i64 n1, .int .i64 n2, .int .i64 n3, .int .i64 n4, .int .i64 n5, .int .i64 n6, .int .i64 n7, .bool b, .string p, cv, sv]
/-- What Parse answers. -/
def PsPost (o : Option Scr) (er : Int) (w : World) (e : Ending) (w' : World) : Prop :=
  (match o with
   | none => e = .returned (.tuple #[.agg (scC 0 0 0 0 0 0 0 0 false ⟨#[]⟩ (.slice none 0 0) (.slice none 0 0)), .int .i64 er])
   | some s => ∃ (n0 n1 n2 n3 n4 n5 n6 n7 : Int) (b : Bool) (p : List UInt8) (ca sa : Option Addr) (cc sc : Nat), s.1 = ([n0, n1, n2, n3, n4, n5, n6, n7], b, p) ∧ e = .returned (.tuple #[.agg (scC n0 n1 n2 n3 n4 n5 n6 n7 b (mkL p) (.slice ca s.2.1.length cc) (.slice sa s.2.2.length sc)), .int .i64 0]) ∧ CrI w' ca s.2.1 ∧ SpI w' sa s.2.2) ∧ Below w.heap.size w w'
/-- A box of twelve cells: the first 12 are written anew. -/
def set12 (w : World) (T : Nat) (v0 v1 v2 v3 v4 v5 v6 v7 v8 v9 v10 v11 : Value) : World := ((((((((((((w.setCell ⟨T, 0, none⟩ v0).setCell ⟨T, 1, none⟩ v1).setCell ⟨T, 2, none⟩ v2).setCell ⟨T, 3, none⟩ v3).setCell ⟨T, 4, none⟩ v4).setCell ⟨T, 5, none⟩ v5).setCell ⟨T, 6, none⟩ v6).setCell ⟨T, 7, none⟩ v7).setCell ⟨T, 8, none⟩ v8).setCell ⟨T, 9, none⟩ v9).setCell ⟨T, 10, none⟩ v10).setCell ⟨T, 11, none⟩ v11)
theorem set12_res {w : World} {T : Nat} {a0 a1 a2 a3 a4 a5 a6 a7 a8 a9 a10 a11 : Value} {Ty : TypeId} {fr : Nat × Nat} (h : w.heap[T]? = some (.cells #[a0, a1, a2, a3, a4, a5, a6, a7, a8, a9, a10, a11] Ty fr)) (v0 v1 v2 v3 v4 v5 v6 v7 v8 v9 v10 v11 : Value) : (set12 w T v0 v1 v2 v3 v4 v5 v6 v7 v8 v9 v10 v11).heap[T]? = some (.cells #[v0, v1, v2, v3, v4, v5, v6, v7, v8, v9, v10, v11] Ty fr) := by
  have h0 : (w.setCell ⟨T, 0, none⟩ v0).heap[T]? = some (.cells #[v0, a1, a2, a3, a4, a5, a6, a7, a8, a9, a10, a11] Ty fr) := blk_set h 0 v0
  have h1 : ((w.setCell ⟨T, 0, none⟩ v0).setCell ⟨T, 1, none⟩ v1).heap[T]? = some (.cells #[v0, v1, a2, a3, a4, a5, a6, a7, a8, a9, a10, a11] Ty fr) := blk_set h0 1 v1
  have h2 : (((w.setCell ⟨T, 0, none⟩ v0).setCell ⟨T, 1, none⟩ v1).setCell ⟨T, 2, none⟩ v2).heap[T]? = some (.cells #[v0, v1, v2, a3, a4, a5, a6, a7, a8, a9, a10, a11] Ty fr) := blk_set h1 2 v2
  have h3 : ((((w.setCell ⟨T, 0, none⟩ v0).setCell ⟨T, 1, none⟩ v1).setCell ⟨T, 2, none⟩ v2).setCell ⟨T, 3, none⟩ v3).heap[T]? = some (.cells #[v0, v1, v2, v3, a4, a5, a6, a7, a8, a9, a10, a11] Ty fr) := blk_set h2 3 v3
  have h4 : (((((w.setCell ⟨T, 0, none⟩ v0).setCell ⟨T, 1, none⟩ v1).setCell ⟨T, 2, none⟩ v2).setCell ⟨T, 3, none⟩ v3).setCell ⟨T, 4, none⟩ v4).heap[T]? = some (.cells #[v0, v1, v2, v3, v4, a5, a6, a7, a8, a9, a10, a11] Ty fr) := blk_set h3 4 v4
  have h5 : ((((((w.setCell ⟨T, 0, none⟩ v0).setCell ⟨T, 1, none⟩ v1).setCell ⟨T, 2, none⟩ v2).setCell ⟨T, 3, none⟩ v3).setCell ⟨T, 4, none⟩ v4).setCell ⟨T, 5, none⟩ v5).heap[T]? = some (.cells #[v0, v1, v2, v3, v4, v5, a6, a7, a8, a9, a10, a11] Ty fr) := blk_set h4 5 v5
  have h6 : (((((((w.setCell ⟨T, 0, none⟩ v0).setCell ⟨T, 1, none⟩ v1).setCell ⟨T, 2, none⟩ v2).setCell ⟨T, 3, none⟩ v3).setCell ⟨T, 4, none⟩ v4).setCell ⟨T, 5, none⟩ v5).setCell ⟨T, 6, none⟩ v6).heap[T]? = some (.cells #[v0, v1, v2, v3, v4, v5, v6, a7, a8, a9, a10, a11] Ty fr) := blk_set h5 6 v6
  have h7 : ((((((((w.setCell ⟨T, 0, none⟩ v0).setCell ⟨T, 1, none⟩ v1).setCell ⟨T, 2, none⟩ v2).setCell ⟨T, 3, none⟩ v3).setCell ⟨T, 4, none⟩ v4).setCell ⟨T, 5, none⟩ v5).setCell ⟨T, 6, none⟩ v6).setCell ⟨T, 7, none⟩ v7).heap[T]? = some (.cells #[v0, v1, v2, v3, v4, v5, v6, v7, a8, a9, a10, a11] Ty fr) := blk_set h6 7 v7
  have h8 : (((((((((w.setCell ⟨T, 0, none⟩ v0).setCell ⟨T, 1, none⟩ v1).setCell ⟨T, 2, none⟩ v2).setCell ⟨T, 3, none⟩ v3).setCell ⟨T, 4, none⟩ v4).setCell ⟨T, 5, none⟩ v5).setCell ⟨T, 6, none⟩ v6).setCell ⟨T, 7, none⟩ v7).setCell ⟨T, 8, none⟩ v8).heap[T]? = some (.cells #[v0, v1, v2, v3, v4, v5, v6, v7, v8, a9, a10, a11] Ty fr) := blk_set h7 8 v8
  have h9 : ((((((((((w.setCell ⟨T, 0, none⟩ v0).setCell ⟨T, 1, none⟩ v1).setCell ⟨T, 2, none⟩ v2).setCell ⟨T, 3, none⟩ v3).setCell ⟨T, 4, none⟩ v4).setCell ⟨T, 5, none⟩ v5).setCell ⟨T, 6, none⟩ v6).setCell ⟨T, 7, none⟩ v7).setCell ⟨T, 8, none⟩ v8).setCell ⟨T, 9, none⟩ v9).heap[T]? = some (.cells #[v0, v1, v2, v3, v4, v5, v6, v7, v8, v9, a10, a11] Ty fr) := blk_set h8 9 v9
  have h10 : (((((((((((w.setCell ⟨T, 0, none⟩ v0).setCell ⟨T, 1, none⟩ v1).setCell ⟨T, 2, none⟩ v2).setCell ⟨T, 3, none⟩ v3).setCell ⟨T, 4, none⟩ v4).setCell ⟨T, 5, none⟩ v5).setCell ⟨T, 6, none⟩ v6).setCell ⟨T, 7, none⟩ v7).setCell ⟨T, 8, none⟩ v8).setCell ⟨T, 9, none⟩ v9).setCell ⟨T, 10, none⟩ v10).heap[T]? = some (.cells #[v0, v1, v2, v3, v4, v5, v6, v7, v8, v9, v10, a11] Ty fr) := blk_set h9 10 v10
  have h11 : ((((((((((((w.setCell ⟨T, 0, none⟩ v0).setCell ⟨T, 1, none⟩ v1).setCell ⟨T, 2, none⟩ v2).setCell ⟨T, 3, none⟩ v3).setCell ⟨T, 4, none⟩ v4).setCell ⟨T, 5, none⟩ v5).setCell ⟨T, 6, none⟩ v6).setCell ⟨T, 7, none⟩ v7).setCell ⟨T, 8, none⟩ v8).setCell ⟨T, 9, none⟩ v9).setCell ⟨T, 10, none⟩ v10).setCell ⟨T, 11, none⟩ v11).heap[T]? = some (.cells #[v0, v1, v2, v3, v4, v5, v6, v7, v8, v9, v10, v11] Ty fr) := blk_set h10 11 v11
  exact h11
theorem set12_below {w0 w : World} {T B : Nat} (h : Below B w0 w) (hT : B ≤ T) (v0 v1 v2 v3 v4 v5 v6 v7 v8 v9 v10 v11 : Value) : Below B w0 (set12 w T v0 v1 v2 v3 v4 v5 v6 v7 v8 v9 v10 v11) := ((((((((((((h.setCell (p := ⟨T, 0, none⟩) hT v0).setCell (p := ⟨T, 1, none⟩) hT v1).setCell (p := ⟨T, 2, none⟩) hT v2).setCell (p := ⟨T, 3, none⟩) hT v3).setCell (p := ⟨T, 4, none⟩) hT v4).setCell (p := ⟨T, 5, none⟩) hT v5).setCell (p := ⟨T, 6, none⟩) hT v6).setCell (p := ⟨T, 7, none⟩) hT v7).setCell (p := ⟨T, 8, none⟩) hT v8).setCell (p := ⟨T, 9, none⟩) hT v9).setCell (p := ⟨T, 10, none⟩) hT v10).setCell (p := ⟨T, 11, none⟩) hT v11)
/-- A box of twelve cells: the first 10 are written anew. -/
def sxt (w : World) (T : Nat) (v0 v1 v2 v3 v4 v5 v6 v7 v8 v9 : Value) : World := ((((((((((w.setCell ⟨T, 0, none⟩ v0).setCell ⟨T, 1, none⟩ v1).setCell ⟨T, 2, none⟩ v2).setCell ⟨T, 3, none⟩ v3).setCell ⟨T, 4, none⟩ v4).setCell ⟨T, 5, none⟩ v5).setCell ⟨T, 6, none⟩ v6).setCell ⟨T, 7, none⟩ v7).setCell ⟨T, 8, none⟩ v8).setCell ⟨T, 9, none⟩ v9)
theorem sxt_res {w : World} {T : Nat} {a0 a1 a2 a3 a4 a5 a6 a7 a8 a9 a10 a11 : Value} {Ty : TypeId} {fr : Nat × Nat} (h : w.heap[T]? = some (.cells #[a0, a1, a2, a3, a4, a5, a6, a7, a8, a9, a10, a11] Ty fr)) (v0 v1 v2 v3 v4 v5 v6 v7 v8 v9 : Value) : (sxt w T v0 v1 v2 v3 v4 v5 v6 v7 v8 v9).heap[T]? = some (.cells #[v0, v1, v2, v3, v4, v5, v6, v7, v8, v9, a10, a11] Ty fr) := by
  have h0 : (w.setCell ⟨T, 0, none⟩ v0).heap[T]? = some (.cells #[v0, a1, a2, a3, a4, a5, a6, a7, a8, a9, a10, a11] Ty fr) := blk_set h 0 v0
  have h1 : ((w.setCell ⟨T, 0, none⟩ v0).setCell ⟨T, 1, none⟩ v1).heap[T]? = some (.cells #[v0, v1, a2, a3, a4, a5, a6, a7, a8, a9, a10, a11] Ty fr) := blk_set h0 1 v1
  have h2 : (((w.setCell ⟨T, 0, none⟩ v0).setCell ⟨T, 1, none⟩ v1).setCell ⟨T, 2, none⟩ v2).heap[T]? = some (.cells #[v0, v1, v2, a3, a4, a5, a6, a7, a8, a9, a10, a11] Ty fr) := blk_set h1 2 v2
  have h3 : ((((w.setCell ⟨T, 0, none⟩ v0).setCell ⟨T, 1, none⟩ v1).setCell ⟨T, 2, none⟩ v2).setCell ⟨T, 3, none⟩ v3).heap[T]? = some (.cells #[v0, v1, v2, v3, a4, a5, a6, a7, a8, a9, a10, a11] Ty fr) := blk_set h2 3 v3
  have h4 : (((((w.setCell ⟨T, 0, none⟩ v0).setCell ⟨T, 1, none⟩ v1).setCell ⟨T, 2, none⟩ v2).setCell ⟨T, 3, none⟩ v3).setCell ⟨T, 4, none⟩ v4).heap[T]? = some (.cells #[v0, v1, v2, v3, v4, a5, a6, a7, a8, a9, a10, a11] Ty fr) := blk_set h3 4 v4
  have h5 : ((((((w.setCell ⟨T, 0, none⟩ v0).setCell ⟨T, 1, none⟩ v1).setCell ⟨T, 2, none⟩ v2).setCell ⟨T, 3, none⟩ v3).setCell ⟨T, 4, none⟩ v4).setCell ⟨T, 5, none⟩ v5).heap[T]? = some (.cells #[v0, v1, v2, v3, v4, v5, a6, a7, a8, a9, a10, a11] Ty fr) := blk_set h4 5 v5
  have h6 : (((((((w.setCell ⟨T, 0, none⟩ v0).setCell ⟨T, 1, none⟩ v1).setCell ⟨T, 2, none⟩ v2).setCell ⟨T, 3, none⟩ v3).setCell ⟨T, 4, none⟩ v4).setCell ⟨T, 5, none⟩ v5).setCell ⟨T, 6, none⟩ v6).heap[T]? = some (.cells #[v0, v1, v2, v3, v4, v5, v6, a7, a8, a9, a10, a11] Ty fr) := blk_set h5 6 v6
  have h7 : ((((((((w.setCell ⟨T, 0, none⟩ v0).setCell ⟨T, 1, none⟩ v1).setCell ⟨T, 2, none⟩ v2).setCell ⟨T, 3, none⟩ v3).setCell ⟨T, 4, none⟩ v4).setCell ⟨T, 5, none⟩ v5).setCell ⟨T, 6, none⟩ v6).setCell ⟨T, 7, none⟩ v7).heap[T]? = some (.cells #[v0, v1, v2, v3, v4, v5, v6, v7, a8, a9, a10, a11] Ty fr) := blk_set h6 7 v7
  have h8 : (((((((((w.setCell ⟨T, 0, none⟩ v0).setCell ⟨T, 1, none⟩ v1).setCell ⟨T, 2, none⟩ v2).setCell ⟨T, 3, none⟩ v3).setCell ⟨T, 4, none⟩ v4).setCell ⟨T, 5, none⟩ v5).setCell ⟨T, 6, none⟩ v6).setCell ⟨T, 7, none⟩ v7).setCell ⟨T, 8, none⟩ v8).heap[T]? = some (.cells #[v0, v1, v2, v3, v4, v5, v6, v7, v8, a9, a10, a11] Ty fr) := blk_set h7 8 v8
  have h9 : ((((((((((w.setCell ⟨T, 0, none⟩ v0).setCell ⟨T, 1, none⟩ v1).setCell ⟨T, 2, none⟩ v2).setCell ⟨T, 3, none⟩ v3).setCell ⟨T, 4, none⟩ v4).setCell ⟨T, 5, none⟩ v5).setCell ⟨T, 6, none⟩ v6).setCell ⟨T, 7, none⟩ v7).setCell ⟨T, 8, none⟩ v8).setCell ⟨T, 9, none⟩ v9).heap[T]? = some (.cells #[v0, v1, v2, v3, v4, v5, v6, v7, v8, v9, a10, a11] Ty fr) := blk_set h8 9 v9
  exact h9
theorem sxt_below {w0 w : World} {T B : Nat} (h : Below B w0 w) (hT : B ≤ T) (v0 v1 v2 v3 v4 v5 v6 v7 v8 v9 : Value) : Below B w0 (sxt w T v0 v1 v2 v3 v4 v5 v6 v7 v8 v9) := ((((((((((h.setCell (p := ⟨T, 0, none⟩) hT v0).setCell (p := ⟨T, 1, none⟩) hT v1).setCell (p := ⟨T, 2, none⟩) hT v2).setCell (p := ⟨T, 3, none⟩) hT v3).setCell (p := ⟨T, 4, none⟩) hT v4).setCell (p := ⟨T, 5, none⟩) hT v5).setCell (p := ⟨T, 6, none⟩) hT v6).setCell (p := ⟨T, 7, none⟩) hT v7).setCell (p := ⟨T, 8, none⟩) hT v8).setCell (p := ⟨T, 9, none⟩) hT v9)
theorem sxt_blk (w : World) (T : Nat) (v0 v1 v2 v3 v4 v5 v6 v7 v8 v9 : Value) {k : Nat} (hk : k ≠ T) : (sxt w T v0 v1 v2 v3 v4 v5 v6 v7 v8 v9).heap[k]? = w.heap[k]? := by
  unfold sxt
  repeat rw [Below.heap_setCell _ _ _ _ hk]
theorem sxt_size (w : World) (T : Nat) (v0 v1 v2 v3 v4 v5 v6 v7 v8 v9 : Value) : (sxt w T v0 v1 v2 v3 v4 v5 v6 v7 v8 v9).heap.size = w.heap.size := by simp [sxt, World.setCell]
theorem crst_set12 {B T : Nat} {v : Value} {L : List Crs} {w : World} {a0 a1 a2 a3 a4 a5 a6 a7 a8 a9 a10 a11 : Value} {fr : Nat × Nat} (h : CrSt B v L w) (hb : w.heap[T]? = some (.cells #[a0, a1, a2, a3, a4, a5, a6, a7, a8, a9, a10, a11] 27 fr)) (v0 v1 v2 v3 v4 v5 v6 v7 v8 v9 v10 v11 : Value) : CrSt B v L (set12 w T v0 v1 v2 v3 v4 v5 v6 v7 v8 v9 v10 v11) := by
  have b0 := blk_set hb 0 v0
  have c0 := h.set hb (by decide) (by decide) 0 v0
  have b1 := blk_set b0 1 v1
  have c1 := c0.set b0 (by decide) (by decide) 1 v1
  have b2 := blk_set b1 2 v2
  have c2 := c1.set b1 (by decide) (by decide) 2 v2
  have b3 := blk_set b2 3 v3
  have c3 := c2.set b2 (by decide) (by decide) 3 v3
  have b4 := blk_set b3 4 v4
  have c4 := c3.set b3 (by decide) (by decide) 4 v4
  have b5 := blk_set b4 5 v5
  have c5 := c4.set b4 (by decide) (by decide) 5 v5
  have b6 := blk_set b5 6 v6
  have c6 := c5.set b5 (by decide) (by decide) 6 v6
  have b7 := blk_set b6 7 v7
  have c7 := c6.set b6 (by decide) (by decide) 7 v7
  have b8 := blk_set b7 8 v8
  have c8 := c7.set b7 (by decide) (by decide) 8 v8
  have b9 := blk_set b8 9 v9
  have c9 := c8.set b8 (by decide) (by decide) 9 v9
  have b10 := blk_set b9 10 v10
  have c10 := c9.set b9 (by decide) (by decide) 10 v10
  have b11 := blk_set b10 11 v11
  have c11 := c10.set b10 (by decide) (by decide) 11 v11
  exact c11
theorem stst_set12 {B T : Nat} {v : Value} {L : List Stp} {w : World} {a0 a1 a2 a3 a4 a5 a6 a7 a8 a9 a10 a11 : Value} {fr : Nat × Nat} (h : StSt B v L w) (hb : w.heap[T]? = some (.cells #[a0, a1, a2, a3, a4, a5, a6, a7, a8, a9, a10, a11] 27 fr)) (v0 v1 v2 v3 v4 v5 v6 v7 v8 v9 v10 v11 : Value) : StSt B v L (set12 w T v0 v1 v2 v3 v4 v5 v6 v7 v8 v9 v10 v11) := by
  have b0 := blk_set hb 0 v0
  have c0 := h.set hb (by decide) (by decide) 0 v0
  have b1 := blk_set b0 1 v1
  have c1 := c0.set b0 (by decide) (by decide) 1 v1
  have b2 := blk_set b1 2 v2
  have c2 := c1.set b1 (by decide) (by decide) 2 v2
  have b3 := blk_set b2 3 v3
  have c3 := c2.set b2 (by decide) (by decide) 3 v3
  have b4 := blk_set b3 4 v4
  have c4 := c3.set b3 (by decide) (by decide) 4 v4
  have b5 := blk_set b4 5 v5
  have c5 := c4.set b4 (by decide) (by decide) 5 v5
  have b6 := blk_set b5 6 v6
  have c6 := c5.set b5 (by decide) (by decide) 6 v6
  have b7 := blk_set b6 7 v7
  have c7 := c6.set b6 (by decide) (by decide) 7 v7
  have b8 := blk_set b7 8 v8
  have c8 := c7.set b7 (by decide) (by decide) 8 v8
  have b9 := blk_set b8 9 v9
  have c9 := c8.set b8 (by decide) (by decide) 9 v9
  have b10 := blk_set b9 10 v10
  have c10 := c9.set b9 (by decide) (by decide) 10 v10
  have b11 := blk_set b10 11 v11
  have c11 := c10.set b10 (by decide) (by decide) 11 v11
  exact c11
end Go.Proofs.YtnpiooaiceegmaaDoor
