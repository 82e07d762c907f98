/-
  Joined: Tp28 Tp30.
-/
import Derived.Test.YtnpiooaiceegmaaDoorJW16
import Derived.Deep.RegionLaw
import Derived.BigQuiet
import Derived.Deep.Cut
set_option linter.unusedVariables false
set_option linter.unusedSimpArgs false
set_option maxRecDepth 100000
set_option linter.unusedVariables false
set_option linter.unusedSimpArgs false
namespace Go.Proofs.YtnpiooaiceegmaaDoor
open Go.RowKit
theorem rdF_isSome {P : List (List UInt8)} (h0 : wA P 0 = cfW) : (rdF P).isSome = (!bdN (bdC P 8) (uwE (wA P 10)) && decide (P.length ≤ 11) && (decide (wA P 9 = cfK true) || decide (wA P 9 = cfK false))) := by
  by_cases h1 : bdC P 8 = false
  · have hb := (bdC_no P 8).1 h1
    by_cases h2 : uwE (wA P 10) = 0
    · have e2 : bdN (bdC P 8) (uwE (wA P 10)) = false := by rw [h1, h2]; rfl
      rw [e2]
      by_cases h3 : P.length ≤ 11
      · by_cases h4 : wA P 9 = cfK true ∨ wA P 9 = cfK false
        · unfold rdF
          rw [if_pos ⟨h0, hb, h4, h2, h3⟩, decide_eq_true h3]
          rcases h4 with h4 | h4
          · rw [decide_eq_true h4]; rfl
          · rw [decide_eq_true h4, Bool.or_true]; rfl
        · unfold rdF
          rw [if_neg (fun e => h4 e.2.2.1), decide_eq_false (fun e => h4 (.inl e)), decide_eq_false (fun e => h4 (.inr e)), Bool.or_false, Bool.and_false]; rfl
      · unfold rdF
        rw [if_neg (fun e => h3 e.2.2.2.2), decide_eq_false h3, Bool.and_false, Bool.false_and]; rfl
    · have e2 : bdN (bdC P 8) (uwE (wA P 10)) = true := by rw [h1]; unfold bdN; rw [beqF h2]; rfl
      unfold rdF
      rw [if_neg (fun e => h2 e.2.2.2.1), e2]; rfl
  · have e1 : bdC P 8 = true := by simpa using h1
    have e2 : bdN (bdC P 8) (uwE (wA P 10)) = true := by rw [e1]; rfl
    unfold rdF
    rw [if_neg (fun e => h1 ((bdC_no P 8).2 e.2.1)), e2]; rfl
theorem rdF_val {P : List (List UInt8)} {f : Cf} (h : rdF P = some f) : f = ([undR (wA P 1), undR (wA P 2), undR (wA P 3), undR (wA P 4), undR (wA P 5), undR (wA P 6), undR (wA P 7), undR (wA P 8)], decide (wA P 9 = cfK true), uwS (wA P 10)) := by
  unfold rdF at h
  split at h
  · obtain rfl := Option.some.inj h; rfl
  · cases h
set_option maxRecDepth 100000 in
set_option maxHeartbeats 16000000 in
theorem tconfof_yes (l : List UInt8) (w : World) (hl : l.length ≤ 300000) (h0 : wA (pcB 32 l) 0 = cfW) : Calls Tryd.prog 67 #[.string (mkL l)] w (CnPost (rdF (pcB 32 l)) w) := by
  have b0 := below_alloc w (.cells cfZ 23)
  have r0 := heap_alloc_new w (.cells cfZ 23)
  obtain ⟨W0, hW0⟩ : ∃ W0, w.alloc (.cells #[.int .i64 0, .int .i64 0, .int .i64 0, .int .i64 0, .int .i64 0, .int .i64 0, .int .i64 0, .int .i64 0, .bool false, .string ⟨#[]⟩] 23) = W0 := ⟨_, rfl⟩
  unfold cfZ at b0 r0
  rw [hW0] at b0 r0
  have RD := Lib.hid (treader_any l W0 hl)
  have hM := Lib.hid (pcB_le hl)
  generalize pcB 32 l = P at *
  have B0 := Lib.hid b0
  have R0 := Lib.hid r0
  have HS := Lib.hid (rdF_isSome h0)
  have H0 := Lib.hid h0
  clear b0 r0 hl h0
  obtain ⟨T, hT⟩ : ∃ T, w.heap.size = T := ⟨_, rfl⟩
  go_enter Tryd.func67, Tryd.ntmps67
  go_upto_region 2 with (go_at_call 116; refine RD.out.mono ?_; rintro e w1 ⟨g, q, r, rfl, hw1, hg1, hb1⟩)
  have X1 := rlS_new R0.out B0.out hw1 hg1 hb1
  rw [hT] at X1
  have NX0 := tnext_any g q r P 0 false w1 X1.rd
  rw [H0.out] at NX0
  have NX : Hid (Calls Tryd.prog 166 #[.pointer (some ⟨r, 0, none⟩)] w1 fun e w' => e = .returned (.string ⟨#[99, 111, 110, 102]⟩) ∧ WrS g q r P (0 + 1) false w' ∧ KeepB w1.heap.size q w1 w') := Lib.hid NX0
  have HX1 := Lib.hid X1
  clear hw1 hg1 hb1 X1 NX0 hW0
  go_upto_region 4 with (go_at_call 166; refine NX.out.mono ?_; rintro e w2 ⟨rfl, hw2, hk2⟩)
  have X2 := HX1.out.step hw2 hk2
  have HX2 := Lib.hid X2
  clear hw2 hk2 X2 NX HX1
  go_upto_region 5 with fail
  have X2 := HX2.out
  obtain ⟨X, hX⟩ : ∃ X, w2.heap.size = X := ⟨_, rfl⟩
  have hrX : r < X := by rw [← hX]; exact X2.qlt.2.2.2
  have hqX : X ≠ q := by have := X2.qlt; omega
  have b3 := below_alloc w2 (.cells #[.int .i64 0, .int .i64 0, .int .i64 0, .int .i64 0, .int .i64 0, .int .i64 0, .int .i64 0, .int .i64 0, .bool false, .string ⟨#[]⟩] 23)
  have r3 := heap_alloc_new w2 (.cells #[.int .i64 0, .int .i64 0, .int .i64 0, .int .i64 0, .int .i64 0, .int .i64 0, .int .i64 0, .int .i64 0, .bool false, .string ⟨#[]⟩] 23)
  obtain ⟨W3, hW3⟩ : ∃ W3, w2.alloc (.cells #[.int .i64 0, .int .i64 0, .int .i64 0, .int .i64 0, .int .i64 0, .int .i64 0, .int .i64 0, .int .i64 0, .bool false, .string ⟨#[]⟩] 23) = W3 := ⟨_, rfl⟩
  rw [hW3] at b3 r3 ⊢
  rw [hX] at r3 ⊢
  have b4 := below_alloc W3 (.cells (cfY X) 189)
  have r4 := heap_alloc_new W3 (.cells (cfY X) 189)
  obtain ⟨Y, hY⟩ : ∃ Y, W3.heap.size = Y := ⟨_, rfl⟩
  have hXY : X < Y := by rw [← hY]; exact blk_lt r3
  obtain ⟨W4, hW4⟩ : ∃ W4, W3.alloc (.cells #[.pointer (some ⟨X, 0, none⟩), .pointer (some ⟨X, 1, none⟩), .pointer (some ⟨X, 2, none⟩), .pointer (some ⟨X, 3, none⟩), .pointer (some ⟨X, 4, none⟩), .pointer (some ⟨X, 5, none⟩), .pointer (some ⟨X, 6, none⟩), .pointer (some ⟨X, 7, none⟩)] 189) = W4 := ⟨_, rfl⟩
  unfold cfY at b4 r4
  rw [hW4] at b4 r4
  rw [hY] at r4
  have X4 := Lib.hid ((X2.below b3).below b4)
  have RX : Hid (W4.heap[X]? = some (.cells (cfX (fun i => undR (wA P (i + 1))) 0) 23 (0, 0))) := Lib.hid (blk_below r3 b4)
  have RY : Hid (W4.heap[Y]? = some (.cells (cfY X) 189 (0, 0))) := Lib.hid r4
  have HrX := Lib.hid hrX
  have HqX := Lib.hid hqX
  have HXY := Lib.hid hXY
  clear HX2 X2 hrX hqX hXY b3 r3 b4 r4 hX hW3
  go_upto_region 6 with fail
  obtain ⟨N, hN⟩ : ∃ N : Nat → Int, (fun i => undR (wA P (i + 1))) = N := ⟨_, rfl⟩
  rw [hN] at RX
  have HN := Lib.hid hN
  clear hN hW4 hY
  obtain ⟨m, hm⟩ : ∃ m : Nat, m = 8 := ⟨_, rfl⟩
  rw [show Value.slice (some ⟨Y, 0, none⟩) 8 8 = Value.slice (some ⟨Y, 0, none⟩) m m by rw [hm], show Value.int .i64 8 = Value.int .i64 (m : Int) by rw [hm]; rfl]
  have hm9 : (m : Int) ≤ 8 := by omega
  replace hm := Lib.hid hm
  go_loopw [30] (fun iv wr => ∃ k : Nat, k ≤ m ∧ iv = .int .i64 (k : Int) ∧ Hid (RlS w T (.cells #[.int .i64 0, .int .i64 0, .int .i64 0, .int .i64 0, .int .i64 0, .int .i64 0, .int .i64 0, .int .i64 0, .bool false, .string ⟨#[]⟩] 23 (0, 0)) g q r P (k + 1) (bdC P k) wr) ∧ Hid (wr.heap[X]? = some (.cells (cfX N k) 23 (0, 0))) ∧ Hid (wr.heap[Y]? = some (.cells (cfY X) 189 (0, 0)))) (fun iv _ => m - (intOf iv).toNat)
  case atStart => exact ⟨0, Nat.zero_le _, rfl, X4, RX, RY⟩
  case round =>
    clear X4 RX RY
    obtain ⟨k, hk, rfl, HX, RX, RY⟩ := hrel
    have hk8 : k ≤ 8 := by have := hm.out; omega
    by_cases hlt : k < m
    · have hk1 : (k : Int) < (m : Int) := by omega
      have hk0 : (0 : Int) ≤ k := by omega
      have hk9 : k < 8 := by have := hm.out; omega
      have c0 := (cell_of_row _ _ k _ _ _ RY.out).trans (cfY_at X k hk9)
      have NB0 := tnumber_any g q r P (k + 1) (bdC P k) wr HX.out.rd hM.out
      rw [show undR (wA P (k + 1)) = N k by rw [← HN.out], show bdN (bdC P k) (undE (wA P (k + 1))) = bdC P (k + 1) from rfl] at NB0
      have NB := Lib.hid NB0
      have CS := Lib.hid (cfX_set N k hk9)
      have CA := Lib.hid (cfX_at N k hk9)
      clear NB0 hk8 hk9
      generalize N k = nk at *
      go_wp2_with (go_at_call 117; refine NB.out.mono ?_; rintro e w3 ⟨rfl, hw3, hk3⟩; have X3 := Lib.hid (HX.out.step hw3 hk3); have RX3 := Lib.hid (kb_blk RX.out HqX.out hk3); have RY3 := Lib.hid (kb_blk RY.out (by have := HXY.out; have := HrX.out; have := X3.out.qlt; omega) hk3); have y0 := (cell_of_row _ _ k _ _ _ RX3.out).trans CA.out; have z0 := frozen_of_row _ X k _ _ RX3.out; clear hw3 hk3)
      have X5 := Lib.hid (X3.out.set HrX.out k (.int .i64 nk))
      have RX5 : Hid ((w3.setCell ⟨X, k, none⟩ (.int .i64 nk)).heap[X]? = some (.cells (cfX N (k + 1)) 23 (0, 0))) := Lib.hid (by rw [← CS.out]; exact blk_set RX3.out k (.int .i64 nk))
      have RY5 : Hid ((w3.setCell ⟨X, k, none⟩ (.int .i64 nk)).heap[Y]? = some (.cells (cfY X) 189 (0, 0))) := Lib.hid ((Below.heap_setCell _ _ _ _ (by have := HXY.out; show Y ≠ X; omega)).trans RY3.out)
      clear CS CA
      go_roundw
      case rel => exact ⟨k + 1, by omega, by go_num, X5, RX5, RY5⟩
      case measure => (simp [intOf]; try omega)
    · obtain rfl : k = m := by omega
      have hmm : ¬ (k : Int) < (k : Int) := by omega
      have h8 := hm.out
      rw [h8] at HX RX
      have NX := Lib.hid (tnext_any g q r P 9 (bdC P 8) wr HX.out.rd)
      have hvi : ((mkL (wA P 9)).toList == [118, 105]) = decide (wA P 9 = cfK true) := by
        rw [mkL_toList, Bool.eq_iff_iff, decide_eq_true_eq]; exact beq_iff_eq
      have hem : ((mkL (wA P 9)).toList == [101, 109, 97, 99, 115]) = decide (wA P 9 = cfK false) := by
        rw [mkL_toList, Bool.eq_iff_iff, decide_eq_true_eq]; exact beq_iff_eq
      have HVL := Lib.hid (fun f (h : rdF P = some f) => rdF_val h)
      have HSo := HS.out
      clear hk hlt hk8 h8 RY HS
      obtain ⟨vi, hvv⟩ : ∃ vi, decide (wA P 9 = cfK true) = vi := ⟨_, rfl⟩
      obtain ⟨em, hee⟩ : ∃ em, decide (wA P 9 = cfK false) = em := ⟨_, rfl⟩
      rw [hvv] at hvi HVL HSo
      rw [hee] at hem HSo
      clear hvv hee
      obtain ⟨sk, hsk⟩ : ∃ sk, mkL (wA P 9) = sk := ⟨_, rfl⟩
      rw [hsk] at hvi hem NX
      clear hsk
      go_upto_region 12 with (go_at_call 166; refine NX.out.mono ?_; rintro e w5 ⟨rfl, hw5, hk5⟩; have X5 := Lib.hid (HX.out.step hw5 hk5); have RX5 := Lib.hid (kb_blk RX.out HqX.out hk5); have y8 := cell_of_row _ _ 8 _ _ _ RX5.out; have z8 := frozen_of_row _ X 8 _ _ RX5.out; simp [cfX] at y8; clear hw5 hk5)
      have X6 := X5.out.set HrX.out 8 (.bool vi)
      have RX6 := blk_set RX5.out 8 (.bool vi)
      obtain ⟨W6, hW6⟩ : ∃ W6, w5.setCell ⟨X, 8, none⟩ (.bool vi) = W6 := ⟨_, rfl⟩
      rw [hW6] at X6 RX6 ⊢
      have TXT := Lib.hid (ttxt_any g q r P 10 (bdC P 8) W6 X6.rd hM.out)
      have HX6 := Lib.hid X6
      have HRX6 := Lib.hid RX6
      obtain ⟨bd, hbd⟩ : ∃ bd, bdN (bdC P 8) (uwE (wA P 10)) = bd := ⟨_, rfl⟩
      rw [hbd] at TXT HSo
      obtain ⟨tx, htx⟩ : ∃ tx, uwS (wA P 10) = tx := ⟨_, rfl⟩
      rw [htx] at TXT HVL
      clear y8 z8 X6 RX6 X5 RX5 hW6 hbd htx NX
      go_upto_region 13 with (go_at_call 118; refine TXT.out.mono ?_; rintro e w7 ⟨rfl, hw7, hk7⟩; have X7 := Lib.hid (HX6.out.step hw7 hk7); have RX7 := Lib.hid (kb_blk HRX6.out HqX.out hk7); have y9 := cell_of_row _ _ 9 _ _ _ RX7.out; have z9 := frozen_of_row _ X 9 _ _ RX7.out; simp [cfX] at y9; clear hw7 hk7)
      have X8 := X7.out.set HrX.out 9 (.string (mkL tx))
      have RX8 : (w7.setCell ⟨X, 9, none⟩ (.string (mkL tx))).heap[X]? = some (.cells #[.int .i64 (N 0), .int .i64 (N 1), .int .i64 (N 2), .int .i64 (N 3), .int .i64 (N 4), .int .i64 (N 5), .int .i64 (N 6), .int .i64 (N 7), .bool vi, .string (mkL tx)] 23 (0, 0)) := blk_set RX7.out 9 (.string (mkL tx))
      obtain ⟨W8, hW8⟩ : ∃ W8, w7.setCell ⟨X, 9, none⟩ (.string (mkL tx)) = W8 := ⟨_, rfl⟩
      rw [hW8] at X8 RX8 ⊢
      clear hW8 y9 z9 X7 RX7 HX6 HRX6 TXT HX RX
      have HV2 : Hid (∀ f, rdF P = some f → f = ([N 0, N 1, N 2, N 3, N 4, N 5, N 6, N 7], vi, tx)) := Lib.hid (fun f h => by rw [HVL.out f h, ← HN.out])
      clear HVL
      generalize N 0 = m0 at *
      generalize N 1 = m1 at *
      generalize N 2 = m2 at *
      generalize N 3 = m3 at *
      generalize N 4 = m4 at *
      generalize N 5 = m5 at *
      generalize N 6 = m6 at *
      generalize N 7 = m7 at *
      have xx := fun i => cell_of_row _ _ i _ _ _ RX8
      have x0 := xx 0; have x1 := xx 1; have x2 := xx 2; have x3 := xx 3; have x4 := xx 4; have x5 := xx 5; have x6 := xx 6; have x7 := xx 7; have x8 := xx 8; have x9 := xx 9
      dsimp at x0 x1 x2 x3 x4 x5 x6 x7 x8 x9
      have hres := X8.res
      have tt := fun i => cell_of_row _ _ i _ _ _ hres
      have t0 := tt 0; have t1 := tt 1; have t2 := tt 2; have t3 := tt 3; have t4 := tt 4; have t5 := tt 5; have t6 := tt 6; have t7 := tt 7; have t8 := tt 8; have t9 := tt 9
      dsimp at t0 t1 t2 t3 t4 t5 t6 t7 t8 t9
      have zf := fun i => frozen_of_row _ T i _ _ hres
      have DN := Lib.hid (tdone_any g q r P 11 bd W8.drew X8.drew.rd)
      have BF := Lib.hid (set10_below X8.bl X8.lt.1 (.int .i64 m0) (.int .i64 m1) (.int .i64 m2) (.int .i64 m3) (.int .i64 m4) (.int .i64 m5) (.int .i64 m6) (.int .i64 m7) (.bool vi) (.string (mkL tx)))
      have RF := Lib.hid (set10_res hres (.int .i64 m0) (.int .i64 m1) (.int .i64 m2) (.int .i64 m3) (.int .i64 m4) (.int .i64 m5) (.int .i64 m6) (.int .i64 m7) (.bool vi) (.string (mkL tx)))
      obtain ⟨dn, hdn⟩ : ∃ dn, (!bd && decide (P.length ≤ 11)) = dn := ⟨_, rfl⟩
      rw [hdn] at DN HSo
      have HSO := Lib.hid HSo
      generalize hmt : mkL tx = mt at *
      have HMT := Lib.hid hmt
      clear hmt xx tt hres RX8 X8 hdn HSo HqX HrX HXY hM
      have HR : ∀ o, (rdF P).isSome = o → ∀ w', Below w.heap.size w w' → CnPost (rdF P) w (.returned (.tuple #[.agg #[.int .i64 m0, .int .i64 m1, .int .i64 m2, .int .i64 m3, .int .i64 m4, .int .i64 m5, .int .i64 m6, .int .i64 m7, .bool vi, .string mt], .bool o])) w' := fun o ho w' hb => by
        subst ho
        exact ⟨⟨m0, m1, m2, m3, m4, m5, m6, m7, vi, tx, by rw [HMT.out], HV2.out⟩, hb⟩
      replace HR := Lib.hid HR
      clear HV2 HMT
      go_cut [3] from 49 to 59 (fun s3 wx => s3 = .bool (dn && (vi || em)) ∧ Hid (wx.heap[T]? = some (.cells #[.int .i64 m0, .int .i64 m1, .int .i64 m2, .int .i64 m3, .int .i64 m4, .int .i64 m5, .int .i64 m6, .int .i64 m7, .bool vi, .string mt] 23 (0, 0))) ∧ Hid (Below w.heap.size w wx))
      case first =>
        clear HR HSO
        have hud : undef = Value.tuple #[] := rfl
        cases dn
        · first | (go_region_law (go_simp; go_at_call 119; refine DN.out.mono ?_; rintro e w9 ⟨rfl, rfl⟩)) | fail
          all_goals (clear zf t0 t1 t2 t3 t4 t5 t6 t7 t8 t9 x0 x1 x2 x3 x4 x5 x6 x7 x8 x9; simp only [Act.put, List.getElem_toArray, List.getElem_cons_zero, List.getElem_cons_succ, List.setIfInBounds_toArray, List.set_cons_zero, List.set_cons_succ]; go_wp2; have RF' := RF.out; have BF' := BF.out; unfold set10 at RF' BF'; generalize World.setCell _ _ _ = WF at *; go_meet; exact ⟨rfl, Lib.hid RF', Lib.hid BF'.drew⟩)
        · clear hud
          cases vi
          · first | (go_region_law (go_simp; go_at_call 119; refine DN.out.mono ?_; rintro e w9 ⟨rfl, rfl⟩)) | fail
            all_goals (clear zf t0 t1 t2 t3 t4 t5 t6 t7 t8 t9 x0 x1 x2 x3 x4 x5 x6 x7 x8 x9; simp only [Act.put, List.getElem_toArray, List.getElem_cons_zero, List.getElem_cons_succ, List.setIfInBounds_toArray, List.set_cons_zero, List.set_cons_succ]; go_wp2; have RF' := RF.out; have BF' := BF.out; unfold set10 at RF' BF'; generalize World.setCell _ _ _ = WF at *; go_meet; exact ⟨rfl, Lib.hid RF', Lib.hid BF'.drew⟩)
          · first | (go_region_law (go_simp; go_at_call 119; refine DN.out.mono ?_; rintro e w9 ⟨rfl, rfl⟩)) | fail
            all_goals (clear zf t0 t1 t2 t3 t4 t5 t6 t7 t8 t9 x0 x1 x2 x3 x4 x5 x6 x7 x8 x9; simp only [Act.put, List.getElem_toArray, List.getElem_cons_zero, List.getElem_cons_succ, List.setIfInBounds_toArray, List.set_cons_zero, List.set_cons_succ]; go_wp2; have RF' := RF.out; have BF' := BF.out; unfold set10 at RF' BF'; generalize World.setCell _ _ _ = WF at *; go_meet; exact ⟨rfl, Lib.hid RF', Lib.hid BF'.drew⟩)
      case rest =>
        obtain ⟨rfl, RF', BF'⟩ := hcut
        have kk := fun i => cell_of_row _ _ i _ _ _ RF'.out
        have k0 := kk 0; have k1 := kk 1; have k2 := kk 2; have k3 := kk 3; have k4 := kk 4; have k5 := kk 5; have k6 := kk 6; have k7 := kk 7; have k8 := kk 8; have k9 := kk 9
        dsimp at k0 k1 k2 k3 k4 k5 k6 k7 k8 k9
        have FIN := Lib.hid (HR.out _ HSO.out _ BF'.out)
        generalize (dn && (vi || em)) = ok at *
        go_wp2
        refine bodyPost_ret (v := .tuple #[.agg #[.int .i64 m0, .int .i64 m1, .int .i64 m2, .int .i64 m3, .int .i64 m4, .int .i64 m5, .int .i64 m6, .int .i64 m7, .bool vi, .string mt], .bool ok]) (by simp [results, Tryd.results67, go_sem, k0, k1, k2, k3, k4, k5, k6, k7, k8, k9]) rfl ?_
        exact FIN.out
end Go.Proofs.YtnpiooaiceegmaaDoor
set_option linter.unusedVariables false
set_option linter.unusedSimpArgs false
namespace Go.Proofs.YtnpiooaiceegmaaDoor
open Go.RowKit
/-- What is answered of a line. -/
def SoPost (o : Option Stp) (w : World) (e : Ending) (w' : World) : Prop := (∃ (k : Int) (t : List UInt8) (n m : Int) (a : Option Addr) (sl c : Nat), e = .returned (.tuple #[.agg #[.int .i64 k, .string (mkL t), .int .i64 n, .int .i64 m, .slice a sl c], .bool o.isSome]) ∧ ∀ s, o = some s → s.1 = k ∧ s.2.1 = t ∧ s.2.2.1 = n ∧ s.2.2.2.1 = m ∧ s.2.2.2.2.length = sl ∧ owS w' 0 (.slice a sl c) s.2.2.2.2) ∧ Below w.heap.size w w'
theorem sopost_any {o : Option Stp} {w w' : World} {k n m : Int} {t : List UInt8} {mt : ByteArray} {a : Option Addr} {sl c : Nat} {L : List (List UInt8)} (ht : mkL t = mt) (hv : ∀ s, o = some s → s = (k, t, n, m, L)) (hO : owS w' 0 (.slice a sl c) L) (hb : Below w.heap.size w w') : SoPost o w (.returned (.tuple #[.agg #[.int .i64 k, .string mt, .int .i64 n, .int .i64 m, .slice a sl c], .bool o.isSome])) w' := by
  subst ht
  refine ⟨⟨k, t, n, m, a, sl, c, rfl, fun s hs => ?_⟩, hb⟩
  obtain rfl := hv s hs
  obtain ⟨a', c', e, _⟩ := owS_at hO
  injection e with _ e2 _
  exact ⟨rfl, rfl, rfl, rfl, e2.symm, hO⟩
/-- A box of five cells is written anew. -/
def set5 (w : World) (T : Nat) (v0 v1 v2 v3 v4 : Value) : World := ((((w.setCell ⟨T, 0, none⟩ v0).setCell ⟨T, 1, none⟩ v1).setCell ⟨T, 2, none⟩ v2).setCell ⟨T, 3, none⟩ v3).setCell ⟨T, 4, none⟩ v4
theorem set5_res {w : World} {T : Nat} {a0 a1 a2 a3 a4 : Value} {Ty : TypeId} {fr : Nat × Nat} (h : w.heap[T]? = some (.cells #[a0, a1, a2, a3, a4] Ty fr)) (v0 v1 v2 v3 v4 : Value) : (set5 w T v0 v1 v2 v3 v4).heap[T]? = some (.cells #[v0, v1, v2, v3, v4] Ty fr) := by
  have h0 : (w.setCell ⟨T, 0, none⟩ v0).heap[T]? = some (.cells #[v0, a1, a2, a3, a4] Ty fr) := blk_set h 0 v0
  have h1 : ((w.setCell ⟨T, 0, none⟩ v0).setCell ⟨T, 1, none⟩ v1).heap[T]? = some (.cells #[v0, v1, a2, a3, a4] Ty fr) := blk_set h0 1 v1
  have h2 : (((w.setCell ⟨T, 0, none⟩ v0).setCell ⟨T, 1, none⟩ v1).setCell ⟨T, 2, none⟩ v2).heap[T]? = some (.cells #[v0, v1, v2, a3, a4] Ty fr) := blk_set h1 2 v2
  have h3 : ((((w.setCell ⟨T, 0, none⟩ v0).setCell ⟨T, 1, none⟩ v1).setCell ⟨T, 2, none⟩ v2).setCell ⟨T, 3, none⟩ v3).heap[T]? = some (.cells #[v0, v1, v2, v3, a4] Ty fr) := blk_set h2 3 v3
  have h4 : (((((w.setCell ⟨T, 0, none⟩ v0).setCell ⟨T, 1, none⟩ v1).setCell ⟨T, 2, none⟩ v2).setCell ⟨T, 3, none⟩ v3).setCell ⟨T, 4, none⟩ v4).heap[T]? = some (.cells #[v0, v1, v2, v3, v4] Ty fr) := blk_set h3 4 v4
  exact h4
theorem set5_below {w0 w : World} {T B : Nat} (h : Below B w0 w) (hT : B ≤ T) (v0 v1 v2 v3 v4 : Value) : Below B w0 (set5 w T v0 v1 v2 v3 v4) :=
  ((((h.setCell (p := ⟨T, 0, none⟩) hT v0).setCell (p := ⟨T, 1, none⟩) hT v1).setCell (p := ⟨T, 2, none⟩) hT v2).setCell (p := ⟨T, 3, none⟩) hT v3).setCell (p := ⟨T, 4, none⟩) hT v4
theorem rdS_at {W : List (List UInt8)} : rdS W = (if wA W 0 = byW then (if uwE (wA W 1) = 0 ∧ W.length ≤ 2 then some (0, uwS (wA W 1), 0, 0, []) else none)
  else if wA W 0 = tiW then (if W.length ≤ 1 then some (1, [], 0, 0, []) else none)
  else if wA W 0 = reW then (if undE (wA W 1) = 0 ∧ undE (wA W 2) = 0 ∧ W.length ≤ 3 then some (2, [], undR (wA W 1), undR (wA W 2), []) else none)
  else if wA W 0 = ofW then (if ∀ q ∈ W.tail, uwE q = 0 then some (3, [], 0, 0, W.tail.map uwS) else none)
  else if wA W 0 = loW then (if W.length ≤ 1 then some (4, [], 0, 0, []) else if uwE (wA W 1) = 0 ∧ W.length ≤ 2 then some (4, uwS (wA W 1), 1, 0, []) else none)
  else if wA W 0 = saW then (if W.length ≤ 1 then some (5, [], 0, 0, []) else none)
  else if wA W 0 = poW then (if W.length ≤ 1 then some (6, [], 0, 0, []) else none)
  else none) := rfl
theorem so_if {c : Prop} [Decidable c] {x : Stp} {b : Bool} (h : decide c = b) : (if c then some x else none).isSome = b ∧ ∀ s, (if c then some x else none) = some s → s = x := by
  by_cases hc : c
  · rw [if_pos hc, ← h, decide_eq_true hc]; exact ⟨rfl, fun s e => (Option.some.inj e).symm⟩
  · rw [if_neg hc, ← h, decide_eq_false hc]; exact ⟨rfl, fun s e => (by cases e)⟩
set_option maxRecDepth 100000 in
set_option maxHeartbeats 8000000 in
theorem tstepof_ti (l : List UInt8) (w : World) (hl : l.length ≤ 300000) (h0 : wA (pcB 32 l) 0 = tiW) : Calls Tryd.prog 69 #[.string (mkL l)] w (SoPost (rdS (pcB 32 l)) w) := by
  have b0 := below_alloc w (.cells #[.int .i64 0, .string ⟨#[]⟩, .int .i64 0, .int .i64 0, .slice none 0 0] 38)
  have r0 := heap_alloc_new w (.cells #[.int .i64 0, .string ⟨#[]⟩, .int .i64 0, .int .i64 0, .slice none 0 0] 38)
  obtain ⟨W0, hW0⟩ : ∃ W0, w.alloc (.cells #[.int .i64 0, .string ⟨#[]⟩, .int .i64 0, .int .i64 0, .slice none 0 0] 38) = W0 := ⟨_, rfl⟩
  rw [hW0] at b0 r0
  have RD := Lib.hid (treader_any l W0 hl)
  have hM := Lib.hid (pcB_le hl)
  generalize pcB 32 l = P at *
  have B0 := Lib.hid b0
  have R0 := Lib.hid r0
  have H0 := Lib.hid h0
  clear b0 r0 hl h0
  obtain ⟨T, hT⟩ : ∃ T, w.heap.size = T := ⟨_, rfl⟩
  go_enter Tryd.func69, Tryd.ntmps69
  go_upto_region 2 with (go_at_call 116; refine RD.out.mono ?_; rintro e w1 ⟨g, q, r, rfl, hw1, hg1, hb1⟩)
  have X1 := rlS_new R0.out B0.out hw1 hg1 hb1
  rw [hT] at X1
  have HX1 := Lib.hid X1
  clear hw1 hg1 hb1 X1 hW0
  go_upto_region 3 with fail
  have X1 := HX1.out
  obtain ⟨X, hX⟩ : ∃ X, w1.heap.size = X := ⟨_, rfl⟩
  have hrX : r < X := by rw [← hX]; exact X1.qlt.2.2.2
  have hqX : X ≠ q := by have := X1.qlt; omega
  have b2 := below_alloc w1 (.cells #[.int .i64 0, .string ⟨#[]⟩, .int .i64 0, .int .i64 0, .slice none 0 0] 38)
  have r2 := heap_alloc_new w1 (.cells #[.int .i64 0, .string ⟨#[]⟩, .int .i64 0, .int .i64 0, .slice none 0 0] 38)
  obtain ⟨W2, hW2⟩ : ∃ W2, w1.alloc (.cells #[.int .i64 0, .string ⟨#[]⟩, .int .i64 0, .int .i64 0, .slice none 0 0] 38) = W2 := ⟨_, rfl⟩
  rw [hW2] at b2 r2 ⊢
  rw [hX] at r2 ⊢
  have X2 := X1.below b2
  have NX0 := tnext_any g q r P 0 false W2 X2.rd
  rw [H0.out] at NX0
  have NX : Hid (Calls Tryd.prog 166 #[.pointer (some ⟨r, 0, none⟩)] W2 fun e w' => e = .returned (.string ⟨#[116, 105, 99, 107]⟩) ∧ WrS g q r P (0 + 1) false w' ∧ KeepB W2.heap.size q W2 w') := Lib.hid NX0
  have HX2 := Lib.hid X2
  have R2 := Lib.hid r2
  have HrX := Lib.hid hrX
  have HqX := Lib.hid hqX
  clear X1 X2 b2 r2 hrX hqX NX0 hX hW2 HX1
  go_upto_region 8 with (go_at_call 166; refine NX.out.mono ?_; rintro e w3 ⟨rfl, hw3, hk3⟩; have X3 := Lib.hid (HX2.out.step hw3 hk3); have RX3 := Lib.hid (kb_blk R2.out HqX.out hk3); have y0 := cell_of_row _ _ 0 _ _ _ RX3.out; have z0 := frozen_of_row _ X 0 _ _ RX3.out; dsimp at y0; clear hw3 hk3)
  go_upto_region 25 with fail
  have X7 := X3.out.set HrX.out 0 (.int .i64 1)
  have R7 : (w3.setCell ⟨X, 0, none⟩ (.int .i64 1)).heap[X]? = some (.cells #[.int .i64 1, .string ⟨#[]⟩, .int .i64 0, .int .i64 0, .slice none 0 0] 38 (0, 0)) := blk_set RX3.out 0 (.int .i64 1)
  obtain ⟨W7, hW7⟩ : ∃ W7, w3.setCell ⟨X, 0, none⟩ (.int .i64 1) = W7 := ⟨_, rfl⟩
  rw [hW7] at X7 R7 ⊢
  have HR := so_if (c := P.length ≤ 1) (x := ((1, [], 0, 0, []) : Stp)) (b := !false && decide (P.length ≤ 0 + 1)) rfl
  have HE : rdS P = (if P.length ≤ 1 then some ((1, [], 0, 0, []) : Stp) else none) := by rw [rdS_at, H0.out, if_neg (by decide), if_pos rfl]
  rw [← HE] at HR
  have HOK := Lib.hid HR.1
  have HV := Lib.hid HR.2
  clear HR HE hW7 y0 z0 X3 RX3
  have xx := fun i => cell_of_row _ _ i _ _ _ R7
  have x0 := xx 0; have x1 := xx 1; have x2 := xx 2; have x3 := xx 3; have x4 := xx 4
  dsimp at x0 x1 x2 x3 x4
  have hres := X7.res
  have tt := fun i => cell_of_row _ _ i _ _ _ hres
  have t0 := tt 0; have t1 := tt 1; have t2 := tt 2; have t3 := tt 3; have t4 := tt 4
  dsimp at t0 t1 t2 t3 t4
  have zf := fun i => frozen_of_row _ T i _ _ hres
  have DN := Lib.hid (tdone_any g q r P (0 + 1) false W7.drew X7.drew.rd)
  rw [← HOK.out] at DN
  have BF := Lib.hid (set5_below X7.bl X7.lt.1 (.int .i64 1) (.string ⟨#[]⟩) (.int .i64 0) (.int .i64 0) (.slice none 0 0))
  have RF := Lib.hid (set5_res hres (.int .i64 1) (.string ⟨#[]⟩) (.int .i64 0) (.int .i64 0) (.slice none 0 0))
  have OF : Hid (owS (set5 W7 T (.int .i64 1) (.string ⟨#[]⟩) (.int .i64 0) (.int .i64 0) (.slice none 0 0)).drew 0 (.slice none 0 0) []) := Lib.hid (World.ownsRow_nil _ _ _ _)
  clear xx tt hres R7 X7 HX2 R2 NX hM HrX HqX
  have HMT : Hid (mkL [] = ⟨#[]⟩) := Lib.hid rfl
  go_region_with (go_at_call 119; refine DN.out.mono ?_; rintro e w9 ⟨rfl, rfl⟩)
  all_goals
    clear zf t0 t1 t2 t3 t4 x0 x1 x2 x3 x4
    simp only [Act.put, List.getElem_toArray, List.getElem_cons_zero, List.getElem_cons_succ, List.setIfInBounds_toArray, List.set_cons_zero, List.set_cons_succ]
    go_wp2
    have RF' := RF.out
    have BF' := BF.out
    have OF' := OF.out
    unfold set5 at RF' BF' OF'
    generalize World.setCell _ _ _ = WF at *
    have kk := fun i => cell_of_row _ _ i _ _ _ RF'
    have k0 := kk 0; have k1 := kk 1; have k2 := kk 2; have k3 := kk 3; have k4 := kk 4
    dsimp at k0 k1 k2 k3 k4
    refine bodyPost_ret (v := .tuple #[.agg #[.int .i64 1, .string ⟨#[]⟩, .int .i64 0, .int .i64 0, .slice none 0 0], .bool (rdS P).isSome]) (by simp [results, Tryd.results69, go_sem, k0, k1, k2, k3, k4]) rfl ?_
    exact sopost_any HMT.out HV.out OF' BF'.drew
set_option maxRecDepth 100000 in
set_option maxHeartbeats 8000000 in
theorem tstepof_sa (l : List UInt8) (w : World) (hl : l.length ≤ 300000) (h0 : wA (pcB 32 l) 0 = saW) : Calls Tryd.prog 69 #[.string (mkL l)] w (SoPost (rdS (pcB 32 l)) w) := by
  have b0 := below_alloc w (.cells #[.int .i64 0, .string ⟨#[]⟩, .int .i64 0, .int .i64 0, .slice none 0 0] 38)
  have r0 := heap_alloc_new w (.cells #[.int .i64 0, .string ⟨#[]⟩, .int .i64 0, .int .i64 0, .slice none 0 0] 38)
  obtain ⟨W0, hW0⟩ : ∃ W0, w.alloc (.cells #[.int .i64 0, .string ⟨#[]⟩, .int .i64 0, .int .i64 0, .slice none 0 0] 38) = W0 := ⟨_, rfl⟩
  rw [hW0] at b0 r0
  have RD := Lib.hid (treader_any l W0 hl)
  have hM := Lib.hid (pcB_le hl)
  generalize pcB 32 l = P at *
  have B0 := Lib.hid b0
  have R0 := Lib.hid r0
  have H0 := Lib.hid h0
  clear b0 r0 hl h0
  obtain ⟨T, hT⟩ : ∃ T, w.heap.size = T := ⟨_, rfl⟩
  go_enter Tryd.func69, Tryd.ntmps69
  go_upto_region 2 with (go_at_call 116; refine RD.out.mono ?_; rintro e w1 ⟨g, q, r, rfl, hw1, hg1, hb1⟩)
  have X1 := rlS_new R0.out B0.out hw1 hg1 hb1
  rw [hT] at X1
  have HX1 := Lib.hid X1
  clear hw1 hg1 hb1 X1 hW0
  go_upto_region 3 with fail
  have X1 := HX1.out
  obtain ⟨X, hX⟩ : ∃ X, w1.heap.size = X := ⟨_, rfl⟩
  have hrX : r < X := by rw [← hX]; exact X1.qlt.2.2.2
  have hqX : X ≠ q := by have := X1.qlt; omega
  have b2 := below_alloc w1 (.cells #[.int .i64 0, .string ⟨#[]⟩, .int .i64 0, .int .i64 0, .slice none 0 0] 38)
  have r2 := heap_alloc_new w1 (.cells #[.int .i64 0, .string ⟨#[]⟩, .int .i64 0, .int .i64 0, .slice none 0 0] 38)
  obtain ⟨W2, hW2⟩ : ∃ W2, w1.alloc (.cells #[.int .i64 0, .string ⟨#[]⟩, .int .i64 0, .int .i64 0, .slice none 0 0] 38) = W2 := ⟨_, rfl⟩
  rw [hW2] at b2 r2 ⊢
  rw [hX] at r2 ⊢
  have X2 := X1.below b2
  have NX0 := tnext_any g q r P 0 false W2 X2.rd
  rw [H0.out] at NX0
  have NX : Hid (Calls Tryd.prog 166 #[.pointer (some ⟨r, 0, none⟩)] W2 fun e w' => e = .returned (.string ⟨#[115, 97, 118, 101]⟩) ∧ WrS g q r P (0 + 1) false w' ∧ KeepB W2.heap.size q W2 w') := Lib.hid NX0
  have HX2 := Lib.hid X2
  have R2 := Lib.hid r2
  have HrX := Lib.hid hrX
  have HqX := Lib.hid hqX
  clear X1 X2 b2 r2 hrX hqX NX0 hX hW2 HX1
  go_upto_region 22 with (go_at_call 166; refine NX.out.mono ?_; rintro e w3 ⟨rfl, hw3, hk3⟩; have X3 := Lib.hid (HX2.out.step hw3 hk3); have RX3 := Lib.hid (kb_blk R2.out HqX.out hk3); have y0 := cell_of_row _ _ 0 _ _ _ RX3.out; have z0 := frozen_of_row _ X 0 _ _ RX3.out; dsimp at y0; clear hw3 hk3)
  go_upto_region 25 with fail
  have X7 := X3.out.set HrX.out 0 (.int .i64 5)
  have R7 : (w3.setCell ⟨X, 0, none⟩ (.int .i64 5)).heap[X]? = some (.cells #[.int .i64 5, .string ⟨#[]⟩, .int .i64 0, .int .i64 0, .slice none 0 0] 38 (0, 0)) := blk_set RX3.out 0 (.int .i64 5)
  obtain ⟨W7, hW7⟩ : ∃ W7, w3.setCell ⟨X, 0, none⟩ (.int .i64 5) = W7 := ⟨_, rfl⟩
  rw [hW7] at X7 R7 ⊢
  have HR := so_if (c := P.length ≤ 1) (x := ((5, [], 0, 0, []) : Stp)) (b := !false && decide (P.length ≤ 0 + 1)) rfl
  have HE : rdS P = (if P.length ≤ 1 then some ((5, [], 0, 0, []) : Stp) else none) := by rw [rdS_at, H0.out, if_neg (by decide), if_neg (by decide), if_neg (by decide), if_neg (by decide), if_neg (by decide), if_pos rfl]
  rw [← HE] at HR
  have HOK := Lib.hid HR.1
  have HV := Lib.hid HR.2
  clear HR HE hW7 y0 z0 X3 RX3
  have xx := fun i => cell_of_row _ _ i _ _ _ R7
  have x0 := xx 0; have x1 := xx 1; have x2 := xx 2; have x3 := xx 3; have x4 := xx 4
  dsimp at x0 x1 x2 x3 x4
  have hres := X7.res
  have tt := fun i => cell_of_row _ _ i _ _ _ hres
  have t0 := tt 0; have t1 := tt 1; have t2 := tt 2; have t3 := tt 3; have t4 := tt 4
  dsimp at t0 t1 t2 t3 t4
  have zf := fun i => frozen_of_row _ T i _ _ hres
  have DN := Lib.hid (tdone_any g q r P (0 + 1) false W7.drew X7.drew.rd)
  rw [← HOK.out] at DN
  have BF := Lib.hid (set5_below X7.bl X7.lt.1 (.int .i64 5) (.string ⟨#[]⟩) (.int .i64 0) (.int .i64 0) (.slice none 0 0))
  have RF := Lib.hid (set5_res hres (.int .i64 5) (.string ⟨#[]⟩) (.int .i64 0) (.int .i64 0) (.slice none 0 0))
  have OF : Hid (owS (set5 W7 T (.int .i64 5) (.string ⟨#[]⟩) (.int .i64 0) (.int .i64 0) (.slice none 0 0)).drew 0 (.slice none 0 0) []) := Lib.hid (World.ownsRow_nil _ _ _ _)
  clear xx tt hres R7 X7 HX2 R2 NX hM HrX HqX
  have HMT : Hid (mkL [] = ⟨#[]⟩) := Lib.hid rfl
  go_region_with (go_at_call 119; refine DN.out.mono ?_; rintro e w9 ⟨rfl, rfl⟩)
  all_goals
    clear zf t0 t1 t2 t3 t4 x0 x1 x2 x3 x4
    simp only [Act.put, List.getElem_toArray, List.getElem_cons_zero, List.getElem_cons_succ, List.setIfInBounds_toArray, List.set_cons_zero, List.set_cons_succ]
    go_wp2
    have RF' := RF.out
    have BF' := BF.out
    have OF' := OF.out
    unfold set5 at RF' BF' OF'
    generalize World.setCell _ _ _ = WF at *
    have kk := fun i => cell_of_row _ _ i _ _ _ RF'
    have k0 := kk 0; have k1 := kk 1; have k2 := kk 2; have k3 := kk 3; have k4 := kk 4
    dsimp at k0 k1 k2 k3 k4
    refine bodyPost_ret (v := .tuple #[.agg #[.int .i64 5, .string ⟨#[]⟩, .int .i64 0, .int .i64 0, .slice none 0 0], .bool (rdS P).isSome]) (by simp [results, Tryd.results69, go_sem, k0, k1, k2, k3, k4]) rfl ?_
    exact sopost_any HMT.out HV.out OF' BF'.drew
set_option maxRecDepth 100000 in
set_option maxHeartbeats 8000000 in
theorem tstepof_po (l : List UInt8) (w : World) (hl : l.length ≤ 300000) (h0 : wA (pcB 32 l) 0 = poW) : Calls Tryd.prog 69 #[.string (mkL l)] w (SoPost (rdS (pcB 32 l)) w) := by
  have b0 := below_alloc w (.cells #[.int .i64 0, .string ⟨#[]⟩, .int .i64 0, .int .i64 0, .slice none 0 0] 38)
  have r0 := heap_alloc_new w (.cells #[.int .i64 0, .string ⟨#[]⟩, .int .i64 0, .int .i64 0, .slice none 0 0] 38)
  obtain ⟨W0, hW0⟩ : ∃ W0, w.alloc (.cells #[.int .i64 0, .string ⟨#[]⟩, .int .i64 0, .int .i64 0, .slice none 0 0] 38) = W0 := ⟨_, rfl⟩
  rw [hW0] at b0 r0
  have RD := Lib.hid (treader_any l W0 hl)
  have hM := Lib.hid (pcB_le hl)
  generalize pcB 32 l = P at *
  have B0 := Lib.hid b0
  have R0 := Lib.hid r0
  have H0 := Lib.hid h0
  clear b0 r0 hl h0
  obtain ⟨T, hT⟩ : ∃ T, w.heap.size = T := ⟨_, rfl⟩
  go_enter Tryd.func69, Tryd.ntmps69
  go_upto_region 2 with (go_at_call 116; refine RD.out.mono ?_; rintro e w1 ⟨g, q, r, rfl, hw1, hg1, hb1⟩)
  have X1 := rlS_new R0.out B0.out hw1 hg1 hb1
  rw [hT] at X1
  have HX1 := Lib.hid X1
  clear hw1 hg1 hb1 X1 hW0
  go_upto_region 3 with fail
  have X1 := HX1.out
  obtain ⟨X, hX⟩ : ∃ X, w1.heap.size = X := ⟨_, rfl⟩
  have hrX : r < X := by rw [← hX]; exact X1.qlt.2.2.2
  have hqX : X ≠ q := by have := X1.qlt; omega
  have b2 := below_alloc w1 (.cells #[.int .i64 0, .string ⟨#[]⟩, .int .i64 0, .int .i64 0, .slice none 0 0] 38)
  have r2 := heap_alloc_new w1 (.cells #[.int .i64 0, .string ⟨#[]⟩, .int .i64 0, .int .i64 0, .slice none 0 0] 38)
  obtain ⟨W2, hW2⟩ : ∃ W2, w1.alloc (.cells #[.int .i64 0, .string ⟨#[]⟩, .int .i64 0, .int .i64 0, .slice none 0 0] 38) = W2 := ⟨_, rfl⟩
  rw [hW2] at b2 r2 ⊢
  rw [hX] at r2 ⊢
  have X2 := X1.below b2
  have NX0 := tnext_any g q r P 0 false W2 X2.rd
  rw [H0.out] at NX0
  have NX : Hid (Calls Tryd.prog 166 #[.pointer (some ⟨r, 0, none⟩)] W2 fun e w' => e = .returned (.string ⟨#[112, 111, 119, 101, 114]⟩) ∧ WrS g q r P (0 + 1) false w' ∧ KeepB W2.heap.size q W2 w') := Lib.hid NX0
  have HX2 := Lib.hid X2
  have R2 := Lib.hid r2
  have HrX := Lib.hid hrX
  have HqX := Lib.hid hqX
  clear X1 X2 b2 r2 hrX hqX NX0 hX hW2 HX1
  go_upto_region 24 with (go_at_call 166; refine NX.out.mono ?_; rintro e w3 ⟨rfl, hw3, hk3⟩; have X3 := Lib.hid (HX2.out.step hw3 hk3); have RX3 := Lib.hid (kb_blk R2.out HqX.out hk3); have y0 := cell_of_row _ _ 0 _ _ _ RX3.out; have z0 := frozen_of_row _ X 0 _ _ RX3.out; dsimp at y0; clear hw3 hk3)
  go_upto_region 25 with fail
  have X7 := X3.out.set HrX.out 0 (.int .i64 6)
  have R7 : (w3.setCell ⟨X, 0, none⟩ (.int .i64 6)).heap[X]? = some (.cells #[.int .i64 6, .string ⟨#[]⟩, .int .i64 0, .int .i64 0, .slice none 0 0] 38 (0, 0)) := blk_set RX3.out 0 (.int .i64 6)
  obtain ⟨W7, hW7⟩ : ∃ W7, w3.setCell ⟨X, 0, none⟩ (.int .i64 6) = W7 := ⟨_, rfl⟩
  rw [hW7] at X7 R7 ⊢
  have HR := so_if (c := P.length ≤ 1) (x := ((6, [], 0, 0, []) : Stp)) (b := !false && decide (P.length ≤ 0 + 1)) rfl
  have HE : rdS P = (if P.length ≤ 1 then some ((6, [], 0, 0, []) : Stp) else none) := by rw [rdS_at, H0.out, if_neg (by decide), if_neg (by decide), if_neg (by decide), if_neg (by decide), if_neg (by decide), if_neg (by decide), if_pos rfl]
  rw [← HE] at HR
  have HOK := Lib.hid HR.1
  have HV := Lib.hid HR.2
  clear HR HE hW7 y0 z0 X3 RX3
  have xx := fun i => cell_of_row _ _ i _ _ _ R7
  have x0 := xx 0; have x1 := xx 1; have x2 := xx 2; have x3 := xx 3; have x4 := xx 4
  dsimp at x0 x1 x2 x3 x4
  have hres := X7.res
  have tt := fun i => cell_of_row _ _ i _ _ _ hres
  have t0 := tt 0; have t1 := tt 1; have t2 := tt 2; have t3 := tt 3; have t4 := tt 4
  dsimp at t0 t1 t2 t3 t4
  have zf := fun i => frozen_of_row _ T i _ _ hres
  have DN := Lib.hid (tdone_any g q r P (0 + 1) false W7.drew X7.drew.rd)
  rw [← HOK.out] at DN
  have BF := Lib.hid (set5_below X7.bl X7.lt.1 (.int .i64 6) (.string ⟨#[]⟩) (.int .i64 0) (.int .i64 0) (.slice none 0 0))
  have RF := Lib.hid (set5_res hres (.int .i64 6) (.string ⟨#[]⟩) (.int .i64 0) (.int .i64 0) (.slice none 0 0))
  have OF : Hid (owS (set5 W7 T (.int .i64 6) (.string ⟨#[]⟩) (.int .i64 0) (.int .i64 0) (.slice none 0 0)).drew 0 (.slice none 0 0) []) := Lib.hid (World.ownsRow_nil _ _ _ _)
  clear xx tt hres R7 X7 HX2 R2 NX hM HrX HqX
  have HMT : Hid (mkL [] = ⟨#[]⟩) := Lib.hid rfl
  go_region_with (go_at_call 119; refine DN.out.mono ?_; rintro e w9 ⟨rfl, rfl⟩)
  all_goals
    clear zf t0 t1 t2 t3 t4 x0 x1 x2 x3 x4
    simp only [Act.put, List.getElem_toArray, List.getElem_cons_zero, List.getElem_cons_succ, List.setIfInBounds_toArray, List.set_cons_zero, List.set_cons_succ]
    go_wp2
    have RF' := RF.out
    have BF' := BF.out
    have OF' := OF.out
    unfold set5 at RF' BF' OF'
    generalize World.setCell _ _ _ = WF at *
    have kk := fun i => cell_of_row _ _ i _ _ _ RF'
    have k0 := kk 0; have k1 := kk 1; have k2 := kk 2; have k3 := kk 3; have k4 := kk 4
    dsimp at k0 k1 k2 k3 k4
    refine bodyPost_ret (v := .tuple #[.agg #[.int .i64 6, .string ⟨#[]⟩, .int .i64 0, .int .i64 0, .slice none 0 0], .bool (rdS P).isSome]) (by simp [results, Tryd.results69, go_sem, k0, k1, k2, k3, k4]) rfl ?_
    exact sopost_any HMT.out HV.out OF' BF'.drew
end Go.Proofs.YtnpiooaiceegmaaDoor
