/-
  Joined: M14.
-/
import Derived.Test.YtmnjafceenckpaaDoorJQ15
import Derived.Lib.QuietBelow
import Derived.Deep.QuietTactic
import Derived.BigQuiet
set_option linter.unusedVariables false
set_option linter.unusedSimpArgs false
set_option maxRecDepth 100000
set_option linter.unusedVariables false
set_option linter.unusedSimpArgs false
namespace Go.Proofs.YtmnjafceenckpaaDoor
open Go.RowKit Go.Sort
set_option maxHeartbeats 8000000 in
theorem one_control (s : ByteArray) (w : World) (hT : ET w) (hs : s.size ≤ 800000) (ht : tl s = 0) (h0 : 0 < s.size) (h7 : (s.get! 0).toNat ≠ 7) (h13 : (s.get! 0).toNat ≠ 13) (h10 : (s.get! 0).toNat ≠ 10) (hp : Lib.hasPrefix (bL s) [27, 91] = true) (en : Nat) (hl : ltr s = some en) : Calls Tryd.prog 27 #[.string s] w fun e w' => e = .returned (.tuple #[otV (oneP s).1, .int .i64 ((oneP s).2 : Int)]) ∧ Below w.heap.size w w' := by
  have B0 := below_alloc w (.cells #[.int .i64 0, .int .i64 0, .int .i64 0, .string ⟨#[]⟩] 30)
  have Q0 := Lib.hid (heap_alloc_new w (.cells #[.int .i64 0, .int .i64 0, .int .i64 0, .string ⟨#[]⟩] 30))
  have TL := textLen_any s (w.alloc (.cells #[.int .i64 0, .int .i64 0, .int .i64 0, .string ⟨#[]⟩] 30)) (hT.below B0) (by omega)
  have ho : oneP s = oneC s := by unfold oneP; rw [if_neg (by omega), if_neg (by omega), if_neg h7, if_neg h13, if_neg h10, if_neg (by rw [hp]; simp)]
  rw [ho]
  rw [ht] at TL
  have HP : ∀ w, Calls Tryd.prog 39 #[.string s, .string ⟨#[27, 91]⟩] w fun e w' => e = .returned (.bool (Lib.hasPrefix (bL s) [27, 91])) ∧ w = w' := fun w => (Tryd.strings_HasPrefix s ⟨#[27, 91]⟩ w).mono fun e w' h => ⟨h.1, h.2.symm⟩
  rw [hp] at HP
  have LT := fun w => letter_any s w (by omega)
  have hli : ltI s = en := by unfold ltI; rw [hl]
  rw [hli] at LT
  have hrg := ltF_some _ _ _ hl
  obtain ⟨r1, r2, r3⟩ := hrg
  have CT := fun w => control_any (s.extract 2 en) (s.get! en).toNat w (by rw [ByteArray.size_extract]; omega)
  have hgg := get_get s en r2
  rw [hgg] at CT
  rw [get_get s 0 h0] at h7 h13 h10
  have g7 : ¬ (s[0].toNat : Int) = 7 := by omega
  have g13 : ¬ (s[0].toNat : Int) = 13 := by omega
  have g10 : ¬ (s[0].toNat : Int) = 10 := by omega
  obtain ⟨he, he2⟩ := str_ne (show s.size ≠ 0 by omega)
  obtain ⟨k, n, m, t, ok, hct⟩ : ∃ k n m t b, ctl (s.extract 2 en) s[en].toNat = ((k, n, m, t), b) := ⟨_, _, _, _, _, rfl⟩
  rw [hct] at CT
  have FX : oneC s = if ok = true ∧ mayP (k, n, m, t) = true ∧ bt (k, n, m, t) = s.extract 0 (en + 1) then ((k, n, m, t), en + 1) else (ot0, 0) := by
    unfold oneC; rw [hl]; dsimp only; rw [hgg, hct]
  have F0 : ¬ (ok = true ∧ mayP (k, n, m, t) = true ∧ bt (k, n, m, t) = s.extract 0 (en + 1)) → oneC s = (ot0, 0) := fun h => by rw [FX, if_neg h]
  have F1 : ok = true ∧ mayP (k, n, m, t) = true ∧ bt (k, n, m, t) = s.extract 0 (en + 1) → oneC s = ((k, n, m, t), en + 1) := fun h => by rw [FX, if_pos h]
  replace F0 := Lib.hid F0; replace F1 := Lib.hid F1
  clear FX hgg
  have hts : t.size ≤ 0 := by have := ctl_text (s.extract 2 en) s[en].toNat; rw [hct] at this; exact Nat.le_of_eq this
  replace CT : ∀ w, Calls Tryd.prog 41 #[.string (s.extract 2 en), .int .u8 (s[en].toNat : Int)] w fun e w' => e = .returned (.tuple #[.agg #[.int .i64 k, .int .i64 n, .int .i64 m, .string t], .bool ok]) ∧ Below w.heap.size w w' := CT
  have r1' : (2 : Int) ≤ en := by omega
  have r2' : (en : Int) < s.size := by omega
  have r2b : (en : Int) ≤ s.size := by omega
  have r4 : ¬ (en : Int) < 0 := by omega
  have r5 : (0 : Int) ≤ en := by omega
  have hw1 : IntKind.i64.wrap ((en : Int) + 1) = (en : Int) + 1 := by rw [IntKind.wrap_i64]; omega
  have hw2 : (0 : Int) ≤ (en : Int) + 1 := by omega
  have hw3 : ((en : Int) + 1).toNat = en + 1 := by omega
  have hw4 : (en : Int) + 1 ≤ s.size := by omega
  replace hw1 := Lib.hid hw1; replace hw3 := Lib.hid hw3
  replace TL := Lib.hid TL; replace HP := Lib.hid HP; replace LT := Lib.hid LT; replace CT := Lib.hid CT
  have HT := Lib.hid hT
  clear ho hT ht hp h7 h13 h10 hli hl hct
  go_enter Tryd.func27, Tryd.ntmps27
  go_upto_region 18 with (first
    | (go_at_call 38; refine TL.out.mono ?_; rintro e w1 ⟨rfl, hb1⟩; have q1 := Lib.hid (blk_below Q0.out hb1); have N1 := seqB B0 hb1)
    | (go_at_call 39; refine (HP.out _).mono ?_; rintro e w2 ⟨rfl, rfl⟩)
    | (go_at_call 40; refine (LT.out _).mono ?_; rintro e w3 ⟨rfl, rfl⟩))
  have B1a := below_alloc w1 (.cells #[.int .i64 0, .int .i64 0, .int .i64 0, .string ⟨#[]⟩] 30)
  have q1d := Lib.hid (blk_below q1.out (Below.refl _ _).drew)
  have q1a := Lib.hid (blk_below (blk_below q1.out B1a) (Below.refl _ _).drew)
  have x1a := Lib.hid (blk_below (heap_alloc_new w1 (.cells #[.int .i64 0, .int .i64 0, .int .i64 0, .string ⟨#[]⟩] 30)) (Below.refl _ _).drew)
  have N1a := (seqB N1 B1a).drew
  have N1d := N1.drew
  have CTA : ∀ {W : World}, W.heap[w.heap.size]? = some (.cells #[.int .i64 0, .int .i64 0, .int .i64 0, .string ⟨#[]⟩] 30 (0, 0)) → Calls Tryd.prog 41 #[.string (s.extract 2 en), .int .u8 (s[en].toNat : Int)] W fun e w' => e = .returned (.tuple #[.agg #[.int .i64 k, .int .i64 n, .int .i64 m, .string t], .bool ok]) ∧ Below W.heap.size W w' := fun _ => CT.out _
  have hne : w.heap.size ≠ w1.heap.size := by have := blk_lt q1.out; omega
  have hw01 : w.heap.size ≤ w1.heap.size := N1.size
  clear B1a
  go_region_held3 (fun w' => True) (first | trivial | go_keep)
    (first
      | (go_at_call 41; (with_reducible refine (CTA q1d.out).mono ?_); rintro e w4 ⟨rfl, hb4⟩; have N4 := seqB N1d hb4; have q4 := blk_below q1d.out hb4; have B5 := below_alloc w4 (.cells #[.int .i64 k, .int .i64 n, .int .i64 m, .string t] 30); have q5' := blk_below q4 B5; have N5' := seqB N4 B5; have x5' := heap_alloc_new w4 (.cells #[.int .i64 k, .int .i64 n, .int .i64 m, .string t] 30); obtain ⟨W5, hW5⟩ : ∃ W5, W5 = w4.alloc (.cells #[.int .i64 k, .int .i64 n, .int .i64 m, .string t] 30) := ⟨_, rfl⟩; rw [← hW5] at q5' N5' x5'; have q5 := Lib.hid q5'; have x5 := Lib.hid x5'; have N5 := Lib.hid N5'; clear q5' x5' N5' B5 q4 N4 hb4)
      | (go_at_call 41; (with_reducible refine (CTA q1a.out).mono ?_); rintro e w4 ⟨rfl, hb4⟩; have N4 := seqB N1a hb4; have q4 := blk_below q1a.out hb4; have x4 := blk_below x1a.out hb4; have x5' := out_set x4 k n m t; have q5' := blk_far (p := ⟨w1.heap.size, 3, none⟩) (blk_far (p := ⟨w1.heap.size, 2, none⟩) (blk_far (p := ⟨w1.heap.size, 1, none⟩) (blk_far (p := ⟨w1.heap.size, 0, none⟩) q4 hne (.int .i64 k)) hne (.int .i64 n)) hne (.int .i64 m)) hne (.string t); have N5' := (((N4.setCell (p := ⟨w1.heap.size, 0, none⟩) hw01 (.int .i64 k)).setCell (p := ⟨w1.heap.size, 1, none⟩) hw01 (.int .i64 n)).setCell (p := ⟨w1.heap.size, 2, none⟩) hw01 (.int .i64 m)).setCell (p := ⟨w1.heap.size, 3, none⟩) hw01 (.string t); obtain ⟨W5, hW5⟩ : ∃ W5, W5 = (((w4.setCell ⟨w1.heap.size, 0, none⟩ (.int .i64 k)).setCell ⟨w1.heap.size, 1, none⟩ (.int .i64 n)).setCell ⟨w1.heap.size, 2, none⟩ (.int .i64 m)).setCell ⟨w1.heap.size, 3, none⟩ (.string t) := ⟨_, rfl⟩; rw [← hW5] at q5' N5' x5'; have y := fun i => cell_of_row _ _ i _ _ _ x4; have y0 := y 0; have y1 := y 1; have y2 := y 2; have y3 := y 3; have yf := fun i => frozen_of_row _ w1.heap.size i _ _ x4; have hx4 := blk_lt x4; dsimp at y0 y1 y2 y3; have q5 := Lib.hid q5'; have x5 := Lib.hid x5'; have N5 := Lib.hid N5'; clear y q5' x5' N5' q4 N4 hb4 x4))
  all_goals
    rw [← hW5]
    clear hW5
    have hT5 := Lib.hid (HT.out.below N5.out)
    have hx := blk_lt x5.out
    have y := fun i => cell_of_row _ _ i _ _ _ x5.out
    have b0 := y 0; have b1 := y 1; have b2 := y 2; have b3 := y 3
    clear y
    dsimp at b0 b1 b2 b3
    have G0 := fun dd os => cell_regrown b0 dd os
    have G1 := fun dd os => cell_regrown b1 dd os
    have G2 := fun dd os => cell_regrown b2 dd os
    have G3 := fun dd os => cell_regrown b3 dd os
    have CK := fun dd os => (echeck_any (k, n, m, t) (grow (redrawn W5 dd) os) (hT5.out.below (below_regrown W5 dd os)) (Nat.le_trans hts (by omega))).regrown_of
    cases ok
    · have HF := Lib.hid (F0.out (by simp))
      clear CK F0 F1
      go_upto_region 19 with fail
      clear b0 b1 b2 b3
      refine wp_region_quiet_below (by kernel_rfl) (by kernel_rfl) ?_
      repeat (any_goals (go_big_quiet_step (fail)))
      refine wpQuiet_nil ?_
      intro _ hw'
      obtain ⟨⟨dq, osq⟩, hw''⟩ := hw'
      subst hw''
      have hq := blk_below q5.out (below_regrown W5 dq osq)
      have N6 := seqB N5.out (below_regrown W5 dq osq)
      generalize grow (redrawn W5 dq) osq = W6 at *
      clear G0 G1 G2 G3
      have zf := fun i => frozen_of_row _ w.heap.size i _ _ hq
      have zz := fun i => cell_of_row _ _ i _ _ _ hq
      have z0 := zz 0; have z1 := zz 1; have z2 := zz 2; have z3 := zz 3
      have hlt := blk_lt hq
      have hfin := Lib.hid (out_set hq 0 0 0 ⟨#[]⟩)
      have NF := Lib.hid (out_set_below W6 w w.heap.size (.int .i64 0) (.int .i64 0) (.int .i64 0) (.string ⟨#[]⟩) (Nat.le_refl _) N6)
      clear zz hq
      dsimp at z0 z1 z2 z3
      go_wp2
      generalize hWF : World.setCell _ _ _ = WF
      have hqf : WF.heap[w.heap.size]? = some (.cells #[.int .i64 0, .int .i64 0, .int .i64 0, .string ⟨#[]⟩] 30 (0, 0)) := by rw [← hWF]; exact hfin.out
      have hN : Below w.heap.size w WF := by rw [← hWF]; exact NF.out
      have y := fun i => cell_of_row _ _ i _ _ _ hqf
      have y0 := y 0; have y1 := y 1; have y2 := y 2; have y3 := y 3
      dsimp at y0 y1 y2 y3
      clear y hqf hWF
      refine bodyPost_ret (v := .tuple #[.agg #[.int .i64 0, .int .i64 0, .int .i64 0, .string ⟨#[]⟩], .int .i64 0]) (by simp [results, Tryd.results27, go_sem, y0, y1, y2, y3]) rfl ?_
      rw [HF.out]; exact ⟨rfl, hN⟩
    · cases hm : mayP (k, n, m, t)
      · have HF := Lib.hid (F0.out (by rw [hm]; simp))
        clear F0 F1
        rw [chk_no hm] at CK
        replace CK := Lib.hid CK
        clear hm
        go_upto_region 19 with fail
        clear b0 b1 b2 b3
        refine wp_region_quiet_below (by kernel_rfl) (by kernel_rfl) ?_
        repeat (any_goals (go_big_quiet_step ((go_at_call 42; exact CK.out _ _))))
        refine wpQuiet_nil ?_
        intro _ hw'
        obtain ⟨⟨dq, osq⟩, hw''⟩ := hw'
        subst hw''
        have hq := blk_below q5.out (below_regrown W5 dq osq)
        have N6 := seqB N5.out (below_regrown W5 dq osq)
        clear CK
        generalize grow (redrawn W5 dq) osq = W6 at *
        clear G0 G1 G2 G3
        have zf := fun i => frozen_of_row _ w.heap.size i _ _ hq
        have zz := fun i => cell_of_row _ _ i _ _ _ hq
        have z0 := zz 0; have z1 := zz 1; have z2 := zz 2; have z3 := zz 3
        have hlt := blk_lt hq
        have hfin := Lib.hid (out_set hq 0 0 0 ⟨#[]⟩)
        have NF := Lib.hid (out_set_below W6 w w.heap.size (.int .i64 0) (.int .i64 0) (.int .i64 0) (.string ⟨#[]⟩) (Nat.le_refl _) N6)
        clear zz hq
        dsimp at z0 z1 z2 z3
        go_wp2
        generalize hWF : World.setCell _ _ _ = WF
        have hqf : WF.heap[w.heap.size]? = some (.cells #[.int .i64 0, .int .i64 0, .int .i64 0, .string ⟨#[]⟩] 30 (0, 0)) := by rw [← hWF]; exact hfin.out
        have hN : Below w.heap.size w WF := by rw [← hWF]; exact NF.out
        have y := fun i => cell_of_row _ _ i _ _ _ hqf
        have y0 := y 0; have y1 := y 1; have y2 := y 2; have y3 := y 3
        dsimp at y0 y1 y2 y3
        clear y hqf hWF
        refine bodyPost_ret (v := .tuple #[.agg #[.int .i64 0, .int .i64 0, .int .i64 0, .string ⟨#[]⟩], .int .i64 0]) (by simp [results, Tryd.results27, go_sem, y0, y1, y2, y3]) rfl ?_
        rw [HF.out]; exact ⟨rfl, hN⟩
      · rw [chk_yes hm] at CK
        have BY := fun dd os => (bytesOf_any (k, n, m, t) (grow (redrawn W5 dd) os) hm (Nat.le_trans hts (by omega))).regrown_of
        replace CK := Lib.hid CK
        by_cases hbe : bt (k, n, m, t) = s.extract 0 (en + 1)
        · have HF := Lib.hid (F1.out ⟨rfl, hm, hbe⟩)
          clear F0 F1
          rw [hbe] at BY
          replace BY := Lib.hid BY
          obtain ⟨e1, e2⟩ := str_eq (s.extract 0 (en + 1))
          have hw1' := hw1.out
          have hw3' := hw3.out
          clear hm hbe
          go_upto_region 19 with fail
          clear b0 b1 b2 b3
          refine wp_region_quiet_below (by kernel_rfl) (by kernel_rfl) ?_
          repeat (any_goals (go_big_quiet_step (first | (go_at_call 42; exact CK.out _ _) | (go_at_call 43; exact BY.out _ _))))
          refine wpQuiet_nil ?_
          intro _ hw'
          obtain ⟨⟨dq, osq⟩, hw''⟩ := hw'
          subst hw''
          have hq := blk_below q5.out (below_regrown W5 dq osq)
          have hx6 := blk_below x5.out (below_regrown W5 dq osq)
          have N6 := seqB N5.out (below_regrown W5 dq osq)
          clear CK BY hw1' hw3' e1 e2
          generalize grow (redrawn W5 dq) osq = W6 at *
          clear G0 G1 G2 G3
          have y := fun i => cell_of_row _ _ i _ _ _ hx6
          have c0 := y 0; have c1 := y 1; have c2 := y 2; have c3 := y 3
          clear y
          dsimp at c0 c1 c2 c3
          have zf := fun i => frozen_of_row _ w.heap.size i _ _ hq
          have zz := fun i => cell_of_row _ _ i _ _ _ hq
          have z0 := zz 0; have z1 := zz 1; have z2 := zz 2; have z3 := zz 3
          have hlt := blk_lt hq
          have hfin := Lib.hid (out_set hq k n m t)
          have NF := Lib.hid (out_set_below W6 w w.heap.size (.int .i64 k) (.int .i64 n) (.int .i64 m) (.string t) (Nat.le_refl _) N6)
          clear zz hq
          dsimp at z0 z1 z2 z3
          go_wp2
          generalize hWF : World.setCell _ _ _ = WF
          have hqf : WF.heap[w.heap.size]? = some (.cells #[.int .i64 k, .int .i64 n, .int .i64 m, .string t] 30 (0, 0)) := by rw [← hWF]; exact hfin.out
          have hN : Below w.heap.size w WF := by rw [← hWF]; exact NF.out
          have y := fun i => cell_of_row _ _ i _ _ _ hqf
          have y0 := y 0; have y1 := y 1; have y2 := y 2; have y3 := y 3
          dsimp at y0 y1 y2 y3
          clear y hqf hWF
          refine bodyPost_ret (v := .tuple #[.agg #[.int .i64 k, .int .i64 n, .int .i64 m, .string t], .int .i64 ((en : Int) + 1)]) (by simp [results, Tryd.results27, go_sem, y0, y1, y2, y3]) rfl ?_
          rw [HF.out]; exact ⟨rfl, hN⟩
        · have HF := Lib.hid (F0.out (fun h => hbe h.2.2))
          clear F0 F1
          obtain ⟨e1, e2, e3⟩ := str_neq hbe
          have hw1' := hw1.out
          have hw3' := hw3.out
          generalize bt (k, n, m, t) = A at *
          replace BY := Lib.hid BY
          clear hm hbe
          go_upto_region 19 with fail
          clear b0 b1 b2 b3
          refine wp_region_quiet_below (by kernel_rfl) (by kernel_rfl) ?_
          repeat (any_goals (go_big_quiet_step (first | (go_at_call 42; exact CK.out _ _) | (go_at_call 43; exact BY.out _ _))))
          refine wpQuiet_nil ?_
          intro _ hw'
          obtain ⟨⟨dq, osq⟩, hw''⟩ := hw'
          subst hw''
          have hq := blk_below q5.out (below_regrown W5 dq osq)
          have N6 := seqB N5.out (below_regrown W5 dq osq)
          clear CK BY hw1' hw3' e1 e2 e3
          generalize grow (redrawn W5 dq) osq = W6 at *
          clear G0 G1 G2 G3
          have zf := fun i => frozen_of_row _ w.heap.size i _ _ hq
          have zz := fun i => cell_of_row _ _ i _ _ _ hq
          have z0 := zz 0; have z1 := zz 1; have z2 := zz 2; have z3 := zz 3
          have hlt := blk_lt hq
          have hfin := Lib.hid (out_set hq 0 0 0 ⟨#[]⟩)
          have NF := Lib.hid (out_set_below W6 w w.heap.size (.int .i64 0) (.int .i64 0) (.int .i64 0) (.string ⟨#[]⟩) (Nat.le_refl _) N6)
          clear zz hq
          dsimp at z0 z1 z2 z3
          go_wp2
          generalize hWF : World.setCell _ _ _ = WF
          have hqf : WF.heap[w.heap.size]? = some (.cells #[.int .i64 0, .int .i64 0, .int .i64 0, .string ⟨#[]⟩] 30 (0, 0)) := by rw [← hWF]; exact hfin.out
          have hN : Below w.heap.size w WF := by rw [← hWF]; exact NF.out
          have y := fun i => cell_of_row _ _ i _ _ _ hqf
          have y0 := y 0; have y1 := y 1; have y2 := y 2; have y3 := y 3
          dsimp at y0 y1 y2 y3
          clear y hqf hWF
          refine bodyPost_ret (v := .tuple #[.agg #[.int .i64 0, .int .i64 0, .int .i64 0, .string ⟨#[]⟩], .int .i64 0]) (by simp [results, Tryd.results27, go_sem, y0, y1, y2, y3]) rfl ?_
          rw [HF.out]; exact ⟨rfl, hN⟩
theorem one_any2 (s : ByteArray) (w : World) (hT : ET w) (hs : s.size ≤ 800000) : Calls Tryd.prog 27 #[.string s] w fun e w' => e = .returned (.tuple #[otV (oneP s).1, .int .i64 ((oneP s).2 : Int)]) ∧ Below w.heap.size w w' := by
  by_cases ht : 0 < tl s
  · exact one_text s w hT hs ht
  have ht0 : tl s = 0 := by omega
  by_cases h0 : s.size = 0
  · exact one_nil s w hT ht0 h0
  have hpos : 0 < s.size := by omega
  by_cases h7 : (s.get! 0).toNat = 7
  · exact one_7 s w hT hs ht0 hpos h7
  by_cases h13 : (s.get! 0).toNat = 13
  · exact one_13 s w hT hs ht0 hpos h13
  by_cases h10 : (s.get! 0).toNat = 10
  · exact one_10 s w hT hs ht0 hpos h10
  cases hp : Lib.hasPrefix (bL s) [27, 91]
  · exact one_nopre s w hT hs ht0 hpos h7 h13 h10 hp
  cases hl : ltr s with
  | none => exact one_nolet s w hT hs ht0 hpos h7 h13 h10 hp hl
  | some en => exact one_control s w hT hs ht0 hpos h7 h13 h10 hp en hl
end Go.Proofs.YtmnjafceenckpaaDoor
