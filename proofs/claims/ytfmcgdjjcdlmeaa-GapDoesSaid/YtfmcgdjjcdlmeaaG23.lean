/-
  GapDoes: the law.
-/
import Derived.Test.YtfmcgdjjcdlmeaaG22
import Derived.Deep.RegionHeld3
import Derived.Deep.CutRange
import Derived.Deep.CutBlock
set_option linter.unusedVariables false
set_option linter.unusedSimpArgs false
namespace Go.Proofs.Ytfmcgdjjcdlmeaa
set_option maxRecDepth 100000
open Go.RowKit
set_option maxHeartbeats 32000000 in
theorem gapdoes_any (M : Int) (l : List (Int × Int × SgArg)) (aL : Option Addr) (cL : Nat) (w : World) (hl : l.length ≤ 9223372036854775807) (hL : CallsIn w w.heap.size aL l) : Calls Try.prog 3 #[.int .i64 M, .slice aL l.length cL] w fun x w' => x = .returned (.bool true) ∧ Below w.heap.size w w' := by
  have AW := Lib.hid awake_any
  have HL := Lib.hid hL
  clear hL
  by_cases hM : 1 ≤ M ∧ M ≤ 65536
  rotate_left
  · have NW := Lib.hid fun w => gnew_no M w (by omega)
    by_cases h1 : M < 1
    · go_enter Try.func3, Try.ntmps3
      go_wp2_with (first
        | (go_at_call 6; refine (AW.out _).mono ?_; rintro x w1 ⟨rfl, b1⟩)
        | (go_at_call 7; refine (NW.out _).mono ?_; rintro x w2 ⟨rfl, hw⟩; subst hw))
      go_ret
      exact ⟨rfl, b1⟩
    · have h2 : 65536 < M := by omega
      go_enter Try.func3, Try.ntmps3
      go_wp2_with (first
        | (go_at_call 6; refine (AW.out _).mono ?_; rintro x w1 ⟨rfl, b1⟩)
        | (go_at_call 7; refine (NW.out _).mono ?_; rintro x w2 ⟨rfl, hw⟩; subst hw))
      go_ret
      exact ⟨rfl, b1⟩
  have NW := Lib.hid fun w => gnew_any M w hM.1 hM.2
  have h1 : decide (M < 1) = false := decide_eq_false (by omega)
  have h2 : decide (65536 < M) = false := decide_eq_false (by omega)
  have HM := Lib.hid hM
  clear hM
  go_enter Try.func3, Try.ntmps3
  go_upto_region 9 with (first
    | (go_at_call 6; refine (AW.out _).mono ?_; rintro x w1 ⟨rfl, b1⟩)
    | (go_at_call 7; refine (NW.out _).mono ?_; rintro x w2 ⟨rfl, hw2⟩))
  obtain ⟨w3, hw3⟩ : ∃ w3, w2.alloc (.cells #[.slice none 0 0, .int .i64 0] 30) = w3 := ⟨_, rfl⟩
  have I0 := Lib.hid (Gd.start b1 HM.out.1 HM.out.2 hw2 hw3)
  rw [hw3]
  generalize (fun k => k < w3.heap.size ∧ k ≠ w1.heap.size) = S0 at I0
  generalize w1.heap.size = P at I0 ⊢
  generalize w2.heap.size = X at I0 ⊢
  clear hw2 hw3 b1 h1 h2
  have SE := Lib.hid sgall_ref
  go_upto_region 10 with fail
  go_loopw [8] (fun iv wr => ∃ (j : Nat) (S : Nat → Prop) (L : List Sn) (n a : Nat) (ad : Option Addr) (c : Nat), j ≤ l.length ∧ j ≤ 40 ∧ iv = .int .i64 (j : Int) ∧ Hid (n ≤ 60 * j) ∧ Hid (Gd w S P X M L a L n a ad c wr)) (fun iv _ => l.length - (intOf iv).toNat)
  case atStart => exact ⟨0, S0, [], 0, 0, none, 0, Nat.zero_le _, Nat.zero_le _, rfl, Lib.hid (Nat.zero_le _), I0⟩
  case round =>
    obtain ⟨j, S, L, n, a, ad, c, hj, hj40, rfl, HN, HI⟩ := hrel
    clear I0
    by_cases hlt : j < l.length
    rotate_left
    · have hj1 : ¬ (j : Int) < l.length := by omega
      have hb := Lib.hid HI.out.b
      go_wp2_with fail
      go_ret
      exact ⟨rfl, hb.out⟩
    by_cases h40 : j < 40
    rotate_left
    · have hj1 : (j : Int) < l.length := by omega
      have hj2 : ¬ (j : Int) < 40 := by omega
      have hb := Lib.hid HI.out.b
      go_wp2_with fail
      go_ret
      exact ⟨rfl, hb.out⟩
    have hj1 : (j : Int) < l.length := by omega
    have hj2 : (j : Int) < 40 := by omega
    have hj0 : (0 : Int) ≤ j := by omega
    obtain ⟨kb, off, k, i, sg, m, rfl, HC, hm63⟩ := gc_at HL.out HI.out.b j hlt
    have c0 := HC.c0; have c1 := HC.c1; have c2 := HC.c2
    obtain ⟨W, hW⟩ : ∃ W, wr.alloc (.cells #[.int .i64 k, .int .i64 i, .slice sg.a m sg.c] 32) = W := ⟨_, rfl⟩
    obtain ⟨x0, bW⟩ := Bx.new HI.out #[.int .i64 k, .int .i64 i, .slice sg.a m sg.c] hW
    have D0 := Lib.hid (HI.out.grow bW)
    have X0 := Lib.hid x0
    have G0 : Hid (SlS (fun k => newB S wr W k ∧ k ≠ X) W sg.a sg.l sg.c) := Lib.hid (HC.sl.old HI.out.xw D0.out.sw bW.size (fun k hk => bW.block k (Nat.lt_of_lt_of_le hk HI.out.b.size)))
    have hm := Lib.hid HC.hm
    have hi := Lib.hid (show -9223372036854775808 ≤ i ∧ i ≤ 9223372036854775807 from ⟨HC.i1, HC.i2⟩)
    go_upto_region 13 with fail
    obtain ⟨C, hC⟩ : ∃ C, wr.heap.size = C := ⟨_, rfl⟩
    rw [hC] at X0 ⊢
    obtain ⟨e0, e1, zf⟩ := D0.out.cells
    obtain ⟨f0, f1, f2⟩ := X0.out.cells
    clear HC x0 bW HI hW c0 c1 c2 hC
    by_cases h60 : 60 < m
    · have h60i : (60 : Int) < m := by omega
      go_wp2_with fail
      go_ret
      exact ⟨rfl, D0.out.b⟩
    have h60i : ¬ (60 : Int) < m := by omega
    have AL := SE.out sg.l sg.a sg.c W (by rw [hm.out]; omega) G0.out.s
    rw [hm.out] at AL
    have HA := Lib.hid D0.out.nums
    have hnB : (n : Int) ≤ 65536 := by have := HA.out.2; omega
    generalize newB S wr W = T at D0 X0 G0
    obtain ⟨wt, hwt⟩ : ∃ wt, wantZ (sgC sg.l) k m n M = wt := ⟨_, rfl⟩
    go_upto_if 61 with (go_at_call 8; refine AL.mono ?_; rintro x W1 ⟨rfl, bA⟩; have D1 := Lib.hid (D0.out.below bA); have X1 := Lib.hid (X0.out.below bA); have G1 := Lib.hid (G0.out.below bA); clear bA)
    clear AL D0 X0 G0 e0 e1 zf f0 f1 f2
    obtain ⟨e0, e1, zf⟩ := D1.out.cells
    obtain ⟨f0, f1, f2⟩ := X1.out.cells
    go_cut [10] from 40 to 243 (fun s10 wx => s10 = .int .i64 wt ∧ wx = W1)
    case first =>
      as_aux_lemma =>
        cases hok : sgC sg.l
        · rw [hok] at hwt
          clear hok
          go_wp2_with fail
          go_meet
          exact ⟨by rw [← hwt]; rfl, rfl⟩
        · rw [hok] at hwt
          clear hok
          by_cases hk0 : k = 0
          · subst hk0
            by_cases hfull : M < (m : Int) + (n : Int)
            · have hw2 := Lib.hid (hwt.symm.trans (wantZ_full0 m n M hfull))
              clear hwt
              go_wp2_with fail
              go_meet
              exact ⟨by rw [hw2.out], rfl⟩
            · have hw2 := Lib.hid (hwt.symm.trans (wantZ_fit0 m n M hfull))
              clear hwt
              go_wp2_with fail
              go_meet
              exact ⟨by rw [hw2.out], rfl⟩
          · by_cases hk3 : k = 3
            · subst hk3
              by_cases hfull : M < (m : Int)
              · have hw2 := Lib.hid (hwt.symm.trans (wantZ_full3 m n M hfull))
                clear hwt
                go_wp2_with fail
                go_meet
                exact ⟨by rw [hw2.out], rfl⟩
              · have hw2 := Lib.hid (hwt.symm.trans (wantZ_fit3 m n M hfull))
                clear hwt
                go_wp2_with fail
                go_meet
                exact ⟨by rw [hw2.out], rfl⟩
            · have hw2 := Lib.hid (hwt.symm.trans (wantZ_else k m n M hk0 hk3))
              have hb0 : (k == 0) = false := beq_eq_false_iff_ne.2 hk0
              have hb3 : (k == 3) = false := beq_eq_false_iff_ne.2 hk3
              clear hwt
              go_wp2_with fail
              go_meet
              exact ⟨by rw [hw2.out], rfl⟩
    case rest =>
      obtain ⟨rfl, rfl⟩ := hcut
      have hwt2 := Lib.hid hwt
      clear hwt
      have HN5 : Hid (n ≤ 60 * (j + 1)) := Lib.hid (by have := HN.out; omega)
      go_upto_block 2 with fail
      go_cut [11, 12, 13, 14] from 40 to 243 (fun s11 s12 s13 s14 wx => ∃ (T : Nat → Prop) (L : List Sn) (n a : Nat) (ad : Option Addr) (c : Nat), Hid (n ≤ 60 * (j + 1)) ∧ Hid (Gd w T P X M L a L n a ad c wx))
      case first =>
        by_cases hk0 : k = 0
        · as_aux_lemma =>
            subst hk0
            by_cases hw0 : wt = 0
            · subst hw0
              have hfit := Lib.hid (wantZ_0 hwt2.out)
              have RI := fun W2 (d : Gd w T P X M (L.take a ++ sg.l ++ L.drop a) (a + m) L n a ad c W2) (g : SlS (fun k => T k ∧ k ≠ X) W2 sg.a sg.l sg.c) => rins_any _ L sg.l ad sg.a c sg.c n m a W2 d.hn hm.out (by have := HA.out; omega) (by omega) HA.out.1 d.sl g
              replace RI := Lib.hid RI
              go_wp2_with (first
                | (go_at_call 9; refine (gd_insert D1.out hm.out (G1.out.mono fun k hk => hk.1) hfit.out.1 hfit.out.2).mono ?_; rintro x W2 ⟨rfl, d2, k2⟩; have D2 := Lib.hid d2; have X2 := Lib.hid (X1.out.kept k2); have G2 := Lib.hid (G1.out.keep k2.size (fun k hk => k2.block k hk.1)); obtain ⟨e0, e1, zf⟩ := D2.out.cells; obtain ⟨f0, f1, f2⟩ := X2.out.cells; clear d2 k2 D1 X1 G1)
                | (go_at_call 10; refine (RI.out _ D2.out G2.out).mono ?_; rintro x W3 ⟨ad3, c3, rfl, hl3, s3, b3⟩; have hq := cell_of_row _ _ 0 _ _ _ (blk_below D2.out.x b3); have hq1 := cell_of_row _ _ 1 _ _ _ (blk_below D2.out.x b3); have zq := fun i => frozen_of_row _ X i _ _ (blk_below D2.out.x b3); have D3 := Lib.hid (D2.out.storeNew b3 ((a : Int) + (m : Int)) (a' := a + m) (by omega) hl3 s3); dsimp at hq hq1; clear b3 s3 hl3 RI D2 X2 G2))
              go_meet
              exact ⟨_, _, _, _, _, _, Lib.hid (by have := HN.out; omega), D3⟩
            · have HE := Lib.hid (wantZ_e0 hm.out hwt2.out)
              go_wp2_with (go_at_call 9; refine (gd_insert_err D1.out wt hm.out (G1.out.mono fun k hk => hk.1) (by omega) HE.out hw0).mono ?_; rintro x W2 ⟨rfl, b2⟩; have D2 := Lib.hid (D1.out.below b2); clear b2)
              go_meet
              exact ⟨_, _, _, _, _, _, HN5, D2⟩
        have hb0 : (k == 0) = false := beq_eq_false_iff_ne.2 hk0
        by_cases hk1 : k = 1
        · as_aux_lemma =>
            subst hk1
            obtain ⟨f, hf⟩ : ∃ f, cutF a i = f := ⟨_, rfl⟩
            obtain ⟨t, ht⟩ : ∃ t, cutT n a i = t := ⟨_, rfl⟩
            obtain ⟨y, z, p, hy, hz, hz1, hz2, hp, hpf, hpt, hft, htn⟩ := cutpl a n i HA.out.1 HA.out.2 f t hf ht
            have C1 : Hid (∀ w, Calls Try.prog 13 #[.int .i64 i, .int .i64 (-100000)] w fun x w' => x = .returned (.int .i64 y) ∧ w = w') := Lib.hid fun w => by have := high_ref i (-100000) w; rw [hy] at this; exact this
            have C2 : Hid (∀ w, Calls Try.prog 12 #[.int .i64 y, .int .i64 100000] w fun x w' => x = .returned (.int .i64 z) ∧ w = w') := Lib.hid fun w => by have := low_ref y 100000 w; rw [hz] at this; exact this
            have C3 : Hid (∀ w, Calls Try.prog 11 #[.int .i64 (n : Int), .int .i64 ((a : Int) + z)] w fun x w' => x = .returned (.int .i64 (p : Int)) ∧ w = w') := Lib.hid fun w => by have := place_ref n ((a : Int) + z) w; rw [hp] at this; exact this
            have C4 : Hid (∀ w, Calls Try.prog 12 #[.int .i64 (a : Int), .int .i64 (p : Int)] w fun x w' => x = .returned (.int .i64 (f : Int)) ∧ w = w') := Lib.hid fun w => by have := low_ref a p w; rw [hpf] at this; exact this
            have C5 : Hid (∀ w, Calls Try.prog 13 #[.int .i64 (a : Int), .int .i64 (p : Int)] w fun x w' => x = .returned (.int .i64 (t : Int)) ∧ w = w') := Lib.hid fun w => by have := high_ref a p w; rw [hpt] at this; exact this
            have hai : (a : Int) ≤ 65536 := by have := HA.out; omega
            have hwr : IntKind.i64.wrap ((a : Int) + z) = (a : Int) + z := by rw [IntKind.wrap_i64]; omega
            have HF := Lib.hid hf
            have HT := Lib.hid ht
            have hnc := gd_room D1.out
            obtain ⟨A1, hA1⟩ : ∃ x : Option Addr, (if c = f then ad else ad.map (·.add (f * 2))) = x := ⟨_, rfl⟩
            have HA1 := Lib.hid hA1
            have hcut : ∀ w : World, (Instr.slice 28 (.slice ad n c) (some (.int .i64 (f : Int))) (some (.int .i64 (t : Int))) none).run Try.prog w = .ok (.slice A1 (t - f) (c - f)) w := fun w => by
              rw [run_cutLH w ad n c f t hft (by omega), hA1]
            clear hf ht hy hz hp hpf hpt hA1
            go_upto_region 30 with fail
            go_quiet ((first | (go_at_call 13; exact qsy0 (C1.out _)) | (go_at_call 12; exact qsy0 (C2.out _)) | (go_at_call 11; exact qsy0 (C3.out _))))
            clear C1 C2 C3 hwr
            go_upto_region 33 with (first
              | (go_at_call 12; refine (C4.out _).mono ?_; rintro x w2 ⟨rfl, h2⟩; subst h2)
              | (go_at_call 13; refine (C5.out _).mono ?_; rintro x w3 ⟨rfl, h3⟩; subst h3))
            clear C4 C5
            have bq : Below wc.heap.size wc (wc.drewN (nq + 1)) := drewN_below (Below.refl _ _) (nq + 1)
            have Dq := Lib.hid (D1.out.below bq)
            have Xq := Lib.hid (X1.out.below bq)
            clear bq D1 X1 G1
            go_region_held3 (fun w' => w'.cell? ⟨X, 0, none⟩ = some (.slice ad n c) ∧ w'.cell? ⟨C, 1, none⟩ = some (.int .i64 i)) (first | exact ⟨e0, f1⟩ | exact ⟨e04, f14⟩ | exact ⟨e05, f15⟩ | go_keep)
              (first
                | (go_at_call 15; (with_reducible refine (gd_cut Dq.out i hi.out.1 hi.out.2 f t HF.out HT.out).mono ?_); rintro x w4 ⟨bd4, rfl, s4, d4, k4⟩; have S4 := Lib.hid s4; have D4 := Lib.hid d4; have X4 := Lib.hid (Xq.out.kept k4); have e04 := D4.out.cells.1; have f14 := X4.out.cells.2.1; clear s4 d4 k4)
                | (go_at_call 14; (with_reducible refine (gd_csame D4.out bd4 f t hft htn HA.out.2 S4.out A1 HA1.out).mono ?_); rintro x w5 ⟨rfl, b5⟩; have D5 := Lib.hid (D4.out.below b5); have X5 := Lib.hid (X4.out.below b5); obtain ⟨e05, e15, zf5⟩ := D5.out.cells; have f15 := X5.out.cells.2.1; clear b5))
            clear e04 f14 Dq Xq D4 X4 S4 e0 e1 f0 f1 f2 zf hcut hnc
            have RW := Lib.hid (rwout_any _ L ad c n f t (a : Int) w5 D5.out.hn (by have := HA.out; omega) hft htn D5.out.sl)
            go_wp2_with (go_at_call 16; refine RW.out.mono ?_; rintro x W6 ⟨ad6, c6, rfl, hl6, s6, b6⟩; have hq := cell_of_row _ _ 0 _ _ _ (blk_below D5.out.x b6); have hq1 := cell_of_row _ _ 1 _ _ _ (blk_below D5.out.x b6); have zq := fun i => frozen_of_row _ X i _ _ (blk_below D5.out.x b6); have D6 := Lib.hid (D5.out.storeNew b6 (f : Int) (a' := f) rfl hl6 s6); dsimp at hq hq1; clear b6 s6 hl6 RW D5 X5)
            go_meet
            exact ⟨_, _, _, _, _, _, Lib.hid (by have := HN.out; omega), D6⟩
        have hb1 : (k == 1) = false := beq_eq_false_iff_ne.2 hk1
        by_cases hk2 : k = 2
        · as_aux_lemma =>
            subst hk2
            obtain ⟨q, hq0⟩ : ∃ q, mvT n i = q := ⟨_, rfl⟩
            have PL := Lib.hid fun w => place_ref n i w
            rw [hq0] at PL
            have MV := gd_move D1.out i hi.out.2
            rw [hq0] at MV
            replace MV := Lib.hid MV
            clear hq0
            go_wp2_with (first
              | (go_at_call 17; refine MV.out.mono ?_; rintro x W2 ⟨rfl, d2, k2⟩; have D2 := Lib.hid d2; have X2 := Lib.hid (X1.out.kept k2); obtain ⟨e0, e1, zf⟩ := D2.out.cells; obtain ⟨f0, f1, f2⟩ := X2.out.cells; have D3 := Lib.hid (D2.out.storeA q); clear d2 k2 D1 X1 G1 MV)
              | (go_at_call 11; refine (PL.out _).mono ?_; rintro x w3 ⟨rfl, h3⟩; subst h3))
            go_meet
            exact ⟨_, _, _, _, _, _, HN5, D3⟩
        have hb2 : (k == 2) = false := beq_eq_false_iff_ne.2 hk2
        by_cases hk3 : k = 3
        · as_aux_lemma =>
            subst hk3
            by_cases hw0 : wt = 0
            · subst hw0
              have hfit := Lib.hid (wantZ_3 hwt2.out)
              obtain ⟨q, hq0⟩ : ∃ q, mvT m i = q := ⟨_, rfl⟩
              have PL := Lib.hid fun w => place_ref m i w
              rw [hq0] at PL
              have ST := gd_set D1.out i hm.out (G1.out.mono fun k hk => hk.1) hfit.out.1 hfit.out.2 hi.out.2
              rw [hq0] at ST
              replace ST := Lib.hid ST
              have hXC := Lib.hid (Ne.symm X1.out.ne)
              clear hq0
              go_upto_region 43 with (go_at_call 18; refine ST.out.mono ?_; rintro x W2 ⟨rfl, d2, k2⟩; have D2 := Lib.hid d2; have X2 := Lib.hid (X1.out.kept k2); have G2 := Lib.hid (G1.out.keep k2.size (fun k hk => k2.block k hk.1)); obtain ⟨e0, e1, zf⟩ := D2.out.cells; obtain ⟨f0, f1, f2⟩ := X2.out.cells; clear d2 k2 D1 X1 G1 ST)
              have bd : Below W2.heap.size W2 W2.drew := (Below.refl _ _).drew
              have D3 := Lib.hid ((D2.out.below bd).store (q : Int) (a' := q) rfl hm.out (G2.out.below bd))
              clear bd D2 X2 G2
              go_region_held3 (fun w' => w'.cell? ⟨C, 1, none⟩ = some (.int .i64 i) ∧ w'.cell? ⟨C, 2, none⟩ = some (.slice sg.a m sg.c)) (first | exact ⟨f1, f2⟩ | exact ⟨(far2 hXC.out).trans f1, (far2 hXC.out).trans f2⟩ | go_keep)
                (first | (go_at_call 11; (with_reducible refine (PL.out _).mono ?_); rintro x w3 ⟨rfl, h3⟩; subst h3))
              go_wp2
              go_meet
              exact ⟨_, _, _, _, _, _, Lib.hid (by omega), D3⟩
            · have HE := Lib.hid (wantZ_e3 hm.out hwt2.out)
              go_wp2_with (go_at_call 18; refine (gd_set_err D1.out i wt hm.out (G1.out.mono fun k hk => hk.1) (by omega) HE.out hw0).mono ?_; rintro x W2 ⟨rfl, b2⟩; have D2 := Lib.hid (D1.out.below b2); clear b2)
              go_meet
              exact ⟨_, _, _, _, _, _, HN5, D2⟩
        · as_aux_lemma =>
            have hb3 : (k == 3) = false := beq_eq_false_iff_ne.2 hk3
            by_cases h0 : 0 ≤ i
            · by_cases hin : i < n
              · obtain ⟨p, rfl⟩ : ∃ p : Nat, i = (p : Int) := ⟨i.toNat, by omega⟩
                obtain ⟨v, u, b, o, rfl, g1, g2, hb, GT0⟩ := gd_get_in D1.out p (by omega)
                have GT := Lib.hid GT0
                clear GT0
                go_upto_region 22 with (go_at_call 19; refine GT.out.mono ?_; rintro x w2 ⟨rfl, b2⟩)
                have b3 := seqB b2 (below_alloc w2 (.cells #[.int .i64 v, .int .i64 u] 43))
                have q3 := heap_alloc_new w2 (.cells #[.int .i64 v, .int .i64 u] 43)
                obtain ⟨W3, hW3⟩ : ∃ W3, w2.alloc (.cells #[.int .i64 v, .int .i64 u] 43) = W3 := ⟨_, rfl⟩
                rw [hW3] at b3 q3 ⊢
                have D3 := Lib.hid (D1.out.below b3)
                have X3 := Lib.hid (X1.out.below b3)
                obtain ⟨e0, e1, zf⟩ := D3.out.cells
                obtain ⟨f0, f1, f2⟩ := X3.out.cells
                have g13 := (b3.cell (p := ⟨b, o + p * 2, none⟩) hb).trans g1
                have g23 := (b3.cell (p := ⟨b, o + p * 2 + 1, none⟩) hb).trans g2
                have yq := fun i => cell_of_row _ _ i _ _ _ q3
                have q0 := yq 0; have q1 := yq 1
                dsimp at q0 q1
                clear b2 b3 yq q3 GT D1 X1 G1 g1 g2 hb
                clear hW3
                go_quiet (fail)
                have D4 := Lib.hid (D3.out.below (drewN_below (Below.refl _ _) nq))
                go_wp2_with fail
                go_meet
                exact ⟨_, _, _, _, _, _, HN5, D4⟩
              · have hin2 : decide (i < (n : Int)) = false := decide_eq_false hin
                have h02 : decide (0 ≤ i) = true := decide_eq_true h0
                have GT := Lib.hid (gd_get_out D1.out i (Or.inr (by omega)))
                go_upto_region 22 with (go_at_call 19; refine GT.out.mono ?_; rintro x w2 ⟨rfl, b2⟩)
                have b3 := seqB b2 (below_alloc w2 (.cells #[.int .i64 0, .int .i64 0] 43))
                have q3 := heap_alloc_new w2 (.cells #[.int .i64 0, .int .i64 0] 43)
                obtain ⟨W3, hW3⟩ : ∃ W3, w2.alloc (.cells #[.int .i64 0, .int .i64 0] 43) = W3 := ⟨_, rfl⟩
                rw [hW3] at b3 q3 ⊢
                have D3 := Lib.hid (D1.out.below b3)
                have X3 := Lib.hid (X1.out.below b3)
                obtain ⟨e0, e1, zf⟩ := D3.out.cells
                obtain ⟨f0, f1, f2⟩ := X3.out.cells
                have yq := fun i => cell_of_row _ _ i _ _ _ q3
                have q0 := yq 0; have q1 := yq 1
                dsimp at q0 q1
                clear b2 b3 yq q3 GT D1 X1 G1 hW3
                go_quiet (fail)
                have D4 := Lib.hid (D3.out.below (drewN_below (Below.refl _ _) nq))
                go_wp2_with fail
                go_meet
                exact ⟨_, _, _, _, _, _, HN5, D4⟩
            · have h02 : decide (0 ≤ i) = false := decide_eq_false h0
              have GT := Lib.hid (gd_get_out D1.out i (Or.inl (by omega)))
              go_upto_region 22 with (go_at_call 19; refine GT.out.mono ?_; rintro x w2 ⟨rfl, b2⟩)
              have b3 := seqB b2 (below_alloc w2 (.cells #[.int .i64 0, .int .i64 0] 43))
              have q3 := heap_alloc_new w2 (.cells #[.int .i64 0, .int .i64 0] 43)
              obtain ⟨W3, hW3⟩ : ∃ W3, w2.alloc (.cells #[.int .i64 0, .int .i64 0] 43) = W3 := ⟨_, rfl⟩
              rw [hW3] at b3 q3 ⊢
              have D3 := Lib.hid (D1.out.below b3)
              have X3 := Lib.hid (X1.out.below b3)
              obtain ⟨e0, e1, zf⟩ := D3.out.cells
              obtain ⟨f0, f1, f2⟩ := X3.out.cells
              have yq := fun i => cell_of_row _ _ i _ _ _ q3
              have q0 := yq 0; have q1 := yq 1
              dsimp at q0 q1
              clear b2 b3 yq q3 GT D1 X1 G1 hW3
              go_quiet (fail)
              have D4 := Lib.hid (D3.out.below (drewN_below (Below.refl _ _) nq))
              go_wp2_with fail
              go_meet
              exact ⟨_, _, _, _, _, _, HN5, D4⟩
      case rest =>
        as_aux_lemma =>
          obtain ⟨T5, L5, n5, a5, ad5, c5, HN6, D5⟩ := hcut
          have hbig : Hid (n5 ≤ 1000000) := Lib.hid (by have := HN6.out; omega)
          clear e0 e1 zf f0 f1 f2 D1 X1 G1 hwt2 HA hnB HN HN5
          have Dd := Lib.hid (D5.out.below (Below.refl _ _).drew)
          have y0 := Dd.out.cells.1
          have y1 := Dd.out.cells.2.1
          clear D5
          go_upto_region 44 with fail
          go_region_held3 (fun w' => w'.cell? ⟨X, 0, none⟩ = some (.slice ad5 n5 c5) ∧ w'.cell? ⟨X, 1, none⟩ = some (.int .i64 (a5 : Int))) (first | exact ⟨y0, y1⟩ | exact ⟨y06, y16⟩ | exact ⟨y08, y18⟩ | exact ⟨y09, y19⟩ | exact ⟨y0a, y1a⟩ | exact ⟨y0b, y1b⟩ | go_keep)
            (first
              | (go_at_call 20; (with_reducible refine (gd_len Dd.out).mono ?_); rintro x w6 ⟨rfl, b6⟩; have D6 := Lib.hid (Dd.out.below b6); have y06 := D6.out.cells.1; have y16 := D6.out.cells.2.1; clear b6)
              | (go_at_call 21; (with_reducible refine (gd_at D6.out).mono ?_); rintro x w7 ⟨rfl, b7⟩; subst b7)
              | (go_at_call 22; (with_reducible refine (gd_all D6.out).mono ?_); rintro x w8 ⟨bd8, rfl, s8, b8⟩; have D8 := Lib.hid (D6.out.below b8); have S8 := Lib.hid s8; have y08 := D8.out.cells.1; have y18 := D8.out.cells.2.1; clear b8 s8)
              | (go_at_call 14; (with_reducible refine (gd_same D8.out bd8 n5 S8.out hbig.out).mono ?_); rintro x w9 ⟨rfl, b9⟩; have D9 := Lib.hid (D8.out.below b9); have y09 := D9.out.cells.1; have y19 := D9.out.cells.2.1; clear b9)
              | (go_at_call 24; (with_reducible refine (gd_line D9.out).mono ?_); rintro x wa ⟨bda, rfl, sa, ba⟩; have Da := Lib.hid (D9.out.below ba); have Sa := Lib.hid sa; have y0a := Da.out.cells.1; have y1a := Da.out.cells.2.1; clear ba sa)
              | (go_at_call 23; (with_reducible refine (gd_lsame Da.out bda n5 Sa.out hbig.out).mono ?_); rintro x wb ⟨rfl, bb⟩; have Db := Lib.hid (Da.out.below bb); have y0b := Db.out.cells.1; have y1b := Db.out.cells.2.1; clear bb))
          clear y0 y1 y06 y16 y08 y18 y09 y19 y0a y1a y0b y1b
          go_wp2
          go_roundw
          case rel => exact ⟨j + 1, T5, L5, n5, a5, ad5, c5, by omega, by omega, by go_num, HN6, Db⟩
          case measure => (simp [intOf]; try omega)
end Go.Proofs.Ytfmcgdjjcdlmeaa
