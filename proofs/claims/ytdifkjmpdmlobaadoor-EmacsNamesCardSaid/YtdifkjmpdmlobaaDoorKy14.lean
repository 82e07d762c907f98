/-
  Keys: which key a name is of.
-/
import Derived.Test.YtdifkjmpdmlobaaDoorKy13
import Derived.Test.YtdifkjmpdmlobaaDoorKy10
set_option linter.unusedVariables false
set_option linter.unusedSimpArgs false
namespace Go.Proofs.YtdifkjmpdmlobaaDoor
set_option maxRecDepth 100000
open Go.RowKit
theorem kpre_any (s : ByteArray) (p : List UInt8) (b : Bool) (h : Lib.hasPrefix s.data.toList p = b) (w : World) : Calls Tryd.prog 124 #[.string s, .string (mkS p)] w fun e w' => e = .returned (.bool b) ∧ w = w' :=
  (Tryd.strings_HasPrefix s (mkS p) w).mono fun e w' hh => ⟨by rw [hh.1, ← h], hh.2.symm⟩
theorem kpsOf_t (s : ByteArray) (k : Ky) (h : psOf s.data.toList = k) (w : World) (hs : s.size ≤ 900000) : Calls Tryd.prog 125 #[.string s] w fun e w' => e = .returned (.agg #[.int .i64 k.1, .int .i64 k.2.1, .string k.2.2.1, .bool k.2.2.2]) ∧ Below w.heap.size w w' := by
  subst h; exact kpsOf_any s w hs
set_option maxHeartbeats 8000000 in
set_option maxRecDepth 100000 in
theorem kkeyOf_any (s : ByteArray) (w : World) (hK : KT w) (hs : s.size ≤ 900000) : Calls Tryd.prog 106 #[.string s] w fun e w' => e = .returned (kyV (kyOf s.data.toList)) ∧ Below w.heap.size w w' := by
  have B0 := below_alloc w (.cells #[.int .i64 0, .int .i64 0, .string ⟨#[]⟩, .bool false] 107)
  have hq := heap_alloc_new w (.cells #[.int .i64 0, .int .i64 0, .string ⟨#[]⟩, .bool false] 107)
  obtain ⟨W0, hW0⟩ : ∃ W0, w.alloc (.cells #[.int .i64 0, .int .i64 0, .string ⟨#[]⟩, .bool false] 107) = W0 := ⟨_, rfl⟩
  rw [hW0] at B0 hq
  have hld := Lib.hid (hK.below B0)
  replace hq := Lib.hid hq
  obtain ⟨R, hR⟩ : ∃ R, kyOf s.data.toList = R := ⟨_, rfl⟩
  have HR := Lib.hid hR
  rw [hR]
  clear hK hR
  go_enter Tryd.func106, Tryd.ntmps106
  go_upto_region 1 with fail
  clear hW0
  go_wp2_with (with_reducible refine wpList_load_kt hld.out ?_)
  clear hld
  go_loopw [7] (fun iv wr => ∃ k : Nat, k ≤ 13 ∧ iv = .int .i64 (k : Int) ∧ Hid (kNFrom s.data.toList k = kNamed s.data.toList) ∧ Below W0.heap.size W0 wr) (fun iv _ => 13 - (intOf iv).toNat)
  case atStart => exact ⟨0, by omega, rfl, Lib.hid rfl, Below.refl _ _⟩
  case round =>
    obtain ⟨k, hk, rfl, HE, hb⟩ := hrel
    have hsz := hb.size
    have q := blk_below hq.out hb
    have NB := Lib.hid (seqB B0 hb)
    by_cases hlt : k < 13
    · have hk0 : (0 : Int) ≤ k := by omega
      have hk1 : (k : Int) < 13 := by omega
      have hix := fun w => kIdx k hlt w
      obtain ⟨r, hr⟩ : ∃ r, kTab.getD k kr0 = r := ⟨_, rfl⟩
      rw [hr] at hix
      obtain ⟨a, b, c, d⟩ := r
      rw [rowV_eq] at hix
      have B1 := below_alloc wr (.cells #[.int .i64 a, .int .i64 b, .string ⟨c.toArray⟩, .string ⟨d.toArray⟩] 170)
      by_cases he : mkS c = s
      · have HN := kN_hit HE.out hlt hr (mkS_eq he)
        have HF : Hid (kyV R = .agg #[.int .i64 a, .int .i64 b, .string ⟨#[]⟩, .bool false]) := Lib.hid (by rw [← HR.out, kyOf_named HN]; rfl)
        have q1 := blk_below q B1
        have zf := fun i => frozen_of_row _ w.heap.size i _ _ q1
        have zz := fun i => cell_of_row _ _ i _ _ _ q1
        have z0 := zz 0; have z1 := zz 1; have z2 := zz 2; have z3 := zz 3
        dsimp at z0 z1 z2 z3
        have NF := Lib.hid (four_below _ w w.heap.size (.int .i64 a) (.int .i64 b) (.string ⟨#[]⟩) (.bool false) (Nat.le_refl _) (seqB NB.out B1))
        have hfin := Lib.hid (four_set q1 (.int .i64 a) (.int .i64 b) (.string ⟨#[]⟩) (.bool false))
        have he' : (⟨c.toArray⟩ : ByteArray) = s := he
        have hse : ((⟨c.toArray⟩ : ByteArray).toList == s.toList) = true := by rw [he']; simp
        have hse2 : (⟨c.toArray⟩ : ByteArray).toList = s.toList := by rw [he']
        clear zz q q1 HE HN he he'
        go_wp2
        generalize hWF : World.setCell _ _ _ = WF
        have hqf : WF.heap[w.heap.size]? = some (.cells #[.int .i64 a, .int .i64 b, .string ⟨#[]⟩, .bool false] 107 (0, 0)) := by rw [← hWF]; exact hfin.out
        have hN : Below w.heap.size w WF := by rw [← hWF]; exact NF.out
        have y := fun i => cell_of_row _ _ i _ _ _ hqf
        have y0 := y 0; have y1 := y 1; have y2 := y 2; have y3 := y 3
        dsimp at y0 y1 y2 y3
        clear y hqf hWF
        refine bodyPost_ret (v := .agg #[.int .i64 a, .int .i64 b, .string ⟨#[]⟩, .bool false]) (by simp [results, Tryd.results106, go_sem, y0, y1, y2, y3]) rfl ?_
        rw [HF.out]
        exact ⟨rfl, hN⟩
      · have HF := Lib.hid (kN_miss HE.out hlt hr (fun h => he (by rw [show c = s.data.toList from h, mkS_of])))
        obtain ⟨s1, s2, s3⟩ := kstr_ne (show ¬ (⟨c.toArray⟩ : ByteArray) = s from he)
        rw [show (⟨c.toArray⟩ : ByteArray).toList = c by rw [ByteArray.toList_eq]] at s1 s2 s3
        clear HE hr q he
        go_wp2
        go_roundw
        case rel => exact ⟨k + 1, by omega, by go_num, HF, hb.trans (B1.mono hsz)⟩
        case measure => (simp [intOf]; try omega)
    · obtain rfl : k = 13 := by omega
      have HN := kN_end HE.out
      clear HE
      obtain ⟨p1, hp1⟩ : ∃ b, Lib.hasPrefix s.data.toList [80, 45] = b := ⟨_, rfl⟩
      obtain ⟨p2, hp2⟩ : ∃ b, Lib.hasPrefix s.data.toList [77, 45, 67, 45] = b := ⟨_, rfl⟩
      obtain ⟨p3, hp3⟩ : ∃ b, Lib.hasPrefix s.data.toList [77, 45] = b := ⟨_, rfl⟩
      obtain ⟨p4, hp4⟩ : ∃ b, Lib.hasPrefix s.data.toList [67, 45] = b := ⟨_, rfl⟩
      have P1 := Lib.hid (kpre_any s _ _ hp1)
      have P2 := Lib.hid (kpre_any s _ _ hp2)
      have P3 := Lib.hid (kpre_any s _ _ hp3)
      have P4 := Lib.hid (kpre_any s _ _ hp4)
      by_cases h2 : 2 < s.size
      · have h2i : (2 : Int) < s.size := by omega
        have hrest := rest2_list s
        have hrs : (s.extract 2 s.size).size ≤ 900000 := by rw [ByteArray.size_extract]; omega
        cases p1 with
        | true =>
          have RS := kyOf_p HN hp1
          rw [← hrest] at RS
          obtain ⟨pk, hpk⟩ : ∃ pk, psOf (s.extract 2 s.size : ByteArray).data.toList = pk := ⟨_, rfl⟩
          have C := Lib.hid fun w => kpsOf_t _ _ hpk w hrs
          have HF : Hid (kyV R = .agg #[.int .i64 pk.1, .int .i64 pk.2.1, .string pk.2.2.1, .bool pk.2.2.2]) := Lib.hid (by rw [← HR.out, RS]; unfold rest2 at *; rw [hpk]; rfl)
          clear RS hpk
          clear HN hrest hrs
          clear hp1 hp2 hp3 hp4
          go_wp2_with (first | (go_at_call 124; (first | (with_reducible refine (P1.out _).mono ?_) | (with_reducible refine (P2.out _).mono ?_) | (with_reducible refine (P3.out _).mono ?_) | (with_reducible refine (P4.out _).mono ?_)); rintro e w2 ⟨rfl, rfl⟩) | (go_at_call 125; refine (C.out _).mono ?_; rintro e w3 ⟨rfl, hb3⟩; have q3 := blk_below q hb3; have NF := Lib.hid (four_below w3 w w.heap.size (.int .i64 pk.1) (.int .i64 pk.2.1) (.string pk.2.2.1) (.bool pk.2.2.2) (Nat.le_refl _) (seqB NB.out hb3)); have hfin := Lib.hid (four_set q3 (.int .i64 pk.1) (.int .i64 pk.2.1) (.string pk.2.2.1) (.bool pk.2.2.2)); have zf := fun i => frozen_of_row _ w.heap.size i _ _ q3; have zz := fun i => cell_of_row _ _ i _ _ _ q3; have z0 := zz 0; have z1 := zz 1; have z2 := zz 2; have z3 := zz 3; dsimp at z0 z1 z2 z3; clear zz q3))
          generalize hWF : World.setCell _ _ _ = WF
          have hqf : WF.heap[w.heap.size]? = some (.cells #[.int .i64 pk.1, .int .i64 pk.2.1, .string pk.2.2.1, .bool pk.2.2.2] 107 (0, 0)) := by rw [← hWF]; exact hfin.out
          have hN : Below w.heap.size w WF := by rw [← hWF]; exact NF.out
          have y := fun i => cell_of_row _ _ i _ _ _ hqf
          have y0 := y 0; have y1 := y 1; have y2 := y 2; have y3 := y 3
          dsimp at y0 y1 y2 y3
          clear y hqf hWF
          refine bodyPost_ret (v := .agg #[.int .i64 pk.1, .int .i64 pk.2.1, .string pk.2.2.1, .bool pk.2.2.2]) (by simp [results, Tryd.results106, go_sem, y0, y1, y2, y3]) rfl ?_
          rw [HF.out]
          exact ⟨rfl, hN⟩
        | false =>
          cases p2 with
          | true =>
            have RS := kyOf_mc HN hp1 hp2
            rw [← hrest] at RS
            unfold rest2 at RS
            have C := fun w => kctOf_any (s.extract 2 s.size) w
            generalize ctOf (s.extract 2 s.size : ByteArray).data.toList = v at *
            have HF : Hid (kyV R = .agg #[.int .i64 3, .int .i64 v, .string ⟨#[]⟩, .bool false]) := Lib.hid (by rw [← HR.out, RS]; rfl)
            replace C := Lib.hid C
            clear RS
            clear HN hrest hrs
            clear hp1 hp2 hp3 hp4
            go_wp2_with (first | (go_at_call 124; (first | (with_reducible refine (P1.out _).mono ?_) | (with_reducible refine (P2.out _).mono ?_) | (with_reducible refine (P3.out _).mono ?_) | (with_reducible refine (P4.out _).mono ?_)); rintro e w2 ⟨rfl, rfl⟩) | (go_at_call 126; refine (C.out _).mono ?_; rintro e w3 ⟨rfl, hb3⟩; have q3 := blk_below q hb3; have NF := Lib.hid (four_below w3 w w.heap.size (.int .i64 3) (.int .i64 v) (.string ⟨#[]⟩) (.bool false) (Nat.le_refl _) (seqB NB.out hb3)); have hfin := Lib.hid (four_set q3 (.int .i64 3) (.int .i64 v) (.string ⟨#[]⟩) (.bool false)); have zf := fun i => frozen_of_row _ w.heap.size i _ _ q3; have zz := fun i => cell_of_row _ _ i _ _ _ q3; have z0 := zz 0; have z1 := zz 1; have z2 := zz 2; have z3 := zz 3; dsimp at z0 z1 z2 z3; clear zz q3))
            generalize hWF : World.setCell _ _ _ = WF
            have hqf : WF.heap[w.heap.size]? = some (.cells #[.int .i64 3, .int .i64 v, .string ⟨#[]⟩, .bool false] 107 (0, 0)) := by rw [← hWF]; exact hfin.out
            have hN : Below w.heap.size w WF := by rw [← hWF]; exact NF.out
            have y := fun i => cell_of_row _ _ i _ _ _ hqf
            have y0 := y 0; have y1 := y 1; have y2 := y 2; have y3 := y 3
            dsimp at y0 y1 y2 y3
            clear y hqf hWF
            refine bodyPost_ret (v := .agg #[.int .i64 3, .int .i64 v, .string ⟨#[]⟩, .bool false]) (by simp [results, Tryd.results106, go_sem, y0, y1, y2, y3]) rfl ?_
            rw [HF.out]
            exact ⟨rfl, hN⟩
          | false =>
            cases p3 with
            | true =>
              have RS := kyOf_m HN hp1 hp2 hp3
              rw [← hrest] at RS
              unfold rest2 at RS
              have C := fun w => ksgOf_any (s.extract 2 s.size) w hrs
              generalize sgOf (s.extract 2 s.size : ByteArray).data.toList = v at *
              have HF : Hid (kyV R = .agg #[.int .i64 3, .int .i64 v, .string ⟨#[]⟩, .bool false]) := Lib.hid (by rw [← HR.out, RS]; rfl)
              replace C := Lib.hid C
              clear RS
              clear HN hrest hrs
              clear hp1 hp2 hp3 hp4
              go_wp2_with (first | (go_at_call 124; (first | (with_reducible refine (P1.out _).mono ?_) | (with_reducible refine (P2.out _).mono ?_) | (with_reducible refine (P3.out _).mono ?_) | (with_reducible refine (P4.out _).mono ?_)); rintro e w2 ⟨rfl, rfl⟩) | (go_at_call 127; refine (C.out _).mono ?_; rintro e w3 ⟨rfl, hb3⟩; have q3 := blk_below q hb3; have NF := Lib.hid (four_below w3 w w.heap.size (.int .i64 3) (.int .i64 v) (.string ⟨#[]⟩) (.bool false) (Nat.le_refl _) (seqB NB.out hb3)); have hfin := Lib.hid (four_set q3 (.int .i64 3) (.int .i64 v) (.string ⟨#[]⟩) (.bool false)); have zf := fun i => frozen_of_row _ w.heap.size i _ _ q3; have zz := fun i => cell_of_row _ _ i _ _ _ q3; have z0 := zz 0; have z1 := zz 1; have z2 := zz 2; have z3 := zz 3; dsimp at z0 z1 z2 z3; clear zz q3))
              generalize hWF : World.setCell _ _ _ = WF
              have hqf : WF.heap[w.heap.size]? = some (.cells #[.int .i64 3, .int .i64 v, .string ⟨#[]⟩, .bool false] 107 (0, 0)) := by rw [← hWF]; exact hfin.out
              have hN : Below w.heap.size w WF := by rw [← hWF]; exact NF.out
              have y := fun i => cell_of_row _ _ i _ _ _ hqf
              have y0 := y 0; have y1 := y 1; have y2 := y 2; have y3 := y 3
              dsimp at y0 y1 y2 y3
              clear y hqf hWF
              refine bodyPost_ret (v := .agg #[.int .i64 3, .int .i64 v, .string ⟨#[]⟩, .bool false]) (by simp [results, Tryd.results106, go_sem, y0, y1, y2, y3]) rfl ?_
              rw [HF.out]
              exact ⟨rfl, hN⟩
            | false =>
              cases p4 with
              | true =>
                have RS := kyOf_c HN hp1 hp2 hp3 hp4
                have C := fun w => kctOf_any (s) w
                generalize ctOf (s : ByteArray).data.toList = v at *
                have HF : Hid (kyV R = .agg #[.int .i64 2, .int .i64 v, .string ⟨#[]⟩, .bool false]) := Lib.hid (by rw [← HR.out, RS]; rfl)
                replace C := Lib.hid C
                clear RS
                clear HN hrest hrs
                clear hp1 hp2 hp3 hp4
                go_wp2_with (first | (go_at_call 124; (first | (with_reducible refine (P1.out _).mono ?_) | (with_reducible refine (P2.out _).mono ?_) | (with_reducible refine (P3.out _).mono ?_) | (with_reducible refine (P4.out _).mono ?_)); rintro e w2 ⟨rfl, rfl⟩) | (go_at_call 126; refine (C.out _).mono ?_; rintro e w3 ⟨rfl, hb3⟩; have q3 := blk_below q hb3; have NF := Lib.hid (four_below w3 w w.heap.size (.int .i64 2) (.int .i64 v) (.string ⟨#[]⟩) (.bool false) (Nat.le_refl _) (seqB NB.out hb3)); have hfin := Lib.hid (four_set q3 (.int .i64 2) (.int .i64 v) (.string ⟨#[]⟩) (.bool false)); have zf := fun i => frozen_of_row _ w.heap.size i _ _ q3; have zz := fun i => cell_of_row _ _ i _ _ _ q3; have z0 := zz 0; have z1 := zz 1; have z2 := zz 2; have z3 := zz 3; dsimp at z0 z1 z2 z3; clear zz q3))
                generalize hWF : World.setCell _ _ _ = WF
                have hqf : WF.heap[w.heap.size]? = some (.cells #[.int .i64 2, .int .i64 v, .string ⟨#[]⟩, .bool false] 107 (0, 0)) := by rw [← hWF]; exact hfin.out
                have hN : Below w.heap.size w WF := by rw [← hWF]; exact NF.out
                have y := fun i => cell_of_row _ _ i _ _ _ hqf
                have y0 := y 0; have y1 := y 1; have y2 := y 2; have y3 := y 3
                dsimp at y0 y1 y2 y3
                clear y hqf hWF
                refine bodyPost_ret (v := .agg #[.int .i64 2, .int .i64 v, .string ⟨#[]⟩, .bool false]) (by simp [results, Tryd.results106, go_sem, y0, y1, y2, y3]) rfl ?_
                rw [HF.out]
                exact ⟨rfl, hN⟩
              | false =>
                have RS := kyOf_s HN hp1 hp2 hp3 hp4
                have C := fun w => ksgOf_any (s) w hs
                generalize sgOf (s : ByteArray).data.toList = v at *
                have HF : Hid (kyV R = .agg #[.int .i64 1, .int .i64 v, .string ⟨#[]⟩, .bool false]) := Lib.hid (by rw [← HR.out, RS]; rfl)
                replace C := Lib.hid C
                clear RS
                clear HN hrest hrs
                clear hp1 hp2 hp3 hp4
                go_wp2_with (first | (go_at_call 124; (first | (with_reducible refine (P1.out _).mono ?_) | (with_reducible refine (P2.out _).mono ?_) | (with_reducible refine (P3.out _).mono ?_) | (with_reducible refine (P4.out _).mono ?_)); rintro e w2 ⟨rfl, rfl⟩) | (go_at_call 127; refine (C.out _).mono ?_; rintro e w3 ⟨rfl, hb3⟩; have q3 := blk_below q hb3; have NF := Lib.hid (four_below w3 w w.heap.size (.int .i64 1) (.int .i64 v) (.string ⟨#[]⟩) (.bool false) (Nat.le_refl _) (seqB NB.out hb3)); have hfin := Lib.hid (four_set q3 (.int .i64 1) (.int .i64 v) (.string ⟨#[]⟩) (.bool false)); have zf := fun i => frozen_of_row _ w.heap.size i _ _ q3; have zz := fun i => cell_of_row _ _ i _ _ _ q3; have z0 := zz 0; have z1 := zz 1; have z2 := zz 2; have z3 := zz 3; dsimp at z0 z1 z2 z3; clear zz q3))
                generalize hWF : World.setCell _ _ _ = WF
                have hqf : WF.heap[w.heap.size]? = some (.cells #[.int .i64 1, .int .i64 v, .string ⟨#[]⟩, .bool false] 107 (0, 0)) := by rw [← hWF]; exact hfin.out
                have hN : Below w.heap.size w WF := by rw [← hWF]; exact NF.out
                have y := fun i => cell_of_row _ _ i _ _ _ hqf
                have y0 := y 0; have y1 := y 1; have y2 := y 2; have y3 := y 3
                dsimp at y0 y1 y2 y3
                clear y hqf hWF
                refine bodyPost_ret (v := .agg #[.int .i64 1, .int .i64 v, .string ⟨#[]⟩, .bool false]) (by simp [results, Tryd.results106, go_sem, y0, y1, y2, y3]) rfl ?_
                rw [HF.out]
                exact ⟨rfl, hN⟩
      · have h2i : ¬ (2 : Int) < s.size := by omega
        have hrest := rest2_list s
        rw [rest2_nil s h2] at hrest
        have hrs : (⟨#[]⟩ : ByteArray).size ≤ 900000 := by decide
        cases p1 with
        | true =>
          have RS := kyOf_p HN hp1
          rw [← hrest] at RS
          obtain ⟨pk, hpk⟩ : ∃ pk, psOf (⟨#[]⟩ : ByteArray).data.toList = pk := ⟨_, rfl⟩
          have C := Lib.hid fun w => kpsOf_t _ _ hpk w hrs
          have HF : Hid (kyV R = .agg #[.int .i64 pk.1, .int .i64 pk.2.1, .string pk.2.2.1, .bool pk.2.2.2]) := Lib.hid (by rw [← HR.out, RS, hpk]; rfl)
          clear RS hpk
          clear HN hrest hrs
          clear hp1 hp2 hp3 hp4
          go_wp2_with (first | (go_at_call 124; (first | (with_reducible refine (P1.out _).mono ?_) | (with_reducible refine (P2.out _).mono ?_) | (with_reducible refine (P3.out _).mono ?_) | (with_reducible refine (P4.out _).mono ?_)); rintro e w2 ⟨rfl, rfl⟩) | (go_at_call 125; refine (C.out _).mono ?_; rintro e w3 ⟨rfl, hb3⟩; have q3 := blk_below q hb3; have NF := Lib.hid (four_below w3 w w.heap.size (.int .i64 pk.1) (.int .i64 pk.2.1) (.string pk.2.2.1) (.bool pk.2.2.2) (Nat.le_refl _) (seqB NB.out hb3)); have hfin := Lib.hid (four_set q3 (.int .i64 pk.1) (.int .i64 pk.2.1) (.string pk.2.2.1) (.bool pk.2.2.2)); have zf := fun i => frozen_of_row _ w.heap.size i _ _ q3; have zz := fun i => cell_of_row _ _ i _ _ _ q3; have z0 := zz 0; have z1 := zz 1; have z2 := zz 2; have z3 := zz 3; dsimp at z0 z1 z2 z3; clear zz q3))
          generalize hWF : World.setCell _ _ _ = WF
          have hqf : WF.heap[w.heap.size]? = some (.cells #[.int .i64 pk.1, .int .i64 pk.2.1, .string pk.2.2.1, .bool pk.2.2.2] 107 (0, 0)) := by rw [← hWF]; exact hfin.out
          have hN : Below w.heap.size w WF := by rw [← hWF]; exact NF.out
          have y := fun i => cell_of_row _ _ i _ _ _ hqf
          have y0 := y 0; have y1 := y 1; have y2 := y 2; have y3 := y 3
          dsimp at y0 y1 y2 y3
          clear y hqf hWF
          refine bodyPost_ret (v := .agg #[.int .i64 pk.1, .int .i64 pk.2.1, .string pk.2.2.1, .bool pk.2.2.2]) (by simp [results, Tryd.results106, go_sem, y0, y1, y2, y3]) rfl ?_
          rw [HF.out]
          exact ⟨rfl, hN⟩
        | false =>
          cases p2 with
          | true =>
            have RS := kyOf_mc HN hp1 hp2
            rw [← hrest] at RS
            have C := fun w => kctOf_any (⟨#[]⟩) w
            generalize ctOf (⟨#[]⟩ : ByteArray).data.toList = v at *
            have HF : Hid (kyV R = .agg #[.int .i64 3, .int .i64 v, .string ⟨#[]⟩, .bool false]) := Lib.hid (by rw [← HR.out, RS]; rfl)
            replace C := Lib.hid C
            clear RS
            clear HN hrest hrs
            clear hp1 hp2 hp3 hp4
            go_wp2_with (first | (go_at_call 124; (first | (with_reducible refine (P1.out _).mono ?_) | (with_reducible refine (P2.out _).mono ?_) | (with_reducible refine (P3.out _).mono ?_) | (with_reducible refine (P4.out _).mono ?_)); rintro e w2 ⟨rfl, rfl⟩) | (go_at_call 126; refine (C.out _).mono ?_; rintro e w3 ⟨rfl, hb3⟩; have q3 := blk_below q hb3; have NF := Lib.hid (four_below w3 w w.heap.size (.int .i64 3) (.int .i64 v) (.string ⟨#[]⟩) (.bool false) (Nat.le_refl _) (seqB NB.out hb3)); have hfin := Lib.hid (four_set q3 (.int .i64 3) (.int .i64 v) (.string ⟨#[]⟩) (.bool false)); have zf := fun i => frozen_of_row _ w.heap.size i _ _ q3; have zz := fun i => cell_of_row _ _ i _ _ _ q3; have z0 := zz 0; have z1 := zz 1; have z2 := zz 2; have z3 := zz 3; dsimp at z0 z1 z2 z3; clear zz q3))
            generalize hWF : World.setCell _ _ _ = WF
            have hqf : WF.heap[w.heap.size]? = some (.cells #[.int .i64 3, .int .i64 v, .string ⟨#[]⟩, .bool false] 107 (0, 0)) := by rw [← hWF]; exact hfin.out
            have hN : Below w.heap.size w WF := by rw [← hWF]; exact NF.out
            have y := fun i => cell_of_row _ _ i _ _ _ hqf
            have y0 := y 0; have y1 := y 1; have y2 := y 2; have y3 := y 3
            dsimp at y0 y1 y2 y3
            clear y hqf hWF
            refine bodyPost_ret (v := .agg #[.int .i64 3, .int .i64 v, .string ⟨#[]⟩, .bool false]) (by simp [results, Tryd.results106, go_sem, y0, y1, y2, y3]) rfl ?_
            rw [HF.out]
            exact ⟨rfl, hN⟩
          | false =>
            cases p3 with
            | true =>
              have RS := kyOf_m HN hp1 hp2 hp3
              rw [← hrest] at RS
              have C := fun w => ksgOf_any (⟨#[]⟩) w hrs
              generalize sgOf (⟨#[]⟩ : ByteArray).data.toList = v at *
              have HF : Hid (kyV R = .agg #[.int .i64 3, .int .i64 v, .string ⟨#[]⟩, .bool false]) := Lib.hid (by rw [← HR.out, RS]; rfl)
              replace C := Lib.hid C
              clear RS
              clear HN hrest hrs
              clear hp1 hp2 hp3 hp4
              go_wp2_with (first | (go_at_call 124; (first | (with_reducible refine (P1.out _).mono ?_) | (with_reducible refine (P2.out _).mono ?_) | (with_reducible refine (P3.out _).mono ?_) | (with_reducible refine (P4.out _).mono ?_)); rintro e w2 ⟨rfl, rfl⟩) | (go_at_call 127; refine (C.out _).mono ?_; rintro e w3 ⟨rfl, hb3⟩; have q3 := blk_below q hb3; have NF := Lib.hid (four_below w3 w w.heap.size (.int .i64 3) (.int .i64 v) (.string ⟨#[]⟩) (.bool false) (Nat.le_refl _) (seqB NB.out hb3)); have hfin := Lib.hid (four_set q3 (.int .i64 3) (.int .i64 v) (.string ⟨#[]⟩) (.bool false)); have zf := fun i => frozen_of_row _ w.heap.size i _ _ q3; have zz := fun i => cell_of_row _ _ i _ _ _ q3; have z0 := zz 0; have z1 := zz 1; have z2 := zz 2; have z3 := zz 3; dsimp at z0 z1 z2 z3; clear zz q3))
              generalize hWF : World.setCell _ _ _ = WF
              have hqf : WF.heap[w.heap.size]? = some (.cells #[.int .i64 3, .int .i64 v, .string ⟨#[]⟩, .bool false] 107 (0, 0)) := by rw [← hWF]; exact hfin.out
              have hN : Below w.heap.size w WF := by rw [← hWF]; exact NF.out
              have y := fun i => cell_of_row _ _ i _ _ _ hqf
              have y0 := y 0; have y1 := y 1; have y2 := y 2; have y3 := y 3
              dsimp at y0 y1 y2 y3
              clear y hqf hWF
              refine bodyPost_ret (v := .agg #[.int .i64 3, .int .i64 v, .string ⟨#[]⟩, .bool false]) (by simp [results, Tryd.results106, go_sem, y0, y1, y2, y3]) rfl ?_
              rw [HF.out]
              exact ⟨rfl, hN⟩
            | false =>
              cases p4 with
              | true =>
                have RS := kyOf_c HN hp1 hp2 hp3 hp4
                have C := fun w => kctOf_any (s) w
                generalize ctOf (s : ByteArray).data.toList = v at *
                have HF : Hid (kyV R = .agg #[.int .i64 2, .int .i64 v, .string ⟨#[]⟩, .bool false]) := Lib.hid (by rw [← HR.out, RS]; rfl)
                replace C := Lib.hid C
                clear RS
                clear HN hrest hrs
                clear hp1 hp2 hp3 hp4
                go_wp2_with (first | (go_at_call 124; (first | (with_reducible refine (P1.out _).mono ?_) | (with_reducible refine (P2.out _).mono ?_) | (with_reducible refine (P3.out _).mono ?_) | (with_reducible refine (P4.out _).mono ?_)); rintro e w2 ⟨rfl, rfl⟩) | (go_at_call 126; refine (C.out _).mono ?_; rintro e w3 ⟨rfl, hb3⟩; have q3 := blk_below q hb3; have NF := Lib.hid (four_below w3 w w.heap.size (.int .i64 2) (.int .i64 v) (.string ⟨#[]⟩) (.bool false) (Nat.le_refl _) (seqB NB.out hb3)); have hfin := Lib.hid (four_set q3 (.int .i64 2) (.int .i64 v) (.string ⟨#[]⟩) (.bool false)); have zf := fun i => frozen_of_row _ w.heap.size i _ _ q3; have zz := fun i => cell_of_row _ _ i _ _ _ q3; have z0 := zz 0; have z1 := zz 1; have z2 := zz 2; have z3 := zz 3; dsimp at z0 z1 z2 z3; clear zz q3))
                generalize hWF : World.setCell _ _ _ = WF
                have hqf : WF.heap[w.heap.size]? = some (.cells #[.int .i64 2, .int .i64 v, .string ⟨#[]⟩, .bool false] 107 (0, 0)) := by rw [← hWF]; exact hfin.out
                have hN : Below w.heap.size w WF := by rw [← hWF]; exact NF.out
                have y := fun i => cell_of_row _ _ i _ _ _ hqf
                have y0 := y 0; have y1 := y 1; have y2 := y 2; have y3 := y 3
                dsimp at y0 y1 y2 y3
                clear y hqf hWF
                refine bodyPost_ret (v := .agg #[.int .i64 2, .int .i64 v, .string ⟨#[]⟩, .bool false]) (by simp [results, Tryd.results106, go_sem, y0, y1, y2, y3]) rfl ?_
                rw [HF.out]
                exact ⟨rfl, hN⟩
              | false =>
                have RS := kyOf_s HN hp1 hp2 hp3 hp4
                have C := fun w => ksgOf_any (s) w hs
                generalize sgOf (s : ByteArray).data.toList = v at *
                have HF : Hid (kyV R = .agg #[.int .i64 1, .int .i64 v, .string ⟨#[]⟩, .bool false]) := Lib.hid (by rw [← HR.out, RS]; rfl)
                replace C := Lib.hid C
                clear RS
                clear HN hrest hrs
                clear hp1 hp2 hp3 hp4
                go_wp2_with (first | (go_at_call 124; (first | (with_reducible refine (P1.out _).mono ?_) | (with_reducible refine (P2.out _).mono ?_) | (with_reducible refine (P3.out _).mono ?_) | (with_reducible refine (P4.out _).mono ?_)); rintro e w2 ⟨rfl, rfl⟩) | (go_at_call 127; refine (C.out _).mono ?_; rintro e w3 ⟨rfl, hb3⟩; have q3 := blk_below q hb3; have NF := Lib.hid (four_below w3 w w.heap.size (.int .i64 1) (.int .i64 v) (.string ⟨#[]⟩) (.bool false) (Nat.le_refl _) (seqB NB.out hb3)); have hfin := Lib.hid (four_set q3 (.int .i64 1) (.int .i64 v) (.string ⟨#[]⟩) (.bool false)); have zf := fun i => frozen_of_row _ w.heap.size i _ _ q3; have zz := fun i => cell_of_row _ _ i _ _ _ q3; have z0 := zz 0; have z1 := zz 1; have z2 := zz 2; have z3 := zz 3; dsimp at z0 z1 z2 z3; clear zz q3))
                generalize hWF : World.setCell _ _ _ = WF
                have hqf : WF.heap[w.heap.size]? = some (.cells #[.int .i64 1, .int .i64 v, .string ⟨#[]⟩, .bool false] 107 (0, 0)) := by rw [← hWF]; exact hfin.out
                have hN : Below w.heap.size w WF := by rw [← hWF]; exact NF.out
                have y := fun i => cell_of_row _ _ i _ _ _ hqf
                have y0 := y 0; have y1 := y 1; have y2 := y 2; have y3 := y 3
                dsimp at y0 y1 y2 y3
                clear y hqf hWF
                refine bodyPost_ret (v := .agg #[.int .i64 1, .int .i64 v, .string ⟨#[]⟩, .bool false]) (by simp [results, Tryd.results106, go_sem, y0, y1, y2, y3]) rfl ?_
                rw [HF.out]
                exact ⟨rfl, hN⟩
end Go.Proofs.YtdifkjmpdmlobaaDoor
