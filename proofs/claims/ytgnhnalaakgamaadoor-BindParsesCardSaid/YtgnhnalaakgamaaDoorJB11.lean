/-
  Joined: Ky14 Ky15 Ky16 Ky17 Sp4 Sp5 Es1 Ky18 Bd4 Bd5 Bd6 Es2.
-/
import Derived.Test.YtgnhnalaakgamaaDoorJB04
import Derived.Test.YtgnhnalaakgamaaDoorJB06
import Derived.Test.YtgnhnalaakgamaaDoorJB07
import Derived.Test.YtgnhnalaakgamaaDoorJB08
import Derived.Test.YtgnhnalaakgamaaDoorJB09
import Derived.Test.YtgnhnalaakgamaaDoorJB10
import Derived.Deep.RegionHeld3
import Derived.Test.YtgnhnalaakgamaaDoorShelf
import Derived.Lib.UnsafeStr
import Derived.Lib.QuietBelow
import Derived.BigQuiet
import Derived.Laws.AppendOwn
import Derived.Lib.SliceRun
import Derived.Deep.RegionLaw
import Derived.Deep.Cut
import Derived.Deep.CutRange
set_option linter.unusedVariables false
set_option linter.unusedSimpArgs false
set_option maxRecDepth 100000
set_option linter.unusedVariables false
set_option linter.unusedSimpArgs false
namespace Go.Proofs.YtgnhnalaakgamaaDoor
open Go.RowKit
theorem kpre_any (s : ByteArray) (p : List UInt8) (b : Bool) (h : Lib.hasPrefix s.data.toList p = b) (w : World) : Calls Tryd.prog 12 #[.string s, .string (mkS p)] w fun e w' => e = .returned (.bool b) ∧ w = w' :=
  (Tryd.strings_HasPrefix s (mkS p) w).mono fun e w' hh => ⟨by rw [hh.1, ← h], hh.2.symm⟩
theorem kpsOf_t (s : ByteArray) (k : Ky) (h : psOf s.data.toList = k) (w : World) (hs : s.size ≤ 900000) : Calls Tryd.prog 60 #[.string s] w fun e w' => e = .returned (.agg #[.int .i64 k.1, .int .i64 k.2.1, .string k.2.2.1, .bool k.2.2.2]) ∧ Below w.heap.size w w' := by
  subst h; exact kpsOf_any s w hs
set_option maxHeartbeats 8000000 in
set_option maxRecDepth 100000 in
theorem kkeyOf_any (s : ByteArray) (w : World) (hK : KT w) (hs : s.size ≤ 900000) : Calls Tryd.prog 43 #[.string s] w fun e w' => e = .returned (kyV (kyOf s.data.toList)) ∧ Below w.heap.size w w' := by
  have B0 := below_alloc w (.cells #[.int .i64 0, .int .i64 0, .string ⟨#[]⟩, .bool false] 34)
  have hq := heap_alloc_new w (.cells #[.int .i64 0, .int .i64 0, .string ⟨#[]⟩, .bool false] 34)
  obtain ⟨W0, hW0⟩ : ∃ W0, w.alloc (.cells #[.int .i64 0, .int .i64 0, .string ⟨#[]⟩, .bool false] 34) = W0 := ⟨_, rfl⟩
  rw [hW0] at B0 hq
  have hld := Lib.hid (hK.below B0)
  replace hq := Lib.hid hq
  obtain ⟨R, hR⟩ : ∃ R, kyOf s.data.toList = R := ⟨_, rfl⟩
  have HR := Lib.hid hR
  rw [hR]
  clear hK hR
  go_enter Tryd.func43, Tryd.ntmps43
  go_upto_region 1 with fail
  clear hW0
  go_wp2_with (with_reducible refine wpList_load_kt hld.out ?_)
  clear hld
  go_loopw [7] (fun iv wr => ∃ k : Nat, k ≤ 13 ∧ iv = .int .i64 (k : Int) ∧ Hid (kNFrom s.data.toList k = kNamed s.data.toList) ∧ Below W0.heap.size W0 wr) (fun iv _ => 13 - (intOf iv).toNat)
  case atStart => exact ⟨0, by omega, rfl, Lib.hid rfl, Below.refl _ _⟩
  case round =>
    obtain ⟨k, hk, rfl, HE, hb⟩ := hrel
    have hsz := hb.size
    have q := blk_below hq.out hb
    have NB := Lib.hid (seqB B0 hb)
    by_cases hlt : k < 13
    · have hk0 : (0 : Int) ≤ k := by omega
      have hk1 : (k : Int) < 13 := by omega
      have hix := fun w => kIdx k hlt w
      obtain ⟨r, hr⟩ : ∃ r, kTab.getD k kr0 = r := ⟨_, rfl⟩
      rw [hr] at hix
      obtain ⟨a, b, c, d⟩ := r
      rw [rowV_eq] at hix
      have B1 := below_alloc wr (.cells #[.int .i64 a, .int .i64 b, .string ⟨c.toArray⟩, .string ⟨d.toArray⟩] 90)
      by_cases he : mkS c = s
      · have HN := kN_hit HE.out hlt hr (mkS_eq he)
        have HF : Hid (kyV R = .agg #[.int .i64 a, .int .i64 b, .string ⟨#[]⟩, .bool false]) := Lib.hid (by rw [← HR.out, kyOf_named HN]; rfl)
        have q1 := blk_below q B1
        have zf := fun i => frozen_of_row _ w.heap.size i _ _ q1
        have zz := fun i => cell_of_row _ _ i _ _ _ q1
        have z0 := zz 0; have z1 := zz 1; have z2 := zz 2; have z3 := zz 3
        dsimp at z0 z1 z2 z3
        have NF := Lib.hid (four_below _ w w.heap.size (.int .i64 a) (.int .i64 b) (.string ⟨#[]⟩) (.bool false) (Nat.le_refl _) (seqB NB.out B1))
        have hfin := Lib.hid (four_set q1 (.int .i64 a) (.int .i64 b) (.string ⟨#[]⟩) (.bool false))
        have he' : (⟨c.toArray⟩ : ByteArray) = s := he
        have hse : ((⟨c.toArray⟩ : ByteArray).toList == s.toList) = true := by rw [he']; simp
        have hse2 : (⟨c.toArray⟩ : ByteArray).toList = s.toList := by rw [he']
        clear zz q q1 HE HN he he'
        go_wp2
        generalize hWF : World.setCell _ _ _ = WF
        have hqf : WF.heap[w.heap.size]? = some (.cells #[.int .i64 a, .int .i64 b, .string ⟨#[]⟩, .bool false] 34 (0, 0)) := by rw [← hWF]; exact hfin.out
        have hN : Below w.heap.size w WF := by rw [← hWF]; exact NF.out
        have y := fun i => cell_of_row _ _ i _ _ _ hqf
        have y0 := y 0; have y1 := y 1; have y2 := y 2; have y3 := y 3
        dsimp at y0 y1 y2 y3
        clear y hqf hWF
        refine bodyPost_ret (v := .agg #[.int .i64 a, .int .i64 b, .string ⟨#[]⟩, .bool false]) (by simp [results, Tryd.results43, go_sem, y0, y1, y2, y3]) rfl ?_
        rw [HF.out]
        exact ⟨rfl, hN⟩
      · have HF := Lib.hid (kN_miss HE.out hlt hr (fun h => he (by rw [show c = s.data.toList from h, mkS_of])))
        obtain ⟨s1, s2, s3⟩ := kstr_ne (show ¬ (⟨c.toArray⟩ : ByteArray) = s from he)
        rw [show (⟨c.toArray⟩ : ByteArray).toList = c by rw [ByteArray.toList_eq]] at s1 s2 s3
        clear HE hr q he
        go_wp2
        go_roundw
        case rel => exact ⟨k + 1, by omega, by go_num, HF, hb.trans (B1.mono hsz)⟩
        case measure => (simp [intOf]; try omega)
    · obtain rfl : k = 13 := by omega
      have HN := kN_end HE.out
      clear HE
      obtain ⟨p1, hp1⟩ : ∃ b, Lib.hasPrefix s.data.toList [80, 45] = b := ⟨_, rfl⟩
      obtain ⟨p2, hp2⟩ : ∃ b, Lib.hasPrefix s.data.toList [77, 45, 67, 45] = b := ⟨_, rfl⟩
      obtain ⟨p3, hp3⟩ : ∃ b, Lib.hasPrefix s.data.toList [77, 45] = b := ⟨_, rfl⟩
      obtain ⟨p4, hp4⟩ : ∃ b, Lib.hasPrefix s.data.toList [67, 45] = b := ⟨_, rfl⟩
      have P1 := Lib.hid (kpre_any s _ _ hp1)
      have P2 := Lib.hid (kpre_any s _ _ hp2)
      have P3 := Lib.hid (kpre_any s _ _ hp3)
      have P4 := Lib.hid (kpre_any s _ _ hp4)
      by_cases h2 : 2 < s.size
      · have h2i : (2 : Int) < s.size := by omega
        have hrest := rest2_list s
        have hrs : (s.extract 2 s.size).size ≤ 900000 := by rw [ByteArray.size_extract]; omega
        cases p1 with
        | true =>
          have RS := kyOf_p HN hp1
          rw [← hrest] at RS
          obtain ⟨pk, hpk⟩ : ∃ pk, psOf (s.extract 2 s.size : ByteArray).data.toList = pk := ⟨_, rfl⟩
          have C := Lib.hid fun w => kpsOf_t _ _ hpk w hrs
          have HF : Hid (kyV R = .agg #[.int .i64 pk.1, .int .i64 pk.2.1, .string pk.2.2.1, .bool pk.2.2.2]) := Lib.hid (by rw [← HR.out, RS]; unfold rest2 at *; rw [hpk]; rfl)
          clear RS hpk
          clear HN hrest hrs
          clear hp1 hp2 hp3 hp4
          go_wp2_with (first | (go_at_call 12; (first | (with_reducible refine (P1.out _).mono ?_) | (with_reducible refine (P2.out _).mono ?_) | (with_reducible refine (P3.out _).mono ?_) | (with_reducible refine (P4.out _).mono ?_)); rintro e w2 ⟨rfl, rfl⟩) | (go_at_call 60; refine (C.out _).mono ?_; rintro e w3 ⟨rfl, hb3⟩; have q3 := blk_below q hb3; have NF := Lib.hid (four_below w3 w w.heap.size (.int .i64 pk.1) (.int .i64 pk.2.1) (.string pk.2.2.1) (.bool pk.2.2.2) (Nat.le_refl _) (seqB NB.out hb3)); have hfin := Lib.hid (four_set q3 (.int .i64 pk.1) (.int .i64 pk.2.1) (.string pk.2.2.1) (.bool pk.2.2.2)); have zf := fun i => frozen_of_row _ w.heap.size i _ _ q3; have zz := fun i => cell_of_row _ _ i _ _ _ q3; have z0 := zz 0; have z1 := zz 1; have z2 := zz 2; have z3 := zz 3; dsimp at z0 z1 z2 z3; clear zz q3))
          generalize hWF : World.setCell _ _ _ = WF
          have hqf : WF.heap[w.heap.size]? = some (.cells #[.int .i64 pk.1, .int .i64 pk.2.1, .string pk.2.2.1, .bool pk.2.2.2] 34 (0, 0)) := by rw [← hWF]; exact hfin.out
          have hN : Below w.heap.size w WF := by rw [← hWF]; exact NF.out
          have y := fun i => cell_of_row _ _ i _ _ _ hqf
          have y0 := y 0; have y1 := y 1; have y2 := y 2; have y3 := y 3
          dsimp at y0 y1 y2 y3
          clear y hqf hWF
          refine bodyPost_ret (v := .agg #[.int .i64 pk.1, .int .i64 pk.2.1, .string pk.2.2.1, .bool pk.2.2.2]) (by simp [results, Tryd.results43, go_sem, y0, y1, y2, y3]) rfl ?_
          rw [HF.out]
          exact ⟨rfl, hN⟩
        | false =>
          cases p2 with
          | true =>
            have RS := kyOf_mc HN hp1 hp2
            rw [← hrest] at RS
            unfold rest2 at RS
            have C := fun w => kctOf_any (s.extract 2 s.size) w
            generalize ctOf (s.extract 2 s.size : ByteArray).data.toList = v at *
            have HF : Hid (kyV R = .agg #[.int .i64 3, .int .i64 v, .string ⟨#[]⟩, .bool false]) := Lib.hid (by rw [← HR.out, RS]; rfl)
            replace C := Lib.hid C
            clear RS
            clear HN hrest hrs
            clear hp1 hp2 hp3 hp4
            go_wp2_with (first | (go_at_call 12; (first | (with_reducible refine (P1.out _).mono ?_) | (with_reducible refine (P2.out _).mono ?_) | (with_reducible refine (P3.out _).mono ?_) | (with_reducible refine (P4.out _).mono ?_)); rintro e w2 ⟨rfl, rfl⟩) | (go_at_call 61; refine (C.out _).mono ?_; rintro e w3 ⟨rfl, hb3⟩; have q3 := blk_below q hb3; have NF := Lib.hid (four_below w3 w w.heap.size (.int .i64 3) (.int .i64 v) (.string ⟨#[]⟩) (.bool false) (Nat.le_refl _) (seqB NB.out hb3)); have hfin := Lib.hid (four_set q3 (.int .i64 3) (.int .i64 v) (.string ⟨#[]⟩) (.bool false)); have zf := fun i => frozen_of_row _ w.heap.size i _ _ q3; have zz := fun i => cell_of_row _ _ i _ _ _ q3; have z0 := zz 0; have z1 := zz 1; have z2 := zz 2; have z3 := zz 3; dsimp at z0 z1 z2 z3; clear zz q3))
            generalize hWF : World.setCell _ _ _ = WF
            have hqf : WF.heap[w.heap.size]? = some (.cells #[.int .i64 3, .int .i64 v, .string ⟨#[]⟩, .bool false] 34 (0, 0)) := by rw [← hWF]; exact hfin.out
            have hN : Below w.heap.size w WF := by rw [← hWF]; exact NF.out
            have y := fun i => cell_of_row _ _ i _ _ _ hqf
            have y0 := y 0; have y1 := y 1; have y2 := y 2; have y3 := y 3
            dsimp at y0 y1 y2 y3
            clear y hqf hWF
            refine bodyPost_ret (v := .agg #[.int .i64 3, .int .i64 v, .string ⟨#[]⟩, .bool false]) (by simp [results, Tryd.results43, go_sem, y0, y1, y2, y3]) rfl ?_
            rw [HF.out]
            exact ⟨rfl, hN⟩
          | false =>
            cases p3 with
            | true =>
              have RS := kyOf_m HN hp1 hp2 hp3
              rw [← hrest] at RS
              unfold rest2 at RS
              have C := fun w => ksgOf_any (s.extract 2 s.size) w hrs
              generalize sgOf (s.extract 2 s.size : ByteArray).data.toList = v at *
              have HF : Hid (kyV R = .agg #[.int .i64 3, .int .i64 v, .string ⟨#[]⟩, .bool false]) := Lib.hid (by rw [← HR.out, RS]; rfl)
              replace C := Lib.hid C
              clear RS
              clear HN hrest hrs
              clear hp1 hp2 hp3 hp4
              go_wp2_with (first | (go_at_call 12; (first | (with_reducible refine (P1.out _).mono ?_) | (with_reducible refine (P2.out _).mono ?_) | (with_reducible refine (P3.out _).mono ?_) | (with_reducible refine (P4.out _).mono ?_)); rintro e w2 ⟨rfl, rfl⟩) | (go_at_call 62; refine (C.out _).mono ?_; rintro e w3 ⟨rfl, hb3⟩; have q3 := blk_below q hb3; have NF := Lib.hid (four_below w3 w w.heap.size (.int .i64 3) (.int .i64 v) (.string ⟨#[]⟩) (.bool false) (Nat.le_refl _) (seqB NB.out hb3)); have hfin := Lib.hid (four_set q3 (.int .i64 3) (.int .i64 v) (.string ⟨#[]⟩) (.bool false)); have zf := fun i => frozen_of_row _ w.heap.size i _ _ q3; have zz := fun i => cell_of_row _ _ i _ _ _ q3; have z0 := zz 0; have z1 := zz 1; have z2 := zz 2; have z3 := zz 3; dsimp at z0 z1 z2 z3; clear zz q3))
              generalize hWF : World.setCell _ _ _ = WF
              have hqf : WF.heap[w.heap.size]? = some (.cells #[.int .i64 3, .int .i64 v, .string ⟨#[]⟩, .bool false] 34 (0, 0)) := by rw [← hWF]; exact hfin.out
              have hN : Below w.heap.size w WF := by rw [← hWF]; exact NF.out
              have y := fun i => cell_of_row _ _ i _ _ _ hqf
              have y0 := y 0; have y1 := y 1; have y2 := y 2; have y3 := y 3
              dsimp at y0 y1 y2 y3
              clear y hqf hWF
              refine bodyPost_ret (v := .agg #[.int .i64 3, .int .i64 v, .string ⟨#[]⟩, .bool false]) (by simp [results, Tryd.results43, go_sem, y0, y1, y2, y3]) rfl ?_
              rw [HF.out]
              exact ⟨rfl, hN⟩
            | false =>
              cases p4 with
              | true =>
                have RS := kyOf_c HN hp1 hp2 hp3 hp4
                have C := fun w => kctOf_any (s) w
                generalize ctOf (s : ByteArray).data.toList = v at *
                have HF : Hid (kyV R = .agg #[.int .i64 2, .int .i64 v, .string ⟨#[]⟩, .bool false]) := Lib.hid (by rw [← HR.out, RS]; rfl)
                replace C := Lib.hid C
                clear RS
                clear HN hrest hrs
                clear hp1 hp2 hp3 hp4
                go_wp2_with (first | (go_at_call 12; (first | (with_reducible refine (P1.out _).mono ?_) | (with_reducible refine (P2.out _).mono ?_) | (with_reducible refine (P3.out _).mono ?_) | (with_reducible refine (P4.out _).mono ?_)); rintro e w2 ⟨rfl, rfl⟩) | (go_at_call 61; refine (C.out _).mono ?_; rintro e w3 ⟨rfl, hb3⟩; have q3 := blk_below q hb3; have NF := Lib.hid (four_below w3 w w.heap.size (.int .i64 2) (.int .i64 v) (.string ⟨#[]⟩) (.bool false) (Nat.le_refl _) (seqB NB.out hb3)); have hfin := Lib.hid (four_set q3 (.int .i64 2) (.int .i64 v) (.string ⟨#[]⟩) (.bool false)); have zf := fun i => frozen_of_row _ w.heap.size i _ _ q3; have zz := fun i => cell_of_row _ _ i _ _ _ q3; have z0 := zz 0; have z1 := zz 1; have z2 := zz 2; have z3 := zz 3; dsimp at z0 z1 z2 z3; clear zz q3))
                generalize hWF : World.setCell _ _ _ = WF
                have hqf : WF.heap[w.heap.size]? = some (.cells #[.int .i64 2, .int .i64 v, .string ⟨#[]⟩, .bool false] 34 (0, 0)) := by rw [← hWF]; exact hfin.out
                have hN : Below w.heap.size w WF := by rw [← hWF]; exact NF.out
                have y := fun i => cell_of_row _ _ i _ _ _ hqf
                have y0 := y 0; have y1 := y 1; have y2 := y 2; have y3 := y 3
                dsimp at y0 y1 y2 y3
                clear y hqf hWF
                refine bodyPost_ret (v := .agg #[.int .i64 2, .int .i64 v, .string ⟨#[]⟩, .bool false]) (by simp [results, Tryd.results43, go_sem, y0, y1, y2, y3]) rfl ?_
                rw [HF.out]
                exact ⟨rfl, hN⟩
              | false =>
                have RS := kyOf_s HN hp1 hp2 hp3 hp4
                have C := fun w => ksgOf_any (s) w hs
                generalize sgOf (s : ByteArray).data.toList = v at *
                have HF : Hid (kyV R = .agg #[.int .i64 1, .int .i64 v, .string ⟨#[]⟩, .bool false]) := Lib.hid (by rw [← HR.out, RS]; rfl)
                replace C := Lib.hid C
                clear RS
                clear HN hrest hrs
                clear hp1 hp2 hp3 hp4
                go_wp2_with (first | (go_at_call 12; (first | (with_reducible refine (P1.out _).mono ?_) | (with_reducible refine (P2.out _).mono ?_) | (with_reducible refine (P3.out _).mono ?_) | (with_reducible refine (P4.out _).mono ?_)); rintro e w2 ⟨rfl, rfl⟩) | (go_at_call 62; refine (C.out _).mono ?_; rintro e w3 ⟨rfl, hb3⟩; have q3 := blk_below q hb3; have NF := Lib.hid (four_below w3 w w.heap.size (.int .i64 1) (.int .i64 v) (.string ⟨#[]⟩) (.bool false) (Nat.le_refl _) (seqB NB.out hb3)); have hfin := Lib.hid (four_set q3 (.int .i64 1) (.int .i64 v) (.string ⟨#[]⟩) (.bool false)); have zf := fun i => frozen_of_row _ w.heap.size i _ _ q3; have zz := fun i => cell_of_row _ _ i _ _ _ q3; have z0 := zz 0; have z1 := zz 1; have z2 := zz 2; have z3 := zz 3; dsimp at z0 z1 z2 z3; clear zz q3))
                generalize hWF : World.setCell _ _ _ = WF
                have hqf : WF.heap[w.heap.size]? = some (.cells #[.int .i64 1, .int .i64 v, .string ⟨#[]⟩, .bool false] 34 (0, 0)) := by rw [← hWF]; exact hfin.out
                have hN : Below w.heap.size w WF := by rw [← hWF]; exact NF.out
                have y := fun i => cell_of_row _ _ i _ _ _ hqf
                have y0 := y 0; have y1 := y 1; have y2 := y 2; have y3 := y 3
                dsimp at y0 y1 y2 y3
                clear y hqf hWF
                refine bodyPost_ret (v := .agg #[.int .i64 1, .int .i64 v, .string ⟨#[]⟩, .bool false]) (by simp [results, Tryd.results43, go_sem, y0, y1, y2, y3]) rfl ?_
                rw [HF.out]
                exact ⟨rfl, hN⟩
      · have h2i : ¬ (2 : Int) < s.size := by omega
        have hrest := rest2_list s
        rw [rest2_nil s h2] at hrest
        have hrs : (⟨#[]⟩ : ByteArray).size ≤ 900000 := by decide
        cases p1 with
        | true =>
          have RS := kyOf_p HN hp1
          rw [← hrest] at RS
          obtain ⟨pk, hpk⟩ : ∃ pk, psOf (⟨#[]⟩ : ByteArray).data.toList = pk := ⟨_, rfl⟩
          have C := Lib.hid fun w => kpsOf_t _ _ hpk w hrs
          have HF : Hid (kyV R = .agg #[.int .i64 pk.1, .int .i64 pk.2.1, .string pk.2.2.1, .bool pk.2.2.2]) := Lib.hid (by rw [← HR.out, RS, hpk]; rfl)
          clear RS hpk
          clear HN hrest hrs
          clear hp1 hp2 hp3 hp4
          go_wp2_with (first | (go_at_call 12; (first | (with_reducible refine (P1.out _).mono ?_) | (with_reducible refine (P2.out _).mono ?_) | (with_reducible refine (P3.out _).mono ?_) | (with_reducible refine (P4.out _).mono ?_)); rintro e w2 ⟨rfl, rfl⟩) | (go_at_call 60; refine (C.out _).mono ?_; rintro e w3 ⟨rfl, hb3⟩; have q3 := blk_below q hb3; have NF := Lib.hid (four_below w3 w w.heap.size (.int .i64 pk.1) (.int .i64 pk.2.1) (.string pk.2.2.1) (.bool pk.2.2.2) (Nat.le_refl _) (seqB NB.out hb3)); have hfin := Lib.hid (four_set q3 (.int .i64 pk.1) (.int .i64 pk.2.1) (.string pk.2.2.1) (.bool pk.2.2.2)); have zf := fun i => frozen_of_row _ w.heap.size i _ _ q3; have zz := fun i => cell_of_row _ _ i _ _ _ q3; have z0 := zz 0; have z1 := zz 1; have z2 := zz 2; have z3 := zz 3; dsimp at z0 z1 z2 z3; clear zz q3))
          generalize hWF : World.setCell _ _ _ = WF
          have hqf : WF.heap[w.heap.size]? = some (.cells #[.int .i64 pk.1, .int .i64 pk.2.1, .string pk.2.2.1, .bool pk.2.2.2] 34 (0, 0)) := by rw [← hWF]; exact hfin.out
          have hN : Below w.heap.size w WF := by rw [← hWF]; exact NF.out
          have y := fun i => cell_of_row _ _ i _ _ _ hqf
          have y0 := y 0; have y1 := y 1; have y2 := y 2; have y3 := y 3
          dsimp at y0 y1 y2 y3
          clear y hqf hWF
          refine bodyPost_ret (v := .agg #[.int .i64 pk.1, .int .i64 pk.2.1, .string pk.2.2.1, .bool pk.2.2.2]) (by simp [results, Tryd.results43, go_sem, y0, y1, y2, y3]) rfl ?_
          rw [HF.out]
          exact ⟨rfl, hN⟩
        | false =>
          cases p2 with
          | true =>
            have RS := kyOf_mc HN hp1 hp2
            rw [← hrest] at RS
            have C := fun w => kctOf_any (⟨#[]⟩) w
            generalize ctOf (⟨#[]⟩ : ByteArray).data.toList = v at *
            have HF : Hid (kyV R = .agg #[.int .i64 3, .int .i64 v, .string ⟨#[]⟩, .bool false]) := Lib.hid (by rw [← HR.out, RS]; rfl)
            replace C := Lib.hid C
            clear RS
            clear HN hrest hrs
            clear hp1 hp2 hp3 hp4
            go_wp2_with (first | (go_at_call 12; (first | (with_reducible refine (P1.out _).mono ?_) | (with_reducible refine (P2.out _).mono ?_) | (with_reducible refine (P3.out _).mono ?_) | (with_reducible refine (P4.out _).mono ?_)); rintro e w2 ⟨rfl, rfl⟩) | (go_at_call 61; refine (C.out _).mono ?_; rintro e w3 ⟨rfl, hb3⟩; have q3 := blk_below q hb3; have NF := Lib.hid (four_below w3 w w.heap.size (.int .i64 3) (.int .i64 v) (.string ⟨#[]⟩) (.bool false) (Nat.le_refl _) (seqB NB.out hb3)); have hfin := Lib.hid (four_set q3 (.int .i64 3) (.int .i64 v) (.string ⟨#[]⟩) (.bool false)); have zf := fun i => frozen_of_row _ w.heap.size i _ _ q3; have zz := fun i => cell_of_row _ _ i _ _ _ q3; have z0 := zz 0; have z1 := zz 1; have z2 := zz 2; have z3 := zz 3; dsimp at z0 z1 z2 z3; clear zz q3))
            generalize hWF : World.setCell _ _ _ = WF
            have hqf : WF.heap[w.heap.size]? = some (.cells #[.int .i64 3, .int .i64 v, .string ⟨#[]⟩, .bool false] 34 (0, 0)) := by rw [← hWF]; exact hfin.out
            have hN : Below w.heap.size w WF := by rw [← hWF]; exact NF.out
            have y := fun i => cell_of_row _ _ i _ _ _ hqf
            have y0 := y 0; have y1 := y 1; have y2 := y 2; have y3 := y 3
            dsimp at y0 y1 y2 y3
            clear y hqf hWF
            refine bodyPost_ret (v := .agg #[.int .i64 3, .int .i64 v, .string ⟨#[]⟩, .bool false]) (by simp [results, Tryd.results43, go_sem, y0, y1, y2, y3]) rfl ?_
            rw [HF.out]
            exact ⟨rfl, hN⟩
          | false =>
            cases p3 with
            | true =>
              have RS := kyOf_m HN hp1 hp2 hp3
              rw [← hrest] at RS
              have C := fun w => ksgOf_any (⟨#[]⟩) w hrs
              generalize sgOf (⟨#[]⟩ : ByteArray).data.toList = v at *
              have HF : Hid (kyV R = .agg #[.int .i64 3, .int .i64 v, .string ⟨#[]⟩, .bool false]) := Lib.hid (by rw [← HR.out, RS]; rfl)
              replace C := Lib.hid C
              clear RS
              clear HN hrest hrs
              clear hp1 hp2 hp3 hp4
              go_wp2_with (first | (go_at_call 12; (first | (with_reducible refine (P1.out _).mono ?_) | (with_reducible refine (P2.out _).mono ?_) | (with_reducible refine (P3.out _).mono ?_) | (with_reducible refine (P4.out _).mono ?_)); rintro e w2 ⟨rfl, rfl⟩) | (go_at_call 62; refine (C.out _).mono ?_; rintro e w3 ⟨rfl, hb3⟩; have q3 := blk_below q hb3; have NF := Lib.hid (four_below w3 w w.heap.size (.int .i64 3) (.int .i64 v) (.string ⟨#[]⟩) (.bool false) (Nat.le_refl _) (seqB NB.out hb3)); have hfin := Lib.hid (four_set q3 (.int .i64 3) (.int .i64 v) (.string ⟨#[]⟩) (.bool false)); have zf := fun i => frozen_of_row _ w.heap.size i _ _ q3; have zz := fun i => cell_of_row _ _ i _ _ _ q3; have z0 := zz 0; have z1 := zz 1; have z2 := zz 2; have z3 := zz 3; dsimp at z0 z1 z2 z3; clear zz q3))
              generalize hWF : World.setCell _ _ _ = WF
              have hqf : WF.heap[w.heap.size]? = some (.cells #[.int .i64 3, .int .i64 v, .string ⟨#[]⟩, .bool false] 34 (0, 0)) := by rw [← hWF]; exact hfin.out
              have hN : Below w.heap.size w WF := by rw [← hWF]; exact NF.out
              have y := fun i => cell_of_row _ _ i _ _ _ hqf
              have y0 := y 0; have y1 := y 1; have y2 := y 2; have y3 := y 3
              dsimp at y0 y1 y2 y3
              clear y hqf hWF
              refine bodyPost_ret (v := .agg #[.int .i64 3, .int .i64 v, .string ⟨#[]⟩, .bool false]) (by simp [results, Tryd.results43, go_sem, y0, y1, y2, y3]) rfl ?_
              rw [HF.out]
              exact ⟨rfl, hN⟩
            | false =>
              cases p4 with
              | true =>
                have RS := kyOf_c HN hp1 hp2 hp3 hp4
                have C := fun w => kctOf_any (s) w
                generalize ctOf (s : ByteArray).data.toList = v at *
                have HF : Hid (kyV R = .agg #[.int .i64 2, .int .i64 v, .string ⟨#[]⟩, .bool false]) := Lib.hid (by rw [← HR.out, RS]; rfl)
                replace C := Lib.hid C
                clear RS
                clear HN hrest hrs
                clear hp1 hp2 hp3 hp4
                go_wp2_with (first | (go_at_call 12; (first | (with_reducible refine (P1.out _).mono ?_) | (with_reducible refine (P2.out _).mono ?_) | (with_reducible refine (P3.out _).mono ?_) | (with_reducible refine (P4.out _).mono ?_)); rintro e w2 ⟨rfl, rfl⟩) | (go_at_call 61; refine (C.out _).mono ?_; rintro e w3 ⟨rfl, hb3⟩; have q3 := blk_below q hb3; have NF := Lib.hid (four_below w3 w w.heap.size (.int .i64 2) (.int .i64 v) (.string ⟨#[]⟩) (.bool false) (Nat.le_refl _) (seqB NB.out hb3)); have hfin := Lib.hid (four_set q3 (.int .i64 2) (.int .i64 v) (.string ⟨#[]⟩) (.bool false)); have zf := fun i => frozen_of_row _ w.heap.size i _ _ q3; have zz := fun i => cell_of_row _ _ i _ _ _ q3; have z0 := zz 0; have z1 := zz 1; have z2 := zz 2; have z3 := zz 3; dsimp at z0 z1 z2 z3; clear zz q3))
                generalize hWF : World.setCell _ _ _ = WF
                have hqf : WF.heap[w.heap.size]? = some (.cells #[.int .i64 2, .int .i64 v, .string ⟨#[]⟩, .bool false] 34 (0, 0)) := by rw [← hWF]; exact hfin.out
                have hN : Below w.heap.size w WF := by rw [← hWF]; exact NF.out
                have y := fun i => cell_of_row _ _ i _ _ _ hqf
                have y0 := y 0; have y1 := y 1; have y2 := y 2; have y3 := y 3
                dsimp at y0 y1 y2 y3
                clear y hqf hWF
                refine bodyPost_ret (v := .agg #[.int .i64 2, .int .i64 v, .string ⟨#[]⟩, .bool false]) (by simp [results, Tryd.results43, go_sem, y0, y1, y2, y3]) rfl ?_
                rw [HF.out]
                exact ⟨rfl, hN⟩
              | false =>
                have RS := kyOf_s HN hp1 hp2 hp3 hp4
                have C := fun w => ksgOf_any (s) w hs
                generalize sgOf (s : ByteArray).data.toList = v at *
                have HF : Hid (kyV R = .agg #[.int .i64 1, .int .i64 v, .string ⟨#[]⟩, .bool false]) := Lib.hid (by rw [← HR.out, RS]; rfl)
                replace C := Lib.hid C
                clear RS
                clear HN hrest hrs
                clear hp1 hp2 hp3 hp4
                go_wp2_with (first | (go_at_call 12; (first | (with_reducible refine (P1.out _).mono ?_) | (with_reducible refine (P2.out _).mono ?_) | (with_reducible refine (P3.out _).mono ?_) | (with_reducible refine (P4.out _).mono ?_)); rintro e w2 ⟨rfl, rfl⟩) | (go_at_call 62; refine (C.out _).mono ?_; rintro e w3 ⟨rfl, hb3⟩; have q3 := blk_below q hb3; have NF := Lib.hid (four_below w3 w w.heap.size (.int .i64 1) (.int .i64 v) (.string ⟨#[]⟩) (.bool false) (Nat.le_refl _) (seqB NB.out hb3)); have hfin := Lib.hid (four_set q3 (.int .i64 1) (.int .i64 v) (.string ⟨#[]⟩) (.bool false)); have zf := fun i => frozen_of_row _ w.heap.size i _ _ q3; have zz := fun i => cell_of_row _ _ i _ _ _ q3; have z0 := zz 0; have z1 := zz 1; have z2 := zz 2; have z3 := zz 3; dsimp at z0 z1 z2 z3; clear zz q3))
                generalize hWF : World.setCell _ _ _ = WF
                have hqf : WF.heap[w.heap.size]? = some (.cells #[.int .i64 1, .int .i64 v, .string ⟨#[]⟩, .bool false] 34 (0, 0)) := by rw [← hWF]; exact hfin.out
                have hN : Below w.heap.size w WF := by rw [← hWF]; exact NF.out
                have y := fun i => cell_of_row _ _ i _ _ _ hqf
                have y0 := y 0; have y1 := y 1; have y2 := y 2; have y3 := y 3
                dsimp at y0 y1 y2 y3
                clear y hqf hWF
                refine bodyPost_ret (v := .agg #[.int .i64 1, .int .i64 v, .string ⟨#[]⟩, .bool false]) (by simp [results, Tryd.results43, go_sem, y0, y1, y2, y3]) rfl ?_
                rw [HF.out]
                exact ⟨rfl, hN⟩
end Go.Proofs.YtgnhnalaakgamaaDoor
set_option linter.unusedVariables false
set_option linter.unusedSimpArgs false
namespace Go.Proofs.YtgnhnalaakgamaaDoor
open Go.RowKit
def PrPost (l : List UInt8) (w : World) (e : Ending) (w' : World) : Prop := e = .returned (.tuple #[kyV (prK l), .int .i64 (prE l)]) ∧ Below w.heap.size w w'
theorem kname_t (k : Ky) (w : World) (hK : KT w) (nm : ByteArray) (er : Int) (h1 : mkS (nmR k) = nm) (h2 : ckE k = er) : Calls Tryd.prog 29 #[.agg #[.int .i64 k.1, .int .i64 k.2.1, .string k.2.2.1, .bool k.2.2.2]] w fun e w' => e = .returned (.tuple #[.string nm, .int .i64 er]) ∧ Below w.heap.size w w' := by
  subst h1; subst h2; exact kname_any k w hK
theorem kkeyOf_t (s : ByteArray) (w : World) (hK : KT w) (hs : s.size ≤ 900000) (k : Ky) (h : kyOf s.data.toList = k) : Calls Tryd.prog 43 #[.string s] w fun e w' => e = .returned (.agg #[.int .i64 k.1, .int .i64 k.2.1, .string k.2.2.1, .bool k.2.2.2]) ∧ Below w.heap.size w w' := by
  subst h; exact kkeyOf_any s w hK hs
theorem pr_no {l : List UInt8} {w w' : World} (h : prOk l = false) (hb : Below w.heap.size w w') : PrPost l w (.returned (.tuple #[.agg #[.int .i64 0, .int .i64 0, .string ⟨#[]⟩, .bool false], .int .i64 6])) w' := by
  unfold PrPost prK prE; rw [h]; exact ⟨rfl, hb⟩
theorem pr_yes {l : List UInt8} {w w' : World} {k : Ky} (h : prOk l = true) (hk : kyOf l = k) (hb : Below w.heap.size w w') : PrPost l w (.returned (.tuple #[.agg #[.int .i64 k.1, .int .i64 k.2.1, .string k.2.2.1, .bool k.2.2.2], .int .i64 0])) w' := by
  unfold PrPost prK prE; rw [h, if_pos rfl, if_pos rfl, hk]; exact ⟨rfl, hb⟩
set_option maxHeartbeats 8000000 in
set_option maxRecDepth 100000 in
theorem kparse_any (s : ByteArray) (w : World) (hK : KT w) (hs : s.size ≤ 900000) : Calls Tryd.prog 26 #[.string s] w (PrPost s.data.toList w) := by
  have B0 := below_alloc w (.cells #[.int .i64 0, .int .i64 0, .string ⟨#[]⟩, .bool false] 34)
  have hq := heap_alloc_new w (.cells #[.int .i64 0, .int .i64 0, .string ⟨#[]⟩, .bool false] 34)
  obtain ⟨W0, hW0⟩ : ∃ W0, w.alloc (.cells #[.int .i64 0, .int .i64 0, .string ⟨#[]⟩, .bool false] 34) = W0 := ⟨_, rfl⟩
  rw [hW0] at B0 hq
  have HK := Lib.hid (hK.below B0)
  replace hq := Lib.hid hq
  obtain ⟨k, hk⟩ : ∃ k, kyOf s.data.toList = k := ⟨_, rfl⟩
  have KO := Lib.hid fun w hK => kkeyOf_t s w hK hs k hk
  clear hK
  have HN := fun h w' hb => pr_no (l := s.data.toList) (w := w) (w' := w') h hb
  have HY := fun h w' hb => pr_yes (l := s.data.toList) (w := w) (w' := w') h hk hb
  have ho : prOk s.data.toList = (keyB k && nmN k == s.data.toList) := by unfold prOk; rw [hk]
  rw [ho] at HN HY
  clear ho
  have NM := fun w hK nm er h1 h2 => kname_t k w hK nm er h1 h2
  cases hok : keyB k with
  | false =>
    have NM := Lib.hid fun w hK => NM w hK ⟨#[]⟩ 2 (by unfold nmR; rw [hok]; rfl) (ckE_no hok)
    have HP := Lib.hid (HN (by rw [hok]; rfl))
    clear HN HY hk hok
    go_enter Tryd.func26, Tryd.ntmps26
    go_upto_region 1 with fail
    clear hW0
    go_wp2_with (first
      | (go_at_call 43; refine (KO.out _ HK.out).mono ?_; rintro e w2 ⟨rfl, hb2⟩; have B2 := below_alloc w2 (.cells #[.int .i64 k.1, .int .i64 k.2.1, .string k.2.2.1, .bool k.2.2.2] 34); have hk2 := Lib.hid (heap_alloc_new w2 (.cells #[.int .i64 k.1, .int .i64 k.2.1, .string k.2.2.1, .bool k.2.2.2] 34)); have N2 := Lib.hid (seqB hb2 B2); have HK2 := Lib.hid (HK.out.below N2.out))
      | (go_at_call 29; refine (NM.out _ HK2.out).mono ?_; rintro e w3 ⟨rfl, hb3⟩; have N3 := Lib.hid (seqB N2.out hb3); have q3 := blk_below hq.out N3.out; have hk3 := blk_below hk2.out hb3; have yy := fun i => cell_of_row _ _ i _ _ _ hk3; have y0 := yy 0; have y1 := yy 1; have y2 := yy 2; have y3 := yy 3; dsimp at y0 y1 y2 y3; have zf := fun i => frozen_of_row _ w.heap.size i _ _ q3; have zz := fun i => cell_of_row _ _ i _ _ _ q3; have z0 := zz 0; have z1 := zz 1; have z2 := zz 2; have z3 := zz 3; dsimp at z0 z1 z2 z3; have NF := Lib.hid (four_below w3 w w.heap.size (.int .i64 0) (.int .i64 0) (.string ⟨#[]⟩) (.bool false) (Nat.le_refl _) (seqB B0 N3.out)); have hfin := Lib.hid (four_set q3 (.int .i64 0) (.int .i64 0) (.string ⟨#[]⟩) (.bool false)); clear zz yy q3 hk3))
    generalize hWF : World.setCell _ _ _ = WF
    have hqf : WF.heap[w.heap.size]? = some (.cells #[.int .i64 0, .int .i64 0, .string ⟨#[]⟩, .bool false] 34 (0, 0)) := by rw [← hWF]; exact hfin.out
    have hN : Below w.heap.size w WF := by rw [← hWF]; exact NF.out
    clear y0 y1 y2 y3
    have y := fun i => cell_of_row _ _ i _ _ _ hqf
    have y0 := y 0; have y1 := y 1; have y2 := y 2; have y3 := y 3
    dsimp at y0 y1 y2 y3
    clear y hqf hWF
    refine bodyPost_ret (v := .tuple #[.agg #[.int .i64 0, .int .i64 0, .string ⟨#[]⟩, .bool false], .int .i64 6]) (by simp [results, Tryd.results26, go_sem, y0, y1, y2, y3]) rfl ?_
    exact HP.out _ hN
  | true =>
    have NM := fun w hK => NM w hK (mkS (nmN k)) 0 (by unfold nmR; rw [hok]; rfl) (ckE_yes hok)
    by_cases he : mkS (nmN k) = s
    · have HP := Lib.hid (HY (by rw [hok, mkS_eq he]; simp))
      rw [he] at NM
      replace NM := Lib.hid NM
      clear HN HY hk hok he
      go_enter Tryd.func26, Tryd.ntmps26
      go_upto_region 1 with fail
      clear hW0
      go_wp2_with (first
        | (go_at_call 43; refine (KO.out _ HK.out).mono ?_; rintro e w2 ⟨rfl, hb2⟩; have B2 := below_alloc w2 (.cells #[.int .i64 k.1, .int .i64 k.2.1, .string k.2.2.1, .bool k.2.2.2] 34); have hk2 := Lib.hid (heap_alloc_new w2 (.cells #[.int .i64 k.1, .int .i64 k.2.1, .string k.2.2.1, .bool k.2.2.2] 34)); have N2 := Lib.hid (seqB hb2 B2); have HK2 := Lib.hid (HK.out.below N2.out))
        | (go_at_call 29; refine (NM.out _ HK2.out).mono ?_; rintro e w3 ⟨rfl, hb3⟩; have N3 := Lib.hid (seqB N2.out hb3); have q3 := blk_below hq.out N3.out; have hk3 := blk_below hk2.out hb3; have yy := fun i => cell_of_row _ _ i _ _ _ hk3; have y0 := yy 0; have y1 := yy 1; have y2 := yy 2; have y3 := yy 3; dsimp at y0 y1 y2 y3; have zf := fun i => frozen_of_row _ w.heap.size i _ _ q3; have zz := fun i => cell_of_row _ _ i _ _ _ q3; have z0 := zz 0; have z1 := zz 1; have z2 := zz 2; have z3 := zz 3; dsimp at z0 z1 z2 z3; have NF := Lib.hid (four_below w3 w w.heap.size (.int .i64 k.1) (.int .i64 k.2.1) (.string k.2.2.1) (.bool k.2.2.2) (Nat.le_refl _) (seqB B0 N3.out)); have hfin := Lib.hid (four_set q3 (.int .i64 k.1) (.int .i64 k.2.1) (.string k.2.2.1) (.bool k.2.2.2)); clear zz yy q3 hk3))
      generalize hWF : World.setCell _ _ _ = WF
      have hqf : WF.heap[w.heap.size]? = some (.cells #[.int .i64 k.1, .int .i64 k.2.1, .string k.2.2.1, .bool k.2.2.2] 34 (0, 0)) := by rw [← hWF]; exact hfin.out
      have hN : Below w.heap.size w WF := by rw [← hWF]; exact NF.out
      clear y0 y1 y2 y3
      have y := fun i => cell_of_row _ _ i _ _ _ hqf
      have y0 := y 0; have y1 := y 1; have y2 := y 2; have y3 := y 3
      dsimp at y0 y1 y2 y3
      clear y hqf hWF
      refine bodyPost_ret (v := .tuple #[.agg #[.int .i64 k.1, .int .i64 k.2.1, .string k.2.2.1, .bool k.2.2.2], .int .i64 0]) (by simp [results, Tryd.results26, go_sem, y0, y1, y2, y3]) rfl ?_
      exact HP.out _ hN
    · have HP := Lib.hid (HN (by rw [hok]; simp; intro h; exact he (by rw [h, mkS_of])))
      obtain ⟨s1, s2, s3⟩ := kstr_ne he
      generalize mkS (nmN k) = u at *
      replace NM := Lib.hid NM
      clear HN HY hk hok he
      go_enter Tryd.func26, Tryd.ntmps26
      go_upto_region 1 with fail
      clear hW0
      go_wp2_with (first
        | (go_at_call 43; refine (KO.out _ HK.out).mono ?_; rintro e w2 ⟨rfl, hb2⟩; have B2 := below_alloc w2 (.cells #[.int .i64 k.1, .int .i64 k.2.1, .string k.2.2.1, .bool k.2.2.2] 34); have hk2 := Lib.hid (heap_alloc_new w2 (.cells #[.int .i64 k.1, .int .i64 k.2.1, .string k.2.2.1, .bool k.2.2.2] 34)); have N2 := Lib.hid (seqB hb2 B2); have HK2 := Lib.hid (HK.out.below N2.out))
        | (go_at_call 29; refine (NM.out _ HK2.out).mono ?_; rintro e w3 ⟨rfl, hb3⟩; have N3 := Lib.hid (seqB N2.out hb3); have q3 := blk_below hq.out N3.out; have hk3 := blk_below hk2.out hb3; have yy := fun i => cell_of_row _ _ i _ _ _ hk3; have y0 := yy 0; have y1 := yy 1; have y2 := yy 2; have y3 := yy 3; dsimp at y0 y1 y2 y3; have zf := fun i => frozen_of_row _ w.heap.size i _ _ q3; have zz := fun i => cell_of_row _ _ i _ _ _ q3; have z0 := zz 0; have z1 := zz 1; have z2 := zz 2; have z3 := zz 3; dsimp at z0 z1 z2 z3; have NF := Lib.hid (four_below w3 w w.heap.size (.int .i64 0) (.int .i64 0) (.string ⟨#[]⟩) (.bool false) (Nat.le_refl _) (seqB B0 N3.out)); have hfin := Lib.hid (four_set q3 (.int .i64 0) (.int .i64 0) (.string ⟨#[]⟩) (.bool false)); clear zz yy q3 hk3))
      generalize hWF : World.setCell _ _ _ = WF
      have hqf : WF.heap[w.heap.size]? = some (.cells #[.int .i64 0, .int .i64 0, .string ⟨#[]⟩, .bool false] 34 (0, 0)) := by rw [← hWF]; exact hfin.out
      have hN : Below w.heap.size w WF := by rw [← hWF]; exact NF.out
      clear y0 y1 y2 y3
      have y := fun i => cell_of_row _ _ i _ _ _ hqf
      have y0 := y 0; have y1 := y 1; have y2 := y 2; have y3 := y 3
      dsimp at y0 y1 y2 y3
      clear y hqf hWF
      refine bodyPost_ret (v := .tuple #[.agg #[.int .i64 0, .int .i64 0, .string ⟨#[]⟩, .bool false], .int .i64 6]) (by simp [results, Tryd.results26, go_sem, y0, y1, y2, y3]) rfl ?_
      exact HP.out _ hN
end Go.Proofs.YtgnhnalaakgamaaDoor
set_option linter.unusedVariables false
set_option linter.unusedSimpArgs false
namespace Go.Proofs.YtgnhnalaakgamaaDoor
open Go.RowKit
theorem ktoL_ne {a b : ByteArray} (h : ¬ a = b) : ¬ a.toList = b.toList := by
  rw [ByteArray.toList_eq, ByteArray.toList_eq]; intro e; exact h (ByteArray.ext (Array.ext' e))
set_option maxHeartbeats 1000000 in
theorem eqKey (a b : Int) (t : ByteArray) (c : Bool) (a' b' : Int) (t' : ByteArray) (c' : Bool) (w : World) : (binOp .eql 34 (.agg #[.int .i64 a, .int .i64 b, .string t, .bool c]) (.agg #[.int .i64 a', .int .i64 b', .string t', .bool c'])).run Tryd.prog w = .ok (.bool (decide (((a, b, t, c) : Ky) = (a', b', t', c')))) w := by
  by_cases h1 : a = a'
  · by_cases h2 : b = b'
    · by_cases h3 : t = t'
      · by_cases h4 : c = c'
        · subst h1; subst h2; subst h3; subst h4
          simp [go_sem]
        · simp [go_sem, h1, h2, h3, h4]
      · simp [go_sem, h1, h2, h3, ktoL_ne h3]
    · simp [go_sem, h1, h2]
  · simp [go_sem, h1]
theorem eqKey_same (a b : Int) (t : ByteArray) (c : Bool) (w : World) : (binOp .eql 34 (.agg #[.int .i64 a, .int .i64 b, .string t, .bool c]) (.agg #[.int .i64 a, .int .i64 b, .string t, .bool c])).run Tryd.prog w = .ok (.bool true) w := by
  rw [eqKey, decide_eq_true rfl]
theorem ka_name (w : World) (hK : KT w) : Calls Tryd.prog 29 #[.agg #[.int .i64 3, .int .i64 102, .string ⟨#[]⟩, .bool false]] w fun e w' => e = .returned (.tuple #[.string ⟨#[77, 45, 102]⟩, .int .i64 0]) ∧ Below w.heap.size w w' :=
  kname_t (3, 102, ⟨#[]⟩, false) w hK _ _ (by decide) (by decide)
theorem ka_parse (w : World) (hK : KT w) : Calls Tryd.prog 26 #[.string ⟨#[80, 45, 48, 48, 70, 70, 33]⟩] w fun e w' => e = .returned (.tuple #[.agg #[.int .i64 15, .int .i64 0, .string ⟨#[0, 255]⟩, .bool true], .int .i64 0]) ∧ Below w.heap.size w w' := by
  have h := kparse_any ⟨#[80, 45, 48, 48, 70, 70, 33]⟩ w hK (by decide)
  unfold PrPost at h
  have e : (⟨#[80, 45, 48, 48, 70, 70, 33]⟩ : ByteArray).data.toList = nmN (15, 0, ⟨#[0, 255]⟩, true) := by decide
  have p := parse_name (15, 0, ⟨#[0, 255]⟩, true) (by decide)
  rw [e, p.1, p.2] at h
  exact h
theorem ka_check (w : World) (hK : KT w) : Calls Tryd.prog 36 #[.agg #[.int .i64 0, .int .i64 0, .string ⟨#[]⟩, .bool false]] w fun e w' => e = .returned (.int .i64 2) ∧ Below w.heap.size w w' := by
  have h := kcheck_any (0, 0, ⟨#[]⟩, false) w hK
  rw [show ckE (0, 0, ⟨#[]⟩, false) = 2 by decide] at h
  exact h
end Go.Proofs.YtgnhnalaakgamaaDoor
set_option linter.unusedVariables false
set_option linter.unusedSimpArgs false
namespace Go.Proofs.YtgnhnalaakgamaaDoor
open Go.RowKit
theorem kparse_t (s : ByteArray) (w : World) (hK : KT w) (hs : s.size ≤ 900000) (k : Ky) (er : Int) (h1 : prK s.data.toList = k) (h2 : prE s.data.toList = er) : Calls Tryd.prog 26 #[.string s] w fun e w' => e = .returned (.tuple #[.agg #[.int .i64 k.1, .int .i64 k.2.1, .string k.2.2.1, .bool k.2.2.2], .int .i64 er]) ∧ Below w.heap.size w w' := by
  subst h1; subst h2; exact kparse_any s w hK hs
end Go.Proofs.YtgnhnalaakgamaaDoor
set_option linter.unusedVariables false
set_option linter.unusedSimpArgs false
namespace Go.Proofs.YtgnhnalaakgamaaDoor
open Go.RowKit
theorem blS_below {B b : Nat} {bs : List Value} {w w' : World} (h : IsBld B b bs w) (hb : Below w.heap.size w w') : IsBld B b bs w' := by
  rcases h with ⟨hB, v, h1, h2, h3⟩ | ⟨hB, v, h1, h2, h3⟩
  · exact Or.inl ⟨hB, v, blk_below h1 hb, own_below h2 hb, h3⟩
  · exact Or.inr ⟨hB, v, blk_below h1 hb, own_below h2 hb, h3⟩
theorem blS_new (w : World) : IsBld w.heap.size w.heap.size [] (w.alloc (.cells #[.pointer none, .slice none 0 0] 45)) :=
  Or.inl ⟨Nat.le_refl _, _, heap_alloc_new w _, World.ownsRow_nil _ _ _ _, by simp [Value.ownBlock]⟩
/-- A builder whose row's block is not another one. -/
theorem blS_iter {B b : Nat} {bs : List Value} {w : World} {R : Nat} {s : ByteArray} {i : Nat} (h : IsBld B b bs w) (hb : w.heap[R]? = some (.stringIter s i)) (j : Nat) : IsBld B b bs (w.iterAt R s j) := by
  have hne : ∀ v p, w.heap[b]? = some (.cells #[p, v] 45 (0, 0)) → b ≠ R := fun v p h1 e => by rw [e, hb] at h1; cases h1
  rcases h with ⟨hB, v, h1, h2, h3⟩ | ⟨hB, v, h1, h2, h3⟩
  · exact Or.inl ⟨hB, v, (Lib.iterAt_other w R b s j (hne _ _ h1)).trans h1, own_iter h2 hb j, h3⟩
  · exact Or.inr ⟨hB, v, (Lib.iterAt_other w R b s j (hne _ _ h1)).trans h1, own_iter h2 hb j, h3⟩
theorem bldAt_apart {B b : Nat} {p : Value} {bs : List Value} {w : World} {R : Nat} {s : ByteArray} {i : Nat} (h : BldAt B b p bs w) (hb : w.heap[R]? = some (.stringIter s i)) : b ≠ R := by
  obtain ⟨hB, v, h1, h2, h3⟩ := h
  intro e; rw [e, hb] at h1; cases h1
theorem bcheck_iter (B b : Nat) (bs : List Value) (w : World) (h : IsBld B b bs w) :
    Calls Tryd.prog 28 #[.pointer (some ⟨b, 0, none⟩)] w fun e w' => e = .returned (.tuple #[]) ∧ BldAt B b (.pointer (some ⟨b, 0, none⟩)) bs w' ∧ Below B w w' ∧ ∀ R, R ≠ b → w'.heap[R]? = w.heap[R]? := by
  rcases h with h | h
  · refine (bcheck_fresh b w h.cell0 h.shape h.frozen0).mono ?_
    rintro e w' ⟨rfl, rfl⟩
    exact ⟨rfl, h.used _, (Below.refl B w).setCell (p := ⟨b, 0, none⟩) h.1 _, fun R hR => Below.heap_setCell _ _ _ _ hR⟩
  · refine (bcheck_used b w h.cell0).mono ?_
    rintro e w' ⟨rfl, rfl⟩
    exact ⟨rfl, h, Below.refl B _, fun _ _ => rfl⟩
set_option maxHeartbeats 2000000 in
set_option maxRecDepth 100000 in
/-- A text comes behind what a builder has; an iterator stays. -/
theorem bwrite_iter (B b : Nat) (bs : List Value) (s : ByteArray) (w : World) (h : IsBld B b bs w) (R : Nat) (t : ByteArray) (i : Nat) (hR : w.heap[R]? = some (.stringIter t i)) (hlen : bs.length + s.size ≤ 140737488355328) (hBw : B ≤ w.heap.size) :
    Calls Tryd.prog 15 #[.pointer (some ⟨b, 0, none⟩), .string s] w fun e w' => e = .returned (.tuple #[.int .i64 s.size, .nilIface]) ∧ IsBld B b (bs ++ Lib.strCells s) w' ∧ Below B w w' ∧ w'.heap[R]? = some (.stringIter t i) := by
  obtain ⟨i0, hi, hz0, hz1, hz2⟩ := info_parts infoU8
  have C := Lib.hid (bcheck_iter B b bs w h)
  have hRb : R ≠ b := fun e => by
    rcases h with ⟨_, v, h1, _⟩ | ⟨_, v, h1, _⟩
    · rw [← e, hR] at h1; cases h1
    · rw [← e, hR] at h1; cases h1
  have HR := Lib.hid hR
  have hRl := blk_lt hR
  clear h hR
  go_enter Tryd.func15, Tryd.ntmps15
  go_wp2_with (go_at_call 28; refine C.out.mono ?_)
  rintro e w1 ⟨rfl, hB1, hb1, hk1⟩
  obtain ⟨hB, v, hbk, hown, hne⟩ := hB1
  have hR1 := (hk1 R hRb).trans HR.out
  have c0 := Lib.cell_of_heap hbk 0; have c1 := Lib.cell_of_heap hbk 1
  dsimp at c0 c1
  have HR1 := Lib.hid hR1
  have hap := Lib.hid (own_apart hown hR1)
  clear hR1 hk1
  go_wp2_with (at_builtin; refine Lib.wpList_append_own_string _ rfl _ _ 43 9 rfl B 5 i0 Tryd.underlying43 Tryd.underlying9 hi hz0 hz1 hz2 _ _ _ rfl hown s rfl ?g3 ?g4 ?g5 ?_)
  case g3 => unfold maxLen; omega
  case g4 => omega
  case g5 => have := hb1.size; omega
  intro v' w2 hown' hgrow _
  have hlt := blk_lt hbk
  have hb2 : w2.heap[b]? = some (.cells #[.pointer (some ⟨b, 0, none⟩), v] 45 (0, 0)) := (hgrow.block b hlt (fun e => hne e.symm)).trans hbk
  have hR2 : Hid (w2.heap[R]? = some (.stringIter t i)) := Lib.hid ((hgrow.block R (blk_lt HR1.out) (fun e => hap.out e.symm)).trans HR1.out)
  have d0 := Lib.cell_of_heap hb2 0
  have d1 := Lib.cell_of_heap hb2 1
  have f1 : w2.frozen? ⟨b, 1, none⟩ = false := Lib.frozen_of_heap hb2 1
  dsimp at d0 d1
  obtain ⟨ao, n', cap, rfl⟩ : ∃ ao n' cap, v' = .slice ao n' cap := by
    rcases hown'.2 with ⟨hv, _⟩ | ⟨g, cap, cur, hv, _⟩
    · exact ⟨_, _, _, hv⟩
    · exact ⟨_, _, _, hv⟩
  go_wp2
  go_ret2
  refine ⟨rfl, Or.inr ?_, ?_, (Below.heap_setCell _ _ _ _ hRb).trans hR2.out⟩
  · exact Lib.BuilderAt.put (T := 45) (e := 5) hB hb2 (bs' := bs ++ Lib.strCells s) (by simpa [Lib.strCells_length] using hown') (by decide)
  · exact (hb1.grown hgrow (by have := hb1.size; omega) (fun k hk => (hown.lt k hk).1)).setCell (p := ⟨b, 1, none⟩) hB _
end Go.Proofs.YtgnhnalaakgamaaDoor
set_option linter.unusedVariables false
set_option linter.unusedSimpArgs false
namespace Go.Proofs.YtgnhnalaakgamaaDoor
open Go.RowKit
structure SpInv (f : Int → List UInt8) (s : ByteArray) (w : World) (R : Nat) (i n : Nat) (acc : List Int) (wr : World) : Prop where
  b : IsBld w.heap.size w.heap.size (Lib.byteCells (tellL f acc)) wr
  it : wr.heap[R]? = some (.stringIter s i)
  bel : Below w.heap.size w wr
  ac : acc ++ valsF s n i = valsS s
  le : i ≤ s.size
  fu : s.size ≤ i + n
  al : acc.length ≤ i
end Go.Proofs.YtgnhnalaakgamaaDoor
set_option linter.unusedVariables false
set_option linter.unusedSimpArgs false
namespace Go.Proofs.YtgnhnalaakgamaaDoor
open Go.RowKit
/-- A value's letters. -/
def leF (v : Int) : List UInt8 := if v = 92 then [92, 92] else if 32 ≤ v ∧ v ≤ 126 then [v.toNat.toUInt8] else 92 :: 117 :: hexS v 6
def lnL (l : List (Int × Int)) : List UInt8 := l.flatMap fun p => leF p.1
theorem right_rng {v : Int} (h : rightB v = true) : 0 ≤ v ∧ v ≤ 1114367 := by
  unfold rightB at h
  rw [Bool.or_eq_true, ptB_iff, stB_iff] at h
  omega
theorem hex6 {v : Int} (h : rightB v = true) : hexS v 6 = hexL v 6 ∧ (hexL v 6).length = 6 ∧ uhR (hexL v 6) = v ∧ uhE (hexL v 6) = 0 ∧ ∀ c ∈ hexL v 6, 48 ≤ c.toNat ∧ c.toNat ≤ 70 := by
  have hr := right_rng h
  have hl := hexL_len v 6 6 (Nat.lt_of_le_of_lt (show v.toNat ≤ 1114367 by omega) (by decide)) (by decide) (by decide)
  have hn : (hexL v 6).length = 6 := by
    have : (6 : Int).toNat = 6 := rfl
    omega
  have hu := uh_hex v 6 hr.1 (by omega) (by rw [hexN_L v 6 (by omega)]; omega)
  rw [hexN_L v 6 (by omega)] at hu
  exact ⟨hexS_L v 6 hr.1 (by omega) (by omega), hn, hu.1, hu.2, hexL_ascii v 6⟩
theorem leF_ascii {v : Int} (h : rightB v = true) : ∀ c ∈ leF v, 32 ≤ c.toNat ∧ c.toNat ≤ 126 := by
  intro c hc
  unfold leF at hc
  split at hc
  · simp at hc; subst hc; decide
  · split at hc
    · rename_i h1 h2
      rw [List.mem_singleton] at hc
      subst hc
      have := u8_nat (x := v) (by omega) (by omega)
      omega
    · rw [(hex6 h).1] at hc
      simp only [List.mem_cons] at hc
      rcases hc with rfl | rfl | hc
      · decide
      · decide
      · have := (hex6 h).2.2.2.2 c hc; omega
theorem leF_len {v : Int} (h : rightB v = true) : 1 ≤ (leF v).length ∧ (leF v).length ≤ 8 := by
  unfold leF
  split
  · simp
  · split
    · simp
    · rw [(hex6 h).1]; simp [(hex6 h).2.1]
theorem sg_right {l : List (Int × Int)} (h : sgC l = true) : ∀ p ∈ l, rightB p.1 = true := by
  intro p hp
  unfold sgC at h
  rw [List.all_eq_true] at h
  have := h p hp
  unfold sgR at this
  rw [Bool.and_eq_true, Bool.and_eq_true] at this
  exact this.2.2
theorem lnL_ascii {l : List (Int × Int)} (h : sgC l = true) : ∀ c ∈ lnL l, 32 ≤ c.toNat ∧ c.toNat ≤ 126 := by
  intro c hc
  unfold lnL at hc
  rw [List.mem_flatMap] at hc
  obtain ⟨p, hp, hc⟩ := hc
  exact leF_ascii (sg_right h p hp) c hc
theorem lnL_cons (p : Int × Int) (l : List (Int × Int)) : lnL (p :: l) = leF p.1 ++ lnL l := rfl
theorem lnL_app (a b : List (Int × Int)) : lnL (a ++ b) = lnL a ++ lnL b := by unfold lnL; rw [List.flatMap_append]
theorem lnL_len {l : List (Int × Int)} (h : ∀ p ∈ l, rightB p.1 = true) : (lnL l).length ≤ 8 * l.length := by
  induction l with
  | nil => exact Nat.zero_le _
  | cons p l ih =>
    rw [lnL_cons, List.length_append, List.length_cons]
    have := (leF_len (h p (List.mem_cons_self ..))).2
    have := ih (fun q hq => h q (List.mem_cons_of_mem _ hq))
    omega
/-- The next value of letters, and of how many bytes it is. -/
def nxF (l : List UInt8) : Int × Nat :=
  if l.take 2 = [92, 92] then (92, 2)
  else if l.take 2 = [92, 117] ∧ 8 ≤ l.length ∧ uhE ((l.drop 2).take 6) = 0 ∧ rightB (uhR ((l.drop 2).take 6)) = true then (uhR ((l.drop 2).take 6), 8)
  else (((l.headD 0).toNat : Int), 1)
theorem nx_le {v : Int} (h : rightB v = true) (r : List UInt8) : nxF (leF v ++ r) = (v, (leF v).length) := by
  unfold nxF leF
  by_cases h1 : v = 92
  · subst h1; rw [if_pos rfl]; rfl
  · rw [if_neg h1]
    by_cases h2 : 32 ≤ v ∧ v ≤ 126
    · rw [if_pos h2]
      have hne : v.toNat.toUInt8 ≠ 92 := fun e => by
        have := u8_nat (x := v) (by omega) (by omega)
        rw [e] at this
        have : (92 : UInt8).toNat = 92 := rfl
        omega
      have ht : ∀ x, ([v.toNat.toUInt8] ++ r).take 2 ≠ [92, x] := fun x e => by
        cases r with
        | nil => simp at e
        | cons y r => simp at e; exact hne e.1
      rw [if_neg (ht 92), if_neg (fun e => ht 117 e.1)]
      have := u8_nat (x := v) (by omega) (by omega)
      show (((v.toNat.toUInt8).toNat : Int), 1) = _
      rw [this]
      refine Prod.ext ?_ rfl
      show ((v.toNat : Nat) : Int) = v
      omega
    · rw [if_neg h2]
      obtain ⟨e1, e2, e3, e4, _⟩ := hex6 h
      rw [e1]
      have ht : (92 :: 117 :: hexL v 6 ++ r).take 2 = [92, 117] := rfl
      have hd : ((92 :: 117 :: hexL v 6 ++ r).drop 2).take 6 = hexL v 6 := by
        show (hexL v 6 ++ r).take 6 = hexL v 6
        rw [List.take_append_of_le_length (by omega), List.take_of_length_le (by omega)]
      rw [ht, hd, if_neg (by decide), if_pos ⟨rfl, by simp [e2], e4, by rw [e3]; exact h⟩, e3]
      refine Prod.ext rfl ?_
      simp [e2]
/-- The values of letters, at most so many. -/
def unF : Nat → List UInt8 → Nat → List Int
  | 0, _, _ => []
  | f + 1, l, k => if l = [] then [] else match k with
    | 0 => []
    | k + 1 => (nxF l).1 :: unF f (l.drop (nxF l).2) k
theorem nx_pos (l : List UInt8) : 1 ≤ (nxF l).2 := by
  unfold nxF; split
  · show 1 ≤ 2; omega
  · split
    · show 1 ≤ 8; omega
    · show 1 ≤ 1; omega
theorem un_ln {l : List (Int × Int)} (h : ∀ p ∈ l, rightB p.1 = true) : ∀ f k, (lnL l).length ≤ f → l.length ≤ k → unF f (lnL l) k = l.map (·.1) := by
  induction l with
  | nil =>
    intro f k hf hk
    cases f with
    | zero => rfl
    | succ f => unfold unF; rw [if_pos (show lnL [] = [] from rfl)]; rfl
  | cons p l ih =>
    intro f k hf hk
    have hp := h p (List.mem_cons_self ..)
    have hl := leF_len hp
    rw [lnL_cons, List.length_append] at hf
    obtain ⟨g, rfl⟩ : ∃ g, f = g + 1 := ⟨f - 1, by omega⟩
    obtain ⟨m, rfl⟩ : ∃ m, k = m + 1 := ⟨k - 1, by simp at hk; omega⟩
    rw [lnL_cons]
    unfold unF
    rw [if_neg (fun e => by have := congrArg List.length e; rw [List.length_append] at this; simp at this; have := this.1; rw [this] at hl; simp at hl)]
    show (nxF _).1 :: unF g _ m = _
    rw [nx_le hp, List.drop_append_of_le_length (Nat.le_refl _), List.drop_of_length_le (Nat.le_refl _), List.nil_append, ih (fun q hq => h q (List.mem_cons_of_mem _ hq)) g m (by omega) (by simp at hk; omega)]
    rfl
/-- Unlike entries have unlike lines. -/
theorem ln_inj {a b : List (Int × Int)} (ha : ∀ p ∈ a, rightB p.1 = true) (hb : ∀ p ∈ b, rightB p.1 = true) (h : lnL a = lnL b) : a.map (·.1) = b.map (·.1) := by
  rw [← un_ln ha ((lnL a).length + (lnL b).length) (a.length + b.length) (by omega) (by omega), ← un_ln hb ((lnL a).length + (lnL b).length) (a.length + b.length) (by omega) (by omega), h]
theorem ln_vals {a b : List (Int × Int)} (h : a.map (·.1) = b.map (·.1)) : lnL a = lnL b := by
  have key : ∀ l : List (Int × Int), lnL l = (l.map (·.1)).flatMap leF := fun l => by
    unfold lnL; rw [List.flatMap_map]
  rw [key, key, h]
end Go.Proofs.YtgnhnalaakgamaaDoor
set_option linter.unusedVariables false
set_option linter.unusedSimpArgs false
namespace Go.Proofs.YtgnhnalaakgamaaDoor
open Go.RowKit Go.Sort
theorem kcheck_t (k : Ky) (w : World) (hK : KT w) (er : Int) (h : ckE k = er) : Calls Tryd.prog 36 #[.agg #[.int .i64 k.1, .int .i64 k.2.1, .string k.2.2.1, .bool k.2.2.2]] w fun e w' => e = .returned (.int .i64 er) ∧ Below w.heap.size w w' := by
  subst h; exact kcheck_any k w hK
theorem nm_short (k : Ky) (h : keyB k = true) (ht : k.2.2.1.size ≤ 300) : (mkS (nmN k)).size ≤ 900000 := by
  rw [mkS_size]
  have hf := kyF_of h
  clear h
  cases hf with
  | sign v h0 h1 h => show (sgN v).length ≤ _; have := sgN_len v; omega
  | ctrl v h0 h1 => show (ctN v).length ≤ _; rw [ctN_len]; omega
  | meta1 v h0 h1 => rw [nm_meta1 v h0]; have := sgN_len v; simp; omega
  | meta0 v h0 h1 => rw [nm_meta0 v (by omega)]; have := ctN_len v; simp; omega
  | paste t c h =>
    show (psN t.data.toList c).length ≤ _
    unfold psN
    have : t.data.toList.length ≤ 300 := by rw [list_size]; exact ht
    simp only [List.length_cons, List.length_append, hx2_len]
    cases c <;> simp <;> omega
  | named kind v h1 h2 h3 h15 h =>
    rw [nm_named kind v _ _ h1 h2 h3 h15]
    have : ∀ r ∈ kTab, r.2.2.1.length ≤ 10 := by decide
    obtain ⟨r, hr⟩ := Option.isSome_iff_exists.1 h
    have ⟨hm, e1, e2⟩ := find_ok hr
    have e3 : kRowOf kind v = r := by unfold kRowOf; rw [hr]; rfl
    rw [e3]; have := this r hm; omega
end Go.Proofs.YtgnhnalaakgamaaDoor
set_option linter.unusedVariables false
set_option linter.unusedSimpArgs false
namespace Go.Proofs.YtgnhnalaakgamaaDoor
open Go.RowKit
/-- A sign, a paste is no key that may be bound. -/
theorem bmay_no (k : Ky) (w : World) (h : k.1 = 1 ∨ k.1 = 15) : Calls Tryd.prog 18 #[.agg #[.int .i64 k.1, .int .i64 k.2.1, .string k.2.2.1, .bool k.2.2.2]] w fun e w' => e = .returned (.tuple #[.string ⟨#[]⟩, .bool false]) ∧ Below w.heap.size w w' := by
  obtain ⟨kd, kv, kt, kc⟩ := k
  have HB := Lib.hid (below_alloc w (.cells #[.int .i64 kd, .int .i64 kv, .string kt, .bool kc] 34))
  have z0 := cell_of_row _ _ 0 _ _ _ (heap_alloc_new w (.cells #[.int .i64 kd, .int .i64 kv, .string kt, .bool kc] 34))
  dsimp at z0 h
  rcases h with rfl | rfl
  · go_enter Tryd.func18, Tryd.ntmps18
    go_wp2
    refine bodyPost_ret (results_tmp2 rfl _ _ _) rfl ?_
    exact ⟨rfl, HB.out⟩
  · go_enter Tryd.func18, Tryd.ntmps18
    go_wp2
    refine bodyPost_ret (results_tmp2 rfl _ _ _) rfl ?_
    exact ⟨rfl, HB.out⟩
theorem bmay_yes (k : Ky) (w : World) (hK : KT w) (h1 : k.1 ≠ 1) (h15 : k.1 ≠ 15) : Calls Tryd.prog 18 #[.agg #[.int .i64 k.1, .int .i64 k.2.1, .string k.2.2.1, .bool k.2.2.2]] w fun e w' => e = .returned (.tuple #[.string (mkS (nmR k)), .bool (ckE k == 0)]) ∧ Below w.heap.size w w' := by
  obtain ⟨kd, kv, kt, kc⟩ := k
  have b1 := below_alloc w (.cells #[.int .i64 kd, .int .i64 kv, .string kt, .bool kc] 34)
  have HB := Lib.hid b1
  have hr := heap_alloc_new w (.cells #[.int .i64 kd, .int .i64 kv, .string kt, .bool kc] 34)
  have z0 := cell_of_row _ _ 0 _ _ _ hr
  have z1 := cell_of_row _ _ 1 _ _ _ hr
  have z2 := cell_of_row _ _ 2 _ _ _ hr
  have z3 := cell_of_row _ _ 3 _ _ _ hr
  dsimp at z0 z1 z2 z3 h1 h15
  obtain ⟨nm, hnm⟩ : ∃ nm, mkS (nmR (kd, kv, kt, kc)) = nm := ⟨_, rfl⟩
  obtain ⟨er, her⟩ : ∃ er, ckE (kd, kv, kt, kc) = er := ⟨_, rfl⟩
  have KN := Lib.hid (kname_t (kd, kv, kt, kc) _ (hK.below b1) nm er hnm her)
  rw [hnm, her]
  have e1 : (kd == 1) = false := by simpa using h1
  have e15 : (kd == 15) = false := by simpa using h15
  clear hnm her b1 hr
  go_enter Tryd.func18, Tryd.ntmps18
  go_wp2_with (go_at_call 29; refine KN.out.mono ?_; rintro e w1 ⟨rfl, hb⟩; have B1 := Lib.hid hb; clear hb)
  refine bodyPost_ret (results_tmp2 rfl _ _ _) rfl ?_
  exact ⟨rfl, seqB HB.out B1.out⟩
end Go.Proofs.YtgnhnalaakgamaaDoor
set_option linter.unusedVariables false
set_option linter.unusedSimpArgs false
namespace Go.Proofs.YtgnhnalaakgamaaDoor
open Go.RowKit
theorem bba_ne {p p' : ByteArray} (h : ¬ p = p') : ¬ p.toList = p'.toList := fun e => h (by
  rw [ByteArray.toList_eq, ByteArray.toList_eq] at e
  cases p; cases p'
  congr
  exact Array.toList_inj.1 e)
theorem neBr (s s' : ByteArray) (x x' : Int) (w : World) : (binOp .neq 47 (.agg #[.string s, .int .i64 x]) (.agg #[.string s', .int .i64 x'])).run Tryd.prog w = .ok (.bool (decide (¬ (s = s' ∧ x = x')))) w := by
  by_cases h0 : s = s'
  case neg => simp [go_sem, h0, bba_ne h0]
  by_cases h1 : x = x'
  case neg => simp [go_sem, h0, h1]
  simp [go_sem, h0, h1]
set_option maxHeartbeats 4000000 in
theorem bequal_any (L M : List BRow) (a a' : Option Addr) (n n' c c' B B' : Nat) (w : World) (h : OwB w B (.slice a n c) L) (hn : L.length = n) (h' : OwB w B' (.slice a' n' c') M) (hn' : M.length = n') (hl : n ≤ 1000) (hl' : n' ≤ 1000) :
    Calls Tryd.prog 17 #[.slice a n c, .slice a' n' c'] w fun e w' => e = .returned (.bool (decide (L = M))) ∧ Below w.heap.size w w' := by
  obtain ⟨r, hr⟩ : ∃ r, decide (L = M) = r := ⟨_, rfl⟩
  rw [hr]
  have HR := Lib.hid hr
  clear hr
  by_cases hnn : n = n'
  · subst hnn
    have H := Lib.hid h; have HN := Lib.hid hn; have H' := Lib.hid h'; have HN' := Lib.hid hn'; have HL := Lib.hid hl
    clear h hn h' hn' hl hl'
    go_enter Tryd.func17, Tryd.ntmps17
    go_upto_region 4 with fail
    go_loopw [13] (fun iv wr => ∃ i : Nat, iv = .int .i64 (i : Int) ∧ i ≤ n ∧ (∀ x, x < i → L.getD x b0 = M.getD x b0) ∧ Hid (Below w.heap.size w wr)) (fun iv _ => n - (intOf iv).toNat)
    case atStart => exact ⟨0, rfl, Nat.zero_le _, fun x hx => absurd hx (Nat.not_lt_zero _), Lib.hid (Below.refl _ _)⟩
    case round =>
      obtain ⟨i, rfl, hin, hlo, HB⟩ := hrel
      have hn1000 := HL.out
      by_cases hlt : i < n
      · have HW : Hid (OwB wr B (.slice a n c) L) := Lib.hid (rowb_below H.out HB.out)
        have HW' : Hid (OwB wr B' (.slice a' n c') M) := Lib.hid (rowb_below H'.out HB.out)
        obtain ⟨g, ha, x0, x1⟩ := OwB.cell HW.out HN.out i hlt
        obtain ⟨g', ha', y0, y1⟩ := OwB.cell HW'.out HN'.out i hlt
        subst ha; subst ha'
        obtain ⟨⟨nm, cmd⟩, hq⟩ : ∃ q, L.getD i b0 = q := ⟨_, rfl⟩
        obtain ⟨⟨nm', cmd'⟩, hq'⟩ : ∃ q, M.getD i b0 = q := ⟨_, rfl⟩
        rw [hq] at x0 x1
        rw [hq'] at y0 y1
        dsimp at x0 x1 y0 y1
        have hi1 : (i : Int) < (n : Int) := by omega
        have hi0 : (0 : Int) ≤ (i : Int) := by omega
        have HQ := Lib.hid hq; have HQ' := Lib.hid hq'
        have HLO := Lib.hid hlo; have HLT := Lib.hid hlt
        clear hq hq' hlo hlt hin
        have NE := neBr nm nm' cmd cmd'
        by_cases heq : nm = nm' ∧ cmd = cmd'
        · have NE' : ∀ w, (binOp .neq 47 (.agg #[.string nm, .int .i64 cmd]) (.agg #[.string nm', .int .i64 cmd'])).run Tryd.prog w = .ok (.bool false) w := fun w => by rw [NE, decide_eq_false (by simpa using heq)]
          have HEQ := Lib.hid heq
          clear NE heq
          go_upto_region 6 with fail
          go_region_law fail
          all_goals
            go_wp2
            go_roundw
            case rel => exact ⟨i + 1, by go_num, by have := HLT.out; omega, fun x hx => by
              rcases Nat.lt_or_ge x i with h1 | h1
              · exact HLO.out x h1
              · obtain rfl : x = i := by omega
                rw [HQ.out, HQ'.out, HEQ.out.1, HEQ.out.2], Lib.hid (by first | exact HB.out.drew | exact HB.out)⟩
            case measure => (have := HLT.out; simp [intOf]; try omega)
        · have NE' : ∀ w, (binOp .neq 47 (.agg #[.string nm, .int .i64 cmd]) (.agg #[.string nm', .int .i64 cmd'])).run Tryd.prog w = .ok (.bool true) w := fun w => by rw [NE, decide_eq_true heq]
          have hd : decide (L = M) = false := decide_eq_false (fun e => heq (by
            have := HQ.out.symm.trans (e ▸ HQ'.out)
            injection this with e1 e2
            exact ⟨e1, e2⟩))
          obtain rfl : false = r := hd.symm.trans HR.out
          clear NE heq hd
          go_upto_region 6 with fail
          go_region_law fail
          all_goals
            go_wp2
            go_ret
            exact ⟨rfl, by first | exact HB.out.drew | exact HB.out⟩
      · obtain rfl : i = n := by omega
        have hd : decide (L = M) = true := decide_eq_true (List.ext_getElem (by rw [HN.out, HN'.out]) (fun x h1 h2 => by
          have := hlo x (by rw [← HN.out]; exact h1)
          rw [List.getD, List.getElem?_eq_getElem h1, List.getD, List.getElem?_eq_getElem h2] at this
          exact this))
        obtain rfl : true = r := hd.symm.trans HR.out
        clear hd hlo
        go_wp2
        go_ret
        exact ⟨rfl, HB.out⟩
  · have hd : decide (L = M) = false := decide_eq_false (fun e => hnn (by rw [← hn, ← hn', e]))
    obtain rfl : false = r := hd.symm.trans HR.out
    have hni : ¬ (n : Int) = (n' : Int) := by omega
    clear hd h h' hn hn' hl hl' hnn
    go_enter Tryd.func17, Tryd.ntmps17
    go_wp2
    go_ret
    exact ⟨rfl, Below.refl _ _⟩
end Go.Proofs.YtgnhnalaakgamaaDoor
set_option linter.unusedVariables false
set_option linter.unusedSimpArgs false
namespace Go.Proofs.YtgnhnalaakgamaaDoor
open Go.RowKit
/-- An append of bindings to none. -/
theorem wpList_app_br {w : World} {ops : Array Oper} {rest : List Oper} {o : Oper} {a : Act} {Q : Exit → Act → World → Prop} (hgd : Region.wanted o (yielded ops a.tmps) = true) (s x : Operand)
    (ho : o.op = .call { callee := .builtin .append, args := #[s, x], argTypes := #[23, 23] }) (base : Nat)
    (v : Value) (hs : a.eval s = v) (hown : w.ownsRow base 47 2 v 0 []) (g n c : Nat) (L : List BRow) (hx : a.eval x = .slice (some ⟨g, 0, none⟩) n c) (hl : L.length = n) (hnews : ∀ j u, (bC L)[j]? = some u → w.cell? ((⟨g, 0, none⟩ : Addr).add j) = some u)
    (hlen : n ≤ 1000) (hbase : base ≤ w.heap.size)
    (h : ∀ ad' c' w', OwB w' base (.slice ad' n c') L → w.grownBy w' v.ownBlock → wpList Tryd.prog ops Q rest (a.put o.dst (.slice ad' n c')) w') : wpList Tryd.prog ops Q (o :: rest) a w := by
  obtain ⟨bb, hbb, hb1, hb2⟩ := bytesBr
  obtain ⟨i0, hi, hz0, hz1, hz2⟩ := info_parts hbb
  refine wpList_step fun K hK => ?_
  rw [if_pos hgd]
  refine wp_append_own w s x 23 ho base 47 i0 _ 2 bb Tryd.underlying23 hi hz0 hz1 hz2 rfl (by decide) v 0 _ hs hown ⟨g, 0, none⟩ n c (bC L) hx (by rw [bC_len, hl]) hnews (bC_one L) (by unfold maxLen; omega) (Nat.le_trans (Nat.mul_le_mul (show 0 + n ≤ 1000000 by omega) hb2) (by decide)) hbase (fun v' w' a1 a2 _ => ?_)
  rw [Nat.zero_add, List.nil_append] at a1
  have hO : OwB w' base v' L := by unfold OwB; rw [hl]; exact a1
  obtain ⟨ad', c', rfl⟩ := hO.form hl
  exact hK _ _ (h ad' c' w' hO a2)
theorem br_new (w : World) : (w.alloc (.cells #[] 47)).ownsRow w.heap.size 47 2 (.slice (some ⟨w.heap.size, 0, none⟩) 0 0) 0 [] :=
  ⟨rfl, .inr ⟨w.heap.size, 0, #[], rfl, Nat.le_refl _, heap_alloc_new _ _, Nat.le_refl _, by decide, rfl, rfl⟩⟩
theorem br_news {w : World} {B c g : Nat} {L : List BRow} (h : OwB w B (.slice (some ⟨g, 0, none⟩) L.length c) L) : ∀ j u, (bC L)[j]? = some u → w.cell? ((⟨g, 0, none⟩ : Addr).add j) = some u := by
  intro j u hj
  have hadd : (⟨g, 0, none⟩ : Addr).add j = ⟨g, j, none⟩ := by unfold Addr.add; split <;> simp_all
  have hjl : j < (bC L).length := (List.getElem?_eq_some_iff.1 hj).1
  rw [hadd, World.ownsRow.cellAt h j (by rw [bC_len] at hjl; exact hjl)]
  exact hj
set_option maxHeartbeats 2000000 in
theorem bclone_any (L : List BRow) (a : Option Addr) (n c B0 : Nat) (w : World) (h : OwB w B0 (.slice a n c) L) (hn : L.length = n) (hl : n ≤ 1000) :
    Calls Tryd.prog 20 #[.slice a n c] w fun e w' => ∃ b d, e = .returned (.slice b n d) ∧ OwB w' w.heap.size (.slice b n d) L ∧ Below w.heap.size w w' := by
  have q := fun (w : World) (a : Option Addr) (n c n' c' : Nat) => Lib.run_eql_slice_nil (P := Tryd.prog) w 23 47 a n c n' c' Tryd.underlying23
  subst hn
  rcases h.2 with ⟨hv, h0⟩ | ⟨g, cap, cur, hv, _⟩
  · injection hv with e1 e2 e3
    subst e1; subst e3
    obtain rfl : L = [] := List.eq_nil_of_length_eq_zero h0
    clear h
    go_enter Tryd.func20, Tryd.ntmps20
    go_wp2
    go_ret
    exact ⟨none, 0, rfl, owb_nil _ _, Below.refl _ _⟩
  · injection hv with e1 e2 e3
    subst e1
    have N0 := below_alloc w (.cells #[] 47)
    have H0 := Lib.hid (br_new w)
    have HA := Lib.hid (rowb_below h N0)
    have HB0 := Lib.hid N0
    clear h N0
    obtain ⟨B, hB⟩ : ∃ B, w.heap.size = B := ⟨_, rfl⟩
    have HBq := Lib.hid hB
    rw [hB] at H0
    obtain ⟨W, hW⟩ : ∃ W, w.alloc (.cells #[] 47) = W := ⟨_, rfl⟩
    rw [hW] at H0 HA HB0
    go_enter Tryd.func20, Tryd.ntmps20
    go_wp2_with (at_builtin; refine wpList_app_br rfl _ _ rfl B _ rfl H0.out g L.length c L rfl rfl (br_news HA.out) hl ?g4 ?_)
    case g4 => have := HB0.out.size; have := HBq.out; omega
    intro ad5 c5 w5 o5 g5
    have N5 := Lib.hid (HB0.out.grown g5 HB0.out.size (fun j hj => by simp [Value.ownBlock] at hj; have := HBq.out; omega))
    have HS := Lib.hid (show OwB w5 w.heap.size (.slice ad5 L.length c5) L by rw [HBq.out]; exact o5)
    clear o5 g5
    go_wp2
    go_ret
    exact ⟨ad5, c5, rfl, HS.out, N5.out⟩
end Go.Proofs.YtgnhnalaakgamaaDoor
set_option linter.unusedVariables false
set_option linter.unusedSimpArgs false
namespace Go.Proofs.YtgnhnalaakgamaaDoor
open Go.RowKit
theorem ln_take (l : List (Int × Int)) (k : Nat) (h : k < l.length) : lnL (l.take (k + 1)) = lnL (l.take k) ++ leF (l.getD k (0, 0)).1 := by
  rw [List.take_succ_eq_append_getElem h, lnL_app, List.getD, List.getElem?_eq_getElem h]
  unfold lnL
  rw [List.flatMap_cons, List.flatMap_nil, List.append_nil]; rfl
end Go.Proofs.YtgnhnalaakgamaaDoor
