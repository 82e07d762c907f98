/-
  Joined: Ky13 Ky14 Ky15 Ky16 Ky17 ArgS Ky18.
-/
import Derived.Test.YtdhhfbglbihapaaDoorJY01
import Derived.Test.YtdhhfbglbihapaaDoorJY02
import Derived.Test.YtdhhfbglbihapaaDoorJY04
import Derived.Deep.RegionHeld3
import Derived.Deep.SlicePairs
import Derived.ChangeArms
import Derived.Lib.LaidTab
import Derived.Lib.LaidU8
import Derived.Lib.SmallJoins
import Derived.Lib.QuietBelow
import Derived.BigQuiet
set_option linter.unusedVariables false
set_option linter.unusedSimpArgs false
set_option maxRecDepth 100000
set_option linter.unusedVariables false
set_option linter.unusedSimpArgs false
namespace Go.Proofs.YtdhhfbglbihapaaDoor
open Go.RowKit
theorem rhex1 (v : Int) (w : World) (h0 : 0 ≤ v) (h1 : v ≤ 9223372036854775807) : Calls Tryd.prog 105 #[.int .i64 v, .int .i64 1] w fun e w' => e = .returned (.string (mkS (hexN v 1))) ∧ w = w' :=
  hex_ref 16 v 1 w h0 h1 (by omega) (by omega) (by omega) (by omega)
theorem rhex2 (v : Int) (w : World) (h0 : 0 ≤ v) (h1 : v ≤ 9223372036854775807) : Calls Tryd.prog 105 #[.int .i64 v, .int .i64 2] w fun e w' => e = .returned (.string (mkS (hexN v 2))) ∧ w = w' :=
  hex_ref 16 v 2 w h0 h1 (by omega) (by omega) (by omega) (by omega)
theorem conv1 (v : Int) (w : World) (o : Obj) : ∀ dst, Tryd.prog.underlying dst = some .string → (convert 44 dst (.slice (some ⟨w.heap.size + 1, 0, none⟩) 1 1)).run Tryd.prog ((w.alloc o).alloc (Obj.cells #[.int .u8 v] 5)) = .ok (.string (txt [v])) ((w.alloc o).alloc (Obj.cells #[.int .u8 v] 5)) := by
  have h := conv_new (w.alloc o) [v] 1 rfl
  rwa [show (w.alloc o).heap.size = w.heap.size + 1 by simp] at h
theorem conv2 (u v : Int) (w : World) (o : Obj) : ∀ dst, Tryd.prog.underlying dst = some .string → (convert 44 dst (.slice (some ⟨w.heap.size + 1, 0, none⟩) 2 2)).run Tryd.prog ((w.alloc o).alloc (Obj.cells #[.int .u8 u, .int .u8 v] 5)) = .ok (.string (txt [u, v])) ((w.alloc o).alloc (Obj.cells #[.int .u8 u, .int .u8 v] 5)) := by
  have h := conv_new (w.alloc o) [u, v] 2 rfl
  rwa [show (w.alloc o).heap.size = w.heap.size + 1 by simp] at h
/-- What a value is named by the reference. -/
def svN (v : Int) : List UInt8 := if 32 ≤ v then sgN v else ctN v
theorem kTab_row : ∀ r ∈ kTab, kRowOf r.1 r.2.1 = r := by decide
end Go.Proofs.YtdhhfbglbihapaaDoor
set_option linter.unusedVariables false
set_option linter.unusedSimpArgs false
namespace Go.Proofs.YtdhhfbglbihapaaDoor
open Go.RowKit
theorem kpre_any (s : ByteArray) (p : List UInt8) (b : Bool) (h : Lib.hasPrefix s.data.toList p = b) (w : World) : Calls Tryd.prog 107 #[.string s, .string (mkS p)] w fun e w' => e = .returned (.bool b) ∧ w = w' :=
  (Tryd.strings_HasPrefix s (mkS p) w).mono fun e w' hh => ⟨by rw [hh.1, ← h], hh.2.symm⟩
theorem kpsOf_t (s : ByteArray) (k : Ky) (h : psOf s.data.toList = k) (w : World) (hs : s.size ≤ 900000) : Calls Tryd.prog 169 #[.string s] w fun e w' => e = .returned (.agg #[.int .i64 k.1, .int .i64 k.2.1, .string k.2.2.1, .bool k.2.2.2]) ∧ Below w.heap.size w w' := by
  subst h; exact kpsOf_any s w hs
set_option maxHeartbeats 8000000 in
set_option maxRecDepth 100000 in
theorem kkeyOf_any (s : ByteArray) (w : World) (hK : KT w) (hs : s.size ≤ 900000) : Calls Tryd.prog 149 #[.string s] w fun e w' => e = .returned (kyV (kyOf s.data.toList)) ∧ Below w.heap.size w w' := by
  have B0 := below_alloc w (.cells #[.int .i64 0, .int .i64 0, .string ⟨#[]⟩, .bool false] 75)
  have hq := heap_alloc_new w (.cells #[.int .i64 0, .int .i64 0, .string ⟨#[]⟩, .bool false] 75)
  obtain ⟨W0, hW0⟩ : ∃ W0, w.alloc (.cells #[.int .i64 0, .int .i64 0, .string ⟨#[]⟩, .bool false] 75) = W0 := ⟨_, rfl⟩
  rw [hW0] at B0 hq
  have hld := Lib.hid (hK.below B0)
  replace hq := Lib.hid hq
  obtain ⟨R, hR⟩ : ∃ R, kyOf s.data.toList = R := ⟨_, rfl⟩
  have HR := Lib.hid hR
  rw [hR]
  clear hK hR
  go_enter Tryd.func149, Tryd.ntmps149
  go_upto_region 1 with fail
  clear hW0
  go_wp2_with (with_reducible refine wpList_load_kt hld.out ?_)
  clear hld
  go_loopw [7] (fun iv wr => ∃ k : Nat, k ≤ 13 ∧ iv = .int .i64 (k : Int) ∧ Hid (kNFrom s.data.toList k = kNamed s.data.toList) ∧ Below W0.heap.size W0 wr) (fun iv _ => 13 - (intOf iv).toNat)
  case atStart => exact ⟨0, by omega, rfl, Lib.hid rfl, Below.refl _ _⟩
  case round =>
    obtain ⟨k, hk, rfl, HE, hb⟩ := hrel
    have hsz := hb.size
    have q := blk_below hq.out hb
    have NB := Lib.hid (seqB B0 hb)
    by_cases hlt : k < 13
    · have hk0 : (0 : Int) ≤ k := by omega
      have hk1 : (k : Int) < 13 := by omega
      have hix := fun w => kIdx k hlt w
      obtain ⟨r, hr⟩ : ∃ r, kTab.getD k kr0 = r := ⟨_, rfl⟩
      rw [hr] at hix
      obtain ⟨a, b, c, d⟩ := r
      rw [rowV_eq] at hix
      have B1 := below_alloc wr (.cells #[.int .i64 a, .int .i64 b, .string ⟨c.toArray⟩, .string ⟨d.toArray⟩] 184)
      by_cases he : mkS c = s
      · have HN := kN_hit HE.out hlt hr (mkS_eq he)
        have HF : Hid (kyV R = .agg #[.int .i64 a, .int .i64 b, .string ⟨#[]⟩, .bool false]) := Lib.hid (by rw [← HR.out, kyOf_named HN]; rfl)
        have q1 := blk_below q B1
        have zf := fun i => frozen_of_row _ w.heap.size i _ _ q1
        have zz := fun i => cell_of_row _ _ i _ _ _ q1
        have z0 := zz 0; have z1 := zz 1; have z2 := zz 2; have z3 := zz 3
        dsimp at z0 z1 z2 z3
        have NF := Lib.hid (four_below _ w w.heap.size (.int .i64 a) (.int .i64 b) (.string ⟨#[]⟩) (.bool false) (Nat.le_refl _) (seqB NB.out B1))
        have hfin := Lib.hid (four_set q1 (.int .i64 a) (.int .i64 b) (.string ⟨#[]⟩) (.bool false))
        have he' : (⟨c.toArray⟩ : ByteArray) = s := he
        have hse : ((⟨c.toArray⟩ : ByteArray).toList == s.toList) = true := by rw [he']; simp
        have hse2 : (⟨c.toArray⟩ : ByteArray).toList = s.toList := by rw [he']
        clear zz q q1 HE HN he he'
        go_wp2
        generalize hWF : World.setCell _ _ _ = WF
        have hqf : WF.heap[w.heap.size]? = some (.cells #[.int .i64 a, .int .i64 b, .string ⟨#[]⟩, .bool false] 75 (0, 0)) := by rw [← hWF]; exact hfin.out
        have hN : Below w.heap.size w WF := by rw [← hWF]; exact NF.out
        have y := fun i => cell_of_row _ _ i _ _ _ hqf
        have y0 := y 0; have y1 := y 1; have y2 := y 2; have y3 := y 3
        dsimp at y0 y1 y2 y3
        clear y hqf hWF
        refine bodyPost_ret (v := .agg #[.int .i64 a, .int .i64 b, .string ⟨#[]⟩, .bool false]) (by simp [results, Tryd.results149, go_sem, y0, y1, y2, y3]) rfl ?_
        rw [HF.out]
        exact ⟨rfl, hN⟩
      · have HF := Lib.hid (kN_miss HE.out hlt hr (fun h => he (by rw [show c = s.data.toList from h, mkS_of])))
        obtain ⟨s1, s2, s3⟩ := kstr_ne (show ¬ (⟨c.toArray⟩ : ByteArray) = s from he)
        rw [show (⟨c.toArray⟩ : ByteArray).toList = c by rw [ByteArray.toList_eq]] at s1 s2 s3
        clear HE hr q he
        go_wp2
        go_roundw
        case rel => exact ⟨k + 1, by omega, by go_num, HF, hb.trans (B1.mono hsz)⟩
        case measure => (simp [intOf]; try omega)
    · obtain rfl : k = 13 := by omega
      have HN := kN_end HE.out
      clear HE
      obtain ⟨p1, hp1⟩ : ∃ b, Lib.hasPrefix s.data.toList [80, 45] = b := ⟨_, rfl⟩
      obtain ⟨p2, hp2⟩ : ∃ b, Lib.hasPrefix s.data.toList [77, 45, 67, 45] = b := ⟨_, rfl⟩
      obtain ⟨p3, hp3⟩ : ∃ b, Lib.hasPrefix s.data.toList [77, 45] = b := ⟨_, rfl⟩
      obtain ⟨p4, hp4⟩ : ∃ b, Lib.hasPrefix s.data.toList [67, 45] = b := ⟨_, rfl⟩
      have P1 := Lib.hid (kpre_any s _ _ hp1)
      have P2 := Lib.hid (kpre_any s _ _ hp2)
      have P3 := Lib.hid (kpre_any s _ _ hp3)
      have P4 := Lib.hid (kpre_any s _ _ hp4)
      by_cases h2 : 2 < s.size
      · have h2i : (2 : Int) < s.size := by omega
        have hrest := rest2_list s
        have hrs : (s.extract 2 s.size).size ≤ 900000 := by rw [ByteArray.size_extract]; omega
        cases p1 with
        | true =>
          have RS := kyOf_p HN hp1
          rw [← hrest] at RS
          obtain ⟨pk, hpk⟩ : ∃ pk, psOf (s.extract 2 s.size : ByteArray).data.toList = pk := ⟨_, rfl⟩
          have C := Lib.hid fun w => kpsOf_t _ _ hpk w hrs
          have HF : Hid (kyV R = .agg #[.int .i64 pk.1, .int .i64 pk.2.1, .string pk.2.2.1, .bool pk.2.2.2]) := Lib.hid (by rw [← HR.out, RS]; unfold rest2 at *; rw [hpk]; rfl)
          clear RS hpk
          clear HN hrest hrs
          clear hp1 hp2 hp3 hp4
          go_wp2_with (first | (go_at_call 107; (first | (with_reducible refine (P1.out _).mono ?_) | (with_reducible refine (P2.out _).mono ?_) | (with_reducible refine (P3.out _).mono ?_) | (with_reducible refine (P4.out _).mono ?_)); rintro e w2 ⟨rfl, rfl⟩) | (go_at_call 169; refine (C.out _).mono ?_; rintro e w3 ⟨rfl, hb3⟩; have q3 := blk_below q hb3; have NF := Lib.hid (four_below w3 w w.heap.size (.int .i64 pk.1) (.int .i64 pk.2.1) (.string pk.2.2.1) (.bool pk.2.2.2) (Nat.le_refl _) (seqB NB.out hb3)); have hfin := Lib.hid (four_set q3 (.int .i64 pk.1) (.int .i64 pk.2.1) (.string pk.2.2.1) (.bool pk.2.2.2)); have zf := fun i => frozen_of_row _ w.heap.size i _ _ q3; have zz := fun i => cell_of_row _ _ i _ _ _ q3; have z0 := zz 0; have z1 := zz 1; have z2 := zz 2; have z3 := zz 3; dsimp at z0 z1 z2 z3; clear zz q3))
          generalize hWF : World.setCell _ _ _ = WF
          have hqf : WF.heap[w.heap.size]? = some (.cells #[.int .i64 pk.1, .int .i64 pk.2.1, .string pk.2.2.1, .bool pk.2.2.2] 75 (0, 0)) := by rw [← hWF]; exact hfin.out
          have hN : Below w.heap.size w WF := by rw [← hWF]; exact NF.out
          have y := fun i => cell_of_row _ _ i _ _ _ hqf
          have y0 := y 0; have y1 := y 1; have y2 := y 2; have y3 := y 3
          dsimp at y0 y1 y2 y3
          clear y hqf hWF
          refine bodyPost_ret (v := .agg #[.int .i64 pk.1, .int .i64 pk.2.1, .string pk.2.2.1, .bool pk.2.2.2]) (by simp [results, Tryd.results149, go_sem, y0, y1, y2, y3]) rfl ?_
          rw [HF.out]
          exact ⟨rfl, hN⟩
        | false =>
          cases p2 with
          | true =>
            have RS := kyOf_mc HN hp1 hp2
            rw [← hrest] at RS
            unfold rest2 at RS
            have C := fun w => kctOf_any (s.extract 2 s.size) w
            generalize ctOf (s.extract 2 s.size : ByteArray).data.toList = v at *
            have HF : Hid (kyV R = .agg #[.int .i64 3, .int .i64 v, .string ⟨#[]⟩, .bool false]) := Lib.hid (by rw [← HR.out, RS]; rfl)
            replace C := Lib.hid C
            clear RS
            clear HN hrest hrs
            clear hp1 hp2 hp3 hp4
            go_wp2_with (first | (go_at_call 107; (first | (with_reducible refine (P1.out _).mono ?_) | (with_reducible refine (P2.out _).mono ?_) | (with_reducible refine (P3.out _).mono ?_) | (with_reducible refine (P4.out _).mono ?_)); rintro e w2 ⟨rfl, rfl⟩) | (go_at_call 170; refine (C.out _).mono ?_; rintro e w3 ⟨rfl, hb3⟩; have q3 := blk_below q hb3; have NF := Lib.hid (four_below w3 w w.heap.size (.int .i64 3) (.int .i64 v) (.string ⟨#[]⟩) (.bool false) (Nat.le_refl _) (seqB NB.out hb3)); have hfin := Lib.hid (four_set q3 (.int .i64 3) (.int .i64 v) (.string ⟨#[]⟩) (.bool false)); have zf := fun i => frozen_of_row _ w.heap.size i _ _ q3; have zz := fun i => cell_of_row _ _ i _ _ _ q3; have z0 := zz 0; have z1 := zz 1; have z2 := zz 2; have z3 := zz 3; dsimp at z0 z1 z2 z3; clear zz q3))
            generalize hWF : World.setCell _ _ _ = WF
            have hqf : WF.heap[w.heap.size]? = some (.cells #[.int .i64 3, .int .i64 v, .string ⟨#[]⟩, .bool false] 75 (0, 0)) := by rw [← hWF]; exact hfin.out
            have hN : Below w.heap.size w WF := by rw [← hWF]; exact NF.out
            have y := fun i => cell_of_row _ _ i _ _ _ hqf
            have y0 := y 0; have y1 := y 1; have y2 := y 2; have y3 := y 3
            dsimp at y0 y1 y2 y3
            clear y hqf hWF
            refine bodyPost_ret (v := .agg #[.int .i64 3, .int .i64 v, .string ⟨#[]⟩, .bool false]) (by simp [results, Tryd.results149, go_sem, y0, y1, y2, y3]) rfl ?_
            rw [HF.out]
            exact ⟨rfl, hN⟩
          | false =>
            cases p3 with
            | true =>
              have RS := kyOf_m HN hp1 hp2 hp3
              rw [← hrest] at RS
              unfold rest2 at RS
              have C := fun w => ksgOf_any (s.extract 2 s.size) w hrs
              generalize sgOf (s.extract 2 s.size : ByteArray).data.toList = v at *
              have HF : Hid (kyV R = .agg #[.int .i64 3, .int .i64 v, .string ⟨#[]⟩, .bool false]) := Lib.hid (by rw [← HR.out, RS]; rfl)
              replace C := Lib.hid C
              clear RS
              clear HN hrest hrs
              clear hp1 hp2 hp3 hp4
              go_wp2_with (first | (go_at_call 107; (first | (with_reducible refine (P1.out _).mono ?_) | (with_reducible refine (P2.out _).mono ?_) | (with_reducible refine (P3.out _).mono ?_) | (with_reducible refine (P4.out _).mono ?_)); rintro e w2 ⟨rfl, rfl⟩) | (go_at_call 171; refine (C.out _).mono ?_; rintro e w3 ⟨rfl, hb3⟩; have q3 := blk_below q hb3; have NF := Lib.hid (four_below w3 w w.heap.size (.int .i64 3) (.int .i64 v) (.string ⟨#[]⟩) (.bool false) (Nat.le_refl _) (seqB NB.out hb3)); have hfin := Lib.hid (four_set q3 (.int .i64 3) (.int .i64 v) (.string ⟨#[]⟩) (.bool false)); have zf := fun i => frozen_of_row _ w.heap.size i _ _ q3; have zz := fun i => cell_of_row _ _ i _ _ _ q3; have z0 := zz 0; have z1 := zz 1; have z2 := zz 2; have z3 := zz 3; dsimp at z0 z1 z2 z3; clear zz q3))
              generalize hWF : World.setCell _ _ _ = WF
              have hqf : WF.heap[w.heap.size]? = some (.cells #[.int .i64 3, .int .i64 v, .string ⟨#[]⟩, .bool false] 75 (0, 0)) := by rw [← hWF]; exact hfin.out
              have hN : Below w.heap.size w WF := by rw [← hWF]; exact NF.out
              have y := fun i => cell_of_row _ _ i _ _ _ hqf
              have y0 := y 0; have y1 := y 1; have y2 := y 2; have y3 := y 3
              dsimp at y0 y1 y2 y3
              clear y hqf hWF
              refine bodyPost_ret (v := .agg #[.int .i64 3, .int .i64 v, .string ⟨#[]⟩, .bool false]) (by simp [results, Tryd.results149, go_sem, y0, y1, y2, y3]) rfl ?_
              rw [HF.out]
              exact ⟨rfl, hN⟩
            | false =>
              cases p4 with
              | true =>
                have RS := kyOf_c HN hp1 hp2 hp3 hp4
                have C := fun w => kctOf_any (s) w
                generalize ctOf (s : ByteArray).data.toList = v at *
                have HF : Hid (kyV R = .agg #[.int .i64 2, .int .i64 v, .string ⟨#[]⟩, .bool false]) := Lib.hid (by rw [← HR.out, RS]; rfl)
                replace C := Lib.hid C
                clear RS
                clear HN hrest hrs
                clear hp1 hp2 hp3 hp4
                go_wp2_with (first | (go_at_call 107; (first | (with_reducible refine (P1.out _).mono ?_) | (with_reducible refine (P2.out _).mono ?_) | (with_reducible refine (P3.out _).mono ?_) | (with_reducible refine (P4.out _).mono ?_)); rintro e w2 ⟨rfl, rfl⟩) | (go_at_call 170; refine (C.out _).mono ?_; rintro e w3 ⟨rfl, hb3⟩; have q3 := blk_below q hb3; have NF := Lib.hid (four_below w3 w w.heap.size (.int .i64 2) (.int .i64 v) (.string ⟨#[]⟩) (.bool false) (Nat.le_refl _) (seqB NB.out hb3)); have hfin := Lib.hid (four_set q3 (.int .i64 2) (.int .i64 v) (.string ⟨#[]⟩) (.bool false)); have zf := fun i => frozen_of_row _ w.heap.size i _ _ q3; have zz := fun i => cell_of_row _ _ i _ _ _ q3; have z0 := zz 0; have z1 := zz 1; have z2 := zz 2; have z3 := zz 3; dsimp at z0 z1 z2 z3; clear zz q3))
                generalize hWF : World.setCell _ _ _ = WF
                have hqf : WF.heap[w.heap.size]? = some (.cells #[.int .i64 2, .int .i64 v, .string ⟨#[]⟩, .bool false] 75 (0, 0)) := by rw [← hWF]; exact hfin.out
                have hN : Below w.heap.size w WF := by rw [← hWF]; exact NF.out
                have y := fun i => cell_of_row _ _ i _ _ _ hqf
                have y0 := y 0; have y1 := y 1; have y2 := y 2; have y3 := y 3
                dsimp at y0 y1 y2 y3
                clear y hqf hWF
                refine bodyPost_ret (v := .agg #[.int .i64 2, .int .i64 v, .string ⟨#[]⟩, .bool false]) (by simp [results, Tryd.results149, go_sem, y0, y1, y2, y3]) rfl ?_
                rw [HF.out]
                exact ⟨rfl, hN⟩
              | false =>
                have RS := kyOf_s HN hp1 hp2 hp3 hp4
                have C := fun w => ksgOf_any (s) w hs
                generalize sgOf (s : ByteArray).data.toList = v at *
                have HF : Hid (kyV R = .agg #[.int .i64 1, .int .i64 v, .string ⟨#[]⟩, .bool false]) := Lib.hid (by rw [← HR.out, RS]; rfl)
                replace C := Lib.hid C
                clear RS
                clear HN hrest hrs
                clear hp1 hp2 hp3 hp4
                go_wp2_with (first | (go_at_call 107; (first | (with_reducible refine (P1.out _).mono ?_) | (with_reducible refine (P2.out _).mono ?_) | (with_reducible refine (P3.out _).mono ?_) | (with_reducible refine (P4.out _).mono ?_)); rintro e w2 ⟨rfl, rfl⟩) | (go_at_call 171; refine (C.out _).mono ?_; rintro e w3 ⟨rfl, hb3⟩; have q3 := blk_below q hb3; have NF := Lib.hid (four_below w3 w w.heap.size (.int .i64 1) (.int .i64 v) (.string ⟨#[]⟩) (.bool false) (Nat.le_refl _) (seqB NB.out hb3)); have hfin := Lib.hid (four_set q3 (.int .i64 1) (.int .i64 v) (.string ⟨#[]⟩) (.bool false)); have zf := fun i => frozen_of_row _ w.heap.size i _ _ q3; have zz := fun i => cell_of_row _ _ i _ _ _ q3; have z0 := zz 0; have z1 := zz 1; have z2 := zz 2; have z3 := zz 3; dsimp at z0 z1 z2 z3; clear zz q3))
                generalize hWF : World.setCell _ _ _ = WF
                have hqf : WF.heap[w.heap.size]? = some (.cells #[.int .i64 1, .int .i64 v, .string ⟨#[]⟩, .bool false] 75 (0, 0)) := by rw [← hWF]; exact hfin.out
                have hN : Below w.heap.size w WF := by rw [← hWF]; exact NF.out
                have y := fun i => cell_of_row _ _ i _ _ _ hqf
                have y0 := y 0; have y1 := y 1; have y2 := y 2; have y3 := y 3
                dsimp at y0 y1 y2 y3
                clear y hqf hWF
                refine bodyPost_ret (v := .agg #[.int .i64 1, .int .i64 v, .string ⟨#[]⟩, .bool false]) (by simp [results, Tryd.results149, go_sem, y0, y1, y2, y3]) rfl ?_
                rw [HF.out]
                exact ⟨rfl, hN⟩
      · have h2i : ¬ (2 : Int) < s.size := by omega
        have hrest := rest2_list s
        rw [rest2_nil s h2] at hrest
        have hrs : (⟨#[]⟩ : ByteArray).size ≤ 900000 := by decide
        cases p1 with
        | true =>
          have RS := kyOf_p HN hp1
          rw [← hrest] at RS
          obtain ⟨pk, hpk⟩ : ∃ pk, psOf (⟨#[]⟩ : ByteArray).data.toList = pk := ⟨_, rfl⟩
          have C := Lib.hid fun w => kpsOf_t _ _ hpk w hrs
          have HF : Hid (kyV R = .agg #[.int .i64 pk.1, .int .i64 pk.2.1, .string pk.2.2.1, .bool pk.2.2.2]) := Lib.hid (by rw [← HR.out, RS, hpk]; rfl)
          clear RS hpk
          clear HN hrest hrs
          clear hp1 hp2 hp3 hp4
          go_wp2_with (first | (go_at_call 107; (first | (with_reducible refine (P1.out _).mono ?_) | (with_reducible refine (P2.out _).mono ?_) | (with_reducible refine (P3.out _).mono ?_) | (with_reducible refine (P4.out _).mono ?_)); rintro e w2 ⟨rfl, rfl⟩) | (go_at_call 169; refine (C.out _).mono ?_; rintro e w3 ⟨rfl, hb3⟩; have q3 := blk_below q hb3; have NF := Lib.hid (four_below w3 w w.heap.size (.int .i64 pk.1) (.int .i64 pk.2.1) (.string pk.2.2.1) (.bool pk.2.2.2) (Nat.le_refl _) (seqB NB.out hb3)); have hfin := Lib.hid (four_set q3 (.int .i64 pk.1) (.int .i64 pk.2.1) (.string pk.2.2.1) (.bool pk.2.2.2)); have zf := fun i => frozen_of_row _ w.heap.size i _ _ q3; have zz := fun i => cell_of_row _ _ i _ _ _ q3; have z0 := zz 0; have z1 := zz 1; have z2 := zz 2; have z3 := zz 3; dsimp at z0 z1 z2 z3; clear zz q3))
          generalize hWF : World.setCell _ _ _ = WF
          have hqf : WF.heap[w.heap.size]? = some (.cells #[.int .i64 pk.1, .int .i64 pk.2.1, .string pk.2.2.1, .bool pk.2.2.2] 75 (0, 0)) := by rw [← hWF]; exact hfin.out
          have hN : Below w.heap.size w WF := by rw [← hWF]; exact NF.out
          have y := fun i => cell_of_row _ _ i _ _ _ hqf
          have y0 := y 0; have y1 := y 1; have y2 := y 2; have y3 := y 3
          dsimp at y0 y1 y2 y3
          clear y hqf hWF
          refine bodyPost_ret (v := .agg #[.int .i64 pk.1, .int .i64 pk.2.1, .string pk.2.2.1, .bool pk.2.2.2]) (by simp [results, Tryd.results149, go_sem, y0, y1, y2, y3]) rfl ?_
          rw [HF.out]
          exact ⟨rfl, hN⟩
        | false =>
          cases p2 with
          | true =>
            have RS := kyOf_mc HN hp1 hp2
            rw [← hrest] at RS
            have C := fun w => kctOf_any (⟨#[]⟩) w
            generalize ctOf (⟨#[]⟩ : ByteArray).data.toList = v at *
            have HF : Hid (kyV R = .agg #[.int .i64 3, .int .i64 v, .string ⟨#[]⟩, .bool false]) := Lib.hid (by rw [← HR.out, RS]; rfl)
            replace C := Lib.hid C
            clear RS
            clear HN hrest hrs
            clear hp1 hp2 hp3 hp4
            go_wp2_with (first | (go_at_call 107; (first | (with_reducible refine (P1.out _).mono ?_) | (with_reducible refine (P2.out _).mono ?_) | (with_reducible refine (P3.out _).mono ?_) | (with_reducible refine (P4.out _).mono ?_)); rintro e w2 ⟨rfl, rfl⟩) | (go_at_call 170; refine (C.out _).mono ?_; rintro e w3 ⟨rfl, hb3⟩; have q3 := blk_below q hb3; have NF := Lib.hid (four_below w3 w w.heap.size (.int .i64 3) (.int .i64 v) (.string ⟨#[]⟩) (.bool false) (Nat.le_refl _) (seqB NB.out hb3)); have hfin := Lib.hid (four_set q3 (.int .i64 3) (.int .i64 v) (.string ⟨#[]⟩) (.bool false)); have zf := fun i => frozen_of_row _ w.heap.size i _ _ q3; have zz := fun i => cell_of_row _ _ i _ _ _ q3; have z0 := zz 0; have z1 := zz 1; have z2 := zz 2; have z3 := zz 3; dsimp at z0 z1 z2 z3; clear zz q3))
            generalize hWF : World.setCell _ _ _ = WF
            have hqf : WF.heap[w.heap.size]? = some (.cells #[.int .i64 3, .int .i64 v, .string ⟨#[]⟩, .bool false] 75 (0, 0)) := by rw [← hWF]; exact hfin.out
            have hN : Below w.heap.size w WF := by rw [← hWF]; exact NF.out
            have y := fun i => cell_of_row _ _ i _ _ _ hqf
            have y0 := y 0; have y1 := y 1; have y2 := y 2; have y3 := y 3
            dsimp at y0 y1 y2 y3
            clear y hqf hWF
            refine bodyPost_ret (v := .agg #[.int .i64 3, .int .i64 v, .string ⟨#[]⟩, .bool false]) (by simp [results, Tryd.results149, go_sem, y0, y1, y2, y3]) rfl ?_
            rw [HF.out]
            exact ⟨rfl, hN⟩
          | false =>
            cases p3 with
            | true =>
              have RS := kyOf_m HN hp1 hp2 hp3
              rw [← hrest] at RS
              have C := fun w => ksgOf_any (⟨#[]⟩) w hrs
              generalize sgOf (⟨#[]⟩ : ByteArray).data.toList = v at *
              have HF : Hid (kyV R = .agg #[.int .i64 3, .int .i64 v, .string ⟨#[]⟩, .bool false]) := Lib.hid (by rw [← HR.out, RS]; rfl)
              replace C := Lib.hid C
              clear RS
              clear HN hrest hrs
              clear hp1 hp2 hp3 hp4
              go_wp2_with (first | (go_at_call 107; (first | (with_reducible refine (P1.out _).mono ?_) | (with_reducible refine (P2.out _).mono ?_) | (with_reducible refine (P3.out _).mono ?_) | (with_reducible refine (P4.out _).mono ?_)); rintro e w2 ⟨rfl, rfl⟩) | (go_at_call 171; refine (C.out _).mono ?_; rintro e w3 ⟨rfl, hb3⟩; have q3 := blk_below q hb3; have NF := Lib.hid (four_below w3 w w.heap.size (.int .i64 3) (.int .i64 v) (.string ⟨#[]⟩) (.bool false) (Nat.le_refl _) (seqB NB.out hb3)); have hfin := Lib.hid (four_set q3 (.int .i64 3) (.int .i64 v) (.string ⟨#[]⟩) (.bool false)); have zf := fun i => frozen_of_row _ w.heap.size i _ _ q3; have zz := fun i => cell_of_row _ _ i _ _ _ q3; have z0 := zz 0; have z1 := zz 1; have z2 := zz 2; have z3 := zz 3; dsimp at z0 z1 z2 z3; clear zz q3))
              generalize hWF : World.setCell _ _ _ = WF
              have hqf : WF.heap[w.heap.size]? = some (.cells #[.int .i64 3, .int .i64 v, .string ⟨#[]⟩, .bool false] 75 (0, 0)) := by rw [← hWF]; exact hfin.out
              have hN : Below w.heap.size w WF := by rw [← hWF]; exact NF.out
              have y := fun i => cell_of_row _ _ i _ _ _ hqf
              have y0 := y 0; have y1 := y 1; have y2 := y 2; have y3 := y 3
              dsimp at y0 y1 y2 y3
              clear y hqf hWF
              refine bodyPost_ret (v := .agg #[.int .i64 3, .int .i64 v, .string ⟨#[]⟩, .bool false]) (by simp [results, Tryd.results149, go_sem, y0, y1, y2, y3]) rfl ?_
              rw [HF.out]
              exact ⟨rfl, hN⟩
            | false =>
              cases p4 with
              | true =>
                have RS := kyOf_c HN hp1 hp2 hp3 hp4
                have C := fun w => kctOf_any (s) w
                generalize ctOf (s : ByteArray).data.toList = v at *
                have HF : Hid (kyV R = .agg #[.int .i64 2, .int .i64 v, .string ⟨#[]⟩, .bool false]) := Lib.hid (by rw [← HR.out, RS]; rfl)
                replace C := Lib.hid C
                clear RS
                clear HN hrest hrs
                clear hp1 hp2 hp3 hp4
                go_wp2_with (first | (go_at_call 107; (first | (with_reducible refine (P1.out _).mono ?_) | (with_reducible refine (P2.out _).mono ?_) | (with_reducible refine (P3.out _).mono ?_) | (with_reducible refine (P4.out _).mono ?_)); rintro e w2 ⟨rfl, rfl⟩) | (go_at_call 170; refine (C.out _).mono ?_; rintro e w3 ⟨rfl, hb3⟩; have q3 := blk_below q hb3; have NF := Lib.hid (four_below w3 w w.heap.size (.int .i64 2) (.int .i64 v) (.string ⟨#[]⟩) (.bool false) (Nat.le_refl _) (seqB NB.out hb3)); have hfin := Lib.hid (four_set q3 (.int .i64 2) (.int .i64 v) (.string ⟨#[]⟩) (.bool false)); have zf := fun i => frozen_of_row _ w.heap.size i _ _ q3; have zz := fun i => cell_of_row _ _ i _ _ _ q3; have z0 := zz 0; have z1 := zz 1; have z2 := zz 2; have z3 := zz 3; dsimp at z0 z1 z2 z3; clear zz q3))
                generalize hWF : World.setCell _ _ _ = WF
                have hqf : WF.heap[w.heap.size]? = some (.cells #[.int .i64 2, .int .i64 v, .string ⟨#[]⟩, .bool false] 75 (0, 0)) := by rw [← hWF]; exact hfin.out
                have hN : Below w.heap.size w WF := by rw [← hWF]; exact NF.out
                have y := fun i => cell_of_row _ _ i _ _ _ hqf
                have y0 := y 0; have y1 := y 1; have y2 := y 2; have y3 := y 3
                dsimp at y0 y1 y2 y3
                clear y hqf hWF
                refine bodyPost_ret (v := .agg #[.int .i64 2, .int .i64 v, .string ⟨#[]⟩, .bool false]) (by simp [results, Tryd.results149, go_sem, y0, y1, y2, y3]) rfl ?_
                rw [HF.out]
                exact ⟨rfl, hN⟩
              | false =>
                have RS := kyOf_s HN hp1 hp2 hp3 hp4
                have C := fun w => ksgOf_any (s) w hs
                generalize sgOf (s : ByteArray).data.toList = v at *
                have HF : Hid (kyV R = .agg #[.int .i64 1, .int .i64 v, .string ⟨#[]⟩, .bool false]) := Lib.hid (by rw [← HR.out, RS]; rfl)
                replace C := Lib.hid C
                clear RS
                clear HN hrest hrs
                clear hp1 hp2 hp3 hp4
                go_wp2_with (first | (go_at_call 107; (first | (with_reducible refine (P1.out _).mono ?_) | (with_reducible refine (P2.out _).mono ?_) | (with_reducible refine (P3.out _).mono ?_) | (with_reducible refine (P4.out _).mono ?_)); rintro e w2 ⟨rfl, rfl⟩) | (go_at_call 171; refine (C.out _).mono ?_; rintro e w3 ⟨rfl, hb3⟩; have q3 := blk_below q hb3; have NF := Lib.hid (four_below w3 w w.heap.size (.int .i64 1) (.int .i64 v) (.string ⟨#[]⟩) (.bool false) (Nat.le_refl _) (seqB NB.out hb3)); have hfin := Lib.hid (four_set q3 (.int .i64 1) (.int .i64 v) (.string ⟨#[]⟩) (.bool false)); have zf := fun i => frozen_of_row _ w.heap.size i _ _ q3; have zz := fun i => cell_of_row _ _ i _ _ _ q3; have z0 := zz 0; have z1 := zz 1; have z2 := zz 2; have z3 := zz 3; dsimp at z0 z1 z2 z3; clear zz q3))
                generalize hWF : World.setCell _ _ _ = WF
                have hqf : WF.heap[w.heap.size]? = some (.cells #[.int .i64 1, .int .i64 v, .string ⟨#[]⟩, .bool false] 75 (0, 0)) := by rw [← hWF]; exact hfin.out
                have hN : Below w.heap.size w WF := by rw [← hWF]; exact NF.out
                have y := fun i => cell_of_row _ _ i _ _ _ hqf
                have y0 := y 0; have y1 := y 1; have y2 := y 2; have y3 := y 3
                dsimp at y0 y1 y2 y3
                clear y hqf hWF
                refine bodyPost_ret (v := .agg #[.int .i64 1, .int .i64 v, .string ⟨#[]⟩, .bool false]) (by simp [results, Tryd.results149, go_sem, y0, y1, y2, y3]) rfl ?_
                rw [HF.out]
                exact ⟨rfl, hN⟩
end Go.Proofs.YtdhhfbglbihapaaDoor
set_option linter.unusedVariables false
set_option linter.unusedSimpArgs false
namespace Go.Proofs.YtdhhfbglbihapaaDoor
open Go.RowKit
def PrPost (l : List UInt8) (w : World) (e : Ending) (w' : World) : Prop := e = .returned (.tuple #[kyV (prK l), .int .i64 (prE l)]) ∧ Below w.heap.size w w'
theorem kname_t (k : Ky) (w : World) (hK : KT w) (nm : ByteArray) (er : Int) (h1 : mkS (nmR k) = nm) (h2 : ckE k = er) : Calls Tryd.prog 144 #[.agg #[.int .i64 k.1, .int .i64 k.2.1, .string k.2.2.1, .bool k.2.2.2]] w fun e w' => e = .returned (.tuple #[.string nm, .int .i64 er]) ∧ Below w.heap.size w w' := by
  subst h1; subst h2; exact kname_any k w hK
theorem kkeyOf_t (s : ByteArray) (w : World) (hK : KT w) (hs : s.size ≤ 900000) (k : Ky) (h : kyOf s.data.toList = k) : Calls Tryd.prog 149 #[.string s] w fun e w' => e = .returned (.agg #[.int .i64 k.1, .int .i64 k.2.1, .string k.2.2.1, .bool k.2.2.2]) ∧ Below w.heap.size w w' := by
  subst h; exact kkeyOf_any s w hK hs
theorem pr_no {l : List UInt8} {w w' : World} (h : prOk l = false) (hb : Below w.heap.size w w') : PrPost l w (.returned (.tuple #[.agg #[.int .i64 0, .int .i64 0, .string ⟨#[]⟩, .bool false], .int .i64 6])) w' := by
  unfold PrPost prK prE; rw [h]; exact ⟨rfl, hb⟩
theorem pr_yes {l : List UInt8} {w w' : World} {k : Ky} (h : prOk l = true) (hk : kyOf l = k) (hb : Below w.heap.size w w') : PrPost l w (.returned (.tuple #[.agg #[.int .i64 k.1, .int .i64 k.2.1, .string k.2.2.1, .bool k.2.2.2], .int .i64 0])) w' := by
  unfold PrPost prK prE; rw [h, if_pos rfl, if_pos rfl, hk]; exact ⟨rfl, hb⟩
set_option maxHeartbeats 8000000 in
set_option maxRecDepth 100000 in
theorem kparse_any (s : ByteArray) (w : World) (hK : KT w) (hs : s.size ≤ 900000) : Calls Tryd.prog 117 #[.string s] w (PrPost s.data.toList w) := by
  have B0 := below_alloc w (.cells #[.int .i64 0, .int .i64 0, .string ⟨#[]⟩, .bool false] 75)
  have hq := heap_alloc_new w (.cells #[.int .i64 0, .int .i64 0, .string ⟨#[]⟩, .bool false] 75)
  obtain ⟨W0, hW0⟩ : ∃ W0, w.alloc (.cells #[.int .i64 0, .int .i64 0, .string ⟨#[]⟩, .bool false] 75) = W0 := ⟨_, rfl⟩
  rw [hW0] at B0 hq
  have HK := Lib.hid (hK.below B0)
  replace hq := Lib.hid hq
  obtain ⟨k, hk⟩ : ∃ k, kyOf s.data.toList = k := ⟨_, rfl⟩
  have KO := Lib.hid fun w hK => kkeyOf_t s w hK hs k hk
  clear hK
  have HN := fun h w' hb => pr_no (l := s.data.toList) (w := w) (w' := w') h hb
  have HY := fun h w' hb => pr_yes (l := s.data.toList) (w := w) (w' := w') h hk hb
  have ho : prOk s.data.toList = (keyB k && nmN k == s.data.toList) := by unfold prOk; rw [hk]
  rw [ho] at HN HY
  clear ho
  have NM := fun w hK nm er h1 h2 => kname_t k w hK nm er h1 h2
  cases hok : keyB k with
  | false =>
    have NM := Lib.hid fun w hK => NM w hK ⟨#[]⟩ 2 (by unfold nmR; rw [hok]; rfl) (ckE_no hok)
    have HP := Lib.hid (HN (by rw [hok]; rfl))
    clear HN HY hk hok
    go_enter Tryd.func117, Tryd.ntmps117
    go_upto_region 1 with fail
    clear hW0
    go_wp2_with (first
      | (go_at_call 149; refine (KO.out _ HK.out).mono ?_; rintro e w2 ⟨rfl, hb2⟩; have B2 := below_alloc w2 (.cells #[.int .i64 k.1, .int .i64 k.2.1, .string k.2.2.1, .bool k.2.2.2] 75); have hk2 := Lib.hid (heap_alloc_new w2 (.cells #[.int .i64 k.1, .int .i64 k.2.1, .string k.2.2.1, .bool k.2.2.2] 75)); have N2 := Lib.hid (seqB hb2 B2); have HK2 := Lib.hid (HK.out.below N2.out))
      | (go_at_call 144; refine (NM.out _ HK2.out).mono ?_; rintro e w3 ⟨rfl, hb3⟩; have N3 := Lib.hid (seqB N2.out hb3); have q3 := blk_below hq.out N3.out; have hk3 := blk_below hk2.out hb3; have yy := fun i => cell_of_row _ _ i _ _ _ hk3; have y0 := yy 0; have y1 := yy 1; have y2 := yy 2; have y3 := yy 3; dsimp at y0 y1 y2 y3; have zf := fun i => frozen_of_row _ w.heap.size i _ _ q3; have zz := fun i => cell_of_row _ _ i _ _ _ q3; have z0 := zz 0; have z1 := zz 1; have z2 := zz 2; have z3 := zz 3; dsimp at z0 z1 z2 z3; have NF := Lib.hid (four_below w3 w w.heap.size (.int .i64 0) (.int .i64 0) (.string ⟨#[]⟩) (.bool false) (Nat.le_refl _) (seqB B0 N3.out)); have hfin := Lib.hid (four_set q3 (.int .i64 0) (.int .i64 0) (.string ⟨#[]⟩) (.bool false)); clear zz yy q3 hk3))
    generalize hWF : World.setCell _ _ _ = WF
    have hqf : WF.heap[w.heap.size]? = some (.cells #[.int .i64 0, .int .i64 0, .string ⟨#[]⟩, .bool false] 75 (0, 0)) := by rw [← hWF]; exact hfin.out
    have hN : Below w.heap.size w WF := by rw [← hWF]; exact NF.out
    clear y0 y1 y2 y3
    have y := fun i => cell_of_row _ _ i _ _ _ hqf
    have y0 := y 0; have y1 := y 1; have y2 := y 2; have y3 := y 3
    dsimp at y0 y1 y2 y3
    clear y hqf hWF
    refine bodyPost_ret (v := .tuple #[.agg #[.int .i64 0, .int .i64 0, .string ⟨#[]⟩, .bool false], .int .i64 6]) (by simp [results, Tryd.results117, go_sem, y0, y1, y2, y3]) rfl ?_
    exact HP.out _ hN
  | true =>
    have NM := fun w hK => NM w hK (mkS (nmN k)) 0 (by unfold nmR; rw [hok]; rfl) (ckE_yes hok)
    by_cases he : mkS (nmN k) = s
    · have HP := Lib.hid (HY (by rw [hok, mkS_eq he]; simp))
      rw [he] at NM
      replace NM := Lib.hid NM
      clear HN HY hk hok he
      go_enter Tryd.func117, Tryd.ntmps117
      go_upto_region 1 with fail
      clear hW0
      go_wp2_with (first
        | (go_at_call 149; refine (KO.out _ HK.out).mono ?_; rintro e w2 ⟨rfl, hb2⟩; have B2 := below_alloc w2 (.cells #[.int .i64 k.1, .int .i64 k.2.1, .string k.2.2.1, .bool k.2.2.2] 75); have hk2 := Lib.hid (heap_alloc_new w2 (.cells #[.int .i64 k.1, .int .i64 k.2.1, .string k.2.2.1, .bool k.2.2.2] 75)); have N2 := Lib.hid (seqB hb2 B2); have HK2 := Lib.hid (HK.out.below N2.out))
        | (go_at_call 144; refine (NM.out _ HK2.out).mono ?_; rintro e w3 ⟨rfl, hb3⟩; have N3 := Lib.hid (seqB N2.out hb3); have q3 := blk_below hq.out N3.out; have hk3 := blk_below hk2.out hb3; have yy := fun i => cell_of_row _ _ i _ _ _ hk3; have y0 := yy 0; have y1 := yy 1; have y2 := yy 2; have y3 := yy 3; dsimp at y0 y1 y2 y3; have zf := fun i => frozen_of_row _ w.heap.size i _ _ q3; have zz := fun i => cell_of_row _ _ i _ _ _ q3; have z0 := zz 0; have z1 := zz 1; have z2 := zz 2; have z3 := zz 3; dsimp at z0 z1 z2 z3; have NF := Lib.hid (four_below w3 w w.heap.size (.int .i64 k.1) (.int .i64 k.2.1) (.string k.2.2.1) (.bool k.2.2.2) (Nat.le_refl _) (seqB B0 N3.out)); have hfin := Lib.hid (four_set q3 (.int .i64 k.1) (.int .i64 k.2.1) (.string k.2.2.1) (.bool k.2.2.2)); clear zz yy q3 hk3))
      generalize hWF : World.setCell _ _ _ = WF
      have hqf : WF.heap[w.heap.size]? = some (.cells #[.int .i64 k.1, .int .i64 k.2.1, .string k.2.2.1, .bool k.2.2.2] 75 (0, 0)) := by rw [← hWF]; exact hfin.out
      have hN : Below w.heap.size w WF := by rw [← hWF]; exact NF.out
      clear y0 y1 y2 y3
      have y := fun i => cell_of_row _ _ i _ _ _ hqf
      have y0 := y 0; have y1 := y 1; have y2 := y 2; have y3 := y 3
      dsimp at y0 y1 y2 y3
      clear y hqf hWF
      refine bodyPost_ret (v := .tuple #[.agg #[.int .i64 k.1, .int .i64 k.2.1, .string k.2.2.1, .bool k.2.2.2], .int .i64 0]) (by simp [results, Tryd.results117, go_sem, y0, y1, y2, y3]) rfl ?_
      exact HP.out _ hN
    · have HP := Lib.hid (HN (by rw [hok]; simp; intro h; exact he (by rw [h, mkS_of])))
      obtain ⟨s1, s2, s3⟩ := kstr_ne he
      generalize mkS (nmN k) = u at *
      replace NM := Lib.hid NM
      clear HN HY hk hok he
      go_enter Tryd.func117, Tryd.ntmps117
      go_upto_region 1 with fail
      clear hW0
      go_wp2_with (first
        | (go_at_call 149; refine (KO.out _ HK.out).mono ?_; rintro e w2 ⟨rfl, hb2⟩; have B2 := below_alloc w2 (.cells #[.int .i64 k.1, .int .i64 k.2.1, .string k.2.2.1, .bool k.2.2.2] 75); have hk2 := Lib.hid (heap_alloc_new w2 (.cells #[.int .i64 k.1, .int .i64 k.2.1, .string k.2.2.1, .bool k.2.2.2] 75)); have N2 := Lib.hid (seqB hb2 B2); have HK2 := Lib.hid (HK.out.below N2.out))
        | (go_at_call 144; refine (NM.out _ HK2.out).mono ?_; rintro e w3 ⟨rfl, hb3⟩; have N3 := Lib.hid (seqB N2.out hb3); have q3 := blk_below hq.out N3.out; have hk3 := blk_below hk2.out hb3; have yy := fun i => cell_of_row _ _ i _ _ _ hk3; have y0 := yy 0; have y1 := yy 1; have y2 := yy 2; have y3 := yy 3; dsimp at y0 y1 y2 y3; have zf := fun i => frozen_of_row _ w.heap.size i _ _ q3; have zz := fun i => cell_of_row _ _ i _ _ _ q3; have z0 := zz 0; have z1 := zz 1; have z2 := zz 2; have z3 := zz 3; dsimp at z0 z1 z2 z3; have NF := Lib.hid (four_below w3 w w.heap.size (.int .i64 0) (.int .i64 0) (.string ⟨#[]⟩) (.bool false) (Nat.le_refl _) (seqB B0 N3.out)); have hfin := Lib.hid (four_set q3 (.int .i64 0) (.int .i64 0) (.string ⟨#[]⟩) (.bool false)); clear zz yy q3 hk3))
      generalize hWF : World.setCell _ _ _ = WF
      have hqf : WF.heap[w.heap.size]? = some (.cells #[.int .i64 0, .int .i64 0, .string ⟨#[]⟩, .bool false] 75 (0, 0)) := by rw [← hWF]; exact hfin.out
      have hN : Below w.heap.size w WF := by rw [← hWF]; exact NF.out
      clear y0 y1 y2 y3
      have y := fun i => cell_of_row _ _ i _ _ _ hqf
      have y0 := y 0; have y1 := y 1; have y2 := y 2; have y3 := y 3
      dsimp at y0 y1 y2 y3
      clear y hqf hWF
      refine bodyPost_ret (v := .tuple #[.agg #[.int .i64 0, .int .i64 0, .string ⟨#[]⟩, .bool false], .int .i64 6]) (by simp [results, Tryd.results117, go_sem, y0, y1, y2, y3]) rfl ?_
      exact HP.out _ hN
end Go.Proofs.YtdhhfbglbihapaaDoor
set_option linter.unusedVariables false
set_option linter.unusedSimpArgs false
namespace Go.Proofs.YtdhhfbglbihapaaDoor
open Go.RowKit
theorem ktoL_ne {a b : ByteArray} (h : ¬ a = b) : ¬ a.toList = b.toList := by
  rw [ByteArray.toList_eq, ByteArray.toList_eq]; intro e; exact h (ByteArray.ext (Array.ext' e))
set_option maxHeartbeats 1000000 in
theorem eqKey (a b : Int) (t : ByteArray) (c : Bool) (a' b' : Int) (t' : ByteArray) (c' : Bool) (w : World) : (binOp .eql 75 (.agg #[.int .i64 a, .int .i64 b, .string t, .bool c]) (.agg #[.int .i64 a', .int .i64 b', .string t', .bool c'])).run Tryd.prog w = .ok (.bool (decide (((a, b, t, c) : Ky) = (a', b', t', c')))) w := by
  by_cases h1 : a = a'
  · by_cases h2 : b = b'
    · by_cases h3 : t = t'
      · by_cases h4 : c = c'
        · subst h1; subst h2; subst h3; subst h4
          simp [go_sem]
        · simp [go_sem, h1, h2, h3, h4]
      · simp [go_sem, h1, h2, h3, ktoL_ne h3]
    · simp [go_sem, h1, h2]
  · simp [go_sem, h1]
theorem eqKey_same (a b : Int) (t : ByteArray) (c : Bool) (w : World) : (binOp .eql 75 (.agg #[.int .i64 a, .int .i64 b, .string t, .bool c]) (.agg #[.int .i64 a, .int .i64 b, .string t, .bool c])).run Tryd.prog w = .ok (.bool true) w := by
  rw [eqKey, decide_eq_true rfl]
theorem ka_name (w : World) (hK : KT w) : Calls Tryd.prog 144 #[.agg #[.int .i64 3, .int .i64 102, .string ⟨#[]⟩, .bool false]] w fun e w' => e = .returned (.tuple #[.string ⟨#[77, 45, 102]⟩, .int .i64 0]) ∧ Below w.heap.size w w' :=
  kname_t (3, 102, ⟨#[]⟩, false) w hK _ _ (by decide) (by decide)
theorem ka_parse (w : World) (hK : KT w) : Calls Tryd.prog 117 #[.string ⟨#[80, 45, 48, 48, 70, 70, 33]⟩] w fun e w' => e = .returned (.tuple #[.agg #[.int .i64 15, .int .i64 0, .string ⟨#[0, 255]⟩, .bool true], .int .i64 0]) ∧ Below w.heap.size w w' := by
  have h := kparse_any ⟨#[80, 45, 48, 48, 70, 70, 33]⟩ w hK (by decide)
  unfold PrPost at h
  have e : (⟨#[80, 45, 48, 48, 70, 70, 33]⟩ : ByteArray).data.toList = nmN (15, 0, ⟨#[0, 255]⟩, true) := by decide
  have p := parse_name (15, 0, ⟨#[0, 255]⟩, true) (by decide)
  rw [e, p.1, p.2] at h
  exact h
theorem ka_check (w : World) (hK : KT w) : Calls Tryd.prog 89 #[.agg #[.int .i64 0, .int .i64 0, .string ⟨#[]⟩, .bool false]] w fun e w' => e = .returned (.int .i64 2) ∧ Below w.heap.size w w' := by
  have h := kcheck_any (0, 0, ⟨#[]⟩, false) w hK
  rw [show ckE (0, 0, ⟨#[]⟩, false) = 2 by decide] at h
  exact h
end Go.Proofs.YtdhhfbglbihapaaDoor
set_option linter.unusedVariables false
set_option linter.unusedSimpArgs false
namespace Go.Proofs.YtdhhfbglbihapaaDoor
open Go.RowKit
theorem kparse_t (s : ByteArray) (w : World) (hK : KT w) (hs : s.size ≤ 900000) (k : Ky) (er : Int) (h1 : prK s.data.toList = k) (h2 : prE s.data.toList = er) : Calls Tryd.prog 117 #[.string s] w fun e w' => e = .returned (.tuple #[.agg #[.int .i64 k.1, .int .i64 k.2.1, .string k.2.2.1, .bool k.2.2.2], .int .i64 er]) ∧ Below w.heap.size w w' := by
  subst h1; subst h2; exact kparse_any s w hK hs
theorem rmay_t (k : Ky) (w : World) (b : Bool) (h : keyB k = b) : Calls Tryd.prog 88 #[.agg #[.int .i64 k.1, .int .i64 k.2.1, .string k.2.2.1, .bool k.2.2.2]] w fun e w' => e = .returned (.bool b) ∧ Below w.heap.size w w' := by
  subst h; exact rmay_ref k w
end Go.Proofs.YtdhhfbglbihapaaDoor
set_option linter.unusedVariables false
set_option linter.unusedSimpArgs false
namespace Go.Proofs.YtdhhfbglbihapaaDoor
open Go.ChangeShapes Go.WideShapes Go.ChangeAt Go.RowKit Go.Deep Go.Joins
section
variable {H : Type} {enc : TypeId × Value → H} {W : World}
theorem addS_none (b off k : Nat) : (⟨b, off, none⟩ : Addr).add k = ⟨b, off + k, none⟩ := by unfold Addr.add; split <;> simp_all
set_option maxRecDepth 100000 in
theorem cellsIntS : Tryd.prog.cellsOf 3 = 1 := by kernel_rfl
set_option maxRecDepth 100000 in
theorem cellsSign : Tryd.prog.cellsOf 89 = 2 := by kernel_rfl
set_option maxRecDepth 100000 in
theorem arg_signs0 {base : Nat} {v0 : Value} {d0 : DataW H} {p : List MemPlace} (hv : Value.okWide Tryd.prog W .any base 31 v0) (h : DataW.Trod enc Tryd.prog W 0 (fun _ => true) true 31 v0 d0 p) :
    ∃ (l : List (Int × Int)) (a : Option Addr) (c : Nat), v0 = .slice a l.length c ∧ Signs W a l ∧ l.length ≤ 9223372036854775807 ∧ (a = none → c = 0) := by
  obtain ⟨a0, len, cap, rfl⟩ := okWide_slice Tryd.underlying31 hv
  obtain ⟨fuel, hf⟩ := h
  rcases open_slice_pairs Tryd.underlying31 Tryd.underlying89 cellsSign rfl rfl cellsIntS cellsIntS hf with ⟨hcs, _⟩ | ⟨a, len', cap', m, n, V0, V1, D0, D1, P0, P1, hcs, _, hl, hm, hmm, _, hcell⟩
  · simp [Value.cells] at hcs
    obtain ⟨rfl, rfl, rfl⟩ := hcs
    exact ⟨[], none, 0, rfl, fun j hj => absurd hj (Nat.not_lt_zero j), by simp, fun _ => rfl⟩
  · simp [Value.cells] at hcs
    obtain ⟨rfl, rfl, rfl⟩ := hcs
    have hlm : len ≤ m := by rw [hmm]; split <;> omega
    have key : ∀ i, i < len → ∃ q : Int × Int, V0 i = .int .i64 q.1 ∧ V1 i = .int .i64 q.2 := fun i hi => by
      obtain ⟨_, _, h1, h2⟩ := hcell i (by omega)
      obtain ⟨x, hx, _, _⟩ := DataW.trod_int Tryd.underlying3 h1
      obtain ⟨y, hy, _, _⟩ := DataW.trod_int Tryd.underlying3 h2
      exact ⟨(x, y), by simpa using hx, by simpa using hy⟩
    obtain ⟨F, hF⟩ : ∃ F : Nat → Int × Int, ∀ i, i < len → V0 i = .int .i64 (F i).1 ∧ V1 i = .int .i64 (F i).2 :=
      ⟨fun i => if h : i < len then (key i h).choose else (0, 0), fun i hi => by simp only [dif_pos hi]; exact (key i hi).choose_spec⟩
    clear key
    refine ⟨(List.range len).map F, some a, cap, by simp, ?_, by simp; unfold maxLen at hm; omega, fun h => by cases h⟩
    intro j hj
    have hj2 : j < len := by simpa using hj
    obtain ⟨c0, c1, _, _⟩ := hcell j (by omega)
    have hk := hF j hj2
    obtain ⟨b, off, sp⟩ := a
    have hsp : sp = none := by
      obtain ⟨c00, _⟩ := hcell 0 (by omega)
      have h1 : W.cell? ⟨b, off, sp⟩ = some (V0 0) := by simpa [Addr.add] using c00
      exact cell_spot h1
    subst hsp
    rw [addS_none] at c0 c1
    have hg : ((List.range len).map F).getD j (0, 0) = F j := by
      rw [List.getD, List.getElem?_map, List.getElem?_range hj2]; rfl
    rw [hg]
    refine ⟨b, off, rfl, block_lt_of_cell c0, ?_, ?_⟩
    · rw [c0, hk.1]
    · rw [show off + j * 2 + 1 = off + (j * 2 + 1) by omega, c1, hk.2]
theorem arg_signs {base : Nat} {v0 : Value} {d0 : DataW H} {p : List MemPlace} (hv : Value.okWide Tryd.prog W .any base 31 v0) (h : DataW.Trod enc Tryd.prog W 0 (fun _ => true) true 31 v0 d0 p) :
    ∃ (l : List (Int × Int)) (a : Option Addr) (c : Nat), v0 = .slice a l.length c ∧ Signs W a l ∧ l.length ≤ 9223372036854775807 := by
  obtain ⟨l, a, c, h1, h2, h3, _⟩ := arg_signs0 hv h
  exact ⟨l, a, c, h1, h2, h3⟩
theorem arg_sign {base : Nat} {v0 : Value} {d0 : DataW H} {p : List MemPlace} (hv : Value.okWide Tryd.prog W .any base 89 v0) (h : DataW.Trod enc Tryd.prog W 0 (fun _ => true) true 89 v0 d0 p) :
    ∃ (x y : Int), v0 = .agg #[.int .i64 x, .int .i64 y] := by
  obtain ⟨a0, a1, y0, y1, n, rfl, rfl, rfl, h0, h1⟩ := open_agg2 Tryd.underlying89 (by kernel_rfl) cellsSign hv h
  obtain ⟨x, hx, _, _⟩ := DataW.trod_int Tryd.underlying3 h0
  obtain ⟨y, hy, _, _⟩ := DataW.trod_int Tryd.underlying3 h1
  obtain rfl : a0 = .int .i64 x := by simpa using hx
  obtain rfl : a1 = .int .i64 y := by simpa using hy
  exact ⟨x, y, rfl⟩
end
end Go.Proofs.YtdhhfbglbihapaaDoor
set_option linter.unusedVariables false
set_option linter.unusedSimpArgs false
namespace Go.Proofs.YtdhhfbglbihapaaDoor
open Go.RowKit Go.Sort
theorem kcheck_t (k : Ky) (w : World) (hK : KT w) (er : Int) (h : ckE k = er) : Calls Tryd.prog 89 #[.agg #[.int .i64 k.1, .int .i64 k.2.1, .string k.2.2.1, .bool k.2.2.2]] w fun e w' => e = .returned (.int .i64 er) ∧ Below w.heap.size w w' := by
  subst h; exact kcheck_any k w hK
theorem nm_short (k : Ky) (h : keyB k = true) (ht : k.2.2.1.size ≤ 300) : (mkS (nmN k)).size ≤ 900000 := by
  rw [mkS_size]
  have hf := kyF_of h
  clear h
  cases hf with
  | sign v h0 h1 h => show (sgN v).length ≤ _; have := sgN_len v; omega
  | ctrl v h0 h1 => show (ctN v).length ≤ _; rw [ctN_len]; omega
  | meta1 v h0 h1 => rw [nm_meta1 v h0]; have := sgN_len v; simp; omega
  | meta0 v h0 h1 => rw [nm_meta0 v (by omega)]; have := ctN_len v; simp; omega
  | paste t c h =>
    show (psN t.data.toList c).length ≤ _
    unfold psN
    have : t.data.toList.length ≤ 300 := by rw [list_size]; exact ht
    simp only [List.length_cons, List.length_append, hx2_len]
    cases c <;> simp <;> omega
  | named kind v h1 h2 h3 h15 h =>
    rw [nm_named kind v _ _ h1 h2 h3 h15]
    have : ∀ r ∈ kTab, r.2.2.1.length ≤ 10 := by decide
    obtain ⟨r, hr⟩ := Option.isSome_iff_exists.1 h
    have ⟨hm, e1, e2⟩ := find_ok hr
    have e3 : kRowOf kind v = r := by unfold kRowOf; rw [hr]; rfl
    rw [e3]; have := this r hm; omega
end Go.Proofs.YtdhhfbglbihapaaDoor
