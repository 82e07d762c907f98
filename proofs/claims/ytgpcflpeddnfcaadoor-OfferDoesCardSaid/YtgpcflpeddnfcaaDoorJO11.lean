/-
  Joined: Of17 LCom.
-/
import Derived.Test.YtgpcflpeddnfcaaDoorJO01
import Derived.Test.YtgpcflpeddnfcaaDoorJO03
import Derived.Test.YtgpcflpeddnfcaaDoorJO09
import Derived.Test.YtgpcflpeddnfcaaDoorJO10
import Derived.Test.YtgpcflpeddnfcaaDoorCards
import Derived.Test.YtgpcflpeddnfcaaDoorTie
import Derived.Deep.DeepHandedRow
import Derived.Lib.LaidTab
import Derived.Lib.LaidU8
import Derived.Stop.LaidErr
set_option linter.unusedVariables false
set_option linter.unusedSimpArgs false
set_option maxRecDepth 100000
set_option linter.unusedVariables false
set_option linter.unusedSimpArgs false
namespace Go.Proofs.YtgpcflpeddnfcaaDoor
open Go.RowKit Go.Sort
theorem only_far (L : List Sg2) (a aC : Option Addr) (n c h cC : Nat) (x : Int) (C : List SgArg) (w : World) (hT : OfT w) (hh : C.length = h) (hhl : h ≤ 9223372036854775807) (hC : HistIn w w.heap.size aC C) (hno : 60 < n ∨ litB C = false) :
    Calls Tryd.prog 8 #[.agg #[.slice a n c, .int .i64 x], .slice aC h cC] w fun e w' => e = .returned (.bool true) ∧ Below w.heap.size w w' := by
  have B0 := below_alloc w (.cells #[.slice a n c, .int .i64 x] 30)
  have AW := Lib.hid (oawake_any _ (hT.below B0))
  have LT := light_any C aC h cC (w.alloc (.cells #[.slice a n c, .int .i64 x] 30)) hh hhl (fun i hi => by
    obtain ⟨b, off, e, hlt, h1, h2⟩ := hC.below B0 i hi
    exact ⟨b, off, e, Nat.lt_of_lt_of_le hlt B0.size, h1, h2.1.mono (fun k hk => Nat.lt_of_lt_of_le hk B0.size), h2.2⟩)
  have N0 := Lib.hid B0
  by_cases h60 : 60 < n
  · have h60i : (60 : Int) < n := by omega
    clear LT hC hT B0 hh
    go_enter Tryd.func8, Tryd.ntmps8
    go_wp2_with (go_at_call 29; refine AW.out.mono ?_; rintro e w1 ⟨rfl, hb⟩; have N1 := Lib.hid (seqB N0.out hb); clear hb)
    go_ret
    exact ⟨rfl, N1.out⟩
  · have h60i : ¬ (60 : Int) < n := by omega
    rw [hno.resolve_left h60] at LT
    replace LT := Lib.hid LT
    clear hC hT B0 hh hno
    go_enter Tryd.func8, Tryd.ntmps8
    go_wp2_with (first
      | (go_at_call 28; refine LT.out.mono ?_; rintro e w1 ⟨rfl, rfl⟩)
      | (go_at_call 29; refine AW.out.mono ?_; rintro e w1 ⟨rfl, hb⟩; have N1 := Lib.hid (seqB N0.out hb); clear hb))
    go_ret
    exact ⟨rfl, N1.out⟩
theorem only_no (L : List Sg2) (a aC : Option Addr) (n c h cC : Nat) (x er : Int) (C : List SgArg) (w : World) (hT : OfT w) (hh : C.length = h) (hhl : h ≤ 9223372036854775807) (hC : HistIn w w.heap.size aC C) (h60 : n ≤ 60) (hlit : litB C = true) (her : er = 2 ∨ er = 7)
    (NW : Hid (∀ w', Below w.heap.size w w' → Calls Tryd.prog 30 #[.agg #[.slice a n c, .int .i64 x], .slice aC h cC] w' fun e w'' => e = .returned (.tuple #[.pointer none, .int .i64 er]) ∧ Below w'.heap.size w' w'')) :
    Calls Tryd.prog 8 #[.agg #[.slice a n c, .int .i64 x], .slice aC h cC] w fun e w' => e = .returned (.bool true) ∧ Below w.heap.size w w' := by
  have B0 := below_alloc w (.cells #[.slice a n c, .int .i64 x] 30)
  have X0 : LbX (w.alloc (.cells #[.slice a n c, .int .i64 x] 30)) w.heap.size a n c x := heap_alloc_new _ _
  have AW := Lib.hid (oawake_any _ (hT.below B0))
  have LT := light_any C aC h cC (w.alloc (.cells #[.slice a n c, .int .i64 x] 30)) hh hhl (fun i hi => by
    obtain ⟨b, off, e, hlt, h1, h2⟩ := hC.below B0 i hi
    exact ⟨b, off, e, Nat.lt_of_lt_of_le hlt B0.size, h1, h2.1.mono (fun k hk => Nat.lt_of_lt_of_le hk B0.size), h2.2⟩)
  have N0 := Lib.hid B0
  have Z0 := Lib.hid X0
  have h60i : ¬ (60 : Int) < n := by omega
  rw [hlit] at LT
  replace LT := Lib.hid LT
  have hz := hT.below B0
  obtain ⟨X, hX⟩ : ∃ X, w.heap.size = X := ⟨_, rfl⟩
  clear hC hT B0 hh hlit X0 hz hX
  rcases her with rfl | rfl
  all_goals
    go_enter Tryd.func8, Tryd.ntmps8
    go_upto_region 3 with (first
      | (go_at_call 28; refine LT.out.mono ?_; rintro e w1 ⟨rfl, rfl⟩)
      | (go_at_call 29; refine AW.out.mono ?_; rintro e w1 ⟨rfl, hb⟩; have N1 := Lib.hid (seqB N0.out hb); have z0 := (Z0.out.below hb).cells.1; have z1 := (Z0.out.below hb).cells.2; clear hb AW LT N0))
    go_wp2_with (go_at_call 30; refine (NW.out _ N1.out).mono ?_; rintro e w2 ⟨rfl, hb⟩; have N2 := Lib.hid (seqB N1.out hb); clear hb NW N1)
    go_ret
    exact ⟨rfl, N2.out⟩
set_option maxHeartbeats 16000000 in
theorem only_yes (L : List Sg2) (a aC : Option Addr) (n c h cC p t : Nat) (T : List (List Sg2)) (C : List SgArg) (w : World) (hT : OfT w) (hh : C.length = h) (hhl : h ≤ 9223372036854775807) (hC : HistIn w w.heap.size aC C) (h60 : n ≤ 60) (hlit : litB C = true) (f : OWf L n p t T) (hok : sgC L = true) (hs : SlS (fun k => k < w.heap.size) w a L c)
    (NW : Hid (∀ w', Below w.heap.size w w' → Calls Tryd.prog 30 #[.agg #[.slice a n c, .int .i64 (p : Int)], .slice aC h cC] w' fun e w'' => (∃ O, e = .returned (.tuple #[.pointer (some ⟨O, 0, none⟩), .int .i64 0]) ∧ OW w O L n p T 0 w'') ∧ Below w'.heap.size w' w'')) :
    Calls Tryd.prog 8 #[.agg #[.slice a n c, .int .i64 (p : Int)], .slice aC h cC] w fun e w' => e = .returned (.bool true) ∧ Below w.heap.size w w' := by
  have B0 := below_alloc w (.cells #[.slice a n c, .int .i64 (p : Int)] 30)
  have X0 : LbX (w.alloc (.cells #[.slice a n c, .int .i64 (p : Int)] 30)) w.heap.size a n c p := heap_alloc_new _ _
  have AW := Lib.hid (oawake_any _ (hT.below B0))
  have LT := light_any C aC h cC (w.alloc (.cells #[.slice a n c, .int .i64 (p : Int)] 30)) hh hhl (fun i hi => by
    obtain ⟨b, off, e, hlt, h1, h2⟩ := hC.below B0 i hi
    exact ⟨b, off, e, Nat.lt_of_lt_of_le hlt B0.size, h1, h2.1.mono (fun k hk => Nat.lt_of_lt_of_le hk B0.size), h2.2⟩)
  have N0 := Lib.hid B0
  have Z0 := Lib.hid X0
  have h60i : ¬ (60 : Int) < n := by omega
  rw [hlit] at LT
  replace LT := Lib.hid LT
  have MY := Lib.hid fun w' (hb : Below w.heap.size w w') => r17_may L a n c p w' f.hn (by omega) (hs.s.below hb)
  have hpn := f.hp
  have hmay : (decide ((0 : Int) ≤ (p : Int)) && decide ((p : Int) ≤ (n : Int)) && sgC L) = true := by
    rw [hok, decide_eq_true (by omega), decide_eq_true (by omega)]; rfl
  rw [hmay] at MY
  have F := Lib.hid f
  have HS := Lib.hid hs
  have ht1000 := f.tl
  have ht0 := f.t0
  have hcle : n ≤ c := by have := hs.le; rw [f.hn] at this; exact this
  have WD := Lib.hid fun w' (hb : Below w.heap.size w w') => word_any L a n c p w' f.hn (by omega) hpn hok (hT.1.below hb) (hs.s.below hb)
  have hwB := wdB_le L p
  obtain ⟨fr, hfr⟩ : ∃ fr, wdB L p = fr := ⟨_, rfl⟩
  rw [hfr] at WD hwB
  have HFR := Lib.hid hfr
  clear hfr
  clear hC hT B0 hh hlit X0 f hs hok hmay
  go_enter Tryd.func8, Tryd.ntmps8
  go_upto_region 3 with (first
    | (go_at_call 28; refine LT.out.mono ?_; rintro e w1 ⟨rfl, rfl⟩)
    | (go_at_call 29; refine AW.out.mono ?_; rintro e w1 ⟨rfl, hb⟩; have N1 := Lib.hid (seqB N0.out hb); have Z1 := Lib.hid (Z0.out.below hb); have z0 := Z1.out.cells.1; have z1 := Z1.out.cells.2; clear hb AW LT N0 Z0))
  obtain ⟨X, hX⟩ : ∃ X, w.heap.size = X := ⟨_, rfl⟩
  have HX := Lib.hid hX
  rw [hX] at Z1 z0 z1
  rw [hX]
  clear hX
  go_upto_region 7 with (first
    | (go_at_call 30; refine (NW.out _ N1.out).mono ?_; rintro e w2 ⟨⟨O, rfl, hO⟩, hb⟩; clear z0 z1; have Q2 := Lib.hid hO; have Z2 := Lib.hid (Z1.out.below hb); have N2 := Lib.hid (seqB N1.out hb); have z0 := Z2.out.cells.1; have z1 := Z2.out.cells.2; clear hb hO NW N1 Z1)
    | (go_at_call 32; refine (MY.out _ N2.out).mono ?_; rintro e w4 ⟨rfl, hb⟩; clear z0 z1; have Q4 := Lib.hid (Q2.out.below hb); have Z4 := Lib.hid (Z2.out.below hb); have z0 := Z4.out.cells.1; have z1 := Z4.out.cells.2; clear hb Q2 Z2 N2 MY)
    | (go_at_call 31; refine (WD.out _ Q4.out.wb).mono ?_; rintro e w5 ⟨rfl, hb⟩; clear z0 z1; have Q5 := Lib.hid (Q4.out.below hb); have Z5 := Lib.hid (Z4.out.below hb); have z0 := Z5.out.cells.1; have z1 := Z5.out.cells.2; clear hb Q4 Z4 WD))
  have LI := Lib.hid (ow_line2 Q5.out F.out (Nat.zero_le _))
  go_upto_region 8 with (go_at_call 39; refine LI.out.mono ?_; rintro e w6 ⟨ad, d, m, N, q, rfl, hy, ho, hb⟩; clear z0 z1; have HY := Lib.hid hy; have Q6 := Lib.hid (Q5.out.below hb); have Z6 := Lib.hid (Z5.out.below hb); have P6 := Lib.hid (ho.mono (Nat.zero_le _)); clear hb ho hy Q5 Z5)
  obtain ⟨v9, hv9⟩ : ∃ v, w6.alloc (.cells #[.slice ad N d, .int .i64 (q : Int)] 30) = v := ⟨_, rfl⟩
  have lb9 : Below w6.heap.size w6 v9 := by rw [← hv9]; exact below_alloc _ _
  have lx9 : LbX v9 w6.heap.size ad N d q := by rw [← hv9]; exact heap_alloc_new _ _
  rw [hv9]
  obtain ⟨X9, hX9⟩ : ∃ X, w6.heap.size = X := ⟨_, rfl⟩
  rw [hX9] at lx9 ⊢
  have Q9 := Lib.hid (Q6.out.below lb9)
  have Z9 := Lib.hid (Z6.out.below lb9)
  have P9 := Lib.hid (ows_keep P6.out lb9)
  have V9 := Lib.hid lx9
  clear Q6 Z6 P6 lb9 lx9 hv9 hX9 LI
  have z0 := Z9.out.cells.1; have v0 := V9.out.cells.1; have v1 := V9.out.cells.2
  have eN := HY.out.hN; have eq := HY.out.hq; have eml := HY.out.ml
  have hc1 : ¬ (fr : Int) < 0 := by omega
  have hc2 : ¬ (p : Int) < fr := by omega
  have hc3 : ¬ (n : Int) < p := by omega
  have hc4 : ¬ (q : Int) < fr := by omega
  have hc5 : ¬ (N : Int) < q := by omega
  have hP := ows_slS P9.out
  have hPl := lnY_len HY.out F.out
  have hNd : N ≤ d := by have := hP.le; rw [hPl] at this; exact this
  have hxs := HS.out.below Q9.out.wb
  have s1 := hxs.sub fr p hwB (by rw [F.out.hn]; exact hpn)
  have s2 := hP.sub fr q (by omega) (by rw [hPl]; omega)
  rw [show (L.drop fr).take (p - fr) = wdL L p by unfold wdL; rw [HFR.out]] at s1
  have hsc := stem_cut HY.out F.out
  rw [HFR.out] at hsc
  rw [hsc] at s2
  obtain ⟨b1, hb1⟩ : ∃ x, (if c = fr then a else a.map (·.add (fr * 2))) = x := ⟨_, rfl⟩
  obtain ⟨b2, hb2⟩ : ∃ x, (if d = fr then ad else ad.map (·.add (fr * 2))) = x := ⟨_, rfl⟩
  rw [hb1] at s1; rw [hb2] at s2
  have k1 := fun w' => (run_cutLH w' a n c fr p hwB (by omega)).trans (by rw [hb1])
  have k2 := fun w' => (run_cutLH w' ad N d fr q (by omega) (by omega)).trans (by rw [hb2])
  obtain ⟨wd, hwd⟩ : ∃ wd, p - fr = wd := ⟨_, rfl⟩
  obtain ⟨sl, hsl⟩ : ∃ sl, q - fr = sl := ⟨_, rfl⟩
  rw [hwd] at s1 k1
  rw [hsl] at s2 k2
  have S1 := Lib.hid s1
  have S2 := Lib.hid s2
  have hst := stem_len F.out
  have HSL : Hid (sl = stm T) := Lib.hid (by rw [← hst.1]; exact s2.2.symm)
  have HWD : Hid (p - wdB L p = wd) := Lib.hid (by rw [HFR.out]; exact hwd)
  clear s1 s2 hb1 hb2 hP hPl hxs hsc hwd hsl hst eN eq
  have AL := Lib.hid (ow_all Q9.out F.out)
  go_upto_region 13 with (go_at_call 36; refine AL.out.mono ?_; rintro e wA ⟨bA, rfl, hA, hb⟩; have G := Lib.hid hA; have NA := Lib.hid (Q9.out.wb.trans (hb.mono Q9.out.wb.size)); have W1 := Lib.hid (S1.out.1.s.below hb); have W2 := Lib.hid (S2.out.1.s.below hb); clear hb hA AL Q9 Z9 P9 V9 z0 v0 v1 k1 k2 hc1 hc2 hc3 hc4 hc5 hNd eml)
  go_wp2_with fail
  go_loopw [13] (fun iv wr => ∃ i : Nat, i ≤ t ∧ iv = .int .i64 (i : Int) ∧ Hid (Below wA.heap.size wA wr)) (fun iv _ => t - (intOf iv).toNat)
  case atStart => exact ⟨0, Nat.zero_le _, rfl, Lib.hid (Below.refl _ _)⟩
  case round =>
    obtain ⟨i, hi, rfl, HB⟩ := hrel
    by_cases hit : i < t
    · have hiti : (i : Int) < t := by omega
      have hi0 : (0 : Int) ≤ i := by omega
      have hiT : i < T.length := by rw [F.out.ht]; exact hit
      obtain ⟨bb, off, ai, ci, rfl, _, hlt0, c0, hs0⟩ := G.out i hiT
      have hmem := getD_memT hiT
      have hz := F.out.z _ hmem
      rw [HWD.out] at hz
      have hhd := F.out.hd hmem
      rw [HWD.out] at hhd
      have hsv := stem_vs F.out hmem
      rw [← HSL.out] at hsv
      obtain ⟨y, hy⟩ : ∃ y, T.getD i [] = y := ⟨_, rfl⟩
      rw [hy] at c0 hs0 hz hhd hsv
      obtain ⟨ln, hln⟩ : ∃ ln, y.length = ln := ⟨_, rfl⟩
      rw [hln] at c0 hz hsv
      have c1 := (HB.out.cell (p := ⟨bb, off + i, none⟩) hlt0).trans c0
      have hle : ¬ ln ≤ wd := by omega
      have A1 := Lib.hid fun w' (hb : Below wA.heap.size wA w') => at04_t y (wdL L p) ai b1 ln wd ci (c - fr) w' hln S1.out.2 (by omega) (by omega) (vs_getD (by rw [hln]; omega) (by rw [S1.out.2]; exact Nat.le_refl _) hhd.symm) (hs0.s.below hb) (W1.out.below hb)
      have A2 := Lib.hid fun w' (hb : Below wA.heap.size wA w') => at04_t y (stemL L p T) ai b2 ln sl ci (d - fr) w' hln S2.out.2 (by omega) (by omega) (vs_getD (by rw [hln]; exact hsv.1) (by rw [S2.out.2]; exact Nat.le_refl _) hsv.2) (hs0.s.below hb) (W2.out.below hb)
      have HYI := Lib.hid hy
      have HLN := Lib.hid hln
      have hln4 : ln ≤ 4096 := hz.1
      have HS0 := Lib.hid hs0
      have HC0 := Lib.hid c0
      clear hz hhd hsv hy hln c0 hmem hs0
      go_upto_region 18 with (first
        | (go_at_call 43; (with_reducible refine (A1.out _ HB.out).mono ?_); rintro e w7 ⟨rfl, hb⟩; have HB1 := Lib.hid (seqB HB.out hb); have c2 := (hb.cell (p := ⟨bb, off + i, none⟩) (Nat.lt_of_lt_of_le hlt0 HB.out.size)).trans c1; clear hb A1)
        | (go_at_call 43; (with_reducible refine (A2.out _ HB1.out).mono ?_); rintro e w8 ⟨rfl, hb⟩; have HB2 := Lib.hid (seqB HB1.out hb); clear hb A2 c1 c2 HB1))
      go_wp2_with fail
      go_loopw [14] (fun kv ws => ∃ k : Nat, k ≤ i ∧ kv = .int .i64 (k : Int) ∧ Hid (Below wA.heap.size wA ws)) (fun kv _ => i - (intOf kv).toNat)
      case atStart => exact ⟨0, Nat.zero_le _, rfl, HB2⟩
      case round =>
        obtain ⟨k, hk, rfl, HC2⟩ := hrel
        by_cases hki : k < i
        · have hkii : (k : Int) < i := by omega
          have hk0 : (0 : Int) ≤ k := by omega
          have hkti : (k : Int) < t := by omega
          have hkT : k < T.length := by rw [F.out.ht]; omega
          obtain ⟨bb2, off2, ak, ck, e2, _, hltk, d0, hsk⟩ := G.out k hkT
          obtain ⟨rfl, rfl⟩ : bb = bb2 ∧ off = off2 := by simpa using e2
          have hne : T.getD k [] ≠ y := fun e => by
            have h := List.pairwise_iff_getElem.1 F.out.ok.apart k i hkT (by rw [F.out.ht]; exact hit) hki
            apply h
            have e3 : T[k] = T.getD k [] := by rw [List.getD, List.getElem?_eq_getElem hkT]; rfl
            have e4 : T[i]'(by rw [F.out.ht]; exact hit) = T.getD i [] := by rw [List.getD, List.getElem?_eq_getElem (by rw [F.out.ht]; exact hit)]; rfl
            rw [e3, e4, e, HYI.out]
          have hzk := (F.out.z _ (getD_memT hkT)).1
          obtain ⟨yk, hyk⟩ : ∃ y, T.getD k [] = y := ⟨_, rfl⟩
          rw [hyk] at d0 hsk hne hzk
          obtain ⟨lk, hlk⟩ : ∃ ln, yk.length = ln := ⟨_, rfl⟩
          rw [hlk] at d0 hzk
          have e1 := (HC2.out.cell (p := ⟨bb, off + k, none⟩) hltk).trans d0
          have e2c := (HC2.out.cell (p := ⟨bb, off + i, none⟩) hlt0).trans HC0.out
          have G1 := fun d os => cell_regrown e1 d os
          have G2 := fun d os => cell_regrown e2c d os
          have SM0 : ∀ dd os, Calls Tryd.prog 24 #[.slice ak lk ck, .slice ai ln ci] (grow (redrawn wr dd) os) fun e w' => e = .returned (.bool false) ∧ Below (grow (redrawn wr dd) os).heap.size (grow (redrawn wr dd) os) w' := fun dd os => by
            have h := sgsame_ref yk y ak ai ck ci (grow (redrawn wr dd) os) (by rw [hlk]; omega) (by rw [HLN.out]; omega) ((hsk.s.below HC2.out).below (below_regrown wr dd os)) ((HS0.out.s.below HC2.out).below (below_regrown wr dd os))
            rw [hlk, HLN.out, decide_eq_false hne] at h
            exact h
          have SM := Lib.hid fun dd os => (SM0 dd os).regrown_of
          clear SM0 hne hyk hlk hsk d0 e2
          go_upto_region 21 with fail
          refine wp_region_quiet_below (by kernel_rfl) (by kernel_rfl) ?_
          repeat (any_goals (go_big_quiet_step (first | (go_at_call 24; with_reducible exact SM.out _ _))))
          refine wpQuiet_nil ?_
          intro _ hw'
          obtain ⟨⟨dq, osq⟩, hw''⟩ := hw'
          subst hw''
          have HC3 := Lib.hid (seqB HC2.out (below_regrown wr dq osq))
          clear G1 G2 SM e1 e2c
          go_wp2_with fail
          go_roundw
          case rel => exact ⟨k + 1, by omega, by go_num, HC3⟩
          case measure => (simp [intOf]; try omega)
        · obtain rfl : k = i := by omega
          have hkii : ¬ (k : Int) < k := by omega
          go_wp2_with fail
          go_roundw
          case rel => exact ⟨k + 1, by omega, by go_num, HC2⟩
          case measure => (simp [intOf]; try omega)
    · obtain rfl : i = t := by omega
      have hiti : ¬ (i : Int) < i := by omega
      go_wp2_with fail
      go_ret
      exact ⟨rfl, NA.out.trans (HB.out.mono NA.out.size)⟩
theorem offeronly_any (y : SgArg) (x : Int) (C : List SgArg) (aC : Option Addr) (cC : Nat) (w : World) (hT : OfT w) (hy : y.In w w.heap.size) (hC : HistIn w w.heap.size aC C) (hlC : C.length ≤ 9223372036854775807) :
    Calls Tryd.prog 8 #[.agg #[.slice y.a y.l.length y.c, .int .i64 x], .slice aC C.length cC] w fun e w' => e = .returned (.bool true) ∧ Below w.heap.size w w' := by
  by_cases h60 : y.l.length ≤ 60
  · cases hlit : litB C with
    | false => exact only_far y.l y.a aC _ y.c _ cC x C w hT rfl hlC hC (Or.inr hlit)
    | true =>
      rcases new_law y x C aC cC w hT hy hC h60 hlit with ⟨er, her, hN⟩ | ⟨p, t, rfl, hok, f, hN⟩
      · exact only_no y.l y.a aC _ y.c _ cC x er C w hT rfl hlC hC h60 hlit her (Lib.hid hN)
      · exact only_yes y.l y.a aC _ y.c _ cC p t _ C w hT rfl hlC hC h60 hlit f hok hy.1 (Lib.hid hN)
  · exact only_far y.l y.a aC _ y.c _ cC x C w hT rfl hlC hC (Or.inl (by omega))
end Go.Proofs.YtgpcflpeddnfcaaDoor
set_option linter.unusedVariables false
set_option linter.unusedSimpArgs false
namespace Go.Proofs.YtgpcflpeddnfcaaDoor
open Go.ChangeShapes Go.WideShapes Go.ChangeAt Go.RowKit
namespace lineC
theorem own : ownKnob Tryd.prog.godebug = none := by kernel_rfl
theorem laidOut : laidOutB Tryd.prog = true := by kernel_rfl
theorem gR : Tryd.prog.globalNamed "dactyl/class.ranges" = some 3 := by kernel_rfl
theorem gL : Tryd.prog.globalNamed "dactyl/class.looks" = some 5 := by kernel_rfl
theorem gRType : (Tryd.prog.globals[3]?).map (·.type) = some 237 := by kernel_rfl
theorem gLType : (Tryd.prog.globals[5]?).map (·.type) = some 251 := by kernel_rfl
theorem cellsR : Tryd.prog.cellsOf 237 = 159 := by kernel_rfl
theorem cellsL : Tryd.prog.cellsOf 251 = 102 := by kernel_rfl
theorem cellsE : Tryd.prog.cellsOf 21 = 1 := by kernel_rfl
theorem eFirst : (Rows.laid_unicode_utf8_first : DataW Unit) = Lib.firstData := by kernel_rfl
theorem eAcc : (Rows.laid_unicode_utf8_acceptRanges : DataW Unit) = Lib.acceptData := by kernel_rfl
theorem extra : U8Extra Tryd.prog Tryd.lays260_ren := ⟨by kernel_rfl, by kernel_rfl, by kernel_rfl, by kernel_rfl, by kernel_rfl, by kernel_rfl, by kernel_rfl⟩
def laid : List (String × DataW Unit) := [("unicode/utf8.acceptRanges", Rows.laid_unicode_utf8_acceptRanges), ("dactyl/class.ranges", Rows.laid_dactyl_class_ranges), ("dactyl/class.looks", Rows.laid_dactyl_class_looks), ("unicode/utf8.first", Rows.laid_unicode_utf8_first)]
set_option maxRecDepth 100000 in
theorem tables {W : World} (h : laidMetH Tryd.prog laid W) : LnT W := by
  have h1 : Lib.TabIs Tryd.prog W "dactyl/class.ranges" .i32 rng :=
    Lib.tabIs_of_head (rest := [("dactyl/class.looks", Rows.laid_dactyl_class_looks), ("unicode/utf8.first", Rows.laid_unicode_utf8_first)]) gR gRType Tryd.underlying237 Tryd.underlying21 cellsE cellsR (laidMet.tail h)
  have h2 : Lib.TabIs Tryd.prog W "dactyl/class.looks" .i32 lks :=
    Lib.tabIs_of_head (rest := [("unicode/utf8.first", Rows.laid_unicode_utf8_first)]) gL gLType Tryd.underlying251 Tryd.underlying21 cellsE cellsL (laidMet.tail (laidMet.tail h))
  have h3 : Lib.VarReads Tryd.prog W "unicode/utf8.acceptRanges" Lib.acceptData := by rw [← eAcc]; exact Lib.laidMet.reads h (.head _)
  have h4 : Lib.VarReads Tryd.prog W "unicode/utf8.first" Lib.firstData := by rw [← eFirst]; exact Lib.laidMet.reads h (.tail _ (.tail _ (.tail _ (.head _))))
  have ht : Lib.Utf8Tabs 7 8 W := utf8Tabs_of_reads Tryd.lays260 extra h4 h3
  exact ⟨⟨fun i hi => h1.cell gR i hi, fun i hi => h2.cell gL i hi, block_lt_of_cell (h1.cell gR 0 (by decide)), block_lt_of_cell (h2.cell gL 0 (by decide))⟩, ⟨ht, block_lt_of_cell (ht.1 0 (by decide)), block_lt_of_cell (ht.2 0 (by decide)).1⟩⟩
/-- A world for the witness: the settled one, the tables as their initialisers lay them. -/
def lay (cs : Array Value) : Obj → Obj
  | .cells _ t frozen => .cells cs t frozen
  | o => o
noncomputable def laidWorld (os : Os) : World :=
  { World.holding Tryd.prog os ⟨#[], #[], []⟩ with heap := ((((World.holding Tryd.prog os ⟨#[], #[], []⟩).heap.modify 3 (lay (rng.map (Value.int .i32)).toArray)).modify 5 (lay (lks.map (Value.int .i32)).toArray)).modify 7 (lay (Lib.firstTab.map fun z => Value.int .u8 z).toArray)).modify 8 (lay ((List.range 16).flatMap fun i => [Value.int .u8 (Lib.accLo i), Value.int .u8 (Lib.accHi i)]).toArray) }
theorem laid_met (os : Os) (args : Array Value) : laidMet Tryd.prog laid ((laidWorld os).forCall (fun _ _ => 0) ⟨#[], args, []⟩).memory :=
  laidMet_of_run' 8 (by kernel_rfl) (by kernel_rfl)
end lineC
end Go.Proofs.YtgpcflpeddnfcaaDoor
