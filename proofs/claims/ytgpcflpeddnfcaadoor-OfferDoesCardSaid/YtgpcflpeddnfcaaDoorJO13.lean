/-
  Joined: Of18 Of19 Of20 Of21 Of22 Of23.
-/
import Derived.Test.YtgpcflpeddnfcaaDoorJO04
import Derived.Test.YtgpcflpeddnfcaaDoorJO06
import Derived.Test.YtgpcflpeddnfcaaDoorJO10
import Derived.Test.YtgpcflpeddnfcaaDoorJO12
import Derived.Deep.RegionHeld3
set_option linter.unusedVariables false
set_option linter.unusedSimpArgs false
set_option maxRecDepth 100000
set_option linter.unusedVariables false
set_option linter.unusedSimpArgs false
namespace Go.Proofs.YtgpcflpeddnfcaaDoor
open Go.RowKit Go.Sort
set_option maxHeartbeats 4000000 in
theorem r26_from (L : List Sg2) (a : Option Addr) (n c p : Nat) (w : World) (hn : L.length = n) (hl : n ≤ 10000) (hp : p ≤ n) (hT : Tabs w) (hs : Signs w a L) :
    Calls Tryd.prog 34 #[.agg #[.slice a n c, .int .i64 (p : Int)]] w fun e w' => e = .returned (.int .i64 (wdB L p : Nat)) ∧ Below w.heap.size w w' := by
  have B0 := below_alloc w (.cells #[.slice a n c, .int .i64 (p : Int)] 30)
  have X0 : LbX (w.alloc (.cells #[.slice a n c, .int .i64 (p : Int)] 30)) w.heap.size a n c p := heap_alloc_new _ _
  have KN := Lib.hid fun v w' (hb : Below w.heap.size w w') => kind_ref v w'
  have HS := Lib.hid hs
  have HN := Lib.hid hn
  clear hs hn hT
  go_enter Tryd.func34, Tryd.ntmps34
  go_upto_region 3 with fail
  obtain ⟨w0, hw0⟩ : ∃ v, w.alloc (.cells #[.slice a n c, .int .i64 (p : Int)] 30) = v := ⟨_, rfl⟩
  obtain ⟨X, hX⟩ : ∃ x, w.heap.size = x := ⟨_, rfl⟩
  rw [hw0, hX] at X0
  rw [hw0] at B0
  rw [hw0, hX]
  clear hw0 hX
  have N0 := Lib.hid B0
  have Z0 := Lib.hid X0
  clear B0 X0
  go_loopw [3, 4] (fun fv iv wr => ∃ i : Nat, i ≤ p ∧ iv = .int .i64 (i : Int) ∧ fv = .int .i64 (wdB L i : Nat) ∧ Hid (Below w0.heap.size w0 wr)) (fun _ iv _ => p - (intOf iv).toNat)
  case atStart => exact ⟨0, Nat.zero_le _, rfl, rfl, Lib.hid (Below.refl _ _)⟩
  case round =>
    obtain ⟨i, hi, rfl, rfl, HB⟩ := hrel
    have z0 := (Z0.out.below HB.out).cells.1
    have z1 := (Z0.out.below HB.out).cells.2
    by_cases hlt : i < p
    · have hi1 : (i : Int) < p := by omega
      have hi0 : (0 : Int) ≤ i := by omega
      have hin : (i : Int) < n := by omega
      obtain ⟨b, off, rfl, hbk, c1, _⟩ := (HS.out.below (seqB N0.out HB.out)) i (by rw [HN.out]; omega)
      obtain ⟨v, hv⟩ : ∃ v, (L.getD i (0, 0)).1 = v := ⟨_, rfl⟩
      have hW : wdB L (i + 1) = (if knd v = 0 then i + 1 else wdB L i) := by rw [← hv]; rfl
      rw [hv] at c1
      obtain ⟨q, hq⟩ : ∃ q, knd v = q := ⟨_, rfl⟩
      have KN2 := Lib.hid (KN.out v wr (seqB N0.out HB.out))
      rw [hq] at KN2 hW
      obtain ⟨f, hf⟩ : ∃ f, wdB L i = f := ⟨_, rfl⟩
      rw [hf] at hW ⊢
      clear hv hq hf
      by_cases h0 : q = 0
      · subst h0
        rw [if_pos rfl] at hW
        have HW := Lib.hid hW
        clear hW
        go_wp2_with (go_at_call 86; refine KN2.out.mono ?_; rintro e w2 ⟨rfl, b2⟩; have HB2 := Lib.hid (seqB HB.out b2); clear b2)
        go_roundw
        case rel => exact ⟨i + 1, by omega, by go_num, by rw [HW.out] <;> go_num, HB2⟩
        case measure => (simp [intOf]; try omega)
      · rw [if_neg h0] at hW
        have HW := Lib.hid hW
        have hqb : (q == 0) = false := beq_eq_false_iff_ne.2 h0
        clear hW
        go_wp2_with (go_at_call 86; refine KN2.out.mono ?_; rintro e w2 ⟨rfl, b2⟩; have HB2 := Lib.hid (seqB HB.out b2); clear b2)
        go_roundw
        case rel => exact ⟨i + 1, by omega, by go_num, by rw [HW.out] <;> rfl, HB2⟩
        case measure => (simp [intOf]; try omega)
    · obtain rfl : i = p := by omega
      have hi1 : ¬ (i : Int) < i := by omega
      go_wp2_with fail
      go_ret
      exact ⟨rfl, seqB N0.out HB.out⟩
set_option maxHeartbeats 4000000 in
theorem at04_b (l m : List Sg2) (a b : Option Addr) (n k c d : Nat) (w : World) (hn : l.length = n) (hk : m.length = k) (hl : n ≤ 1000000) (hkn : k ≤ n) (hs : Signs w a l) (ht : Signs w b m) :
    Calls Tryd.prog 43 #[.slice a n c, .slice b k d, .int .i64 0] w fun e w' => e = .returned (.bool (decide (k ≤ cmn (vsL m) (vsL l)))) ∧ Below w.heap.size w w' := by
  have HS := Lib.hid hs; have HT := Lib.hid ht; have HN := Lib.hid hn; have HK := Lib.hid hk
  have h0 : ¬ (n : Int) < k := by omega
  clear hs ht hn hk
  go_enter Tryd.func43, Tryd.ntmps43
  go_wp2_with fail
  go_loopw [7] (fun iv wr => ∃ j : Nat, j ≤ k ∧ iv = .int .i64 (j : Int) ∧ Hid (∀ i, i < j → (vsL m).getD i 0 = (vsL l).getD i 0) ∧ Hid (Below w.heap.size w wr)) (fun iv _ => k - (intOf iv).toNat)
  case atStart => exact ⟨0, Nat.zero_le _, rfl, Lib.hid (fun i hi => absurd hi (Nat.not_lt_zero i)), Lib.hid (Below.refl _ _)⟩
  case round =>
    obtain ⟨j, hj, rfl, HE, HB⟩ := hrel
    by_cases hlt : j < k
    · have hj1 : (j : Int) < k := by omega
      have hj0 : (0 : Int) ≤ j := by omega
      have hjn : (j : Int) < n := by omega
      obtain ⟨ba, oa, rfl, _, c1, _⟩ := (HS.out.below HB.out) j (by rw [HN.out]; omega)
      obtain ⟨bb, ob, rfl, _, d1, _⟩ := (HT.out.below HB.out) j (by rw [HK.out]; exact hlt)
      have hva := vsL_at l j (by rw [HN.out]; omega)
      have hvb := vsL_at m j (by rw [HK.out]; exact hlt)
      obtain ⟨v, hv⟩ : ∃ v, (l.getD j (0, 0)).1 = v := ⟨_, rfl⟩
      obtain ⟨u, hu⟩ : ∃ u, (m.getD j (0, 0)).1 = u := ⟨_, rfl⟩
      rw [hv] at c1 hva
      rw [hu] at d1 hvb
      have HVA := Lib.hid hva
      have HVB := Lib.hid hvb
      clear hv hu hva hvb
      by_cases e : v = u
      · subst e
        go_wp2_with fail
        go_quiet (fail)
        go_wp2_with fail
        go_roundw
        case rel =>
          refine ⟨j + 1, by omega, by go_num, Lib.hid (fun i hi => ?_), Lib.hid (drewN_below HB.out _)⟩
          by_cases e : i = j
          · rw [e, HVA.out, HVB.out]
          · exact HE.out i (by omega)
        case measure => (simp [intOf]; try omega)
      · have he2 : ¬ v = u := e
        have heb : (v == u) = false := beq_eq_false_iff_ne.2 e
        go_wp2_with fail
        go_quiet (fail)
        go_wp2_with fail
        go_ret
        refine ⟨?_, drewN_below HB.out _⟩
        have : cmn (vsL m) (vsL l) = j := cmn_is _ _ j (by rw [vsL_len, HK.out]; omega) (by rw [vsL_len, HN.out]; omega) HE.out (Or.inr (Or.inr (by rw [HVA.out, HVB.out]; exact fun h => he2 h.symm)))
        rw [this, decide_eq_false (by omega)] <;> rfl
    · obtain rfl : j = k := by omega
      have hj1 : ¬ (j : Int) < j := by omega
      go_wp2_with fail
      go_ret
      refine ⟨?_, HB.out⟩
      have : cmn (vsL m) (vsL l) = j := cmn_is _ _ j (by rw [vsL_len, HK.out]; omega) (by rw [vsL_len, HN.out]; omega) HE.out (Or.inl (by rw [vsL_len, HK.out]))
      rw [this, decide_eq_true (Nat.le_refl _)] <;> rfl
end Go.Proofs.YtgpcflpeddnfcaaDoor
set_option linter.unusedVariables false
set_option linter.unusedSimpArgs false
namespace Go.Proofs.YtgpcflpeddnfcaaDoor
open Go.RowKit Go.Sort
theorem wrL_w4 (l : List Sg2) : wrL l 4 = w4 l := rfl
theorem was_next (T : List (List Sg2)) (l : List Sg2) (k : Nat) (h : k < T.length) : was (T.take (k + 1)) l = (was (T.take k) l || decide (vsL (T.getD k []) = vsL l)) := by
  unfold was
  rw [List.take_add_one, List.getElem?_eq_getElem h, List.any_append, List.getD, List.getElem?_eq_getElem h]; simp
theorem four_eq {t l : List Sg2} (h : ∀ s ∈ t, s.2 = 4) : (decide (t = w4 l)) = decide (vsL t = vsL l) := by
  by_cases e : vsL t = vsL l
  · rw [decide_eq_true e, decide_eq_true]
    have ht : t = w4 t := by
      unfold w4
      conv => lhs; rw [← List.map_id t]
      apply List.map_congr_left
      intro s hs
      have := h s hs
      exact Prod.ext rfl this
    rw [ht]
    have : ∀ x : List Sg2, w4 x = (vsL x).map fun v => (v, 4) := fun x => by unfold w4 vsL; rw [List.map_map]; rfl
    rw [this, this, e]
  · rw [decide_eq_false e, decide_eq_false]
    intro h2
    apply e
    rw [h2, w4_vs]
theorem rd_cell {B : Nat} {v : Value} {E : List (List Sg2)} {w : World} (h : RdK B v E w) {t i : Nat} (ht : E.length = t) (hi : i < t) : ∃ g cap a n c, v = .slice (some ⟨g, 0, none⟩) t cap ∧ w.cell? ⟨g, i, none⟩ = some (.slice a n c) ∧ (E.getD i []).length = n ∧ OwS w B (.slice a n c) (E.getD i []) ∧ g < w.heap.size := by
  obtain ⟨vs, hv⟩ := h.vs
  obtain ⟨g, cap, rfl⟩ := ownsRow_pos hv.row (by omega)
  obtain ⟨x, e, hx⟩ := hv.el i (by omega)
  obtain ⟨a0, c0, rfl⟩ := hx.form rfl
  have c := hv.row.cellAt i (by omega)
  rw [e] at c
  exact ⟨g, cap, a0, _, c0, by rw [← ht], c, rfl, hx, (hv.row.lt g rfl).2⟩
set_option maxHeartbeats 8000000 in
theorem r26_offered (W : List Sg2) (aW aC : Option Addr) (m c h cC : Nat) (H : List (List Sg2)) (w : World) (hm : W.length = m) (hml : m ≤ 10000) (hh : H.length = h) (hhl : h ≤ 1000) (hs : Signs w aW W) (hC : SgsK (fun k => k < w.heap.size) w aC H) (hz : ∀ t ∈ H, t.length ≤ 100000) :
    Calls Tryd.prog 33 #[.slice aW m c, .slice aC h cC] w fun e w' => ∃ v, e = .returned v ∧ RdK w.heap.size v (offK W H h) w' ∧ Below w.heap.size w w' := by
  obtain ⟨i1, hj, hy0, hy1, hy2⟩ := info_parts infoSl
  have HS := Lib.hid hs
  have HM := Lib.hid hm
  have HH := Lib.hid hh
  have HC := Lib.hid hC
  have HZ := Lib.hid hz
  clear hs hm hh hC hz
  go_enter Tryd.func33, Tryd.ntmps33
  go_wp2_with fail
  go_loopw [5, 6] (fun ov iv wr => ∃ k : Nat, k ≤ h ∧ iv = .int .i64 (k : Int) ∧ Hid (RdK w.heap.size ov (offK W H k) wr) ∧ Hid (Below w.heap.size w wr)) (fun _ iv _ => h - (intOf iv).toNat)
  case atStart => exact ⟨0, Nat.zero_le _, rfl, Lib.hid ⟨⟨[], World.ownsRow_nil _ _ _ _, fun i hi => absurd hi (Nat.not_lt_zero i)⟩, Nat.le_refl _⟩, Lib.hid (Below.refl _ _)⟩
  case round =>
    obtain ⟨k, hk, rfl, HO, HB⟩ := hrel
    by_cases hlt : k < h
    · have hk1 : (k : Int) < h := by omega
      have hk0 : (0 : Int) ≤ k := by omega
      have hkH : k < H.length := by rw [HH.out]; exact hlt
      obtain ⟨bc, oc, ai, ci, rfl, _, hbc, c0, hci⟩ := HC.out k hkH
      replace c0 := (HB.out.cell (p := ⟨bc, oc + k, none⟩) hbc).trans c0
      have hzl := HZ.out _ (getD_memT hkH)
      have hnT := offK_next W H k hkH
      obtain ⟨l, hl2⟩ : ∃ l, H.getD k [] = l := ⟨_, rfl⟩
      rw [hl2] at hci hzl c0 hnT
      obtain ⟨q, hq⟩ : ∃ q, l.length = q := ⟨_, rfl⟩
      rw [hq] at c0 hzl
      have HQ := Lib.hid hq
      have HCI := Lib.hid hci
      have AL := sgall_ref l ai ci wr (by rw [hq]; omega) (hci.s.below HB.out)
      rw [hq] at AL
      clear hci hq hl2
      go_upto_region 6 with fail
      by_cases hsc : sgC l = true
      · rw [hsc] at AL
        replace AL := Lib.hid AL
        by_cases hqm : q ≤ m
        · have hqmi : (q : Int) ≤ m := by omega
          have hT1 : Hid (offK W H (k + 1) = offK W H k) := Lib.hid (by rw [hnT]; unfold offStep okC; rw [HQ.out, HM.out, decide_eq_false (by omega)]; rfl)
          clear hnT
          go_wp2_with (go_at_call 85; refine AL.out.mono ?_; rintro e w1 ⟨rfl, hb⟩; have HO1 := Lib.hid (HO.out.below hb); have HB1 := Lib.hid (seqB HB.out hb); clear hb)
          go_roundw
          case rel => exact ⟨k + 1, by omega, by go_num, by rw [hT1.out]; exact HO1, HB1⟩
          case measure => (simp [intOf]; try omega)
        have hqmi : ¬ (q : Int) ≤ m := by omega
        by_cases hq4 : 4096 < q
        · have hq4i : (4096 : Int) < q := by omega
          have hT1 : Hid (offK W H (k + 1) = offK W H k) := Lib.hid (by rw [hnT]; unfold offStep okC; rw [HQ.out, decide_eq_false (show ¬ q ≤ 4096 by omega)]; simp)
          clear hnT
          go_wp2_with (go_at_call 85; refine AL.out.mono ?_; rintro e w1 ⟨rfl, hb⟩; have HO1 := Lib.hid (HO.out.below hb); have HB1 := Lib.hid (seqB HB.out hb); clear hb)
          go_roundw
          case rel => exact ⟨k + 1, by omega, by go_num, by rw [hT1.out]; exact HO1, HB1⟩
          case measure => (simp [intOf]; try omega)
        have hq4i : ¬ (4096 : Int) < q := by omega
        have ATB := Lib.hid fun w' (hb : Below w.heap.size w w') => at04_b l W ai aW q m ci c w' HQ.out HM.out (by omega) (by omega) (HCI.out.s.below hb) (HS.out.below hb)
        by_cases hcm : m ≤ cmn (vsL W) (vsL l)
        · have hok : okC W l = true := by
            unfold okC; rw [HQ.out, HM.out, decide_eq_true (show m < q by omega), decide_eq_true (show q ≤ 4096 by omega), decide_eq_true hcm, hsc]; rfl
          rw [decide_eq_true hcm] at ATB
          obtain ⟨T, hTT⟩ : ∃ T, offK W H k = T := ⟨_, rfl⟩
          have hokT := offK_ok W H k (by omega)
          have hTl := offK_len W H k (by omega)
          rw [hTT] at HO hnT hokT hTl
          obtain ⟨t, ht⟩ : ∃ t, T.length = t := ⟨_, rfl⟩
          rw [ht] at hTl
          obtain ⟨ta, tc, rfl⟩ := HO.out.form
          rw [ht]
          rw [ht] at HO
          have HTl := Lib.hid ht
          have HNT := Lib.hid hnT
          have HOK := Lib.hid hok
          have HOT := Lib.hid hokT
          clear hnT hok hTT ht hokT hcm
          go_upto_region 8 with (first
            | (go_at_call 85; refine AL.out.mono ?_; rintro e w1 ⟨rfl, hb⟩; have HO1 := Lib.hid (HO.out.below hb); have HB1 := Lib.hid (seqB HB.out hb); clear hb)
            | (go_at_call 43; refine (ATB.out _ HB1.out).mono ?_; rintro e w2 ⟨rfl, hb⟩; have HO2 := Lib.hid (HO1.out.below hb); have HB2 := Lib.hid (seqB HB1.out hb); clear hb))
          have htb : t ≤ 1000 := by omega
          clear HO HO1 HB1 AL ATB hTl
          go_wp2_with fail
          go_loopw [8, 9] (fun av kv ws => ∃ j : Nat, j ≤ t ∧ kv = .int .i64 (j : Int) ∧ (∃ g : Bool, av = .bool g ∧ Hid (g = was (T.take j) l)) ∧ Hid (RdK w.heap.size (.slice ta t tc) T ws) ∧ Hid (Below w.heap.size w ws)) (fun _ kv _ => t - (intOf kv).toNat)
          case atStart => exact ⟨0, Nat.zero_le _, rfl, ⟨false, rfl, Lib.hid rfl⟩, HO2, HB2⟩
          case round =>
            obtain ⟨j, hjt, rfl, ⟨g, rfl, HG⟩, HR, HX⟩ := hrel
            clear HO2 HB2
            by_cases hlt2 : j < t
            · have hj1 : (j : Int) < t := by omega
              have hj0 : (0 : Int) ≤ j := by omega
              obtain ⟨gg, cap, a0, n0, c9, e, cx, hn0, hox, hgl⟩ := rd_cell HR.out HTl.out hlt2
              obtain ⟨rfl, rfl⟩ : ta = some ⟨gg, 0, none⟩ ∧ tc = cap := by injection e with e1 e2 e3; exact ⟨e1, e3⟩
              have WR := withr_any l 4 ai ci wr.drew (by rw [HQ.out]; exact hzl) ((HCI.out.s.below HX.out).below (Below.refl _ _).drew)
              rw [HQ.out] at WR
              replace WR := Lib.hid WR
              have hTj : j < T.length := by rw [HTl.out]; exact hlt2
              have h4 := (HOT.out.each _ (getD_memT hTj)).2
              have hfe := four_eq (t := T.getD j []) (l := l) h4
              have hwn := was_next T l j hTj
              have hz9 := (okC_out (HOT.out.each _ (getD_memT hTj)).1).2.1
              rw [hn0] at hz9
              rw [← HG.out, ← hfe] at hwn
              obtain ⟨dd, hdd⟩ : ∃ dd, decide (T.getD j [] = w4 l) = dd := ⟨_, rfl⟩
              rw [hdd] at hwn
              have HWN := Lib.hid hwn
              have hglW : Hid (gg < wr.heap.size) := Lib.hid hgl
              have HN0 := Lib.hid hn0
              have HOX := Lib.hid (ows_slS hox)
              have HDD := Lib.hid hdd
              clear e hn0 hox hgl h4 hfe hwn hdd
              go_upto_region 11 with fail
              cases dd
              all_goals
                go_region_held3 (fun w' => w'.cell? ⟨gg, j, none⟩ = some (.slice a0 n0 c9)) (first | exact cx | exact cx2 | exact cx3 | go_keep)
                  (first
                    | (go_at_call 25; refine WR.out.mono ?_; rintro e w5 ⟨x5, rfl, ho5, hb⟩; obtain ⟨ax, cc, rfl⟩ := ho5.form (show (wrL l 4).length = q by rw [wrL_w4, w4_len]; exact HQ.out); have D5 : Below wr.heap.size wr w5 := (Below.refl _ wr).drew.trans hb; have DD5 := Lib.hid D5; have OX5 := Lib.hid (ows_slS ho5); have cx2 := (D5.cell (p := ⟨gg, j, none⟩) hglW.out).trans cx; clear ho5 hb D5 WR)
                    | (go_at_call 24; refine ((show Calls Tryd.prog 24 #[.slice a0 n0 c9, .slice ax q cc] w5 (fun e w' => e = .returned (.bool _) ∧ Below w5.heap.size w5 w') from (by
                        have h := sgsame_ref (T.getD j []) (wrL l 4) a0 ax c9 cc w5 (by rw [HN0.out]; omega) (by rw [wrL_w4, w4_len, HQ.out]; omega) (HOX.out.s.below DD5.out) OX5.out.s
                        rw [HN0.out, show (wrL l 4).length = q by rw [wrL_w4, w4_len]; exact HQ.out, wrL_w4, HDD.out] at h
                        exact h))).mono ?_; rintro e w6 ⟨rfl, hb⟩; have D6 := Lib.hid (seqB DD5.out hb); have cx3 := (D6.out.cell (p := ⟨gg, j, none⟩) hglW.out).trans cx; clear hb))
                rename_i hHeld
                clear hHeld cx cx2 cx3
                have HR6 := Lib.hid (HR.out.below D6.out)
                have HX6 := Lib.hid (seqB HX.out D6.out)
                clear DD5 OX5 D6
                go_wp2_with fail
                go_roundw
                case rel =>
                  refine ⟨j + 1, by omega, by go_num, ⟨_, rfl, Lib.hid ?_⟩, HR6, HX6⟩
                  rw [HWN.out]; simp
                case measure => (simp [intOf]; try omega)
            · obtain rfl : j = t := by omega
              have hj1 : ¬ (j : Int) < j := by omega
              have hwT : Hid (g = was T l) := Lib.hid (by have := HG.out; rwa [← HTl.out, List.take_length] at this)
              cases g
              · have hT1 : Hid (offK W H (k + 1) = T ++ [w4 l]) := Lib.hid (by rw [HNT.out]; unfold offStep; rw [HOK.out, ← hwT.out]; rfl)
                have WR := withr_any l 4 ai ci wr (by rw [HQ.out]; exact hzl) (HCI.out.s.below HX.out)
                rw [HQ.out] at WR
                replace WR := Lib.hid WR
                obtain ⟨vs, hv⟩ := HR.out.vs
                have HV := Lib.hid hv
                have HSZ := Lib.hid HR.out.le
                have hj1000 : j ≤ 1000 := by omega
                clear hv
                go_wp2_with (first
                  | (go_at_call 25; refine WR.out.mono ?_; rintro e w5 ⟨x5, rfl, ho5, hb⟩; obtain ⟨ax, cc, rfl⟩ := ho5.form (show (wrL l 4).length = q by rw [wrL_w4, w4_len]; exact HQ.out); have BA := below_alloc w5 (.cells #[.slice ax q cc] 28); have D5 := Lib.hid (seqB hb BA); have RV5 := Lib.hid (HV.out.below D5.out); have OX5 := Lib.hid (ows_keep (OwS.mono ho5 HSZ.out) BA); have Z5 := Lib.hid (Nat.le_trans HSZ.out D5.out.size); have hwv := (by have := RV5.out.row; rw [HTl.out] at this; exact this : (w5.alloc (.cells #[.slice ax q cc] 28)).ownsRow w.heap.size 28 1 (.slice ta j tc) j vs); have hnew : ∀ j x, ([Value.slice ax q cc] : List Value)[j]? = some x → (w5.alloc (.cells #[.slice ax q cc] 28)).cell? ((⟨w5.heap.size, 0, none⟩ : Addr).add j) = some x := (fun j x hj => app_cells rfl hj); clear ho5 hb BA WR)
                  | (at_builtin; refine wpList_append_own _ rfl _ _ 44 rfl w.heap.size 28 i1 _ 1 24 Tryd.underlying44 hj hy0 hy1 hy2 rfl (by decide) _ _ _ rfl hwv ⟨_, 0, none⟩ 1 1 [.slice ax q cc] rfl rfl hnew (by simp [Value.oneCell']) ?g3 ?g4 Z5.out ?_))
                case g3 => unfold maxLen; omega
                case g4 => omega
                intro v' w6 hown hgrow _
                have D6 := Lib.hid (RdK.next RV5.out.el RV5.out.len RV5.out.row OX5.out (by rw [HTl.out]; exact hown) hgrow Z5.out)
                have N6 := Lib.hid ((seqB HX.out D5.out).grown hgrow Z5.out (fun k hk => (hwv.lt k hk).1))
                clear hown hgrow hwv hnew
                go_wp2_with fail
                go_roundw
                case rel => exact ⟨k + 1, by omega, by go_num, by rw [hT1.out]; exact D6, N6⟩
                case measure => (simp [intOf]; try omega)
              · have hT1 : Hid (offK W H (k + 1) = T) := Lib.hid (by rw [HNT.out]; unfold offStep; rw [HOK.out, ← hwT.out]; rfl)
                go_wp2_with fail
                go_roundw
                case rel => exact ⟨k + 1, by omega, by go_num, by rw [hT1.out]; exact HR, HX⟩
                case measure => (simp [intOf]; try omega)
        · have hT1 : Hid (offK W H (k + 1) = offK W H k) := Lib.hid (by rw [hnT]; unfold offStep okC; rw [HM.out, decide_eq_false hcm]; simp)
          rw [decide_eq_false hcm] at ATB
          clear hnT
          go_wp2_with (first
            | (go_at_call 85; refine AL.out.mono ?_; rintro e w1 ⟨rfl, hb⟩; have HO1 := Lib.hid (HO.out.below hb); have HB1 := Lib.hid (seqB HB.out hb); clear hb)
            | (go_at_call 43; refine (ATB.out _ HB1.out).mono ?_; rintro e w2 ⟨rfl, hb⟩; have HO2 := Lib.hid (HO1.out.below hb); have HB2 := Lib.hid (seqB HB1.out hb); clear hb))
          go_roundw
          case rel => exact ⟨k + 1, by omega, by go_num, by rw [hT1.out]; exact HO2, HB2⟩
          case measure => (simp [intOf]; try omega)
      · have hsf : sgC l = false := by simpa using hsc
        rw [hsf] at AL
        replace AL := Lib.hid AL
        have hT1 : Hid (offK W H (k + 1) = offK W H k) := Lib.hid (by rw [hnT]; unfold offStep okC; rw [hsf]; simp)
        clear hnT
        go_wp2_with (go_at_call 85; refine AL.out.mono ?_; rintro e w1 ⟨rfl, hb⟩; have HO1 := Lib.hid (HO.out.below hb); have HB1 := Lib.hid (seqB HB.out hb); clear hb)
        go_roundw
        case rel => exact ⟨k + 1, by omega, by go_num, by rw [hT1.out]; exact HO1, HB1⟩
        case measure => (simp [intOf]; try omega)
    · obtain rfl : k = h := by omega
      have hk1 : ¬ (k : Int) < k := by omega
      go_wp2_with fail
      go_ret
      exact ⟨_, rfl, HO.out, HB.out⟩
end Go.Proofs.YtgpcflpeddnfcaaDoor
set_option linter.unusedVariables false
set_option linter.unusedSimpArgs false
namespace Go.Proofs.YtgpcflpeddnfcaaDoor
open Go.RowKit Go.Sort
theorem stm_iff {T : List (List Sg2)} (h : T ≠ []) (n : Nat) : n ≤ stm T ↔ ∀ c ∈ T, n ≤ cmn (vsL (T.getD 0 [])) (vsL c) := by
  cases T with
  | nil => exact absurd rfl h
  | cons t ts => exact stm_le_iff t ts n
theorem cmn_more {a b : List Int} {n : Nat} (h : n ≤ cmn a b) (ha : n < a.length) (hb : n < b.length) (he : a.getD n 0 = b.getD n 0) : n + 1 ≤ cmn a b := by
  refine cmn_ge a b (n + 1) (by omega) (by omega) ?_
  rw [List.take_add_one, List.take_add_one, cmn_take a b n h, List.getElem?_eq_getElem ha, List.getElem?_eq_getElem hb]
  rw [List.getD, List.getD, List.getElem?_eq_getElem ha, List.getElem?_eq_getElem hb] at he
  simp at he
  rw [he]
theorem cmn_most {a b : List Int} {n : Nat} (h : n + 1 ≤ cmn a b) : n < a.length ∧ n < b.length ∧ a.getD n 0 = b.getD n 0 := by
  have hl := cmn_le a b
  refine ⟨by omega, by omega, ?_⟩
  have e := congrArg (fun z => z.getD n 0) (cmn_take a b (n + 1) h)
  simp only [List.getD, List.getElem?_take] at e
  simpa [List.getD] using e
set_option maxHeartbeats 8000000 in
theorem r26_stem (S : Nat → Prop) (T : List (List Sg2)) (a : Option Addr) (t c : Nat) (w : World) (ht : T.length = t) (h0 : 0 < t) (htl : t ≤ 1000) (h4 : ∀ x ∈ T, x.length ≤ 4096 ∧ ∀ s ∈ x, s.2 = 4) (hs : SgsK S w a T) :
    Calls Tryd.prog 89 #[.slice a t c] w fun e w' => e = .returned (.int .i64 (stm T : Nat)) ∧ Below w.heap.size w w' := by
  have hne : T ≠ [] := fun e => by rw [e] at ht; simp at ht; omega
  obtain ⟨b, off, a0, c0', rfl, _, hlt0, cc0, hs0⟩ := hs 0 (by omega)
  have hm0 := h4 _ (getD_memT (T := T) (j := 0) (by omega))
  obtain ⟨y0, hy0⟩ : ∃ y, T.getD 0 [] = y := ⟨_, rfl⟩
  rw [hy0] at cc0 hs0 hm0
  obtain ⟨l0, hl0⟩ : ∃ l, y0.length = l := ⟨_, rfl⟩
  rw [hl0] at cc0 hm0
  have HT := Lib.hid ht
  have H4 := Lib.hid h4
  have HS := Lib.hid hs
  have HNE := Lib.hid hne
  have HY0 := Lib.hid hy0
  have HL0 := Lib.hid hl0
  have HS0 := Lib.hid hs0
  have HM0 := Lib.hid hm0.2
  have hl04 := hm0.1
  have h0i : (0 : Int) < (t : Int) := by omega
  clear ht h4 hs hne hy0 hl0 hs0 hm0
  go_enter Tryd.func89, Tryd.ntmps89
  go_wp2_with fail
  go_loopw [3] (fun nv wr => ∃ n : Nat, n ≤ l0 ∧ nv = .int .i64 (n : Int) ∧ Hid (n ≤ stm T) ∧ Hid (Below w.heap.size w wr)) (fun nv _ => l0 - (intOf nv).toNat)
  case atStart => exact ⟨0, Nat.zero_le _, rfl, Lib.hid (Nat.zero_le _), Lib.hid (Below.refl _ _)⟩
  case round =>
    obtain ⟨n, hn, rfl, HN, HB⟩ := hrel
    have d0 := (HB.out.cell (p := ⟨b, off, none⟩) hlt0).trans cc0
    by_cases hlt : n < l0
    · have hn1 : (n : Int) < l0 := by omega
      have hn0 : (0 : Int) ≤ n := by omega
      go_wp2_with fail
      go_loopw [4] (fun iv ws => ∃ i : Nat, i ≤ t ∧ iv = .int .i64 (i : Int) ∧ Hid (∀ j, j < i → n + 1 ≤ cmn (vsL y0) (vsL (T.getD j []))) ∧ Hid (Below w.heap.size w ws)) (fun iv _ => t - (intOf iv).toNat)
      case atStart => exact ⟨0, Nat.zero_le _, rfl, Lib.hid (fun j hj => absurd hj (Nat.not_lt_zero j)), HB⟩
      case round =>
        obtain ⟨i, hi, rfl, HI, HW⟩ := hrel
        clear d0
        have d0 := (HW.out.cell (p := ⟨b, off, none⟩) hlt0).trans cc0
        by_cases hit : i < t
        · have hi1 : (i : Int) < t := by omega
          have hi0 : (0 : Int) ≤ i := by omega
          have hiT : i < T.length := by rw [HT.out]; exact hit
          obtain ⟨b2, off2, ai, ci, e2, _, hlti, cci, hsi⟩ := HS.out i hiT
          obtain ⟨rfl, rfl⟩ : b = b2 ∧ off = off2 := by simpa using e2
          have hmi := H4.out _ (getD_memT hiT)
          have hst := (stm_iff HNE.out (stm T)).1 (Nat.le_refl _) _ (getD_memT hiT)
          rw [HY0.out] at hst
          obtain ⟨y, hy⟩ : ∃ y, T.getD i [] = y := ⟨_, rfl⟩
          rw [hy] at cci hsi hmi hst
          obtain ⟨li, hli⟩ : ∃ l, y.length = l := ⟨_, rfl⟩
          rw [hli] at cci hmi
          have d1 := (HW.out.cell (p := ⟨b, off + i, none⟩) hlti).trans cci
          have HYI := Lib.hid hy
          have HLI := Lib.hid hli
          have HST := Lib.hid hst
          by_cases hnl : n < li
          · have hnli : (n : Int) < li := by omega
            obtain ⟨ba, oa, rfl, _, s1, s2⟩ := (HS0.out.s.below HW.out) n (by rw [HL0.out]; exact hlt)
            obtain ⟨bb, ob, rfl, _, r1, r2⟩ := (hsi.s.below HW.out) n (by rw [hli]; exact hnl)
            have e4 : (y0.getD n (0, 0)).2 = 4 := HM0.out _ (getD_mem (by rw [HL0.out]; exact hlt))
            have e5 : (y.getD n (0, 0)).2 = 4 := hmi.2 _ (getD_mem (by rw [hli]; exact hnl))
            rw [e4] at s2
            rw [e5] at r2
            have hv0 := vsL_at y0 n (by rw [HL0.out]; exact hlt)
            have hvi := vsL_at y n (by rw [hli]; exact hnl)
            obtain ⟨v, hv⟩ : ∃ v, (y0.getD n (0, 0)).1 = v := ⟨_, rfl⟩
            obtain ⟨u, hu⟩ : ∃ u, (y.getD n (0, 0)).1 = u := ⟨_, rfl⟩
            rw [hv] at s1 hv0
            rw [hu] at r1 hvi
            have HV0 := Lib.hid hv0
            have HVI := Lib.hid hvi
            clear e2 hsi hmi hst hy hli e4 e5 hv hu hv0 hvi cci
            by_cases e : u = v
            · subst e
              have HMore : Hid (n + 1 ≤ cmn (vsL y0) (vsL y)) := Lib.hid (cmn_more (Nat.le_trans HN.out HST.out) (by rw [vsL_len, HL0.out]; exact hlt) (by rw [vsL_len, HLI.out]; exact hnl) (by rw [HV0.out, HVI.out]))
              go_wp2_with fail
              go_quiet (fail)
              go_wp2_with fail
              go_roundw
              case rel =>
                refine ⟨i + 1, by omega, by go_num, Lib.hid (fun j hj => ?_), Lib.hid (drewN_below HW.out _)⟩
                by_cases e : j = i
                · rw [e, HYI.out]; exact HMore.out
                · exact HI.out j (by omega)
              case measure => (simp [intOf]; try omega)
            · have HEnd : Hid (stm T = n) := Lib.hid (by
                have h1 := HN.out
                have h2 := HST.out
                by_cases h3 : n + 1 ≤ cmn (vsL y0) (vsL y)
                · exact absurd ((HVI.out.symm.trans (cmn_most h3).2.2.symm).trans HV0.out) e
                · omega)
              have he2 : ¬ (u = v ∧ True) := fun h => e h.1
              have heb : (u == v) = false := beq_eq_false_iff_ne.2 e
              go_wp2_with fail
              go_quiet (fail)
              go_wp2_with fail
              go_ret
              exact ⟨by rw [HEnd.out] <;> rfl, drewN_below HW.out _⟩
          · have hnli : ¬ (n : Int) < li := by omega
            have hnl2 : li ≤ n := by omega
            have hnl3 : (li : Int) ≤ n := by omega
            have HEnd : Hid (stm T = n) := Lib.hid (by
              have h1 := HN.out
              have h2 := HST.out
              have h3 := (cmn_le (vsL y0) (vsL y)).2
              rw [vsL_len, HLI.out] at h3
              omega)
            clear e2 hsi hmi hst hy hli cci
            go_wp2_with fail
            go_quiet (fail)
            go_wp2_with fail
            go_ret
            exact ⟨by rw [HEnd.out] <;> rfl, drewN_below HW.out _⟩
        · obtain rfl : i = t := by omega
          have hi1 : ¬ (i : Int) < i := by omega
          have HNx : Hid (n + 1 ≤ stm T) := Lib.hid ((stm_iff HNE.out _).2 (fun x hx => by
            obtain ⟨j, hj, rfl⟩ := List.getElem_of_mem hx
            have := HI.out j (by rw [← HT.out]; exact hj)
            rw [List.getD, List.getElem?_eq_getElem hj] at this
            rw [HY0.out]; exact this))
          go_wp2_with fail
          go_roundw
          case rel => exact ⟨n + 1, by omega, by go_num, HNx, HW⟩
          case measure => (simp [intOf]; try omega)
    · obtain rfl : n = l0 := by omega
      have hn1 : ¬ (n : Int) < n := by omega
      have HEnd : Hid (stm T = n) := Lib.hid (by
        have h1 := HN.out
        have h2 := (stm_iff HNE.out (stm T)).1 (Nat.le_refl _) _ (getD_memT (T := T) (j := 0) (by rw [HT.out]; exact h0))
        rw [HY0.out] at h2
        have h3 := (cmn_le (vsL y0) (vsL y0)).1
        rw [vsL_len, HL0.out] at h3
        omega)
      go_wp2_with fail
      go_ret
      exact ⟨by rw [HEnd.out] <;> rfl, HB.out⟩
end Go.Proofs.YtgpcflpeddnfcaaDoor
set_option linter.unusedVariables false
set_option linter.unusedSimpArgs false
namespace Go.Proofs.YtgpcflpeddnfcaaDoor
open Go.RowKit Go.Sort
theorem ln_finS {w w5 : World} {R B N d : Nat} {b : Option Addr} {L : List (Int × Int)} {at_ : Int} {u0 u1 : Value} (hR : w5.heap[R]? = some (.cells #[u0, u1] 30 (0, 0))) (hS : SlS (fun k => B ≤ k) w5 b L d) (hRB : R < B) (hb : Below w.heap.size w w5) (hlt : w.heap.size ≤ R) {WF : World} (hWF : (w5.setCell ⟨R, 0, none⟩ (.slice b N d)).setCell ⟨R, 1, none⟩ (.int .i64 at_) = WF) :
    WF.cell? ⟨R, 0, none⟩ = some (.slice b N d) ∧ WF.cell? ⟨R, 1, none⟩ = some (.int .i64 at_) ∧ SlS (fun _ => True) WF b L d ∧ Below w.heap.size w WF := by
  have hq : WF.heap[R]? = some (.cells #[.slice b N d, .int .i64 at_] 30 (0, 0)) := by rw [← hWF]; exact blk_set (blk_set hR 0 _) 1 _
  refine ⟨cell_of_row _ _ 0 _ _ _ hq, cell_of_row _ _ 1 _ _ _ hq, ?_, ?_⟩
  · refine (hS.keep (by rw [← hWF]; simp [World.setCell]) (fun k hk => ?_)).mono (fun _ _ => trivial)
    rw [← hWF, Below.heap_setCell _ ⟨R, 1, none⟩ _ k (by show k ≠ R; omega), Below.heap_setCell _ ⟨R, 0, none⟩ _ k (by show k ≠ R; omega)]
  · rw [← hWF]; exact (hb.setCell (p := ⟨R, 0, none⟩) hlt _).setCell (p := ⟨R, 1, none⟩) hlt _
/-- What the document's line is. -/
def LnR (w : World) (L : List Sg2) (n p : Nat) (T : List (List Sg2)) (j : Nat) (e : Ending) (w' : World) : Prop :=
  ∃ (ad : Option Addr) (d m N q : Nat), e = .returned (.agg #[.slice ad N d, .int .i64 (q : Int)]) ∧ OwY L n p T j m N q ∧ SlS (fun _ => True) w' ad (lnY L p T j) d ∧ Below w.heap.size w w'
section
variable {L : List Sg2} {n p t : Nat} {T : List (List Sg2)}
set_option maxHeartbeats 8000000 in
theorem r26_lineA (S : Nat → Prop) (f : OWf L n p t T) (a b : Option Addr) (c ct : Nat) (w : World) (hT : Tabs w) (hsm : ∀ x ∈ T, x.length ≤ 1000) (hs : Signs w a L) (hs2 : SlS (fun _ => True) w a L c) (hR : SgsK S w b T) :
    Calls Tryd.prog 40 #[.agg #[.slice a n c, .int .i64 (p : Int)], .slice b t ct, .int .i64 (-1)] w (LnR w L n p T 0) := by
  have hpn := f.hp
  have htl := f.tl
  have ht0 := f.t0
  have hmem0 := getD_memT (T := T) (j := 0) (by rw [f.ht]; exact ht0)
  obtain ⟨bb, off, a0, c0, rfl, _, hlt0, cc0, hs0⟩ := hR 0 (by rw [f.ht]; exact ht0)
  have hne : T ≠ [] := fun e => by have := f.ht; rw [e] at this; simp at this; omega
  have hr := stm_rng f.ok hne
  rw [wdL_len (by rw [f.hn]; exact f.hp)] at hr
  have hz0 := f.z _ hmem0
  have hsm0 := hsm _ hmem0
  have B0 := seqB (below_alloc w (.cells #[.slice a n c, .int .i64 (p : Int)] 30)) (below_alloc _ (.cells #[.slice none 0 0, .int .i64 0] 30))
  obtain ⟨v0, hv0⟩ : ∃ v, w.alloc (.cells #[.slice a n c, .int .i64 (p : Int)] 30) = v := ⟨_, rfl⟩
  have lx : LbX v0 w.heap.size a n c p := by rw [← hv0]; exact heap_alloc_new _ _
  have hz1 : v0.heap.size = w.heap.size + 1 := by rw [← hv0]; simp
  rw [hv0] at B0
  have B1 := below_alloc v0 (.cells #[.slice none 0 0, .int .i64 0] 30)
  have lr : LbX (v0.alloc (.cells #[.slice none 0 0, .int .i64 0] 30)) v0.heap.size none 0 0 0 := heap_alloc_new _ _
  obtain ⟨v1, hv1⟩ : ∃ v, v0.alloc (.cells #[.slice none 0 0, .int .i64 0] 30) = v := ⟨_, rfl⟩
  rw [hv1] at B0 B1 lr
  rw [hz1] at lr
  have lx1 := lx.below B1
  have FR0 : ∀ dd os, Calls Tryd.prog 34 #[.agg #[.slice a n c, .int .i64 (p : Int)]] (grow (redrawn v1 dd) os) fun e w' => e = .returned (.int .i64 (wdB L p : Nat)) ∧ Below (grow (redrawn v1 dd) os).heap.size (grow (redrawn v1 dd) os) w' := fun dd os =>
    r26_from L a n c p _ f.hn f.nl hpn ((hT.below B0).below (below_regrown v1 dd os)) ((hs.below B0).below (below_regrown v1 dd os))
  have hwB := wdB_le L p
  have FR := Lib.hid fun dd os => (FR0 dd os).regrown_of
  obtain ⟨fr, hfr⟩ : ∃ fr, wdB L p = fr := ⟨_, rfl⟩
  rw [hfr] at FR hwB hr
  obtain ⟨wd, hwd⟩ : ∃ wd, p - fr = wd := ⟨_, rfl⟩
  rw [hwd] at hr
  have hpf : (p : Int) - (fr : Int) = (wd : Int) := by omega
  have HWD : Hid (p - wdB L p = wd) := Lib.hid (by rw [hfr]; exact hwd)
  have z0 := lx1.cells.1; have z1 := lx1.cells.2
  have G0 := fun d os => cell_regrown z0 d os
  have G1 := fun d os => cell_regrown z1 d os
  have F := Lib.hid f
  have HS2 := Lib.hid (hs2.below B0)
  have HR := Lib.hid hR
  have HB0 := Lib.hid B0
  have LX := Lib.hid lx1
  have LR := Lib.hid lr
  have HS0 := Lib.hid (hs0.below B0)
  have CC0 := Lib.hid ((B0.cell (p := ⟨bb, off, none⟩) hlt0).trans cc0)
  have HLT0 := Lib.hid (Nat.lt_of_lt_of_le hlt0 B0.size)
  have HLTw := Lib.hid hlt0
  have HZ1 := Lib.hid (show v1.heap.size = w.heap.size + 2 by rw [← hv1]; simp [hz1])
  clear hs hs2 hR hs0 cc0 B0 B1 lx lr lx1 FR0 f hT hfr hwd hlt0
  go_enter Tryd.func40, Tryd.ntmps40
  go_upto_region 1 with fail
  clear hv0 hv1
  obtain ⟨X, hX⟩ : ∃ x, w.heap.size = x := ⟨_, rfl⟩
  have HX := Lib.hid hX
  rw [hX] at LX LR z0 z1 G0 G1 HZ1
  rw [hX]
  clear hX
  refine wp_region_quiet_below (by kernel_rfl) (by kernel_rfl) ?_
  repeat (any_goals (go_big_quiet_step (first | (go_at_call 34; exact FR.out _ _))))
  refine wpQuiet_nil ?_
  intro _ hw'
  obtain ⟨⟨dq, osq⟩, hw''⟩ := hw'
  subst hw''
  have BR := below_regrown v1 dq osq
  obtain ⟨v2, hv2⟩ : ∃ v, grow (redrawn v1 dq) osq = v := ⟨_, rfl⟩
  rw [hv2] at BR ⊢
  have N2 := Lib.hid (seqB HB0.out BR)
  have LX2 := Lib.hid (LX.out.below BR)
  have LR2 := Lib.hid (LR.out.below BR)
  have S2 := Lib.hid (HS2.out.below BR)
  have T0 := Lib.hid (HS0.out.below BR)
  have R2 : Hid (SgsK S v2 (some ⟨bb, off, none⟩) T) := Lib.hid (HR.out.below N2.out)
  have cc := (BR.cell (p := ⟨bb, off, none⟩) HLT0.out).trans CC0.out
  have HLT2 := Lib.hid (Nat.lt_of_lt_of_le HLT0.out BR.size)
  have HZ2 : Hid (X + 2 ≤ v2.heap.size) := Lib.hid (by have := HZ1.out; have := BR.size; omega)
  clear hv2 BR G0 G1 FR z0 z1 CC0 HS0 HR HS2 LX LR HB0 HLT0 HZ1 v0 hz1
  have z0 := LX2.out.cells.1; have z1 := LX2.out.cells.2
  go_upto_region 3 with fail
  obtain ⟨y0, hy0⟩ : ∃ y, T.getD 0 [] = y := ⟨_, rfl⟩
  rw [hy0] at T0 cc hz0 hsm0 hr
  obtain ⟨l0, hl0⟩ : ∃ l, y0.length = l := ⟨_, rfl⟩
  rw [hl0] at cc hz0 hsm0 hr
  have hs3 := (T0.out.mono (fun _ _ => trivial) : SlS (fun _ => True) v2 a0 y0 c0).sub wd (stm T) hr.1 (by rw [hl0]; exact hr.2)
  have hin : insL L p T 0 = (y0.drop wd).take (stm T - wd) := by unfold insL ofIns; rw [if_pos rfl, hy0, HWD.out]
  rw [← hin] at hs3
  obtain ⟨aW, haW⟩ : ∃ x, (if c0 = wd then a0 else a0.map (·.add (wd * 2))) = x := ⟨_, rfl⟩
  rw [haW] at hs3
  have hc0 := T0.out.le
  rw [hl0] at hc0
  obtain ⟨st, hst⟩ : ∃ st, stm T = st := ⟨_, rfl⟩
  have ST0 := fun w' (hb : Below v2.heap.size v2 w') => r26_stem S T (some ⟨bb, off, none⟩) t ct w' F.out.ht ht0 htl (fun x hx => ⟨(F.out.z x hx).1, (F.out.ok.each x hx).2⟩) (R2.out.below hb)
  rw [hst] at hs3 hr ST0
  have ST := Lib.hid ST0
  have hcut := fun w' => (run_cutLH w' a0 l0 c0 wd st hr.1 (by omega)).trans (by rw [haW])
  obtain ⟨m, hm⟩ : ∃ m, st - wd = m := ⟨_, rfl⟩
  rw [hm] at hs3 hcut
  have IN := Lib.hid fun w' (hb : Below v2.heap.size v2 w') => rins_any (fun _ => True) L (insL L p T 0) a aW c (c0 - wd) n m p w' F.out.hn hs3.2 (by have := F.out.nl; omega) (by omega) hpn (S2.out.below hb) (hs3.1.below hb)
  have hml : Hid ((insL L p T 0).length = m ∧ m ≤ 4096) := Lib.hid ⟨hs3.2, by omega⟩
  have h0i : (0 : Int) < (t : Int) := by omega
  have hXb : Hid (X < v2.heap.size ∧ X + 1 < v2.heap.size) := Lib.hid (by have := HZ2.out; omega)
  have D0 := Lib.hid ((Below.refl v2.heap.size v2).drew)
  have hneR : Hid (X + 1 ≠ X ∧ X + 1 ≠ bb) := Lib.hid (by have := HLTw.out; have := HX.out; omega)
  have RB := LR2.out
  have yf := fun i => frozen_of_row _ (X + 1) i _ _ RB
  clear hs3 hin haW ST0 T0 hm hst hz0 hsm0 hy0 hmem0 hne RB
  go_region_held3 (fun w' => w'.cell? ⟨X, 0, none⟩ = some (.slice a n c) ∧ w'.cell? ⟨X, 1, none⟩ = some (.int .i64 (p : Int)) ∧ w'.cell? ⟨bb, off, none⟩ = some (.slice a0 l0 c0)) (first | exact ⟨z0, z1, cc⟩ | exact ⟨z0a, z1a, cca⟩ | exact ⟨z0b, z1b, ccb⟩ | exact ⟨(farL hneR.out.1).trans z0b, (farL hneR.out.1).trans z1b, (farL hneR.out.2).trans ccb⟩ | go_keep)
    (first
      | (go_at_call 89; refine (ST.out _ D0.out).mono ?_; rintro e w4 ⟨rfl, hb⟩; have D4 : Below v2.heap.size v2 w4 := D0.out.trans hb; have DD4 := Lib.hid D4; have z0a := (D4.cell (p := ⟨X, 0, none⟩) hXb.out.1).trans z0; have z1a := (D4.cell (p := ⟨X, 1, none⟩) hXb.out.1).trans z1; have cca := (D4.cell (p := ⟨bb, off, none⟩) HLT2.out).trans cc; clear hb D4 ST)
      | (go_at_call 88; refine (IN.out _ DD4.out).mono ?_; rintro e w5 ⟨ad, d, rfl, hLl, hSS, hb⟩; have D5 := Lib.hid (seqB DD4.out hb); have z0b := (D5.out.cell (p := ⟨X, 0, none⟩) hXb.out.1).trans z0; have z1b := (D5.out.cell (p := ⟨X, 1, none⟩) hXb.out.1).trans z1; have ccb := (D5.out.cell (p := ⟨bb, off, none⟩) HLT2.out).trans cc; have SS5 : Hid (SlS (fun k => v2.heap.size ≤ k) w5 ad (lnY L p T 0) d) := Lib.hid (hSS.mono (fun k hk => Nat.le_trans DD4.out.size hk.1)); have R5 := Lib.hid (LR2.out.below D5.out); have yf5 := fun i => frozen_of_row _ (X + 1) i _ _ R5.out; have x0 := R5.out.cells.1; have x1 := R5.out.cells.2; clear hb hSS hLl))
  go_wp2
  clear z0 z1 cc z0a z1a cca z0b z1b ccb yf yf5 x0 x1
  generalize hWF : World.setCell _ _ _ = WF
  obtain ⟨g0, g1, gS, gB⟩ := ln_finS R5.out SS5.out (by have := HZ2.out; omega) (seqB N2.out D5.out) (by rw [HX.out]; omega) hWF
  refine bodyPost_ret (v := .agg #[.slice ad (n + m) d, .int .i64 ((p : Int) + (m : Int))]) (by simp [results, Tryd.results40, go_sem, g0, g1]) rfl ?_
  exact ⟨ad, d, m, n + m, p + m, by rw [Int.natCast_add], ⟨hml.out.1, hml.out.2, rfl, rfl⟩, gS, gB⟩
set_option maxHeartbeats 8000000 in
theorem r26_lineB (S : Nat → Prop) (f : OWf L n p t T) (i : Nat) (hi : i < t) (a b : Option Addr) (c ct : Nat) (w : World) (hT : Tabs w) (hsm : ∀ x ∈ T, x.length ≤ 1000) (hs : Signs w a L) (hs2 : SlS (fun _ => True) w a L c) (hR : SgsK S w b T) :
    Calls Tryd.prog 40 #[.agg #[.slice a n c, .int .i64 (p : Int)], .slice b t ct, .int .i64 (i : Int)] w (LnR w L n p T (i + 1)) := by
  have hpn := f.hp
  have htl := f.tl
  have ht0 := f.t0
  have hmem0 := getD_memT (T := T) (j := i) (by rw [f.ht]; exact hi)
  obtain ⟨bb, off, a0, c0, rfl, _, hlt0, cc0, hs0⟩ := hR i (by rw [f.ht]; exact hi)
  have hii : (i : Int) < (t : Int) := by omega
  have hii0 : (0 : Int) ≤ (i : Int) := by omega
  have hineg : ¬ (i : Int) < 0 := by omega
  have hz0 := f.z _ hmem0
  have hsm0 := hsm _ hmem0
  have B0 := seqB (below_alloc w (.cells #[.slice a n c, .int .i64 (p : Int)] 30)) (below_alloc _ (.cells #[.slice none 0 0, .int .i64 0] 30))
  obtain ⟨v0, hv0⟩ : ∃ v, w.alloc (.cells #[.slice a n c, .int .i64 (p : Int)] 30) = v := ⟨_, rfl⟩
  have lx : LbX v0 w.heap.size a n c p := by rw [← hv0]; exact heap_alloc_new _ _
  have hz1 : v0.heap.size = w.heap.size + 1 := by rw [← hv0]; simp
  rw [hv0] at B0
  have B1 := below_alloc v0 (.cells #[.slice none 0 0, .int .i64 0] 30)
  have lr : LbX (v0.alloc (.cells #[.slice none 0 0, .int .i64 0] 30)) v0.heap.size none 0 0 0 := heap_alloc_new _ _
  obtain ⟨v1, hv1⟩ : ∃ v, v0.alloc (.cells #[.slice none 0 0, .int .i64 0] 30) = v := ⟨_, rfl⟩
  rw [hv1] at B0 B1 lr
  rw [hz1] at lr
  have lx1 := lx.below B1
  have FR0 : ∀ dd os, Calls Tryd.prog 34 #[.agg #[.slice a n c, .int .i64 (p : Int)]] (grow (redrawn v1 dd) os) fun e w' => e = .returned (.int .i64 (wdB L p : Nat)) ∧ Below (grow (redrawn v1 dd) os).heap.size (grow (redrawn v1 dd) os) w' := fun dd os =>
    r26_from L a n c p _ f.hn f.nl hpn ((hT.below B0).below (below_regrown v1 dd os)) ((hs.below B0).below (below_regrown v1 dd os))
  have hwB := wdB_le L p
  have FR := Lib.hid fun dd os => (FR0 dd os).regrown_of
  obtain ⟨fr, hfr⟩ : ∃ fr, wdB L p = fr := ⟨_, rfl⟩
  rw [hfr] at FR hwB hz0
  obtain ⟨wd, hwd⟩ : ∃ wd, p - fr = wd := ⟨_, rfl⟩
  rw [hwd] at hz0
  have hpf : (p : Int) - (fr : Int) = (wd : Int) := by omega
  have HWD : Hid (p - wdB L p = wd) := Lib.hid (by rw [hfr]; exact hwd)
  have z0 := lx1.cells.1; have z1 := lx1.cells.2
  have G0 := fun d os => cell_regrown z0 d os
  have G1 := fun d os => cell_regrown z1 d os
  have F := Lib.hid f
  have HS2 := Lib.hid (hs2.below B0)
  have HR := Lib.hid hR
  have HB0 := Lib.hid B0
  have LX := Lib.hid lx1
  have LR := Lib.hid lr
  have HS0 := Lib.hid (hs0.below B0)
  have CC0 := Lib.hid ((B0.cell (p := ⟨bb, off + i, none⟩) hlt0).trans cc0)
  have HLT0 := Lib.hid (Nat.lt_of_lt_of_le hlt0 B0.size)
  have HLTw := Lib.hid hlt0
  have HZ1 := Lib.hid (show v1.heap.size = w.heap.size + 2 by rw [← hv1]; simp [hz1])
  clear hs hs2 hR hs0 cc0 B0 B1 lx lr lx1 FR0 f hT hfr hwd hlt0
  go_enter Tryd.func40, Tryd.ntmps40
  go_upto_region 1 with fail
  clear hv0 hv1
  obtain ⟨X, hX⟩ : ∃ x, w.heap.size = x := ⟨_, rfl⟩
  have HX := Lib.hid hX
  rw [hX] at LX LR z0 z1 G0 G1 HZ1
  rw [hX]
  clear hX
  refine wp_region_quiet_below (by kernel_rfl) (by kernel_rfl) ?_
  repeat (any_goals (go_big_quiet_step (first | (go_at_call 34; exact FR.out _ _))))
  refine wpQuiet_nil ?_
  intro _ hw'
  obtain ⟨⟨dq, osq⟩, hw''⟩ := hw'
  subst hw''
  have BR := below_regrown v1 dq osq
  obtain ⟨v2, hv2⟩ : ∃ v, grow (redrawn v1 dq) osq = v := ⟨_, rfl⟩
  rw [hv2] at BR ⊢
  have N2 := Lib.hid (seqB HB0.out BR)
  have LX2 := Lib.hid (LX.out.below BR)
  have LR2 := Lib.hid (LR.out.below BR)
  have S2 := Lib.hid (HS2.out.below BR)
  have T0 := Lib.hid (HS0.out.below BR)
  have R2 : Hid (SgsK S v2 (some ⟨bb, off, none⟩) T) := Lib.hid (HR.out.below N2.out)
  have cc := (BR.cell (p := ⟨bb, off + i, none⟩) HLT0.out).trans CC0.out
  have HLT2 := Lib.hid (Nat.lt_of_lt_of_le HLT0.out BR.size)
  have HZ2 : Hid (X + 2 ≤ v2.heap.size) := Lib.hid (by have := HZ1.out; have := BR.size; omega)
  clear hv2 BR G0 G1 FR z0 z1 CC0 HS0 HR HS2 LX LR HB0 HLT0 HZ1 v0 hz1
  have z0 := LX2.out.cells.1; have z1 := LX2.out.cells.2
  go_upto_region 4 with fail
  obtain ⟨y0, hy0⟩ : ∃ y, T.getD i [] = y := ⟨_, rfl⟩
  rw [hy0] at T0 cc hz0 hsm0
  obtain ⟨l0, hl0⟩ : ∃ l, y0.length = l := ⟨_, rfl⟩
  rw [hl0] at cc hz0 hsm0
  have hs3 := (T0.out.mono (fun _ _ => trivial) : SlS (fun _ => True) v2 a0 y0 c0).sub wd l0 (Nat.le_of_lt hz0.2) (by rw [hl0]; exact Nat.le_refl _)
  have hin : insL L p T (i + 1) = (y0.drop wd).take (l0 - wd) := by unfold insL ofIns; rw [if_neg (by omega), Nat.add_sub_cancel, hy0, HWD.out, List.take_of_length_le (by rw [List.length_drop]; omega)]
  rw [← hin] at hs3
  obtain ⟨aW, haW⟩ : ∃ x, (if c0 = wd then a0 else a0.map (·.add (wd * 2))) = x := ⟨_, rfl⟩
  rw [haW] at hs3
  have hc0 := T0.out.le
  rw [hl0] at hc0
  have hcut := fun w' => (run_cutL w' a0 l0 c0 wd (Nat.le_of_lt hz0.2)).trans (by rw [haW])
  obtain ⟨m, hm⟩ : ∃ m, l0 - wd = m := ⟨_, rfl⟩
  rw [hm] at hs3 hcut
  have IN := Lib.hid fun w' (hb : Below v2.heap.size v2 w') => rins_any (fun _ => True) L (insL L p T (i + 1)) a aW c (c0 - wd) n m p w' F.out.hn hs3.2 (by have := F.out.nl; omega) (by omega) hpn (S2.out.below hb) (hs3.1.below hb)
  have hml : Hid ((insL L p T (i + 1)).length = m ∧ m ≤ 4096) := Lib.hid ⟨hs3.2, by omega⟩
  have h0i : (0 : Int) < (t : Int) := by omega
  have hXb : Hid (X < v2.heap.size ∧ X + 1 < v2.heap.size) := Lib.hid (by have := HZ2.out; omega)
  have D0 := Lib.hid ((Below.refl v2.heap.size v2).drew)
  have hneR : Hid (X + 1 ≠ X ∧ X + 1 ≠ bb) := Lib.hid (by have := HLTw.out; have := HX.out; omega)
  have RB := LR2.out
  have yf := fun i => frozen_of_row _ (X + 1) i _ _ RB
  clear hs3 hin haW T0 hm hz0 hsm0 hy0 hmem0 RB
  go_region_held3 (fun w' => w'.cell? ⟨X, 0, none⟩ = some (.slice a n c) ∧ w'.cell? ⟨X, 1, none⟩ = some (.int .i64 (p : Int)) ∧ w'.cell? ⟨bb, off + i, none⟩ = some (.slice a0 l0 c0)) (first | exact ⟨z0, z1, cc⟩ | exact ⟨z0b, z1b, ccb⟩ | exact ⟨(farL hneR.out.1).trans z0b, (farL hneR.out.1).trans z1b, (farL hneR.out.2).trans ccb⟩ | go_keep)
    (first
      | (go_at_call 88; refine (IN.out _ D0.out).mono ?_; rintro e w5 ⟨ad, d, rfl, hLl, hSS, hb⟩; have D5 : Hid (Below v2.heap.size v2 w5) := Lib.hid (D0.out.trans hb); have z0b := (D5.out.cell (p := ⟨X, 0, none⟩) hXb.out.1).trans z0; have z1b := (D5.out.cell (p := ⟨X, 1, none⟩) hXb.out.1).trans z1; have ccb := (D5.out.cell (p := ⟨bb, off + i, none⟩) HLT2.out).trans cc; have SS5 : Hid (SlS (fun k => v2.heap.size ≤ k) w5 ad (lnY L p T (i + 1)) d) := Lib.hid (hSS.mono (fun k hk => Nat.le_trans D0.out.size hk.1)); have R5 := Lib.hid (LR2.out.below D5.out); have yf5 := fun i => frozen_of_row _ (X + 1) i _ _ R5.out; have x0 := R5.out.cells.1; have x1 := R5.out.cells.2; clear hb hSS hLl))
  go_wp2
  clear z0 z1 cc z0b z1b ccb yf yf5 x0 x1
  generalize hWF : World.setCell _ _ _ = WF
  obtain ⟨g0, g1, gS, gB⟩ := ln_finS R5.out SS5.out (by have := HZ2.out; omega) (seqB N2.out D5.out) (by rw [HX.out]; omega) hWF
  refine bodyPost_ret (v := .agg #[.slice ad (n + m) d, .int .i64 ((p : Int) + (m : Int))]) (by simp [results, Tryd.results40, go_sem, g0, g1]) rfl ?_
  exact ⟨ad, d, m, n + m, p + m, by rw [Int.natCast_add], ⟨hml.out.1, hml.out.2, rfl, rfl⟩, gS, gB⟩
end
end Go.Proofs.YtgpcflpeddnfcaaDoor
set_option linter.unusedVariables false
set_option linter.unusedSimpArgs false
namespace Go.Proofs.YtgpcflpeddnfcaaDoor
open Go.RowKit Go.Sort
theorem does_far (L : List Sg2) (a aC : Option Addr) (n c h cC : Nat) (x : Int) (C : List SgArg) (vB : Value) (w : World) (hT : OfT w) (hh : C.length = h) (hhl : h ≤ 9223372036854775807) (hC : HistIn w w.heap.size aC C) (hno : 60 < n ∨ litB C = false) :
    Calls Tryd.prog 6 #[.agg #[.slice a n c, .int .i64 x], .slice aC h cC, vB] w fun e w' => e = .returned (.bool true) ∧ Below w.heap.size w w' := by
  have B0 := below_alloc w (.cells #[.slice a n c, .int .i64 x] 30)
  have AW := Lib.hid (oawake_any _ (hT.below B0))
  have LT := light_any C aC h cC (w.alloc (.cells #[.slice a n c, .int .i64 x] 30)) hh hhl (fun i hi => by
    obtain ⟨b, off, e, hlt, h1, h2⟩ := hC.below B0 i hi
    exact ⟨b, off, e, Nat.lt_of_lt_of_le hlt B0.size, h1, h2.1.mono (fun k hk => Nat.lt_of_lt_of_le hk B0.size), h2.2⟩)
  have N0 := Lib.hid B0
  by_cases h60 : 60 < n
  · have h60i : (60 : Int) < n := by omega
    clear LT hC hT B0 hh
    go_enter Tryd.func6, Tryd.ntmps6
    go_wp2_with (go_at_call 29; refine AW.out.mono ?_; rintro e w1 ⟨rfl, hb⟩; have N1 := Lib.hid (seqB N0.out hb); clear hb)
    go_ret
    exact ⟨rfl, N1.out⟩
  · have h60i : ¬ (60 : Int) < n := by omega
    rw [hno.resolve_left h60] at LT
    replace LT := Lib.hid LT
    clear hC hT B0 hh hno
    go_enter Tryd.func6, Tryd.ntmps6
    go_wp2_with (first
      | (go_at_call 28; refine LT.out.mono ?_; rintro e w1 ⟨rfl, rfl⟩)
      | (go_at_call 29; refine AW.out.mono ?_; rintro e w1 ⟨rfl, hb⟩; have N1 := Lib.hid (seqB N0.out hb); clear hb))
    go_ret
    exact ⟨rfl, N1.out⟩
theorem word_bad (L : List Sg2) (a : Option Addr) (n c : Nat) (x : Int) (w : World) (hn : L.length = n) (hl : n ≤ 10000) (hno : mayL L x = false) (hs : Signs w a L) :
    Calls Tryd.prog 31 #[.agg #[.slice a n c, .int .i64 x]] w fun e w' => e = .returned (.tuple #[.int .i64 0, .int .i64 0]) ∧ Below w.heap.size w w' := by
  have B0 := below_alloc w (.cells #[.slice a n c, .int .i64 x] 30)
  have RT0 := lw_rt L a n c x (w.alloc (.cells #[.slice a n c, .int .i64 x] 30)) hn (by omega) (hs.below B0)
  rw [hno] at RT0
  have RT := Lib.hid RT0
  have N0 := Lib.hid B0
  clear hs RT0 B0 hno hn
  go_enter Tryd.func31, Tryd.ntmps31
  go_wp2_with (go_at_call 80; refine RT.out.mono ?_; rintro e w1 ⟨rfl, hb⟩; have N1 := Lib.hid (seqB N0.out hb); clear hb)
  refine bodyPost_ret (results_tmp2 rfl _ _ _) rfl ?_
  exact ⟨rfl, N1.out⟩
set_option maxHeartbeats 16000000 in
theorem does_bad (L : List Sg2) (a aC : Option Addr) (n c h cC : Nat) (x : Int) (C : List SgArg) (vB : Value) (w : World) (hT : OfT w) (hh : C.length = h) (hhl : h ≤ 9223372036854775807) (hC : HistIn w w.heap.size aC C) (h60 : n ≤ 60) (hlit : litB C = true) (hnL : L.length = n) (hno : mayL L x = false) (hs : SlS (fun k => k < w.heap.size) w a L c)
    (NW : Hid (∀ w', Below w.heap.size w w' → Calls Tryd.prog 30 #[.agg #[.slice a n c, .int .i64 x], .slice aC h cC] w' fun e w'' => e = .returned (.tuple #[.pointer none, .int .i64 2]) ∧ Below w'.heap.size w' w'')) :
    Calls Tryd.prog 6 #[.agg #[.slice a n c, .int .i64 x], .slice aC h cC, vB] w fun e w' => e = .returned (.bool true) ∧ Below w.heap.size w w' := by
  have B0 := below_alloc w (.cells #[.slice a n c, .int .i64 x] 30)
  have X0 : LbX (w.alloc (.cells #[.slice a n c, .int .i64 x] 30)) w.heap.size a n c x := heap_alloc_new _ _
  have AW := Lib.hid (oawake_any _ (hT.below B0))
  have LT := light_any C aC h cC (w.alloc (.cells #[.slice a n c, .int .i64 x] 30)) hh hhl (fun i hi => by
    obtain ⟨b, off, e, hlt, h1, h2⟩ := hC.below B0 i hi
    exact ⟨b, off, e, Nat.lt_of_lt_of_le hlt B0.size, h1, h2.1.mono (fun k hk => Nat.lt_of_lt_of_le hk B0.size), h2.2⟩)
  have N0 := Lib.hid B0
  have Z0 := Lib.hid X0
  have h60i : ¬ (60 : Int) < n := by omega
  rw [hlit] at LT
  replace LT := Lib.hid LT
  have MY := Lib.hid fun w' (hb : Below w.heap.size w w') => r17_may L a n c x w' hnL (by omega) (hs.s.below hb)
  have hmay : (decide ((0 : Int) ≤ x) && decide (x ≤ (n : Int)) && sgC L) = false := by
    have := hno
    unfold mayL at this
    rw [hnL] at this
    rw [Bool.and_assoc]; exact this
  rw [hmay] at MY
  have WD := Lib.hid fun w' (hb : Below w.heap.size w w') => word_bad L a n c x w' hnL (by omega) hno (hs.s.below hb)
  clear hC hT B0 hh hlit X0 hs hmay hno
  go_enter Tryd.func6, Tryd.ntmps6
  go_upto_region 3 with (first
    | (go_at_call 28; refine LT.out.mono ?_; rintro e w1 ⟨rfl, rfl⟩)
    | (go_at_call 29; refine AW.out.mono ?_; rintro e w1 ⟨rfl, hb⟩; have N1 := Lib.hid (seqB N0.out hb); have Z1 := Lib.hid (Z0.out.below hb); have z0 := Z1.out.cells.1; have z1 := Z1.out.cells.2; clear hb AW LT N0 Z0))
  obtain ⟨X, hX⟩ : ∃ X, w.heap.size = X := ⟨_, rfl⟩
  have HX := Lib.hid hX
  rw [hX] at Z1 z0 z1
  rw [hX]
  clear hX
  go_wp2_with (first
    | (go_at_call 30; refine (NW.out _ N1.out).mono ?_; rintro e w2 ⟨rfl, hb⟩; clear z0 z1; have Z2 := Lib.hid (Z1.out.below hb); have N2 := Lib.hid (seqB N1.out hb); have z0 := Z2.out.cells.1; have z1 := Z2.out.cells.2; clear hb NW N1 Z1)
    | (go_at_call 31; refine (WD.out _ N2.out).mono ?_; rintro e w3 ⟨rfl, hb⟩; clear z0 z1; have Z3 := Lib.hid (Z2.out.below hb); have N3 := Lib.hid (seqB N2.out hb); have z0 := Z3.out.cells.1; have z1 := Z3.out.cells.2; clear hb WD N2 Z2)
    | (go_at_call 32; refine (MY.out _ N3.out).mono ?_; rintro e w4 ⟨rfl, hb⟩; have N4 := Lib.hid (seqB N3.out hb); clear hb N3 Z3 MY))
  go_ret
  exact ⟨rfl, N4.out⟩
set_option maxHeartbeats 16000000 in
theorem does_none (L : List Sg2) (a aC : Option Addr) (n c h cC p : Nat) (C : List SgArg) (vB : Value) (w : World) (hT : OfT w) (hh : C.length = h) (hhl : h ≤ 9223372036854775807) (hC : HistIn w w.heap.size aC C) (h60 : n ≤ 60) (hlit : litB C = true) (hnL : L.length = n) (hpn : p ≤ n) (hok : sgC L = true) (hl40 : ∀ x ∈ cdL C, x.length ≤ 40) (hh20 : h ≤ 20) (hTe : offK (wdL L p) (cdL C) h = []) (hs : SlS (fun k => k < w.heap.size) w a L c)
    (NW : Hid (∀ w', Below w.heap.size w w' → Calls Tryd.prog 30 #[.agg #[.slice a n c, .int .i64 (p : Int)], .slice aC h cC] w' fun e w'' => e = .returned (.tuple #[.pointer none, .int .i64 7]) ∧ Below w'.heap.size w' w'')) :
    Calls Tryd.prog 6 #[.agg #[.slice a n c, .int .i64 (p : Int)], .slice aC h cC, vB] w fun e w' => e = .returned (.bool true) ∧ Below w.heap.size w w' := by
  have B0 := below_alloc w (.cells #[.slice a n c, .int .i64 (p : Int)] 30)
  have X0 : LbX (w.alloc (.cells #[.slice a n c, .int .i64 (p : Int)] 30)) w.heap.size a n c p := heap_alloc_new _ _
  have AW := Lib.hid (oawake_any _ (hT.below B0))
  have LT := light_any C aC h cC (w.alloc (.cells #[.slice a n c, .int .i64 (p : Int)] 30)) hh hhl (fun i hi => by
    obtain ⟨b, off, e, hlt, h1, h2⟩ := hC.below B0 i hi
    exact ⟨b, off, e, Nat.lt_of_lt_of_le hlt B0.size, h1, h2.1.mono (fun k hk => Nat.lt_of_lt_of_le hk B0.size), h2.2⟩)
  have N0 := Lib.hid B0
  have Z0 := Lib.hid X0
  have h60i : ¬ (60 : Int) < n := by omega
  rw [hlit] at LT
  replace LT := Lib.hid LT
  have MY := Lib.hid fun w' (hb : Below w.heap.size w w') => r17_may L a n c p w' hnL (by omega) (hs.s.below hb)
  have hmay : (decide ((0 : Int) ≤ (p : Int)) && decide ((p : Int) ≤ (n : Int)) && sgC L) = true := by
    rw [hok, decide_eq_true (by omega), decide_eq_true (by omega)]; rfl
  rw [hmay] at MY
  have HS := Lib.hid hs
  have hcle : n ≤ c := by have := hs.le; rw [hnL] at this; exact this
  have WD := Lib.hid fun w' (hb : Below w.heap.size w w') => word_any L a n c p w' hnL (by omega) hpn hok (hT.1.below hb) (hs.s.below hb)
  have FR := Lib.hid fun w' (hb : Below w.heap.size w w') => r26_from L a n c p w' hnL (by omega) hpn (hT.1.below hb) (hs.s.below hb)
  have hwB := wdB_le L p
  obtain ⟨fr, hfr⟩ : ∃ fr, wdB L p = fr := ⟨_, rfl⟩
  rw [hfr] at WD FR hwB
  have HFR := Lib.hid hfr
  have s1 := hs.sub fr p hwB (by rw [hnL]; exact hpn)
  rw [show (L.drop fr).take (p - fr) = wdL L p by unfold wdL; rw [hfr]] at s1
  obtain ⟨b1, hb1⟩ : ∃ x, (if c = fr then a else a.map (·.add (fr * 2))) = x := ⟨_, rfl⟩
  rw [hb1] at s1
  have k1 := fun w' => (run_cutLH w' a n c fr p hwB (by omega)).trans (by rw [hb1])
  obtain ⟨wd, hwd⟩ : ∃ wd, p - fr = wd := ⟨_, rfl⟩
  rw [hwd] at s1 k1
  have OFR := Lib.hid fun w' (hb : Below w.heap.size w w') => r26_offered (wdL L p) b1 aC wd (c - fr) h cC (cdL C) w' s1.2 (by omega) (by simp [cdL, hh]) (by omega) (s1.1.s.below hb) ((hC.sgs.below hb).mono (fun k hk => Nat.lt_of_lt_of_le hk hb.size)) (fun t ht => by have := hl40 t ht; omega)
  rw [hTe] at OFR
  have HT0 := Lib.hid hT.1
  clear hC hT B0 hh hlit X0 hs hok hmay hfr hb1 hwd s1 hTe hl40
  go_enter Tryd.func6, Tryd.ntmps6
  go_upto_region 3 with (first
    | (go_at_call 28; refine LT.out.mono ?_; rintro e w1 ⟨rfl, rfl⟩)
    | (go_at_call 29; refine AW.out.mono ?_; rintro e w1 ⟨rfl, hb⟩; have N1 := Lib.hid (seqB N0.out hb); have Z1 := Lib.hid (Z0.out.below hb); have z0 := Z1.out.cells.1; have z1 := Z1.out.cells.2; clear hb AW LT N0 Z0))
  obtain ⟨X, hX⟩ : ∃ X, w.heap.size = X := ⟨_, rfl⟩
  have HX := Lib.hid hX
  rw [hX] at Z1 z0 z1
  rw [hX]
  clear hX
  go_upto_region 7 with (first
    | (go_at_call 30; refine (NW.out _ N1.out).mono ?_; rintro e w2 ⟨rfl, hb⟩; clear z0 z1; have Z2 := Lib.hid (Z1.out.below hb); have N2 := Lib.hid (seqB N1.out hb); have z0 := Z2.out.cells.1; have z1 := Z2.out.cells.2; clear hb NW N1 Z1)
    | (go_at_call 31; refine (WD.out _ N2.out).mono ?_; rintro e w3 ⟨rfl, hb⟩; clear z0 z1; have Z3 := Lib.hid (Z2.out.below hb); have N3 := Lib.hid (seqB N2.out hb); have z0 := Z3.out.cells.1; have z1 := Z3.out.cells.2; clear hb WD N2 Z2)
    | (go_at_call 32; refine (MY.out _ N3.out).mono ?_; rintro e w4 ⟨rfl, hb⟩; clear z0 z1; have Z4 := Lib.hid (Z3.out.below hb); have N4 := Lib.hid (seqB N3.out hb); have z0 := Z4.out.cells.1; have z1 := Z4.out.cells.2; clear hb N3 Z3 MY))
  have hXlt := Lib.hid (blk_lt Z4.out)
  have D4 := Lib.hid (N4.out.drew)
  go_region_held3 (fun w' => w'.cell? ⟨X, 0, none⟩ = some (.slice a n c) ∧ w'.cell? ⟨X, 1, none⟩ = some (.int .i64 (p : Int))) (first | exact ⟨z0, z1⟩ | exact ⟨z0a, z1a⟩ | exact ⟨z0b, z1b⟩ | go_keep)
    (first
      | (go_at_call 34; refine (FR.out _ D4.out).mono ?_; rintro e w5 ⟨rfl, hb⟩; have D5 : Below w4.heap.size w4 w5 := (Below.refl _ w4).drew.trans hb; have E5 := Lib.hid D5; have N5 := Lib.hid (seqB N4.out D5); have z0a := (Z4.out.below D5).cells.1; have z1a := (Z4.out.below D5).cells.2; clear hb D5)
      | (go_at_call 33; refine (OFR.out _ N5.out).mono ?_; rintro e w6 ⟨vr, rfl, hrd, hb⟩; obtain ⟨ta, tc, rfl⟩ := hrd.form; have RD6 := Lib.hid hrd; have N6 := Lib.hid (seqB N5.out hb); have E6 := Lib.hid (seqB E5.out hb); have Z6 := Lib.hid (Z4.out.below E6.out); have z0b := Z6.out.cells.1; have z1b := Z6.out.cells.2; clear hb hrd OFR))
  rename_i hHeld
  clear hHeld z0 z1 z0a z1a z0b z1b Z4 N4 D4 E5 N5 hXlt
  have z0d := Z6.out.cells.1
  have z1d := Z6.out.cells.2
  go_wp2_with (go_at_call 34; refine (FR.out _ N6.out).mono ?_; rintro e w7 ⟨rfl, hb⟩; have N7 := Lib.hid (seqB N6.out hb); have z0e := (Z6.out.below hb).cells.1; have z1e := (Z6.out.below hb).cells.2; clear hb)
  go_ret
  exact ⟨rfl, N7.out⟩
end Go.Proofs.YtgpcflpeddnfcaaDoor
set_option linter.unusedVariables false
set_option linter.unusedSimpArgs false
namespace Go.Proofs.YtgpcflpeddnfcaaDoor
open Go.RowKit Go.Sort
theorem ow_hand2 {w0 : World} {O : Nat} {L : List Sg2} {n p : Nat} {T : List (List Sg2)} {j : Nat} {w : World} {hd : Int} (h : OW w0 O L n p T j w) (hj : hd + 1 = (j : Int)) : Calls Tryd.prog 38 #[.pointer (some ⟨O, 0, none⟩)] w fun e w' => e = .returned (.int .i64 hd) ∧ w = w' := by
  refine (ow_hand h).mono ?_
  rintro e w' ⟨⟨hd', rfl, e1⟩, rfl⟩
  obtain rfl : hd' = hd := by omega
  exact ⟨rfl, rfl⟩
theorem r26_line {L : List Sg2} {n p t : Nat} {T : List (List Sg2)} (S : Nat → Prop) (f : OWf L n p t T) {j : Nat} {hd : Int} (hj : hd + 1 = (j : Int)) (hjt : j ≤ t) (a b : Option Addr) (c ct : Nat) (w : World) (hT : Tabs w) (hsm : ∀ x ∈ T, x.length ≤ 1000) (hs : Signs w a L) (hs2 : SlS (fun _ => True) w a L c) (hR : SgsK S w b T) :
    Calls Tryd.prog 40 #[.agg #[.slice a n c, .int .i64 (p : Int)], .slice b t ct, .int .i64 hd] w (LnR w L n p T j) := by
  by_cases e : j = 0
  · subst e
    obtain rfl : hd = -1 := by omega
    exact r26_lineA S f a b c ct w hT hsm hs hs2 hR
  · obtain ⟨i, rfl⟩ : ∃ i, j = i + 1 := ⟨j - 1, by omega⟩
    obtain rfl : hd = (i : Int) := by omega
    exact r26_lineB S f i (by omega) a b c ct w hT hsm hs hs2 hR
theorem RdK.kpO {B O : Nat} {v : Value} {E : List (List Sg2)} {w w' : World} {cs : Array Value} {fr : Nat × Nat} (h : RdK B v E w) (hO : w.heap[O]? = some (.cells cs 115 fr)) (k : KpB O w w') : RdK B v E w' := by
  obtain ⟨vs, hv⟩ := h.vs
  exact RdV.rd ⟨own_kept_ne hv.row k.gr (Or.inl (own_ne_kind hv.row hO (by decide))), hv.len, fun i hi => by obtain ⟨x, e, hx⟩ := hv.el i hi; exact ⟨x, e, ows_kpO hx hO k⟩⟩ (Nat.le_trans h.le k.size)
set_option maxHeartbeats 16000000 in
theorem does_yes (L : List Sg2) (a aC : Option Addr) (n c h cC p t : Nat) (T : List (List Sg2)) (C : List SgArg) (aB : Option Addr) (u cB : Nat) (Bs : List Bool) (w : World) (hT : OfT w) (hh : C.length = h) (hhl : h ≤ 9223372036854775807) (hC : HistIn w w.heap.size aC C) (h60 : n ≤ 60) (hlit : litB C = true) (f : OWf L n p t T) (hok : sgC L = true) (hl40 : ∀ x ∈ cdL C, x.length ≤ 40) (hh20 : h ≤ 20) (hTe : offK (wdL L p) (cdL C) h = T) (hu : Bs.length = u) (hul : u ≤ 9223372036854775807) (hB : BlsIn w aB Bs) (hTz : ∀ x ∈ T, x.length ≤ 1000) (hs : SlS (fun k => k < w.heap.size) w a L c)
    (NW : Hid (∀ w', Below w.heap.size w w' → Calls Tryd.prog 30 #[.agg #[.slice a n c, .int .i64 (p : Int)], .slice aC h cC] w' fun e w'' => (∃ O, e = .returned (.tuple #[.pointer (some ⟨O, 0, none⟩), .int .i64 0]) ∧ OW w O L n p T 0 w'') ∧ Below w'.heap.size w' w'')) :
    Calls Tryd.prog 6 #[.agg #[.slice a n c, .int .i64 (p : Int)], .slice aC h cC, .slice aB u cB] w fun e w' => e = .returned (.bool true) ∧ Below w.heap.size w w' := by
  have B0 := below_alloc w (.cells #[.slice a n c, .int .i64 (p : Int)] 30)
  have X0 : LbX (w.alloc (.cells #[.slice a n c, .int .i64 (p : Int)] 30)) w.heap.size a n c p := heap_alloc_new _ _
  have AW := Lib.hid (oawake_any _ (hT.below B0))
  have LT := light_any C aC h cC (w.alloc (.cells #[.slice a n c, .int .i64 (p : Int)] 30)) hh hhl (fun i hi => by
    obtain ⟨b, off, e, hlt, h1, h2⟩ := hC.below B0 i hi
    exact ⟨b, off, e, Nat.lt_of_lt_of_le hlt B0.size, h1, h2.1.mono (fun k hk => Nat.lt_of_lt_of_le hk B0.size), h2.2⟩)
  have N0 := Lib.hid B0
  have Z0 := Lib.hid X0
  have h60i : ¬ (60 : Int) < n := by omega
  rw [hlit] at LT
  replace LT := Lib.hid LT
  have MY := Lib.hid fun w' (hb : Below w.heap.size w w') => r17_may L a n c p w' f.hn (by omega) (hs.s.below hb)
  have hpn := f.hp
  have hmay : (decide ((0 : Int) ≤ (p : Int)) && decide ((p : Int) ≤ (n : Int)) && sgC L) = true := by
    rw [hok, decide_eq_true (by omega), decide_eq_true (by omega)]; rfl
  rw [hmay] at MY
  have F := Lib.hid f
  have HS := Lib.hid hs
  have ht1000 := f.tl
  have ht0 := f.t0
  have hcle : n ≤ c := by have := hs.le; rw [f.hn] at this; exact this
  have WD := Lib.hid fun w' (hb : Below w.heap.size w w') => word_any L a n c p w' f.hn (by omega) hpn hok (hT.1.below hb) (hs.s.below hb)
  have FR := Lib.hid fun w' (hb : Below w.heap.size w w') => r26_from L a n c p w' f.hn f.nl hpn (hT.1.below hb) (hs.s.below hb)
  have hwB := wdB_le L p
  obtain ⟨fr, hfr⟩ : ∃ fr, wdB L p = fr := ⟨_, rfl⟩
  rw [hfr] at WD FR hwB
  have HFR := Lib.hid hfr
  have s1 := hs.sub fr p hwB (by rw [f.hn]; exact hpn)
  rw [show (L.drop fr).take (p - fr) = wdL L p by unfold wdL; rw [hfr]] at s1
  obtain ⟨b1, hb1⟩ : ∃ x, (if c = fr then a else a.map (·.add (fr * 2))) = x := ⟨_, rfl⟩
  rw [hb1] at s1
  have k1 := fun w' => (run_cutLH w' a n c fr p hwB (by omega)).trans (by rw [hb1])
  obtain ⟨wd, hwd⟩ : ∃ wd, p - fr = wd := ⟨_, rfl⟩
  rw [hwd] at s1 k1
  have OFR := Lib.hid fun w' (hb : Below w.heap.size w w') => r26_offered (wdL L p) b1 aC wd (c - fr) h cC (cdL C) w' s1.2 (by omega) (by simp [cdL, hh]) (by omega) (s1.1.s.below hb) ((hC.sgs.below hb).mono (fun k hk => Nat.lt_of_lt_of_le hk hb.size)) (fun t ht => by have := hl40 t ht; omega)
  rw [hTe] at OFR
  have OFR2 := Lib.hid fun w' (hb : Below w.heap.size w w') => (OFR.out w' hb).mono (by
    rintro e w'' ⟨v, rfl, hrd, hb2⟩
    obtain ⟨ta, tc, rfl⟩ := hrd.form
    rw [f.ht] at hrd ⊢
    exact ⟨ta, tc, rfl, hrd, hb2⟩ : ∀ e w'', _ → (∃ ta tc, e = .returned (.slice ta t tc) ∧ RdK w'.heap.size (.slice ta t tc) T w'' ∧ Below w'.heap.size w' w''))
  have HT0 := Lib.hid fun w' (hb : Below w.heap.size w w') => hT.1.below hb
  have HBs := Lib.hid hB
  have HU := Lib.hid hu
  have HTZ := Lib.hid hTz
  clear OFR hB hu hTz
  clear hC hT B0 hh hlit X0 hs hok hmay hfr hb1 hwd s1 hTe hl40
  go_enter Tryd.func6, Tryd.ntmps6
  go_upto_region 3 with (first
    | (go_at_call 28; refine LT.out.mono ?_; rintro e w1 ⟨rfl, rfl⟩)
    | (go_at_call 29; refine AW.out.mono ?_; rintro e w1 ⟨rfl, hb⟩; have N1 := Lib.hid (seqB N0.out hb); have Z1 := Lib.hid (Z0.out.below hb); have z0 := Z1.out.cells.1; have z1 := Z1.out.cells.2; clear hb AW LT N0 Z0))
  obtain ⟨X, hX⟩ : ∃ X, w.heap.size = X := ⟨_, rfl⟩
  have HX := Lib.hid hX
  rw [hX] at Z1 z0 z1
  rw [hX]
  clear hX
  go_upto_region 7 with (first
    | (go_at_call 30; refine (NW.out _ N1.out).mono ?_; rintro e w2 ⟨⟨O, rfl, hO⟩, hb⟩; clear z0 z1; have Q2 := Lib.hid hO; have Z2 := Lib.hid (Z1.out.below hb); have N2 := Lib.hid (seqB N1.out hb); have z0 := Z2.out.cells.1; have z1 := Z2.out.cells.2; clear hb hO NW N1 Z1)
    | (go_at_call 31; refine (WD.out _ N2.out).mono ?_; rintro e w3 ⟨rfl, hb⟩; clear z0 z1; have Q3 := Lib.hid (Q2.out.below hb); have Z3 := Lib.hid (Z2.out.below hb); have N3 := Lib.hid (seqB N2.out hb); have z0 := Z3.out.cells.1; have z1 := Z3.out.cells.2; clear hb WD N2 Z2 Q2)
    | (go_at_call 32; refine (MY.out _ N3.out).mono ?_; rintro e w4 ⟨rfl, hb⟩; clear z0 z1; have Q4 := Lib.hid (Q3.out.below hb); have Z4 := Lib.hid (Z3.out.below hb); have z0 := Z4.out.cells.1; have z1 := Z4.out.cells.2; clear hb N3 Z3 Q3 MY))
  have hXlt := Lib.hid (blk_lt Z4.out)
  have N4 := Lib.hid Q4.out.wb
  have D4 := Lib.hid (N4.out.drew)
  go_region_held3 (fun w' => w'.cell? ⟨X, 0, none⟩ = some (.slice a n c) ∧ w'.cell? ⟨X, 1, none⟩ = some (.int .i64 (p : Int))) (first | exact ⟨z0, z1⟩ | exact ⟨z0a, z1a⟩ | exact ⟨z0b, z1b⟩ | go_keep)
    (first
      | (go_at_call 34; refine (FR.out _ D4.out).mono ?_; rintro e w5 ⟨rfl, hb⟩; have D5 : Below w4.heap.size w4 w5 := (Below.refl _ w4).drew.trans hb; have E5 := Lib.hid D5; have N5 := Lib.hid (seqB N4.out D5); have z0a := (Z4.out.below D5).cells.1; have z1a := (Z4.out.below D5).cells.2; clear hb D5)
      | (go_at_call 33; refine (OFR2.out _ N5.out).mono ?_; rintro e w6 ⟨ta, tc, rfl, hrd, hb⟩; have RD6 := Lib.hid hrd; have N6 := Lib.hid (seqB N5.out hb); have E6 := Lib.hid (seqB E5.out hb); have Z6 := Lib.hid (Z4.out.below E6.out); have Q6 := Lib.hid (Q4.out.below E6.out); have z0b := Z6.out.cells.1; have z1b := Z6.out.cells.2; clear hb hrd OFR2))
  rename_i hHeld
  clear hHeld z0 z1 z0a z1a z0b z1b Z4 N4 D4 E5 N5 hXlt Q4 E6
  have z0d := Z6.out.cells.1
  have z1d := Z6.out.cells.2
  have LE := Lib.hid fun (w' : World) (j : Nat) (h : OW w O L n p T j w') => ow_len h F.out
  have AL := Lib.hid fun (w' : World) (j : Nat) (h : OW w O L n p T j w') => ow_all h F.out
  have hteq : ¬ (t : Int) = 0 := by omega
  obtain ⟨BR, hBR⟩ : ∃ B, w5.heap.size = B := ⟨_, rfl⟩
  rw [hBR] at RD6
  clear hBR
  go_upto_region 14 with (first
    | (go_at_call 34; refine (FR.out _ N6.out).mono ?_; rintro e w7 ⟨rfl, hb⟩; clear z0d z1d; have Q7 := Lib.hid (Q6.out.below hb); have RD7 := Lib.hid (RD6.out.below hb); have Z7 := Lib.hid (Z6.out.below hb); have z0d := Z7.out.cells.1; have z1d := Z7.out.cells.2; clear hb Q6 RD6 Z6 N6 FR)
    | (go_at_call 36; refine (AL.out _ _ Q7.out).mono ?_; rintro e w8 ⟨bA, rfl, hA, hb⟩; clear z0d z1d; have Q8 := Lib.hid (Q7.out.below hb); have RD8 := Lib.hid (RD7.out.below hb); have Z8 := Lib.hid (Z7.out.below hb); have G8 := Lib.hid hA; obtain ⟨ta2, tc2, e9, _, _, hsr⟩ := RD8.out.sgs; obtain ⟨rfl, rfl⟩ : ta = ta2 ∧ tc = tc2 := (by injection e9 with e1 e2 e3; exact ⟨e1, e3⟩); have LI8 := Lib.hid (rk_lists _ _ T bA ta t t tc w8 F.out.ht (by omega) (fun x hx => by have := (F.out.z x hx).1; omega) G8.out hsr); clear hb hA Q7 RD7 Z7 AL hsr e9 G8)
    | (go_at_call 35; refine LI8.out.mono ?_; rintro e w9 ⟨rfl, hb⟩; have Q9 := Lib.hid (Q8.out.below hb); have RD9 := Lib.hid (RD8.out.below hb); have Z9 := Lib.hid (Z8.out.below hb); clear hb Q8 RD8 Z8 LI8)
    | (go_at_call 37; refine (LE.out _ _ Q9.out).mono ?_; rintro e wq ⟨rfl, rfl⟩; clear LE))
  go_wp2_with fail
  go_loopw [12, 13] (fun hv iv wr => ∃ (i j : Nat) (hd : Int), i ≤ u ∧ i ≤ 20 ∧ iv = .int .i64 (i : Int) ∧ hv = .int .i64 hd ∧ hd + 1 = (j : Int) ∧ j ≤ t ∧ Hid (OW w O L n p T j wr) ∧ Hid (LbX wr X a n c p) ∧ Hid (RdK BR (.slice ta t tc) T wr)) (fun _ iv _ => 21 - (intOf iv).toNat)
  case atStart => exact ⟨0, 0, -1, Nat.zero_le _, Nat.zero_le _, rfl, rfl, rfl, Nat.zero_le _, Q9, Z9, RD9⟩
  case round =>
    clear Q9 Z9 RD9
    obtain ⟨i, j, hd, hiu, hi20, rfl, rfl, hj, hjt, HQ, HZ, HR⟩ := hrel
    have hiui : (i : Int) ≤ u := by omega
    have hi0 : (0 : Int) ≤ i := by omega
    by_cases hi2 : i < 20
    · have hi2i : (i : Int) < 20 := by omega
      have z0 := HZ.out.cells.1
      have z1 := HZ.out.cells.2
      have hXlt := Lib.hid (blk_lt HZ.out)
      obtain ⟨ta2, tc2, e9, _, _, hsr⟩ := HR.out.sgs
      obtain ⟨rfl, rfl⟩ : ta = ta2 ∧ tc = tc2 := by injection e9 with e1 e2 e3; exact ⟨e1, e3⟩
      have HSR := Lib.hid hsr
      have D0 := Lib.hid ((Below.refl wr.heap.size wr).drew)
      have HA := Lib.hid (ow_hand2 (HQ.out.below D0.out) hj)
      have LI := Lib.hid (ow_line2 (HQ.out.below D0.out) F.out hjt)
      clear e9 hsr
      go_upto_region 18 with fail
      go_region_held3 (fun w' => w'.cell? ⟨X, 0, none⟩ = some (.slice a n c) ∧ w'.cell? ⟨X, 1, none⟩ = some (.int .i64 (p : Int))) (first | exact ⟨z0, z1⟩ | exact ⟨z0a, z1a⟩ | exact ⟨z0b, z1b⟩ | exact ⟨z0c, z1c⟩ | go_keep)
        (first
          | (go_at_call 38; refine HA.out.mono ?_; rintro e wq ⟨rfl, rfl⟩; clear HA)
          | (go_at_call 39; refine LI.out.mono ?_; rintro e wa ⟨ad, d, m, N, q, rfl, hy, ho, hb⟩; have HY := Lib.hid hy; have Da : Below wr.heap.size wr wa := (Below.refl _ wr).drew.trans hb; have DA := Lib.hid Da; have Pa := Lib.hid (ows_slS ho); have z0a := (HZ.out.below Da).cells.1; have z1a := (HZ.out.below Da).cells.2; clear hb ho hy Da LI)
          | (go_at_call 40; refine (r26_line _ F.out hj hjt a ta c tc wa (HT0.out _ (HQ.out.below DA.out).wb) HTZ.out ((HS.out.below (HQ.out.below DA.out).wb).s) ((HS.out.below (HQ.out.below DA.out).wb).mono (fun _ _ => trivial)) (HSR.out.below DA.out)).mono ?_; rintro e wb ⟨ad2, d2, m2, N2, q2, rfl, hy2, hs2, hb⟩; have HY2 := Lib.hid hy2; have DB := Lib.hid (seqB DA.out hb); have Pb := Lib.hid (Pa.out.below hb); have Sb := Lib.hid hs2; have z0b := (HZ.out.below DB.out).cells.1; have z1b := (HZ.out.below DB.out).cells.2; clear hb hy2 hs2 Pa)
          | (go_at_call 16; refine (r16_same (lnY L p T j) (lnY L p T j) ad ad2 N N2 d d2 (q : Int) (q2 : Int) wb (lnY_len HY.out F.out) (lnY_len HY2.out F.out) (by have := HY.out.hN; have := HY.out.ml; omega) (by have := HY2.out.hN; have := HY2.out.ml; omega) Pb.out.s Sb.out.s (by have := HY.out.hm; have := HY2.out.hm; have := HY.out.hq; have := HY2.out.hq; omega) rfl).mono ?_; rintro e wc ⟨rfl, hb⟩; have DC := Lib.hid (seqB DB.out hb); have z0c := (HZ.out.below DC.out).cells.1; have z1c := (HZ.out.below DC.out).cells.2; clear hb))
      rename_i hHeld
      clear hHeld z0 z1 z0a z1a z0b z1b z0c z1c DA DB Pb Sb HY HY2 HSR D0 hXlt
      have QC := Lib.hid (HQ.out.below DC.out)
      have ZC := Lib.hid (HZ.out.below DC.out)
      have RC := Lib.hid (HR.out.below DC.out)
      have BC := Lib.hid (HBs.out.below QC.out.wb)
      clear HQ HZ HR DC
      have hXO : Hid (∃ cs, wc.heap[O]? = some (.cells cs 115 (0, 0))) := Lib.hid QC.out.blk
      have hb1 : -1 ≤ hd := by omega
      have hb2 : hd ≤ 1000 := by omega
      by_cases hie : i = u
      · have hiei : (i : Int) = u := by omega
        have hieb : ((i : Int) == (u : Int)) = true := beq_iff_eq.2 hiei
        go_wp2_with fail
        go_ret
        exact ⟨rfl, QC.out.wb⟩
      have hiei : ¬ (i : Int) = u := by omega
      have hieb : ((i : Int) == (u : Int)) = false := beq_eq_false_iff_ne.2 hiei
      have hilt : (i : Int) < u := by omega
      obtain ⟨bb, ob, rfl, _, cB⟩ := BC.out i (by rw [HU.out]; omega)
      obtain ⟨tb, htb⟩ : ∃ tb, Bs.getD i false = tb := ⟨_, rfl⟩
      rw [htb] at cB
      have NX := Lib.hid (ow_next QC.out F.out hjt)
      have PV := Lib.hid (ow_prev QC.out F.out hjt)
      clear htb
      cases tb
      · by_cases hj0 : j = 0
        · have hlt1 : hd - 1 < -1 := by omega
          have hpv : Hid (pvJ t j = t) := Lib.hid (by unfold pvJ; rw [if_pos hj0])
          go_wp2_with (go_at_call 42; refine PV.out.mono ?_; rintro e we ⟨rfl, hq, hk⟩; obtain ⟨cs, hO⟩ := hXO.out; have QE := Lib.hid hq; have ZE := Lib.hid (ZC.out.kp hO hk); have RE := Lib.hid (RC.out.kpO hO hk); clear hq hk hO cs NX PV)
          go_roundw
          case rel => exact ⟨i + 1, t, (t : Int) - 1, by omega, by omega, by go_num, by first | rfl | go_num, by omega, Nat.le_refl _, Lib.hid (by rw [← hpv.out]; exact QE.out), ZE, RE⟩
          case measure => (simp [intOf]; try omega)
        · have hlt1 : ¬ hd - 1 < -1 := by omega
          have hpv : Hid (pvJ t j = j - 1) := Lib.hid (by unfold pvJ; rw [if_neg hj0])
          go_wp2_with (go_at_call 42; refine PV.out.mono ?_; rintro e we ⟨rfl, hq, hk⟩; obtain ⟨cs, hO⟩ := hXO.out; have QE := Lib.hid hq; have ZE := Lib.hid (ZC.out.kp hO hk); have RE := Lib.hid (RC.out.kpO hO hk); clear hq hk hO cs NX PV)
          go_roundw
          case rel => exact ⟨i + 1, j - 1, hd - 1, by omega, by omega, by go_num, by first | rfl | go_num, by omega, by omega, Lib.hid (by rw [← hpv.out]; exact QE.out), ZE, RE⟩
          case measure => (simp [intOf]; try omega)
      · by_cases hj0 : j = t
        · have hnx : Hid (nxJ t j = 0) := Lib.hid (by unfold nxJ; rw [if_pos hj0])
          have hjtb : ((j : Int) == (t : Int)) = true := beq_iff_eq.2 (by omega)
          go_wp2_with (go_at_call 41; refine NX.out.mono ?_; rintro e we ⟨rfl, hq, hk⟩; obtain ⟨cs, hO⟩ := hXO.out; have QE := Lib.hid hq; have ZE := Lib.hid (ZC.out.kp hO hk); have RE := Lib.hid (RC.out.kpO hO hk); clear hq hk hO cs NX PV)
          go_roundw
          case rel => exact ⟨i + 1, 0, -1, by omega, by omega, by go_num, by first | rfl | go_num, by omega, Nat.zero_le _, Lib.hid (by rw [← hnx.out]; exact QE.out), ZE, RE⟩
          case measure => (simp [intOf]; try omega)
        · have hnx : Hid (nxJ t j = j + 1) := Lib.hid (by unfold nxJ; rw [if_neg hj0])
          have hjtb : ((j : Int) == (t : Int)) = false := beq_eq_false_iff_ne.2 (by omega)
          have hjti : ¬ (j : Int) = t := by omega
          go_wp2_with (go_at_call 41; refine NX.out.mono ?_; rintro e we ⟨rfl, hq, hk⟩; obtain ⟨cs, hO⟩ := hXO.out; have QE := Lib.hid hq; have ZE := Lib.hid (ZC.out.kp hO hk); have RE := Lib.hid (RC.out.kpO hO hk); clear hq hk hO cs NX PV)
          go_roundw
          case rel => exact ⟨i + 1, j + 1, (j : Int), by omega, by omega, by go_num, by first | rfl | go_num, by omega, by omega, Lib.hid (by rw [← hnx.out]; exact QE.out), ZE, RE⟩
          case measure => (simp [intOf]; try omega)
    · obtain rfl : i = 20 := by omega
      have hi2i : ¬ (20 : Int) < 20 := by omega
      go_wp2_with fail
      go_ret
      exact ⟨rfl, HQ.out.wb⟩
theorem off_small {W : List Sg2} {C : List (List Sg2)} {m : Nat} (h : ∀ x ∈ C, x.length ≤ m) : ∀ k, k ≤ C.length → ∀ x ∈ offK W C k, x.length ≤ m
  | 0, _, x, hx => by simp [offK] at hx
  | k + 1, hk, x, hx => by
    rw [offK_next W C k (by omega)] at hx
    unfold offStep at hx
    split at hx
    · rcases List.mem_append.1 hx with hx | hx
      · exact off_small h k (by omega) x hx
      · obtain rfl : x = w4 (C.getD k []) := by simpa using hx
        rw [w4_len]; exact h _ (getD_memT (by omega))
    · exact off_small h k (by omega) x hx
theorem offerdoes_any (y : SgArg) (x : Int) (C : List SgArg) (Bs : List Bool) (aC aB : Option Addr) (cC cB : Nat) (w : World) (hT : OfT w) (hy : y.In w w.heap.size) (hC : HistIn w w.heap.size aC C) (hlC : C.length ≤ 9223372036854775807) (hB : BlsIn w aB Bs) (hlB : Bs.length ≤ 9223372036854775807) :
    Calls Tryd.prog 6 #[.agg #[.slice y.a y.l.length y.c, .int .i64 x], .slice aC C.length cC, .slice aB Bs.length cB] w fun e w' => e = .returned (.bool true) ∧ Below w.heap.size w w' := by
  by_cases h60 : y.l.length ≤ 60
  · cases hlit : litB C with
    | false => exact does_far y.l y.a aC _ y.c _ cC x C _ w hT rfl hlC hC (Or.inr hlit)
    | true =>
      obtain ⟨l1, l2⟩ := litB_out hlit
      cases hm : mayL y.l x with
      | false => exact does_bad y.l y.a aC _ y.c _ cC x C _ w hT rfl hlC hC h60 hlit rfl hm hy.1 (Lib.hid fun w' hb => offnew_bad y.l y.a _ y.c x _ w' rfl (by omega) hm (hy.1.s.below hb))
      | true =>
        obtain ⟨m1, m2, m3⟩ := mayL_out hm
        obtain ⟨p, rfl⟩ := Int.eq_ofNat_of_zero_le m1
        have hp : p ≤ y.l.length := by omega
        have hcl : (cdL C).length = C.length := by simp [cdL]
        have hN := fun w' (hb : Below w.heap.size w w') => offnew_any y.l y.a y.l.length y.c p (cdL C) aC C.length cC w' rfl (by omega) hp m3 (hT.1.below hb) (hy.1.up hb) hcl (by omega) ((hC.sgs.below hb).mono (fun k hk => Nat.lt_of_lt_of_le hk hb.size)) (fun t ht => by have := l1 t ht; omega)
        have hok := offK_ok (wdL y.l p) (cdL C) (cdL C).length (Nat.le_refl _)
        have hlen := offK_len (wdL y.l p) (cdL C) (cdL C).length (Nat.le_refl _)
        by_cases h0 : offL y.l p (cdL C) = []
        · refine does_none y.l y.a aC _ y.c _ cC p C _ w hT rfl hlC hC h60 hlit rfl hp m3 l1 l2 (by rw [← h0]; unfold offL; rw [hcl]) hy.1 (Lib.hid fun w' hb => (hN w' hb).mono ?_)
          rintro e w'' ⟨h | h, hb2⟩
          · exact ⟨h.2, hb2⟩
          · exact absurd h0 h.1
        · refine does_yes y.l y.a aC _ y.c _ cC p (offL y.l p (cdL C)).length (offL y.l p (cdL C)) C aB _ cB Bs w hT rfl hlC hC h60 hlit ⟨rfl, by omega, hp, rfl, List.length_pos_iff.2 h0, by unfold offL; omega, hok⟩ m3 l1 l2 (by unfold offL; rw [hcl]) rfl hlB hB (fun x hx => by have := off_small l1 _ (Nat.le_refl _) x hx; omega) hy.1 (Lib.hid fun w' hb => (hN w' hb).mono ?_)
          rintro e w'' ⟨h | ⟨_, O, xa, xc, rfl, hO⟩, hb2⟩
          · exact absurd h.1 h0
          · exact ⟨⟨O, rfl, ⟨⟨_, xa, xc, -1, hO, hb.size, hb2.size, by omega⟩, hb.trans (hb2.mono hb.size)⟩⟩, hb2⟩
  · exact does_far y.l y.a aC _ y.c _ cC x C _ w hT rfl hlC hC (Or.inl (by omega))
end Go.Proofs.YtgpcflpeddnfcaaDoor
