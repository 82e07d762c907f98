/-
  Keys: what Parse answers.
-/
import Derived.Test.YtdifkjmpdmlobaaDoorKy14
import Derived.Deep.RegionHeld3
set_option linter.unusedVariables false
set_option linter.unusedSimpArgs false
namespace Go.Proofs.YtdifkjmpdmlobaaDoor
set_option maxRecDepth 100000
open Go.RowKit
def PrPost (l : List UInt8) (w : World) (e : Ending) (w' : World) : Prop := e = .returned (.tuple #[kyV (prK l), .int .i64 (prE l)]) ∧ Below w.heap.size w w'
theorem kname_t (k : Ky) (w : World) (hK : KT w) (nm : ByteArray) (er : Int) (h1 : mkS (nmR k) = nm) (h2 : ckE k = er) : Calls Tryd.prog 101 #[.agg #[.int .i64 k.1, .int .i64 k.2.1, .string k.2.2.1, .bool k.2.2.2]] w fun e w' => e = .returned (.tuple #[.string nm, .int .i64 er]) ∧ Below w.heap.size w w' := by
  subst h1; subst h2; exact kname_any k w hK
theorem kkeyOf_t (s : ByteArray) (w : World) (hK : KT w) (hs : s.size ≤ 900000) (k : Ky) (h : kyOf s.data.toList = k) : Calls Tryd.prog 106 #[.string s] w fun e w' => e = .returned (.agg #[.int .i64 k.1, .int .i64 k.2.1, .string k.2.2.1, .bool k.2.2.2]) ∧ Below w.heap.size w w' := by
  subst h; exact kkeyOf_any s w hK hs
theorem pr_no {l : List UInt8} {w w' : World} (h : prOk l = false) (hb : Below w.heap.size w w') : PrPost l w (.returned (.tuple #[.agg #[.int .i64 0, .int .i64 0, .string ⟨#[]⟩, .bool false], .int .i64 6])) w' := by
  unfold PrPost prK prE; rw [h]; exact ⟨rfl, hb⟩
theorem pr_yes {l : List UInt8} {w w' : World} {k : Ky} (h : prOk l = true) (hk : kyOf l = k) (hb : Below w.heap.size w w') : PrPost l w (.returned (.tuple #[.agg #[.int .i64 k.1, .int .i64 k.2.1, .string k.2.2.1, .bool k.2.2.2], .int .i64 0])) w' := by
  unfold PrPost prK prE; rw [h, if_pos rfl, if_pos rfl, hk]; exact ⟨rfl, hb⟩
set_option maxHeartbeats 8000000 in
set_option maxRecDepth 100000 in
theorem kparse_any (s : ByteArray) (w : World) (hK : KT w) (hs : s.size ≤ 900000) : Calls Tryd.prog 85 #[.string s] w (PrPost s.data.toList w) := by
  have B0 := below_alloc w (.cells #[.int .i64 0, .int .i64 0, .string ⟨#[]⟩, .bool false] 107)
  have hq := heap_alloc_new w (.cells #[.int .i64 0, .int .i64 0, .string ⟨#[]⟩, .bool false] 107)
  obtain ⟨W0, hW0⟩ : ∃ W0, w.alloc (.cells #[.int .i64 0, .int .i64 0, .string ⟨#[]⟩, .bool false] 107) = W0 := ⟨_, rfl⟩
  rw [hW0] at B0 hq
  have HK := Lib.hid (hK.below B0)
  replace hq := Lib.hid hq
  obtain ⟨k, hk⟩ : ∃ k, kyOf s.data.toList = k := ⟨_, rfl⟩
  have KO := Lib.hid fun w hK => kkeyOf_t s w hK hs k hk
  clear hK
  have HN := fun h w' hb => pr_no (l := s.data.toList) (w := w) (w' := w') h hb
  have HY := fun h w' hb => pr_yes (l := s.data.toList) (w := w) (w' := w') h hk hb
  have ho : prOk s.data.toList = (keyB k && nmN k == s.data.toList) := by unfold prOk; rw [hk]
  rw [ho] at HN HY
  clear ho
  have NM := fun w hK nm er h1 h2 => kname_t k w hK nm er h1 h2
  cases hok : keyB k with
  | false =>
    have NM := Lib.hid fun w hK => NM w hK ⟨#[]⟩ 2 (by unfold nmR; rw [hok]; rfl) (ckE_no hok)
    have HP := Lib.hid (HN (by rw [hok]; rfl))
    clear HN HY hk hok
    go_enter Tryd.func85, Tryd.ntmps85
    go_upto_region 1 with fail
    clear hW0
    go_wp2_with (first
      | (go_at_call 106; refine (KO.out _ HK.out).mono ?_; rintro e w2 ⟨rfl, hb2⟩; have B2 := below_alloc w2 (.cells #[.int .i64 k.1, .int .i64 k.2.1, .string k.2.2.1, .bool k.2.2.2] 107); have hk2 := Lib.hid (heap_alloc_new w2 (.cells #[.int .i64 k.1, .int .i64 k.2.1, .string k.2.2.1, .bool k.2.2.2] 107)); have N2 := Lib.hid (seqB hb2 B2); have HK2 := Lib.hid (HK.out.below N2.out))
      | (go_at_call 101; refine (NM.out _ HK2.out).mono ?_; rintro e w3 ⟨rfl, hb3⟩; have N3 := Lib.hid (seqB N2.out hb3); have q3 := blk_below hq.out N3.out; have hk3 := blk_below hk2.out hb3; have yy := fun i => cell_of_row _ _ i _ _ _ hk3; have y0 := yy 0; have y1 := yy 1; have y2 := yy 2; have y3 := yy 3; dsimp at y0 y1 y2 y3; have zf := fun i => frozen_of_row _ w.heap.size i _ _ q3; have zz := fun i => cell_of_row _ _ i _ _ _ q3; have z0 := zz 0; have z1 := zz 1; have z2 := zz 2; have z3 := zz 3; dsimp at z0 z1 z2 z3; have NF := Lib.hid (four_below w3 w w.heap.size (.int .i64 0) (.int .i64 0) (.string ⟨#[]⟩) (.bool false) (Nat.le_refl _) (seqB B0 N3.out)); have hfin := Lib.hid (four_set q3 (.int .i64 0) (.int .i64 0) (.string ⟨#[]⟩) (.bool false)); clear zz yy q3 hk3))
    generalize hWF : World.setCell _ _ _ = WF
    have hqf : WF.heap[w.heap.size]? = some (.cells #[.int .i64 0, .int .i64 0, .string ⟨#[]⟩, .bool false] 107 (0, 0)) := by rw [← hWF]; exact hfin.out
    have hN : Below w.heap.size w WF := by rw [← hWF]; exact NF.out
    clear y0 y1 y2 y3
    have y := fun i => cell_of_row _ _ i _ _ _ hqf
    have y0 := y 0; have y1 := y 1; have y2 := y 2; have y3 := y 3
    dsimp at y0 y1 y2 y3
    clear y hqf hWF
    refine bodyPost_ret (v := .tuple #[.agg #[.int .i64 0, .int .i64 0, .string ⟨#[]⟩, .bool false], .int .i64 6]) (by simp [results, Tryd.results85, go_sem, y0, y1, y2, y3]) rfl ?_
    exact HP.out _ hN
  | true =>
    have NM := fun w hK => NM w hK (mkS (nmN k)) 0 (by unfold nmR; rw [hok]; rfl) (ckE_yes hok)
    by_cases he : mkS (nmN k) = s
    · have HP := Lib.hid (HY (by rw [hok, mkS_eq he]; simp))
      rw [he] at NM
      replace NM := Lib.hid NM
      clear HN HY hk hok he
      go_enter Tryd.func85, Tryd.ntmps85
      go_upto_region 1 with fail
      clear hW0
      go_wp2_with (first
        | (go_at_call 106; refine (KO.out _ HK.out).mono ?_; rintro e w2 ⟨rfl, hb2⟩; have B2 := below_alloc w2 (.cells #[.int .i64 k.1, .int .i64 k.2.1, .string k.2.2.1, .bool k.2.2.2] 107); have hk2 := Lib.hid (heap_alloc_new w2 (.cells #[.int .i64 k.1, .int .i64 k.2.1, .string k.2.2.1, .bool k.2.2.2] 107)); have N2 := Lib.hid (seqB hb2 B2); have HK2 := Lib.hid (HK.out.below N2.out))
        | (go_at_call 101; refine (NM.out _ HK2.out).mono ?_; rintro e w3 ⟨rfl, hb3⟩; have N3 := Lib.hid (seqB N2.out hb3); have q3 := blk_below hq.out N3.out; have hk3 := blk_below hk2.out hb3; have yy := fun i => cell_of_row _ _ i _ _ _ hk3; have y0 := yy 0; have y1 := yy 1; have y2 := yy 2; have y3 := yy 3; dsimp at y0 y1 y2 y3; have zf := fun i => frozen_of_row _ w.heap.size i _ _ q3; have zz := fun i => cell_of_row _ _ i _ _ _ q3; have z0 := zz 0; have z1 := zz 1; have z2 := zz 2; have z3 := zz 3; dsimp at z0 z1 z2 z3; have NF := Lib.hid (four_below w3 w w.heap.size (.int .i64 k.1) (.int .i64 k.2.1) (.string k.2.2.1) (.bool k.2.2.2) (Nat.le_refl _) (seqB B0 N3.out)); have hfin := Lib.hid (four_set q3 (.int .i64 k.1) (.int .i64 k.2.1) (.string k.2.2.1) (.bool k.2.2.2)); clear zz yy q3 hk3))
      generalize hWF : World.setCell _ _ _ = WF
      have hqf : WF.heap[w.heap.size]? = some (.cells #[.int .i64 k.1, .int .i64 k.2.1, .string k.2.2.1, .bool k.2.2.2] 107 (0, 0)) := by rw [← hWF]; exact hfin.out
      have hN : Below w.heap.size w WF := by rw [← hWF]; exact NF.out
      clear y0 y1 y2 y3
      have y := fun i => cell_of_row _ _ i _ _ _ hqf
      have y0 := y 0; have y1 := y 1; have y2 := y 2; have y3 := y 3
      dsimp at y0 y1 y2 y3
      clear y hqf hWF
      refine bodyPost_ret (v := .tuple #[.agg #[.int .i64 k.1, .int .i64 k.2.1, .string k.2.2.1, .bool k.2.2.2], .int .i64 0]) (by simp [results, Tryd.results85, go_sem, y0, y1, y2, y3]) rfl ?_
      exact HP.out _ hN
    · have HP := Lib.hid (HN (by rw [hok]; simp; intro h; exact he (by rw [h, mkS_of])))
      obtain ⟨s1, s2, s3⟩ := kstr_ne he
      generalize mkS (nmN k) = u at *
      replace NM := Lib.hid NM
      clear HN HY hk hok he
      go_enter Tryd.func85, Tryd.ntmps85
      go_upto_region 1 with fail
      clear hW0
      go_wp2_with (first
        | (go_at_call 106; refine (KO.out _ HK.out).mono ?_; rintro e w2 ⟨rfl, hb2⟩; have B2 := below_alloc w2 (.cells #[.int .i64 k.1, .int .i64 k.2.1, .string k.2.2.1, .bool k.2.2.2] 107); have hk2 := Lib.hid (heap_alloc_new w2 (.cells #[.int .i64 k.1, .int .i64 k.2.1, .string k.2.2.1, .bool k.2.2.2] 107)); have N2 := Lib.hid (seqB hb2 B2); have HK2 := Lib.hid (HK.out.below N2.out))
        | (go_at_call 101; refine (NM.out _ HK2.out).mono ?_; rintro e w3 ⟨rfl, hb3⟩; have N3 := Lib.hid (seqB N2.out hb3); have q3 := blk_below hq.out N3.out; have hk3 := blk_below hk2.out hb3; have yy := fun i => cell_of_row _ _ i _ _ _ hk3; have y0 := yy 0; have y1 := yy 1; have y2 := yy 2; have y3 := yy 3; dsimp at y0 y1 y2 y3; have zf := fun i => frozen_of_row _ w.heap.size i _ _ q3; have zz := fun i => cell_of_row _ _ i _ _ _ q3; have z0 := zz 0; have z1 := zz 1; have z2 := zz 2; have z3 := zz 3; dsimp at z0 z1 z2 z3; have NF := Lib.hid (four_below w3 w w.heap.size (.int .i64 0) (.int .i64 0) (.string ⟨#[]⟩) (.bool false) (Nat.le_refl _) (seqB B0 N3.out)); have hfin := Lib.hid (four_set q3 (.int .i64 0) (.int .i64 0) (.string ⟨#[]⟩) (.bool false)); clear zz yy q3 hk3))
      generalize hWF : World.setCell _ _ _ = WF
      have hqf : WF.heap[w.heap.size]? = some (.cells #[.int .i64 0, .int .i64 0, .string ⟨#[]⟩, .bool false] 107 (0, 0)) := by rw [← hWF]; exact hfin.out
      have hN : Below w.heap.size w WF := by rw [← hWF]; exact NF.out
      clear y0 y1 y2 y3
      have y := fun i => cell_of_row _ _ i _ _ _ hqf
      have y0 := y 0; have y1 := y 1; have y2 := y 2; have y3 := y 3
      dsimp at y0 y1 y2 y3
      clear y hqf hWF
      refine bodyPost_ret (v := .tuple #[.agg #[.int .i64 0, .int .i64 0, .string ⟨#[]⟩, .bool false], .int .i64 6]) (by simp [results, Tryd.results85, go_sem, y0, y1, y2, y3]) rfl ?_
      exact HP.out _ hN
end Go.Proofs.YtdifkjmpdmlobaaDoor
