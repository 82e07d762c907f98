/-
  Joined: Ev9 Ev10.
-/
import Derived.Test.YtldblffhkokhlaaDoorJV05
import Derived.Test.YtldblffhkokhlaaDoorJV09
import Derived.BigQuiet
set_option linter.unusedVariables false
set_option linter.unusedSimpArgs false
set_option maxRecDepth 100000
set_option linter.unusedVariables false
set_option linter.unusedSimpArgs false
namespace Go.Proofs.YtldblffhkokhlaaDoor
open Go.RowKit
set_option maxHeartbeats 8000000 in
set_option maxRecDepth 100000 in
theorem eparse_bad (s p q : List UInt8) (rs : List (List UInt8)) (w : World) (hT : UT w) (hK : EVT w) (hl : s.length ≤ 1000) (hP : pcB 9 s = p :: q :: rs) (hE : undE q ≠ 0) : Calls Tryd.prog 17 #[.string (mkL s)] w (EvPost (evR ugS s) w) := by
  have SP := splitb_any 9 s
  rw [hP] at SP
  have hqm : q.length ≤ s.length := pcB_mem 9 s q (by rw [hP]; simp)
  obtain ⟨n2, hn2⟩ : ∃ n, (p :: q :: rs).length = n := ⟨_, rfl⟩
  rw [hn2] at SP
  have hn2' : 2 ≤ n2 := by rw [← hn2, List.length_cons, List.length_cons]; omega
  have B0 := below_alloc w (.cells #[.int .i64 0, .slice none 0 0, .int .i64 0] 24)
  have hq := heap_alloc_new w (.cells #[.int .i64 0, .slice none 0 0, .int .i64 0] 24)
  obtain ⟨W0, hW0⟩ : ∃ W0, w.alloc (.cells #[.int .i64 0, .slice none 0 0, .int .i64 0] 24) = W0 := ⟨_, rfl⟩
  rw [hW0] at B0 hq
  have HQ := Lib.hid hq; have HB0 := Lib.hid B0; have HK0 := Lib.hid (hK.below B0)
  have HSP := Lib.hid fun (wx : World) => SP wx (by omega)
  have KO := Lib.hid fun (wx : World) (h : EVT wx) => kindof_any p wx h
  have UD : Hid (∀ wx : World, Calls Tryd.prog 52 #[.string (mkL q)] wx (UndPost q wx)) := Lib.hid fun wx => undec_any q wx (by omega)
  have hue : undE q = 6 := by rcases und_cases q with h | h; exact absurd h.1 hE; exact h.1
  unfold UndPost at UD
  rw [hue] at UD
  have HR := Lib.hid (evR_bad hP hE)
  have hb1 : (1 : Int) < (n2 : Int) := by omega
  have HN2 := Lib.hid hn2
  clear SP B0 hq hT hK hue hE hn2 hqm
  generalize undR q = uq at *
  go_enter Tryd.func17, Tryd.ntmps17
  go_upto_region 1 with fail
  clear hW0
  go_wp2_with (first
    | (go_at_call 50; refine (HSP.out _).mono ?_; rintro e w1 ⟨rfl, hpc, hb1⟩; have c0 := hpc.2 0 (Nat.succ_pos _); replace c0 : w1.cell? ⟨W0.heap.size, 0, none⟩ = some (.string (mkL p)) := c0; have HPC := Lib.hid hpc; have N1 := Lib.hid (seqB HB0.out hb1); have Q1 := Lib.hid (blk_below HQ.out hb1); have K1 := Lib.hid (HK0.out.below hb1); clear hpc hb1)
    | (go_at_call 51; refine (KO.out _ K1.out).mono ?_; rintro e w2 ⟨rfl, hb2⟩; have BA := below_alloc w2 (.cells #[.int .i64 (evKo p), .slice none 0 0, .int .i64 0] 24); have N2 := Lib.hid (seqB (seqB N1.out hb2) BA); have Q2 := Lib.hid (blk_below (blk_below Q1.out hb2) BA); have c1 := ((HPC.out.below hb2).below BA).2 1 (Nat.succ_lt_succ (Nat.succ_pos _)); replace c1 : (w2.alloc (.cells #[.int .i64 (evKo p), .slice none 0 0, .int .i64 0] 24)).cell? ⟨W0.heap.size, 1, none⟩ = some (.string (mkL q)) := c1; clear hb2 BA c0)
    | (go_at_call 52; refine (UD.out _).mono ?_; rintro e wz ⟨rfl, hbz⟩; have NZ := Lib.hid (seqB N2.out hbz); have RZ := Lib.hid (blk_below Q2.out hbz); have zz := fun i => frozen_of_row _ w.heap.size i _ _ RZ.out; have zy := fun i => cell_of_row _ _ i _ _ _ RZ.out; have x0 := zy 0; have x1 := zy 1; have x2 := zy 2; dsimp at x0 x1 x2; clear zy hbz c1))
  generalize hWF : World.setCell _ _ _ = WF
  have hqf : WF.heap[w.heap.size]? = some (.cells #[.int .i64 0, .slice none 0 0, .int .i64 0] 24 (0, 0)) := by rw [← hWF]; exact three_set RZ.out _ _ _
  have hN : Below w.heap.size w WF := by rw [← hWF]; exact three_below _ w w.heap.size _ _ _ (Nat.le_refl _) NZ.out
  have y := fun i => cell_of_row _ _ i _ _ _ hqf
  have y0 := y 0; have y1 := y 1; have y2 := y 2
  dsimp at y0 y1 y2
  clear y hqf hWF
  refine bodyPost_ret (v := .tuple #[.agg #[.int .i64 0, .slice none 0 0, .int .i64 0], .int .i64 10]) (by simp [results, Tryd.results17, go_sem, y0, y1, y2]) rfl ?_
  exact evpost_none HR.out hN
theorem wrap_id (x : Int) (h0 : -9223372036854775808 ≤ x) (h1 : x ≤ 9223372036854775807) : IntKind.i64.wrap x = x := by
  rw [IntKind.wrap_i64]; omega
theorem cut_two (w : World) (g m n2 : Nat) (hn : n2 = m + 2) : ∃ a, ((0 < m → a = some ⟨g, 2, none⟩) ∧ ∀ w, (Instr.slice 83 (.slice (some ⟨g, 0, none⟩) n2 n2) (some (.int .i64 2)) none none).run Tryd.prog w = .ok (.slice a m m) w) := by
  subst hn
  refine ⟨if m + 2 = 2 then some ⟨g, 0, none⟩ else (some (⟨g, 0, none⟩ : Addr)).map (·.add (2 * 1)), fun h => ?_, fun w => ?_⟩
  · rw [if_neg (by omega)]
    have hadd : (⟨g, 0, none⟩ : Addr).add (2 * 1) = ⟨g, 2, none⟩ := by unfold Addr.add; split <;> simp_all
    simp only [Option.map_some, hadd]
  · have := run_cutST w (some ⟨g, 0, none⟩) (m + 2) (m + 2) 2 (by omega)
    rw [Nat.add_sub_cancel] at this
    exact this
set_option maxHeartbeats 8000000 in
set_option maxRecDepth 100000 in
theorem eparse_many (s p q : List UInt8) (rs : List (List UInt8)) (w : World) (hT : UT w) (hK : EVT w) (hl : s.length ≤ 1000) (hP : pcB 9 s = p :: q :: rs) (hE : undE q = 0) : Calls Tryd.prog 17 #[.string (mkL s)] w (EvPost (evR ugS s) w) := by
  have SP := splitb_any 9 s
  rw [hP] at SP
  have hqm : q.length ≤ s.length := pcB_mem 9 s q (by rw [hP]; simp)
  have HRM : Hid (∀ r ∈ rs, r.length ≤ 1000) := Lib.hid fun r hr => Nat.le_trans (pcB_mem 9 s r (by rw [hP]; exact List.mem_cons_of_mem _ (List.mem_cons_of_mem _ hr))) hl
  obtain ⟨n2, hn2⟩ : ∃ n, (p :: q :: rs).length = n := ⟨_, rfl⟩
  rw [hn2] at SP
  have hn2' : n2 = rs.length + 2 := by rw [← hn2, List.length_cons, List.length_cons]
  have hrl : rs.length ≤ 1000 := by
    have := pcB_len 9 s
    rw [hP, hn2] at this
    omega
  have B0 := below_alloc w (.cells #[.int .i64 0, .slice none 0 0, .int .i64 0] 24)
  have hq := heap_alloc_new w (.cells #[.int .i64 0, .slice none 0 0, .int .i64 0] 24)
  obtain ⟨W0, hW0⟩ : ∃ W0, w.alloc (.cells #[.int .i64 0, .slice none 0 0, .int .i64 0] 24) = W0 := ⟨_, rfl⟩
  rw [hW0] at B0 hq
  have HQ := Lib.hid hq; have HB0 := Lib.hid B0; have HK0 := Lib.hid (hK.below B0); have HTw := Lib.hid hT
  have HSP := Lib.hid fun (wx : World) => SP wx (by omega)
  have KO := Lib.hid fun (wx : World) (h : EVT wx) => kindof_any p wx h
  have UD : Hid (∀ wx : World, Calls Tryd.prog 52 #[.string (mkL q)] wx (UndPost q wx)) := Lib.hid fun wx => undec_any q wx (by omega)
  unfold UndPost at UD
  rw [hE] at UD
  have HFL := Lib.hid fun i => fl9_s hP i
  have HRN := Lib.hid fun (i : Nat) (hi : i < rs.length) (he : rs.getD i [] = []) => evR_nil hP hi he
  have HRY := Lib.hid fun (hne : ∀ i, i < rs.length → rs.getD i [] ≠ []) => evR_many hP hE hne
  have hb1 : (1 : Int) < (n2 : Int) := by omega
  have HN2 := Lib.hid hn2'
  obtain ⟨ca, hca1, hcut⟩ := cut_two w W0.heap.size rs.length n2 hn2'
  have HCA := Lib.hid hca1
  have hHK := Lib.hid hK
  clear SP B0 hq hT hK hE hn2 hqm hn2' hca1
  generalize hX : undR q = X at *
  clear hX
  generalize hKK : evKo p = K at *
  clear hKK
  have hbq : Hid (w.heap.size < W0.heap.size) := Lib.hid (blk_lt HQ.out)
  go_enter Tryd.func17, Tryd.ntmps17
  go_upto_region 1 with fail
  clear hW0
  go_upto_region 9 with (first
    | (go_at_call 50; refine (HSP.out _).mono ?_; rintro e w1 ⟨rfl, hpc, hb1⟩; have c0 := hpc.2 0 (Nat.succ_pos _); replace c0 : w1.cell? ⟨W0.heap.size, 0, none⟩ = some (.string (mkL p)) := c0; have HPC := Lib.hid hpc; have N1 := Lib.hid (seqB HB0.out hb1); have Q1 := Lib.hid (blk_below HQ.out hb1); have K1 := Lib.hid (HK0.out.below hb1); clear hpc hb1)
    | (go_at_call 51; refine (KO.out _ K1.out).mono ?_; rintro e w2 ⟨rfl, hb2⟩; have BA := below_alloc w2 (.cells #[.int .i64 K, .slice none 0 0, .int .i64 0] 24); have N2 := Lib.hid (seqB (seqB N1.out hb2) BA); have Q2 := Lib.hid (blk_below (blk_below Q1.out hb2) BA); have P2 := Lib.hid ((HPC.out.below hb2).below BA); have c1 := P2.out.2 1 (Nat.succ_lt_succ (Nat.succ_pos _)); replace c1 : (w2.alloc (.cells #[.int .i64 K, .slice none 0 0, .int .i64 0] 24)).cell? ⟨W0.heap.size, 1, none⟩ = some (.string (mkL q)) := c1; have V2 := Lib.hid (heap_alloc_new w2 (.cells #[.int .i64 K, .slice none 0 0, .int .i64 0] 24)); have L2 := Lib.hid (Nat.lt_of_lt_of_le HPC.out.1 hb2.size); clear hb2 BA c0)
    | (go_at_call 52; refine (UD.out _).mono ?_; rintro e w3 ⟨rfl, hb3⟩; have N3 := Lib.hid (seqB N2.out hb3); have Q3 := Lib.hid (blk_below Q2.out hb3); have P3 := Lib.hid (P2.out.below hb3); have V3 := Lib.hid (blk_below V2.out hb3); have zf := frozen_of_row _ w2.heap.size 2 _ _ V3.out; have vy := fun i => cell_of_row _ _ i _ _ _ V3.out; have v2 := vy 2; dsimp at v2; clear vy hb3 c1))
  obtain ⟨vb, hvb⟩ : ∃ vb, w2.heap.size = vb := ⟨_, rfl⟩
  rw [hvb] at V3 v2 zf L2 ⊢
  have hwv : w.heap.size < vb := by have := hbq.out; have := L2.out; omega
  have V4 := blk_set V3.out 2 (.int .i64 X)
  have N4 := N3.out.setCell (p := ⟨vb, 2, none⟩) (show w.heap.size ≤ vb by omega) (.int .i64 X)
  have Q4 := (Below.heap_setCell w3 ⟨vb, 2, none⟩ (.int .i64 X) w.heap.size (show w.heap.size ≠ vb by omega)).trans Q3.out
  have hsz4 : (w3.setCell ⟨vb, 2, none⟩ (.int .i64 X)).heap.size = w3.heap.size := by simp [World.setCell]
  have P4 : PcI (w3.setCell ⟨vb, 2, none⟩ (.int .i64 X)) W0.heap.size (p :: q :: rs) := ⟨by rw [hsz4]; exact P3.out.1, fun i hi => (cell_blk (Below.heap_setCell w3 ⟨vb, 2, none⟩ (.int .i64 X) W0.heap.size (show W0.heap.size ≠ vb by have := L2.out; omega)) i).trans (P3.out.2 i hi)⟩
  obtain ⟨W4, hW4⟩ : ∃ W4, w3.setCell ⟨vb, 2, none⟩ (.int .i64 X) = W4 := ⟨_, rfl⟩
  rw [hW4] at V4 N4 Q4 P4 ⊢
  obtain ⟨g, hg⟩ : ∃ g, W0.heap.size = g := ⟨_, rfl⟩
  rw [hg] at P4 hcut HCA hbq L2 ⊢
  obtain ⟨B, hB⟩ : ∃ B, W4.heap.size = B := ⟨_, rfl⟩
  have PA : Hid (PaSt vb B K X ((rs.take 0).flatMap (rdP ugS)) W4) := Lib.hid ⟨⟨.slice none 0 0, V4, World.ownsRow_nil _ _ _ _⟩, by rw [← hB]; exact blk_lt V4, Nat.le_of_eq hB.symm⟩
  have KA : Hid (KeepB B vb W4 W4) := Lib.hid (KeepB.refl _ _ _)
  have PI := Lib.hid P4; have N4' := Lib.hid N4; have Q4' := Lib.hid Q4
  have hgB : Hid (g < B ∧ g ≠ vb ∧ w.heap.size < B ∧ w.heap.size ≠ vb ∧ w.heap.size ≤ B ∧ w.heap.size ≤ vb) := Lib.hid ⟨by rw [← hB]; exact P4.1, by have := L2.out; omega, by rw [← hB]; exact blk_lt Q4, by omega, by rw [← hB]; exact N4.size, by omega⟩
  have hgv := hgB.out.2.1
  clear V4 N4 Q4 P4 hsz4 hvb hW4 hg hB v2 zf V3 Q3 P3 N3 V2 Q2 P2 N2 HPC Q1 N1 K1 HQ HB0 HK0 L2 hbq hwv HSP KO UD
  go_loopw [37] (fun iv wr => ∃ i : Nat, i ≤ rs.length ∧ iv = .int .i64 (i : Int) ∧ Hid (PaSt vb B K X ((rs.take i).flatMap (rdP ugS)) wr) ∧ Hid (∀ j, j < i → rs.getD j [] ≠ []) ∧ Hid (KeepB B vb W4 wr)) (fun iv _ => rs.length - (intOf iv).toNat)
  case atStart => exact ⟨0, Nat.zero_le _, rfl, PA, Lib.hid (fun j hj => absurd hj (Nat.not_lt_zero j)), KA⟩
  case round =>
    obtain ⟨i, hi, rfl, HP, HNe, HK⟩ := hrel
    clear PA KA
    have HBw : Hid (Below w.heap.size w wr) := Lib.hid (below_keepB N4'.out HK.out hgB.out.2.2.2.2.1 hgB.out.2.2.2.2.2)
    have HRB : Hid (wr.heap[w.heap.size]? = some (.cells #[.int .i64 0, .slice none 0 0, .int .i64 0] 24 (0, 0))) := Lib.hid ((HK.out.block _ hgB.out.2.2.1 hgB.out.2.2.2.1).trans Q4'.out)
    by_cases hlt : i < rs.length
    · have hi1 : (i : Int) < (rs.length : Int) := by omega
      have hi0 : (0 : Int) ≤ (i : Int) := by omega
      obtain rfl := HCA.out (by omega)
      have cc : wr.cell? ⟨g, 2 + i, none⟩ = some (.string (mkL (rs.getD i []))) := by
        rw [cell_blk (HK.out.block g hgB.out.1 hgv) (2 + i), PI.out.2 (2 + i) (by rw [List.length_cons, List.length_cons]; omega)]
        congr 3
        rw [List.getD, List.getD, show 2 + i = i + 1 + 1 by omega, List.getElem?_cons_succ, List.getElem?_cons_succ]
      by_cases hz : rs.getD i [] = []
      · have HR := Lib.hid (HRN.out i hlt hz)
        rw [hz] at cc
        replace cc : wr.cell? ⟨g, 2 + i, none⟩ = some (.string ⟨#[]⟩) := cc
        have zz := fun i => frozen_of_row _ w.heap.size i _ _ HRB.out
        have zy := fun i => cell_of_row _ _ i _ _ _ HRB.out
        have x0 := zy 0; have x1 := zy 1; have x2 := zy 2
        dsimp at x0 x1 x2
        clear zy hz
        go_wp2_with fail
        generalize hWF : World.setCell _ _ _ = WF
        have hqf : WF.heap[w.heap.size]? = some (.cells #[.int .i64 0, .slice none 0 0, .int .i64 0] 24 (0, 0)) := by rw [← hWF]; exact three_set HRB.out _ _ _
        have hN : Below w.heap.size w WF := by rw [← hWF]; exact three_below _ w w.heap.size _ _ _ (Nat.le_refl _) HBw.out
        have y := fun i => cell_of_row _ _ i _ _ _ hqf
        have y0 := y 0; have y1 := y 1; have y2 := y 2
        dsimp at y0 y1 y2
        clear y hqf hWF
        refine bodyPost_ret (v := .tuple #[.agg #[.int .i64 0, .slice none 0 0, .int .i64 0], .int .i64 10]) (by simp [results, Tryd.results17, go_sem, y0, y1, y2]) rfl ?_
        exact evpost_none HR.out hN
      · have hmem : rs.getD i [] ∈ rs := by rw [List.getD, List.getElem?_eq_getElem hlt]; exact List.getElem_mem hlt
        have hql := HRM.out _ hmem
        have HT1 := Lib.hid (rd_take rs i hlt)
        have HNe1 : Hid (∀ j, j < i + 1 → rs.getD j [] ≠ []) := Lib.hid fun j hj => by
          by_cases e : j = i
          · rw [e]; exact hz
          · exact HNe.out j (by omega)
        have hfi := HFL.out i
        have hfi1 := HFL.out (i + 1)
        rw [HT1.out, List.length_append] at hfi1
        have hrd : rdP ugS (rs.getD i []) = (hsL (ugS ((rs.getD i []).drop 1) (rs.getD i []).length)).map fun p => (p.1, (((rs.getD i []).headD 0).toNat : Int) - 48) := by
          unfold rdP hsL
          rw [List.map_map]; rfl
        rw [hrd] at HT1 hfi1
        have hlt8 : ((rs.getD i []).headD 0).toNat < 256 := UInt8.toNat_lt _
        have UN := Lib.hid fun (wx : World) (h : UT wx) => unline_gen ((rs.getD i []).drop 1) (rs.getD i []).length wx h (by rw [List.length_drop]; omega) (by omega)
        have hix : ∀ wx, (Instr.index 9 (.string (mkL (rs.getD i []))) (.int .i64 0)).run Tryd.prog wx = .ok (.int .u8 (((rs.getD i []).headD 0).toNat : Int)) wx := fun wx => by
          obtain ⟨c0, r0, he⟩ : ∃ c r, rs.getD i [] = c :: r := by
            cases hh : rs.getD i [] with
            | nil => exact absurd hh hz
            | cons c r => exact ⟨c, r, rfl⟩
          rw [he]
          rw [run_index_string (P := Tryd.prog) wx 9 (mkL (c0 :: r0)) .i64 0 Tryd.underlying9, dif_pos ⟨Int.le_refl 0, by rw [mkL_size, List.length_cons]; omega⟩]
          rfl
        have hsl : ∀ wx, (Instr.slice 9 (.string (mkL (rs.getD i []))) (some (.int .i64 1)) none none).run Tryd.prog wx = .ok (.string (mkL ((rs.getD i []).drop 1))) wx := fun wx => by
          have h1 : 1 ≤ (rs.getD i []).length := List.length_pos_iff.2 hz
          rw [run_slice_string_l (P := Tryd.prog) wx 9 (mkL (rs.getD i [])) Tryd.underlying9 .i64 1 (by omega) (by rw [mkL_size]; omega)]
          rw [show (1 : Int).toNat = 1 from rfl, mkL_ext, mkL_size, List.take_of_length_le (by rw [List.length_drop]; exact Nat.le_refl _)]
        obtain ⟨hne1, hne2, hne3⟩ := estr_ne (s := mkL (rs.getD i [])) (t := ⟨#[]⟩) (fun e => hz (mkL_inj e))
        have hie : (mkL (rs.getD i [])).toList.isEmpty = false := by
          cases hh : (mkL (rs.getD i [])).toList with
          | nil => rw [hh] at hne3; exact absurd (by rw [ByteArray.toList_eq]) hne3
          | cons c r => rfl
        have hszS : (rs.getD i []).length = (mkL (rs.getD i [])).size := (mkL_size _).symm
        rw [hszS] at UN HT1 hrd hfi1
        obtain ⟨x, hx, ho⟩ := HP.out.v
        obtain ⟨np, hnp⟩ : ∃ np, ((rs.take i).flatMap (rdP ugS)).length = np := ⟨_, rfl⟩
        obtain ⟨sa, sc, rfl⟩ := ho.form hnp
        obtain ⟨m, hm⟩ : ∃ m, (hsL (ugS ((rs.getD i []).drop 1) (mkL (rs.getD i [])).size)).length = m := ⟨_, rfl⟩
        have hm1 : m ≤ 1000 := by rw [← hm, hsL_len]; exact Nat.le_trans (ugS_len _ _) (by rw [mkL_size]; exact hql)
        have hnp1 : np ≤ 1000 := by omega
        have WI := Lib.hid fun (ax : Option Addr) (cx : Nat) (u : Int) (wx : World) (h : Signs wx ax (hsL (ugS ((rs.getD i []).drop 1) (mkL (rs.getD i [])).size))) => with_any (hsL (ugS ((rs.getD i []).drop 1) (mkL (rs.getD i [])).size)) ax cx u wx (by omega) h
        rw [hm] at WI
        generalize hgl : hsL (ugS ((rs.getD i []).drop 1) (mkL (rs.getD i [])).size) = gl at *
        generalize mkL ((rs.getD i []).drop 1) = tl at *
        generalize mkL (rs.getD i []) = S at *
        generalize ((rs.getD i []).headD 0).toNat = hd at *
        generalize hfl : (rs.take i).flatMap (rdP ugS) = fl at *
        have HM := Lib.hid hm; have HNP := Lib.hid hnp
        have yv := fun i => cell_of_row _ _ i _ _ _ hx
        have y1 := yv 1
        dsimp at y1
        have HX := Lib.hid hx; have HO := Lib.hid ho
        have HTr := Lib.hid (HTw.out.below HBw.out)
        have HW3 : Hid (IntKind.i64.wrap (IntKind.i64.wrap (hd : Int) - 48) = (hd : Int) - 48) := Lib.hid (by rw [wrap_id (hd : Int) (by omega) (by omega), wrap_id _ (by omega) (by omega)])
        clear hgl hfl hmem hql hz hfi hfi1 hrd hszS hm hnp hx ho yv
        go_upto_region 13 with fail
        have D0 : Below wr.heap.size wr wr.drew := (Below.refl _ wr).drew
        have T0 := Lib.hid (HTr.out.below D0)
        have d1 : wr.drew.cell? ⟨vb, 1, none⟩ = some (.slice sa np sc) := y1
        have HD0 := Lib.hid D0
        have HPl := Lib.hid HP.out.le
        have hbnd : np + m ≤ 1000000 := by omega
        have HB1 := Lib.hid hbnd
        clear D0 cc hne1 hne2 hne3 hie
        go_region_law (first
          | (go_simp; go_at_call 54; refine (UN.out _ T0.out).mono ?_; rintro e wa ⟨xu, rfl, hou, hba⟩; obtain ⟨ua, uc, rfl⟩ := hou.form HM.out; have Da := Lib.hid (HD0.out.trans hba); have Oa := Lib.hid (own_below HO.out Da.out); have Xa := Lib.hid (blk_below HX.out Da.out); have Sa : Hid (Signs wa ua gl) := Lib.hid (by obtain ⟨a', c', e', h'⟩ := hou.sl; injection e' with e1 e2 e3; rw [e1]; exact h'.s); have a1 := cell_of_row _ _ 1 _ _ _ Xa.out; dsimp at a1; clear hou hba)
          | (go_simp; go_at_call 53; refine (WI.out ua uc _ _ Sa.out).mono ?_; rintro e wb ⟨rfl, hblk, hbb⟩; (try rw [HW3.out] at hblk); have Db := Lib.hid (seqB Da.out hbb); have Ob := Lib.hid (own_below Oa.out hbb); have Xb := Lib.hid (blk_below Xa.out hbb); have Sb := Lib.hid (signs_of_blk hblk); have Pb := Lib.hid (HP.out.below Db.out); have b1 := cell_of_row _ _ 1 _ _ _ Xb.out; dsimp at b1; clear hblk hbb a1)
          | (refine step_app_signs (by rfl) _ _ (by rfl) B (.slice sa np sc) np fl (by rfl) HNP.out Ob.out (some ⟨wa.heap.size, 0, none⟩) m m (gl.map fun p => (p.1, (hd : Int) - 48)) (by rfl) (by rw [List.length_map]; exact HM.out) Sb.out (fun e => (by cases e)) HB1.out Pb.out.le ?_
             intro ad5 c5 w5 o5 g5
             have FF := Lib.hid (past_next Pb.out Ob.out (o5 : OwS _ _ _ _) g5)
             have X5 := (g5.block vb (blk_lt Xb.out) (ows_ge Ob.out Pb.out.lt)).trans Xb.out
             have zf := frozen_of_row _ vb 1 _ _ X5
             have z1 := cell_of_row _ _ 1 _ _ _ X5
             dsimp at z1
             clear o5 g5 X5))
        all_goals
          clear HX HO UN WI hix hsl y1 d1 z1 zf b1 Oa Xa Sa Da Ob Xb Sb T0 HTr
          go_wp2_with fail
          go_roundw
          case rel => exact ⟨i + 1, by omega, by go_num, Lib.hid (by rw [HT1.out]; exact FF.out.1), HNe1, Lib.hid ((HK.out.trans (KeepB.below Db.out HPl.out)).trans FF.out.2)⟩
          case measure => (simp [intOf]; try omega)
    · obtain rfl : i = rs.length := by omega
      rw [List.take_length] at HP
      obtain ⟨x, hx, ho⟩ := HP.out.v
      obtain ⟨n, hn⟩ : ∃ n, (rs.flatMap (rdP ugS)).length = n := ⟨_, rfl⟩
      have hfn := HFL.out rs.length
      rw [List.take_length, hn] at hfn
      have hn1000 : n ≤ 1000 := by omega
      obtain ⟨a, c, rfl, hsl⟩ := ho.sl
      rw [hn] at hx
      have hnc : n ≤ c := by rw [← hn]; exact hsl.le
      have HVB := Lib.hid hx
      have HNb := HBw
      have HKt := Lib.hid (hHK.out.below HBw.out)
      have HL := Lib.hid hn
      have HSG := Lib.hid hsl.s
      have HOW : Hid (OwS wr w.heap.size (.slice a n c) (rs.flatMap (rdP ugS))) := Lib.hid (by rw [← hn]; exact World.ownsRow.mono ho hgB.out.2.2.2.2.1)
      have HEV := HRY.out HNe.out
      have hkl : ¬ (rs.length : Int) < (rs.length : Int) := by omega
      clear hx ho hsl hn hfn HP HNe HK HFL HRN HRY HRM
      generalize rs.flatMap (rdP ugS) = L at *
      have TX := etext_any K L X n a c wr HL.out HKt.out (by have := hn1000; omega) hnc HSG.out
      have yv := fun i => cell_of_row _ _ i _ _ _ HVB.out
      have y0 := yv 0; have y1 := yv 1; have y2 := yv 2
      dsimp at y0 y1 y2
      clear yv
      cases hmay : evMay (K, L, X)
      · rw [evE_no hmay, hmay, if_neg (by decide)] at TX
        rw [hmay] at HEV
        have HR : Hid (evR ugS s = none) := Lib.hid (by rw [HEV]; rfl)
        replace TX := Lib.hid TX
        clear HEV hmay
        go_wp2_with (go_at_call 12; refine TX.out.mono ?_; rintro e wz ⟨rfl, hbz⟩; have NZ := Lib.hid (seqB HNb.out hbz); have RZ := Lib.hid (blk_below HRB.out hbz); have zz := fun i => frozen_of_row _ w.heap.size i _ _ RZ.out; have zy := fun i => cell_of_row _ _ i _ _ _ RZ.out; have x0 := zy 0; have x1 := zy 1; have x2 := zy 2; dsimp at x0 x1 x2; clear zy hbz)
        generalize hWF : World.setCell _ _ _ = WF
        have hqf : WF.heap[w.heap.size]? = some (.cells #[.int .i64 0, .slice none 0 0, .int .i64 0] 24 (0, 0)) := by rw [← hWF]; exact three_set RZ.out _ _ _
        have hN : Below w.heap.size w WF := by rw [← hWF]; exact three_below _ w w.heap.size _ _ _ (Nat.le_refl _) NZ.out
        have y := fun i => cell_of_row _ _ i _ _ _ hqf
        have y0 := y 0; have y1 := y 1; have y2 := y 2
        dsimp at y0 y1 y2
        clear y hqf hWF
        refine bodyPost_ret (v := .tuple #[.agg #[.int .i64 0, .slice none 0 0, .int .i64 0], .int .i64 10]) (by simp [results, Tryd.results17, go_sem, y0, y1, y2]) rfl ?_
        exact evpost_none HR.out hN
      · rw [evE_yes hmay, hmay, if_pos rfl] at TX
        rw [hmay] at HEV
        by_cases hs : evT (K, L, X) = s
        · have HR : Hid (evR ugS s = some (K, L, X)) := Lib.hid (by rw [HEV, decide_eq_true hs]; rfl)
          rw [hs] at TX
          replace TX := Lib.hid TX
          clear HEV hmay hs
          generalize hS : mkL s = S at *
          clear hS
          have hSS : (S.toList != S.toList) = false := by simp
          go_wp2_with (go_at_call 12; refine TX.out.mono ?_; rintro e wz ⟨rfl, hbz⟩; have NZ := Lib.hid (seqB HNb.out hbz); have RZ := Lib.hid (blk_below HRB.out hbz); have SZ := Lib.hid (own_below HOW.out hbz); have zz := fun i => frozen_of_row _ w.heap.size i _ _ RZ.out; have zy := fun i => cell_of_row _ _ i _ _ _ RZ.out; have x0 := zy 0; have x1 := zy 1; have x2 := zy 2; dsimp at x0 x1 x2; have vy := fun i => cell_of_row _ _ i _ _ _ (blk_below HVB.out hbz); have v0 := vy 0; have v1 := vy 1; have v2 := vy 2; dsimp at v0 v1 v2; clear zy vy hbz y0 y1 y2)
          generalize hWF : World.setCell _ _ _ = WF
          have hqf : WF.heap[w.heap.size]? = some (.cells #[.int .i64 (K), .slice a n c, .int .i64 (X)] 24 (0, 0)) := by rw [← hWF]; exact three_set RZ.out _ _ _
          have hN : Below w.heap.size w WF := by rw [← hWF]; exact three_below _ w w.heap.size _ _ _ (Nat.le_refl _) NZ.out
          have hSF : OwS WF w.heap.size (.slice a n c) (L) := by rw [← hWF]; exact own_set3 RZ.out SZ.out _ _ _
          have y := fun i => cell_of_row _ _ i _ _ _ hqf
          have y0 := y 0; have y1 := y 1; have y2 := y 2
          dsimp at y0 y1 y2
          clear y hqf hWF
          refine bodyPost_ret (v := .tuple #[.agg #[.int .i64 (K), .slice a n c, .int .i64 (X)], .int .i64 0]) (by simp [results, Tryd.results17, go_sem, y0, y1, y2]) rfl ?_
          exact evpost_some HR.out HL.out hSF hN
        · have HR : Hid (evR ugS s = none) := Lib.hid (by rw [HEV, decide_eq_false hs]; rfl)
          obtain ⟨hne1, hne2, hne3⟩ := estr_ne (s := mkL (evT (K, L, X))) (t := mkL s) (fun e => hs (mkL_inj e))
          generalize mkL (evT (K, L, X)) = T at *
          generalize hS : mkL s = S at *
          replace TX := Lib.hid TX
          clear HEV hmay hs hS
          go_wp2_with (go_at_call 12; refine TX.out.mono ?_; rintro e wz ⟨rfl, hbz⟩; have NZ := Lib.hid (seqB HNb.out hbz); have RZ := Lib.hid (blk_below HRB.out hbz); have zz := fun i => frozen_of_row _ w.heap.size i _ _ RZ.out; have zy := fun i => cell_of_row _ _ i _ _ _ RZ.out; have x0 := zy 0; have x1 := zy 1; have x2 := zy 2; dsimp at x0 x1 x2; clear zy hbz y0 y1 y2)
          generalize hWF : World.setCell _ _ _ = WF
          have hqf : WF.heap[w.heap.size]? = some (.cells #[.int .i64 0, .slice none 0 0, .int .i64 0] 24 (0, 0)) := by rw [← hWF]; exact three_set RZ.out _ _ _
          have hN : Below w.heap.size w WF := by rw [← hWF]; exact three_below _ w w.heap.size _ _ _ (Nat.le_refl _) NZ.out
          have y := fun i => cell_of_row _ _ i _ _ _ hqf
          have y0 := y 0; have y1 := y 1; have y2 := y 2
          dsimp at y0 y1 y2
          clear y hqf hWF
          refine bodyPost_ret (v := .tuple #[.agg #[.int .i64 0, .slice none 0 0, .int .i64 0], .int .i64 10]) (by simp [results, Tryd.results17, go_sem, y0, y1, y2]) rfl ?_
          exact evpost_none HR.out hN

end Go.Proofs.YtldblffhkokhlaaDoor
set_option linter.unusedVariables false
set_option linter.unusedSimpArgs false
namespace Go.Proofs.YtldblffhkokhlaaDoor
open Go.RowKit
set_option maxHeartbeats 1000000 in
theorem eq1_any (v u x y : Int) (w : World) : Calls Tryd.prog 44 #[.agg #[.int .i64 v, .int .i64 u], .agg #[.int .i64 x, .int .i64 y]] w fun e w' => e = .returned (.bool (decide ((v, u) = (x, y)))) ∧ Below w.heap.size w w' := by
  have hb := seqB (below_alloc w (.cells #[.int .i64 v, .int .i64 u] 77)) (below_alloc _ (.cells #[.int .i64 x, .int .i64 y] 77))
  by_cases h1 : v = x
  · by_cases h2 : u = y
    · have e : Hid (decide ((v, u) = (x, y)) = true) := Lib.hid (by rw [h1, h2]; simp)
      have b1 : (v == x) = true := by rw [h1]; simp
      have b2 : (u == y) = true := by rw [h2]; simp
      rw [e.out]
      clear h1 h2 e
      go_enter Tryd.func44, Tryd.ntmps44
      go_wp2
      go_ret
      exact ⟨rfl, hb⟩
    · have e : Hid (decide ((v, u) = (x, y)) = false) := Lib.hid (by simp; intro _; exact h2)
      have b1 : (v == x) = true := by rw [h1]; simp
      have b2 : (u == y) = false := by simpa using h2
      rw [e.out]
      clear h1 h2 e
      go_enter Tryd.func44, Tryd.ntmps44
      go_wp2
      go_ret
      exact ⟨rfl, hb⟩
  · have e : Hid (decide ((v, u) = (x, y)) = false) := Lib.hid (by simp; intro h; exact absurd h h1)
    have b1 : (v == x) = false := by simpa using h1
    rw [e.out]
    clear h1 e
    go_enter Tryd.func44, Tryd.ntmps44
    go_wp2
    go_ret
    exact ⟨rfl, hb⟩
set_option maxRecDepth 100000 in
set_option maxHeartbeats 4000000 in
theorem sls_any (x y : List (Int × Int)) (a b : Option Addr) (c d : Nat) (w : World) (hx : x.length ≤ 9223372036854775807) (hy : y.length ≤ 9223372036854775807) (ha : Signs w a x) (hb : Signs w b y) :
    Calls Tryd.prog 47 #[.slice a x.length c, .slice b y.length d, .func (.func 44) #[] #[]] w fun e w' => e = .returned (.bool (sgS x y)) ∧ Below w.heap.size w w' := by
  have HA := Lib.hid ha; have HB := Lib.hid hb; clear ha hb
  by_cases hl : x.length = y.length
  · have hln : ((x.length : Int) != (y.length : Int)) = false := by rw [hl]; simp
    have Hl := Lib.hid hl
    have hyl : y.length ≤ x.length ∧ x.length ≤ y.length := by omega
    clear hl
    go_enter Tryd.func47, Tryd.ntmps47
    go_wp2
    go_loopw [16] (fun iv wr => ∃ k : Nat, k ≤ x.length ∧ iv = .int .i64 (k : Int) ∧ Hid (∀ j, j < k → x.getD j (0, 0) = y.getD j (0, 0)) ∧ Below w.heap.size w wr) (fun iv _ => x.length - (intOf iv).toNat)
    case atStart => exact ⟨0, Nat.zero_le _, rfl, Lib.hid (fun j hj => absurd hj (by omega)), Below.refl _ _⟩
    case round =>
      obtain ⟨k, hk, rfl, hall, hbl⟩ := hrel
      by_cases hlt : k < x.length
      · obtain ⟨b1, o1, rfl, hb1, c1, c2⟩ := (HA.out.below hbl) k hlt
        obtain ⟨b2, o2, rfl, hb2, d1, d2⟩ := (HB.out.below hbl) k (by omega)
        have hk1 : (k : Int) < x.length := by omega
        have hk2 : (k : Int) < y.length := by omega
        have hk0 : (0 : Int) ≤ k := by omega
        have hne := sgS_no (a := x) (b := y) (k := k)
        obtain ⟨v, u, hp⟩ : ∃ v u, x.getD k (0, 0) = (v, u) := ⟨_, _, rfl⟩
        obtain ⟨v', u', hq⟩ : ∃ v u, y.getD k (0, 0) = (v, u) := ⟨_, _, rfl⟩
        rw [hp] at c1 c2; rw [hq] at d1 d2
        rw [hp, hq] at hne
        have S := Lib.hid fun w => eq1_any v u v' u' w
        have BA := below_alloc wr (.cells #[.int .i64 v, .int .i64 u] 77)
        have q0 := cell_of_row _ _ 0 _ _ _ (heap_alloc_new wr (.cells #[.int .i64 v, .int .i64 u] 77))
        have q1 := cell_of_row _ _ 1 _ _ _ (heap_alloc_new wr (.cells #[.int .i64 v, .int .i64 u] 77))
        have e1 := (BA.cell (p := ⟨b2, o2 + k * 2, none⟩) hb2).trans d1
        have e2 := (BA.cell (p := ⟨b2, o2 + k * 2 + 1, none⟩) hb2).trans d2
        dsimp at q0 q1
        have N1 := Lib.hid (hbl.trans (BA.mono hbl.size)).drew
        go_upto_region 6 with fail
        clear c1 c2 d1 d2 hb1 hb2 BA
        obtain ⟨W, hW⟩ : ∃ W, wr.alloc (.cells #[.int .i64 v, .int .i64 u] 77) = W := ⟨_, rfl⟩
        obtain ⟨r, hr⟩ : ∃ r, wr.heap.size = r := ⟨_, rfl⟩
        rw [hr] at q0 q1 ⊢
        rw [hW] at q0 q1 e1 e2 N1 ⊢
        clear hW hr
        replace q0 : W.drew.cell? ⟨r, 0, none⟩ = some (.int .i64 v) := q0
        replace q1 : W.drew.cell? ⟨r, 1, none⟩ = some (.int .i64 u) := q1
        replace e1 : W.drew.cell? ⟨b2, o2 + k * 2, none⟩ = some (.int .i64 v') := e1
        replace e2 : W.drew.cell? ⟨b2, o2 + k * 2 + 1, none⟩ = some (.int .i64 u') := e2
        have HC4 : Hid (∀ w', Below W.drew.heap.size W.drew w' → w'.cell? ⟨r, 0, none⟩ = some (.int .i64 v) ∧ w'.cell? ⟨r, 1, none⟩ = some (.int .i64 u) ∧ w'.cell? ⟨b2, o2 + k * 2, none⟩ = some (.int .i64 v') ∧ w'.cell? ⟨b2, o2 + k * 2 + 1, none⟩ = some (.int .i64 u')) := Lib.hid fun w' hb => ⟨(hb.cell (block_lt_of_cell q0)).trans q0, (hb.cell (block_lt_of_cell q1)).trans q1, (hb.cell (block_lt_of_cell e1)).trans e1, (hb.cell (block_lt_of_cell e2)).trans e2⟩
        cases he : decide ((v, u) = (v', u'))
        · rw [he] at S
          have HF : Hid (sgS x y = false) := Lib.hid (hne (by simpa using he))
          clear hne he hp hq
          go_region_held3 (fun w' => w'.cell? ⟨r, 0, none⟩ = some (.int .i64 v) ∧ w'.cell? ⟨r, 1, none⟩ = some (.int .i64 u) ∧ w'.cell? ⟨b2, o2 + k * 2, none⟩ = some (.int .i64 v') ∧ w'.cell? ⟨b2, o2 + k * 2 + 1, none⟩ = some (.int .i64 u')) (first | exact ⟨q0, q1, e1, e2⟩ | exact C4 | go_keep)
            (first | (go_at_call 44; refine (S.out _).mono ?_; rintro e w1 ⟨rfl, hb3⟩; have N3 := Lib.hid (seqB N1.out hb3); have C4 := HC4.out _ hb3; clear hb3))
          all_goals go_wp2
          all_goals go_ret
          all_goals rw [HF.out]
          all_goals exact ⟨rfl, N3.out⟩
        · rw [he] at S
          have HF : Hid (∀ j, j < k + 1 → x.getD j (0, 0) = y.getD j (0, 0)) := Lib.hid (by
            intro j hj
            rcases Nat.lt_succ_iff_lt_or_eq.1 hj with h | rfl
            · exact hall.out j h
            · rw [hp, hq]; simpa using he)
          clear hne he hp hq
          go_region_held3 (fun w' => w'.cell? ⟨r, 0, none⟩ = some (.int .i64 v) ∧ w'.cell? ⟨r, 1, none⟩ = some (.int .i64 u) ∧ w'.cell? ⟨b2, o2 + k * 2, none⟩ = some (.int .i64 v') ∧ w'.cell? ⟨b2, o2 + k * 2 + 1, none⟩ = some (.int .i64 u')) (first | exact ⟨q0, q1, e1, e2⟩ | exact C4 | go_keep)
            (first | (go_at_call 44; refine (S.out _).mono ?_; rintro e w1 ⟨rfl, hb3⟩; have N3 := Lib.hid (seqB N1.out hb3); have C4 := HC4.out _ hb3; clear hb3))
          all_goals
            go_wp2
            go_roundw
            case rel => exact ⟨k + 1, by omega, by go_num, HF, N3.out⟩
            case measure => (simp [intOf]; try omega)
      · obtain rfl : k = x.length := by omega
        have HF : Hid (sgS x y = true) := Lib.hid (sgS_yes Hl.out hall.out)
        go_wp2
        go_ret
        rw [HF.out]
        exact ⟨rfl, hbl⟩
  · have hln : ((x.length : Int) != (y.length : Int)) = true := by rw [bne_iff_ne]; omega
    have HF : Hid (sgS x y = false) := Lib.hid (sgS_len hl)
    go_enter Tryd.func47, Tryd.ntmps47
    go_wp2
    go_ret
    rw [HF.out]
    exact ⟨rfl, Below.refl _ _⟩
end Go.Proofs.YtldblffhkokhlaaDoor
