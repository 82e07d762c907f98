import Derived.Test.YtecffaidpiadoaaDoorSg6
set_option linter.unusedVariables false
set_option linter.unusedSimpArgs false
namespace Go.Proofs.YtecffaidpiadoaaDoor
open Go.RowKit
theorem infoRun : (Tryd.prog.info? 42).map (fun i => (i.zero, i.size, i.bytes)) = some (some (.agg #[.int .i64 0, .int .i64 0, .int .i64 0]), 3, 24) := by kernel_rfl
/-- Runs' cells. -/
def rCells (R : List Rn) : List Value := R.flatMap fun p => [Value.int .i64 p.1, Value.int .i64 p.2.1, Value.int .i64 p.2.2]
theorem rCells_len (R : List Rn) : (rCells R).length = R.length * 3 := by
  unfold rCells; induction R with
  | nil => rfl
  | cons x R ih => simp only [List.flatMap_cons, List.length_append, List.length_cons, List.length_nil, ih]; omega
theorem rCells_at (R : List Rn) : ∀ i, i < R.length → (rCells R)[i * 3]? = some (.int .i64 (R.getD i (0, 0, 0)).1) ∧ (rCells R)[i * 3 + 1]? = some (.int .i64 (R.getD i (0, 0, 0)).2.1) ∧ (rCells R)[i * 3 + 2]? = some (.int .i64 (R.getD i (0, 0, 0)).2.2) := by
  induction R with
  | nil => intro i hi; simp at hi
  | cons x L ih =>
    intro i hi
    cases i with
    | zero => exact ⟨rfl, rfl, rfl⟩
    | succ i =>
      have h := ih i (by simpa using hi)
      rw [show (i + 1) * 3 = i * 3 + 1 + 1 + 1 by omega]
      exact h
theorem rCells_snoc (R : List Rn) (x : Rn) : rCells (R ++ [x]) = rCells R ++ [.int .i64 x.1, .int .i64 x.2.1, .int .i64 x.2.2] := by simp [rCells]
theorem rCells_set (R : List Rn) (k : Nat) (h : k < R.length) (y : Int) : (rCells R).set (k * 3 + 2) (.int .i64 y) = rCells (R.set k ((R.getD k (0, 0, 0)).1, (R.getD k (0, 0, 0)).2.1, y)) := by
  unfold rCells
  induction R generalizing k with
  | nil => simp at h
  | cons x L ih =>
    cases k with
    | zero => rfl
    | succ k =>
      have := ih k (by simpa using h)
      rw [show (k + 1) * 3 + 2 = k * 3 + 2 + 1 + 1 + 1 by omega]
      simp only [List.flatMap_cons, List.cons_append, List.nil_append, List.set_cons_succ]
      rw [this]; rfl
/-- A row of runs of the call's own. -/
def ownR (w : World) (B : Nat) (v : Value) (R : List Rn) : Prop := w.ownsRow B 42 3 v R.length (rCells R)
theorem rn_len (l : List (Int × Int)) (k : Nat) (h : k ≤ l.length) : (rnM l k).length ≤ k := (rn_ok l k h).len
theorem rnStep_set (R : List Rn) (u i : Int) : (R ++ [(u, i, 0)]).set (R.length + 1 - 1) (u, i, i + 1) = R ++ [(u, i, i + 1)] := by
  rw [Nat.add_sub_cancel, List.set_append_right _ _ (Nat.le_refl _), Nat.sub_self]; rfl
theorem app_cells {w : World} {h : Nat} {L : List Value} {t : TypeId} (hh : w.heap.size = h) {j : Nat} {x : Value} (hj : L[j]? = some x) : (w.alloc (.cells L.toArray t)).cell? ((⟨h, 0, none⟩ : Addr).add j) = some x := by
  subst hh
  have hadd : (⟨w.heap.size, 0, none⟩ : Addr).add j = ⟨w.heap.size, 0 + j, none⟩ := by unfold Addr.add; split <;> simp_all
  rw [hadd, World.cell?_alloc_new, Nat.zero_add, List.getElem?_toArray]; exact hj
set_option maxRecDepth 100000 in
set_option maxHeartbeats 2000000 in
theorem runs_any (l : List (Int × Int)) (a : Option Addr) (c : Nat) (w : World) (hl : l.length ≤ 1000000) (hs : Signs w a l) :
    Calls Tryd.prog 35 #[.slice a l.length c] w fun e w' => ∃ v, e = .returned v ∧ ownR w' w.heap.size v (rnM l l.length) ∧ Below w.heap.size w w' := by
  obtain ⟨i0, hi, hz0, hz1, hz2⟩ := info_parts infoRun
  have HS := Lib.hid hs; clear hs
  go_enter Tryd.func35, Tryd.ntmps35
  go_wp2
  go_loopw [3, 8] (fun v iv wr => ∃ k : Nat, k ≤ l.length ∧ iv = .int .i64 (k : Int) ∧ ownR wr w.heap.size v (rnM l k) ∧ Below w.heap.size w wr) (fun _ iv _ => l.length - (intOf iv).toNat)
  case atStart => exact ⟨0, Nat.zero_le _, rfl, World.ownsRow_nil _ _ _ _, Below.refl _ _⟩
  case round =>
    obtain ⟨k, hk, rfl, hown, hb⟩ := hrel
    have hrl := rn_len l k hk
    by_cases hlt : k < l.length
    · obtain ⟨b, off, rfl, hblk, c1, c2⟩ := (HS.out.below hb) k hlt
      have hk1 : (k : Int) < l.length := by omega
      have hk0 : (0 : Int) ≤ k := by omega
      have hnew : rnNew l k = (decide (k = 0) || (l.getD k (0, 0)).2 != (l.getD (k - 1) (0, 0)).2) := rfl
      have hstep : rnM l (k + 1) = rnStep (rnM l k) (rnNew l k) (l.getD k (0, 0)).2 k := rfl
      have hpos := (rn_ok l k hk).pos
      have hprev : ∀ o, 0 < k → (wr.alloc o).cell? ⟨b, off + (k - 1) * 2 + 1, none⟩ = some (.int .i64 (l.getD (k - 1) (0, 0)).2) := fun o h0 => by
        obtain ⟨b', off', e', hblk', c1', c2'⟩ := (HS.out.below hb) (k - 1) (by omega)
        obtain ⟨rfl, rfl⟩ : b = b' ∧ off = off' := by simpa using e'
        exact (World.cell?_alloc_lt wr o (⟨b, off + (k - 1) * 2 + 1, none⟩ : Addr) hblk').trans c2'
      generalize (l.getD (k - 1) (0, 0)).2 = u0 at *
      obtain ⟨p1, u, hp⟩ : ∃ p1 p2, l.getD k (0, 0) = (p1, p2) := ⟨_, _, rfl⟩
      rw [hp] at c1 c2 hnew hstep
      clear hp
      generalize rnM l k = R at *
      have hsz := hb.size
      have hbo := hb.alloc hb.size
      cases hn : rnNew l k
      · rw [hn] at hnew hstep
        have hnew' := hnew.symm
        rw [Bool.or_eq_false_iff] at hnew'
        have hk00 : k ≠ 0 := by simpa using hnew'.1
        have hd0 : ((k : Int) == 0) = false := by rw [beq_eq_false_iff_ne]; omega
        have hd1 : (u != u0) = false := hnew'.2
        have hprev1 := fun o => hprev o (by omega)
        have hR := hpos (by omega)
        obtain ⟨g, cap, rfl⟩ := ownsRow_pos hown hR
        have hgl := hown.lt g rfl
        have hk2 : (0 : Int) ≤ (k : Int) - 1 := by omega
        have hk3 : (k : Int) - 1 < l.length := by omega
        have hr1 : (0 : Int) ≤ (R.length : Int) - 1 := by omega
        have hset := rCells_set R (R.length - 1) (by omega) ((k : Int) + 1)
        have Hst : Hid (R.set (R.length - 1) ((R.getD (R.length - 1) (0, 0, 0)).1, (R.getD (R.length - 1) (0, 0, 0)).2.1, (k : Int) + 1) = rnM l (k + 1)) := Lib.hid (by rw [hstep]; rfl)
        have hca := fun o => (hown.alloc o).cellAt ((R.length - 1) * 3 + 2) (by omega)
        rw [(rCells_at R (R.length - 1) (by omega)).2.2] at hca
        have hfa := fun o => (hown.alloc o).frozenAt ((R.length - 1) * 3 + 2)
        have hst := fun o n => ((show ((wr.alloc o).drewN n).ownsRow w.heap.size 42 3 (.slice (some ⟨g, 0, none⟩) R.length cap) R.length (rCells R) from hown.alloc o).stored ((R.length - 1) * 3 + 2) (.int .i64 ((k : Int) + 1))).1
        rw [hset] at hst
        have Hst2 := Lib.hid hst
        have Hown := Lib.hid hown
        generalize (R.getD (R.length - 1) (0, 0, 0)).2.2 = y0 at *
        clear hnew hnew' hstep hprev hset hst hown hn hk00 hpos
        go_wp2
        go_quiet (fail)
        go_wp2
        go_roundw
        case rel => exact ⟨k + 1, by omega, by go_num, by rw [← Hst.out]; unfold ownR; rw [List.length_set]; exact Hst2.out _ _, (drewN_below (hbo _) _).setCell hgl.1 _⟩
        case measure => simp [intOf]; omega
      · rw [hn] at hnew hstep
        have Hst : Hid (R ++ [(u, (k : Int), (k : Int) + 1)] = rnM l (k + 1)) := Lib.hid (by rw [hstep]; rfl)
        have hor : k = 0 ∨ (0 < k ∧ ((k : Int) == 0) = false ∧ (u != u0) = true) := by
          rcases Nat.eq_zero_or_pos k with h | h
          · exact Or.inl h
          · refine Or.inr ⟨h, by rw [beq_eq_false_iff_ne]; omega, ?_⟩
            have h2 := hnew.symm
            rw [Bool.or_eq_true] at h2
            rcases h2 with h2 | h2
            · have := of_decide_eq_true h2; omega
            · exact h2
        have Hown := Lib.hid hown
        clear hnew hstep hn hpos hown
        rcases hor with h0 | ⟨hkp, hd0, hd1⟩
        · clear hprev
          subst h0
          replace c1 : wr.cell? ⟨b, off, none⟩ = some (.int .i64 p1) := by simpa using c1
          replace c2 : wr.cell? ⟨b, off + 1, none⟩ = some (.int .i64 u) := by simpa using c2
          go_wp2
          go_quiet (fail)
          go_wp2_with (at_builtin; refine wpList_append_own _ rfl _ _ 39 rfl w.heap.size 42 i0 _ 3 24 Tryd.underlying39 hi hz0 hz1 hz2 rfl (by decide) _ _ _ rfl (show (((wr.alloc (.cells #[.int .i64 p1, .int .i64 u] 44)).drewN nq).alloc _).ownsRow _ _ _ _ _ _ from (show ((wr.alloc (.cells #[.int .i64 p1, .int .i64 u] 44)).drewN nq).ownsRow _ _ _ _ _ _ from Hown.out.alloc _).alloc _) ⟨wr.heap.size + 1, 0, none⟩ 1 1 [.int .i64 u, .int .i64 0, .int .i64 0] rfl rfl ?c1 ?c2 ?c3 ?c4 ?c5 ?_)
          case c1 =>
            intro j x hj
            exact app_cells (w := (wr.alloc (.cells #[.int .i64 p1, .int .i64 u] 44)).drewN nq) (by simp) hj
          case c2 => intro x hx; simp at hx; rcases hx with rfl | rfl | rfl <;> rfl
          case c3 => unfold maxLen; omega
          case c4 => omega
          case c5 => simp; omega
          intro v' w3 hown3 hgrow3 hiff
          have hR1 : 0 < R.length + 1 := by omega
          obtain ⟨g, cap, rfl⟩ := ownsRow_pos hown3 hR1
          have hg3 := hown3.lt g rfl
          have hb3 : Below w.heap.size w w3 := (((drewN_below (hbo (.cells #[.int .i64 p1, .int .i64 u] 44)) nq).alloc (by simp; omega) _).grown hgrow3 (by simp; omega) (fun k hk => (Hown.out.lt k hk).1))
          have hcs : rCells R ++ [.int .i64 u, .int .i64 0, .int .i64 0] = rCells (R ++ [(u, 0, 0)]) := (rCells_snoc R (u, 0, 0)).symm
          rw [hcs] at hown3
          have hca := hown3.cellAt ((R.length + 1 - 1) * 3 + 2) (by omega)
          rw [(rCells_at (R ++ [(u, 0, 0)]) (R.length + 1 - 1) (by simp)).2.2] at hca
          have hfa := hown3.frozenAt ((R.length + 1 - 1) * 3 + 2)
          have hst := (hown3.stored ((R.length + 1 - 1) * 3 + 2) (.int .i64 (0 + 1))).1
          rw [rCells_set (R ++ [(u, 0, 0)]) (R.length + 1 - 1) (by simp) (0 + 1)] at hst
          have hgd : (R ++ [(u, 0, 0)]).getD (R.length + 1 - 1) (0, 0, 0) = (u, 0, 0) := by rw [getD_snoc, if_neg (by omega), if_pos (by omega)]
          rw [hgd] at hst hca
          rw [rnStep_set] at hst
          simp only [Nat.add_sub_cancel] at hst hca hfa
          have Hst2 := Lib.hid hst
          have hr1 : (0 : Int) ≤ (R.length : Int) + 1 - 1 := by omega
          clear hst hgd hcs hgrow3 hiff hown3 
          go_wp2
          go_roundw
          case rel => exact ⟨1, by omega, rfl, by rw [← Hst.out]; unfold ownR; rw [List.length_append]; exact Hst2.out, hb3.setCell hg3.1 _⟩
          case measure => simp [intOf]; omega
        · have hprev1 := fun o => hprev o hkp
          have hk2 : (0 : Int) ≤ (k : Int) - 1 := by omega
          have hk3 : (k : Int) - 1 < l.length := by omega
          clear hprev
          go_wp2
          go_quiet (fail)
          go_wp2_with (at_builtin; refine wpList_append_own _ rfl _ _ 39 rfl w.heap.size 42 i0 _ 3 24 Tryd.underlying39 hi hz0 hz1 hz2 rfl (by decide) _ _ _ rfl (show (((wr.alloc (.cells #[.int .i64 p1, .int .i64 u] 44)).drewN nq).alloc _).ownsRow _ _ _ _ _ _ from (show ((wr.alloc (.cells #[.int .i64 p1, .int .i64 u] 44)).drewN nq).ownsRow _ _ _ _ _ _ from Hown.out.alloc _).alloc _) ⟨wr.heap.size + 1, 0, none⟩ 1 1 [.int .i64 u, .int .i64 (k : Int), .int .i64 0] rfl rfl ?c1 ?c2 ?c3 ?c4 ?c5 ?_)
          case c1 =>
            intro j x hj
            exact app_cells (w := (wr.alloc (.cells #[.int .i64 p1, .int .i64 u] 44)).drewN nq) (by simp) hj
          case c2 => intro x hx; simp at hx; rcases hx with rfl | rfl | rfl <;> rfl
          case c3 => unfold maxLen; omega
          case c4 => omega
          case c5 => simp; omega
          intro v' w3 hown3 hgrow3 hiff
          have hR1 : 0 < R.length + 1 := by omega
          obtain ⟨g, cap, rfl⟩ := ownsRow_pos hown3 hR1
          have hg3 := hown3.lt g rfl
          have hb3 : Below w.heap.size w w3 := (((drewN_below (hbo (.cells #[.int .i64 p1, .int .i64 u] 44)) nq).alloc (by simp; omega) _).grown hgrow3 (by simp; omega) (fun k hk => (Hown.out.lt k hk).1))
          have hcs : rCells R ++ [.int .i64 u, .int .i64 (k : Int), .int .i64 0] = rCells (R ++ [(u, (k : Int), 0)]) := (rCells_snoc R (u, (k : Int), 0)).symm
          rw [hcs] at hown3
          have hca := hown3.cellAt ((R.length + 1 - 1) * 3 + 2) (by omega)
          rw [(rCells_at (R ++ [(u, (k : Int), 0)]) (R.length + 1 - 1) (by simp)).2.2] at hca
          have hfa := hown3.frozenAt ((R.length + 1 - 1) * 3 + 2)
          have hst := (hown3.stored ((R.length + 1 - 1) * 3 + 2) (.int .i64 ((k : Int) + 1))).1
          rw [rCells_set (R ++ [(u, (k : Int), 0)]) (R.length + 1 - 1) (by simp) ((k : Int) + 1)] at hst
          have hgd : (R ++ [(u, (k : Int), 0)]).getD (R.length + 1 - 1) (0, 0, 0) = (u, (k : Int), 0) := by rw [getD_snoc, if_neg (by omega), if_pos (by omega)]
          rw [hgd] at hst hca
          rw [rnStep_set] at hst
          simp only [Nat.add_sub_cancel] at hst hca hfa
          have Hst2 := Lib.hid hst
          have hr1 : (0 : Int) ≤ (R.length : Int) + 1 - 1 := by omega
          clear hst hgd hcs hgrow3 hiff hown3 
          go_wp2
          go_roundw
          case rel => exact ⟨k + 1, by omega, by go_num, by rw [← Hst.out]; unfold ownR; rw [List.length_append]; exact Hst2.out, hb3.setCell hg3.1 _⟩
          case measure => simp [intOf]; omega
    · obtain rfl : k = l.length := by omega
      go_wp2
      go_ret
      exact ⟨_, rfl, hown, hb⟩
end Go.Proofs.YtecffaidpiadoaaDoor
