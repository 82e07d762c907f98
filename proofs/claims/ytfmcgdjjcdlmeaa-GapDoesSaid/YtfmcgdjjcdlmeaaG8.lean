/-
  Gap buffers: Get.
-/
import Derived.Test.YtfmcgdjjcdlmeaaG7
set_option linter.unusedVariables false
set_option linter.unusedSimpArgs false
namespace Go.Proofs.Ytfmcgdjjcdlmeaa
set_option maxRecDepth 100000
open Go.RowKit
def gtV (L : List Sn) (i : Int) : Sn := if 0 ≤ i then L.getD i.toNat (0, 0) else (0, 0)
def gtB (L : List Sn) (i : Int) : Bool := decide (0 ≤ i ∧ i < L.length)
theorem gs_lo (R : List Sn) (a e j : Nat) (h1 : a ≤ e) (h2 : e ≤ R.length) (hj : j < a) : (gsL R a e).getD j (0, 0) = R.getD j (0, 0) := by
  have ha : (R.take a).length = a := by rw [List.length_take]; omega
  unfold gsL
  rw [List.getD, List.getElem?_append_left (by omega), List.getElem?_take, if_pos hj]; rfl
theorem gs_hi (R : List Sn) (a e j : Nat) (h1 : a ≤ e) (h2 : e ≤ R.length) (hj : ¬ j < a) : (gsL R a e).getD j (0, 0) = R.getD (e + j - a) (0, 0) := by
  have ha : (R.take a).length = a := by rw [List.length_take]; omega
  unfold gsL
  rw [List.getD, List.getElem?_append_right (by omega), ha, List.getElem?_drop, show e + (j - a) = e + j - a by omega]; rfl
theorem two_set {w : World} {b : Nat} {x0 x1 : Value} {T : TypeId} {f : Nat × Nat} (h : w.heap[b]? = some (.cells #[x0, x1] T f)) (v0 v1 : Value) :
    ((w.setCell ⟨b, 0, none⟩ v0).setCell ⟨b, 1, none⟩ v1).heap[b]? = some (.cells #[v0, v1] T f) := blk_set (blk_set h 0 _) 1 _
theorem two_below (w w0 : World) (b : Nat) (v0 v1 : Value) (hb : w0.heap.size ≤ b) (h : Below w0.heap.size w0 w) :
    Below w0.heap.size w0 ((w.setCell ⟨b, 0, none⟩ v0).setCell ⟨b, 1, none⟩ v1) :=
  (h.setCell (p := ⟨b, 0, none⟩) hb v0).setCell (p := ⟨b, 1, none⟩) hb v1
theorem gget_nil (i : Int) (w : World) : Calls Try.prog 19 #[.pointer none, .int .i64 i] w fun x w' => x = .returned (.tuple #[.agg #[.int .i64 0, .int .i64 0], .bool false]) ∧ Below w.heap.size w w' := by
  go_enter Try.func19, Try.ntmps19
  go_wp2_with fail
  refine bodyPost_ret (v := .tuple #[.agg #[.int .i64 0, .int .i64 0], .bool false]) (by simp [results, Try.results19, go_sem]) rfl ?_
  exact ⟨rfl, below_alloc _ _⟩
set_option maxHeartbeats 8000000 in
theorem gget_any (p : Nat) (M : Int) (v : Value) (R : List Sn) (a e : Nat) (i : Int) (w : World) (h : GapAt p M v R a e w) : Calls Try.prog 19 #[.pointer (some ⟨p, 0, none⟩), .int .i64 i] w fun x w' => x = .returned (.tuple #[.agg #[.int .i64 (gtV (gsL R a e) i).1, .int .i64 (gtV (gsL R a e) i).2], .bool (gtB (gsL R a e) i)]) ∧ Below w.heap.size w w' := by
  have h1 := h.le1; have h2 := h.le2; have h3 := h.big
  have hlen := gsL_len R a e h1 h2
  have B0 := below_alloc w (.cells #[.int .i64 0, .int .i64 0] 43)
  have q0 := heap_alloc_new w (.cells #[.int .i64 0, .int .i64 0] 43)
  obtain ⟨W0, hW0⟩ : ∃ W0, w.alloc (.cells #[.int .i64 0, .int .i64 0] 43) = W0 := ⟨_, rfl⟩
  rw [hW0] at B0 q0
  have Q0 := Lib.hid q0
  have HB0 := Lib.hid B0
  have HG := Lib.hid (h.below B0)
  have LN := glen_any p M v R a e W0 HG.out
  obtain ⟨n, hn⟩ : ∃ n, (gsL R a e).length = n := ⟨_, rfl⟩
  rw [hn] at LN hlen
  replace LN := Lib.hid LN
  have hnn := Lib.hid hn
  clear h q0 B0 hn
  have no : ¬ (0 ≤ i ∧ i < n) → gtV (gsL R a e) i = (0, 0) ∧ gtB (gsL R a e) i = false := fun hh => by
    refine ⟨?_, decide_eq_false (by rw [hnn.out]; exact hh)⟩
    unfold gtV
    by_cases h0 : 0 ≤ i
    · rw [if_pos h0, List.getD, List.getElem?_eq_none (by rw [hnn.out]; omega)]; rfl
    · rw [if_neg h0]
  by_cases hneg : i < 0
  · rw [(no (by omega)).1, (no (by omega)).2]
    clear no
    have NB := Lib.hid (two_below _ w w.heap.size (.int .i64 0) (.int .i64 0) (Nat.le_refl _) HB0.out)
    have hfin := Lib.hid (two_set Q0.out (.int .i64 0) (.int .i64 0))
    have zf := fun i => frozen_of_row _ w.heap.size i _ _ Q0.out
    have zz := fun i => cell_of_row _ _ i _ _ _ Q0.out
    have z0 := zz 0; have z1 := zz 1
    dsimp at z0 z1
    clear zz
    go_enter Try.func19, Try.ntmps19
    go_upto_region 1 with fail
    clear hW0
    go_wp2_with fail
    generalize hWF : World.setCell _ _ _ = WF
    have hqf : WF.heap[w.heap.size]? = some (.cells #[.int .i64 0, .int .i64 0] 43 (0, 0)) := by rw [← hWF]; exact hfin.out
    have hN : Below w.heap.size w WF := by rw [← hWF]; exact NB.out
    have y := fun i => cell_of_row _ _ i _ _ _ hqf
    have y0 := y 0; have y1 := y 1
    dsimp at y0 y1
    clear y hqf hWF
    refine bodyPost_ret (v := .tuple #[.agg #[.int .i64 0, .int .i64 0], .bool false]) (by simp [results, Try.results19, go_sem, y0, y1]) rfl ?_
    exact ⟨rfl, hN⟩
  have hi0 : 0 ≤ i := by omega
  by_cases hge : (n : Int) ≤ i
  · rw [(no (by omega)).1, (no (by omega)).2]
    clear no
    go_enter Try.func19, Try.ntmps19
    go_upto_region 1 with fail
    clear hW0
    go_wp2_with (go_at_call 20; refine LN.out.mono ?_; rintro x w1 ⟨rfl, hb1⟩; have q1 := blk_below Q0.out hb1; have NB := Lib.hid (two_below _ w w.heap.size (.int .i64 0) (.int .i64 0) (Nat.le_refl _) (seqB HB0.out hb1)); have hfin := Lib.hid (two_set q1 (.int .i64 0) (.int .i64 0)); have zf := fun i => frozen_of_row _ w.heap.size i _ _ q1; have zz := fun i => cell_of_row _ _ i _ _ _ q1; have z0 := zz 0; have z1 := zz 1; dsimp at z0 z1; clear zz q1)
    generalize hWF : World.setCell _ _ _ = WF
    have hqf : WF.heap[w.heap.size]? = some (.cells #[.int .i64 0, .int .i64 0] 43 (0, 0)) := by rw [← hWF]; exact hfin.out
    have hN : Below w.heap.size w WF := by rw [← hWF]; exact NB.out
    have y := fun i => cell_of_row _ _ i _ _ _ hqf
    have y0 := y 0; have y1 := y 1
    dsimp at y0 y1
    clear y hqf hWF
    refine bodyPost_ret (v := .tuple #[.agg #[.int .i64 0, .int .i64 0], .bool false]) (by simp [results, Try.results19, go_sem, y0, y1]) rfl ?_
    exact ⟨rfl, hN⟩
  obtain ⟨j, rfl⟩ : ∃ j : Nat, i = (j : Int) := ⟨i.toNat, by omega⟩
  have hjn : j < n := by omega
  clear no
  have eB : gtB (gsL R a e) (j : Int) = true := decide_eq_true (by rw [hnn.out]; omega)
  have eV : gtV (gsL R a e) (j : Int) = (gsL R a e).getD j (0, 0) := by unfold gtV; rw [if_pos hi0]; simp
  rw [eB, eV]
  rcases HG.out.room with ⟨hv, hR⟩ | ⟨r, hv, hrp, hr⟩
  · rw [hR] at hlen; simp at hlen; omega
  subst hv
  by_cases hja : j < a
  · rw [gs_lo R a e j h1 h2 hja]
    have hsc := sg_cells hr (k := j) (by omega)
    obtain ⟨s, hs⟩ : ∃ s, R.getD j (0, 0) = s := ⟨_, rfl⟩
    rw [hs] at hsc ⊢
    have hjr : (j : Int) < R.length := by omega
    have hja2 : (j : Int) < a := by omega
    have SC := Lib.hid hsc
    have HR0 := Lib.hid hr
    clear hsc hr hs eB eV
    go_enter Try.func19, Try.ntmps19
    go_upto_region 1 with fail
    clear hW0
    go_wp2_with (go_at_call 20; refine LN.out.mono ?_; rintro x w1 ⟨rfl, hb1⟩; have q1 := blk_below Q0.out hb1; have NB := Lib.hid (two_below _ w w.heap.size (.int .i64 s.1) (.int .i64 s.2) (Nat.le_refl _) (seqB HB0.out hb1)); have hfin := Lib.hid (two_set q1 (.int .i64 s.1) (.int .i64 s.2)); have zf := fun i => frozen_of_row _ w.heap.size i _ _ q1; have zz := fun i => cell_of_row _ _ i _ _ _ q1; have z0 := zz 0; have z1 := zz 1; dsimp at z0 z1; obtain ⟨c0, c1, c2, c3⟩ := (HG.out.below hb1).cells; have s0 := (hb1.cell (p := ⟨r, j * 2, none⟩) (blk_lt HR0.out)).trans SC.out.1; have s1 := (hb1.cell (p := ⟨r, j * 2 + 1, none⟩) (blk_lt HR0.out)).trans SC.out.2; clear zz q1)
    generalize hWF : World.setCell _ _ _ = WF
    have hqf : WF.heap[w.heap.size]? = some (.cells #[.int .i64 s.1, .int .i64 s.2] 43 (0, 0)) := by rw [← hWF]; exact hfin.out
    have hN : Below w.heap.size w WF := by rw [← hWF]; exact NB.out
    have y := fun i => cell_of_row _ _ i _ _ _ hqf
    have y0 := y 0; have y1 := y 1
    dsimp at y0 y1
    clear y hqf hWF
    refine bodyPost_ret (v := .tuple #[.agg #[.int .i64 s.1, .int .i64 s.2], .bool true]) (by simp [results, Try.results19, go_sem, y0, y1]) rfl ?_
    exact ⟨rfl, hN⟩
  · rw [gs_hi R a e j h1 h2 hja]
    have hsc := sg_cells hr (k := e + j - a) (by omega)
    obtain ⟨s, hs⟩ : ∃ s, R.getD (e + j - a) (0, 0) = s := ⟨_, rfl⟩
    rw [hs] at hsc ⊢
    have hja2 : ¬ (j : Int) < a := by omega
    have SC := Lib.hid hsc
    have HR0 := Lib.hid hr
    have hix0 : (0 : Int) ≤ (e : Int) + (j : Int) - (a : Int) := by omega
    have hix1 : (e : Int) + (j : Int) - (a : Int) < R.length := by omega
    clear hsc hr hs eB eV
    go_enter Try.func19, Try.ntmps19
    go_upto_region 1 with fail
    clear hW0
    go_upto_region 5 with (go_at_call 20; refine LN.out.mono ?_; rintro x w1 ⟨rfl, hb1⟩; have q1 := blk_below Q0.out hb1; have NB := Lib.hid (two_below _ w w.heap.size (.int .i64 s.1) (.int .i64 s.2) (Nat.le_refl _) (seqB HB0.out hb1)); have hfin := Lib.hid (two_set q1 (.int .i64 s.1) (.int .i64 s.2)); have zf := fun i => frozen_of_row _ w.heap.size i _ _ q1; have zz := fun i => cell_of_row _ _ i _ _ _ q1; have z0 := zz 0; have z1 := zz 1; dsimp at z0 z1; obtain ⟨c0, c1, c2, c3⟩ := (HG.out.below hb1).cells; have s0 := (hb1.cell (p := ⟨r, (e + j - a) * 2, none⟩) (blk_lt HR0.out)).trans SC.out.1; have s1 := (hb1.cell (p := ⟨r, (e + j - a) * 2 + 1, none⟩) (blk_lt HR0.out)).trans SC.out.2; clear zz q1)
    go_region
    go_wp2
    generalize hWF : World.setCell _ _ _ = WF
    have hqf : WF.drew.heap[w.heap.size]? = some (.cells #[.int .i64 s.1, .int .i64 s.2] 43 (0, 0)) := by rw [← hWF]; exact hfin.out
    have hN : Below w.heap.size w WF.drew := by rw [← hWF]; exact NB.out.drew
    have y := fun i => cell_of_row _ _ i _ _ _ hqf
    have y0 := y 0; have y1 := y 1
    dsimp at y0 y1
    clear y hqf hWF
    refine bodyPost_ret (v := .tuple #[.agg #[.int .i64 s.1, .int .i64 s.2], .bool true]) (by simp [results, Try.results19, go_sem, y0, y1]) rfl ?_
    exact ⟨rfl, hN⟩
end Go.Proofs.Ytfmcgdjjcdlmeaa
