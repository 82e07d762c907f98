/-
  Gap buffers: the widener at work.
-/
import Derived.Test.YtfmcgdjjcdlmeaaG3
set_option linter.unusedVariables false
set_option linter.unusedSimpArgs false
namespace Go.Proofs.Ytfmcgdjjcdlmeaa
set_option maxRecDepth 100000
open Go.RowKit
set_option maxHeartbeats 4000000 in
theorem gwide_no (p : Nat) (M : Int) (v : Value) (R : List Sn) (a e n q : Nat) (w : World) (h : GapAt p M v R a e w) (hq : w.cell? ⟨q, 0, none⟩ = some (.pointer (some ⟨p, 0, none⟩))) (hn : n ≤ e - a) : Calls Try.prog 31 #[.int .i64 (n : Int), .pointer (some ⟨q, 0, none⟩)] w fun x w' => x = .returned (.tuple #[]) ∧ Below w.heap.size w w' := by
  obtain ⟨c0, c1, c2, c3⟩ := h.cells
  have h1 := h.le1; have h2 := h.le2; have h3 := h.big
  have hi : (n : Int) ≤ (e : Int) - (a : Int) := by omega
  clear h
  go_enter Try.func31, Try.ntmps31
  go_upto_region 0 with fail
  go_quiet (fail)
  go_wp2
  refine bodyPost_ret (v := .tuple #[]) (by simp [results, Try.results31, go_sem]) rfl ?_
  exact ⟨rfl, drewN_below (Below.refl _ _) _⟩
/-- What the widener leaves: a gap so great, the same signs. -/
def WdPost (p : Nat) (M : Int) (v : Value) (R : List Sn) (a e n : Nat) (w : World) (x : Ending) (w' : World) : Prop :=
  x = .returned (.tuple #[]) ∧ ∃ v' R' e', GapAt p M v' R' a e' w' ∧ gsL R' a e' = gsL R a e ∧ n ≤ e' - a ∧ Kept p (.slice none 0 0) w w' ∧ (v' = v ∨ ∀ r, v'.ownBlock = some r → w.heap.size ≤ r)
/-- The widened room. -/
def wdL (R : List Sn) (a e W : Nat) : List Sn := R.take a ++ List.replicate (W - a - (R.length - e)) (0, 0) ++ R.drop e
theorem wdL_len (R : List Sn) (a e W : Nat) (h1 : a ≤ e) (h2 : e ≤ R.length) (hW : a + (R.length - e) ≤ W) : (wdL R a e W).length = W := by
  unfold wdL; simp only [List.length_append, List.length_take, List.length_drop, List.length_replicate]; omega
theorem wdL_gs (R : List Sn) (a e W : Nat) (h1 : a ≤ e) (h2 : e ≤ R.length) (hW : a + (R.length - e) ≤ W) : gsL (wdL R a e W) a (W - (R.length - e)) = gsL R a e := by
  unfold gsL wdL
  have ha : (R.take a).length = a := by rw [List.length_take]; omega
  congr 1
  · rw [List.append_assoc, List.take_append_of_le_length (by omega), List.take_of_length_le (by omega)]
  · rw [List.drop_append, List.drop_of_length_le (by rw [List.length_append, ha, List.length_replicate]; omega), List.nil_append, List.length_append, ha, List.length_replicate, show W - (R.length - e) - (a + (W - a - (R.length - e))) = 0 by omega, List.drop_zero]
theorem wd_done {p : Nat} {M : Int} {v : Value} {R : List Sn} {a e n W : Nat} {w W2 : World} (h : GapAt p M v R a e W2) (hb : Below w.heap.size w W2) (hp : p < w.heap.size) (hg : W2.heap[w.heap.size]? = some (.cells (sRow (wdL R a e W)) 43 (0, 0))) (hW : a + n + (R.length - e) ≤ W) (hWM : (W : Int) ≤ M) (E : Int) (hE : E = (W : Int) - ((R.length : Int) - (e : Int))) :
    WdPost p M v R a e n w (.returned (.tuple #[])) ((W2.setCell ⟨p, 1, none⟩ (.slice (some ⟨w.heap.size, 0, none⟩) W W)).setCell ⟨p, 3, none⟩ (.int .i64 E)).drew := by
  have h1 := h.le1; have h2 := h.le2; have h5 := h.m2
  have hl := wdL_len R a e W h1 h2 (by omega)
  have hlen : (R.take a).length = a := by rw [List.length_take]; omega
  have hgs := wdL_gs R a e W h1 h2 (by omega)
  refine ⟨rfl, .slice (some ⟨w.heap.size, 0, none⟩) W W, wdL R a e W, W - (R.length - e), ⟨?_, ?_, by omega, by rw [hl]; omega, by rw [hl]; omega, h.m1, h5⟩, hgs, by omega, ?_, Or.inr (fun r hr => by cases hr; exact Nat.le_refl _)⟩
  · have hb := blk_set (blk_set h.blk 1 (.slice (some ⟨w.heap.size, 0, none⟩) W W)) 3 (.int .i64 E)
    rw [hE, show (W : Int) - ((R.length : Int) - (e : Int)) = ((W - (R.length - e) : Nat) : Int) by omega] at hb
    rw [hE, show (W : Int) - ((R.length : Int) - (e : Int)) = ((W - (R.length - e) : Nat) : Int) by omega]
    exact hb
  · refine Or.inr ⟨w.heap.size, by rw [hl], by omega, ?_⟩
    exact (Below.heap_setCell _ _ _ _ (by show w.heap.size ≠ p; omega)).trans ((Below.heap_setCell _ _ _ _ (by show w.heap.size ≠ p; omega)).trans hg)
  · exact (((Kept.of hb).set 1 _).set 3 _).drew 1
theorem wd_cp1 (R : List Sn) (a W : Nat) (h1 : a ≤ R.length) (hW : a ≤ W) : cpL (List.replicate W (0, 0)) 0 ((R.drop 0).take a) = R.take a ++ List.replicate (W - a) (0, 0) := by
  have ha : (R.take a).length = a := by rw [List.length_take]; omega
  unfold cpL
  rw [List.take_zero, List.nil_append, List.drop_zero, ha, Nat.zero_add, List.drop_replicate]
theorem wd_cp2 (R : List Sn) (a e W : Nat) (h1 : a ≤ e) (h2 : e ≤ R.length) (hW : a + (R.length - e) ≤ W) : cpL (R.take a ++ List.replicate (W - a) (0, 0)) (W - (R.length - e)) ((R.drop e).take (R.length - e)) = wdL R a e W := by
  have ha : (R.take a).length = a := by rw [List.length_take]; omega
  have hd : ((R.drop e).take (R.length - e)) = R.drop e := List.take_of_length_le (by rw [List.length_drop]; exact Nat.le_refl _)
  unfold cpL wdL
  rw [hd]
  have e1 : (R.take a ++ List.replicate (W - a) (0, 0)).take (W - (R.length - e)) = R.take a ++ List.replicate (W - a - (R.length - e)) ((0, 0) : Sn) := by
    rw [List.take_append, List.take_of_length_le (by omega), ha, List.take_replicate]
    congr 2; omega
  have e2 : (R.take a ++ List.replicate (W - a) ((0, 0) : Sn)).drop (W - (R.length - e) + (R.drop e).length) = [] := by
    apply List.drop_of_length_le
    rw [List.length_append, ha, List.length_replicate, List.length_drop]; omega
  rw [e1, e2, List.append_nil]
set_option maxHeartbeats 8000000 in
theorem gwide_run (p r : Nat) (M : Int) (R : List Sn) (a e n q W : Nat) (w : World) (h : GapAt p M (.slice (some ⟨r, 0, none⟩) R.length R.length) R a e w) (hq : w.cell? ⟨q, 0, none⟩ = some (.pointer (some ⟨p, 0, none⟩))) (hn : ¬ n ≤ e - a)
    (X : Int) (hX : X = (W : Int)) (hXe : (if M < 2 * ((a : Int) + (n : Int) + ((R.length : Int) - (e : Int))) then M else 2 * ((a : Int) + (n : Int) + ((R.length : Int) - (e : Int)))) = X) (hW1 : a + n + (R.length - e) ≤ W) (hW2 : (W : Int) ≤ M) (hT : (a : Int) + n + ((R.length : Int) - e) ≤ M) : Calls Try.prog 31 #[.int .i64 (n : Int), .pointer (some ⟨q, 0, none⟩)] w (WdPost p M (.slice (some ⟨r, 0, none⟩) R.length R.length) R a e n w) := by
  obtain ⟨c0, c1, c2, c3⟩ := h.cells
  have hpw := Lib.hid (blk_lt h.blk)
  have h1 := h.le1; have h2 := h.le2; have h3 := h.big; have h4 := h.m1; have h5 := h.m2
  have hi : ¬ (n : Int) ≤ (e : Int) - (a : Int) := by omega
  obtain ⟨i0, hi0, hz0, hz1, hz2⟩ := info_parts infoSign
  have hmk := make_rowN (P := Try.prog) 28 43 i0 _ Try.underlying28 hi0 hz0 W (by rw [hz2]; omega) (by omega)
  rw [hz1] at hmk
  have hmade : madeCells (Value.agg #[.int .i64 0, .int .i64 0]).cells (W * 2) = sRow (List.replicate W (0, 0)) := by rw [show (Value.agg #[.int .i64 0, .int .i64 0]).cells = #[.int .i64 0, .int .i64 0] from rfl, made_signs]
  rw [hmade, ← hX] at hmk
  have HG := Lib.hid h
  have hX' := Lib.hid hX
  clear h hmade hX
  go_enter Try.func31, Try.ntmps31
  go_upto_region 0 with fail
  go_quiet (fail)
  go_upto_region 1 with fail
  go_quiet (fail)
  go_upto_region 2 with fail
  go_region
  generalize hW0 : World.alloc _ _ = W0
  have b0 : W0.heap[w.heap.size]? = some (.cells (sRow (List.replicate W (0, 0))) 43 (0, 0)) := by rw [← hW0]; exact heap_alloc_new _ _
  have N0 : Below w.heap.size w W0 := by rw [← hW0]; exact (drewN_below (Below.refl _ _) _).alloc (Nat.le_refl _) _
  clear hW0 hmk c0 c1 c2 c3
  have G0 := HG.out.below N0
  have q0 := (N0.cell (p := ⟨q, 0, none⟩) (block_lt_of_cell hq)).trans hq
  obtain ⟨c0, c1, c2, c3⟩ := G0.cells
  have hr0 : W0.heap[r]? = some (.cells (sRow R) 43 (0, 0)) := by
    rcases G0.room with ⟨e, _⟩ | ⟨r', e, _, hh⟩
    · cases e
    · cases e; exact hh
  have hgs : w.heap.size ≠ p ∧ w.heap.size ≠ r := ⟨by have := blk_lt HG.out.blk; omega, by have := HG.out.room.lt r rfl; omega⟩
  have cp1 : (Builtin.copy_ #[28, 28] 3 #[.slice (some ⟨w.heap.size, 0, none⟩) W W, .slice (some ⟨r, 0, none⟩) a R.length]).run Try.prog W0.drew = .ok (goInt a) (W0.drew.setRow w.heap.size (sRow (R.take a ++ List.replicate (W - a) (0, 0)))) := by
    have := copy_room (w := W0.drew) 3 (g := w.heap.size) (r := r) (D := List.replicate W (0, 0)) (S := R) (o := 0) (x := 0) (dl := W) (dc := W) (n := a) (sc := R.length) b0 hr0 (by simp) (by omega) (by omega)
    rw [wd_cp1 R a W (by omega) (by omega)] at this
    exact this
  have b1 := setRow_heap W0.drew w.heap.size _ (sRow (R.take a ++ List.replicate (W - a) (0, 0))) 43 (0, 0) b0
  have N1 := below_setRow N0.drew (Nat.le_refl _) (sRow (R.take a ++ List.replicate (W - a) (0, 0)))
  replace b1 := Lib.hid b1; replace N1 := Lib.hid N1; replace b0 := Lib.hid b0; replace N0 := Lib.hid N0; replace G0 := Lib.hid G0; replace hr0 := Lib.hid hr0; replace hgs := Lib.hid hgs
  go_upto_region 3 with fail
  go_region
  generalize hW1 : World.setRow _ _ _ = W1
  rw [hW1] at b1 N1
  have B1 := b1.out
  have M1 : Below w.heap.size w W1 := N1.out
  have G1 := HG.out.below M1
  have q1 := (M1.cell (p := ⟨q, 0, none⟩) (block_lt_of_cell hq)).trans hq
  clear hW1 cp1 q0 c0 c1 c2 c3
  obtain ⟨c0, c1, c2, c3⟩ := G1.cells
  have hr1 : W1.heap[r]? = some (.cells (sRow R) 43 (0, 0)) := by
    rcases G1.room with ⟨e, _⟩ | ⟨r', e, _, hh⟩
    · cases e
    · cases e; exact hh
  have ha : (R.take a).length = a := by rw [List.length_take]; omega
  have hWl : (R.take a ++ List.replicate (W - a) ((0, 0) : Sn)).length = W := by rw [List.length_append, ha, List.length_replicate]; omega
  have b2 := setRow_heap W1.drew w.heap.size _ (sRow (wdL R a e W)) 43 (0, 0) B1
  have N2 := below_setRow M1.drew (Nat.le_refl _) (sRow (wdL R a e W))
  replace b2 := Lib.hid b2; replace N2 := Lib.hid N2; replace M1 := Lib.hid M1; replace G1 := Lib.hid G1
  have hB1 := Lib.hid B1; have hR1 := Lib.hid hr1; have hWl' := Lib.hid hWl
  clear b1 N1 b0 N0 G0 hr0 hWl ha B1 hr1
  by_cases hbe : R.length = e
  · have cp2 : (Builtin.copy_ #[28, 28] 3 #[.slice (some ⟨w.heap.size, 0, none⟩) 0 0, .slice (some ⟨r, 0, none⟩) 0 0]).run Try.prog W1.drew = .ok (goInt 0) (W1.drew.setRow w.heap.size (sRow (wdL R a e W))) := by
      have := copy_room (w := W1.drew) 3 (g := w.heap.size) (r := r) (D := R.take a ++ List.replicate (W - a) (0, 0)) (S := R) (o := 0) (x := 0) (dl := 0) (dc := 0) (n := 0) (sc := 0) hB1.out hR1.out (by omega) (by omega) (by omega)
      have e1 : cpL (R.take a ++ List.replicate (W - a) ((0, 0) : Sn)) 0 ((R.drop 0).take 0) = wdL R a e W := by
        unfold cpL wdL; simp [hbe]
      rw [e1] at this
      exact this
    go_upto_region 4 with fail
    go_region
    generalize hW2 : World.setRow _ _ _ = W2
    rw [hW2] at b2 N2
    have M2 : Below w.heap.size w W2 := N2.out
    have G2 := HG.out.below M2
    have q2 := (M2.cell (p := ⟨q, 0, none⟩) (block_lt_of_cell hq)).trans hq
    clear hW2 cp2 q1 c0 c1 c2 c3
    obtain ⟨c0, c1, c2, c3⟩ := G2.cells
    have zf := fun i => frozen_of_row _ p i _ _ G2.blk
    have HB2 := Lib.hid b2.out
    have HG2 := Lib.hid G2
    have HM2 := Lib.hid M2
    clear G2 M2 b2 N2
    go_upto_region 5 with fail
    go_region
    refine bodyPost_end (v := .tuple #[]) (by simp [results, Try.results31, go_sem]) rfl ?_
    refine wd_done HG2.out HM2.out hpw.out HB2.out hW1 hW2 _ ?_
    omega
  · have hne : ¬ W = W - (R.length - e) := by omega
    have cp2 : (Builtin.copy_ #[28, 28] 3 #[.slice (some ⟨w.heap.size, (W - (R.length - e)) * 2, none⟩) (W - (W - (R.length - e))) (W - (W - (R.length - e))), .slice (some ⟨r, e * 2, none⟩) (R.length - e) (R.length - e)]).run Try.prog W1.drew = .ok (goInt ((R.length - e : Nat) : Int)) (W1.drew.setRow w.heap.size (sRow (wdL R a e W))) := by
      rw [show W - (W - (R.length - e)) = R.length - e by omega]
      have := copy_room (w := W1.drew) 3 (g := w.heap.size) (r := r) (D := R.take a ++ List.replicate (W - a) (0, 0)) (S := R) (o := W - (R.length - e)) (x := e) (dl := R.length - e) (dc := R.length - e) (n := R.length - e) (sc := R.length - e) hB1.out hR1.out (by rw [hWl'.out]; omega) (by omega) (by omega)
      rw [wd_cp2 R a e W h1 h2 (by omega)] at this
      exact this
    go_upto_region 4 with fail
    go_region
    generalize hW2 : World.setRow _ _ _ = W2
    rw [hW2] at b2 N2
    have M2 : Below w.heap.size w W2 := N2.out
    have G2 := HG.out.below M2
    have q2 := (M2.cell (p := ⟨q, 0, none⟩) (block_lt_of_cell hq)).trans hq
    clear hW2 cp2 q1 c0 c1 c2 c3
    obtain ⟨c0, c1, c2, c3⟩ := G2.cells
    have zf := fun i => frozen_of_row _ p i _ _ G2.blk
    have HB2 := Lib.hid b2.out
    have HG2 := Lib.hid G2
    have HM2 := Lib.hid M2
    clear G2 M2 b2 N2
    go_upto_region 5 with fail
    go_region
    refine bodyPost_end (v := .tuple #[]) (by simp [results, Try.results31, go_sem]) rfl ?_
    refine wd_done HG2.out HM2.out hpw.out HB2.out hW1 hW2 _ ?_
    omega
end Go.Proofs.Ytfmcgdjjcdlmeaa
