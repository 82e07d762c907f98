/-
  Gap buffers: the widener, where there is no room yet; the widener.
-/
import Derived.Test.YtfmcgdjjcdlmeaaG4
set_option linter.unusedVariables false
set_option linter.unusedSimpArgs false
namespace Go.Proofs.Ytfmcgdjjcdlmeaa
set_option maxRecDepth 100000
open Go.RowKit
theorem wd_drew {p : Nat} {M : Int} {v : Value} {R : List Sn} {a e n : Nat} {w w' : World} {x : Ending} (h : WdPost p M v R a e n w x w') : WdPost p M v R a e n w x w'.drew := by
  obtain ⟨h0, v', R', e', h1, h2, h3, h4, h5⟩ := h
  exact ⟨h0, v', R', e', h1.drew 1, h2, h3, h4.drew 1, h5⟩
set_option maxHeartbeats 8000000 in
theorem gwide_nil (p : Nat) (M : Int) (n q W : Nat) (w : World) (h : GapAt p M (.slice none 0 0) [] 0 0 w) (hq : w.cell? ⟨q, 0, none⟩ = some (.pointer (some ⟨p, 0, none⟩))) (hn : 0 < n)
    (X : Int) (hX : X = (W : Int)) (hXe : (if M < 2 * (n : Int) then M else 2 * (n : Int)) = X) (hW1 : n ≤ W) (hW2 : (W : Int) ≤ M) (hT : (n : Int) ≤ M) : Calls Try.prog 31 #[.int .i64 (n : Int), .pointer (some ⟨q, 0, none⟩)] w (WdPost p M (.slice none 0 0) [] 0 0 n w) := by
  obtain ⟨c0, c1, c2, c3⟩ := h.cells
  have hpw := Lib.hid (blk_lt h.blk)
  have h4 := h.m1; have h5 := h.m2
  have hi : ¬ (n : Int) ≤ 0 := by omega
  obtain ⟨i0, hi0, hz0, hz1, hz2⟩ := info_parts infoSign
  have hmk := make_rowN (P := Try.prog) 28 43 i0 _ Try.underlying28 hi0 hz0 W (by rw [hz2]; omega) (by omega)
  rw [hz1] at hmk
  have hmade : madeCells (Value.agg #[.int .i64 0, .int .i64 0]).cells (W * 2) = sRow (List.replicate W (0, 0)) := by rw [show (Value.agg #[.int .i64 0, .int .i64 0]).cells = #[.int .i64 0, .int .i64 0] from rfl, made_signs]
  rw [hmade, ← hX] at hmk
  have HG := Lib.hid h
  have hX' := Lib.hid hX
  clear h hmade hX
  dsimp at c2 c3
  go_enter Try.func31, Try.ntmps31
  go_upto_region 0 with fail
  go_quiet (fail)
  go_upto_region 1 with fail
  go_quiet (fail)
  go_upto_region 2 with fail
  go_region
  generalize hW0 : World.alloc _ _ = W0
  have b0 : W0.heap[w.heap.size]? = some (.cells (sRow (List.replicate W (0, 0))) 43 (0, 0)) := by rw [← hW0]; exact heap_alloc_new _ _
  have N0 : Below w.heap.size w W0 := by rw [← hW0]; exact (drewN_below (Below.refl _ _) _).alloc (Nat.le_refl _) _
  clear hW0 hmk c0 c1 c2 c3
  have G0 := HG.out.below N0
  have q0 := (N0.cell (p := ⟨q, 0, none⟩) (block_lt_of_cell hq)).trans hq
  obtain ⟨c0, c1, c2, c3⟩ := G0.cells
  dsimp at c2 c3
  have cp1 := run_copy_nil (P := Try.prog) W0.drew 28 28 3 43 ⟨w.heap.size, 0, none⟩ W W Try.underlying28 (by rw [infoSz]; rfl)
  have cp2 := run_copy_nil (P := Try.prog) W0.drew.drew 28 28 3 43 ⟨w.heap.size, 0, none⟩ 0 0 Try.underlying28 (by rw [infoSz]; rfl)
  replace b0 := Lib.hid b0; replace N0 := Lib.hid N0; replace G0 := Lib.hid G0
  go_upto_region 3 with fail
  go_region
  go_upto_region 4 with fail
  go_region
  have zf := fun i => frozen_of_row _ p i _ _ G0.out.blk
  go_upto_region 5 with fail
  go_region
  refine bodyPost_end (v := .tuple #[]) (by simp [results, Try.results31, go_sem]) rfl ?_
  have hb0 : W0.heap[w.heap.size]? = some (.cells (sRow (wdL [] 0 0 W)) 43 (0, 0)) := by
    rw [show wdL [] 0 0 W = List.replicate W (0, 0) by simp [wdL]]; exact b0.out
  exact wd_drew (wd_drew (wd_done G0.out N0.out hpw.out hb0 (by simpa using hW1) hW2 _ (by simp)))
/-- The widener makes the gap so great, and leaves the signs. -/
theorem gwide_any (p : Nat) (M : Int) (v : Value) (R : List Sn) (a e n q : Nat) (w : World) (h : GapAt p M v R a e w) (hq : w.cell? ⟨q, 0, none⟩ = some (.pointer (some ⟨p, 0, none⟩))) (hM : (n : Int) + ((gsL R a e).length : Int) ≤ M) : Calls Try.prog 31 #[.int .i64 (n : Int), .pointer (some ⟨q, 0, none⟩)] w (WdPost p M v R a e n w) := by
  have h1 := h.le1; have h2 := h.le2; have h3 := h.big; have h4 := h.m1; have h5 := h.m2
  have hl := gsL_len R a e h1 h2
  by_cases hn : n ≤ e - a
  · exact (gwide_no p M v R a e n q w h hq hn).mono fun x w' ⟨hx, hb⟩ => ⟨hx, v, R, e, h.below hb, rfl, hn, Kept.of hb, Or.inl rfl⟩
  · rcases h.room with ⟨rfl, rfl⟩ | ⟨r, rfl, hrp, hr⟩
    · have ha : a = 0 ∧ e = 0 := by simp at h2; omega
      obtain ⟨rfl, rfl⟩ := ha
      by_cases hX : M < 2 * (n : Int)
      · exact gwide_nil p M n q M.toNat w h hq (by omega) M (by omega) (by rw [if_pos hX]) (by omega) (by omega) (by omega)
      · exact gwide_nil p M n q (2 * n) w h hq (by omega) (2 * (n : Int)) (by omega) (by rw [if_neg hX]) (by omega) (by omega) (by omega)
    · by_cases hX : M < 2 * ((a : Int) + (n : Int) + ((R.length : Int) - (e : Int)))
      · exact gwide_run p r M R a e n q M.toNat w h hq hn M (by omega) (by rw [if_pos hX]) (by omega) (by omega) (by omega)
      · exact gwide_run p r M R a e n q (2 * (a + n + (R.length - e))) w h hq hn (2 * ((a : Int) + (n : Int) + ((R.length : Int) - (e : Int)))) (by omega) (by rw [if_neg hX]) (by omega) (by omega) (by omega)
end Go.Proofs.Ytfmcgdjjcdlmeaa
