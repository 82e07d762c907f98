/-
  Gap buffers: Cut.
-/
import Derived.Test.YtfmcgdjjcdlmeaaG8
set_option linter.unusedVariables false
set_option linter.unusedSimpArgs false
namespace Go.Proofs.Ytfmcgdjjcdlmeaa
set_option maxRecDepth 100000
open Go.RowKit
theorem gcut_nil (n : Int) (w : World) : Calls Try.prog 15 #[.pointer none, .int .i64 n] w fun x w' => x = .returned (.slice none 0 0) ∧ w = w' := by
  go_enter Try.func15, Try.ntmps15
  go_wp2_with fail
  go_ret
  exact ⟨rfl, rfl⟩
/-- What Cut leaves: the signs between two places are gone, and are told. -/
def CutPost (p : Nat) (M : Int) (v : Value) (R : List Sn) (a' e' : Nat) (G : List Sn) (w : World) (x : Ending) (w' : World) : Prop :=
  ∃ u, x = .returned u ∧ OwnSn w.heap.size u G w' ∧ GapAt p M v R a' e' w' ∧ Kept p (.slice none 0 0) w w'
theorem cut_at {p : Nat} {M : Int} {v : Value} {R : List Sn} {a e : Nat} {w : World} (h : GapAt p M v R a e w) (a' : Nat) (ha : a' ≤ e) : GapAt p M v R a' e (w.setCell ⟨p, 2, none⟩ (.int .i64 (a' : Int))) :=
  ⟨blk_set h.blk 2 (.int .i64 (a' : Int)), h.room.set 2 _, ha, h.le2, h.big, h.m1, h.m2⟩
theorem cut_end {p : Nat} {M : Int} {v : Value} {R : List Sn} {a e : Nat} {w : World} (h : GapAt p M v R a e w) (e' : Nat) (h1 : a ≤ e') (h2 : e' ≤ R.length) : GapAt p M v R a e' (w.setCell ⟨p, 3, none⟩ (.int .i64 (e' : Int))) :=
  ⟨blk_set h.blk 3 (.int .i64 (e' : Int)), h.room.set 3 _, h1, h2, h.big, h.m1, h.m2⟩
theorem cut_neg_gs (R : List Sn) (a e f : Nat) (h1 : a ≤ e) (h2 : e ≤ R.length) (hf : f ≤ a) : gsL R f e = (gsL R a e).take f ++ (gsL R a e).drop a ∧ (R.drop f).take (a - f) = ((gsL R a e).drop f).take (a - f) := by
  have ha : (R.take a).length = a := by rw [List.length_take]; omega
  constructor
  · rw [(gsL_take R a e h1 h2).2]; unfold gsL
    rw [List.take_append_of_le_length (by omega), List.take_take, Nat.min_eq_left hf]
  · unfold gsL
    rw [List.drop_append_of_le_length (by omega), List.take_append_of_le_length (by rw [List.length_drop, ha]; exact Nat.le_refl _), List.drop_take, List.take_take, Nat.min_self]
theorem cut_pos_gs (R : List Sn) (a e t : Nat) (h1 : a ≤ e) (h2 : e ≤ R.length) (ht : e ≤ t) (ht2 : t ≤ R.length) : gsL R a t = (gsL R a e).take a ++ (gsL R a e).drop (a + (t - e)) ∧ (R.drop e).take (t - e) = ((gsL R a e).drop a).take (t - e) := by
  constructor
  · rw [(gsL_take R a e h1 h2).1, ← List.drop_drop, (gsL_take R a e h1 h2).2, List.drop_drop]
    unfold gsL; congr 2; omega
  · rw [(gsL_take R a e h1 h2).2]
theorem cpL_all (n : Nat) (L : List Sn) (h : L.length = n) : cpL (List.replicate n (0, 0)) 0 L = L := by
  unfold cpL
  rw [List.take_zero, List.nil_append, Nat.zero_add, List.drop_of_length_le (by rw [List.length_replicate, h]; exact Nat.le_refl _), List.append_nil]
/-- The signs that go are copied into a row of their own. -/
theorem cut_fin {p : Nat} {M : Int} {v : Value} {R : List Sn} {a' e' : Nat} {w W W0 : World} (G : List Sn) (n : Nat) (hn : G.length = n) (h : GapAt p M v R a' e' W) (hk : Kept p (.slice none 0 0) w W) (h0 : W.alloc (.cells (sRow (List.replicate n (0, 0))) 43) = W0) :
    CutPost p M v R a' e' G w (.returned (.slice (some ⟨W.heap.size, 0, none⟩) n n)) (W0.setRow W.heap.size (sRow G)) := by
  have hb0 : W0.heap[W.heap.size]? = some (.cells (sRow (List.replicate n (0, 0))) 43 (0, 0)) := by rw [← h0]; exact heap_alloc_new _ _
  have N0 : Below W.heap.size W W0 := by rw [← h0]; exact below_alloc _ _
  have N1 := below_setRow N0 (Nat.le_refl _) (sRow G)
  refine ⟨_, rfl, Or.inr ⟨W.heap.size, by rw [hn], hk.size, setRow_heap W0 W.heap.size _ (sRow G) 43 (0, 0) hb0⟩, h.below N1, hk.trans (Kept.of N1) (Or.inl rfl)⟩
theorem cut_fin0 {p : Nat} {M : Int} {v : Value} {R : List Sn} {a' e' : Nat} {w W : World} (h : GapAt p M v R a' e' W) (hk : Kept p (.slice none 0 0) w W) :
    CutPost p M v R a' e' [] w (.returned (.slice (some ⟨W.heap.size, 0, none⟩) 0 0)) (W.alloc (.cells (sRow []) 43)) :=
  ⟨_, rfl, Or.inr ⟨W.heap.size, rfl, hk.size, heap_alloc_new _ _⟩, h.below (below_alloc _ _), hk.trans (Kept.of (below_alloc _ _)) (Or.inl rfl)⟩
/-- The copy of what goes, be it nothing. -/
theorem cut_cp {w W W0 : World} {r x n : Nat} {R : List Sn} (ad : Option Addr) (hr : W.heap[r]? = some (.cells (sRow R) 43 (0, 0))) (h0 : W.alloc (.cells (sRow (List.replicate n (0, 0))) 43) = W0) (hx : x + n ≤ R.length) (had : n = 0 ∧ ad = some ⟨r, 0, none⟩ ∨ ad = some ⟨r, x * 2, none⟩) :
    (Builtin.copy_ #[28, 28] 3 #[.slice (some ⟨W.heap.size, 0, none⟩) n n, .slice ad n n]).run Try.prog W0 = .ok (goInt n) (W0.setRow W.heap.size (sRow ((R.drop x).take n))) := by
  have hb0 : W0.heap[W.heap.size]? = some (.cells (sRow (List.replicate n (0, 0))) 43 (0, 0)) := by rw [← h0]; exact heap_alloc_new _ _
  have hr0 : W0.heap[r]? = some (.cells (sRow R) 43 (0, 0)) := by rw [← h0]; exact blk_below hr (below_alloc _ _)
  have hl : ((R.drop x).take n).length = n := by rw [List.length_take, List.length_drop]; omega
  rcases had with ⟨rfl, rfl⟩ | rfl
  · have := copy_room (w := W0) 3 (g := W.heap.size) (r := r) (D := List.replicate 0 (0, 0)) (S := R) (o := 0) (x := 0) (dl := 0) (dc := 0) (n := 0) (sc := 0) hb0 hr0 (by simp) (by omega) (by omega)
    rw [cpL_all 0 _ (by rw [List.length_take]; omega)] at this
    exact this
  · have := copy_room (w := W0) 3 (g := W.heap.size) (r := r) (D := List.replicate n (0, 0)) (S := R) (o := 0) (x := x) (dl := n) (dc := n) (n := n) (sc := n) hb0 hr0 (by simp) (by omega) (by omega)
    rw [cpL_all n _ hl, Nat.zero_mul] at this
    exact this
set_option maxHeartbeats 8000000 in
theorem gcut_neg (p : Nat) (M : Int) (v : Value) (R : List Sn) (a e f : Nat) (n : Int) (w : World) (h : GapAt p M v R a e w) (hn : n < 0) (hn2 : -9223372036854775808 ≤ n) (hmax : (if (a : Int) + n < 0 then 0 else (a : Int) + n) = (f : Int)) : Calls Try.prog 15 #[.pointer (some ⟨p, 0, none⟩), .int .i64 n] w (CutPost p M v R f e ((R.drop f).take (a - f)) w) := by
  have h1 := h.le1; have h2 := h.le2; have h3 := h.big
  have hfa : f ≤ a := by split at hmax <;> omega
  have hfi : (f : Int) ≤ a := by omega
  obtain ⟨c0, c1, c2, c3⟩ := h.cells
  have zf := fun i => frozen_of_row _ p i _ _ h.blk
  have HG := Lib.hid h
  have hal : ((R.drop f).take (a - f)).length = a - f := by rw [List.length_take, List.length_drop]; omega
  have HAL := Lib.hid hal
  obtain ⟨i0, hi0, hz0, hz1, hz2⟩ := info_parts infoSign
  have hmk := make_rowN (P := Try.prog) 28 43 i0 _ Try.underlying28 hi0 hz0 (a - f) (by rw [hz2]; omega) (by omega)
  rw [hz1] at hmk
  have hmade : madeCells (Value.agg #[.int .i64 0, .int .i64 0]).cells ((a - f) * 2) = sRow (List.replicate (a - f) (0, 0)) := by rw [show (Value.agg #[.int .i64 0, .int .i64 0]).cells = #[.int .i64 0, .int .i64 0] from rfl, made_signs]
  rw [hmade] at hmk
  clear h hal hmade
  rcases HG.out.room with ⟨hv, hR⟩ | ⟨r, hv, hrp, hr⟩
  · subst hv; subst hR
    have ha0 : a = 0 := by simp at h2; omega
    have he0 : e = 0 := by simp at h2; omega
    have hf0 : f = 0 := by omega
    subst ha0; subst he0; subst hf0
    have hm0 : ∀ w : World, (Instr.makeSlice 28 (.int .i64 0) (.int .i64 0)).run Try.prog w = Result.ok (Value.slice (some ⟨w.heap.size, 0, none⟩) 0 0) (w.alloc (.cells (sRow []) 43)) := hmk
    clear hmk
    have CZ := fun W d s dl dc sc => run_copy_zero (P := Try.prog) W 28 28 3 43 d s dl dc sc Try.underlying28 (by rw [infoSz]; rfl)
    go_enter Try.func15, Try.ntmps15
    go_upto_region 6 with fail
    go_quiet (fail)
    go_upto_region 12 with fail
    have K1 := Lib.hid (((Kept.of (p := p) (v := .slice none 0 0) (Below.refl w.heap.size w)).drew nq).set 2 (.int .i64 0))
    have FN := cut_fin0 (cut_at (HG.out.drew nq) 0 (Nat.le_refl _)) K1.out
    have hsz : ((w.drewN nq).setCell ⟨p, 2, none⟩ (.int .i64 ((0 : Nat) : Int))).heap.size = w.heap.size := by simp [World.setCell, World.drewN]
    rw [hsz] at FN
    replace FN := Lib.hid FN
    clear hsz
    go_wp2
    go_ret
    exact FN.out
  subst hv
  have hR0 := Lib.hid hr
  clear hr
  go_enter Try.func15, Try.ntmps15
  go_upto_region 6 with fail
  go_quiet (fail)
  go_upto_region 12 with fail
  obtain ⟨BA, hBA⟩ : ∃ x : Option Addr, (if a = f then some ⟨r, 0, none⟩ else some ⟨r, f * 2, none⟩) = x := ⟨_, rfl⟩
  simp only [hBA]
  have G1 := Lib.hid (cut_at (HG.out.drew nq) f (by omega))
  have K1 := Lib.hid (((Kept.of (p := p) (v := .slice none 0 0) (Below.refl w.heap.size w)).drew nq).set 2 (.int .i64 (f : Int)))
  have R1 : Hid (((w.drewN nq).setCell ⟨p, 2, none⟩ (.int .i64 (f : Int))).heap[r]? = some (.cells (sRow R) 43 (0, 0))) := Lib.hid ((Below.heap_setCell _ _ _ _ hrp).trans hR0.out)
  have hsz : ((w.drewN nq).setCell ⟨p, 2, none⟩ (.int .i64 (f : Int))).heap.size = w.heap.size := by simp [World.setCell, World.drewN]
  generalize hW0 : World.alloc _ _ = W0
  have cp := cut_cp (w := w) (x := f) BA R1.out hW0 (by omega) (by rw [← hBA]; by_cases h : a = f; exact Or.inl ⟨by omega, if_pos h⟩; exact Or.inr (if_neg h))
  have FN := Lib.hid (cut_fin _ (a - f) HAL.out G1.out K1.out hW0)
  rw [hsz] at cp FN
  clear hW0 hsz hmk hBA
  go_wp2
  go_ret
  exact FN.out
set_option maxHeartbeats 8000000 in
theorem gcut_pos (p : Nat) (M : Int) (v : Value) (R : List Sn) (a e t : Nat) (n : Int) (w : World) (h : GapAt p M v R a e w) (hn : ¬ n < 0) (hn2 : n ≤ 9223372036854775807) (hmin : t = e + min n.toNat (R.length - e)) : Calls Try.prog 15 #[.pointer (some ⟨p, 0, none⟩), .int .i64 n] w (CutPost p M v R a t ((R.drop e).take (t - e)) w) := by
  have h1 := h.le1; have h2 := h.le2; have h3 := h.big
  have hte : e ≤ t := by omega
  have htR : t ≤ R.length := by omega
  have hmx : (e : Int) + (if (R.length : Int) - (e : Int) < n then (R.length : Int) - (e : Int) else n) = (t : Int) := by split <;> omega
  obtain ⟨c0, c1, c2, c3⟩ := h.cells
  have zf := fun i => frozen_of_row _ p i _ _ h.blk
  have HG := Lib.hid h
  have hal : ((R.drop e).take (t - e)).length = t - e := by rw [List.length_take, List.length_drop]; omega
  have HAL := Lib.hid hal
  obtain ⟨i0, hi0, hz0, hz1, hz2⟩ := info_parts infoSign
  have hmk := make_rowN (P := Try.prog) 28 43 i0 _ Try.underlying28 hi0 hz0 (t - e) (by rw [hz2]; omega) (by omega)
  rw [hz1] at hmk
  have hmade : madeCells (Value.agg #[.int .i64 0, .int .i64 0]).cells ((t - e) * 2) = sRow (List.replicate (t - e) (0, 0)) := by rw [show (Value.agg #[.int .i64 0, .int .i64 0]).cells = #[.int .i64 0, .int .i64 0] from rfl, made_signs]
  rw [hmade] at hmk
  clear h hal hmade hmin
  rcases HG.out.room with ⟨hv, hR⟩ | ⟨r, hv, hrp, hr⟩
  · subst hv; subst hR
    have ha0 : a = 0 := by simp at h2; omega
    have he0 : e = 0 := by simp at h2; omega
    have ht0 : t = 0 := by simp at htR; omega
    subst ha0; subst he0; subst ht0
    have hm0 : ∀ w : World, (Instr.makeSlice 28 (.int .i64 0) (.int .i64 0)).run Try.prog w = Result.ok (Value.slice (some ⟨w.heap.size, 0, none⟩) 0 0) (w.alloc (.cells (sRow []) 43)) := hmk
    clear hmk
    have hmx0 : (if 0 < n then (0 : Int) else n) = 0 := by split <;> omega
    have CZ := fun W d s dl dc sc => run_copy_zero (P := Try.prog) W 28 28 3 43 d s dl dc sc Try.underlying28 (by rw [infoSz]; rfl)
    go_enter Try.func15, Try.ntmps15
    go_upto_region 8 with fail
    go_region
    go_upto_region 9 with fail
    go_quiet (fail)
    have K1 := Lib.hid (((Kept.of (p := p) (v := .slice none 0 0) (Below.refl w.heap.size w)).drew (1 + nq)).set 3 (.int .i64 0))
    have FN := cut_fin0 (cut_end (HG.out.drew (1 + nq)) 0 (Nat.le_refl _) (Nat.zero_le _)) K1.out
    have hsz : ((w.drewN (1 + nq)).setCell ⟨p, 3, none⟩ (.int .i64 ((0 : Nat) : Int))).heap.size = w.heap.size := by simp [World.setCell, World.drewN]
    rw [hsz] at FN
    replace FN := Lib.hid FN
    clear hsz
    go_upto_region 12 with fail
    go_wp2
    go_ret
    exact FN.out
  subst hv
  have hR0 := Lib.hid hr
  clear hr
  go_enter Try.func15, Try.ntmps15
  go_upto_region 8 with fail
  go_region
  go_upto_region 9 with fail
  go_quiet (fail)
  go_upto_region 12 with fail
  obtain ⟨BA, hBA⟩ : ∃ x : Option Addr, (if t = e then some ⟨r, 0, none⟩ else some ⟨r, e * 2, none⟩) = x := ⟨_, rfl⟩
  simp only [hBA]
  have G1 := Lib.hid (cut_end (HG.out.drew (1 + nq)) t (by omega) htR)
  have K1 := Lib.hid (((Kept.of (p := p) (v := .slice none 0 0) (Below.refl w.heap.size w)).drew (1 + nq)).set 3 (.int .i64 (t : Int)))
  have R1 : Hid (((w.drewN (1 + nq)).setCell ⟨p, 3, none⟩ (.int .i64 (t : Int))).heap[r]? = some (.cells (sRow R) 43 (0, 0))) := Lib.hid ((Below.heap_setCell _ _ _ _ hrp).trans hR0.out)
  have hsz : ((w.drewN (1 + nq)).setCell ⟨p, 3, none⟩ (.int .i64 (t : Int))).heap.size = w.heap.size := by simp [World.setCell, World.drewN]
  generalize hW0 : World.alloc _ _ = W0
  have cp := cut_cp (w := w) (x := e) BA R1.out hW0 (by omega) (by rw [← hBA]; by_cases h : t = e; exact Or.inl ⟨by omega, if_pos h⟩; exact Or.inr (if_neg h))
  have FN := Lib.hid (cut_fin _ (t - e) HAL.out G1.out K1.out hW0)
  rw [hsz] at cp FN
  clear hW0 hsz hmk hBA
  go_wp2
  all_goals (go_ret; exact FN.out)
end Go.Proofs.Ytfmcgdjjcdlmeaa
