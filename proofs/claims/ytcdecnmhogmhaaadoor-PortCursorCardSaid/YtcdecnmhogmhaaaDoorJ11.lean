/-
  Joined: R30 R32 R33.
-/
import Derived.Test.YtcdecnmhogmhaaaDoorJ05
import Derived.Test.YtcdecnmhogmhaaaDoorJ07
import Derived.Test.YtcdecnmhogmhaaaDoorJ09
import Derived.Test.YtcdecnmhogmhaaaDoorJ10
set_option linter.unusedVariables false
set_option linter.unusedSimpArgs false
set_option maxRecDepth 100000
set_option linter.unusedVariables false
set_option linter.unusedSimpArgs false
namespace Go.Proofs.YtcdecnmhogmhaaaDoor
open Go.RowKit
def aw9p : List (Int × Int) := [(36, 5)]
def aw9l : List (Int × Int) := [(97, 0), (98, 0)]
def aw9R : List (List Cl) := scR (vwOf aw9p aw9l) 4 (topP (vwOf aw9p aw9l) 4 2 2) 2
def aw9B : List (List Cl) := filR [] 4 2
theorem aw9_facts : sgC aw9p = true ∧ sgC aw9l = true ∧ curP (vwOf aw9p aw9l) 4 2 = (0, 3) ∧ topP (vwOf aw9p aw9l) 4 2 2 = 0 ∧ aw9R.length = 2 ∧ (aw9R.getD 0 []).length = 4 ∧ (aw9R.getD 1 []).length = 4 ∧ ((aw9R.getD 0 []).getD 1 cl0).1 = 97 ∧ lenN (aw9R.getD 0 []) 4 = 3 ∧ rowsS aw9R aw9R = true ∧ topN 9 8 4 = 5 := by decide +kernel
theorem aw9_full : ∀ i, i < 2 → (aw9R.getD i []).length = 4 ∧ FullOk (aw9R.getD i []) := fun i hi => by
  have h := aw9_facts
  refine ⟨by rcases (by omega : i = 0 ∨ i = 1) with rfl | rfl; exact h.2.2.2.2.2.1; exact h.2.2.2.2.2.2.1, ?_⟩
  unfold aw9R
  rw [scR_at _ _ _ _ i hi]
  apply full_ok
  have hok := rowOk_vw aw9p aw9l
  generalize topP (vwOf aw9p aw9l) 4 2 2 = t
  by_cases hl : t + i < (lyRows (vwOf aw9p aw9l) (4 : Nat)).length
  · rw [← lyRows_at _ _ _ hl, getD_lt hl]
    exact (lyRows_ok (L := vwOf aw9p aw9l) (w := ((4 : Nat) : Int)) (by decide) (rowOk_lay hok)).2 (by decide) hok _ (List.getElem_mem _)
  · rw [lyRows_more _ (by omega)]; exact rowOk_nil
/-- What awake holds: the tables, its screen, its rows. -/
structure A9 (w : World) (sb g h0 rc : Nat) : Prop where
  t : Tabs w
  s : w.heap[sb]? = some (.cells #[.int .i64 4, .int .i64 2, .slice (some ⟨g, 0, none⟩) 2 2, .int .i64 0, .int .i64 3] 28 (0, 0))
  r : RowsB w g aw9R
  r0 : w.cell? ⟨g, 0, none⟩ = some (.slice (some ⟨h0, 0, none⟩) 4 rc)
  h : w.heap[h0]? = some (.cells (cRow (aw9R.getD 0 [])) 51 (0, 0))
theorem A9.below {w w' : World} {sb g h0 rc : Nat} (h : A9 w sb g h0 rc) (hb : Below w.heap.size w w') : A9 w' sb g h0 rc :=
  ⟨h.t.below hb, blk_below h.s hb, h.r.below hb, by
    obtain ⟨⟨cs, hc⟩, _⟩ := h.r
    exact (hb.cell (p := ⟨g, 0, none⟩) (blk_lt hc)).trans h.r0, blk_below h.h hb⟩
theorem A9.cells {w : World} {sb g h0 rc : Nat} (h : A9 w sb g h0 rc) : w.cell? ⟨sb, 0, none⟩ = some (.int .i64 4) ∧ w.cell? ⟨sb, 1, none⟩ = some (.int .i64 2) ∧ w.cell? ⟨sb, 2, none⟩ = some (.slice (some ⟨g, 0, none⟩) 2 2) ∧ w.cell? ⟨sb, 3, none⟩ = some (.int .i64 0) ∧ w.cell? ⟨sb, 4, none⟩ = some (.int .i64 3) ∧ w.cell? ⟨h0, 5, none⟩ = some (.int .i64 97) := by
  have f := aw9_facts
  have c := fun i => cell_of_row _ _ i _ _ _ h.s
  refine ⟨by rw [c]; rfl, by rw [c]; rfl, by rw [c]; rfl, by rw [c]; rfl, by rw [c]; rfl, ?_⟩
  have := cells_of_blk h.h 1 (by rw [f.2.2.2.2.2.1]; decide)
  obtain ⟨b, off, e, _, c1, _⟩ := this
  obtain ⟨rfl, rfl⟩ : h0 = b ∧ 0 = off := by simpa using e
  rw [f.2.2.2.2.2.2.2.1] at c1
  simpa using c1
/-- .. and its blank screen. -/
structure AB9 (w : World) (sx g h0 rc bx g2 : Nat) : Prop where
  a : A9 w sx g h0 rc
  b : w.heap[bx]? = some (.cells #[.int .i64 4, .int .i64 2, .slice (some ⟨g2, 0, none⟩) 2 2, .int .i64 0, .int .i64 0] 28 (0, 0))
  q : RowsB w g2 aw9B
theorem AB9.below {w w' : World} {sx g h0 rc bx g2 : Nat} (h : AB9 w sx g h0 rc bx g2) (hb : Below w.heap.size w w') : AB9 w' sx g h0 rc bx g2 := ⟨h.a.below hb, blk_below h.b hb, h.q.below hb⟩
theorem AB9.cells {w' : World} {sx g h0 rc bx g2 : Nat} (h : AB9 w' sx g h0 rc bx g2) : w'.cell? ⟨sx, 0, none⟩ = some (.int .i64 4) ∧ w'.cell? ⟨sx, 1, none⟩ = some (.int .i64 2) ∧ w'.cell? ⟨sx, 2, none⟩ = some (.slice (some ⟨g, 0, none⟩) 2 2) ∧ w'.cell? ⟨sx, 3, none⟩ = some (.int .i64 0) ∧ w'.cell? ⟨sx, 4, none⟩ = some (.int .i64 3) ∧ w'.cell? ⟨h0, 5, none⟩ = some (.int .i64 97) ∧ w'.cell? ⟨g, 0, none⟩ = some (.slice (some ⟨h0, 0, none⟩) 4 rc) ∧ w'.cell? ⟨bx, 0, none⟩ = some (.int .i64 4) ∧ w'.cell? ⟨bx, 1, none⟩ = some (.int .i64 2) ∧ w'.cell? ⟨bx, 2, none⟩ = some (.slice (some ⟨g2, 0, none⟩) 2 2) ∧ w'.cell? ⟨bx, 3, none⟩ = some (.int .i64 0) ∧ w'.cell? ⟨bx, 4, none⟩ = some (.int .i64 0) := by
  obtain ⟨c0, c1, c2, c3, c4, c5⟩ := h.a.cells
  have c := fun i => cell_of_row _ _ i _ _ _ h.b
  exact ⟨c0, c1, c2, c3, c4, c5, h.a.r0, by rw [c]; rfl, by rw [c]; rfl, by rw [c]; rfl, by rw [c]; rfl, by rw [c]; rfl⟩
theorem aw9_scr (w : World) (a b : Option Addr) (c d : Nat) (ha : Signs w a aw9p) (hb : Signs w b aw9l) (hT : Tabs w) : Calls Tryd.prog 14 #[.slice a 1 c, .slice b 2 d, .int .i64 2, .int .i64 4, .int .i64 2] w fun e w' => ∃ g : Nat, e = .returned (.tuple #[.agg #[.int .i64 4, .int .i64 2, .slice (some ⟨g, 0, none⟩) 2 2, .int .i64 0, .int .i64 3], .int .i64 0]) ∧ RowsB w' g aw9R ∧ Below w.heap.size w w' := by
  have f := aw9_facts
  refine (scr_any aw9p aw9l a b c d 2 4 2 w (by decide) (by decide) ha hb hT (by decide) (by decide) (by decide) (by decide) (by decide) f.1 f.2.1).mono ?_
  rintro e w' ⟨g, rfl, hr, hb⟩
  refine ⟨g, ?_, hr, hb⟩
  rw [f.2.2.1, f.2.2.2.1]; rfl
theorem aw9_blank (w : World) : Calls Tryd.prog 60 #[.int .i64 4, .int .i64 2] w fun e w' => ∃ g : Nat, e = .returned (.tuple #[.agg #[.int .i64 4, .int .i64 2, .slice (some ⟨g, 0, none⟩) 2 2, .int .i64 0, .int .i64 0], .int .i64 0]) ∧ RowsB w' g aw9B ∧ Below w.heap.size w w' :=
  blank_any 4 2 w (by decide) (by decide) (by decide) (by decide)
theorem aw9_len (w : World) (a : Option Addr) (c : Nat) (h : CellsIn w a (aw9R.getD 0 [])) : Calls Tryd.prog 61 #[.slice a 4 c] w fun e w' => e = .returned (.int .i64 3) ∧ Below w.heap.size w w' := by
  have f := aw9_facts
  have := len_any (aw9R.getD 0 []) a c w (by rw [f.2.2.2.2.2.1]; decide) h
  rw [f.2.2.2.2.2.1, f.2.2.2.2.2.2.2.2.1] at this
  refine this.mono ?_
  rintro e w' ⟨rfl, h⟩
  exact ⟨rfl, by first | exact h | (subst h; exact Below.refl _ _)⟩
theorem aw9_check (w : World) (g : Nat) (hr : RowsB w g aw9R) (hT : Tabs w) : Calls Tryd.prog 21 #[.agg #[.int .i64 4, .int .i64 2, .slice (some ⟨g, 0, none⟩) 2 2, .int .i64 0, .int .i64 3]] w fun e w' => e = .returned (.int .i64 0) ∧ Below w.heap.size w w' :=
  check_any 4 2 0 3 aw9R (some ⟨g, 0, none⟩) 2 w (by decide) (by decide) (by decide) (by decide) (by decide) (by decide) aw9_facts.2.2.2.2.1 aw9_full hr.rows.rows hT
theorem aw9_same (w : World) (g g2 : Nat) (hr : RowsB w g aw9R) (hr2 : RowsB w g2 aw9R) : Calls Tryd.prog 24 #[.agg #[.int .i64 4, .int .i64 2, .slice (some ⟨g, 0, none⟩) 2 2, .int .i64 0, .int .i64 3], .agg #[.int .i64 4, .int .i64 2, .slice (some ⟨g2, 0, none⟩) 2 2, .int .i64 0, .int .i64 3]] w fun e w' => e = .returned (.bool true) ∧ Below w.heap.size w w' := by
  have f := aw9_facts
  have hl : ∀ i, i < aw9R.length → (aw9R.getD i []).length ≤ 100000 := fun i hi => by rw [(aw9_full i (by rw [f.2.2.2.2.1] at hi; exact hi)).1]; decide
  have := psame_any 4 2 0 3 4 2 0 3 aw9R aw9R (some ⟨g, 0, none⟩) (some ⟨g2, 0, none⟩) 2 2 w (by rw [f.2.2.2.2.1]; decide) (by rw [f.2.2.2.2.1]; decide) hl hl hr.rows.rows hr2.rows.rows
  rw [f.2.2.2.2.1] at this
  refine this.mono ?_
  rintro e w' ⟨rfl, h⟩
  refine ⟨?_, h⟩
  rcases scrS_cases 4 2 0 3 4 2 0 3 aw9R aw9R with ⟨h1, _⟩ | ⟨_, h2⟩
  · rw [h1, f.2.2.2.2.2.2.2.2.2.1]
  · exact absurd h2 (by simp)
theorem aw9_not (w : World) (g g2 : Nat) (hr : RowsB w g aw9R) (hr2 : RowsB w g2 aw9B) : Calls Tryd.prog 24 #[.agg #[.int .i64 4, .int .i64 2, .slice (some ⟨g, 0, none⟩) 2 2, .int .i64 0, .int .i64 3], .agg #[.int .i64 4, .int .i64 2, .slice (some ⟨g2, 0, none⟩) 2 2, .int .i64 0, .int .i64 0]] w fun e w' => e = .returned (.bool false) ∧ Below w.heap.size w w' := by
  have f := aw9_facts
  have hl : ∀ i, i < aw9R.length → (aw9R.getD i []).length ≤ 100000 := fun i hi => by rw [(aw9_full i (by rw [f.2.2.2.2.1] at hi; exact hi)).1]; decide
  have hB : aw9B.length = 2 := filR_len _ _ _
  have hl2 : ∀ i, i < aw9B.length → (aw9B.getD i []).length ≤ 100000 := fun i hi => by
    have hi : i < 2 := by rw [hB] at hi; exact hi
    unfold aw9B
    rw [filR_at _ _ _ _ hi, fillN_len, List.getD_nil]
    decide
  have := psame_any 4 2 0 3 4 2 0 0 aw9R aw9B (some ⟨g, 0, none⟩) (some ⟨g2, 0, none⟩) 2 2 w (by rw [f.2.2.2.2.1]; decide) (by rw [hB]; decide) hl hl2 hr.rows.rows hr2.rows.rows
  rw [f.2.2.2.2.1, hB] at this
  refine this.mono ?_
  rintro e w' ⟨rfl, h⟩
  exact ⟨rfl, h⟩
theorem aw9_copy (w : World) (g : Nat) (hr : RowsB w g aw9R) : Calls Tryd.prog 62 #[.agg #[.int .i64 4, .int .i64 2, .slice (some ⟨g, 0, none⟩) 2 2, .int .i64 0, .int .i64 3]] w fun e w' => ∃ g2 : Nat, e = .returned (.agg #[.int .i64 4, .int .i64 2, .slice (some ⟨g2, 0, none⟩) 2 2, .int .i64 0, .int .i64 3]) ∧ RowsB w' g2 aw9R ∧ Below w.heap.size w w' := by
  have f := aw9_facts
  have hl : ∀ i, (aw9R.getD i []).length ≤ 1000 := fun i => by
    by_cases hi : i < 2
    · rw [(aw9_full i hi).1]; decide
    · rw [List.getD, List.getElem?_eq_none (by rw [f.2.2.2.2.1]; omega)]; exact Nat.zero_le _
  have := pcopy_any 4 2 0 3 aw9R (some ⟨g, 0, none⟩) 2 w (by rw [f.2.2.2.2.1]; decide) hl hr.rows
  rwa [f.2.2.2.2.1] at this
theorem aw9_top (w : World) : Calls Tryd.prog 63 #[.int .i64 9, .int .i64 8, .int .i64 4] w fun e w' => e = .returned (.int .i64 5) ∧ Below w.heap.size w w' := by
  have := top_any 9 8 4 w (by decide) (by decide) (by decide)
  refine this.mono ?_
  rintro e w' ⟨rfl, rfl⟩
  exact ⟨rfl, Below.refl _ _⟩
set_option maxHeartbeats 8000000 in
theorem pawake_any (w : World) (hT : Tabs w) : Calls Tryd.prog 13 #[] w fun e w' => e = .returned (.bool true) ∧ Below w.heap.size w w' := by
  have b1 := below_alloc w (.cells (sRow aw9p) 53)
  have b2 := below_alloc (w.alloc (.cells (sRow aw9p) 53)) (.cells (sRow aw9l) 53)
  have HS := Lib.hid ((signs_new w aw9p 53).below b2)
  have HL := Lib.hid (signs_new (w.alloc (.cells (sRow aw9p) 53)) aw9l 53)
  have hsz : (w.alloc (.cells (sRow aw9p) 53)).heap.size = w.heap.size + 1 := by simp
  rw [hsz] at HL
  have B12 := seqB b1 b2
  have HT := Lib.hid (hT.below B12)
  rw [show sRow aw9p = #[.int .i64 36, .int .i64 5] from rfl, show sRow aw9l = #[.int .i64 97, .int .i64 0, .int .i64 98, .int .i64 0] from rfl] at *
  have SC := Lib.hid (fun c d => aw9_scr _ _ _ c d HS.out HL.out HT.out)
  clear hT b1 b2 hsz
  go_enter Tryd.func13, Tryd.ntmps13
  go_upto_region 3 with (go_at_call 14; refine (SC.out _ _).mono ?_; rintro e w1 ⟨g, rfl, hr, hb1⟩)
  have K0 := heap_alloc_new w1 (.cells #[.int .i64 4, .int .i64 2, .slice (some ⟨g, 0, none⟩) 2 2, .int .i64 0, .int .i64 3] 28)
  have B1 := below_alloc w1 (.cells #[.int .i64 4, .int .i64 2, .slice (some ⟨g, 0, none⟩) 2 2, .int .i64 0, .int .i64 3] 28)
  have R1 := hr.below B1
  have T1 := (HT.out.below hb1).below B1
  obtain ⟨h0, rc, x1, x2⟩ := R1.2 0 (by rw [aw9_facts.2.2.2.2.1]; decide)
  rw [aw9_facts.2.2.2.2.2.1] at x1
  have KK := Lib.hid (⟨T1, K0, R1, x1, x2⟩ : A9 _ w1.heap.size g h0 rc)
  have NW := seqB (seqB B12 hb1) (below_alloc w1 (.cells #[.int .i64 4, .int .i64 2, .slice (some ⟨g, 0, none⟩) 2 2, .int .i64 0, .int .i64 3] 28))
  clear K0 B1 R1 T1 x1 x2 SC HS HL HT hr
  generalize hsx : w1.heap.size = sx at *
  go_upto_region 4 with (go_at_call 60; refine (aw9_blank _).mono ?_; rintro e w2 ⟨g2, rfl, hr2, hb2⟩)
  have B3 := below_alloc w2 (.cells #[.int .i64 4, .int .i64 2, .slice (some ⟨g2, 0, none⟩) 2 2, .int .i64 0, .int .i64 0] 28)
  have L3 := Lib.hid (⟨(KK.out.below hb2).below B3, heap_alloc_new w2 _, hr2.below B3⟩ : AB9 (w2.alloc (.cells #[.int .i64 4, .int .i64 2, .slice (some ⟨g2, 0, none⟩) 2 2, .int .i64 0, .int .i64 0] 28)) sx g h0 rc w2.heap.size g2)
  have N3 := seqB (seqB NW hb2) B3
  have c3 := L3.out.cells
  clear hr2 hb2 B3 NW KK
  generalize w2.alloc (.cells #[.int .i64 4, .int .i64 2, .slice (some ⟨g2, 0, none⟩) 2 2, .int .i64 0, .int .i64 0] 28) = W3 at *
  generalize w2.heap.size = bx at *
  have L3d := Lib.hid (show AB9 W3.drew sx g h0 rc bx g2 from ⟨⟨L3.out.a.t.below (Below.refl _ W3).drew, L3.out.a.s, L3.out.a.r, L3.out.a.r0, L3.out.a.h⟩, L3.out.b, L3.out.q⟩)
  simp only [List.append]
  go_region_held3 (fun w' => w'.cell? ⟨sx, 0, none⟩ = some (.int .i64 4) ∧ w'.cell? ⟨sx, 1, none⟩ = some (.int .i64 2) ∧ w'.cell? ⟨sx, 2, none⟩ = some (.slice (some ⟨g, 0, none⟩) 2 2) ∧ w'.cell? ⟨sx, 3, none⟩ = some (.int .i64 0) ∧ w'.cell? ⟨sx, 4, none⟩ = some (.int .i64 3) ∧ w'.cell? ⟨h0, 5, none⟩ = some (.int .i64 97) ∧ w'.cell? ⟨g, 0, none⟩ = some (.slice (some ⟨h0, 0, none⟩) 4 rc) ∧ w'.cell? ⟨bx, 0, none⟩ = some (.int .i64 4) ∧ w'.cell? ⟨bx, 1, none⟩ = some (.int .i64 2) ∧ w'.cell? ⟨bx, 2, none⟩ = some (.slice (some ⟨g2, 0, none⟩) 2 2) ∧ w'.cell? ⟨bx, 3, none⟩ = some (.int .i64 0) ∧ w'.cell? ⟨bx, 4, none⟩ = some (.int .i64 0))
    (first | exact c3 | exact L4.out.cells | exact L5.out.cells | exact L6.out.cells | exact L7.out.cells | exact L8.out.cells | exact L9.out.cells)
    (first
      | (go_at_call 61; refine (aw9_len _ _ _ (cells_of_blk L3d.out.a.h)).mono ?_; rintro e w4 ⟨rfl, hb4⟩; have L4 := Lib.hid (L3d.out.below hb4))
      | (go_at_call 21; refine (aw9_check _ _ L4.out.a.r L4.out.a.t).mono ?_; rintro e w5 ⟨rfl, hb5⟩; have L5 := Lib.hid (L4.out.below hb5))
      | (go_at_call 24; (with_reducible refine (aw9_not _ _ _ L5.out.a.r L5.out.q).mono ?_); rintro e w6 ⟨rfl, hb6⟩; have L6 := Lib.hid (L5.out.below hb6))
      | (go_at_call 62; refine (aw9_copy _ _ L6.out.a.r).mono ?_; rintro e w7 ⟨g7, rfl, hr7, hb7⟩; have L7 := Lib.hid (L6.out.below hb7))
      | (go_at_call 24; (with_reducible refine (aw9_same _ _ _ L7.out.a.r hr7).mono ?_); rintro e w8 ⟨rfl, hb8⟩; have L8 := Lib.hid (L7.out.below hb8))
      | (go_at_call 63; refine (aw9_top _).mono ?_; rintro e w9 ⟨rfl, hb9⟩; have L9 := Lib.hid (L8.out.below hb9)))
  clear c3 L3 L3d L4 L5 L6 L7 L8 L9
  go_wp2
  go_ret
  exact ⟨rfl, seqB (seqB (seqB (seqB (seqB (seqB N3.drew hb4) hb5) hb6) hb7) hb8) hb9⟩
end Go.Proofs.YtcdecnmhogmhaaaDoor
set_option linter.unusedVariables false
set_option linter.unusedSimpArgs false
namespace Go.Proofs.YtcdecnmhogmhaaaDoor
open Go.RowKit
/-- A screen of given sides. -/
theorem scr_good (p l : List (Int × Int)) (a b : Option Addr) (c d at_ wd h : Nat) (w : World) (hp : p.length ≤ 1000) (hl : l.length ≤ 1000) (ha : Signs w a p) (hb : Signs w b l) (hT : Tabs w) (hat : at_ ≤ l.length) (hw1 : 2 ≤ wd) (hw2 : wd ≤ 1000) (hh1 : 1 ≤ h) (hh2 : h ≤ 1000) (hP : sgC p = true) (hL : sgC l = true) :
    ∃ (R C : Nat) (rows : List (List Cl)), R < h ∧ C < wd ∧ rows.length = h ∧ (∀ i, i < h → (rows.getD i []).length = wd ∧ FullOk (rows.getD i [])) ∧ ((at_ < l.length → ∃ v a, (rows.getD R []).getD C cl0 = (v, a, (at_ : Int), (l.getD at_ (0, 0)).1, 0)) ∧ (at_ = l.length → (rows.getD R []).getD C cl0 = clB)) ∧
    Calls Tryd.prog 14 #[.slice a p.length c, .slice b l.length d, .int .i64 at_, .int .i64 wd, .int .i64 h] w fun e w' => ∃ g : Nat, e = .returned (.tuple #[.agg #[.int .i64 wd, .int .i64 h, .slice (some ⟨g, 0, none⟩) h h, .int .i64 R, .int .i64 C], .int .i64 0]) ∧ RowsB w' g rows ∧ Below w.heap.size w w' := by
  obtain ⟨r, cc, hc, h1, h2, h3, _⟩ := cur_what (L := vwOf p l) (w := wd) (at_ := at_) (h := h) hw1 hh1 (rowOk_lay (rowOk_vw p l))
  have hcl := cur_line (p := p) (l := l) (w := wd) (at_ := at_) (h := h) hw1 hh1 hL hat
  refine ⟨r - topP (vwOf p l) wd at_ h, cc, scR (vwOf p l) wd (topP (vwOf p l) wd at_ h) h, h2, h3, scR_len _ _ _ _, scr_full p l hw1 _ h, ?_, ?_⟩
  · unfold curC at hcl
    rw [hc] at hcl
    exact hcl
  · refine (scr_any p l a b c d at_ wd h w hp hl ha hb hT hat (by omega) hw2 hh1 hh2 hP hL).mono ?_
    rintro e w' ⟨g, rfl, hr, hb⟩
    refine ⟨g, ?_, hr, hb⟩
    rw [hc]
    show Ending.returned (.tuple #[.agg #[_, _, _, .int .i64 ((r : Int) - topP (vwOf p l) wd at_ h), _], _]) = _
    rw [show (r : Int) - topP (vwOf p l) wd at_ h = ((r - topP (vwOf p l) wd at_ h : Nat) : Int) by omega]
set_option maxHeartbeats 8000000 in
theorem portcursor_any (p l : List (Int × Int)) (a b : Option Addr) (c d : Nat) (at_ wd h : Int) (w : World) (hT : Tabs w) (hmp : p.length ≤ 9223372036854775807) (hml : l.length ≤ 9223372036854775807) (ha : Signs w a p) (hb : Signs w b l) :
    Calls Tryd.prog 5 #[.agg #[.slice a p.length c, .slice b l.length d, .int .i64 at_, .int .i64 wd, .int .i64 h]] w fun e w' => e = .returned (.bool true) ∧ Below w.heap.size w w' := by
  have B0 := below_alloc w (.cells #[.slice a p.length c, .slice b l.length d, .int .i64 at_, .int .i64 wd, .int .i64 h] 24)
  have HA := Lib.hid (ha.below B0); have HB := Lib.hid (hb.below B0); have HT := Lib.hid (hT.below B0)
  have AW := Lib.hid fun w (h : Tabs w) => pawake_any w h
  have q0 := Lib.hid (heap_alloc_new w (.cells #[.slice a p.length c, .slice b l.length d, .int .i64 at_, .int .i64 wd, .int .i64 h] 24))
  clear ha hb hT
  by_cases a1 : 30 < p.length
  · have a1' : (30 : Int) < p.length := by omega
    go_enter Tryd.func5, Tryd.ntmps5
    go_wp2_with (go_at_call 13; refine (AW.out _ HT.out).mono ?_; rintro e w2 ⟨rfl, hb2⟩)
    go_ret
    exact ⟨rfl, seqB B0 hb2⟩
  · by_cases a2 : 60 < l.length
    · have a2' : (60 : Int) < l.length := by omega
      go_enter Tryd.func5, Tryd.ntmps5
      go_wp2_with (go_at_call 13; refine (AW.out _ HT.out).mono ?_; rintro e w2 ⟨rfl, hb2⟩)
      go_ret
      exact ⟨rfl, seqB B0 hb2⟩
    · by_cases a3 : wd < 2
      · go_enter Tryd.func5, Tryd.ntmps5
        go_wp2_with (go_at_call 13; refine (AW.out _ HT.out).mono ?_; rintro e w2 ⟨rfl, hb2⟩)
        go_ret
        exact ⟨rfl, seqB B0 hb2⟩
      · by_cases a4 : 80 < wd
        · go_enter Tryd.func5, Tryd.ntmps5
          go_wp2_with (go_at_call 13; refine (AW.out _ HT.out).mono ?_; rintro e w2 ⟨rfl, hb2⟩)
          go_ret
          exact ⟨rfl, seqB B0 hb2⟩
        · by_cases a5 : 40 < h
          · go_enter Tryd.func5, Tryd.ntmps5
            go_wp2_with (go_at_call 13; refine (AW.out _ HT.out).mono ?_; rintro e w2 ⟨rfl, hb2⟩)
            go_ret
            exact ⟨rfl, seqB B0 hb2⟩
          · have a1' : ¬ (30 : Int) < p.length := by omega
            have a2' : ¬ (60 : Int) < l.length := by omega
            by_cases hbad : at_ < 0 ∨ (l.length : Int) < at_ ∨ sideB wd = false ∨ sideB h = false
            · have SR := Lib.hid (scr_range p l a b c d at_ wd h (w.alloc (.cells #[.slice a p.length c, .slice b l.length d, .int .i64 at_, .int .i64 wd, .int .i64 h] 24)) (by omega) hbad)
              clear hbad
              go_enter Tryd.func5, Tryd.ntmps5
              go_wp2_with (first
                | (go_at_call 14; refine SR.out.mono ?_; rintro e w1 ⟨rfl, hb1⟩; have HT1 := Lib.hid ((HT.out.below hb1).below (below_alloc w1 (.cells #[.int .i64 0, .int .i64 0, .slice none 0 0, .int .i64 0, .int .i64 0] 28))))
                | (go_at_call 13; refine (AW.out _ HT1.out).mono ?_; rintro e w2 ⟨rfl, hb2⟩))
              go_ret
              exact ⟨rfl, seqB (seqB (seqB B0 hb1) (below_alloc _ _)) hb2⟩
            · obtain ⟨n1, n2, n3, n4⟩ : ¬ at_ < 0 ∧ ¬ (l.length : Int) < at_ ∧ ¬ sideB wd = false ∧ ¬ sideB h = false := ⟨fun e => hbad (Or.inl e), fun e => hbad (Or.inr (Or.inl e)), fun e => hbad (Or.inr (Or.inr (Or.inl e))), fun e => hbad (Or.inr (Or.inr (Or.inr e)))⟩
              have hh : 1 ≤ h := by
                rcases sideB_cases h with ⟨x, _, _⟩ | ⟨_, x⟩ | ⟨x, _, _⟩
                · exact x
                · exact absurd x n4
                · exact x
              obtain ⟨at', rfl⟩ := Int.eq_ofNat_of_zero_le (show 0 ≤ at_ by omega)
              obtain ⟨wd', rfl⟩ := Int.eq_ofNat_of_zero_le (show 0 ≤ wd by omega)
              obtain ⟨h', rfl⟩ := Int.eq_ofNat_of_zero_le (show 0 ≤ h by omega)
              clear hbad n1 n3 n4
              by_cases hS : (sgC p && sgC l) = false
              · have SR := Lib.hid (scr_arg p l a b c d at' wd' h' (w.alloc (.cells #[.slice a p.length c, .slice b l.length d, .int .i64 at', .int .i64 wd', .int .i64 h'] 24)) (by omega) (by omega) HA.out HB.out (by omega) (by omega) (by omega) (by omega) (by omega) hS)
                clear hS
                go_enter Tryd.func5, Tryd.ntmps5
                go_wp2_with (first
                  | (go_at_call 14; refine SR.out.mono ?_; rintro e w1 ⟨rfl, hb1⟩; have HT1 := Lib.hid ((HT.out.below hb1).below (below_alloc w1 (.cells #[.int .i64 0, .int .i64 0, .slice none 0 0, .int .i64 0, .int .i64 0] 28))))
                  | (go_at_call 13; refine (AW.out _ HT1.out).mono ?_; rintro e w2 ⟨rfl, hb2⟩))
                go_ret
                exact ⟨rfl, seqB (seqB (seqB B0 hb1) (below_alloc _ _)) hb2⟩
              · have hPL : sgC p = true ∧ sgC l = true := by
                  cases h1 : sgC p <;> cases h2 : sgC l <;> simp [h1, h2] at hS ⊢
                obtain ⟨R, C, rows, hR, hC, hrl, hrf, hcur, SR⟩ := scr_good p l a b c d at' wd' h' (w.alloc (.cells #[.slice a p.length c, .slice b l.length d, .int .i64 at', .int .i64 wd', .int .i64 h'] 24)) (by omega) (by omega) HA.out HB.out HT.out (by omega) (by omega) (by omega) (by omega) (by omega) hPL.1 hPL.2
                have MY := Lib.hid (fun g w2 (h2 : RowsB w2 g rows) => may_ref wd' h' R C rows (some ⟨g, 0, none⟩) h' w2 (by omega) (by omega) (by omega) (by omega) hR hC hrl hrf h2.rows.rows)
                have HRF := Lib.hid hrf; have HCU := Lib.hid hcur
                replace SR := Lib.hid SR
                have hatl : at' ≤ l.length := by omega
                clear hS hrf hcur hPL
                go_enter Tryd.func5, Tryd.ntmps5
                go_upto_region 8 with (first
                  | (go_at_call 14; refine SR.out.mono ?_; rintro e w1 ⟨g, rfl, hr1, hb1⟩; have B2 := below_alloc w1 (.cells #[.int .i64 wd', .int .i64 h', .slice (some ⟨g, 0, none⟩) h' h', .int .i64 R, .int .i64 C] 28); have hr2 := Lib.hid (hr1.below B2); have k2 := heap_alloc_new w1 (.cells #[.int .i64 wd', .int .i64 h', .slice (some ⟨g, 0, none⟩) h' h', .int .i64 R, .int .i64 C] 28))
                  | (go_at_call 20; refine (MY.out g _ hr2.out).mono ?_; rintro e w3 ⟨rfl, hb3⟩; have k3 := blk_below k2 hb3; have q3 := blk_below (blk_below (blk_below q0.out hb1) B2) hb3; have y := fun i => cell_of_row _ _ i _ _ _ k3; have y1 := y 1; have x := fun i => cell_of_row _ _ i _ _ _ q3; have x4 := x 4; clear y x; dsimp at y1 x4))
                have hr3 := hr2.out.below hb3
                obtain ⟨x, rc, x1, x2⟩ := hr3.2 R (by omega)
                have hlenR := (HRF.out R hR).1
                have hxlt := blk_lt x2
                have hglt : g < w3.heap.size := by obtain ⟨⟨cs, hcs⟩, _⟩ := hr3; exact blk_lt hcs
                obtain ⟨bx, ox, ex, _, v1, v2, v3, v4, v5⟩ := cells_of_blk x2 C (by rw [hlenR]; exact hC)
                obtain ⟨rfl, rfl⟩ : x = bx ∧ 0 = ox := by simpa using ex
                rw [hlenR] at x1
                rw [Nat.zero_add] at v1 v2 v3 v4 v5
                have yy := fun i => cell_of_row _ _ i _ _ _ k3
                have s2 := yy 2; have s3 := yy 3; have s4 := yy 4
                dsimp at s2 s3 s4
                have xx := fun i => cell_of_row _ _ i _ _ _ q3
                have N3 := seqB (seqB (seqB B0 hb1) B2) hb3
                have HT3 := Lib.hid (((HT.out.below hb1).below B2).below hb3)
                have HB3 := Lib.hid (((HB.out.below hb1).below B2).below hb3)
                have hRi : (R : Int) < h' := by omega
                have hRi0 : (0 : Int) ≤ R := by omega
                have hCi : (C : Int) < wd' := by omega
                have hCi0 : (0 : Int) ≤ C := by omega
                obtain ⟨cv, ca, co, cf, ck, hcell⟩ : ∃ cv ca co cf ck, (rows.getD R []).getD C cl0 = (cv, ca, co, cf, ck) := ⟨_, _, _, _, _, rfl⟩
                have hcu := HCU.out
                rw [hcell] at v1 v2 v3 v4 v5 hcu
                simp only at v1 v2 v3 v4 v5
                generalize hsx : w1.heap.size = sx at *
                have hsxl := blk_lt k3
                clear hr3 ex x2 yy MY SR HRF HCU hlenR hcell hR hC
                go_region_held3 (fun w' => w'.cell? ⟨sx, 2, none⟩ = some (.slice (some ⟨g, 0, none⟩) h' h') ∧ w'.cell? ⟨sx, 3, none⟩ = some (.int .i64 R) ∧ w'.cell? ⟨sx, 4, none⟩ = some (.int .i64 C) ∧ w'.cell? ⟨g, R, none⟩ = some (.slice (some ⟨x, 0, none⟩) wd' rc) ∧ w'.cell? ⟨x, C * 5, none⟩ = some (.int .i64 cv) ∧ w'.cell? ⟨x, C * 5 + 1, none⟩ = some (.int .i64 ca) ∧ w'.cell? ⟨x, C * 5 + 2, none⟩ = some (.int .i64 co) ∧ w'.cell? ⟨x, C * 5 + 3, none⟩ = some (.int .i64 cf) ∧ w'.cell? ⟨x, C * 5 + 4, none⟩ = some (.int .i64 ck))
                  (first | exact ⟨s2, s3, s4, x1, v1, v2, v3, v4, v5⟩ | go_keep) (fail)
                have t4 := heap_alloc_new w3 (.cells #[.int .i64 cv, .int .i64 ca, .int .i64 co, .int .i64 cf, .int .i64 ck] 51)
                have q4 := blk_alloc q3 (.cells #[.int .i64 cv, .int .i64 ca, .int .i64 co, .int .i64 cf, .int .i64 ck] 51)
                have B4 := (below_alloc w3 (.cells #[.int .i64 cv, .int .i64 ca, .int .i64 co, .int .i64 cf, .int .i64 ck] 51)).drew
                have HT4 := Lib.hid (HT3.out.below B4)
                have HB4 := Lib.hid (HB3.out.below B4)
                have N4 := seqB N3 B4
                have w4c := fun i => cell_of_row _ _ i _ _ _ q4
                have f1 := w4c 1; have f2 := w4c 2
                dsimp at f1 f2
                clear s2 s3 s4 x1 v1 v2 v3 v4 v5 w4c xx
                by_cases hE : at' = l.length
                · subst hE
                  have hc := hcu.2 rfl
                  simp only [Prod.mk.injEq] at hc
                  obtain ⟨rfl, rfl, rfl, rfl, rfl⟩ := hc
                  clear hcu
                  go_wp2_with (go_at_call 13; refine (AW.out _ HT4.out).mono ?_; rintro e w5 ⟨rfl, hb5⟩; have t5 := blk_below (show ((w3.alloc (.cells #[.int .i64 0, .int .i64 0, .int .i64 (-1), .int .i64 0, .int .i64 0] 51)).drew).heap[w3.heap.size]? = _ from t4) hb5; have t50 := cell_of_row _ _ 0 _ _ _ t5; dsimp at t50)
                  go_ret
                  exact ⟨rfl, seqB N4 hb5⟩
                · obtain ⟨v', a', hc⟩ := hcu.1 (by omega)
                  simp only [Prod.mk.injEq] at hc
                  obtain ⟨rfl, rfl, rfl, rfl, rfl⟩ := hc
                  clear hcu
                  obtain ⟨lb, lo, rfl, hlb, l1, _⟩ := HB4.out at' (by omega)
                  have hE1 : ¬ (at' : Int) = l.length := by omega
                  have hE2 : (at' : Int) < l.length := by omega
                  have hE3 : (0 : Int) ≤ at' := by omega
                  have tt := fun i => cell_of_row _ _ i _ _ _ t4
                  have g2' := tt 2; have g3' := tt 3; have g4' := tt 4
                  dsimp at g2' g3' g4'
                  generalize (l.getD at' (0, 0)).1 = lv at *
                  have hq4 := blk_lt q4; have ht4 := blk_lt t4
                  clear tt
                  go_upto_region 11 with fail
                  have HT5 := Lib.hid (show Tabs ((w3.alloc (.cells #[.int .i64 cv, .int .i64 ca, .int .i64 at', .int .i64 lv, .int .i64 0] 51)).drew.drew) from HT4.out.below (Below.refl _ _).drew)
                  go_region_held3 (fun w' => w'.cell? ⟨w.heap.size, 1, none⟩ = some (.slice (some ⟨lb, lo, none⟩) l.length d) ∧ w'.cell? ⟨w.heap.size, 2, none⟩ = some (.int .i64 at') ∧ w'.cell? ⟨w3.heap.size, 2, none⟩ = some (.int .i64 at') ∧ w'.cell? ⟨w3.heap.size, 3, none⟩ = some (.int .i64 lv) ∧ w'.cell? ⟨w3.heap.size, 4, none⟩ = some (.int .i64 0) ∧ w'.cell? ⟨lb, lo + at' * 2, none⟩ = some (.int .i64 lv))
                    (first | exact ⟨f1, f2, g2', g3', g4', l1⟩ | exact ⟨u1, u2, u3', u4', u5', u6'⟩ | go_keep)
                    (first | (go_at_call 13; refine (AW.out _ HT5.out).mono ?_; rintro e w5 ⟨rfl, hb5⟩; have u1 := (hb5.cell (p := ⟨w.heap.size, 1, none⟩) hq4).trans f1; have u2 := (hb5.cell (p := ⟨w.heap.size, 2, none⟩) hq4).trans f2; have u3' := (hb5.cell (p := ⟨w3.heap.size, 2, none⟩) ht4).trans g2'; have u4' := (hb5.cell (p := ⟨w3.heap.size, 3, none⟩) ht4).trans g3'; have u5' := (hb5.cell (p := ⟨w3.heap.size, 4, none⟩) ht4).trans g4'; have u6' := (hb5.cell (p := ⟨lb, lo + at' * 2, none⟩) hlb).trans l1))
                  go_wp2
                  go_ret
                  exact ⟨rfl, seqB N4.drew hb5⟩
end Go.Proofs.YtcdecnmhogmhaaaDoor
set_option linter.unusedVariables false
set_option linter.unusedSimpArgs false
namespace Go.Proofs.YtcdecnmhogmhaaaDoor
open Go.RowKit
set_option maxHeartbeats 8000000 in
theorem shows_big (p l : List (Int × Int)) (a b : Option Addr) (c d : Nat) (at_ wd h : Int) (w : World) (hT : Tabs w) (hmp : p.length ≤ 9223372036854775807) (hml : l.length ≤ 9223372036854775807)
    (hbig : 30 < p.length ∨ 60 < l.length ∨ (80 < wd ∧ wd ≤ 1000) ∨ (40 < h ∧ h ≤ 1000)) :
    Calls Tryd.prog 3 #[.agg #[.slice a p.length c, .slice b l.length d, .int .i64 at_, .int .i64 wd, .int .i64 h]] w fun e w' => e = .returned (.bool true) ∧ Below w.heap.size w w' := by
  have B0 := below_alloc w (.cells #[.slice a p.length c, .slice b l.length d, .int .i64 at_, .int .i64 wd, .int .i64 h] 24)
  have HT := Lib.hid (hT.below B0)
  have AW := Lib.hid fun w (h : Tabs w) => pawake_any w h
  clear hT
  by_cases a1 : 30 < p.length
  · have a1' : (30 : Int) < p.length := by omega
    clear hbig
    go_enter Tryd.func3, Tryd.ntmps3
    go_wp2_with (go_at_call 13; refine (AW.out _ HT.out).mono ?_; rintro e w2 ⟨rfl, hb2⟩)
    go_ret
    exact ⟨rfl, seqB B0 hb2⟩
  · have a1' : ¬ (30 : Int) < p.length := by omega
    by_cases a2 : 60 < l.length
    · have a2' : (60 : Int) < l.length := by omega
      clear hbig
      go_enter Tryd.func3, Tryd.ntmps3
      go_wp2_with (go_at_call 13; refine (AW.out _ HT.out).mono ?_; rintro e w2 ⟨rfl, hb2⟩)
      go_ret
      exact ⟨rfl, seqB B0 hb2⟩
    · have a2' : ¬ (60 : Int) < l.length := by omega
      by_cases a3 : 80 < wd ∧ wd ≤ 1000
      · obtain ⟨a3, a3'⟩ := a3
        clear hbig
        go_enter Tryd.func3, Tryd.ntmps3
        go_wp2_with (go_at_call 13; refine (AW.out _ HT.out).mono ?_; rintro e w2 ⟨rfl, hb2⟩)
        go_ret
        exact ⟨rfl, seqB B0 hb2⟩
      · obtain ⟨a4, a4'⟩ : 40 < h ∧ h ≤ 1000 := by
          rcases hbig with x | x | x | x
          · exact absurd x a1
          · exact absurd x a2
          · exact absurd x a3
          · exact x
        clear hbig
        by_cases a5 : 80 < wd
        · have a6 : ¬ wd ≤ 1000 := fun x => a3 ⟨a5, x⟩
          clear a3
          go_enter Tryd.func3, Tryd.ntmps3
          go_wp2_with (go_at_call 13; refine (AW.out _ HT.out).mono ?_; rintro e w2 ⟨rfl, hb2⟩)
          go_ret
          exact ⟨rfl, seqB B0 hb2⟩
        · clear a3
          go_enter Tryd.func3, Tryd.ntmps3
          go_wp2_with (go_at_call 13; refine (AW.out _ HT.out).mono ?_; rintro e w2 ⟨rfl, hb2⟩)
          go_ret
          exact ⟨rfl, seqB B0 hb2⟩
end Go.Proofs.YtcdecnmhogmhaaaDoor
