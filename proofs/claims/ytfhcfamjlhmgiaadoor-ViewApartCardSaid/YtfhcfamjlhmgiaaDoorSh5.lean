import Derived.Test.YtfhcfamjlhmgiaaDoorSh3
import Derived.Deep.RegionHeld3
import Derived.Deep.DrawnRows
import Derived.Maps.AppendAt
import Derived.Maps.Range
set_option linter.unusedVariables false
set_option linter.unusedSimpArgs false
namespace Go.Proofs.YtfhcfamjlhmgiaaDoor
set_option maxRecDepth 100000
open Go.RowKit
attribute [local go_sem ↓] Go.wp_at_zero Go.wp_at_succ
theorem grown_set (w : World) (p i : Nat) (u : Value) : w.grownBy (w.setCell ⟨p, i, none⟩ u) (some p) :=
  ⟨rfl, rfl, rfl, by simp [World.setCell], fun j hj hne => Below.heap_setCell w ⟨p, i, none⟩ u j (by rintro rfl; exact hne rfl)⟩
/-- The cell that the closure keeps, at block p. -/
def Nx (w : World) (p : Nat) (a o f k : Int) : Prop := w.heap[p]? = some (.cells #[.int .i64 0, .int .i64 a, .int .i64 o, .int .i64 f, .int .i64 k] 67 (0, 0))
theorem nx_below {w w' : World} {p : Nat} {a o f k : Int} (h : Nx w p a o f k) (hb : Below w.heap.size w w') : Nx w' p a o f k := blk_below h hb
set_option maxHeartbeats 4000000 in
theorem cells1_any (x a o f k : Int) (p : Nat) (w : World) (hk : 0 ≤ k) (hk' : k ≤ 1000) (hN : Nx w p a o f k) :
    Calls Tryd.prog 60 #[.int .i64 x, .pointer (some ⟨p, 0, none⟩)] w fun e w' => e = .returned (.agg #[.int .i64 x, .int .i64 a, .int .i64 o, .int .i64 f, .int .i64 k]) ∧ Nx w' p a o f (k + 1) ∧ w.grownBy w' (some p) := by
  have hp := blk_lt hN
  unfold Nx at hN
  have k0 := fun i => cell_of_row w p i _ _ _ hN
  have q0 : w.cell? ⟨p, 0, none⟩ = some (.int .i64 0) := k0 0
  have q1 : w.cell? ⟨p, 1, none⟩ = some (.int .i64 a) := k0 1
  have q2 : w.cell? ⟨p, 2, none⟩ = some (.int .i64 o) := k0 2
  have q3 : w.cell? ⟨p, 3, none⟩ = some (.int .i64 f) := k0 3
  have q4 : w.cell? ⟨p, 4, none⟩ = some (.int .i64 k) := k0 4
  have f4 : w.frozen? ⟨p, 4, none⟩ = false := frozen_of_row w p 4 _ _ hN
  have HN := Lib.hid hN
  clear hN k0
  go_enter Tryd.func60, Tryd.ntmps60
  go_wp2
  exact bodyPost_ret (v := .agg #[.int .i64 x, .int .i64 a, .int .i64 o, .int .i64 f, .int .i64 k]) (by simp [results, Tryd.results60, go_sem]) rfl ⟨rfl, blk_alloc (blk_alloc (blk_set HN.out 4 _) _) _, ((grown_set w p 4 _).trans (World.grownBy_alloc _ _ _)).trans (World.grownBy_alloc _ _ _)⟩
/-- A text's bytes as cells. -/
def tkL (s : ByteArray) (a o f : Int) (k : Nat) : List Cl := (List.range k).map fun i => (((s.get! i).toNat : Int), a, o, f, (i : Int))
/-- A sign's cells. -/
def shK (v l o : Int) : List Cl :=
  if 3 < cls v then tkL (shT v) (lkI v l) o v (shT v).size else if cls v = 2 then [(v, lkI v l, o, v, 0), (-1, lkI v l, o, v, 1)] else if cls v = 0 then [] else [(v, lkI v l, o, v, 0)]
theorem tkL_len (s : ByteArray) (a o f : Int) (k : Nat) : (tkL s a o f k).length = k := by simp [tkL]
theorem tkL_succ (s : ByteArray) (a o f : Int) (k : Nat) : tkL s a o f (k + 1) = tkL s a o f k ++ [(((s.get! k).toNat : Int), a, o, f, (k : Int))] := by simp [tkL, List.range_succ]
theorem made_cells (n : Nat) : madeCells #[.int .i64 0, .int .i64 0, .int .i64 0, .int .i64 0, .int .i64 0] (n * 5) = cRow (List.replicate n cl0) := by
  apply Array.ext
  · simp [madeCells, cRow, cCells_len]
  · intro i h1 h2
    simp only [madeCells, Array.getElem_map, Array.getElem_range]
    have hi : i < n * 5 := by simpa [madeCells] using h1
    have hlt : i / 5 < (List.replicate n cl0).length := by simp; omega
    have h := cCells_at (List.replicate n cl0) (i / 5) hlt
    have hz : (List.replicate n cl0).getD (i / 5) cl0 = cl0 := by
      rw [List.getD, List.getElem?_replicate]; split <;> rfl
    rw [hz] at h
    have hm : i % 5 = 0 ∨ i % 5 = 1 ∨ i % 5 = 2 ∨ i % 5 = 3 ∨ i % 5 = 4 := by omega
    have e : (cRow (List.replicate n cl0))[i]? = some (.int .i64 0) := by
      rw [cRow, List.getElem?_toArray]
      rcases hm with hm | hm | hm | hm | hm
      · rw [show i / 5 * 5 = i by omega] at h; exact h.1
      · rw [show i / 5 * 5 + 1 = i by omega] at h; exact h.2.1
      · rw [show i / 5 * 5 + 2 = i by omega] at h; exact h.2.2.1
      · rw [show i / 5 * 5 + 3 = i by omega] at h; exact h.2.2.2.1
      · rw [show i / 5 * 5 + 4 = i by omega] at h; exact h.2.2.2.2
    have e2 := Array.getElem?_eq_getElem h2
    rw [e] at e2
    injection e2 with e2
    rw [← e2]
    rcases hm with hm | hm | hm | hm | hm <;> simp [hm]
theorem cRow_set (L : List Cl) (k : Nat) (p : Cl) (h : k < L.length) : (((((cRow L).setIfInBounds (k * 5) (.int .i64 p.1)).setIfInBounds (k * 5 + 1) (.int .i64 p.2.1)).setIfInBounds (k * 5 + 2) (.int .i64 p.2.2.1)).setIfInBounds (k * 5 + 3) (.int .i64 p.2.2.2.1)).setIfInBounds (k * 5 + 4) (.int .i64 p.2.2.2.2) = cRow (L.set k p) := by
  apply Array.ext'
  simp only [cRow, cCells, Array.toList_setIfInBounds]
  induction L generalizing k with
  | nil => simp at h
  | cons x L ih =>
    cases k with
    | zero => rfl
    | succ k =>
      have := ih k (by simpa using h)
      rw [show (k + 1) * 5 = k * 5 + 1 + 1 + 1 + 1 + 1 by omega]
      simp only [List.flatMap_cons, List.cons_append, List.nil_append, List.set_cons_succ, this]
/-- What the loop has made after k rounds. -/
def kLp (s : ByteArray) (a o f : Int) (k : Nat) : List Cl := tkL s a o f k ++ List.replicate (s.size - k) cl0
theorem kLp_len (s : ByteArray) (a o f : Int) (k : Nat) (h : k ≤ s.size) : (kLp s a o f k).length = s.size := by simp [kLp, tkL_len]; omega
theorem kLp_set (s : ByteArray) (a o f : Int) (k : Nat) (h : k < s.size) : (kLp s a o f k).set k (((s.get! k).toNat : Int), a, o, f, (k : Int)) = kLp s a o f (k + 1) := by
  unfold kLp
  rw [List.set_append_right _ _ (by rw [tkL_len]; exact Nat.le_refl _), tkL_len, Nat.sub_self, tkL_succ, List.append_assoc]
  congr 1
  obtain ⟨m, hm⟩ : ∃ m, s.size - k = m + 1 := ⟨s.size - k - 1, by omega⟩
  rw [hm, show s.size - (k + 1) = m by omega]; rfl
theorem cl_cells {w : World} {g k : Nat} {L : List Cl} {t : TypeId} {f : Nat × Nat} (h : w.heap[g]? = some (.cells (cRow L) t f)) (hk : k < L.length) :
    w.cell? ⟨g, k * 5, none⟩ = some (.int .i64 (L.getD k cl0).1) ∧ w.cell? ⟨g, k * 5 + 1, none⟩ = some (.int .i64 (L.getD k cl0).2.1) ∧ w.cell? ⟨g, k * 5 + 2, none⟩ = some (.int .i64 (L.getD k cl0).2.2.1) ∧ w.cell? ⟨g, k * 5 + 3, none⟩ = some (.int .i64 (L.getD k cl0).2.2.2.1) ∧ w.cell? ⟨g, k * 5 + 4, none⟩ = some (.int .i64 (L.getD k cl0).2.2.2.2) := by
  have hh := cCells_at L k hk
  rw [cell_of_row _ _ _ _ _ _ h, cell_of_row _ _ _ _ _ _ h, cell_of_row _ _ _ _ _ _ h, cell_of_row _ _ _ _ _ _ h, cell_of_row _ _ _ _ _ _ h, cRow, List.getElem?_toArray, List.getElem?_toArray, List.getElem?_toArray, List.getElem?_toArray, List.getElem?_toArray]
  exact hh
theorem zero5 {W w1 : World} {h : Nat} (hh : W.heap.size = h) (hb : Below (W.alloc (.cells #[.int .i64 0, .int .i64 0, .int .i64 0, .int .i64 0, .int .i64 0] 67)).drew.heap.size (W.alloc (.cells #[.int .i64 0, .int .i64 0, .int .i64 0, .int .i64 0, .int .i64 0] 67)).drew w1) :
    w1.heap[h]? = some (.cells #[.int .i64 0, .int .i64 0, .int .i64 0, .int .i64 0, .int .i64 0] 67 (0, 0)) ∧ w1.cell? ⟨h, 0, none⟩ = some (.int .i64 0) ∧ w1.cell? ⟨h, 1, none⟩ = some (.int .i64 0) ∧ w1.cell? ⟨h, 2, none⟩ = some (.int .i64 0) ∧ w1.cell? ⟨h, 3, none⟩ = some (.int .i64 0) ∧ w1.cell? ⟨h, 4, none⟩ = some (.int .i64 0) ∧
    w1.frozen? ⟨h, 0, none⟩ = false ∧ w1.frozen? ⟨h, 1, none⟩ = false ∧ w1.frozen? ⟨h, 2, none⟩ = false ∧ w1.frozen? ⟨h, 3, none⟩ = false ∧ w1.frozen? ⟨h, 4, none⟩ = false := by
  subst hh
  have hg : w1.heap[W.heap.size]? = some (.cells #[.int .i64 0, .int .i64 0, .int .i64 0, .int .i64 0, .int .i64 0] 67 (0, 0)) := blk_below (w := (W.alloc (.cells #[.int .i64 0, .int .i64 0, .int .i64 0, .int .i64 0, .int .i64 0] 67)).drew) (heap_alloc_new W _) hb
  refine ⟨hg, cell_of_row _ _ _ _ _ _ hg, cell_of_row _ _ _ _ _ _ hg, cell_of_row _ _ _ _ _ _ hg, cell_of_row _ _ _ _ _ _ hg, cell_of_row _ _ _ _ _ _ hg, ?_, ?_, ?_, ?_, ?_⟩ <;> exact frozen_of_row _ _ _ _ _ hg
theorem cells_cases (v l o : Int) : (dng v = true ∧ shK v l o = tkL (shT v) (lkI v l) o v (shT v).size) ∨ (dng v = false ∧ wid v = 2 ∧ shK v l o = [(v, lkI v l, o, v, 0), (-1, lkI v l, o, v, 1)]) ∨
    (dng v = false ∧ wid v = 1 ∧ shK v l o = [(v, lkI v l, o, v, 0)]) ∨ (dng v = false ∧ wid v = 0 ∧ shK v l o = []) := by
  have hd : dng v = decide (3 < cls v) := rfl
  have hw : wid v = if cls v = 2 then 2 else if cls v = 1 ∨ cls v = 3 then 1 else 0 := rfl
  have hk : shK v l o = if 3 < cls v then tkL (shT v) (lkI v l) o v (shT v).size else if cls v = 2 then [(v, lkI v l, o, v, 0), (-1, lkI v l, o, v, 1)] else if cls v = 0 then [] else [(v, lkI v l, o, v, 0)] := rfl
  have hr := cls_rng v
  by_cases h : 3 < cls v
  · left; exact ⟨by rw [hd, decide_eq_true h], by rw [hk, if_pos h]⟩
  · right
    by_cases h2 : cls v = 2
    · left; exact ⟨by rw [hd, decide_eq_false h], by rw [hw, if_pos h2], by rw [hk, if_neg h, if_pos h2]⟩
    · right
      by_cases h0 : cls v = 0
      · right; exact ⟨by rw [hd, decide_eq_false h], by rw [hw, if_neg h2, if_neg (by omega)], by rw [hk, if_neg h, if_neg h2, if_pos h0]⟩
      · left; exact ⟨by rw [hd, decide_eq_false h], by rw [hw, if_neg h2, if_pos (by omega)], by rw [hk, if_neg h, if_neg h2, if_neg h0]⟩
set_option maxHeartbeats 8000000 in
theorem cells_any (v l o : Int) (w : World) (hT : Tabs w) :
    Calls Tryd.prog 15 #[.agg #[.int .i64 v, .int .i64 l], .int .i64 o] w fun e w' => ∃ x, e = .returned x ∧ ownC w' w.heap.size x (shK v l o) ∧ Below w.heap.size w w' := by
  obtain ⟨i0, hi, hz0, hz1, hz2⟩ := info_parts infoCell
  have hb0 := below_alloc w (.cells #[.int .i64 v, .int .i64 l] 23)
  have L := Lib.hid fun w hT => looks_any v l w hT
  have HT := Lib.hid (hT.below hb0)
  clear hT
  have hcs := cells_cases v l o
  have D := fun w hT => danger_any v w hT
  have X := fun w hT => shtext_any v w hT
  have WI := fun w hT => width_any v w hT
  have hsz := shT_size v
  generalize shK v l o = R at *
  generalize shT v = s at *
  generalize wid v = wd at *
  generalize dng v = dg at *
  generalize lkI v l = a at *
  have Hcs := Lib.hid hcs
  replace D := Lib.hid D; replace X := Lib.hid X; replace WI := Lib.hid WI
  clear hcs
  go_enter Tryd.func15, Tryd.ntmps15
  go_wp2
  have q1 : (w.alloc (.cells #[.int .i64 v, .int .i64 l] 23)).cell? ⟨w.heap.size, 0, none⟩ = some (.int .i64 v) := by rw [World.cell?_alloc_new]; rfl
  have q2 : (w.alloc (.cells #[.int .i64 v, .int .i64 l] 23)).cell? ⟨w.heap.size, 1, none⟩ = some (.int .i64 l) := by rw [World.cell?_alloc_new]; rfl
  have hsz0 : (w.alloc (.cells #[.int .i64 v, .int .i64 l] 23)).heap.size = w.heap.size + 1 := by simp
  generalize hW : w.alloc _ = W0 at *
  have hlt0 : w.heap.size < W0.heap.size := by omega
  have Hsz0 := Lib.hid hsz0
  clear hW hsz0
  have HTd := Lib.hid (show Tabs W0.drew from HT.out.below (Below.refl _ _).drew)
  have HTa := Lib.hid fun o => (show Tabs (W0.alloc o).drew from HT.out.below (below_alloc W0 o).drew)
  have q1a := fun o => (World.cell?_alloc_lt W0 o (⟨w.heap.size, 0, none⟩ : Addr) hlt0).trans q1
  have q2a := fun o => (World.cell?_alloc_lt W0 o (⟨w.heap.size, 1, none⟩ : Addr) hlt0).trans q2
  have n1 := World.new_ne W0 (⟨w.heap.size, 0, none⟩ : Addr) q1
  have n2 := World.new_ne W0 (⟨w.heap.size, 1, none⟩ : Addr) q2
  have n3 : ¬ w.heap.size = W0.heap.size := by omega
  have n4 : ¬ W0.heap.size = w.heap.size := by omega
  go_region_held3 (fun w' => w'.cell? ⟨w.heap.size, 0, none⟩ = some (.int .i64 v) ∧ w'.cell? ⟨w.heap.size, 1, none⟩ = some (.int .i64 l)) (first | go_keep) (first | (go_at_call 18; (with_reducible refine (L.out _ HTd.out).mono ?_); rintro e w1 ⟨rfl, hb1⟩; have cc1 := (hb1.cell (p := ⟨w.heap.size, 0, none⟩) hlt0).trans q1; have cc2 := (hb1.cell (p := ⟨w.heap.size, 1, none⟩) hlt0).trans q2) | (go_at_call 18; (with_reducible refine (L.out _ (HTa.out _)).mono ?_); rintro e w1 ⟨rfl, hb1⟩; have cc1 := (hb1.cell (p := ⟨w.heap.size, 0, none⟩) (by simp; omega)).trans (q1a _); have cc2 := (hb1.cell (p := ⟨w.heap.size, 1, none⟩) (by simp; omega)).trans (q2a _); obtain ⟨hz5, z0, z1, z2, z3, z4, y0, y1, y2, y3, y4⟩ := zero5 rfl hb1; have Hz5 := Lib.hid hz5; clear hz5))
  case' refine_2.refine_3.refine_3.refine_3.refine_3.refine_1.refine_2.refine_3.refine_1.refine_2.refine_1.refine_2 =>
    have M1 : Nx (w1.alloc (.cells #[.int .i64 0, .int .i64 a, .int .i64 o, .int .i64 v, .int .i64 0] 67)) w1.heap.size a o v 0 := heap_alloc_new _ _
    have hbq : Below W0.heap.size W0 w1 := (Below.refl _ _).drew.trans hb1
    have M3 : W0.heap.size ≤ w1.heap.size := hbq.size
    have M2 : Below W0.heap.size W0 (w1.alloc (.cells #[.int .i64 0, .int .i64 a, .int .i64 o, .int .i64 v, .int .i64 0] 67)) := hbq.alloc hbq.size _
    have m1 := (World.cell?_alloc_lt w1 (.cells #[.int .i64 0, .int .i64 a, .int .i64 o, .int .i64 v, .int .i64 0] 67) (⟨w.heap.size, 0, none⟩ : Addr) (Nat.lt_of_lt_of_le hlt0 M3)).trans cc1
    have m2 := (World.cell?_alloc_lt w1 (.cells #[.int .i64 0, .int .i64 a, .int .i64 o, .int .i64 v, .int .i64 0] 67) (⟨w.heap.size, 1, none⟩ : Addr) (Nat.lt_of_lt_of_le hlt0 M3)).trans cc2
    clear hb1 cc1 cc2 hbq
    have N2 := hb0.trans (M2.mono hb0.size)
    have N3 : w.heap.size < w1.heap.size := by omega
    have TT := Lib.hid (HT.out.below M2)
    clear q1 q2 hlt0 Hsz0 HTd HTa q1a q2a n1 n2 n3 n4 M2 M3 HT hb0 L
    generalize hW2 : w1.alloc _ = W2 at *
    generalize hpp : w1.heap.size = p at *
    clear hW2 hpp
  case' refine_2.refine_3.refine_3.refine_3.refine_3.refine_2.refine_1.refine_2.refine_1.refine_2.refine_3.refine_1.refine_2 =>
    have M1 : Nx (((((w1.setCell ⟨W0.heap.size, 0, none⟩ (.int .i64 0)).setCell ⟨W0.heap.size, 1, none⟩ (.int .i64 a)).setCell ⟨W0.heap.size, 2, none⟩ (.int .i64 o)).setCell ⟨W0.heap.size, 3, none⟩ (.int .i64 v)).setCell ⟨W0.heap.size, 4, none⟩ (.int .i64 0)) W0.heap.size a o v 0 :=
      blk_set (blk_set (blk_set (blk_set (blk_set Hz5.out 0 _) 1 _) 2 _) 3 _) 4 _
    have hbq : Below W0.heap.size W0 w1 := ((below_alloc W0 _).drew).trans (hb1.mono (by simp))
    have M3 : W0.heap.size ≤ W0.heap.size := Nat.le_refl _
    have M2 : Below W0.heap.size W0 (((((w1.setCell ⟨W0.heap.size, 0, none⟩ (.int .i64 0)).setCell ⟨W0.heap.size, 1, none⟩ (.int .i64 a)).setCell ⟨W0.heap.size, 2, none⟩ (.int .i64 o)).setCell ⟨W0.heap.size, 3, none⟩ (.int .i64 v)).setCell ⟨W0.heap.size, 4, none⟩ (.int .i64 0)) :=
      ((((hbq.setCell (Nat.le_refl _) _).setCell (Nat.le_refl _) _).setCell (Nat.le_refl _) _).setCell (Nat.le_refl _) _).setCell (Nat.le_refl _) _
    have m1 := M2.cell (p := ⟨w.heap.size, 0, none⟩) hlt0 |>.trans q1
    have m2 := M2.cell (p := ⟨w.heap.size, 1, none⟩) hlt0 |>.trans q2
    clear hb1 cc1 cc2 hbq z0 z1 z2 z3 z4 y0 y1 y2 y3 y4 Hz5
    have N2 := hb0.trans (M2.mono hb0.size)
    have N3 : w.heap.size < W0.heap.size := hlt0
    have TT := Lib.hid (HT.out.below M2)
    clear q1 q2 hlt0 Hsz0 HTd HTa q1a q2a n1 n2 n3 n4 M2 M3 HT hb0 L
    generalize hW2 : World.setCell _ _ _ = W2 at *
    generalize hpp : W0.heap.size = p at *
    clear hW2 hpp
  all_goals
    rcases Hcs.out with ⟨rfl, hR⟩ | ⟨rfl, rfl, hR⟩ | ⟨rfl, rfl, hR⟩ | ⟨rfl, rfl, hR⟩
  · have hmk := make_rowN (P := Tryd.prog) 24 67 i0 _ Tryd.underlying24 hi hz0 s.size (by rw [hz2]; omega) (by omega)
    rw [hz1] at hmk
    have hmade : madeCells (Value.agg #[.int .i64 0, .int .i64 0, .int .i64 0, .int .i64 0, .int .i64 0]).cells (s.size * 5) = cRow (kLp s a o v 0) := by rw [show (Value.agg #[.int .i64 0, .int .i64 0, .int .i64 0, .int .i64 0, .int .i64 0]).cells = #[.int .i64 0, .int .i64 0, .int .i64 0, .int .i64 0, .int .i64 0] from rfl, made_cells]; simp [kLp, tkL]
    rw [hmade] at hmk
    have HR := Lib.hid hR
    clear hR hmade Hcs WI
    have hp2 := blk_lt M1
    have hlt2 : w.heap.size < W2.heap.size := by omega
    go_wp2_with (first
      | (go_at_call 61; refine (D.out _ TT.out).mono ?_; rintro e w3 ⟨rfl, hb3⟩; have T3 := Lib.hid (TT.out.below hb3); have c31 := (hb3.cell (p := ⟨w.heap.size, 0, none⟩) hlt2).trans m1)
      | (go_at_call 24; refine (X.out _ T3.out).mono ?_; rintro e w4 ⟨rfl, hb4⟩))
    have M4 := Lib.hid (blk_below (blk_below M1 hb3) hb4)
    have N4 := N2.trans ((seqB hb3 hb4).mono N2.size)
    have hp4 : p < w4.heap.size := blk_lt M4.out
    clear c31 T3 hb3 hb4 m1 m2 M1 N2 D X TT
    have Y1 := Lib.hid (show Nx (w4.alloc (.cells (cRow (kLp s a o v 0)) 67)) p a o v 0 from blk_alloc M4.out _)
    go_loopw [28] (fun iv wr => ∃ k : Nat, k ≤ s.size ∧ iv = .int .i64 (k : Int) ∧ Hid (Nx wr p a o v (k : Int)) ∧ Hid (wr.heap[w4.heap.size]? = some (.cells (cRow (kLp s a o v k)) 67 (0, 0))) ∧ Below w.heap.size w wr) (fun iv _ => s.size - (intOf iv).toNat)
    case atStart => exact ⟨0, Nat.zero_le _, rfl, Y1, Lib.hid (heap_alloc_new _ _), N4.alloc N4.size _⟩
    case round =>
      obtain ⟨k, hk, rfl, hN, hG, hb⟩ := hrel
      by_cases hlt : k < s.size
      · have hk1 : (k : Int) < s.size := by omega
        have hk0 : (0 : Int) ≤ k := by omega
        have hlen := kLp_len s a o v k hk
        have hgp : w4.heap.size ≠ p := by omega
        have hgl := blk_lt hG.out
        have C := Lib.hid fun x => cells1_any x a o v (k : Int) p wr hk0 (by omega) hN.out
        have hset := kLp_set s a o v k hlt
        have hgx : ((s.get! k).toNat : Int) = wrap64 (s[k].toNat : Int) := by rw [w64_u8, get_get s k hlt]
        rw [hgx] at hset
        have Hset := Lib.hid hset
        have Hset2 := Lib.hid fun x => cRow_set (kLp s a o v k) k (x, a, o, v, (k : Int)) (by rw [hlen]; exact hlt)
        have Hcell := Lib.hid fun (w5 : World) (h : w5.heap[w4.heap.size]? = some (.cells (cRow (kLp s a o v k)) 67 (0, 0))) => cl_cells h (k := k) (by rw [hlen]; exact hlt)
        generalize (kLp s a o v k).getD k cl0 = q at *
        clear hset hgx hlen
        go_wp2_with (go_at_call 60; refine (C.out _).mono ?_; rintro e w5 ⟨rfl, hN5, hg5⟩; have G5 := Lib.hid ((hg5.block w4.heap.size hgl (by simpa using hgp)).trans hG.out); have z0 := (Hcell.out w5 G5.out).1; have z1 := (Hcell.out w5 G5.out).2.1; have z2 := (Hcell.out w5 G5.out).2.2.1; have z3 := (Hcell.out w5 G5.out).2.2.2.1; have z4 := (Hcell.out w5 G5.out).2.2.2.2; have y0 := fun i => frozen_of_row w5 w4.heap.size i _ _ G5.out; have HN5 := Lib.hid hN5; clear hN5)
        have N5 := hb.grown hg5 hb.size (fun j hj => by injection hj with hj; omega)
        go_roundw
        case rel => exact ⟨k + 1, by omega, by go_num, Lib.hid (blk_far (blk_far (blk_far (blk_far (blk_far HN5.out (Ne.symm hgp) _) (Ne.symm hgp) _) (Ne.symm hgp) _) (Ne.symm hgp) _) (Ne.symm hgp) _), Lib.hid (by rw [← Hset.out, ← Hset2.out]; exact blk_set (blk_set (blk_set (blk_set (blk_set G5.out _ _) _ _) _ _) _ _) _ _), ((((N5.setCell N4.size _).setCell N4.size _).setCell N4.size _).setCell N4.size _).setCell N4.size _⟩
        case measure => simp [intOf]; omega
      · obtain rfl : k = s.size := by omega
        have hfin : kLp s a o v s.size = tkL s a o v s.size := by unfold kLp; rw [Nat.sub_self, List.replicate_zero, List.append_nil]
        have HG2 := Lib.hid hG.out
        rw [hfin] at HG2
        clear hfin
        have hl := tkL_len s a o v s.size
        have HO := Lib.hid (own_of_blk (B := w.heap.size) HG2.out N4.size (by rw [hl]; unfold maxLen; omega))
        rw [hl] at HO
        clear hl
        go_wp2
        go_ret
        refine ⟨_, rfl, ?_, hb⟩
        rw [HR.out]; exact HO.out
  · have HR := Lib.hid hR
    clear hR Hcs X
    have hp2 := blk_lt M1
    have hlt2 : w.heap.size < W2.heap.size := by omega
    go_wp2_with (first
      | (go_at_call 61; refine (D.out _ TT.out).mono ?_; rintro e w3 ⟨rfl, hb3⟩; have T3 := Lib.hid (TT.out.below hb3); have c31 := (hb3.cell (p := ⟨w.heap.size, 0, none⟩) hlt2).trans m1; have hlt3 := Nat.lt_of_lt_of_le hlt2 hb3.size; have M3 := Lib.hid (nx_below M1 hb3))
      | (go_at_call 62; refine (WI.out _ T3.out).mono ?_; rintro e w4 ⟨rfl, hb4⟩; have c41 := (hb4.cell (p := ⟨w.heap.size, 0, none⟩) hlt3).trans c31; have M4 := Lib.hid (nx_below M3.out hb4))
      | (go_at_call 60; (with_reducible refine (cells1_any v a o v 0 p w4 (by omega) (by omega) M4.out).mono ?_); rintro e w5 ⟨rfl, hN5, hg5⟩; have M5 := Lib.hid hN5; clear hN5)
      | (go_at_call 60; (with_reducible refine (cells1_any (-1) a o v (0 + 1) p w5 (by omega) (by omega) M5.out).mono ?_); rintro e w6 ⟨rfl, hN6, hg6⟩; clear hN6))
    have N4 := N2.trans ((seqB hb3 hb4).mono N2.size)
    have hp4 : p < w4.heap.size := blk_lt M4.out
    have N5 := N4.grown hg5 N4.size (fun j hj => by injection hj with hj; omega)
    have N6 := N5.grown hg6 N5.size (fun j hj => by injection hj with hj; omega)
    go_ret
    refine ⟨_, rfl, ?_, N6.alloc N6.size _⟩
    rw [HR.out]
    exact own_of_blk (L := [(v, a, o, v, 0), (-1, a, o, v, 1)]) (heap_alloc_new _ _) N6.size (by simp [maxLen])
  · have HR := Lib.hid hR
    clear hR Hcs X
    have hp2 := blk_lt M1
    have hlt2 : w.heap.size < W2.heap.size := by omega
    go_wp2_with (first
      | (go_at_call 61; refine (D.out _ TT.out).mono ?_; rintro e w3 ⟨rfl, hb3⟩; have T3 := Lib.hid (TT.out.below hb3); have c31 := (hb3.cell (p := ⟨w.heap.size, 0, none⟩) hlt2).trans m1; have hlt3 := Nat.lt_of_lt_of_le hlt2 hb3.size; have M3 := Lib.hid (nx_below M1 hb3))
      | (go_at_call 62; refine (WI.out _ T3.out).mono ?_; rintro e w4 ⟨rfl, hb4⟩; have c41 := (hb4.cell (p := ⟨w.heap.size, 0, none⟩) hlt3).trans c31; have M4 := Lib.hid (nx_below M3.out hb4))
      | (go_at_call 60; (with_reducible refine (cells1_any v a o v 0 p w4 (by omega) (by omega) M4.out).mono ?_); rintro e w5 ⟨rfl, hN5, hg5⟩; clear hN5))
    have N4 := N2.trans ((seqB hb3 hb4).mono N2.size)
    have hp4 : p < w4.heap.size := blk_lt M4.out
    have N5 := N4.grown hg5 N4.size (fun j hj => by injection hj with hj; omega)
    go_ret
    refine ⟨_, rfl, ?_, N5.alloc N5.size _⟩
    rw [HR.out]
    exact own_of_blk (L := [(v, a, o, v, 0)]) (heap_alloc_new _ _) N5.size (by simp [maxLen])
  · have HR := Lib.hid hR
    clear hR Hcs X
    have hp2 := blk_lt M1
    have hlt2 : w.heap.size < W2.heap.size := by omega
    go_wp2_with (first
      | (go_at_call 61; refine (D.out _ TT.out).mono ?_; rintro e w3 ⟨rfl, hb3⟩; have T3 := Lib.hid (TT.out.below hb3); have c31 := (hb3.cell (p := ⟨w.heap.size, 0, none⟩) hlt2).trans m1; have hlt3 := Nat.lt_of_lt_of_le hlt2 hb3.size; have M3 := Lib.hid (nx_below M1 hb3))
      | (go_at_call 62; refine (WI.out _ T3.out).mono ?_; rintro e w4 ⟨rfl, hb4⟩; have c41 := (hb4.cell (p := ⟨w.heap.size, 0, none⟩) hlt3).trans c31; have M4 := Lib.hid (nx_below M3.out hb4)))
    have N4 := N2.trans ((seqB hb3 hb4).mono N2.size)
    go_ret
    refine ⟨_, rfl, ?_, N4⟩
    rw [HR.out]
    exact World.ownsRow_nil _ _ _ _
  · have hmk := make_rowN (P := Tryd.prog) 24 67 i0 _ Tryd.underlying24 hi hz0 s.size (by rw [hz2]; omega) (by omega)
    rw [hz1] at hmk
    have hmade : madeCells (Value.agg #[.int .i64 0, .int .i64 0, .int .i64 0, .int .i64 0, .int .i64 0]).cells (s.size * 5) = cRow (kLp s a o v 0) := by rw [show (Value.agg #[.int .i64 0, .int .i64 0, .int .i64 0, .int .i64 0, .int .i64 0]).cells = #[.int .i64 0, .int .i64 0, .int .i64 0, .int .i64 0, .int .i64 0] from rfl, made_cells]; simp [kLp, tkL]
    rw [hmade] at hmk
    have HR := Lib.hid hR
    clear hR hmade Hcs WI
    have hp2 := blk_lt M1
    have hlt2 : w.heap.size < W2.heap.size := by omega
    go_wp2_with (first
      | (go_at_call 61; refine (D.out _ TT.out).mono ?_; rintro e w3 ⟨rfl, hb3⟩; have T3 := Lib.hid (TT.out.below hb3); have c31 := (hb3.cell (p := ⟨w.heap.size, 0, none⟩) hlt2).trans m1)
      | (go_at_call 24; refine (X.out _ T3.out).mono ?_; rintro e w4 ⟨rfl, hb4⟩))
    have M4 := Lib.hid (blk_below (blk_below M1 hb3) hb4)
    have N4 := N2.trans ((seqB hb3 hb4).mono N2.size)
    have hp4 : p < w4.heap.size := blk_lt M4.out
    clear c31 T3 hb3 hb4 m1 m2 M1 N2 D X TT
    have Y1 := Lib.hid (show Nx (w4.alloc (.cells (cRow (kLp s a o v 0)) 67)) p a o v 0 from blk_alloc M4.out _)
    go_loopw [28] (fun iv wr => ∃ k : Nat, k ≤ s.size ∧ iv = .int .i64 (k : Int) ∧ Hid (Nx wr p a o v (k : Int)) ∧ Hid (wr.heap[w4.heap.size]? = some (.cells (cRow (kLp s a o v k)) 67 (0, 0))) ∧ Below w.heap.size w wr) (fun iv _ => s.size - (intOf iv).toNat)
    case atStart => exact ⟨0, Nat.zero_le _, rfl, Y1, Lib.hid (heap_alloc_new _ _), N4.alloc N4.size _⟩
    case round =>
      obtain ⟨k, hk, rfl, hN, hG, hb⟩ := hrel
      by_cases hlt : k < s.size
      · have hk1 : (k : Int) < s.size := by omega
        have hk0 : (0 : Int) ≤ k := by omega
        have hlen := kLp_len s a o v k hk
        have hgp : w4.heap.size ≠ p := by omega
        have hgl := blk_lt hG.out
        have C := Lib.hid fun x => cells1_any x a o v (k : Int) p wr hk0 (by omega) hN.out
        have hset := kLp_set s a o v k hlt
        have hgx : ((s.get! k).toNat : Int) = wrap64 (s[k].toNat : Int) := by rw [w64_u8, get_get s k hlt]
        rw [hgx] at hset
        have Hset := Lib.hid hset
        have Hset2 := Lib.hid fun x => cRow_set (kLp s a o v k) k (x, a, o, v, (k : Int)) (by rw [hlen]; exact hlt)
        have Hcell := Lib.hid fun (w5 : World) (h : w5.heap[w4.heap.size]? = some (.cells (cRow (kLp s a o v k)) 67 (0, 0))) => cl_cells h (k := k) (by rw [hlen]; exact hlt)
        generalize (kLp s a o v k).getD k cl0 = q at *
        clear hset hgx hlen
        go_wp2_with (go_at_call 60; refine (C.out _).mono ?_; rintro e w5 ⟨rfl, hN5, hg5⟩; have G5 := Lib.hid ((hg5.block w4.heap.size hgl (by simpa using hgp)).trans hG.out); have z0 := (Hcell.out w5 G5.out).1; have z1 := (Hcell.out w5 G5.out).2.1; have z2 := (Hcell.out w5 G5.out).2.2.1; have z3 := (Hcell.out w5 G5.out).2.2.2.1; have z4 := (Hcell.out w5 G5.out).2.2.2.2; have y0 := fun i => frozen_of_row w5 w4.heap.size i _ _ G5.out; have HN5 := Lib.hid hN5; clear hN5)
        have N5 := hb.grown hg5 hb.size (fun j hj => by injection hj with hj; omega)
        go_roundw
        case rel => exact ⟨k + 1, by omega, by go_num, Lib.hid (blk_far (blk_far (blk_far (blk_far (blk_far HN5.out (Ne.symm hgp) _) (Ne.symm hgp) _) (Ne.symm hgp) _) (Ne.symm hgp) _) (Ne.symm hgp) _), Lib.hid (by rw [← Hset.out, ← Hset2.out]; exact blk_set (blk_set (blk_set (blk_set (blk_set G5.out _ _) _ _) _ _) _ _) _ _), ((((N5.setCell N4.size _).setCell N4.size _).setCell N4.size _).setCell N4.size _).setCell N4.size _⟩
        case measure => simp [intOf]; omega
      · obtain rfl : k = s.size := by omega
        have hfin : kLp s a o v s.size = tkL s a o v s.size := by unfold kLp; rw [Nat.sub_self, List.replicate_zero, List.append_nil]
        have HG2 := Lib.hid hG.out
        rw [hfin] at HG2
        clear hfin
        have hl := tkL_len s a o v s.size
        have HO := Lib.hid (own_of_blk (B := w.heap.size) HG2.out N4.size (by rw [hl]; unfold maxLen; omega))
        rw [hl] at HO
        clear hl
        go_wp2
        go_ret
        refine ⟨_, rfl, ?_, hb⟩
        rw [HR.out]; exact HO.out
  · have HR := Lib.hid hR
    clear hR Hcs X
    have hp2 := blk_lt M1
    have hlt2 : w.heap.size < W2.heap.size := by omega
    go_wp2_with (first
      | (go_at_call 61; refine (D.out _ TT.out).mono ?_; rintro e w3 ⟨rfl, hb3⟩; have T3 := Lib.hid (TT.out.below hb3); have c31 := (hb3.cell (p := ⟨w.heap.size, 0, none⟩) hlt2).trans m1; have hlt3 := Nat.lt_of_lt_of_le hlt2 hb3.size; have M3 := Lib.hid (nx_below M1 hb3))
      | (go_at_call 62; refine (WI.out _ T3.out).mono ?_; rintro e w4 ⟨rfl, hb4⟩; have c41 := (hb4.cell (p := ⟨w.heap.size, 0, none⟩) hlt3).trans c31; have M4 := Lib.hid (nx_below M3.out hb4))
      | (go_at_call 60; (with_reducible refine (cells1_any v a o v 0 p w4 (by omega) (by omega) M4.out).mono ?_); rintro e w5 ⟨rfl, hN5, hg5⟩; have M5 := Lib.hid hN5; clear hN5)
      | (go_at_call 60; (with_reducible refine (cells1_any (-1) a o v (0 + 1) p w5 (by omega) (by omega) M5.out).mono ?_); rintro e w6 ⟨rfl, hN6, hg6⟩; clear hN6))
    have N4 := N2.trans ((seqB hb3 hb4).mono N2.size)
    have hp4 : p < w4.heap.size := blk_lt M4.out
    have N5 := N4.grown hg5 N4.size (fun j hj => by injection hj with hj; omega)
    have N6 := N5.grown hg6 N5.size (fun j hj => by injection hj with hj; omega)
    go_ret
    refine ⟨_, rfl, ?_, N6.alloc N6.size _⟩
    rw [HR.out]
    exact own_of_blk (L := [(v, a, o, v, 0), (-1, a, o, v, 1)]) (heap_alloc_new _ _) N6.size (by simp [maxLen])
  · have HR := Lib.hid hR
    clear hR Hcs X
    have hp2 := blk_lt M1
    have hlt2 : w.heap.size < W2.heap.size := by omega
    go_wp2_with (first
      | (go_at_call 61; refine (D.out _ TT.out).mono ?_; rintro e w3 ⟨rfl, hb3⟩; have T3 := Lib.hid (TT.out.below hb3); have c31 := (hb3.cell (p := ⟨w.heap.size, 0, none⟩) hlt2).trans m1; have hlt3 := Nat.lt_of_lt_of_le hlt2 hb3.size; have M3 := Lib.hid (nx_below M1 hb3))
      | (go_at_call 62; refine (WI.out _ T3.out).mono ?_; rintro e w4 ⟨rfl, hb4⟩; have c41 := (hb4.cell (p := ⟨w.heap.size, 0, none⟩) hlt3).trans c31; have M4 := Lib.hid (nx_below M3.out hb4))
      | (go_at_call 60; (with_reducible refine (cells1_any v a o v 0 p w4 (by omega) (by omega) M4.out).mono ?_); rintro e w5 ⟨rfl, hN5, hg5⟩; clear hN5))
    have N4 := N2.trans ((seqB hb3 hb4).mono N2.size)
    have hp4 : p < w4.heap.size := blk_lt M4.out
    have N5 := N4.grown hg5 N4.size (fun j hj => by injection hj with hj; omega)
    go_ret
    refine ⟨_, rfl, ?_, N5.alloc N5.size _⟩
    rw [HR.out]
    exact own_of_blk (L := [(v, a, o, v, 0)]) (heap_alloc_new _ _) N5.size (by simp [maxLen])
  · have HR := Lib.hid hR
    clear hR Hcs X
    have hp2 := blk_lt M1
    have hlt2 : w.heap.size < W2.heap.size := by omega
    go_wp2_with (first
      | (go_at_call 61; refine (D.out _ TT.out).mono ?_; rintro e w3 ⟨rfl, hb3⟩; have T3 := Lib.hid (TT.out.below hb3); have c31 := (hb3.cell (p := ⟨w.heap.size, 0, none⟩) hlt2).trans m1; have hlt3 := Nat.lt_of_lt_of_le hlt2 hb3.size; have M3 := Lib.hid (nx_below M1 hb3))
      | (go_at_call 62; refine (WI.out _ T3.out).mono ?_; rintro e w4 ⟨rfl, hb4⟩; have c41 := (hb4.cell (p := ⟨w.heap.size, 0, none⟩) hlt3).trans c31; have M4 := Lib.hid (nx_below M3.out hb4)))
    have N4 := N2.trans ((seqB hb3 hb4).mono N2.size)
    go_ret
    refine ⟨_, rfl, ?_, N4⟩
    rw [HR.out]
    exact World.ownsRow_nil _ _ _ _
end Go.Proofs.YtfhcfamjlhmgiaaDoor
