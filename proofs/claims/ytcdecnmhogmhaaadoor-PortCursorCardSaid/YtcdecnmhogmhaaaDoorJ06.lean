/-
  Joined: Sh5 Sh6 R4.
-/
import Derived.Test.YtcdecnmhogmhaaaDoorJ05
import Derived.Deep.RegionHeld3
import Derived.Deep.DrawnRows
import Derived.Maps.AppendAt
import Derived.Maps.Range
import Derived.Deep.AppendLies
set_option linter.unusedVariables false
set_option linter.unusedSimpArgs false
namespace Go.Proofs.YtcdecnmhogmhaaaDoor
set_option maxRecDepth 100000
open Go.RowKit
attribute [local go_sem ↓] Go.wp_at_zero Go.wp_at_succ
theorem grown_set (w : World) (p i : Nat) (u : Value) : w.grownBy (w.setCell ⟨p, i, none⟩ u) (some p) :=
  ⟨rfl, rfl, rfl, by simp [World.setCell], fun j hj hne => Below.heap_setCell w ⟨p, i, none⟩ u j (by rintro rfl; exact hne rfl)⟩
/-- The cell that the closure keeps, at block p. -/
def Nx (w : World) (p : Nat) (a o f k : Int) : Prop := w.heap[p]? = some (.cells #[.int .i64 0, .int .i64 a, .int .i64 o, .int .i64 f, .int .i64 k] 51 (0, 0))
theorem nx_below {w w' : World} {p : Nat} {a o f k : Int} (h : Nx w p a o f k) (hb : Below w.heap.size w w') : Nx w' p a o f k := blk_below h hb
set_option maxHeartbeats 4000000 in
theorem cells1_any (x a o f k : Int) (p : Nat) (w : World) (hk : 0 ≤ k) (hk' : k ≤ 1000) (hN : Nx w p a o f k) :
    Calls Tryd.prog 149 #[.int .i64 x, .pointer (some ⟨p, 0, none⟩)] w fun e w' => e = .returned (.agg #[.int .i64 x, .int .i64 a, .int .i64 o, .int .i64 f, .int .i64 k]) ∧ Nx w' p a o f (k + 1) ∧ w.grownBy w' (some p) := by
  have hp := blk_lt hN
  unfold Nx at hN
  have k0 := fun i => cell_of_row w p i _ _ _ hN
  have q0 : w.cell? ⟨p, 0, none⟩ = some (.int .i64 0) := k0 0
  have q1 : w.cell? ⟨p, 1, none⟩ = some (.int .i64 a) := k0 1
  have q2 : w.cell? ⟨p, 2, none⟩ = some (.int .i64 o) := k0 2
  have q3 : w.cell? ⟨p, 3, none⟩ = some (.int .i64 f) := k0 3
  have q4 : w.cell? ⟨p, 4, none⟩ = some (.int .i64 k) := k0 4
  have f4 : w.frozen? ⟨p, 4, none⟩ = false := frozen_of_row w p 4 _ _ hN
  have HN := Lib.hid hN
  clear hN k0
  go_enter Tryd.func149, Tryd.ntmps149
  go_wp2
  exact bodyPost_ret (v := .agg #[.int .i64 x, .int .i64 a, .int .i64 o, .int .i64 f, .int .i64 k]) (by simp [results, Tryd.results149, go_sem]) rfl ⟨rfl, blk_alloc (blk_alloc (blk_set HN.out 4 _) _) _, ((grown_set w p 4 _).trans (World.grownBy_alloc _ _ _)).trans (World.grownBy_alloc _ _ _)⟩
/-- A text's bytes as cells. -/
def tkL (s : ByteArray) (a o f : Int) (k : Nat) : List Cl := (List.range k).map fun i => (((s.get! i).toNat : Int), a, o, f, (i : Int))
/-- A sign's cells. -/
def shK (v l o : Int) : List Cl :=
  if 3 < cls v then tkL (shT v) (lkI v l) o v (shT v).size else if cls v = 2 then [(v, lkI v l, o, v, 0), (-1, lkI v l, o, v, 1)] else if cls v = 0 then [] else [(v, lkI v l, o, v, 0)]
theorem tkL_len (s : ByteArray) (a o f : Int) (k : Nat) : (tkL s a o f k).length = k := by simp [tkL]
theorem tkL_succ (s : ByteArray) (a o f : Int) (k : Nat) : tkL s a o f (k + 1) = tkL s a o f k ++ [(((s.get! k).toNat : Int), a, o, f, (k : Int))] := by simp [tkL, List.range_succ]
theorem made_cells (n : Nat) : madeCells #[.int .i64 0, .int .i64 0, .int .i64 0, .int .i64 0, .int .i64 0] (n * 5) = cRow (List.replicate n cl0) := by
  apply Array.ext
  · simp [madeCells, cRow, cCells_len]
  · intro i h1 h2
    simp only [madeCells, Array.getElem_map, Array.getElem_range]
    have hi : i < n * 5 := by simpa [madeCells] using h1
    have hlt : i / 5 < (List.replicate n cl0).length := by simp; omega
    have h := cCells_at (List.replicate n cl0) (i / 5) hlt
    have hz : (List.replicate n cl0).getD (i / 5) cl0 = cl0 := by
      rw [List.getD, List.getElem?_replicate]; split <;> rfl
    rw [hz] at h
    have hm : i % 5 = 0 ∨ i % 5 = 1 ∨ i % 5 = 2 ∨ i % 5 = 3 ∨ i % 5 = 4 := by omega
    have e : (cRow (List.replicate n cl0))[i]? = some (.int .i64 0) := by
      rw [cRow, List.getElem?_toArray]
      rcases hm with hm | hm | hm | hm | hm
      · rw [show i / 5 * 5 = i by omega] at h; exact h.1
      · rw [show i / 5 * 5 + 1 = i by omega] at h; exact h.2.1
      · rw [show i / 5 * 5 + 2 = i by omega] at h; exact h.2.2.1
      · rw [show i / 5 * 5 + 3 = i by omega] at h; exact h.2.2.2.1
      · rw [show i / 5 * 5 + 4 = i by omega] at h; exact h.2.2.2.2
    have e2 := Array.getElem?_eq_getElem h2
    rw [e] at e2
    injection e2 with e2
    rw [← e2]
    rcases hm with hm | hm | hm | hm | hm <;> simp [hm]
theorem cRow_set (L : List Cl) (k : Nat) (p : Cl) (h : k < L.length) : (((((cRow L).setIfInBounds (k * 5) (.int .i64 p.1)).setIfInBounds (k * 5 + 1) (.int .i64 p.2.1)).setIfInBounds (k * 5 + 2) (.int .i64 p.2.2.1)).setIfInBounds (k * 5 + 3) (.int .i64 p.2.2.2.1)).setIfInBounds (k * 5 + 4) (.int .i64 p.2.2.2.2) = cRow (L.set k p) := by
  apply Array.ext'
  simp only [cRow, cCells, Array.toList_setIfInBounds]
  induction L generalizing k with
  | nil => simp at h
  | cons x L ih =>
    cases k with
    | zero => rfl
    | succ k =>
      have := ih k (by simpa using h)
      rw [show (k + 1) * 5 = k * 5 + 1 + 1 + 1 + 1 + 1 by omega]
      simp only [List.flatMap_cons, List.cons_append, List.nil_append, List.set_cons_succ, this]
/-- What the loop has made after k rounds. -/
def kLp (s : ByteArray) (a o f : Int) (k : Nat) : List Cl := tkL s a o f k ++ List.replicate (s.size - k) cl0
theorem kLp_len (s : ByteArray) (a o f : Int) (k : Nat) (h : k ≤ s.size) : (kLp s a o f k).length = s.size := by simp [kLp, tkL_len]; omega
theorem kLp_set (s : ByteArray) (a o f : Int) (k : Nat) (h : k < s.size) : (kLp s a o f k).set k (((s.get! k).toNat : Int), a, o, f, (k : Int)) = kLp s a o f (k + 1) := by
  unfold kLp
  rw [List.set_append_right _ _ (by rw [tkL_len]; exact Nat.le_refl _), tkL_len, Nat.sub_self, tkL_succ, List.append_assoc]
  congr 1
  obtain ⟨m, hm⟩ : ∃ m, s.size - k = m + 1 := ⟨s.size - k - 1, by omega⟩
  rw [hm, show s.size - (k + 1) = m by omega]; rfl
theorem cl_cells {w : World} {g k : Nat} {L : List Cl} {t : TypeId} {f : Nat × Nat} (h : w.heap[g]? = some (.cells (cRow L) t f)) (hk : k < L.length) :
    w.cell? ⟨g, k * 5, none⟩ = some (.int .i64 (L.getD k cl0).1) ∧ w.cell? ⟨g, k * 5 + 1, none⟩ = some (.int .i64 (L.getD k cl0).2.1) ∧ w.cell? ⟨g, k * 5 + 2, none⟩ = some (.int .i64 (L.getD k cl0).2.2.1) ∧ w.cell? ⟨g, k * 5 + 3, none⟩ = some (.int .i64 (L.getD k cl0).2.2.2.1) ∧ w.cell? ⟨g, k * 5 + 4, none⟩ = some (.int .i64 (L.getD k cl0).2.2.2.2) := by
  have hh := cCells_at L k hk
  rw [cell_of_row _ _ _ _ _ _ h, cell_of_row _ _ _ _ _ _ h, cell_of_row _ _ _ _ _ _ h, cell_of_row _ _ _ _ _ _ h, cell_of_row _ _ _ _ _ _ h, cRow, List.getElem?_toArray, List.getElem?_toArray, List.getElem?_toArray, List.getElem?_toArray, List.getElem?_toArray]
  exact hh
theorem zero5 {W w1 : World} {h : Nat} (hh : W.heap.size = h) (hb : Below (W.alloc (.cells #[.int .i64 0, .int .i64 0, .int .i64 0, .int .i64 0, .int .i64 0] 51)).drew.heap.size (W.alloc (.cells #[.int .i64 0, .int .i64 0, .int .i64 0, .int .i64 0, .int .i64 0] 51)).drew w1) :
    w1.heap[h]? = some (.cells #[.int .i64 0, .int .i64 0, .int .i64 0, .int .i64 0, .int .i64 0] 51 (0, 0)) ∧ w1.cell? ⟨h, 0, none⟩ = some (.int .i64 0) ∧ w1.cell? ⟨h, 1, none⟩ = some (.int .i64 0) ∧ w1.cell? ⟨h, 2, none⟩ = some (.int .i64 0) ∧ w1.cell? ⟨h, 3, none⟩ = some (.int .i64 0) ∧ w1.cell? ⟨h, 4, none⟩ = some (.int .i64 0) ∧
    w1.frozen? ⟨h, 0, none⟩ = false ∧ w1.frozen? ⟨h, 1, none⟩ = false ∧ w1.frozen? ⟨h, 2, none⟩ = false ∧ w1.frozen? ⟨h, 3, none⟩ = false ∧ w1.frozen? ⟨h, 4, none⟩ = false := by
  subst hh
  have hg : w1.heap[W.heap.size]? = some (.cells #[.int .i64 0, .int .i64 0, .int .i64 0, .int .i64 0, .int .i64 0] 51 (0, 0)) := blk_below (w := (W.alloc (.cells #[.int .i64 0, .int .i64 0, .int .i64 0, .int .i64 0, .int .i64 0] 51)).drew) (heap_alloc_new W _) hb
  refine ⟨hg, cell_of_row _ _ _ _ _ _ hg, cell_of_row _ _ _ _ _ _ hg, cell_of_row _ _ _ _ _ _ hg, cell_of_row _ _ _ _ _ _ hg, cell_of_row _ _ _ _ _ _ hg, ?_, ?_, ?_, ?_, ?_⟩ <;> exact frozen_of_row _ _ _ _ _ hg
theorem cells_cases (v l o : Int) : (dng v = true ∧ shK v l o = tkL (shT v) (lkI v l) o v (shT v).size) ∨ (dng v = false ∧ wid v = 2 ∧ shK v l o = [(v, lkI v l, o, v, 0), (-1, lkI v l, o, v, 1)]) ∨
    (dng v = false ∧ wid v = 1 ∧ shK v l o = [(v, lkI v l, o, v, 0)]) ∨ (dng v = false ∧ wid v = 0 ∧ shK v l o = []) := by
  have hd : dng v = decide (3 < cls v) := rfl
  have hw : wid v = if cls v = 2 then 2 else if cls v = 1 ∨ cls v = 3 then 1 else 0 := rfl
  have hk : shK v l o = if 3 < cls v then tkL (shT v) (lkI v l) o v (shT v).size else if cls v = 2 then [(v, lkI v l, o, v, 0), (-1, lkI v l, o, v, 1)] else if cls v = 0 then [] else [(v, lkI v l, o, v, 0)] := rfl
  have hr := cls_rng v
  by_cases h : 3 < cls v
  · left; exact ⟨by rw [hd, decide_eq_true h], by rw [hk, if_pos h]⟩
  · right
    by_cases h2 : cls v = 2
    · left; exact ⟨by rw [hd, decide_eq_false h], by rw [hw, if_pos h2], by rw [hk, if_neg h, if_pos h2]⟩
    · right
      by_cases h0 : cls v = 0
      · right; exact ⟨by rw [hd, decide_eq_false h], by rw [hw, if_neg h2, if_neg (by omega)], by rw [hk, if_neg h, if_neg h2, if_pos h0]⟩
      · left; exact ⟨by rw [hd, decide_eq_false h], by rw [hw, if_neg h2, if_pos (by omega)], by rw [hk, if_neg h, if_neg h2, if_neg h0]⟩
set_option maxHeartbeats 8000000 in
theorem cells_any (v l o : Int) (w : World) (hT : Tabs w) :
    Calls Tryd.prog 110 #[.agg #[.int .i64 v, .int .i64 l], .int .i64 o] w fun e w' => ∃ x, e = .returned x ∧ ownC w' w.heap.size x (shK v l o) ∧ Below w.heap.size w w' := by
  obtain ⟨i0, hi, hz0, hz1, hz2⟩ := info_parts infoCell
  have hb0 := below_alloc w (.cells #[.int .i64 v, .int .i64 l] 53)
  have L := Lib.hid fun w hT => looks_any v l w hT
  have HT := Lib.hid (hT.below hb0)
  clear hT
  have hcs := cells_cases v l o
  have D := fun w hT => danger_any v w hT
  have X := fun w hT => shtext_any v w hT
  have WI := fun w hT => width_any v w hT
  have hsz := shT_size v
  generalize shK v l o = R at *
  generalize shT v = s at *
  generalize wid v = wd at *
  generalize dng v = dg at *
  generalize lkI v l = a at *
  have Hcs := Lib.hid hcs
  replace D := Lib.hid D; replace X := Lib.hid X; replace WI := Lib.hid WI
  clear hcs
  go_enter Tryd.func110, Tryd.ntmps110
  go_wp2
  have q1 : (w.alloc (.cells #[.int .i64 v, .int .i64 l] 53)).cell? ⟨w.heap.size, 0, none⟩ = some (.int .i64 v) := by rw [World.cell?_alloc_new]; rfl
  have q2 : (w.alloc (.cells #[.int .i64 v, .int .i64 l] 53)).cell? ⟨w.heap.size, 1, none⟩ = some (.int .i64 l) := by rw [World.cell?_alloc_new]; rfl
  have hsz0 : (w.alloc (.cells #[.int .i64 v, .int .i64 l] 53)).heap.size = w.heap.size + 1 := by simp
  generalize hW : w.alloc _ = W0 at *
  have hlt0 : w.heap.size < W0.heap.size := by omega
  have Hsz0 := Lib.hid hsz0
  clear hW hsz0
  have HTd := Lib.hid (show Tabs W0.drew from HT.out.below (Below.refl _ _).drew)
  have HTa := Lib.hid fun o => (show Tabs (W0.alloc o).drew from HT.out.below (below_alloc W0 o).drew)
  have q1a := fun o => (World.cell?_alloc_lt W0 o (⟨w.heap.size, 0, none⟩ : Addr) hlt0).trans q1
  have q2a := fun o => (World.cell?_alloc_lt W0 o (⟨w.heap.size, 1, none⟩ : Addr) hlt0).trans q2
  have n1 := World.new_ne W0 (⟨w.heap.size, 0, none⟩ : Addr) q1
  have n2 := World.new_ne W0 (⟨w.heap.size, 1, none⟩ : Addr) q2
  have n3 : ¬ w.heap.size = W0.heap.size := by omega
  have n4 : ¬ W0.heap.size = w.heap.size := by omega
  go_region_held3 (fun w' => w'.cell? ⟨w.heap.size, 0, none⟩ = some (.int .i64 v) ∧ w'.cell? ⟨w.heap.size, 1, none⟩ = some (.int .i64 l)) (first | go_keep) (first | (go_at_call 148; (with_reducible refine (L.out _ HTd.out).mono ?_); rintro e w1 ⟨rfl, hb1⟩; have cc1 := (hb1.cell (p := ⟨w.heap.size, 0, none⟩) hlt0).trans q1; have cc2 := (hb1.cell (p := ⟨w.heap.size, 1, none⟩) hlt0).trans q2) | (go_at_call 148; (with_reducible refine (L.out _ (HTa.out _)).mono ?_); rintro e w1 ⟨rfl, hb1⟩; have cc1 := (hb1.cell (p := ⟨w.heap.size, 0, none⟩) (by simp; omega)).trans (q1a _); have cc2 := (hb1.cell (p := ⟨w.heap.size, 1, none⟩) (by simp; omega)).trans (q2a _); obtain ⟨hz5, z0, z1, z2, z3, z4, y0, y1, y2, y3, y4⟩ := zero5 rfl hb1; have Hz5 := Lib.hid hz5; clear hz5))
  case' refine_2.refine_3.refine_3.refine_3.refine_3.refine_1.refine_2.refine_3.refine_1.refine_2.refine_1.refine_2 =>
    have M1 : Nx (w1.alloc (.cells #[.int .i64 0, .int .i64 a, .int .i64 o, .int .i64 v, .int .i64 0] 51)) w1.heap.size a o v 0 := heap_alloc_new _ _
    have hbq : Below W0.heap.size W0 w1 := (Below.refl _ _).drew.trans hb1
    have M3 : W0.heap.size ≤ w1.heap.size := hbq.size
    have M2 : Below W0.heap.size W0 (w1.alloc (.cells #[.int .i64 0, .int .i64 a, .int .i64 o, .int .i64 v, .int .i64 0] 51)) := hbq.alloc hbq.size _
    have m1 := (World.cell?_alloc_lt w1 (.cells #[.int .i64 0, .int .i64 a, .int .i64 o, .int .i64 v, .int .i64 0] 51) (⟨w.heap.size, 0, none⟩ : Addr) (Nat.lt_of_lt_of_le hlt0 M3)).trans cc1
    have m2 := (World.cell?_alloc_lt w1 (.cells #[.int .i64 0, .int .i64 a, .int .i64 o, .int .i64 v, .int .i64 0] 51) (⟨w.heap.size, 1, none⟩ : Addr) (Nat.lt_of_lt_of_le hlt0 M3)).trans cc2
    clear hb1 cc1 cc2 hbq
    have N2 := hb0.trans (M2.mono hb0.size)
    have N3 : w.heap.size < w1.heap.size := by omega
    have TT := Lib.hid (HT.out.below M2)
    clear q1 q2 hlt0 Hsz0 HTd HTa q1a q2a n1 n2 n3 n4 M2 M3 HT hb0 L
    generalize hW2 : w1.alloc _ = W2 at *
    generalize hpp : w1.heap.size = p at *
    clear hW2 hpp
  case' refine_2.refine_3.refine_3.refine_3.refine_3.refine_2.refine_1.refine_2.refine_1.refine_2.refine_3.refine_1.refine_2 =>
    have M1 : Nx (((((w1.setCell ⟨W0.heap.size, 0, none⟩ (.int .i64 0)).setCell ⟨W0.heap.size, 1, none⟩ (.int .i64 a)).setCell ⟨W0.heap.size, 2, none⟩ (.int .i64 o)).setCell ⟨W0.heap.size, 3, none⟩ (.int .i64 v)).setCell ⟨W0.heap.size, 4, none⟩ (.int .i64 0)) W0.heap.size a o v 0 :=
      blk_set (blk_set (blk_set (blk_set (blk_set Hz5.out 0 _) 1 _) 2 _) 3 _) 4 _
    have hbq : Below W0.heap.size W0 w1 := ((below_alloc W0 _).drew).trans (hb1.mono (by simp))
    have M3 : W0.heap.size ≤ W0.heap.size := Nat.le_refl _
    have M2 : Below W0.heap.size W0 (((((w1.setCell ⟨W0.heap.size, 0, none⟩ (.int .i64 0)).setCell ⟨W0.heap.size, 1, none⟩ (.int .i64 a)).setCell ⟨W0.heap.size, 2, none⟩ (.int .i64 o)).setCell ⟨W0.heap.size, 3, none⟩ (.int .i64 v)).setCell ⟨W0.heap.size, 4, none⟩ (.int .i64 0)) :=
      ((((hbq.setCell (Nat.le_refl _) _).setCell (Nat.le_refl _) _).setCell (Nat.le_refl _) _).setCell (Nat.le_refl _) _).setCell (Nat.le_refl _) _
    have m1 := M2.cell (p := ⟨w.heap.size, 0, none⟩) hlt0 |>.trans q1
    have m2 := M2.cell (p := ⟨w.heap.size, 1, none⟩) hlt0 |>.trans q2
    clear hb1 cc1 cc2 hbq z0 z1 z2 z3 z4 y0 y1 y2 y3 y4 Hz5
    have N2 := hb0.trans (M2.mono hb0.size)
    have N3 : w.heap.size < W0.heap.size := hlt0
    have TT := Lib.hid (HT.out.below M2)
    clear q1 q2 hlt0 Hsz0 HTd HTa q1a q2a n1 n2 n3 n4 M2 M3 HT hb0 L
    generalize hW2 : World.setCell _ _ _ = W2 at *
    generalize hpp : W0.heap.size = p at *
    clear hW2 hpp
  all_goals
    rcases Hcs.out with ⟨rfl, hR⟩ | ⟨rfl, rfl, hR⟩ | ⟨rfl, rfl, hR⟩ | ⟨rfl, rfl, hR⟩
  · have hmk := make_rowN (P := Tryd.prog) 36 51 i0 _ Tryd.underlying36 hi hz0 s.size (by rw [hz2]; omega) (by omega)
    rw [hz1] at hmk
    have hmade : madeCells (Value.agg #[.int .i64 0, .int .i64 0, .int .i64 0, .int .i64 0, .int .i64 0]).cells (s.size * 5) = cRow (kLp s a o v 0) := by rw [show (Value.agg #[.int .i64 0, .int .i64 0, .int .i64 0, .int .i64 0, .int .i64 0]).cells = #[.int .i64 0, .int .i64 0, .int .i64 0, .int .i64 0, .int .i64 0] from rfl, made_cells]; simp [kLp, tkL]
    rw [hmade] at hmk
    have HR := Lib.hid hR
    clear hR hmade Hcs WI
    have hp2 := blk_lt M1
    have hlt2 : w.heap.size < W2.heap.size := by omega
    go_wp2_with (first
      | (go_at_call 150; refine (D.out _ TT.out).mono ?_; rintro e w3 ⟨rfl, hb3⟩; have T3 := Lib.hid (TT.out.below hb3); have c31 := (hb3.cell (p := ⟨w.heap.size, 0, none⟩) hlt2).trans m1)
      | (go_at_call 151; refine (X.out _ T3.out).mono ?_; rintro e w4 ⟨rfl, hb4⟩))
    have M4 := Lib.hid (blk_below (blk_below M1 hb3) hb4)
    have N4 := N2.trans ((seqB hb3 hb4).mono N2.size)
    have hp4 : p < w4.heap.size := blk_lt M4.out
    clear c31 T3 hb3 hb4 m1 m2 M1 N2 D X TT
    have Y1 := Lib.hid (show Nx (w4.alloc (.cells (cRow (kLp s a o v 0)) 51)) p a o v 0 from blk_alloc M4.out _)
    go_loopw [28] (fun iv wr => ∃ k : Nat, k ≤ s.size ∧ iv = .int .i64 (k : Int) ∧ Hid (Nx wr p a o v (k : Int)) ∧ Hid (wr.heap[w4.heap.size]? = some (.cells (cRow (kLp s a o v k)) 51 (0, 0))) ∧ Below w.heap.size w wr) (fun iv _ => s.size - (intOf iv).toNat)
    case atStart => exact ⟨0, Nat.zero_le _, rfl, Y1, Lib.hid (heap_alloc_new _ _), N4.alloc N4.size _⟩
    case round =>
      obtain ⟨k, hk, rfl, hN, hG, hb⟩ := hrel
      by_cases hlt : k < s.size
      · have hk1 : (k : Int) < s.size := by omega
        have hk0 : (0 : Int) ≤ k := by omega
        have hlen := kLp_len s a o v k hk
        have hgp : w4.heap.size ≠ p := by omega
        have hgl := blk_lt hG.out
        have C := Lib.hid fun x => cells1_any x a o v (k : Int) p wr hk0 (by omega) hN.out
        have hset := kLp_set s a o v k hlt
        have hgx : ((s.get! k).toNat : Int) = wrap64 (s[k].toNat : Int) := by rw [w64_u8, get_get s k hlt]
        rw [hgx] at hset
        have Hset := Lib.hid hset
        have Hset2 := Lib.hid fun x => cRow_set (kLp s a o v k) k (x, a, o, v, (k : Int)) (by rw [hlen]; exact hlt)
        have Hcell := Lib.hid fun (w5 : World) (h : w5.heap[w4.heap.size]? = some (.cells (cRow (kLp s a o v k)) 51 (0, 0))) => cl_cells h (k := k) (by rw [hlen]; exact hlt)
        generalize (kLp s a o v k).getD k cl0 = q at *
        clear hset hgx hlen
        go_wp2_with (go_at_call 149; refine (C.out _).mono ?_; rintro e w5 ⟨rfl, hN5, hg5⟩; have G5 := Lib.hid ((hg5.block w4.heap.size hgl (by simpa using hgp)).trans hG.out); have z0 := (Hcell.out w5 G5.out).1; have z1 := (Hcell.out w5 G5.out).2.1; have z2 := (Hcell.out w5 G5.out).2.2.1; have z3 := (Hcell.out w5 G5.out).2.2.2.1; have z4 := (Hcell.out w5 G5.out).2.2.2.2; have y0 := fun i => frozen_of_row w5 w4.heap.size i _ _ G5.out; have HN5 := Lib.hid hN5; clear hN5)
        have N5 := hb.grown hg5 hb.size (fun j hj => by injection hj with hj; omega)
        go_roundw
        case rel => exact ⟨k + 1, by omega, by go_num, Lib.hid (blk_far (blk_far (blk_far (blk_far (blk_far HN5.out (Ne.symm hgp) _) (Ne.symm hgp) _) (Ne.symm hgp) _) (Ne.symm hgp) _) (Ne.symm hgp) _), Lib.hid (by rw [← Hset.out, ← Hset2.out]; exact blk_set (blk_set (blk_set (blk_set (blk_set G5.out _ _) _ _) _ _) _ _) _ _), ((((N5.setCell N4.size _).setCell N4.size _).setCell N4.size _).setCell N4.size _).setCell N4.size _⟩
        case measure => simp [intOf]; omega
      · obtain rfl : k = s.size := by omega
        have hfin : kLp s a o v s.size = tkL s a o v s.size := by unfold kLp; rw [Nat.sub_self, List.replicate_zero, List.append_nil]
        have HG2 := Lib.hid hG.out
        rw [hfin] at HG2
        clear hfin
        have hl := tkL_len s a o v s.size
        have HO := Lib.hid (own_of_blk (B := w.heap.size) HG2.out N4.size (by rw [hl]; unfold maxLen; omega))
        rw [hl] at HO
        clear hl
        go_wp2
        go_ret
        refine ⟨_, rfl, ?_, hb⟩
        rw [HR.out]; exact HO.out
  · have HR := Lib.hid hR
    clear hR Hcs X
    have hp2 := blk_lt M1
    have hlt2 : w.heap.size < W2.heap.size := by omega
    go_wp2_with (first
      | (go_at_call 150; refine (D.out _ TT.out).mono ?_; rintro e w3 ⟨rfl, hb3⟩; have T3 := Lib.hid (TT.out.below hb3); have c31 := (hb3.cell (p := ⟨w.heap.size, 0, none⟩) hlt2).trans m1; have hlt3 := Nat.lt_of_lt_of_le hlt2 hb3.size; have M3 := Lib.hid (nx_below M1 hb3))
      | (go_at_call 131; refine (WI.out _ T3.out).mono ?_; rintro e w4 ⟨rfl, hb4⟩; have c41 := (hb4.cell (p := ⟨w.heap.size, 0, none⟩) hlt3).trans c31; have M4 := Lib.hid (nx_below M3.out hb4))
      | (go_at_call 149; (with_reducible refine (cells1_any v a o v 0 p w4 (by omega) (by omega) M4.out).mono ?_); rintro e w5 ⟨rfl, hN5, hg5⟩; have M5 := Lib.hid hN5; clear hN5)
      | (go_at_call 149; (with_reducible refine (cells1_any (-1) a o v (0 + 1) p w5 (by omega) (by omega) M5.out).mono ?_); rintro e w6 ⟨rfl, hN6, hg6⟩; clear hN6))
    have N4 := N2.trans ((seqB hb3 hb4).mono N2.size)
    have hp4 : p < w4.heap.size := blk_lt M4.out
    have N5 := N4.grown hg5 N4.size (fun j hj => by injection hj with hj; omega)
    have N6 := N5.grown hg6 N5.size (fun j hj => by injection hj with hj; omega)
    go_ret
    refine ⟨_, rfl, ?_, N6.alloc N6.size _⟩
    rw [HR.out]
    exact own_of_blk (L := [(v, a, o, v, 0), (-1, a, o, v, 1)]) (heap_alloc_new _ _) N6.size (by simp [maxLen])
  · have HR := Lib.hid hR
    clear hR Hcs X
    have hp2 := blk_lt M1
    have hlt2 : w.heap.size < W2.heap.size := by omega
    go_wp2_with (first
      | (go_at_call 150; refine (D.out _ TT.out).mono ?_; rintro e w3 ⟨rfl, hb3⟩; have T3 := Lib.hid (TT.out.below hb3); have c31 := (hb3.cell (p := ⟨w.heap.size, 0, none⟩) hlt2).trans m1; have hlt3 := Nat.lt_of_lt_of_le hlt2 hb3.size; have M3 := Lib.hid (nx_below M1 hb3))
      | (go_at_call 131; refine (WI.out _ T3.out).mono ?_; rintro e w4 ⟨rfl, hb4⟩; have c41 := (hb4.cell (p := ⟨w.heap.size, 0, none⟩) hlt3).trans c31; have M4 := Lib.hid (nx_below M3.out hb4))
      | (go_at_call 149; (with_reducible refine (cells1_any v a o v 0 p w4 (by omega) (by omega) M4.out).mono ?_); rintro e w5 ⟨rfl, hN5, hg5⟩; clear hN5))
    have N4 := N2.trans ((seqB hb3 hb4).mono N2.size)
    have hp4 : p < w4.heap.size := blk_lt M4.out
    have N5 := N4.grown hg5 N4.size (fun j hj => by injection hj with hj; omega)
    go_ret
    refine ⟨_, rfl, ?_, N5.alloc N5.size _⟩
    rw [HR.out]
    exact own_of_blk (L := [(v, a, o, v, 0)]) (heap_alloc_new _ _) N5.size (by simp [maxLen])
  · have HR := Lib.hid hR
    clear hR Hcs X
    have hp2 := blk_lt M1
    have hlt2 : w.heap.size < W2.heap.size := by omega
    go_wp2_with (first
      | (go_at_call 150; refine (D.out _ TT.out).mono ?_; rintro e w3 ⟨rfl, hb3⟩; have T3 := Lib.hid (TT.out.below hb3); have c31 := (hb3.cell (p := ⟨w.heap.size, 0, none⟩) hlt2).trans m1; have hlt3 := Nat.lt_of_lt_of_le hlt2 hb3.size; have M3 := Lib.hid (nx_below M1 hb3))
      | (go_at_call 131; refine (WI.out _ T3.out).mono ?_; rintro e w4 ⟨rfl, hb4⟩; have c41 := (hb4.cell (p := ⟨w.heap.size, 0, none⟩) hlt3).trans c31; have M4 := Lib.hid (nx_below M3.out hb4)))
    have N4 := N2.trans ((seqB hb3 hb4).mono N2.size)
    go_ret
    refine ⟨_, rfl, ?_, N4⟩
    rw [HR.out]
    exact World.ownsRow_nil _ _ _ _
  · have hmk := make_rowN (P := Tryd.prog) 36 51 i0 _ Tryd.underlying36 hi hz0 s.size (by rw [hz2]; omega) (by omega)
    rw [hz1] at hmk
    have hmade : madeCells (Value.agg #[.int .i64 0, .int .i64 0, .int .i64 0, .int .i64 0, .int .i64 0]).cells (s.size * 5) = cRow (kLp s a o v 0) := by rw [show (Value.agg #[.int .i64 0, .int .i64 0, .int .i64 0, .int .i64 0, .int .i64 0]).cells = #[.int .i64 0, .int .i64 0, .int .i64 0, .int .i64 0, .int .i64 0] from rfl, made_cells]; simp [kLp, tkL]
    rw [hmade] at hmk
    have HR := Lib.hid hR
    clear hR hmade Hcs WI
    have hp2 := blk_lt M1
    have hlt2 : w.heap.size < W2.heap.size := by omega
    go_wp2_with (first
      | (go_at_call 150; refine (D.out _ TT.out).mono ?_; rintro e w3 ⟨rfl, hb3⟩; have T3 := Lib.hid (TT.out.below hb3); have c31 := (hb3.cell (p := ⟨w.heap.size, 0, none⟩) hlt2).trans m1)
      | (go_at_call 151; refine (X.out _ T3.out).mono ?_; rintro e w4 ⟨rfl, hb4⟩))
    have M4 := Lib.hid (blk_below (blk_below M1 hb3) hb4)
    have N4 := N2.trans ((seqB hb3 hb4).mono N2.size)
    have hp4 : p < w4.heap.size := blk_lt M4.out
    clear c31 T3 hb3 hb4 m1 m2 M1 N2 D X TT
    have Y1 := Lib.hid (show Nx (w4.alloc (.cells (cRow (kLp s a o v 0)) 51)) p a o v 0 from blk_alloc M4.out _)
    go_loopw [28] (fun iv wr => ∃ k : Nat, k ≤ s.size ∧ iv = .int .i64 (k : Int) ∧ Hid (Nx wr p a o v (k : Int)) ∧ Hid (wr.heap[w4.heap.size]? = some (.cells (cRow (kLp s a o v k)) 51 (0, 0))) ∧ Below w.heap.size w wr) (fun iv _ => s.size - (intOf iv).toNat)
    case atStart => exact ⟨0, Nat.zero_le _, rfl, Y1, Lib.hid (heap_alloc_new _ _), N4.alloc N4.size _⟩
    case round =>
      obtain ⟨k, hk, rfl, hN, hG, hb⟩ := hrel
      by_cases hlt : k < s.size
      · have hk1 : (k : Int) < s.size := by omega
        have hk0 : (0 : Int) ≤ k := by omega
        have hlen := kLp_len s a o v k hk
        have hgp : w4.heap.size ≠ p := by omega
        have hgl := blk_lt hG.out
        have C := Lib.hid fun x => cells1_any x a o v (k : Int) p wr hk0 (by omega) hN.out
        have hset := kLp_set s a o v k hlt
        have hgx : ((s.get! k).toNat : Int) = wrap64 (s[k].toNat : Int) := by rw [w64_u8, get_get s k hlt]
        rw [hgx] at hset
        have Hset := Lib.hid hset
        have Hset2 := Lib.hid fun x => cRow_set (kLp s a o v k) k (x, a, o, v, (k : Int)) (by rw [hlen]; exact hlt)
        have Hcell := Lib.hid fun (w5 : World) (h : w5.heap[w4.heap.size]? = some (.cells (cRow (kLp s a o v k)) 51 (0, 0))) => cl_cells h (k := k) (by rw [hlen]; exact hlt)
        generalize (kLp s a o v k).getD k cl0 = q at *
        clear hset hgx hlen
        go_wp2_with (go_at_call 149; refine (C.out _).mono ?_; rintro e w5 ⟨rfl, hN5, hg5⟩; have G5 := Lib.hid ((hg5.block w4.heap.size hgl (by simpa using hgp)).trans hG.out); have z0 := (Hcell.out w5 G5.out).1; have z1 := (Hcell.out w5 G5.out).2.1; have z2 := (Hcell.out w5 G5.out).2.2.1; have z3 := (Hcell.out w5 G5.out).2.2.2.1; have z4 := (Hcell.out w5 G5.out).2.2.2.2; have y0 := fun i => frozen_of_row w5 w4.heap.size i _ _ G5.out; have HN5 := Lib.hid hN5; clear hN5)
        have N5 := hb.grown hg5 hb.size (fun j hj => by injection hj with hj; omega)
        go_roundw
        case rel => exact ⟨k + 1, by omega, by go_num, Lib.hid (blk_far (blk_far (blk_far (blk_far (blk_far HN5.out (Ne.symm hgp) _) (Ne.symm hgp) _) (Ne.symm hgp) _) (Ne.symm hgp) _) (Ne.symm hgp) _), Lib.hid (by rw [← Hset.out, ← Hset2.out]; exact blk_set (blk_set (blk_set (blk_set (blk_set G5.out _ _) _ _) _ _) _ _) _ _), ((((N5.setCell N4.size _).setCell N4.size _).setCell N4.size _).setCell N4.size _).setCell N4.size _⟩
        case measure => simp [intOf]; omega
      · obtain rfl : k = s.size := by omega
        have hfin : kLp s a o v s.size = tkL s a o v s.size := by unfold kLp; rw [Nat.sub_self, List.replicate_zero, List.append_nil]
        have HG2 := Lib.hid hG.out
        rw [hfin] at HG2
        clear hfin
        have hl := tkL_len s a o v s.size
        have HO := Lib.hid (own_of_blk (B := w.heap.size) HG2.out N4.size (by rw [hl]; unfold maxLen; omega))
        rw [hl] at HO
        clear hl
        go_wp2
        go_ret
        refine ⟨_, rfl, ?_, hb⟩
        rw [HR.out]; exact HO.out
  · have HR := Lib.hid hR
    clear hR Hcs X
    have hp2 := blk_lt M1
    have hlt2 : w.heap.size < W2.heap.size := by omega
    go_wp2_with (first
      | (go_at_call 150; refine (D.out _ TT.out).mono ?_; rintro e w3 ⟨rfl, hb3⟩; have T3 := Lib.hid (TT.out.below hb3); have c31 := (hb3.cell (p := ⟨w.heap.size, 0, none⟩) hlt2).trans m1; have hlt3 := Nat.lt_of_lt_of_le hlt2 hb3.size; have M3 := Lib.hid (nx_below M1 hb3))
      | (go_at_call 131; refine (WI.out _ T3.out).mono ?_; rintro e w4 ⟨rfl, hb4⟩; have c41 := (hb4.cell (p := ⟨w.heap.size, 0, none⟩) hlt3).trans c31; have M4 := Lib.hid (nx_below M3.out hb4))
      | (go_at_call 149; (with_reducible refine (cells1_any v a o v 0 p w4 (by omega) (by omega) M4.out).mono ?_); rintro e w5 ⟨rfl, hN5, hg5⟩; have M5 := Lib.hid hN5; clear hN5)
      | (go_at_call 149; (with_reducible refine (cells1_any (-1) a o v (0 + 1) p w5 (by omega) (by omega) M5.out).mono ?_); rintro e w6 ⟨rfl, hN6, hg6⟩; clear hN6))
    have N4 := N2.trans ((seqB hb3 hb4).mono N2.size)
    have hp4 : p < w4.heap.size := blk_lt M4.out
    have N5 := N4.grown hg5 N4.size (fun j hj => by injection hj with hj; omega)
    have N6 := N5.grown hg6 N5.size (fun j hj => by injection hj with hj; omega)
    go_ret
    refine ⟨_, rfl, ?_, N6.alloc N6.size _⟩
    rw [HR.out]
    exact own_of_blk (L := [(v, a, o, v, 0), (-1, a, o, v, 1)]) (heap_alloc_new _ _) N6.size (by simp [maxLen])
  · have HR := Lib.hid hR
    clear hR Hcs X
    have hp2 := blk_lt M1
    have hlt2 : w.heap.size < W2.heap.size := by omega
    go_wp2_with (first
      | (go_at_call 150; refine (D.out _ TT.out).mono ?_; rintro e w3 ⟨rfl, hb3⟩; have T3 := Lib.hid (TT.out.below hb3); have c31 := (hb3.cell (p := ⟨w.heap.size, 0, none⟩) hlt2).trans m1; have hlt3 := Nat.lt_of_lt_of_le hlt2 hb3.size; have M3 := Lib.hid (nx_below M1 hb3))
      | (go_at_call 131; refine (WI.out _ T3.out).mono ?_; rintro e w4 ⟨rfl, hb4⟩; have c41 := (hb4.cell (p := ⟨w.heap.size, 0, none⟩) hlt3).trans c31; have M4 := Lib.hid (nx_below M3.out hb4))
      | (go_at_call 149; (with_reducible refine (cells1_any v a o v 0 p w4 (by omega) (by omega) M4.out).mono ?_); rintro e w5 ⟨rfl, hN5, hg5⟩; clear hN5))
    have N4 := N2.trans ((seqB hb3 hb4).mono N2.size)
    have hp4 : p < w4.heap.size := blk_lt M4.out
    have N5 := N4.grown hg5 N4.size (fun j hj => by injection hj with hj; omega)
    go_ret
    refine ⟨_, rfl, ?_, N5.alloc N5.size _⟩
    rw [HR.out]
    exact own_of_blk (L := [(v, a, o, v, 0)]) (heap_alloc_new _ _) N5.size (by simp [maxLen])
  · have HR := Lib.hid hR
    clear hR Hcs X
    have hp2 := blk_lt M1
    have hlt2 : w.heap.size < W2.heap.size := by omega
    go_wp2_with (first
      | (go_at_call 150; refine (D.out _ TT.out).mono ?_; rintro e w3 ⟨rfl, hb3⟩; have T3 := Lib.hid (TT.out.below hb3); have c31 := (hb3.cell (p := ⟨w.heap.size, 0, none⟩) hlt2).trans m1; have hlt3 := Nat.lt_of_lt_of_le hlt2 hb3.size; have M3 := Lib.hid (nx_below M1 hb3))
      | (go_at_call 131; refine (WI.out _ T3.out).mono ?_; rintro e w4 ⟨rfl, hb4⟩; have c41 := (hb4.cell (p := ⟨w.heap.size, 0, none⟩) hlt3).trans c31; have M4 := Lib.hid (nx_below M3.out hb4)))
    have N4 := N2.trans ((seqB hb3 hb4).mono N2.size)
    go_ret
    refine ⟨_, rfl, ?_, N4⟩
    rw [HR.out]
    exact World.ownsRow_nil _ _ _ _
end Go.Proofs.YtcdecnmhogmhaaaDoor
set_option linter.unusedVariables false
set_option linter.unusedSimpArgs false
namespace Go.Proofs.YtcdecnmhogmhaaaDoor
open Go.RowKit
theorem shK_le (v l o : Int) : (shK v l o).length ≤ 30 := by
  have h := shT_size v
  rcases cells_cases v l o with ⟨_, hs⟩ | ⟨_, _, hs⟩ | ⟨_, _, hs⟩ | ⟨_, _, hs⟩ <;> rw [hs]
  · rw [tkL_len]; exact h
  all_goals (simp)
theorem shK_len (v l o : Int) : ((shK v l o).length : Int) = shC v := by
  have hd : dng v = decide (3 < cls v) := rfl
  rcases cells_cases v l o with ⟨h, hs⟩ | ⟨h, h2, hs⟩ | ⟨h, h2, hs⟩ | ⟨h, h2, hs⟩ <;> rw [hs]
  · rw [tkL_len, shC_big (by rw [hd] at h; exact of_decide_eq_true h)]
  all_goals (rw [shC_small (by rw [hd] at h; exact of_decide_eq_false h), h2]; rfl)
attribute [local go_sem ↓] Go.wp_at_zero Go.wp_at_succ
theorem ownC_mono {w : World} {B B' : Nat} {v : Value} {L : List Cl} (h : ownC w B v L) (hB : B' ≤ B) : ownC w B' v L := by
  unfold ownC at h ⊢
  refine ⟨h.1, ?_⟩
  rcases h.2 with h2 | ⟨g, cap, cur, hv, hg, r⟩
  · exact .inl h2
  · exact .inr ⟨g, cap, cur, hv, Nat.le_trans hB hg, r⟩
theorem cells_casesR (v l o : Int) : (cls v = 0 ∧ shK v l o = []) ∨ (cls v = 2 ∧ shK v l o = [(v, lkI v l, o, v, 0), (-1, lkI v l, o, v, 1)]) ∨ ((cls v = 1 ∨ cls v = 3) ∧ shK v l o = [(v, lkI v l, o, v, 0)]) ∨ (3 < cls v ∧ shK v l o = tkL (shT v) (lkI v l) o v (shT v).size) := by
  have hr := cls_rng v
  have hk : shK v l o = if 3 < cls v then tkL (shT v) (lkI v l) o v (shT v).size else if cls v = 2 then [(v, lkI v l, o, v, 0), (-1, lkI v l, o, v, 1)] else if cls v = 0 then [] else [(v, lkI v l, o, v, 0)] := rfl
  by_cases h : 3 < cls v
  · right; right; right; exact ⟨h, by rw [hk, if_pos h]⟩
  · by_cases h2 : cls v = 2
    · right; left; exact ⟨h2, by rw [hk, if_neg h, if_pos h2]⟩
    · by_cases h0 : cls v = 0
      · left; exact ⟨h0, by rw [hk, if_neg h, if_neg h2, if_pos h0]⟩
      · right; right; left; exact ⟨by omega, by rw [hk, if_neg h, if_neg h2, if_neg h0]⟩
set_option maxHeartbeats 8000000 in
theorem cells_ref (v l o : Int) (w : World) :
    Calls Tryd.prog 77 #[.agg #[.int .i64 v, .int .i64 l], .int .i64 o] w fun e w' => ∃ x, e = .returned x ∧ ownC w' w.heap.size x (shK v l o) ∧ Below w.heap.size w w' := by
  obtain ⟨i0, hi, hz0, hz1, hz2⟩ := info_parts infoCell
  have hb0 := below_alloc w (.cells #[.int .i64 v, .int .i64 l] 53)
  have L := Lib.hid fun w => looks_ref v l w
  have hcs := cells_casesR v l o
  have O := fun w => of_ref v w
  rw [← cls_eq] at O
  have X := Lib.hid fun w => shtext_ref v w
  have hsz := shT_size v
  generalize shK v l o = R at *
  generalize shT v = s at *
  generalize lkI v l = a at *
  generalize cls v = c at *
  replace O := Lib.hid O
  have q1 : (w.alloc (.cells #[.int .i64 v, .int .i64 l] 53)).cell? ⟨w.heap.size, 0, none⟩ = some (.int .i64 v) := by rw [World.cell?_alloc_new]; rfl
  have hsz0 : (w.alloc (.cells #[.int .i64 v, .int .i64 l] 53)).heap.size = w.heap.size + 1 := by simp
  rcases hcs with ⟨rfl, hR⟩ | ⟨rfl, hR⟩ | ⟨hc, hR⟩ | ⟨hc, hR⟩
  · have HR := Lib.hid hR; clear hR
    go_enter Tryd.func77, Tryd.ntmps77
    go_wp2_with (first
      | (go_at_call 119; refine (L.out _).mono ?_; rintro e w1 ⟨rfl, hb1⟩; have c1 := (hb1.cell (p := ⟨w.heap.size, 0, none⟩) (by simp)).trans q1)
      | (go_at_call 42; refine (O.out _).mono ?_; rintro e w2 ⟨rfl, hb2⟩))
    go_ret
    refine ⟨_, rfl, ?_, seqB (seqB hb0 hb1) hb2⟩
    rw [HR.out]; exact World.ownsRow_nil _ _ _ _
  · have HR := Lib.hid hR; clear hR
    go_enter Tryd.func77, Tryd.ntmps77
    go_wp2_with (first
      | (go_at_call 119; refine (L.out _).mono ?_; rintro e w1 ⟨rfl, hb1⟩; have hlt1 : w.heap.size < w1.heap.size := (by have := hb1.size; simp at this; omega); have c1 := (hb1.cell (p := ⟨w.heap.size, 0, none⟩) (by simp)).trans q1)
      | (go_at_call 42; refine (O.out _).mono ?_; rintro e w2 ⟨rfl, hb2⟩; have hlt2 := Nat.lt_of_lt_of_le hlt1 hb2.size; have c2 := (hb2.cell (p := ⟨w.heap.size, 0, none⟩) hlt1).trans c1; have c2' := fun o => (World.cell?_alloc_lt w2 o (⟨w.heap.size, 0, none⟩ : Addr) hlt2).trans c2)
      | (at_builtin; refine wpList_append_own _ rfl _ _ 36 rfl w.heap.size 51 i0 _ 5 40 Tryd.underlying36 hi hz0 hz1 hz2 rfl (by decide) _ 1 (cCells [(v, a, o, v, 0)]) rfl ((show (w2.alloc (.cells (cRow [(v, a, o, v, 0)]) 51)).ownsRow w.heap.size 51 5 (.slice (some ⟨w2.heap.size, 0, none⟩) 1 1) 1 (cCells [(v, a, o, v, 0)]) from own_of_blk (L := [(v, a, o, v, 0)]) (heap_alloc_new _ _) (Nat.le_of_lt hlt2) (by simp [maxLen])).alloc _) ⟨w2.heap.size + 1, 0, none⟩ 1 1 (cCells [(-1, a, o, v, 1)]) rfl rfl ?c1 ?c2 ?c3 ?c4 ?c5 ?_))
    case c1 => intro j x hj; exact app_cells (by simp) hj
    case c2 => intro x hx; simp [cCells] at hx; rcases hx with rfl | rfl | rfl | rfl | rfl <;> rfl
    case c3 => unfold maxLen; omega
    case c4 => omega
    case c5 => simp; omega
    intro v' w3 hown3 hgrow3 _
    have N2 := seqB (seqB hb0 hb1) hb2
    have N3 := (N2.alloc N2.size (.cells (cRow [(v, a, o, v, 0)]) 51))
    have N4 := (N3.alloc N3.size (.cells (cRow [(-1, a, o, v, 1)]) 51)).grown hgrow3 (by have := N2.size; simp; omega) (fun k hk => by simp [Value.ownBlock] at hk; have := N2.size; omega)
    have HO := Lib.hid hown3
    clear hown3 hgrow3
    go_wp2
    go_ret
    refine ⟨_, rfl, ?_, N4⟩
    rw [HR.out]; exact HO.out
  · have HR := Lib.hid hR; clear hR
    rcases hc with rfl | rfl
    all_goals
      go_enter Tryd.func77, Tryd.ntmps77
      go_wp2_with (first
        | (go_at_call 119; refine (L.out _).mono ?_; rintro e w1 ⟨rfl, hb1⟩; have hlt1 : w.heap.size < w1.heap.size := (by have := hb1.size; simp at this; omega); have c1 := (hb1.cell (p := ⟨w.heap.size, 0, none⟩) (by simp)).trans q1)
        | (go_at_call 42; refine (O.out _).mono ?_; rintro e w2 ⟨rfl, hb2⟩; have hlt2 := Nat.lt_of_lt_of_le hlt1 hb2.size; have c2 := (hb2.cell (p := ⟨w.heap.size, 0, none⟩) hlt1).trans c1))
      go_ret
      have N2 := seqB (seqB hb0 hb1) hb2
      refine ⟨_, rfl, ?_, N2.alloc N2.size _⟩
      rw [HR.out]
      exact own_of_blk (L := [(v, a, o, v, 0)]) (heap_alloc_new _ _) N2.size (by simp [maxLen])
  · have HR := Lib.hid hR; clear hR
    have b0 : (c == 0) = false := by rw [beq_eq_false_iff_ne]; omega
    go_enter Tryd.func77, Tryd.ntmps77
    go_wp2_with (first
      | (go_at_call 119; refine (L.out _).mono ?_; rintro e w1 ⟨rfl, hb1⟩; have hlt1 : w.heap.size < w1.heap.size := (by have := hb1.size; simp at this; omega); have c1 := (hb1.cell (p := ⟨w.heap.size, 0, none⟩) (by simp)).trans q1)
      | (go_at_call 42; refine (O.out _).mono ?_; rintro e w2 ⟨rfl, hb2⟩; have hlt2 := Nat.lt_of_lt_of_le hlt1 hb2.size; have c2 := (hb2.cell (p := ⟨w.heap.size, 0, none⟩) hlt1).trans c1)
      | (go_at_call 120; refine (X.out _).mono ?_; rintro e w3 ⟨rfl, hb3⟩))
    have N3 := seqB (seqB (seqB hb0 hb1) hb2) hb3
    have hlt3 := Nat.lt_of_lt_of_le hlt2 hb3.size
    have c3 := (hb3.cell (p := ⟨w.heap.size, 0, none⟩) hlt2).trans c2
    have C3 := Lib.hid c3
    clear c1 c2 c3 hb1 hb2 hb3 hlt1 hlt2 q1 hsz0 hb0 L O X
    go_loopw [9, 10] (fun ov iv wr => ∃ k : Nat, k ≤ s.size ∧ iv = .int .i64 (k : Int) ∧ Hid (ownC wr (w.heap.size + 1) ov (tkL s a o v k)) ∧ Hid (wr.cell? ⟨w.heap.size, 0, none⟩ = some (.int .i64 v)) ∧ Below w.heap.size w wr) (fun _ iv _ => s.size - (intOf iv).toNat)
    case atStart => exact ⟨0, Nat.zero_le _, rfl, Lib.hid (World.ownsRow_nil _ _ _ _), C3, N3⟩
    case round =>
      obtain ⟨k, hk, rfl, hO, hC, hb⟩ := hrel
      by_cases hlt : k < s.size
      · have hk1 : (k : Int) < s.size := by omega
        have hk0 : (0 : Int) ≤ k := by omega
        have hown := hO.out
        unfold ownC at hown
        rw [tkL_len] at hown
        have hc1 := hC.out
        have hcl := block_lt_of_cell hc1
        have ag : u9.ownBlock ≠ some w.heap.size := fun e => by have := (hown.lt _ e).1; omega
        have Hown := Lib.hid hown
        have hsk := tkL_succ s a o v k
        have hgx : ((s.get! k).toNat : Int) = IntKind.i64.wrap (s[k].toNat : Int) := by rw [get_get s k hlt]; have := s[k].toNat_lt; rw [IntKind.wrap_i64]; omega
        rw [hgx] at hsk
        have Hsk := Lib.hid hsk
        clear hsk hgx hown
        go_wp2
        go_region_held3 (fun w' => w'.cell? ⟨w.heap.size, 0, none⟩ = some (.int .i64 v)) (first | go_keep | (rw [hgrow.cell_far _ (by simp; omega) (Ne.symm ag)]; assumption))
          ((refine step_append_lies _ (by rfl) _ _ _ (by rfl) (w.heap.size + 1) 51 i0 _ 5 40 Tryd.underlying36 hi hz0 hz1 hz2 rfl (by decide) _ k (cCells (tkL s a o v k)) (by rfl) ((show (wr.alloc _).drew.ownsRow _ _ _ _ _ _ from Hown.out.alloc _)) ⟨wr.heap.size, 0, none⟩ 1 1 [.int .i64 (IntKind.i64.wrap (s[k].toNat : Int)), .int .i64 a, .int .i64 o, .int .i64 v, .int .i64 (k : Int)] (by rfl) (by rfl) (fun j x hj => app_cells rfl hj) (by simp [Value.oneCell']) (by omega) (by unfold maxLen; omega) (by omega) (by simp; omega) (wr.heap.size + 1) (by simp) ?_; intro gg cap w1 hown1 hgrow hat hlt1))
        have N4 := ((hb.alloc hb.size (.cells #[.int .i64 (IntKind.i64.wrap (s[k].toNat : Int)), .int .i64 a, .int .i64 o, .int .i64 v, .int .i64 (k : Int)] 51)).drew).grown hgrow (by have := hb.size; simp; omega) (fun j hj => by have := (Hown.out.lt j hj).1; omega)
        have H1 := Lib.hid hown1
        have HC1 := Lib.hid (show w1.cell? ⟨w.heap.size, 0, none⟩ = some (.int .i64 v) by assumption)
        clear hown1 hgrow hat
        go_wp2
        go_roundw
        case rel => exact ⟨k + 1, by omega, by go_num, Lib.hid (by rw [Hsk.out]; unfold ownC; rw [List.length_append, tkL_len, cCells_snoc]; exact H1.out), HC1, N4⟩
        case measure => simp [intOf]; omega
      · obtain rfl : k = s.size := by omega
        go_wp2
        go_ret
        refine ⟨_, rfl, ?_, hb⟩
        rw [HR.out]; exact ownC_mono hO.out (Nat.le_succ _)
end Go.Proofs.YtcdecnmhogmhaaaDoor
set_option linter.unusedVariables false
set_option linter.unusedSimpArgs false
namespace Go.Proofs.YtcdecnmhogmhaaaDoor
open Go.RowKit
/-- What the cell at k gives to row r. -/
def rwO (L : List Cl) (w r : Int) (k : Nat) : List Cl :=
  if ((spAll L w).getD k (0, 0)).1 ≠ r then [] else if w = 1 ∧ (L.getD k cl0).1 = -1 then [] else
    if w = 1 ∧ k + 1 < L.length ∧ (L.getD (k + 1) cl0).1 = -1 then [(35, (L.getD k cl0).2)] else [L.getD k cl0]
/-- The cells of row r among the first k. -/
def rwS (L : List Cl) (w r : Int) (k : Nat) : List Cl := (List.range k).flatMap (rwO L w r)
theorem rwS_succ (L : List Cl) (w r : Int) (k : Nat) : rwS L w r (k + 1) = rwS L w r k ++ rwO L w r k := by simp [rwS, List.range_succ]
theorem rwS_le (L : List Cl) (w r : Int) : ∀ k, (rwS L w r k).length ≤ k
  | 0 => by simp [rwS]
  | k + 1 => by
    have ih := rwS_le L w r k
    have h : (rwO L w r k).length ≤ 1 := by unfold rwO; repeat' split
                                            all_goals simp
    rw [rwS_succ, List.length_append]; omega
theorem spAll_len (L : List Cl) (w : Int) : (spAll L w).length = L.length + 1 := by unfold spAll; rw [List.length_append, spS_len]; rfl
set_option maxHeartbeats 8000000 in
theorem row_ref (L : List Cl) (wd r : Int) (a : Option Addr) (c : Nat) (w : World) (hl : L.length ≤ 100000) (hw : 1 ≤ wd) (hw2 : wd ≤ 1000) (hlay : layB L = true) (ha : CellsIn w a L) :
    Calls Tryd.prog 73 #[.slice a L.length c, .int .i64 wd, .int .i64 r] w fun e w' => ∃ x, e = .returned x ∧ ownC w' w.heap.size x (rwS L wd r L.length) ∧ Below w.heap.size w w' := by
  obtain ⟨i0, hi, hz0, hz1, hz2⟩ := info_parts infoCell
  have SP := Lib.hid (spots_ref L wd a c w hl hw hw2 hlay ha)
  have HA := Lib.hid ha
  clear ha hlay
  have hsl := spAll_len L wd
  go_enter Tryd.func73, Tryd.ntmps73
  go_wp2_with (go_at_call 23; refine SP.out.mono ?_; rintro e w1 ⟨x, rfl, hown1, hb1⟩; obtain ⟨sa, sc, rfl, hs⟩ := spots_of_own hown1; rw [hsl]; have HS := Lib.hid hs; have HA1 := Lib.hid (HA.out.below hb1); clear hs hown1)
  clear SP
  go_loopw [8, 9] (fun ov iv wr => ∃ k : Nat, k ≤ L.length ∧ iv = .int .i64 (k : Int) ∧ Hid (ownC wr w1.heap.size ov (rwS L wd r k)) ∧ Below w1.heap.size w1 wr) (fun _ iv _ => L.length - (intOf iv).toNat)
  case atStart => exact ⟨0, Nat.zero_le _, rfl, Lib.hid (World.ownsRow_nil _ _ _ _), Below.refl _ _⟩
  case round =>
    obtain ⟨k, hk, rfl, hO, hbl⟩ := hrel
    by_cases hlt : k < L.length
    · obtain ⟨b1, o1, rfl, hblk, c1, c2, c3, c4, c5⟩ := (HA1.out.below hbl) k hlt
      obtain ⟨b2, o2, rfl, hblk2, p1, p2⟩ := (HS.out.below hbl) k (by omega)
      have hk1 : (k : Int) < L.length := by omega
      have hk0 : (0 : Int) ≤ k := by omega
      have hk6 : (k : Int) < ((L.length + 1 : Nat) : Int) := by omega
      have hk7 : (k : Int) < (L.length : Int) + 1 := by omega
      have hk4 : (0 : Int) ≤ (k : Int) + 1 := by omega
      have hown := hO.out
      unfold ownC at hown
      have hsz := hbl.size
      have hsz1 := hb1.size
      have hle := rwS_le L wd r k
      have hst := rwS_succ L wd r k
      have he : rwO L wd r k = if ((spAll L wd).getD k (0, 0)).1 ≠ r then [] else if wd = 1 ∧ (L.getD k cl0).1 = -1 then [] else if wd = 1 ∧ k + 1 < L.length ∧ (L.getD (k + 1) cl0).1 = -1 then [(35, (L.getD k cl0).2)] else [L.getD k cl0] := rfl
      have cellN : k + 1 < L.length → wr.cell? ⟨b1, o1 + (k + 1) * 5, none⟩ = some (.int .i64 (L.getD (k + 1) cl0).1) := fun h => by
        obtain ⟨b2, o2, e2, hb2, d1, _⟩ := (HA1.out.below hbl) (k + 1) h
        obtain ⟨rfl, rfl⟩ : b1 = b2 ∧ o1 = o2 := by simpa using e2
        exact d1
      generalize rwS L wd r k = Y at *
      generalize ((spAll L wd).getD k (0, 0)).1 = pr at *
      generalize ((spAll L wd).getD k (0, 0)).2 = pc at *
      obtain ⟨v, x2, x3, x4, x5, hq⟩ : ∃ v x2 x3 x4 x5, L.getD k cl0 = (v, x2, x3, x4, x5) := ⟨_, _, _, _, _, rfl⟩
      rw [hq] at c1 c2 c3 c4 c5 he
      clear hq
      simp only at c1 c2 c3 c4 c5 he
      by_cases h1 : pr = r
      · rw [if_neg (by simp [h1])] at he
        subst h1
        by_cases hv : v = -1
        · subst hv
          by_cases h2 : wd = 1
          · rw [if_pos ⟨h2, rfl⟩] at he
            rw [he] at hst
            have Hst := Lib.hid hst
            subst h2
            clear he hst cellN hown
            go_wp2
            go_roundw
            case rel => exact ⟨k + 1, by omega, by go_num, Lib.hid (by rw [Hst.out, List.append_nil]; exact hO.out), hbl⟩
            case measure => (simp [intOf]; try omega)
          · rw [if_neg (fun h => h2 h.1), if_neg (fun h => h2 h.1)] at he
            rw [he] at hst
            have Hst := Lib.hid hst
            have h2b : (wd == 1) = false := by rw [beq_eq_false_iff_ne]; exact h2
            clear he hst cellN
            go_wp2_with (at_builtin; refine wpList_append_own _ rfl _ _ 36 rfl w1.heap.size 51 i0 _ 5 40 Tryd.underlying36 hi hz0 hz1 hz2 rfl (by decide) _ _ _ rfl ((hown.alloc _).alloc _) ⟨wr.heap.size + 1, 0, none⟩ 1 1 [.int .i64 (-1), .int .i64 x2, .int .i64 x3, .int .i64 x4, .int .i64 x5] rfl rfl (fun j x hj => app_cells (by simp) hj) ?g2 ?g3 ?g4 ?g5 ?_)
            case g2 => simp [Value.oneCell']
            case g3 => unfold maxLen; omega
            case g4 => omega
            case g5 => first | omega | (simp; omega)
            intro v' w5 hown5 hgrow5 _
            have N4 := hbl.alloc hbl.size (.cells #[.int .i64 (-1), .int .i64 x2, .int .i64 x3, .int .i64 x4, .int .i64 x5] 51)
            have N5 := (N4.alloc N4.size (.cells #[.int .i64 (-1), .int .i64 x2, .int .i64 x3, .int .i64 x4, .int .i64 x5] 51)).grown hgrow5 (by have := hbl.size; simp; omega) (fun j hj => (hown.lt j hj).1)
            have HO := Lib.hid hown5
            clear hown5 hgrow5 hown
            go_wp2
            go_roundw
            case rel => exact ⟨k + 1, by omega, by go_num, Lib.hid (by rw [Hst.out]; unfold ownC; rw [List.length_append, cCells_snoc]; exact HO.out), N5⟩
            case measure => (simp [intOf]; try omega)
        · have hvb : (v == -1) = false := by rw [beq_eq_false_iff_ne]; exact hv
          rw [if_neg (fun h => hv h.2)] at he
          by_cases h2 : wd = 1
          · subst h2
            by_cases hk2 : k + 1 < L.length
            · have d1 := cellN hk2
              have d1' := fun o => (World.cell?_alloc_lt wr o (⟨b1, o1 + (k + 1) * 5, none⟩ : Addr) hblk).trans d1
              have hk3 : (k : Int) + 1 < L.length := by omega
              by_cases hn : (L.getD (k + 1) cl0).1 = -1
              · rw [if_pos ⟨rfl, hk2, hn⟩] at he
                rw [he] at hst
                rw [hn] at d1'
                have Hst := Lib.hid hst
                clear he hst cellN d1 hn
                go_wp2_with (at_builtin; refine wpList_append_own _ rfl _ _ 36 rfl w1.heap.size 51 i0 _ 5 40 Tryd.underlying36 hi hz0 hz1 hz2 rfl (by decide) _ _ _ rfl ((hown.alloc _).alloc _) ⟨wr.heap.size + 1, 0, none⟩ 1 1 [.int .i64 35, .int .i64 x2, .int .i64 x3, .int .i64 x4, .int .i64 x5] rfl rfl (fun j x hj => app_cells (by simp) hj) ?g2 ?g3 ?g4 ?g5 ?_)
                case g2 => simp [Value.oneCell']
                case g3 => unfold maxLen; omega
                case g4 => omega
                case g5 => first | omega | (simp; omega)
                intro v' w5 hown5 hgrow5 _
                have N4 := hbl.alloc hbl.size (.cells #[.int .i64 35, .int .i64 x2, .int .i64 x3, .int .i64 x4, .int .i64 x5] 51)
                have N5 := (N4.alloc N4.size (.cells #[.int .i64 35, .int .i64 x2, .int .i64 x3, .int .i64 x4, .int .i64 x5] 51)).grown hgrow5 (by have := hbl.size; simp; omega) (fun j hj => (hown.lt j hj).1)
                have HO := Lib.hid hown5
                clear hown5 hgrow5 hown
                go_wp2
                go_roundw
                case rel => exact ⟨k + 1, by omega, by go_num, Lib.hid (by rw [Hst.out]; unfold ownC; rw [List.length_append, cCells_snoc]; exact HO.out), N5⟩
                case measure => (simp [intOf]; try omega)
              · rw [if_neg (fun h => hn h.2.2)] at he
                rw [he] at hst
                have hnb : ((L.getD (k + 1) cl0).1 == -1) = false := by rw [beq_eq_false_iff_ne]; exact hn
                have Hst := Lib.hid hst
                clear he hst cellN d1
                generalize (L.getD (k + 1) cl0).1 = v2 at *
                go_wp2_with (at_builtin; refine wpList_append_own _ rfl _ _ 36 rfl w1.heap.size 51 i0 _ 5 40 Tryd.underlying36 hi hz0 hz1 hz2 rfl (by decide) _ _ _ rfl ((hown.alloc _).alloc _) ⟨wr.heap.size + 1, 0, none⟩ 1 1 [.int .i64 v, .int .i64 x2, .int .i64 x3, .int .i64 x4, .int .i64 x5] rfl rfl (fun j x hj => app_cells (by simp) hj) ?g2 ?g3 ?g4 ?g5 ?_)
                case g2 => simp [Value.oneCell']
                case g3 => unfold maxLen; omega
                case g4 => omega
                case g5 => first | omega | (simp; omega)
                intro v' w5 hown5 hgrow5 _
                have N4 := hbl.alloc hbl.size (.cells #[.int .i64 v, .int .i64 x2, .int .i64 x3, .int .i64 x4, .int .i64 x5] 51)
                have N5 := (N4.alloc N4.size (.cells #[.int .i64 v, .int .i64 x2, .int .i64 x3, .int .i64 x4, .int .i64 x5] 51)).grown hgrow5 (by have := hbl.size; simp; omega) (fun j hj => (hown.lt j hj).1)
                have HO := Lib.hid hown5
                clear hown5 hgrow5 hown
                go_wp2
                go_roundw
                case rel => exact ⟨k + 1, by omega, by go_num, Lib.hid (by rw [Hst.out]; unfold ownC; rw [List.length_append, cCells_snoc]; exact HO.out), N5⟩
                case measure => (simp [intOf]; try omega)
            · have hk3 : ¬ (k : Int) + 1 < L.length := by omega
              rw [if_neg (fun h => hk2 h.2.1)] at he
              rw [he] at hst
              have Hst := Lib.hid hst
              clear he hst cellN
              go_wp2_with (at_builtin; refine wpList_append_own _ rfl _ _ 36 rfl w1.heap.size 51 i0 _ 5 40 Tryd.underlying36 hi hz0 hz1 hz2 rfl (by decide) _ _ _ rfl ((hown.alloc _).alloc _) ⟨wr.heap.size + 1, 0, none⟩ 1 1 [.int .i64 v, .int .i64 x2, .int .i64 x3, .int .i64 x4, .int .i64 x5] rfl rfl (fun j x hj => app_cells (by simp) hj) ?g2 ?g3 ?g4 ?g5 ?_)
              case g2 => simp [Value.oneCell']
              case g3 => unfold maxLen; omega
              case g4 => omega
              case g5 => first | omega | (simp; omega)
              intro v' w5 hown5 hgrow5 _
              have N4 := hbl.alloc hbl.size (.cells #[.int .i64 v, .int .i64 x2, .int .i64 x3, .int .i64 x4, .int .i64 x5] 51)
              have N5 := (N4.alloc N4.size (.cells #[.int .i64 v, .int .i64 x2, .int .i64 x3, .int .i64 x4, .int .i64 x5] 51)).grown hgrow5 (by have := hbl.size; simp; omega) (fun j hj => (hown.lt j hj).1)
              have HO := Lib.hid hown5
              clear hown5 hgrow5 hown
              go_wp2
              go_roundw
              case rel => exact ⟨k + 1, by omega, by go_num, Lib.hid (by rw [Hst.out]; unfold ownC; rw [List.length_append, cCells_snoc]; exact HO.out), N5⟩
              case measure => (simp [intOf]; try omega)
          · rw [if_neg (fun h => h2 h.1)] at he
            rw [he] at hst
            have Hst := Lib.hid hst
            have h2b : (wd == 1) = false := by rw [beq_eq_false_iff_ne]; exact h2
            clear he hst cellN
            go_wp2_with (at_builtin; refine wpList_append_own _ rfl _ _ 36 rfl w1.heap.size 51 i0 _ 5 40 Tryd.underlying36 hi hz0 hz1 hz2 rfl (by decide) _ _ _ rfl ((hown.alloc _).alloc _) ⟨wr.heap.size + 1, 0, none⟩ 1 1 [.int .i64 v, .int .i64 x2, .int .i64 x3, .int .i64 x4, .int .i64 x5] rfl rfl (fun j x hj => app_cells (by simp) hj) ?g2 ?g3 ?g4 ?g5 ?_)
            case g2 => simp [Value.oneCell']
            case g3 => unfold maxLen; omega
            case g4 => omega
            case g5 => first | omega | (simp; omega)
            intro v' w5 hown5 hgrow5 _
            have N4 := hbl.alloc hbl.size (.cells #[.int .i64 v, .int .i64 x2, .int .i64 x3, .int .i64 x4, .int .i64 x5] 51)
            have N5 := (N4.alloc N4.size (.cells #[.int .i64 v, .int .i64 x2, .int .i64 x3, .int .i64 x4, .int .i64 x5] 51)).grown hgrow5 (by have := hbl.size; simp; omega) (fun j hj => (hown.lt j hj).1)
            have HO := Lib.hid hown5
            clear hown5 hgrow5 hown
            go_wp2
            go_roundw
            case rel => exact ⟨k + 1, by omega, by go_num, Lib.hid (by rw [Hst.out]; unfold ownC; rw [List.length_append, cCells_snoc]; exact HO.out), N5⟩
            case measure => (simp [intOf]; try omega)
      · rw [if_pos h1] at he
        rw [he] at hst
        have Hst := Lib.hid hst
        have h1b : (pr != r) = true := by rw [bne_iff_ne]; exact h1
        clear he hst cellN hown
        go_wp2
        go_roundw
        case rel => exact ⟨k + 1, by omega, by go_num, Lib.hid (by rw [Hst.out, List.append_nil]; exact hO.out), hbl⟩
        case measure => (simp [intOf]; try omega)
    · obtain rfl : k = L.length := by omega
      go_wp2
      go_ret
      exact ⟨_, rfl, ownC_mono hO.out hb1.size, hb1.trans (hbl.mono hb1.size)⟩
end Go.Proofs.YtcdecnmhogmhaaaDoor
