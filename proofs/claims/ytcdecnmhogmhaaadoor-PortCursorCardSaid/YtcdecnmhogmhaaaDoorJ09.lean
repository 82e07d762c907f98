/-
  Joined: R29 R21 R22 R28.
-/
import Derived.Test.YtcdecnmhogmhaaaDoorJ08
import Derived.Deep.CutRange
import Derived.Deep.RegionHeld3
set_option linter.unusedVariables false
set_option linter.unusedSimpArgs false
set_option maxRecDepth 100000
set_option linter.unusedVariables false
set_option linter.unusedSimpArgs false
namespace Go.Proofs.YtcdecnmhogmhaaaDoor
open Go.RowKit
/-- The outer row's cells when k rows are there. -/
def cpV (n k : Nat) (Ls : List (List Cl)) (hs : Nat → Nat) : List Value := (List.range k).map (fun (i : Nat) => Value.slice (some ⟨hs i, 0, none⟩) (Ls.getD i []).length (Ls.getD i []).length) ++ List.replicate (n - k) (.slice none 0 0)
theorem cpV_set (n k b : Nat) (Ls : List (List Cl)) (hs : Nat → Nat) (hk : k < n) (len : Nat) (hl : (Ls.getD k []).length = len) : (cpV n k Ls hs).toArray.setIfInBounds k (.slice (some ⟨b, 0, none⟩) len len) = (cpV n (k + 1) Ls (fun i => if i = k then b else hs i)).toArray := by
  unfold cpV
  rw [List.setIfInBounds_toArray]
  congr 1
  have e : ((List.range k).map (fun (i : Nat) => Value.slice (some ⟨hs i, 0, none⟩) (Ls.getD i []).length (Ls.getD i []).length)).length = k := by rw [List.length_map, List.length_range]
  obtain ⟨m, hm⟩ : ∃ m, n - k = m + 1 := ⟨n - k - 1, by omega⟩
  rw [List.set_append_right _ _ (by rw [e]; exact Nat.le_refl _), e, Nat.sub_self, hm, show n - (k + 1) = m by omega, List.replicate_succ, List.range_succ, List.map_append, List.append_assoc]
  congr 1
  · apply List.map_congr_left
    intro i hi
    have : i ≠ k := by have := List.mem_range.1 hi; omega
    show _ = Value.slice (some ⟨if i = k then b else hs i, 0, none⟩) _ _
    rw [if_neg this]
  · rw [← hl]; simp
structure CpM (w : World) (B g n k : Nat) (Ls : List (List Cl)) (hs : Nat → Nat) : Prop where
  blk : w.heap[g]? = some (.cells (cpV n k Ls hs).toArray 36 (0, 0))
  rows : ∀ i, i < k → B ≤ hs i ∧ w.heap[hs i]? = some (.cells (cRow (Ls.getD i [])) 51 (0, 0))
theorem CpM.cells {w : World} {B g n k : Nat} {Ls : List (List Cl)} {hs : Nat → Nat} (h : CpM w B g n k Ls hs) (hk : k < n) : w.cell? ⟨g, k, none⟩ = some (.slice none 0 0) ∧ w.frozen? ⟨g, k, none⟩ = false := by
  refine ⟨?_, frozen_of_row w g k _ _ h.blk⟩
  rw [cell_of_row _ _ _ _ _ _ h.blk, List.getElem?_toArray]
  unfold cpV
  rw [List.getElem?_append_right (by rw [List.length_map, List.length_range]; exact Nat.le_refl _), List.length_map, List.length_range, Nat.sub_self]
  obtain ⟨m, hm⟩ : ∃ m, n - k = m + 1 := ⟨n - k - 1, by omega⟩
  rw [hm]; rfl
theorem CpM.done {w : World} {B g : Nat} {Ls : List (List Cl)} {hs : Nat → Nat} (h : CpM w B g Ls.length Ls.length Ls hs) : RowsB w g Ls := by
  refine ⟨⟨_, h.blk⟩, fun i hi => ⟨hs i, (Ls.getD i []).length, ?_, (h.rows i hi).2⟩⟩
  rw [cell_of_row _ _ _ _ _ _ h.blk, List.getElem?_toArray]
  unfold cpV
  rw [List.getElem?_append_left (by rw [List.length_map, List.length_range]; exact hi), List.getElem?_map, List.getElem?_range hi]; rfl
theorem cpV_nil (n : Nat) (Ls : List (List Cl)) (hs : Nat → Nat) : madeCells (Value.slice none 0 0).cells (n * 1) = (cpV n 0 Ls hs).toArray := by
  unfold cpV
  apply Array.ext
  · simp [madeCells, Value.cells]
  · intro i h1 h2
    simp [madeCells, Value.cells]
    rw [show i % 1 = 0 by omega]; rfl
set_option maxHeartbeats 8000000 in
theorem pcopy_any (W H R C : Int) (Ls : List (List Cl)) (a : Option Addr) (c : Nat) (w : World) (hl : Ls.length ≤ 1000) (hL : ∀ i, (Ls.getD i []).length ≤ 1000) (ha : RowsC w a Ls) :
    Calls Tryd.prog 62 #[.agg #[.int .i64 W, .int .i64 H, .slice a Ls.length c, .int .i64 R, .int .i64 C]] w fun e w' => ∃ g : Nat, e = .returned (.agg #[.int .i64 W, .int .i64 H, .slice (some ⟨g, 0, none⟩) Ls.length Ls.length, .int .i64 R, .int .i64 C]) ∧ RowsB w' g Ls ∧ Below w.heap.size w w' := by
  obtain ⟨i1, hj, hy0, hy1, hy2⟩ := info_parts infoCS
  obtain ⟨i0, hi, hz0, hz1, hz2⟩ := info_parts infoCell
  have hmk := make_rowN (P := Tryd.prog) 26 36 i1 _ Tryd.underlying26 hj hy0 Ls.length (by rw [hy2]; omega) (by omega)
  rw [hy1, cpV_nil Ls.length Ls (fun _ => 0)] at hmk
  have HA := Lib.hid ha
  clear ha
  generalize hn : Ls.length = n at *
  go_enter Tryd.func62, Tryd.ntmps62
  go_wp2
  have A1 := heap_alloc_new w (.cells #[.int .i64 W, .int .i64 H, .slice a n c, .int .i64 R, .int .i64 C] 28)
  have N1 := below_alloc w (.cells #[.int .i64 W, .int .i64 H, .slice a n c, .int .i64 R, .int .i64 C] 28)
  have z1 : (w.alloc (.cells #[.int .i64 W, .int .i64 H, .slice a n c, .int .i64 R, .int .i64 C] 28)).heap.size = w.heap.size + 1 := by simp
  generalize w.alloc (.cells #[.int .i64 W, .int .i64 H, .slice a n c, .int .i64 R, .int .i64 C] 28) = W1 at *
  have A2 := heap_alloc_new W1 (.cells #[.int .i64 0, .int .i64 0, .slice none 0 0, .int .i64 0, .int .i64 0] 28)
  have N2 := N1.alloc N1.size (.cells #[.int .i64 0, .int .i64 0, .slice none 0 0, .int .i64 0, .int .i64 0] 28)
  have z2 : (W1.alloc (.cells #[.int .i64 0, .int .i64 0, .slice none 0 0, .int .i64 0, .int .i64 0] 28)).heap.size = w.heap.size + 1 + 1 := by simp [z1]
  rw [z1] at A2
  generalize W1.alloc (.cells #[.int .i64 0, .int .i64 0, .slice none 0 0, .int .i64 0, .int .i64 0] 28) = W2 at *
  have A3 := heap_alloc_new W2 (.cells #[.int .i64 W, .int .i64 H, .slice (some ⟨w.heap.size + 1 + 1 + 1, 0, none⟩) n n, .int .i64 R, .int .i64 C] 28)
  have N3 := N2.alloc N2.size (.cells #[.int .i64 W, .int .i64 H, .slice (some ⟨w.heap.size + 1 + 1 + 1, 0, none⟩) n n, .int .i64 R, .int .i64 C] 28)
  have z3 : (W2.alloc (.cells #[.int .i64 W, .int .i64 H, .slice (some ⟨w.heap.size + 1 + 1 + 1, 0, none⟩) n n, .int .i64 R, .int .i64 C] 28)).heap.size = w.heap.size + 1 + 1 + 1 := by simp [z2]
  rw [z2] at A3
  replace A2 := blk_alloc A2 (.cells #[.int .i64 W, .int .i64 H, .slice (some ⟨w.heap.size + 1 + 1 + 1, 0, none⟩) n n, .int .i64 R, .int .i64 C] 28)
  generalize W2.alloc (.cells #[.int .i64 W, .int .i64 H, .slice (some ⟨w.heap.size + 1 + 1 + 1, 0, none⟩) n n, .int .i64 R, .int .i64 C] 28) = W3 at *
  have A4 := heap_alloc_new W3 (.cells (cpV n 0 Ls (fun _ => 0)).toArray 36)
  have N4 := N3.alloc N3.size (.cells (cpV n 0 Ls (fun _ => 0)).toArray 36)
  rw [z3] at A4
  replace A2 := Lib.hid (blk_alloc A2 (.cells (cpV n 0 Ls (fun _ => 0)).toArray 36))
  replace A3 := Lib.hid (blk_alloc A3 (.cells (cpV n 0 Ls (fun _ => 0)).toArray 36))
  have F0 := Lib.hid (show CpM (W3.alloc (.cells (cpV n 0 Ls (fun _ => 0)).toArray 36)) (w.heap.size + 1) (w.heap.size + 1 + 1 + 1) n 0 Ls (fun _ => 0) from ⟨A4, fun i hi => absurd hi (by omega)⟩)
  generalize W3.alloc (.cells (cpV n 0 Ls (fun _ => 0)).toArray 36) = W4 at *
  clear A1 A4 N1 N2 N3 z1 z2 z3 hmk
  go_loopw [15] (fun iv wr => ∃ (k : Nat) (hs : Nat → Nat), k ≤ n ∧ iv = .int .i64 (k : Int) ∧ Hid (CpM wr (w.heap.size + 1) (w.heap.size + 1 + 1 + 1) n k Ls hs) ∧ Hid (wr.heap[w.heap.size + 1]? = some (.cells #[.int .i64 0, .int .i64 0, .slice none 0 0, .int .i64 0, .int .i64 0] 28 (0, 0))) ∧
    Hid (wr.heap[w.heap.size + 1 + 1]? = some (.cells #[.int .i64 W, .int .i64 H, .slice (some ⟨w.heap.size + 1 + 1 + 1, 0, none⟩) n n, .int .i64 R, .int .i64 C] 28 (0, 0))) ∧ Below w.heap.size w wr) (fun iv _ => n - (intOf iv).toNat)
  case atStart => exact ⟨0, _, Nat.zero_le _, rfl, F0, A2, A3, N4⟩
  case round =>
    obtain ⟨k, hs, hk, rfl, hF, h2, h3, hbl⟩ := hrel
    have hsz := blk_lt hF.out.blk
    by_cases hlt : k < n
    · have hk1 : (k : Int) < n := by omega
      have hk0 : (0 : Int) ≤ k := by omega
      have c3 : wr.cell? ⟨w.heap.size + 1 + 1, 2, none⟩ = some (.slice (some ⟨w.heap.size + 1 + 1 + 1, 0, none⟩) n n) := by rw [cell_of_row _ _ _ _ _ _ h3.out]; rfl
      obtain ⟨f1, f2⟩ := hF.out.cells hlt
      have hn1 : w.heap.size + 1 + 1 + 1 ≠ w.heap.size + 1 + 1 := by omega
      have hn2 : w.heap.size + 1 ≠ w.heap.size + 1 + 1 + 1 := by omega
      have hn3 : w.heap.size + 1 + 1 ≠ w.heap.size + 1 + 1 + 1 := by omega
      have hn4 : w.heap.size + 1 + 1 < wr.heap.size := by omega
      have hBg : w.heap.size ≤ w.heap.size + 1 + 1 + 1 := by omega
      obtain ⟨bb, off, ra, rc, rfl, hbb, hr0, hci, hcn⟩ := HA.out k (by omega)
      have hr := (hbl.cell (p := ⟨bb, off + k, none⟩) hbb).trans hr0
      have hgb : w.heap.size + 1 + 1 + 1 ≠ bb := by omega
      generalize hS : w.heap.size + 1 + 1 = sb at *
      generalize hG : sb + 1 = g at *
      have hLk := hL k
      clear hr0
      generalize hR0 : Ls.getD k [] = Rk at hr hci hLk
      have HR0 := Lib.hid hR0
      clear hR0
      have hmr := make_rowN (P := Tryd.prog) 36 51 i0 _ Tryd.underlying36 hi hz0 Rk.length (by rw [hz2]; omega) (by omega)
      rw [hz1, show (Value.agg #[.int .i64 0, .int .i64 0, .int .i64 0, .int .i64 0, .int .i64 0]).cells = #[.int .i64 0, .int .i64 0, .int .i64 0, .int .i64 0, .int .i64 0] from rfl, made_cells] at hmr
      have c3a := fun o => (World.cell?_alloc_lt wr o (⟨sb, 2, none⟩ : Addr) hn4).trans c3
      have f1a := fun o => (World.cell?_alloc_lt wr o (⟨g, k, none⟩ : Addr) hsz).trans f1
      have f2a := fun o => (World.frozen?_of_block (w := wr) (w' := wr.alloc o) (a := ⟨g, k, none⟩) (Below.heap_alloc _ _ _ hsz)).trans f2
      go_upto_region 6 with fail
      go_region_held3 (fun w' => w'.cell? ⟨sb, 2, none⟩ = some (.slice (some ⟨g, 0, none⟩) n n)) (first | exact c3 | exact c3a _ | exact (World.cell?_setCell_far _ _ _ _ hn1).trans c3 | exact (World.cell?_setCell_far _ _ _ _ hn1).trans (c3a _) | go_keep) (fail)
      have zs : (wr.setCell ⟨g, k, none⟩ (.slice (some ⟨wr.heap.size, 0, none⟩) Rk.length Rk.length)).heap.size = wr.heap.size := by simp [World.setCell]
      have X1 := heap_alloc_new (wr.setCell ⟨g, k, none⟩ (.slice (some ⟨wr.heap.size, 0, none⟩) Rk.length Rk.length)) (.cells (cRow (List.replicate Rk.length cl0)) 51)
      rw [zs] at X1
      have X2 := blk_set hF.out.blk k (.slice (some ⟨wr.heap.size, 0, none⟩) Rk.length Rk.length)
      rw [cpV_set n k wr.heap.size Ls hs hlt Rk.length (by rw [HR0.out])] at X2
      replace X2 := blk_alloc X2 (.cells (cRow (List.replicate Rk.length cl0)) 51)
      have X3 : ∀ i, i < k → w.heap.size + 1 ≤ hs i ∧ hs i < wr.heap.size ∧ ((wr.setCell ⟨g, k, none⟩ (.slice (some ⟨wr.heap.size, 0, none⟩) Rk.length Rk.length)).alloc (.cells (cRow (List.replicate Rk.length cl0)) 51)).heap[hs i]? = some (.cells (cRow (Ls.getD i [])) 51 (0, 0)) := fun i hi => by
        obtain ⟨g1, g2⟩ := hF.out.rows i hi
        exact ⟨g1, blk_lt g2, blk_alloc (blk_far g2 (fun e => by rw [show hs i = g from e, hF.out.blk] at g2; simp at g2) _) _⟩
      have X4 := blk_alloc (blk_far h2.out (p := ⟨g, k, none⟩) (by show w.heap.size + 1 ≠ g; omega) (.slice (some ⟨wr.heap.size, 0, none⟩) Rk.length Rk.length)) (.cells (cRow (List.replicate Rk.length cl0)) 51)
      have X5 := blk_alloc (blk_far h3.out (p := ⟨g, k, none⟩) (by show sb ≠ g; omega) (.slice (some ⟨wr.heap.size, 0, none⟩) Rk.length Rk.length)) (.cells (cRow (List.replicate Rk.length cl0)) 51)
      have X6 := ((hbl.setCell (p := ⟨g, k, none⟩) hBg (.slice (some ⟨wr.heap.size, 0, none⟩) Rk.length Rk.length)).alloc (by rw [zs]; exact hbl.size) (.cells (cRow (List.replicate Rk.length cl0)) 51)).drew
      have X7 := blk_set hF.out.blk k (.slice (some ⟨wr.heap.size, 0, none⟩) Rk.length Rk.length)
      generalize hwx : World.drew _ = wx
      have hX : wx.heap = ((wr.setCell ⟨g, k, none⟩ (.slice (some ⟨wr.heap.size, 0, none⟩) Rk.length Rk.length)).alloc (.cells (cRow (List.replicate Rk.length cl0)) 51)).heap := by rw [← hwx]; rfl
      rw [← hX] at X1 X2 X4 X5
      have X3' : ∀ i, i < k → w.heap.size + 1 ≤ hs i ∧ hs i < wr.heap.size ∧ wx.heap[hs i]? = some (.cells (cRow (Ls.getD i [])) 51 (0, 0)) := fun i hi => by rw [hX]; exact X3 i hi
      rw [hwx] at X6
      have c3x : wx.cell? ⟨sb, 2, none⟩ = some (.slice (some ⟨g, 0, none⟩) n n) := by rw [cell_of_row _ _ _ _ _ _ X5]; rfl
      have f1x : wx.cell? ⟨g, k, none⟩ = some (.slice (some ⟨wr.heap.size, 0, none⟩) Rk.length Rk.length) := by
        rw [cell_of_row _ _ _ _ _ _ X2, List.getElem?_toArray]
        unfold cpV
        rw [List.getElem?_append_left (by rw [List.length_map, List.length_range]; omega), List.getElem?_map, List.getElem?_range (by omega)]
        show some (Value.slice (some ⟨if k = k then wr.heap.size else hs k, 0, none⟩) (Ls.getD k []).length (Ls.getD k []).length) = _
        rw [if_pos rfl, HR0.out]
      have hcx := Lib.hid (hci.below X6)
      have hxs : wr.heap.size < wx.heap.size := blk_lt X1
      generalize hnb : wr.heap.size = nb at *
      have hgn : g < nb := hsz
      have HX2 := Lib.hid X2; have HX3 := Lib.hid X3'; have HX4 := Lib.hid X4; have HX5 := Lib.hid X5; have HX1 := Lib.hid X1
      clear X1 X2 X3 X3' X4 X5 X7 hX hwx zs c3 c3a f1 f1a f2 f2a hF h2 h3 hr hmr hci
      have fin : ∀ wz : World, wz.heap[nb]? = some (.cells (cRow Rk) 51 (0, 0)) → (∀ j, j ≠ nb → wz.heap[j]? = wx.heap[j]?) → CpM wz (w.heap.size + 1) g n (k + 1) Ls (fun i => if i = k then nb else hs i) ∧ wz.heap[w.heap.size + 1]? = some (.cells #[.int .i64 0, .int .i64 0, .slice none 0 0, .int .i64 0, .int .i64 0] 28 (0, 0)) ∧ wz.heap[sb]? = some (.cells #[.int .i64 W, .int .i64 H, .slice (some ⟨g, 0, none⟩) n n, .int .i64 R, .int .i64 C] 28 (0, 0)) := fun wz y1 y2 => by
        refine ⟨⟨(y2 g (by omega)).trans HX2.out, fun i hi => ?_⟩, (y2 _ (by omega)).trans HX4.out, (y2 sb (by omega)).trans HX5.out⟩
        by_cases hik : i = k
        · subst hik
          show w.heap.size + 1 ≤ (if i = i then nb else hs i) ∧ wz.heap[if i = i then nb else hs i]? = _
          rw [if_pos rfl, HR0.out]
          exact ⟨by omega, y1⟩
        · show w.heap.size + 1 ≤ (if i = k then nb else hs i) ∧ wz.heap[if i = k then nb else hs i]? = _
          rw [if_neg hik]
          obtain ⟨g1, g2, g3⟩ := HX3.out i (by omega)
          exact ⟨g1, (y2 _ (by omega)).trans g3⟩
      have HFIN := Lib.hid fin
      clear fin
      have hsi : (Tryd.prog.info? 51).map (·.size) = some 5 := by rw [hi]; simp [hz1]
      cases ra with
      | none =>
        obtain rfl : rc = 0 := hcn rfl
        have hRn : Rk = [] := by
          cases Rk with
          | nil => rfl
          | cons x l => obtain ⟨_, _, e, _⟩ := hcx.out 0 (by simp); cases e
        subst hRn
        have hrun := run_copy_nil (P := Tryd.prog) wx 36 36 3 51 ⟨nb, 0, none⟩ ([] : List Cl).length ([] : List Cl).length Tryd.underlying36 (by rw [hsi]; rfl)
        have F9 := HFIN.out wx HX1.out (fun j _ => rfl)
        have HF9 := Lib.hid F9
        have NW := X6
        have hz00 : ([] : List Cl).length = 0 := rfl
        rw [hz00] at hrun f1x
        clear F9 HX1 HX2 HX3 HX4 HX5 HFIN hsi hcx
        go_wp2
        go_roundw
        case rel => exact ⟨k + 1, _, by omega, by go_num, Lib.hid HF9.out.1, Lib.hid HF9.out.2.1, Lib.hid HF9.out.2.2, NW⟩
        case measure => first | (simp [intOf]; omega) | (simp; omega)
      | some ad =>
        have hsize : (cRow (List.replicate Rk.length cl0)).size = Rk.length * 5 := by rw [cRow, List.size_toArray, cCells_len, List.length_replicate]
        have hrun := run_copy_wide (P := Tryd.prog) wx 36 36 3 51 nb 0 Rk.length Rk.length ad Rk.length rc (cRow (List.replicate Rk.length cl0)) 51 (cCells Rk) 5 Rk.length Tryd.underlying36 hsi HX1.out (show Rk.length = min Rk.length Rk.length by omega) (cCells_len Rk) (cells_news hcx.out) (by rw [cCells_len, hsize]; omega) (cCells_one Rk)
        have hfe : flK Rk Rk.length Rk.length = Rk := by rw [flK_end, Nat.sub_self]; simp [fillN]
        rw [List.append_assoc, flK_copy Rk Rk.length (Nat.le_refl _), hfe] at hrun
        have y1 := setRow_heap wx nb _ (cRow Rk) 51 (0, 0) HX1.out
        have F9 := HFIN.out (wx.setRow nb (cRow Rk)) y1 (fun j hj => setRow_other wx nb j (cRow Rk) hj)
        have HF9 := Lib.hid F9
        have NW := Go.below_setRow X6 (show w.heap.size ≤ nb by omega) (cRow Rk)
        clear F9 y1 HX1 HX2 HX3 HX4 HX5 HFIN hsi hcx hfe hsize
        go_wp2
        go_roundw
        case rel => exact ⟨k + 1, _, by omega, by go_num, Lib.hid HF9.out.1, Lib.hid HF9.out.2.1, Lib.hid HF9.out.2.2, NW⟩
        case measure => first | (simp [intOf]; omega) | (simp; omega)
    · obtain rfl : k = n := by omega
      have hk1 : ¬ (k : Int) < k := by omega
      have b3 := fun i => cell_of_row _ _ i _ _ _ h3.out
      have s0 : wr.cell? ⟨w.heap.size + 1 + 1, 0, none⟩ = some (.int .i64 W) := by rw [b3]; rfl
      have s1 : wr.cell? ⟨w.heap.size + 1 + 1, 1, none⟩ = some (.int .i64 H) := by rw [b3]; rfl
      have s2 : wr.cell? ⟨w.heap.size + 1 + 1, 2, none⟩ = some (.slice (some ⟨w.heap.size + 1 + 1 + 1, 0, none⟩) k k) := by rw [b3]; rfl
      have s3 : wr.cell? ⟨w.heap.size + 1 + 1, 3, none⟩ = some (.int .i64 R) := by rw [b3]; rfl
      have s4 : wr.cell? ⟨w.heap.size + 1 + 1, 4, none⟩ = some (.int .i64 C) := by rw [b3]; rfl
      have b0 := fun i => cell_of_row _ _ i _ _ _ h2.out
      have r0 : wr.cell? ⟨w.heap.size + 1, 0, none⟩ = some (.int .i64 0) := by rw [b0]; rfl
      have r1 : wr.cell? ⟨w.heap.size + 1, 1, none⟩ = some (.int .i64 0) := by rw [b0]; rfl
      have r2 : wr.cell? ⟨w.heap.size + 1, 2, none⟩ = some (.slice none 0 0) := by rw [b0]; rfl
      have r3 : wr.cell? ⟨w.heap.size + 1, 3, none⟩ = some (.int .i64 0) := by rw [b0]; rfl
      have r4 : wr.cell? ⟨w.heap.size + 1, 4, none⟩ = some (.int .i64 0) := by rw [b0]; rfl
      have rf := fun i => frozen_of_row _ (w.heap.size + 1) i _ _ h2.out
      have hM := hF.out
      rw [← hn] at hM
      have HF := hM.done
      have q7 := Lib.hid (scr_set h2.out W H (.slice (some ⟨w.heap.size + 1 + 1 + 1, 0, none⟩) k k) R C)
      have N7 := Lib.hid (scr_set_below wr w (w.heap.size + 1) (.int .i64 W) (.int .i64 H) (.slice (some ⟨w.heap.size + 1 + 1 + 1, 0, none⟩) k k) (.int .i64 R) (.int .i64 C) (show w.heap.size ≤ w.heap.size + 1 by omega) hbl)
      have R7 := Lib.hid (RowsB.set (RowsB.set (RowsB.set (RowsB.set (RowsB.set HF (p := ⟨w.heap.size + 1, 0, none⟩) h2.out (by decide) (by decide) (.int .i64 W)) (p := ⟨w.heap.size + 1, 1, none⟩) (blk_set h2.out _ _) (by decide) (by decide) (.int .i64 H)) (p := ⟨w.heap.size + 1, 2, none⟩) (blk_set (blk_set h2.out _ _) _ _) (by decide) (by decide) (.slice (some ⟨w.heap.size + 1 + 1 + 1, 0, none⟩) k k)) (p := ⟨w.heap.size + 1, 3, none⟩) (blk_set (blk_set (blk_set h2.out _ _) _ _) _ _) (by decide) (by decide) (.int .i64 R)) (p := ⟨w.heap.size + 1, 4, none⟩) (blk_set (blk_set (blk_set (blk_set h2.out _ _) _ _) _ _) _ _) (by decide) (by decide) (.int .i64 C))
      clear b0 b3 HF hM
      go_wp2
      generalize hWF : World.setCell _ _ _ = WF
      have hq : WF.heap[w.heap.size + 1]? = some (.cells #[.int .i64 W, .int .i64 H, .slice (some ⟨w.heap.size + 1 + 1 + 1, 0, none⟩) k k, .int .i64 R, .int .i64 C] 28 (0, 0)) := by rw [← hWF]; exact q7.out
      have hN : Below w.heap.size w WF := by rw [← hWF]; exact N7.out
      have hO : RowsB WF (w.heap.size + 1 + 1 + 1) Ls := by rw [← hWF]; exact R7.out
      have y := fun i => cell_of_row _ _ i _ _ _ hq
      have y0 : WF.cell? ⟨w.heap.size + 1, 0, none⟩ = some (.int .i64 W) := by rw [y]; rfl
      have y1 : WF.cell? ⟨w.heap.size + 1, 1, none⟩ = some (.int .i64 H) := by rw [y]; rfl
      have y2 : WF.cell? ⟨w.heap.size + 1, 2, none⟩ = some (.slice (some ⟨w.heap.size + 1 + 1 + 1, 0, none⟩) k k) := by rw [y]; rfl
      have y3 : WF.cell? ⟨w.heap.size + 1, 3, none⟩ = some (.int .i64 R) := by rw [y]; rfl
      have y4 : WF.cell? ⟨w.heap.size + 1, 4, none⟩ = some (.int .i64 C) := by rw [y]; rfl
      exact bodyPost_ret (v := .agg #[.int .i64 W, .int .i64 H, .slice (some ⟨w.heap.size + 1 + 1 + 1, 0, none⟩) k k, .int .i64 R, .int .i64 C]) (by
        simp [results, Tryd.results62, go_sem, y0, y1, y2, y3, y4]) rfl ⟨_, rfl, hO, hN⟩
end Go.Proofs.YtcdecnmhogmhaaaDoor
set_option linter.unusedVariables false
set_option linter.unusedSimpArgs false
namespace Go.Proofs.YtcdecnmhogmhaaaDoor
open Go.RowKit
theorem own_cells_cap {w : World} {B : Nat} {v : Value} {L : List Cl} (h : ownC w B v L) : ∃ a c, v = .slice a L.length c ∧ CellsIn w a L ∧ L.length ≤ c := by
  obtain ⟨a, c, rfl, h1⟩ := cells_of_own h
  refine ⟨a, c, rfl, h1, ?_⟩
  rcases h.2 with ⟨h0, h2⟩ | ⟨g, cap, cur, h0, _, _, hn, _⟩
  · omega
  · rw [(Value.slice.inj h0).2.2]; exact hn
theorem vw_le (p l : List (Int × Int)) : (vwOf p l).length ≤ 30 * (p.length + l.length) := by
  unfold vwOf
  have h1 := vwG_le p ofP p.length
  have h2 := vwG_le l ofL l.length
  rw [List.length_append]; omega
theorem sideB_yes (n : Nat) (h1 : 1 ≤ n) (h2 : n ≤ 1000) : sideB (n : Int) = true := by unfold sideB; rw [decide_eq_true (by omega), decide_eq_true (by omega)]; rfl
theorem topN_le (t r h : Nat) (hr : r < t) : topN t r h ≤ r ∧ topN t r h ≤ t ∧ (1 ≤ h → r - topN t r h < h) := by
  unfold topN; split <;> omega
set_option maxHeartbeats 8000000 in
theorem scr_range (p l : List (Int × Int)) (a b : Option Addr) (c d : Nat) (at_ wd h : Int) (w : World) (hl : l.length ≤ 1000) (hbad : at_ < 0 ∨ (l.length : Int) < at_ ∨ sideB wd = false ∨ sideB h = false) :
    Calls Tryd.prog 14 #[.slice a p.length c, .slice b l.length d, .int .i64 at_, .int .i64 wd, .int .i64 h] w fun e w' => e = .returned (.tuple #[.agg #[.int .i64 0, .int .i64 0, .slice none 0 0, .int .i64 0, .int .i64 0], .int .i64 3]) ∧ Below w.heap.size w w' := by
  have N0 := below_alloc w (.cells #[.int .i64 0, .int .i64 0, .slice none 0 0, .int .i64 0, .int .i64 0] 28)
  by_cases h1 : at_ < 0
  · go_enter Tryd.func14, Tryd.ntmps14
    go_wp2
    exact bodyPost_ret (v := .tuple #[.agg #[.int .i64 0, .int .i64 0, .slice none 0 0, .int .i64 0, .int .i64 0], .int .i64 3]) (by simp [results, Tryd.results14, go_sem]) rfl ⟨rfl, N0⟩
  · by_cases h2 : (l.length : Int) < at_
    · go_enter Tryd.func14, Tryd.ntmps14
      go_wp2
      exact bodyPost_ret (v := .tuple #[.agg #[.int .i64 0, .int .i64 0, .slice none 0 0, .int .i64 0, .int .i64 0], .int .i64 3]) (by simp [results, Tryd.results14, go_sem]) rfl ⟨rfl, N0⟩
    · rcases hw : sideB wd with _ | _
      · go_enter Tryd.func14, Tryd.ntmps14
        go_wp2_with (go_at_call 64; refine (side_any _ _).mono ?_; rintro e w1 ⟨rfl, rfl⟩)
        exact bodyPost_ret (v := .tuple #[.agg #[.int .i64 0, .int .i64 0, .slice none 0 0, .int .i64 0, .int .i64 0], .int .i64 3]) (by simp [results, Tryd.results14, go_sem]) rfl ⟨rfl, N0⟩
      · have hh : sideB h = false := by
          rcases hbad with e | e | e | e
          · exact absurd e h1
          · exact absurd e h2
          · rw [hw] at e; cases e
          · exact e
        go_enter Tryd.func14, Tryd.ntmps14
        go_wp2_with (go_at_call 64; refine (side_any _ _).mono ?_; rintro e w1 ⟨rfl, rfl⟩)
        exact bodyPost_ret (v := .tuple #[.agg #[.int .i64 0, .int .i64 0, .slice none 0 0, .int .i64 0, .int .i64 0], .int .i64 3]) (by simp [results, Tryd.results14, go_sem]) rfl ⟨rfl, N0⟩
set_option maxHeartbeats 8000000 in
theorem scr_arg (p l : List (Int × Int)) (a b : Option Addr) (c d at_ wd h : Nat) (w : World) (hp : p.length ≤ 1000) (hl : l.length ≤ 1000) (ha : Signs w a p) (hb : Signs w b l) (hat : at_ ≤ l.length) (hw1 : 1 ≤ wd) (hw2 : wd ≤ 1000) (hh1 : 1 ≤ h) (hh2 : h ≤ 1000) (hS : (sgC p && sgC l) = false) :
    Calls Tryd.prog 14 #[.slice a p.length c, .slice b l.length d, .int .i64 at_, .int .i64 wd, .int .i64 h] w fun e w' => e = .returned (.tuple #[.agg #[.int .i64 0, .int .i64 0, .slice none 0 0, .int .i64 0, .int .i64 0], .int .i64 2]) ∧ Below w.heap.size w w' := by
  have N0 := below_alloc w (.cells #[.int .i64 0, .int .i64 0, .slice none 0 0, .int .i64 0, .int .i64 0] 28)
  have HA := Lib.hid (ha.below N0); have HB := Lib.hid (hb.below N0)
  have q0 := heap_alloc_new w (.cells #[.int .i64 0, .int .i64 0, .slice none 0 0, .int .i64 0, .int .i64 0] 28)
  have hlt : w.heap.size < (w.alloc (.cells #[.int .i64 0, .int .i64 0, .slice none 0 0, .int .i64 0, .int .i64 0] 28)).heap.size := by simp
  have hsw := sideB_yes wd hw1 hw2
  have hsh := sideB_yes h hh1 hh2
  have h1 : ¬ (at_ : Int) < 0 := by omega
  have h2 : ¬ (l.length : Int) < (at_ : Int) := by omega
  have V := Lib.hid (vof_no p l a b c d _ hp hl HA.out HB.out hS)
  clear ha hb
  go_enter Tryd.func14, Tryd.ntmps14
  go_wp2_with (first
    | (go_at_call 64; refine (side_any _ _).mono ?_; rintro e w1 ⟨rfl, rfl⟩)
    | (go_at_call 65; refine V.out.mono ?_; rintro e w2 ⟨rfl, hb2⟩; have q2 := blk_below q0 hb2; have z := fun i => cell_of_row _ _ i _ _ _ q2; have z0 := z 0; have z1 := z 1; have z2 := z 2; have z3 := z 3; have z4 := z 4; have zf := fun i => frozen_of_row _ w.heap.size i _ _ q2; clear z))
  have N2 := scr_set_below w2 w w.heap.size (.int .i64 0) (.int .i64 0) (.slice none 0 0) (.int .i64 0) (.int .i64 0) (Nat.le_refl _) (N0.trans (hb2.mono (by simp)))
  have hfin := scr_set q2 0 0 (.slice none 0 0) 0 0
  generalize (((((w2.setCell _ _).setCell _ _).setCell _ _).setCell _ _).setCell _ _) = WF at *
  exact bodyPost_ret (v := .tuple #[.agg #[.int .i64 0, .int .i64 0, .slice none 0 0, .int .i64 0, .int .i64 0], .int .i64 2]) (by
    have y := fun i => cell_of_row _ _ i _ _ _ hfin
    have y0 : WF.cell? ⟨w.heap.size, 0, none⟩ = some (.int .i64 0) := by rw [y]; rfl
    have y1 : WF.cell? ⟨w.heap.size, 1, none⟩ = some (.int .i64 0) := by rw [y]; rfl
    have y2 : WF.cell? ⟨w.heap.size, 2, none⟩ = some (.slice none 0 0) := by rw [y]; rfl
    have y3 : WF.cell? ⟨w.heap.size, 3, none⟩ = some (.int .i64 0) := by rw [y]; rfl
    have y4 : WF.cell? ⟨w.heap.size, 4, none⟩ = some (.int .i64 0) := by rw [y]; rfl
    simp [results, Tryd.results14, go_sem, y0, y1, y2, y3, y4]) rfl ⟨rfl, N2⟩
end Go.Proofs.YtcdecnmhogmhaaaDoor
set_option linter.unusedVariables false
set_option linter.unusedSimpArgs false
namespace Go.Proofs.YtcdecnmhogmhaaaDoor
open Go.RowKit
/-- The cursor's place among the rows; the first row that is shown. -/
def curP (L : List Cl) (w at_ : Nat) : Int × Int := (spAll L w).getD (fstM L at_) (0, 0)
def topP (L : List Cl) (w at_ h : Nat) : Nat := topN (lyRows L w).length (curP L w at_).1.toNat h
theorem fstM_le (L : List Cl) (i : Int) : fstM L i ≤ L.length := List.findIdx_le_length
theorem curP_rng (L : List Cl) (w at_ : Nat) : ∃ r c : Nat, curP L w at_ = ((r : Int), (c : Int)) ∧ r < (lyRows L w).length := spAll_rng L w _ (fstM_le L at_)
theorem wrap_small (n : Int) (h0 : 0 ≤ n) (h1 : n ≤ 9223372036854775807) : wrap64 n = n := by unfold wrap64; omega
theorem min_cast (a b c : Nat) : min ((a : Int) + (b : Int)) (c : Int) = ((min (a + b) c : Nat) : Int) := by omega
theorem sub_small (a b : Nat) (h : a ≤ 1000000) (h2 : b ≤ a) : (((a : Int) - (b : Int)) + 9223372036854775808) % 18446744073709551616 - 9223372036854775808 = (a : Int) - (b : Int) := by omega
theorem min_ne (a b c : Nat) (h : a < c) (h2 : 1 ≤ b) : ¬ min (a + b) c = a := by omega
theorem min_ge (a b c : Nat) (h : a ≤ c) : a ≤ min (a + b) c := by omega
set_option maxHeartbeats 8000000 in
theorem scr_any (p l : List (Int × Int)) (a b : Option Addr) (c d at_ wd h : Nat) (w : World) (hp : p.length ≤ 1000) (hl : l.length ≤ 1000) (ha : Signs w a p) (hb : Signs w b l) (hT : Tabs w) (hat : at_ ≤ l.length) (hw1 : 1 ≤ wd) (hw2 : wd ≤ 1000) (hh1 : 1 ≤ h) (hh2 : h ≤ 1000) (hP : sgC p = true) (hL : sgC l = true) :
    Calls Tryd.prog 14 #[.slice a p.length c, .slice b l.length d, .int .i64 at_, .int .i64 wd, .int .i64 h] w fun e w' => ∃ g : Nat, e = .returned (.tuple #[.agg #[.int .i64 wd, .int .i64 h, .slice (some ⟨g, 0, none⟩) h h, .int .i64 ((curP (vwOf p l) wd at_).1 - topP (vwOf p l) wd at_ h), .int .i64 (curP (vwOf p l) wd at_).2], .int .i64 0]) ∧
      RowsB w' g (scR (vwOf p l) wd (topP (vwOf p l) wd at_ h) h) ∧ Below w.heap.size w w' := by
  have N0 := below_alloc w (.cells #[.int .i64 0, .int .i64 0, .slice none 0 0, .int .i64 0, .int .i64 0] 28)
  have HA := ha.below N0; have HB := hb.below N0
  have q0 := heap_alloc_new w (.cells #[.int .i64 0, .int .i64 0, .slice none 0 0, .int .i64 0, .int .i64 0] 28)
  have hlt : w.heap.size < (w.alloc (.cells #[.int .i64 0, .int .i64 0, .slice none 0 0, .int .i64 0, .int .i64 0] 28)).heap.size := by simp
  have hsw := sideB_yes wd hw1 hw2
  have hsh := sideB_yes h hh1 hh2
  have h1 : ¬ (at_ : Int) < 0 := by omega
  have h2 : ¬ (l.length : Int) < (at_ : Int) := by omega
  have V := Lib.hid (vof_yes p l a b c d _ hp hl HA HB (hT.below N0) hP hL)
  have hle := vw_le p l
  obtain ⟨r, cc, hcur, hrt⟩ := curP_rng (vwOf p l) wd at_
  have htop : topP (vwOf p l) wd at_ h = topN (lyRows (vwOf p l) wd).length r h := by unfold topP; rw [hcur]; rfl
  rw [htop, hcur]
  have hcur2 : (spAll (vwOf p l) wd).getD (fstM (vwOf p l) at_) (0, 0) = ((r : Int), (cc : Int)) := hcur
  have hfl := fstM_le (vwOf p l) at_
  have hlay := rowOk_lay (rowOk_vw p l)
  have hly := lyRows_le (vwOf p l) wd
  have hspl := spAll_len (vwOf p l) wd
  clear ha hb HA HB htop hcur
  generalize vwOf p l = L at *
  obtain ⟨ht1, ht2, _⟩ := topN_le (lyRows L wd).length r h hrt
  have hcl := fun i => cut_len L wd (topN (lyRows L wd).length r h) h i hw1 hlay
  have hfc := filR_cut L wd (topN (lyRows L wd).length r h) h
  have hclen : (((lyRows L wd).drop (topN (lyRows L wd).length r h)).take (min (topN (lyRows L wd).length r h + h) (lyRows L wd).length - topN (lyRows L wd).length r h)).length = min (topN (lyRows L wd).length r h + h) (lyRows L wd).length - topN (lyRows L wd).length r h := by rw [List.length_take, List.length_drop]; omega
  have TP := Lib.hid (fun w => top_any (lyRows L wd).length r h w (by omega) (by omega) (by omega))
  have hcutAny := fun {w : World} {b off : Nat} (hh : RowsC w (some ⟨b, off, none⟩) (lyRows L wd)) => hh.cut (topN (lyRows L wd).length r h) (min (topN (lyRows L wd).length r h + h) (lyRows L wd).length - topN (lyRows L wd).length r h)
  have LY := Lib.hid (fun a c w (h : CellsIn w a L) (hc : L.length ≤ c) => lay_any L wd a c w (by omega) (by omega) (by omega) hlay h hc)
  have FI := fun a c w (h : CellsIn w a L) => first_any L at_ a c w (by omega) h
  generalize fstM L at_ = fi at *
  replace FI := Lib.hid FI
  have hf0 : (0 : Int) ≤ fi := by omega
  have hf1 : (fi : Int) < (L.length : Int) + 1 := by omega
  have hf2 : (fi : Int) < ((L.length + 1 : Nat) : Int) := by omega
  generalize hT0 : topN (lyRows L wd).length r h = tp at *
  generalize hTot : (lyRows L wd).length = tot at *
  have htot : tot ≤ 100000 := by omega
  have HLE := Lib.hid hle
  obtain ⟨en, hen⟩ : ∃ en : Nat, en = min (tp + h) tot := ⟨_, rfl⟩
  have hte : tp ≤ en := by rw [hen]; exact min_ge tp h tot ht2
  have hne : ¬ en = tp := by rw [hen]; exact min_ne tp h tot (by omega) hh1
  have hte2 : (tp : Int) ≤ (en : Int) := by omega
  have het : en ≤ tot := by rw [hen]; exact Nat.min_le_right _ _
  rw [← hen] at hfc hclen hcl hcutAny
  have HEN := Lib.hid hen
  have HT0 := Lib.hid hT0; have HTot := Lib.hid hTot
  clear hen hT0 hTot hly hle hlay
  replace hfc := Lib.hid hfc; replace hclen := Lib.hid hclen; replace hcl := Lib.hid hcl
  have hcutAny := Lib.hid (fun w b off hh => @hcutAny w b off hh)
  have hrne : 0 < tot := by omega
  go_enter Tryd.func14, Tryd.ntmps14
  go_upto_region 11 with (first
    | (go_at_call 64; refine (side_any _ _).mono ?_; rintro e w1 ⟨rfl, rfl⟩)
    | (go_at_call 65; refine V.out.mono ?_; rintro e w2 ⟨x, rfl, hown, hb2⟩; obtain ⟨xa, xc, rfl, hci, hxc⟩ := own_cells_cap hown; have HCI := Lib.hid hci; clear hci hown)
    | (go_at_call 66; refine (LY.out xa xc w2 HCI.out hxc).mono ?_; rintro e w3 ⟨v, pv, rfl, ⟨ra, rc, rfl, hrc, hrows⟩, hpl, hb3⟩; obtain ⟨pa, pc, rfl, hsg⟩ := places_of_own hpl; rw [hspl]; have HR := Lib.hid hrows; have HS := Lib.hid hsg; clear hrows hsg hpl)
    | (go_at_call 67; refine (FI.out xa xc w3 (HCI.out.below hb3)).mono ?_; rintro e w4 ⟨rfl, hb4⟩; obtain ⟨b2, o2, rfl, hbk, p1, p2⟩ := (HS.out.below hb4) fi (by omega); rw [hcur2] at p1 p2; simp only at p1 p2)
    | (go_at_call 63; refine (TP.out _).mono ?_; rintro e w5 ⟨rfl, rfl⟩))
  have N4 : Below w.heap.size w w4 := ((N0.trans (hb2.mono (by simp))).trans (hb3.mono (Nat.le_trans (by simp) hb2.size))).trans (hb4.mono (Nat.le_trans (Nat.le_trans (by simp) hb2.size) hb3.size))
  have q4 := blk_below (blk_below (blk_below q0 hb2) hb3) hb4
  have N5 := N4.alloc N4.size (.cells #[.int .i64 (r : Int), .int .i64 (cc : Int)] 99)
  have q5 := blk_alloc q4 (.cells #[.int .i64 (r : Int), .int .i64 (cc : Int)] 99)
  have t5 := heap_alloc_new w4 (.cells #[.int .i64 (r : Int), .int .i64 (cc : Int)] 99)
  have B5 := below_alloc w4 (.cells #[.int .i64 (r : Int), .int .i64 (cc : Int)] 99)
  have HR5 := (HR.out.below hb4).below B5
  have h5s : (w4.alloc (.cells #[.int .i64 (r : Int), .int .i64 (cc : Int)] 99)).heap.size = w4.heap.size + 1 := by simp
  clear N0 N4 q0 q4 hb2 hb3 hb4 B5 HS HCI FI LY V TP HR
  obtain ⟨gb, go, _, _, rfl, _, _, _, _⟩ := HR5 0 (by rw [HTot.out]; exact hrne)
  have PF := pfill_any (((lyRows L wd).drop tp).take (en - tp)) (some ⟨gb, go + tp, none⟩) (en - tp) wd h _ hw2 hh2 (by rw [hclen.out]; omega) hcl.out (hcutAny.out _ gb go HR5)
  rw [hclen.out, hfc.out] at PF
  replace PF := Lib.hid PF
  clear HR5 hcutAny hcl hclen hfc
  have z4 := N5.size
  have hrc2 : (en : Int) ≤ rc := by omega
  have hen0 : (0 : Int) ≤ tp := by omega
  have hwrap : True → wrap64 ((tp : Int) + (h : Int)) = (tp : Int) + (h : Int) := fun _ => wrap_small _ (by omega) (by omega)
  have hmin : True → min ((tp : Int) + (h : Int)) (tot : Int) = (en : Int) := fun _ => by rw [HEN.out]; exact min_cast tp h tot
  go_upto_region 12 with fail
  clear hwrap hmin
  go_wp2_with (go_at_call 68; refine PF.out.mono ?_; rintro e w6 ⟨g, rfl, hg6, hR6, hb6⟩)
  have hb6s := hb6.size
  have q6 := blk_below q5 hb6
  have t6 := blk_below t5 hb6
  have hl4 : w4.heap.size < w6.heap.size := by omega
  have hl0 : w.heap.size < w6.heap.size := blk_lt q6
  have hl0' : w.heap.size ≠ w6.heap.size := Nat.ne_of_lt hl0
  have c0 := fun o => (World.cell?_alloc_lt w6 o (⟨w4.heap.size, 0, none⟩ : Addr) hl4).trans (show w6.cell? ⟨w4.heap.size, 0, none⟩ = some (.int .i64 r) by rw [cell_of_row _ _ _ _ _ _ t6]; rfl)
  have c1 := fun o => (World.cell?_alloc_lt w6 o (⟨w4.heap.size, 1, none⟩ : Addr) hl4).trans (show w6.cell? ⟨w4.heap.size, 1, none⟩ = some (.int .i64 cc) by rw [cell_of_row _ _ _ _ _ _ t6]; rfl)
  have z := fun i => cell_of_row _ _ i _ _ _ q6
  have z0 : w6.cell? ⟨w.heap.size, 0, none⟩ = some (.int .i64 0) := by rw [z]; rfl
  have z1 : w6.cell? ⟨w.heap.size, 1, none⟩ = some (.int .i64 0) := by rw [z]; rfl
  have z2 : w6.cell? ⟨w.heap.size, 2, none⟩ = some (.slice none 0 0) := by rw [z]; rfl
  have z3 : w6.cell? ⟨w.heap.size, 3, none⟩ = some (.int .i64 0) := by rw [z]; rfl
  have z4' : w6.cell? ⟨w.heap.size, 4, none⟩ = some (.int .i64 0) := by rw [z]; rfl
  have zf := fun i => frozen_of_row _ w.heap.size i _ _ q6
  have hwr : True → IntKind.i64.wrap ((r : Int) - (tp : Int)) = (r : Int) - (tp : Int) := fun _ => by rw [IntKind.wrap_i64]; exact sub_small r tp (by omega) (by omega)
  have N6 := (N5.trans (hb6.mono N5.size))
  have hR6h := Lib.hid hR6
  clear z hcur2 hR6 PF
  go_region_held3 (fun w' => w'.cell? ⟨w4.heap.size, 0, none⟩ = some (.int .i64 r) ∧ w'.cell? ⟨w4.heap.size, 1, none⟩ = some (.int .i64 cc)) (first | exact ⟨c0 _, c1 _⟩ | go_keep) (fail)
  have q7 := scr_set q6 wd h (.slice (some ⟨g, 0, none⟩) h h) ((r : Int) - tp) cc
  have N7 := scr_set_below w6 w w.heap.size (.int .i64 wd) (.int .i64 h) (.slice (some ⟨g, 0, none⟩) h h) (.int .i64 ((r : Int) - tp)) (.int .i64 cc) (Nat.le_refl _) N6
  have R7 := RowsB.set (RowsB.set (RowsB.set (RowsB.set (RowsB.set hR6h.out (p := ⟨w.heap.size, 0, none⟩) q6 (by decide) (by decide) (.int .i64 wd)) (p := ⟨w.heap.size, 1, none⟩) (blk_set q6 _ _) (by decide) (by decide) (.int .i64 h)) (p := ⟨w.heap.size, 2, none⟩) (blk_set (blk_set q6 _ _) _ _) (by decide) (by decide) (.slice (some ⟨g, 0, none⟩) h h)) (p := ⟨w.heap.size, 3, none⟩) (blk_set (blk_set (blk_set q6 _ _) _ _) _ _) (by decide) (by decide) (.int .i64 ((r : Int) - tp))) (p := ⟨w.heap.size, 4, none⟩) (blk_set (blk_set (blk_set (blk_set q6 _ _) _ _) _ _) _ _) (by decide) (by decide) (.int .i64 cc)
  have q8 := blk_alloc q7 (.cells #[.int .i64 wd, .int .i64 h, .slice (some ⟨g, 0, none⟩) h h, .int .i64 ((r : Int) - tp), .int .i64 cc] 28)
  have N8 := (N7.alloc N7.size (.cells #[.int .i64 wd, .int .i64 h, .slice (some ⟨g, 0, none⟩) h h, .int .i64 ((r : Int) - tp), .int .i64 cc] 28)).drew
  have R8 := R7.below (below_alloc _ (.cells #[.int .i64 wd, .int .i64 h, .slice (some ⟨g, 0, none⟩) h h, .int .i64 ((r : Int) - tp), .int .i64 cc] 28))
  have HR8 := Lib.hid R8; have HN8 := Lib.hid N8; have HQ8 := Lib.hid q8
  clear R7 N7 q7 q8 N8 R8 hwr
  clear hsw hsh h1 h2 hf0 hf1 hf2 hfl hspl hte hte2 het hne hrne hxc c0 c1 htot ht1 ht2 hrc2 hen0 HEN HT0 HTot HLE
  go_wp2
  generalize hWF : World.drew _ = WF
  have hq : WF.heap[w.heap.size]? = some (.cells #[.int .i64 wd, .int .i64 h, .slice (some ⟨g, 0, none⟩) h h, .int .i64 ((r : Int) - tp), .int .i64 cc] 28 (0, 0)) := by rw [← hWF]; exact HQ8.out
  have hR : RowsB WF g (scR L wd tp h) := by rw [← hWF]; exact HR8.out
  have hN : Below w.heap.size w WF := by rw [← hWF]; exact HN8.out
  have y := fun i => cell_of_row _ _ i _ _ _ hq
  have y0 : WF.cell? ⟨w.heap.size, 0, none⟩ = some (.int .i64 wd) := by rw [y]; rfl
  have y1 : WF.cell? ⟨w.heap.size, 1, none⟩ = some (.int .i64 h) := by rw [y]; rfl
  have y2 : WF.cell? ⟨w.heap.size, 2, none⟩ = some (.slice (some ⟨g, 0, none⟩) h h) := by rw [y]; rfl
  have y3 : WF.cell? ⟨w.heap.size, 3, none⟩ = some (.int .i64 ((r : Int) - tp)) := by rw [y]; rfl
  have y4 : WF.cell? ⟨w.heap.size, 4, none⟩ = some (.int .i64 cc) := by rw [y]; rfl
  exact bodyPost_ret (v := .tuple #[.agg #[.int .i64 wd, .int .i64 h, .slice (some ⟨g, 0, none⟩) h h, .int .i64 ((r : Int) - tp), .int .i64 cc], .int .i64 0]) (by
    simp [results, Tryd.results14, go_sem, y0, y1, y2, y3, y4]) rfl ⟨g, rfl, hR, hN⟩
end Go.Proofs.YtcdecnmhogmhaaaDoor
set_option linter.unusedVariables false
set_option linter.unusedSimpArgs false
namespace Go.Proofs.YtcdecnmhogmhaaaDoor
open Go.RowKit
set_option maxHeartbeats 8000000 in
theorem blank_any (wd h : Nat) (w : World) (hw1 : 1 ≤ wd) (hw2 : wd ≤ 1000) (hh1 : 1 ≤ h) (hh2 : h ≤ 1000) :
    Calls Tryd.prog 60 #[.int .i64 wd, .int .i64 h] w fun e w' => ∃ g : Nat, e = .returned (.tuple #[.agg #[.int .i64 wd, .int .i64 h, .slice (some ⟨g, 0, none⟩) h h, .int .i64 0, .int .i64 0], .int .i64 0]) ∧ RowsB w' g (filR [] wd h) ∧ Below w.heap.size w w' := by
  have N0 := below_alloc w (.cells #[.int .i64 0, .int .i64 0, .slice none 0 0, .int .i64 0, .int .i64 0] 28)
  have q0 := heap_alloc_new w (.cells #[.int .i64 0, .int .i64 0, .slice none 0 0, .int .i64 0, .int .i64 0] 28)
  have hsw := sideB_yes wd hw1 hw2
  have hsh := sideB_yes h hh1 hh2
  have PF := Lib.hid (pfill_any [] none 0 wd h (w.alloc (.cells #[.int .i64 0, .int .i64 0, .slice none 0 0, .int .i64 0, .int .i64 0] 28)) hw2 hh2 (Nat.zero_le _) (fun i => by rw [List.getD_nil]; exact Nat.zero_le _) (fun i hi => absurd hi (by simp)))
  go_enter Tryd.func60, Tryd.ntmps60
  go_wp2_with (first
    | (go_at_call 64; refine (side_any _ _).mono ?_; rintro e w1 ⟨rfl, rfl⟩)
    | (go_at_call 68; refine PF.out.mono ?_; rintro e w6 ⟨g, rfl, hg6, hR6, hb6⟩; have q6 := blk_below q0 hb6; have z := fun i => cell_of_row _ _ i _ _ _ q6; have z0 := z 0; have z1 := z 1; have z2 := z 2; have z3 := z 3; have z4 := z 4; have zf := fun i => frozen_of_row _ w.heap.size i _ _ q6; clear z; have HR6 := Lib.hid hR6; clear hR6))
  have q7 := scr_set q6 wd h (.slice (some ⟨g, 0, none⟩) h h) 0 0
  have N7 := scr_set_below w6 w w.heap.size (.int .i64 wd) (.int .i64 h) (.slice (some ⟨g, 0, none⟩) h h) (.int .i64 0) (.int .i64 0) (Nat.le_refl _) (N0.trans (hb6.mono (by simp)))
  have R7 := RowsB.set (RowsB.set (RowsB.set (RowsB.set (RowsB.set HR6.out (p := ⟨w.heap.size, 0, none⟩) q6 (by decide) (by decide) (.int .i64 wd)) (p := ⟨w.heap.size, 1, none⟩) (blk_set q6 _ _) (by decide) (by decide) (.int .i64 h)) (p := ⟨w.heap.size, 2, none⟩) (blk_set (blk_set q6 _ _) _ _) (by decide) (by decide) (.slice (some ⟨g, 0, none⟩) h h)) (p := ⟨w.heap.size, 3, none⟩) (blk_set (blk_set (blk_set q6 _ _) _ _) _ _) (by decide) (by decide) (.int .i64 0)) (p := ⟨w.heap.size, 4, none⟩) (blk_set (blk_set (blk_set (blk_set q6 _ _) _ _) _ _) _ _) (by decide) (by decide) (.int .i64 0)
  generalize (((((w6.setCell _ _).setCell _ _).setCell _ _).setCell _ _).setCell _ _) = WF at *
  have y := fun i => cell_of_row _ _ i _ _ _ q7
  have y0 : WF.cell? ⟨w.heap.size, 0, none⟩ = some (.int .i64 wd) := by rw [y]; rfl
  have y1 : WF.cell? ⟨w.heap.size, 1, none⟩ = some (.int .i64 h) := by rw [y]; rfl
  have y2 : WF.cell? ⟨w.heap.size, 2, none⟩ = some (.slice (some ⟨g, 0, none⟩) h h) := by rw [y]; rfl
  have y3 : WF.cell? ⟨w.heap.size, 3, none⟩ = some (.int .i64 0) := by rw [y]; rfl
  have y4 : WF.cell? ⟨w.heap.size, 4, none⟩ = some (.int .i64 0) := by rw [y]; rfl
  exact bodyPost_ret (v := .tuple #[.agg #[.int .i64 wd, .int .i64 h, .slice (some ⟨g, 0, none⟩) h h, .int .i64 0, .int .i64 0], .int .i64 0]) (by
    simp [results, Tryd.results60, go_sem, y0, y1, y2, y3, y4]) rfl ⟨g, rfl, R7, N7⟩
end Go.Proofs.YtcdecnmhogmhaaaDoor
