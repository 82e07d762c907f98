/-
  vfs: a change is done, is kept; the crash of an operation; what waits is cleared.
-/
import Derived.Test.YtlkocmnnchgdeaaVf5
set_option linter.unusedVariables false
set_option linter.unusedSimpArgs false
namespace Go.Proofs.Ytlkocmnnchgdeaa
set_option maxRecDepth 100000
open Go.RowKit
theorem grown_of {w w1 w' : World} {o : Option Nat} (h : Below w.heap.size w w1) (g : w1.grownBy w' o) : w.grownBy w' o :=
  ⟨g.os.trans h.os, g.tape.trans h.tape, g.output.trans h.output, Nat.le_trans h.size g.size, fun k hk hne => (g.block k (Nat.lt_of_lt_of_le hk h.size) hne).trans (h.block k hk)⟩
theorem grown_after {w w1 w' : World} {o : Option Nat} (g : w.grownBy w1 o) (h : Below w1.heap.size w1 w') : w.grownBy w' o :=
  ⟨h.os.trans g.os, h.tape.trans g.tape, h.output.trans g.output, Nat.le_trans g.size h.size, fun k hk hne => (h.block k (Nat.lt_of_lt_of_le hk g.size)).trans (g.block k hk hne)⟩
/-- How many files, one written. -/
def vcnt (f : Fls) (n : Nat) (t : List UInt8) : Nat := if (f t).isSome then n else n + 1
theorem vcnt_le (f : Fls) (n : Nat) (t : List UInt8) : vcnt f n t ≤ n + 1 := by unfold vcnt; split <;> omega
/-- A write is done. -/
theorem vdo_write {w : World} {b n : Nat} {f : Fls} (h : FlM w b f n) (nm tn tx : ByteArray) (ht : nm.size ≤ maxLen) (hn : n ≤ 1000) :
    Calls Try.prog 21 #[.agg #[.int .i64 0, .string nm, .string tn, .string tx], .map (some b)] w fun e w' => e = .returned (.tuple #[]) ∧ FlM w' b (fput f nm.data.toList tx) (vcnt f n nm.data.toList) ∧ w.grownBy w' (some b) := by
  have hb := below_alloc w (.cells #[.int .i64 0, .string nm, .string tn, .string tx] 47)
  have hr := heap_alloc_new w (.cells #[.int .i64 0, .string nm, .string tn, .string tx] 47)
  have z0 := cell_of_row _ _ 0 _ _ _ hr
  have z1 := cell_of_row _ _ 1 _ _ _ hr
  have z3 := cell_of_row _ _ 3 _ _ _ hr
  dsimp at z0 z1 z3
  obtain ⟨w2, hrun, hm, hg⟩ := (h.below hb).put tx ht (by unfold maxLen; omega) rfl
  have G := Lib.hid (grown_of hb hg)
  have M : Hid (FlM w2 b (fput f nm.data.toList tx) (vcnt f n nm.data.toList)) := Lib.hid hm
  clear h hb hr hm hg ht hn
  go_enter Try.func21, Try.ntmps21
  go_wp2
  first | refine bodyPost_end (results_none rfl _ _ _) rfl ?_ | refine bodyPost_ret (results_none rfl _ _ _) rfl ?_
  exact ⟨rfl, M.out, G.out⟩
/-- What is kept of a text by a byte. -/
def vpre (k : Nat) (tx : ByteArray) : ByteArray := if k = 255 then tx else tx.extract 0 (min k tx.size)
theorem vkept_write {w : World} (nm tn tx : ByteArray) (k : Nat) (hk : k < 256) (htx : tx.size ≤ 1000000) :
    Calls Try.prog 32 #[.agg #[.int .i64 0, .string nm, .string tn, .string tx], .int .u8 k] w fun e w' => e = .returned (.tuple #[.agg #[.int .i64 0, .string nm, .string tn, .string (vpre k tx)], .bool (decide (0 < k))]) ∧ Below w.heap.size w w' := by
  have hb := below_alloc w (.cells #[.int .i64 0, .string nm, .string tn, .string tx] 47)
  have hr := heap_alloc_new w (.cells #[.int .i64 0, .string nm, .string tn, .string tx] 47)
  go_enter Try.func32, Try.ntmps32
  by_cases h255 : k = 255
  · subst h255
    go_wp2
    refine bodyPost_ret (v := .tuple #[.agg #[.int .i64 0, .string nm, .string tn, .string tx], .bool true]) ?_ rfl ⟨by simp [vpre], ?_⟩
    · rw [results_cell_tmp rfl]; go_simp
    · exact seqB (below_alloc w _) (below_alloc _ _)
  · have hk2 : ¬ (k : Int) = 255 := by omega
    have hmin : (min (k : Int) (tx.size : Int)).toNat = min k tx.size := by omega
    go_wp2
    refine bodyPost_ret (v := .tuple #[.agg #[.int .i64 0, .string nm, .string tn, .string (tx.extract 0 (min (k : Int) (tx.size : Int)).toNat)], .bool (decide (0 < k))]) ?_ rfl ⟨by rw [hmin]; unfold vpre; rw [if_neg h255], ?_⟩
    · rw [results_cell_tmp rfl]; go_simp
    · exact seqB (below_alloc w _) (below_alloc _ _)
/-- No rename is kept by a small byte. -/
theorem vkept_rename {w : World} (nm tn tx : ByteArray) (k : Nat) (hk : k < 128) :
    Calls Try.prog 32 #[.agg #[.int .i64 1, .string nm, .string tn, .string tx], .int .u8 k] w fun e w' => e = .returned (.tuple #[.agg #[.int .i64 1, .string nm, .string tn, .string tx], .bool false]) ∧ Below w.heap.size w w' := by
  have hk2 : ¬ (128 : Int) ≤ (k : Int) := by omega
  go_enter Try.func32, Try.ntmps32
  go_wp2
  refine bodyPost_ret (v := .tuple #[.agg #[.int .i64 1, .string nm, .string tn, .string tx], .bool false]) ?_ rfl ⟨rfl, ?_⟩
  · rw [results_cell_tmp rfl]; go_simp
  · exact seqB (below_alloc w _) (below_alloc _ _)
theorem setB {B : Nat} {w w' : World} (h : Below B w w') (i : Nat) (u : Value) : Below B w (w'.setCell ⟨B, i, none⟩ u) := h.setCell (p := ⟨B, i, none⟩) (Nat.le_refl _) u
theorem cr_cells {w : World} {B : Nat} {v u : Value} {k : Int} (h : w.ownsRow B 30 2 v 1 [.int .i64 k, u]) : ∃ g c, v = .slice (some ⟨g, 0, none⟩) 1 c ∧ g < w.heap.size ∧ w.cell? ⟨g, 0, none⟩ = some (.int .i64 k) ∧ w.cell? ⟨g, 1, none⟩ = some u := by
  rcases h.2 with ⟨e, h0⟩ | ⟨g, cap, cur, e, _, hg, _⟩
  · cases h0
  · subst e
    refine ⟨g, cap, rfl, vlt hg, ?_, ?_⟩
    · exact World.ownsRow.cellAt h 0 (by decide)
    · exact World.ownsRow.cellAt h 1 (by decide)
section
variable {B P : Nat} {D : VD} {ops : Int} {down : Bool} {g2 g3 : Value} {w w' : World}
theorem vcrash_any (h : Dk B P D ops down g2 g3 w) : Calls Try.prog 27 #[.pointer (some ⟨P, 0, none⟩)] w fun e w' => e = .returned (.tuple #[if ops = 3 then .agg #[.int .i64 3, .slice D.ka D.kn D.kc] else .agg #[.int .i64 0, .slice none 0 0], .bool (decide (ops = 3))]) ∧ Below w.heap.size w w' := by
  obtain ⟨_, _, _, y3, y4, _⟩ := h.cells
  obtain ⟨g, cp, hv, hg, q0, q1⟩ := cr_cells h.cr
  rw [hv] at y3
  have bX := below_alloc w (.cells #[.int .i64 0, .slice none 0 0] 30)
  have rX := Lib.hid (heap_alloc_new w (.cells #[.int .i64 0, .slice none 0 0] 30))
  obtain ⟨W, hW⟩ : ∃ W, w.alloc (.cells #[.int .i64 0, .slice none 0 0] 30) = W := ⟨_, rfl⟩
  rw [hW] at bX rX
  have hP := vlt h.blk
  have c3 := (bX.cell (p := ⟨P, 3, none⟩) hP).trans y3
  have c4 := (bX.cell (p := ⟨P, 4, none⟩) hP).trans y4
  have d0 := (bX.cell (p := ⟨g, 0, none⟩) hg).trans q0
  have d1 := (bX.cell (p := ⟨g, 1, none⟩) hg).trans q1
  have HB := Lib.hid bX
  have HP := Lib.hid hP
  have e0 := cell_of_row _ _ 0 _ _ _ rX.out
  have e1 := cell_of_row _ _ 1 _ _ _ rX.out
  have ef := fun i => frozen_of_row _ w.heap.size i _ _ rX.out
  dsimp at e0 e1
  have hPW : P < W.heap.size := Nat.lt_of_lt_of_le hP bX.size
  have hwW : w.heap.size < W.heap.size := vlt rX.out
  have C4 := fun o => ((below_alloc W o).cell (p := ⟨P, 4, none⟩) hPW).trans c4
  have E0 := fun o => ((below_alloc W o).cell (p := ⟨w.heap.size, 0, none⟩) hwW).trans e0
  have E1 := fun o => ((below_alloc W o).cell (p := ⟨w.heap.size, 1, none⟩) hwW).trans e1
  have EF := fun o i => frozen_of_row _ w.heap.size i _ _ (vbelow rX.out (below_alloc W o))
  have HW := Lib.hid hwW
  clear hPW hwW
  clear h hv hg q0 q1 y3 y4 bX hP
  go_enter Try.func27, Try.ntmps27
  go_upto_region 1 with fail
  try rw [hW]
  clear hW
  go_upto_region 2 with fail
  go_loopw [11] (fun iv wr => (iv = .int .i64 0 ∧ W = wr) ∨ (iv = .int .i64 1 ∧ ops ≠ 3 ∧ Below W.heap.size W wr)) (fun iv _ => 1 - (intOf iv).toNat)
  case atStart => exact Or.inl ⟨rfl, rfl⟩
  case round =>
    rcases hrel with ⟨rfl, rfl⟩ | ⟨rfl, hne, hBl⟩
    · by_cases h3 : ops = 3
      · subst h3
        go_upto_region 4 with fail
        go_region_law fail
        all_goals
          go_wp2
          refine bodyPost_ret (v := .tuple #[.agg #[.int .i64 3, .slice D.ka D.kn D.kc], .bool true]) ?_ rfl ⟨rfl, ?_⟩
          · rw [results_cell_tmp rfl]; go_simp
          · exact (by repeat' (first | exact HB.out | refine setB ?_ _ _ | refine Below.drew ?_ | refine Below.alloc ?_ HB.out.size _))
      · go_upto_region 4 with fail
        go_region_law fail
        all_goals
          go_wp2
          go_roundw
          case rel => exact Or.inr ⟨rfl, h3, by repeat' (first | exact Below.refl _ _ | refine Below.drew ?_ | refine Below.alloc ?_ (Nat.le_refl _) _)⟩
          case measure => (simp [intOf]; try omega)
    · have f0 := (hBl.cell (p := ⟨w.heap.size, 0, none⟩) HW.out).trans e0
      have f1 := (hBl.cell (p := ⟨w.heap.size, 1, none⟩) HW.out).trans e1
      have ff := fun i => frozen_of_row _ w.heap.size i _ _ (vbelow rX.out hBl)
      have BL := Lib.hid hBl
      clear hBl e0 e1 ef E0 E1 EF C4 c3 c4
      go_wp2
      refine bodyPost_ret (v := .tuple #[.agg #[.int .i64 0, .slice none 0 0], .bool false]) ?_ rfl ⟨?_, ?_⟩
      · rw [results_cell_tmp rfl]; go_simp
      · rfl
      · exact (by repeat' (first | exact seqB HB.out BL.out | refine setB ?_ _ _ | refine Below.drew ?_))
theorem vclear_any (h : Dk B P D ops down g2 D.wv w) (hw : D.W ≠ []) : Calls Try.prog 22 #[.pointer (some ⟨P, 0, none⟩)] w fun e w' => e = .returned (.tuple #[]) ∧ (∃ v, Dk B P { D with wv := v, W := [] } ops down g2 v w') ∧ Below B w w' := by
  obtain ⟨a, c, hv⟩ := h.wr.form rfl
  obtain ⟨w2, hrun, hsl, ho, hg⟩ := clear_ch (w := w) 0 B D.W (hv ▸ h.wr) rfl (by cases hq : D.W with | nil => exact absurd hq hw | cons x l => simp)
  have hk := h.wait ho (hv ▸ hg)
  have hp := hk.1.put 2 (.slice a 0 c) (ops' := ops) (down' := down) (g2' := g2) (g3' := .slice a 0 c) rfl
  obtain ⟨_, _, y2, _, _, _, yf⟩ := h.cells
  obtain ⟨_, _, x2, _, _, _, xf⟩ := hk.1.cells
  have H := Lib.hid hp
  have HB := Lib.hid hk.2
  rw [hv] at y2 x2
  clear h hk hp ho hg
  go_enter Try.func22, Try.ntmps22
  go_wp2
  first | refine bodyPost_end (results_none rfl _ _ _) rfl ?_ | refine bodyPost_ret (results_none rfl _ _ _) rfl ?_
  exact ⟨rfl, ⟨_, H.out.1⟩, HB.out.trans H.out.2⟩
end
end Go.Proofs.Ytlkocmnnchgdeaa
