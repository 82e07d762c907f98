/-
  Joined: Sg1 Mk Cl0 E3 Num0 T0 W1 W2 W3.
-/
import Derived.Test.YtcdecnmhogmhaaaDoorJ02
import Derived.Laws.OwnMore
import Derived.Laws.MakeOwn
import Derived.Deep.OwnRows
import Derived.OwnWalk
import Derived.Laws.StructEq
import Derived.RowKit
import Derived.Test.YtcdecnmhogmhaaaDoorRows
import Derived.WalkKit
import Derived.WalkSpells
import Derived.WalkLawsBesides
import Derived.Handy
import Derived.Lib.Hide
set_option linter.unusedVariables false
set_option linter.unusedSimpArgs false
namespace Go.Proofs.YtcdecnmhogmhaaaDoor
set_option maxRecDepth 100000
open Go.RowKit
theorem blk_alloc {w : World} {g : Nat} {o : Obj} (h : w.heap[g]? = some o) (o' : Obj) : (w.alloc o').heap[g]? = some o :=
  (Below.heap_alloc w o' g (by
    rcases Nat.lt_or_ge g w.heap.size with h1 | h1
    · exact h1
    · rw [Array.getElem?_eq_none h1] at h; cases h)).trans h
theorem blk_set {w : World} {g : Nat} {cs : Array Value} {t : TypeId} {f : Nat × Nat} (h : w.heap[g]? = some (.cells cs t f)) (i : Nat) (u : Value) : (w.setCell ⟨g, i, none⟩ u).heap[g]? = some (.cells (cs.setIfInBounds i u) t f) := by
  simp [World.setCell, Array.getElem?_modify, h]
theorem blk_far {w : World} {g : Nat} {o : Obj} {p : Addr} (h : w.heap[g]? = some o) (hp : g ≠ p.block) (u : Value) : (w.setCell p u).heap[g]? = some o := (Below.heap_setCell w p u g hp).trans h
theorem blk_lt {w : World} {g : Nat} {o : Obj} (h : w.heap[g]? = some o) : g < w.heap.size := by
  rcases Nat.lt_or_ge g w.heap.size with h1 | h1
  · exact h1
  · rw [Array.getElem?_eq_none h1] at h; cases h
theorem blk_below {w w' : World} {g : Nat} {o : Obj} (h : w.heap[g]? = some o) (hb : Below w.heap.size w w') : w'.heap[g]? = some o := (hb.block g (blk_lt h)).trans h
theorem ownsRow_pos {w : World} {base : Nat} {e : TypeId} {size : Nat} {v : Value} {n : Nat} {xs : List Value} (h : w.ownsRow base e size v n xs) (hn : 0 < n) : ∃ g cap, v = .slice (some ⟨g, 0, none⟩) n cap := by
  rcases h.2 with ⟨_, h0⟩ | ⟨g, cap, _, rfl, _⟩
  · omega
  · exact ⟨g, cap, rfl⟩
/-- May a sign be? -/
def sgR (v l : Int) : Bool := decide (0 ≤ l) && (decide (l ≤ 5) && rightB v)
set_option maxRecDepth 100000 in
set_option maxHeartbeats 1000000 in
theorem sright_any (v l : Int) (w : World) : Calls Tryd.prog 147 #[.agg #[.int .i64 v, .int .i64 l]] w fun e w' => e = .returned (.bool (sgR v l)) ∧ Below w.heap.size w w' := by
  have R := Lib.hid fun w => right_any v w
  have hb := below_alloc w (.cells #[.int .i64 v, .int .i64 l] 53)
  by_cases h0 : 0 ≤ l
  · by_cases h5 : l ≤ 5
    · have e : Hid (sgR v l = rightB v) := Lib.hid (by unfold sgR; rw [decide_eq_true h0, decide_eq_true h5]; simp)
      go_enter Tryd.func147, Tryd.ntmps147
      go_wp2_with (go_at_call 137; refine (R.out _).mono ?_; rintro e w1 ⟨rfl, rfl⟩)
      go_ret
      rw [e.out]; exact ⟨rfl, hb⟩
    · have e : Hid (sgR v l = false) := Lib.hid (by unfold sgR; rw [decide_eq_false h5]; simp)
      go_enter Tryd.func147, Tryd.ntmps147
      go_wp2
      go_ret
      rw [e.out]; exact ⟨rfl, hb⟩
  · have e : Hid (sgR v l = false) := Lib.hid (by unfold sgR; rw [decide_eq_false h0]; simp)
    go_enter Tryd.func147, Tryd.ntmps147
    go_wp2
    go_ret
    rw [e.out]; exact ⟨rfl, hb⟩
theorem getD_mem {l : List (Int × Int)} {k : Nat} (h : k < l.length) : l.getD k (0, 0) ∈ l := by
  rw [List.getD, List.getElem?_eq_getElem h]; exact List.getElem_mem h
/-- May all signs be? -/
def sgC (l : List (Int × Int)) : Bool := l.all fun p => sgR p.1 p.2
def sgE (l : List (Int × Int)) : Int := if sgC l = true then 0 else 2
theorem sgE_no {l : List (Int × Int)} (h : sgC l = false) : sgE l = 2 := by unfold sgE; rw [h]; rfl
theorem sgE_yes {l : List (Int × Int)} (h : sgC l = true) : sgE l = 0 := by unfold sgE; rw [h]; rfl
set_option maxRecDepth 100000 in
set_option maxHeartbeats 1000000 in
theorem scheck_any (l : List (Int × Int)) (a : Option Addr) (c : Nat) (w : World) (hl : l.length ≤ 9223372036854775807) (hs : Signs w a l) :
    Calls Tryd.prog 109 #[.slice a l.length c] w fun e w' => e = .returned (.int .i64 (sgE l)) ∧ Below w.heap.size w w' := by
  have HS := Lib.hid hs; clear hs
  go_enter Tryd.func109, Tryd.ntmps109
  go_wp2
  go_loopw [7] (fun iv wr => ∃ k : Nat, k ≤ l.length ∧ iv = .int .i64 (k : Int) ∧ Hid (∀ j, j < k → sgR (l.getD j (0, 0)).1 (l.getD j (0, 0)).2 = true) ∧ Below w.heap.size w wr) (fun iv _ => l.length - (intOf iv).toNat)
  case atStart => exact ⟨0, Nat.zero_le _, rfl, Lib.hid (fun j hj => absurd hj (by omega)), Below.refl _ _⟩
  case round =>
    obtain ⟨k, hk, rfl, hall, hb⟩ := hrel
    by_cases hlt : k < l.length
    · obtain ⟨b, off, rfl, hblk, c1, c2⟩ := (HS.out.below hb) k hlt
      have hk1 : (k : Int) < l.length := by omega
      have hk0 : (0 : Int) ≤ k := by omega
      have R := fun w => sright_any (l.getD k (0, 0)).1 (l.getD k (0, 0)).2 w
      have hin := getD_mem hlt
      cases hr : sgR (l.getD k (0, 0)).1 (l.getD k (0, 0)).2
      · have HF : Hid (sgE l = 2) := Lib.hid (sgE_no (by unfold sgC; rw [List.all_eq_false]; exact ⟨_, hin, by rw [hr]; simp⟩))
        rw [hr] at R
        generalize (l.getD k (0, 0)).1 = v at *
        generalize (l.getD k (0, 0)).2 = u at *
        replace R := Lib.hid R
        clear hin hr
        go_wp2_with (go_at_call 147; refine (R.out _).mono ?_; rintro e w1 ⟨rfl, hb1⟩)
        go_ret
        rw [HF.out]
        exact ⟨rfl, hb.trans ((seqB (below_alloc _ _) hb1).mono hb.size)⟩
      · have HF : Hid (∀ j, j < k + 1 → sgR (l.getD j (0, 0)).1 (l.getD j (0, 0)).2 = true) := Lib.hid (by
          intro j hj
          rcases Nat.lt_succ_iff_lt_or_eq.1 hj with h | rfl
          · exact hall.out j h
          · exact hr)
        rw [hr] at R
        generalize (l.getD k (0, 0)).1 = v at *
        generalize (l.getD k (0, 0)).2 = u at *
        replace R := Lib.hid R
        clear hin hr
        go_wp2_with (go_at_call 147; refine (R.out _).mono ?_; rintro e w1 ⟨rfl, hb1⟩)
        go_roundw
        case rel => exact ⟨k + 1, by omega, by go_num, HF, hb.trans ((seqB (below_alloc _ _) hb1).mono hb.size)⟩
        case measure => simp [intOf]; omega
    · obtain rfl : k = l.length := by omega
      have HF : Hid (sgE l = 0) := Lib.hid (sgE_yes (by
        unfold sgC; rw [List.all_eq_true]; intro p hp
        obtain ⟨j, hj, rfl⟩ := List.getElem_of_mem hp
        have := hall.out j hj
        rwa [List.getD, List.getElem?_eq_getElem hj] at this))
      go_wp2
      go_ret
      rw [HF.out]
      exact ⟨rfl, hb⟩
end Go.Proofs.YtcdecnmhogmhaaaDoor
set_option linter.unusedVariables false
set_option linter.unusedSimpArgs false
namespace Go.Proofs.YtcdecnmhogmhaaaDoor
open Go.RowKit
/-- A make of elements of several cells. -/
theorem make_rowN {P : Program} (t e : TypeId) (i : TypeInfo) (z : Value) (ht : P.underlying t = some (.slice e)) (hi : P.info? e = some i) (hz : i.zero = some z)
    (n : Nat) (hb : i.bytes * n ≤ 281474976710656) (h63 : n ≤ 9223372036854775807) (w : World) :
    (Instr.makeSlice t (.int .i64 (n : Int)) (.int .i64 (n : Int))).run P w = .ok (.slice (some ⟨w.heap.size, 0, none⟩) n n) (w.alloc (.cells (madeCells z.cells (n * i.size)) e)) := by
  have h := run_make (P := P) w t e i z ht hi hz .i64 .i64 (n : Int) (n : Int) (by omega) (by omega) (by
    have : ((i.bytes * n : Nat) : Int) ≤ 281474976710656 := by omega
    rwa [Int.natCast_mul] at this) (by omega)
  simpa only [Int.toNat_natCast] using h
theorem infoSign : (Tryd.prog.info? 53).map (fun i => (i.zero, i.size, i.bytes)) = some (some (.agg #[.int .i64 0, .int .i64 0]), 2, 16) := by kernel_rfl
theorem made_signs (n : Nat) : madeCells #[.int .i64 0, .int .i64 0] (n * 2) = sRow (List.replicate n (0, 0)) := by
  apply Array.ext
  · simp [madeCells, sRow, List.length_flatMap]
  · intro i h1 h2
    simp only [madeCells, Array.getElem_map, Array.getElem_range]
    have hi : i < n * 2 := by simpa [madeCells] using h1
    have hlt : i / 2 < (List.replicate n ((0 : Int), (0 : Int))).length := by simp; omega
    have h := sRow_at (List.replicate n ((0 : Int), (0 : Int))) (i / 2) hlt
    have hz : (List.replicate n ((0 : Int), (0 : Int))).getD (i / 2) (0, 0) = (0, 0) := by
      rw [List.getD, List.getElem?_replicate]; split <;> rfl
    rw [hz] at h
    have e : (sRow (List.replicate n ((0 : Int), (0 : Int))))[i]? = some (.int .i64 0) := by
      rw [sRow, List.getElem?_toArray]
      rcases Nat.mod_two_eq_zero_or_one i with hm | hm
      · have : i / 2 * 2 = i := by omega
        rw [this] at h; exact h.1
      · have : i / 2 * 2 + 1 = i := by omega
        rw [this] at h; exact h.2
    have e2 := Array.getElem?_eq_getElem h2
    rw [e] at e2
    injection e2 with e2
    rw [← e2]
    rcases Nat.mod_two_eq_zero_or_one i with hm | hm <;> simp [hm]
theorem sRow_set (L : List (Int × Int)) (k : Nat) (p : Int × Int) (h : k < L.length) : ((sRow L).setIfInBounds (k * 2) (.int .i64 p.1)).setIfInBounds (k * 2 + 1) (.int .i64 p.2) = sRow (L.set k p) := by
  apply Array.ext'
  simp only [sRow, Array.toList_setIfInBounds]
  induction L generalizing k with
  | nil => simp at h
  | cons x L ih =>
    cases k with
    | zero => rfl
    | succ k =>
      have := ih k (by simpa using h)
      rw [show (k + 1) * 2 = k * 2 + 1 + 1 by omega]
      simp only [List.flatMap_cons, List.cons_append, List.nil_append, List.set_cons_succ, this]
theorem sg_cells {w : World} {g k : Nat} {L : List (Int × Int)} {t : TypeId} {f : Nat × Nat} (h : w.heap[g]? = some (.cells (sRow L) t f)) (hk : k < L.length) :
    w.cell? ⟨g, k * 2, none⟩ = some (.int .i64 (L.getD k (0, 0)).1) ∧ w.cell? ⟨g, k * 2 + 1, none⟩ = some (.int .i64 (L.getD k (0, 0)).2) := by
  have hh := sRow_at L k hk
  rw [cell_of_row _ _ _ _ _ _ h, cell_of_row _ _ _ _ _ _ h, sRow, List.getElem?_toArray, List.getElem?_toArray]
  exact hh
theorem put_snoc {α β : Type} (l : List α) (f : α → β) (z : β) (d : α) (k : Nat) (h : k < l.length) :
    ((l.take k).map f ++ List.replicate (l.length - k) z).set k (f (l.getD k d)) = (l.take (k + 1)).map f ++ List.replicate (l.length - (k + 1)) z := by
  have hl : ((l.take k).map f).length = k := by simp; omega
  rw [List.set_append_right _ _ (by omega), hl, Nat.sub_self, List.take_succ_eq_append_getElem h, List.map_append, List.append_assoc]
  congr 1
  obtain ⟨m, hm⟩ : ∃ m, l.length - k = m + 1 := ⟨l.length - k - 1, by omega⟩
  have hm2 : l.length - (k + 1) = m := by omega
  rw [hm, hm2, List.replicate_succ, List.set_cons_zero, List.getD, List.getElem?_eq_getElem h]; rfl
theorem infoIntS : (Tryd.prog.info? 3).map (fun i => (i.zero, i.size, i.bytes)) = some (some (.int .i64 0), 1, 8) := by kernel_rfl
theorem made_ints (n : Nat) : madeCells #[.int .i64 0] (n * 1) = iRow (List.replicate n 0) := by
  apply Array.ext'
  rw [toList_madeCells_one]; simp [iRow]
theorem i_cell {w : World} {g k : Nat} {L : List Int} {t : TypeId} {f : Nat × Nat} (h : w.heap[g]? = some (.cells (iRow L) t f)) (hk : k < L.length) :
    w.cell? ⟨g, k, none⟩ = some (.int .i64 (L.getD k 0)) := by
  rw [cell_of_row _ _ _ _ _ _ h, iRow_at L k hk]
/-- A slice of numbers, out of a block. -/
theorem row_of_blk {w : World} {g : Nat} {L : List Int} {t : TypeId} {f : Nat × Nat} (h : w.heap[g]? = some (.cells (iRow L) t f)) : Row w (some ⟨g, 0, none⟩) L := fun j hj =>
  ⟨g, 0, rfl, by rw [Nat.zero_add]; exact i_cell h hj, blk_lt h⟩
theorem signs_of_blk {w : World} {g : Nat} {L : List (Int × Int)} {t : TypeId} {f : Nat × Nat} (h : w.heap[g]? = some (.cells (sRow L) t f)) : Signs w (some ⟨g, 0, none⟩) L := fun j hj =>
  ⟨g, 0, rfl, blk_lt h, by rw [Nat.zero_add]; exact (sg_cells h hj).1, by rw [Nat.zero_add]; exact (sg_cells h hj).2⟩
theorem app_cells {w : World} {h : Nat} {L : List Value} {t : TypeId} (hh : w.heap.size = h) {j : Nat} {x : Value} (hj : L[j]? = some x) : (w.alloc (.cells L.toArray t)).cell? ((⟨h, 0, none⟩ : Addr).add j) = some x := by
  subst hh
  have hadd : (⟨w.heap.size, 0, none⟩ : Addr).add j = ⟨w.heap.size, 0 + j, none⟩ := by unfold Addr.add; split <;> simp_all
  rw [hadd, World.cell?_alloc_new, Nat.zero_add, List.getElem?_toArray]; exact hj
end Go.Proofs.YtcdecnmhogmhaaaDoor
set_option linter.unusedVariables false
set_option linter.unusedSimpArgs false
namespace Go.Proofs.YtcdecnmhogmhaaaDoor
open Go.RowKit
/-- A cell: value, looks, whose it is, of which value, the how manieth column. -/
abbrev Cl := Int × Int × Int × Int × Int
abbrev cl0 : Cl := (0, 0, 0, 0, 0)
/-- A slice of cells lies in memory. -/
def CellsIn (w : World) (a : Option Addr) (l : List Cl) : Prop :=
  ∀ i, i < l.length → ∃ b off, a = some ⟨b, off, none⟩ ∧ b < w.heap.size ∧ w.cell? ⟨b, off + i * 5, none⟩ = some (.int .i64 (l.getD i cl0).1) ∧ w.cell? ⟨b, off + i * 5 + 1, none⟩ = some (.int .i64 (l.getD i cl0).2.1) ∧
    w.cell? ⟨b, off + i * 5 + 2, none⟩ = some (.int .i64 (l.getD i cl0).2.2.1) ∧ w.cell? ⟨b, off + i * 5 + 3, none⟩ = some (.int .i64 (l.getD i cl0).2.2.2.1) ∧ w.cell? ⟨b, off + i * 5 + 4, none⟩ = some (.int .i64 (l.getD i cl0).2.2.2.2)
theorem CellsIn.below {w w' : World} {a : Option Addr} {l : List Cl} (h : CellsIn w a l) (hb : Below w.heap.size w w') : CellsIn w' a l := fun i hi => by
  obtain ⟨b, off, e, hlt, h1, h2, h3, h4, h5⟩ := h i hi
  exact ⟨b, off, e, Nat.lt_of_lt_of_le hlt hb.size, (hb.cell (p := ⟨b, off + i * 5, none⟩) hlt).trans h1, (hb.cell (p := ⟨b, off + i * 5 + 1, none⟩) hlt).trans h2, (hb.cell (p := ⟨b, off + i * 5 + 2, none⟩) hlt).trans h3,
    (hb.cell (p := ⟨b, off + i * 5 + 3, none⟩) hlt).trans h4, (hb.cell (p := ⟨b, off + i * 5 + 4, none⟩) hlt).trans h5⟩
def cCells (L : List Cl) : List Value := L.flatMap fun p => [Value.int .i64 p.1, Value.int .i64 p.2.1, Value.int .i64 p.2.2.1, Value.int .i64 p.2.2.2.1, Value.int .i64 p.2.2.2.2]
/-- A row of cells in memory. -/
def cRow (L : List Cl) : Array Value := (cCells L).toArray
theorem cCells_len (L : List Cl) : (cCells L).length = L.length * 5 := by
  unfold cCells; induction L with
  | nil => rfl
  | cons x R ih => simp only [List.flatMap_cons, List.length_append, List.length_cons, List.length_nil, ih]; omega
theorem cCells_at (L : List Cl) : ∀ i, i < L.length → (cCells L)[i * 5]? = some (.int .i64 (L.getD i cl0).1) ∧ (cCells L)[i * 5 + 1]? = some (.int .i64 (L.getD i cl0).2.1) ∧ (cCells L)[i * 5 + 2]? = some (.int .i64 (L.getD i cl0).2.2.1) ∧
    (cCells L)[i * 5 + 3]? = some (.int .i64 (L.getD i cl0).2.2.2.1) ∧ (cCells L)[i * 5 + 4]? = some (.int .i64 (L.getD i cl0).2.2.2.2) := by
  induction L with
  | nil => intro i hi; simp at hi
  | cons x L ih =>
    intro i hi
    cases i with
    | zero => exact ⟨rfl, rfl, rfl, rfl, rfl⟩
    | succ i =>
      have h := ih i (by simpa using hi)
      rw [show (i + 1) * 5 = i * 5 + 1 + 1 + 1 + 1 + 1 by omega]
      exact h
theorem cCells_snoc (L : List Cl) (x : Cl) : cCells (L ++ [x]) = cCells L ++ [.int .i64 x.1, .int .i64 x.2.1, .int .i64 x.2.2.1, .int .i64 x.2.2.2.1, .int .i64 x.2.2.2.2] := by simp [cCells]
theorem cCells_append (L M : List Cl) : cCells (L ++ M) = cCells L ++ cCells M := by simp [cCells]
theorem cells_of_blk {w : World} {g : Nat} {L : List Cl} {t : TypeId} {f : Nat × Nat} (h : w.heap[g]? = some (.cells (cRow L) t f)) : CellsIn w (some ⟨g, 0, none⟩) L := fun j hj => by
  have hh := cCells_at L j hj
  refine ⟨g, 0, rfl, blk_lt h, ?_, ?_, ?_, ?_, ?_⟩
  · rw [Nat.zero_add, cell_of_row _ _ _ _ _ _ h, cRow, List.getElem?_toArray]; exact hh.1
  · rw [Nat.zero_add, cell_of_row _ _ _ _ _ _ h, cRow, List.getElem?_toArray]; exact hh.2.1
  · rw [Nat.zero_add, cell_of_row _ _ _ _ _ _ h, cRow, List.getElem?_toArray]; exact hh.2.2.1
  · rw [Nat.zero_add, cell_of_row _ _ _ _ _ _ h, cRow, List.getElem?_toArray]; exact hh.2.2.2.1
  · rw [Nat.zero_add, cell_of_row _ _ _ _ _ _ h, cRow, List.getElem?_toArray]; exact hh.2.2.2.2
/-- A row of cells of the call's own. -/
def ownC (w : World) (B : Nat) (v : Value) (L : List Cl) : Prop := w.ownsRow B 51 5 v L.length (cCells L)
theorem cells_of_own {w : World} {B : Nat} {v : Value} {L : List Cl} (h : ownC w B v L) : ∃ a c, v = .slice a L.length c ∧ CellsIn w a L := by
  unfold ownC at h
  rcases h.2 with ⟨rfl, h0⟩ | ⟨g, cap, cur, rfl, _, hg, _⟩
  · exact ⟨none, 0, by rw [h0], fun j hj => by omega⟩
  · refine ⟨_, cap, rfl, fun j hj => ⟨g, 0, rfl, blk_lt hg, ?_, ?_, ?_, ?_, ?_⟩⟩
    · rw [Nat.zero_add, h.cellAt (j * 5) (by omega)]; exact (cCells_at L j hj).1
    · rw [Nat.zero_add, h.cellAt (j * 5 + 1) (by omega)]; exact (cCells_at L j hj).2.1
    · rw [Nat.zero_add, h.cellAt (j * 5 + 2) (by omega)]; exact (cCells_at L j hj).2.2.1
    · rw [Nat.zero_add, h.cellAt (j * 5 + 3) (by omega)]; exact (cCells_at L j hj).2.2.2.1
    · rw [Nat.zero_add, h.cellAt (j * 5 + 4) (by omega)]; exact (cCells_at L j hj).2.2.2.2
/-- A row of cells in a block of the call's own, whole. -/
theorem own_of_blk {w : World} {B g : Nat} {L : List Cl} (h : w.heap[g]? = some (.cells (cRow L) 51 (0, 0))) (hB : B ≤ g) (hl : L.length ≤ maxLen) : ownC w B (.slice (some ⟨g, 0, none⟩) L.length L.length) L :=
  ⟨cCells_len L, .inr ⟨g, L.length, cRow L, rfl, hB, h, Nat.le_refl _, hl, by rw [cRow, List.size_toArray, cCells_len], by
    rw [cRow]; show (cCells L).take _ = _; rw [List.take_of_length_le (by rw [cCells_len]; exact Nat.le_refl _)]⟩⟩
theorem infoCell : (Tryd.prog.info? 51).map (fun i => (i.zero, i.size, i.bytes)) = some (some (.agg #[.int .i64 0, .int .i64 0, .int .i64 0, .int .i64 0, .int .i64 0]), 5, 40) := by kernel_rfl
/-- A cell's value in a slot. -/
def clV (p : Cl) : Value := .agg #[.int .i64 p.1, .int .i64 p.2.1, .int .i64 p.2.2.1, .int .i64 p.2.2.2.1, .int .i64 p.2.2.2.2]
set_option maxHeartbeats 1000000 in
theorem neqCell (v a o f k v' a' o' f' k' : Int) (w : World) : (binOp .neq 51 (.agg #[.int .i64 v, .int .i64 a, .int .i64 o, .int .i64 f, .int .i64 k]) (.agg #[.int .i64 v', .int .i64 a', .int .i64 o', .int .i64 f', .int .i64 k'])).run Tryd.prog w = .ok (.bool (decide (((v, a, o, f, k) : Cl) ≠ (v', a', o', f', k')))) w := by
  by_cases h1 : v = v'
  · by_cases h2 : a = a'
    · by_cases h3 : o = o'
      · by_cases h4 : f = f'
        · by_cases h5 : k = k'
          · subst h1; subst h2; subst h3; subst h4; subst h5
            simp [go_sem]
          · simp [go_sem, h1, h2, h3, h4, h5]
        · simp [go_sem, h1, h2, h3, h4]
      · simp [go_sem, h1, h2, h3]
    · simp [go_sem, h1, h2]
  · simp [go_sem, h1]
end Go.Proofs.YtcdecnmhogmhaaaDoor
namespace Go.Proofs.YtcdecnmhogmhaaaDoor
open Go.RowKit
theorem conv_lit {w : World} {g k c : Nat} (l : List Int) (hl : k = l.length) (h : ∀ i, i < k → w.cell? ⟨g, 0 + i, none⟩ = some (.int .u8 (l.getD i 0))) :
    ∀ dst, Tryd.prog.underlying dst = some .string → (convert 108 dst (.slice (some ⟨g, 0, none⟩) k c)).run Tryd.prog w = .ok (.string (txt l)) w := by
  intro dst hd
  rw [run_convert_bytes_arg w _ 5 Tryd.underlying108 Tryd.underlying5 g 0 _ _ l hl.symm h dst hd]
  rfl
theorem conv_new (w : World) (l : List Int) (n : Nat) (hn : n = l.length) :
    ∀ dst, Tryd.prog.underlying dst = some .string → (convert 108 dst (.slice (some ⟨w.heap.size, 0, none⟩) n n)).run Tryd.prog (w.alloc (Obj.cells (l.map (Value.int .u8)).toArray 5)) = .ok (.string (txt l)) (w.alloc (Obj.cells (l.map (Value.int .u8)).toArray 5)) := by
  refine conv_lit l hn (fun i hi => ?_)
  have h : (w.alloc (Obj.cells (l.map (Value.int .u8)).toArray 5)).heap[w.heap.size]? = some (Obj.cells (l.map (Value.int .u8)).toArray 5) := Array.getElem?_push_size
  have hi' : i < l.length := by omega
  simp only [World.cell?, h, Nat.zero_add]
  simp [List.getElem?_eq_getElem hi', List.getD]
set_option maxRecDepth 100000 in
set_option maxHeartbeats 2000000 in
theorem bytes_ref (v : Int) (w : World) (h : rightB v = true) : Calls Tryd.prog 108 #[.int .i64 v] w fun e w' => e = .returned (.string (txt (oneI v))) ∧ Below w.heap.size w w' := by
  have hr : ((0 ≤ v ∧ v < 55296) ∨ (57343 < v ∧ v ≤ 1114111)) ∨ (1114240 ≤ v ∧ v ≤ 1114367) := by unfold rightB at h; rwa [Bool.or_eq_true, ptB_iff, stB_iff] at h
  have hp := ptB_iff v
  have hs := stB_iff v
  clear h
  rcases (by omega : v < 128 ∨ (128 ≤ v ∧ v < 2048) ∨ (2048 ≤ v ∧ v < 65536) ∨ (65536 ≤ v ∧ v ≤ 1114111) ∨ 1114111 < v) with h | ⟨h, h'⟩ | ⟨h, h'⟩ | ⟨h, h'⟩ | h
  · have e : oneI v = [v] := by rw [oneI_pt (hp.2 (by omega)), Lib.encodeRuneZ_one (by omega) (by omega)]
    have hv0 : 0 ≤ v := by omega
    have hcv : ∀ dst, Tryd.prog.underlying dst = some .string → (convert 108 dst (.slice (some ⟨w.heap.size, 0, none⟩) 1 1)).run Tryd.prog (w.alloc (Obj.cells #[.int .u8 (v)] 5)) = .ok (.string (txt [v])) (w.alloc (Obj.cells #[.int .u8 (v)] 5)) := conv_new w [v] 1 rfl
    rw [e]; clear hp hr hs e
    go_enter Tryd.func108, Tryd.ntmps108
    go_wp2
    go_ret
    exact ⟨rfl, below_alloc _ _⟩
  · have e : oneI v = [192 + v / 64, 128 + v % 64] := by rw [oneI_pt (hp.2 (by omega)), Lib.encodeRuneZ_two (by omega) (by omega)]
    have hv0 : 0 ≤ v := by omega
    have hcv : ∀ dst, Tryd.prog.underlying dst = some .string → (convert 108 dst (.slice (some ⟨w.heap.size, 0, none⟩) 2 2)).run Tryd.prog (w.alloc (Obj.cells #[.int .u8 (192 + v / 64), .int .u8 (128 + v % 64)] 5)) = .ok (.string (txt [192 + v / 64, 128 + v % 64])) (w.alloc (Obj.cells #[.int .u8 (192 + v / 64), .int .u8 (128 + v % 64)] 5)) := conv_new w [192 + v / 64, 128 + v % 64] 2 rfl
    rw [e]; clear hp hr hs e
    go_enter Tryd.func108, Tryd.ntmps108
    go_wp2
    go_ret
    exact ⟨rfl, below_alloc _ _⟩
  · have e : oneI v = [224 + v / 4096, 128 + v / 64 % 64, 128 + v % 64] := by rw [oneI_pt (hp.2 (by omega)), Lib.encodeRuneZ_three (by omega)]
    have hv0 : 0 ≤ v := by omega
    have hcv : ∀ dst, Tryd.prog.underlying dst = some .string → (convert 108 dst (.slice (some ⟨w.heap.size, 0, none⟩) 3 3)).run Tryd.prog (w.alloc (Obj.cells #[.int .u8 (224 + v / 4096), .int .u8 (128 + v / 64 % 64), .int .u8 (128 + v % 64)] 5)) = .ok (.string (txt [224 + v / 4096, 128 + v / 64 % 64, 128 + v % 64])) (w.alloc (Obj.cells #[.int .u8 (224 + v / 4096), .int .u8 (128 + v / 64 % 64), .int .u8 (128 + v % 64)] 5)) := conv_new w [224 + v / 4096, 128 + v / 64 % 64, 128 + v % 64] 3 rfl
    rw [e]; clear hp hr hs e
    go_enter Tryd.func108, Tryd.ntmps108
    go_wp2
    go_ret
    exact ⟨rfl, below_alloc _ _⟩
  · have e : oneI v = [240 + v / 262144, 128 + v / 4096 % 64, 128 + v / 64 % 64, 128 + v % 64] := by rw [oneI_pt (hp.2 (by omega)), Lib.encodeRuneZ_four (by omega) (by omega)]
    have hv0 : 0 ≤ v := by omega
    have hcv : ∀ dst, Tryd.prog.underlying dst = some .string → (convert 108 dst (.slice (some ⟨w.heap.size, 0, none⟩) 4 4)).run Tryd.prog (w.alloc (Obj.cells #[.int .u8 (240 + v / 262144), .int .u8 (128 + v / 4096 % 64), .int .u8 (128 + v / 64 % 64), .int .u8 (128 + v % 64)] 5)) = .ok (.string (txt [240 + v / 262144, 128 + v / 4096 % 64, 128 + v / 64 % 64, 128 + v % 64])) (w.alloc (Obj.cells #[.int .u8 (240 + v / 262144), .int .u8 (128 + v / 4096 % 64), .int .u8 (128 + v / 64 % 64), .int .u8 (128 + v % 64)] 5)) := conv_new w [240 + v / 262144, 128 + v / 4096 % 64, 128 + v / 64 % 64, 128 + v % 64] 4 rfl
    rw [e]; clear hp hr hs e
    go_enter Tryd.func108, Tryd.ntmps108
    go_wp2
    go_ret
    exact ⟨rfl, below_alloc _ _⟩
  · have e : oneI v = [v - 1114112] := by rw [oneI_st (hs.2 (by omega))]
    have hv0 : 0 ≤ v := by omega
    have hcv : ∀ dst, Tryd.prog.underlying dst = some .string → (convert 108 dst (.slice (some ⟨w.heap.size, 0, none⟩) 1 1)).run Tryd.prog (w.alloc (Obj.cells #[.int .u8 (v - 1114112)] 5)) = .ok (.string (txt [v - 1114112])) (w.alloc (Obj.cells #[.int .u8 (v - 1114112)] 5)) := conv_new w [v - 1114112] 1 rfl
    rw [e]; have hv2 : v ≤ 1114367 := by omega
    have hv3 : 1114240 ≤ v := by omega
    clear hp hr hs e
    go_enter Tryd.func108, Tryd.ntmps108
    go_wp2
    go_ret
    exact ⟨rfl, below_alloc _ _⟩
end Go.Proofs.YtcdecnmhogmhaaaDoor
namespace Go.Proofs.YtcdecnmhogmhaaaDoor
open Go

/-- A digit's byte. -/
def dg (k : Nat) : UInt8 := if k < 10 then UInt8.ofNat (48 + k) else UInt8.ofNat (55 + k)

/-- The digits of n to base b, at least l, at most f. -/
def tell (b : Nat) : Nat → Nat → Nat → List UInt8
  | 0, _, _ => []
  | f + 1, n, l => if n = 0 ∧ l = 0 then [] else tell b f (n / b) (l - 1) ++ [dg (n % b)]

/-- The room, the digits at its end. -/
def room (m : Nat) (acc : List UInt8) : Array Value := ((List.replicate m (0 : UInt8) ++ acc).map fun x => Value.int .u8 (x.toNat : Int)).toArray

theorem room_nil : room 20 [] = #[Value.int IntKind.u8 0, Value.int IntKind.u8 0, Value.int IntKind.u8 0, Value.int IntKind.u8 0, Value.int IntKind.u8 0, Value.int IntKind.u8 0, Value.int IntKind.u8 0, Value.int IntKind.u8 0, Value.int IntKind.u8 0, Value.int IntKind.u8 0, Value.int IntKind.u8 0, Value.int IntKind.u8 0, Value.int IntKind.u8 0, Value.int IntKind.u8 0, Value.int IntKind.u8 0, Value.int IntKind.u8 0, Value.int IntKind.u8 0, Value.int IntKind.u8 0, Value.int IntKind.u8 0, Value.int IntKind.u8 0] := rfl

theorem room_at (m : Nat) (acc : List UInt8) (i : Nat) (h : i < m) : (room m acc)[i]? = some (.int .u8 0) := by
  unfold room
  rw [List.getElem?_toArray, List.getElem?_map, List.getElem?_append_left (by simp; omega), List.getElem?_replicate, if_pos (by omega)]
  rfl

theorem room_put (q : Nat) (acc : List UInt8) (x : UInt8) : (room (q + 1) acc).setIfInBounds q (.int .u8 (x.toNat : Int)) = room q (x :: acc) := by
  apply Array.ext'
  simp only [room, Array.toList_setIfInBounds]
  rw [List.replicate_succ', List.append_assoc, List.map_append, List.map_append, List.set_append_right _ _ (by simp)]
  simp

theorem dg_at (k : Nat) (h : k < (⟨#[48, 49, 50, 51, 52, 53, 54, 55, 56, 57, 65, 66, 67, 68, 69, 70]⟩ : ByteArray).size) : (⟨#[48, 49, 50, 51, 52, 53, 54, 55, 56, 57, 65, 66, 67, 68, 69, 70]⟩ : ByteArray)[k] = dg k := by
  have h' : k < 16 := h
  have key : ∀ j : Fin 16, (⟨#[48, 49, 50, 51, 52, 53, 54, 55, 56, 57, 65, 66, 67, 68, 69, 70]⟩ : ByteArray).data.toList.getD j 0 = dg j := by decide
  have e := key ⟨k, h'⟩
  rw [← e]
  rw [List.getD, List.getElem?_eq_getElem (by simpa using h')]
  rfl

theorem pow_step (b q k : Nat) (hb : 2 ≤ b) (h : k < b ^ (q + 1)) : k / b < b ^ q := by
  rw [Nat.pow_succ] at h
  exact Nat.div_lt_of_lt_mul (by rw [Nat.mul_comm]; exact h)

theorem tell_step (b q n l : Nat) (acc : List UInt8) (h : ¬ (n = 0 ∧ l = 0)) : tell b q (n / b) (l - 1) ++ (dg (n % b) :: acc) = tell b (q + 1) n l ++ acc := by
  rw [tell, if_neg h]; simp

theorem tell_done (b q : Nat) (acc : List UInt8) : tell b q 0 0 ++ acc = acc := by
  cases q <;> simp [tell]

/-- What a digit is worth. -/
def worth (c : Int) : Int := if 48 ≤ c ∧ c ≤ 57 then c - 48 else if 65 ≤ c ∧ c ≤ 70 then c - 55 else 18446744073709551615

theorem worth_nonneg (c : Int) : 0 ≤ worth c := by unfold worth; split; omega; split <;> omega

/-- Digits read to base b, around 2^64. -/
def rdv (b : Nat) (l : List UInt8) : Int := l.foldl (fun n c => IntKind.u64.wrap (IntKind.u64.wrap (n * b) + worth (c.toNat : Int))) 0
/-- Are they digits to base b? -/
def digs (b : Nat) (l : List UInt8) : Bool := l.all fun c => decide (worth (c.toNat : Int) < b)

theorem rdv_snoc (b : Nat) (l : List UInt8) (c : UInt8) : rdv b (l ++ [c]) = IntKind.u64.wrap (IntKind.u64.wrap (rdv b l * b) + worth (c.toNat : Int)) := by simp [rdv]
theorem digs_snoc (b : Nat) (l : List UInt8) (c : UInt8) : digs b (l ++ [c]) = (digs b l && decide (worth (c.toNat : Int) < b)) := by simp [digs]
theorem digs_of (b : Nat) (l r : List UInt8) (h : digs b (l ++ r) = true) : digs b l = true := by
  simp only [digs, List.all_append, Bool.and_eq_true] at h ⊢; exact h.1

theorem take_snoc (s : ByteArray) (k : Nat) (h : k < s.size) : s.data.toList.take (k + 1) = s.data.toList.take k ++ [s[k]] := by
  rw [List.take_succ_eq_append_getElem (by simpa using h)]; rfl
theorem take_all (s : ByteArray) (k : Nat) (h : s.size ≤ k) : s.data.toList.take k = s.data.toList := List.take_of_length_le (by simpa using h)

theorem u8_nn (c : UInt8) : (0 : Int) ≤ (c.toNat : Int) := Int.natCast_nonneg _
theorem u8_lt (c : UInt8) : (c.toNat : Int) < 256 := by have := c.toNat_lt; omega

theorem tell_len (b : Nat) : ∀ f n l, (tell b f n l).length ≤ f := by
  intro f
  induction f with
  | zero => intro n l; simp [tell]
  | succ f ih => intro n l; rw [tell]; split; simp; have := ih (n / b) (l - 1); simp; omega
theorem u64_neg (n : Int) (h0 : -9223372036854775808 ≤ n) (h : n < 0) : IntKind.u64.wrap (-IntKind.u64.wrap n) = (n.natAbs : Int) := by
  simp [IntKind.wrap, IntKind.bits, IntKind.signed]; omega
theorem u64_pos (n : Int) (h0 : 0 ≤ n) (h : n ≤ 9223372036854775807) : IntKind.u64.wrap n = n := by
  simp [IntKind.wrap, IntKind.bits, IntKind.signed]; omega

theorem ba_app (a b : List UInt8) : (⟨a.toArray⟩ : ByteArray) ++ (⟨b.toArray⟩ : ByteArray) = ⟨(a ++ b).toArray⟩ := by
  apply ByteArray.ext
  rw [ByteArray.data_append]
  simp

end Go.Proofs.YtcdecnmhogmhaaaDoor
namespace Go.Proofs.YtcdecnmhogmhaaaDoor
open Go.RowKit
theorem und39 : Tryd.prog.underlying 174 = some (.array (Tryd.prog.arrayLen 174) (Tryd.prog.elem 174)) := by kernel_rfl
theorem und40 : Tryd.prog.underlying 108 = some (.slice 5) := by kernel_rfl
theorem und5 : Tryd.prog.underlying 5 = some (.int .u8) := by kernel_rfl
theorem und9 : Tryd.prog.underlying 9 = some .string := by kernel_rfl
theorem len39 : Tryd.prog.arrayLen 174 = 20 := by kernel_rfl
theorem size39 (w : World) : (sizeOf (Tryd.prog.elem 174)).run Tryd.prog w = .ok 1 w := by kernel_rfl
theorem slice39 (w : World) (B m : Nat) (hm : m ≤ 20) : (Instr.sliceAt 174 (.pointer (some ⟨B, 0, none⟩)) (some (.int .i64 (m : Int))) none none).run Tryd.prog w = .ok (.slice (some ⟨B, if m = 20 then 0 else m, none⟩) (20 - m) (20 - m)) w := by
  rw [run_sliceAt_array_l w 174 ⟨B, 0, none⟩ und39 .i64 (m : Int) (by omega) (by rw [len39]; omega), size39, len39]
  simp only [Result.andThen, slicedAt, Int.toNat_natCast]
  by_cases h : m = 20
  · subst h; simp
  · rw [if_neg (by omega), if_neg h]; simp [Addr.add]; omega
theorem room_conv (w : World) (m : Nat) (acc : List UInt8) (h : m + acc.length = 20) (c : Nat) :
    (convert 108 9 (.slice (some ⟨w.heap.size, if m = 20 then 0 else m, none⟩) (20 - m) c)).run Tryd.prog (w.alloc (.cells (room m acc) 174)) = .ok (.string ⟨acc.toArray⟩) (w.alloc (.cells (room m acc) 174)) := by
  rw [run_convert_bytes_string _ 108 9 5 _ _ _ und40 und5 und9]
  have key : (loadCells ⟨w.heap.size, if m = 20 then 0 else m, none⟩ (20 - m)).run Tryd.prog (w.alloc (.cells (room m acc) 174)) = .ok ((acc.map fun x => (x.toNat : Int)).map (Value.int .u8)).toArray (w.alloc (.cells (room m acc) 174)) := by
    have e : 20 - m = ((acc.map fun x => (x.toNat : Int)).map (Value.int .u8)).length := by simp; omega
    rw [e]
    apply run_loadCells_list
    intro j v hj
    have hj' : j < acc.length := by
      rcases Nat.lt_or_ge j acc.length with h' | h'
      · exact h'
      · rw [List.getElem?_eq_none (by simpa using h')] at hj; cases hj
    have hm : m ≠ 20 := by omega
    rw [if_neg hm]
    have ea : (⟨w.heap.size, m, none⟩ : Addr).add j = ⟨w.heap.size, m + j, none⟩ := by
      unfold Addr.add; split
      · rename_i h0; subst h0; rfl
      · rfl
    rw [ea, World.cell?_alloc_new, room, List.getElem?_toArray, List.getElem?_map, List.getElem?_append_right (by simp)]
    simp at hj ⊢
    exact hj
  rw [run_bytesToString _ _ _ _ _ key]
  have : ∀ (l : List UInt8) (s : ByteArray), (l.map fun x => (x.toNat : Int)).foldl (fun (r : ByteArray) n => r.push (UInt8.ofNat n.toNat)) s = ⟨(s.data.toList ++ l).toArray⟩ := by
    intro l
    induction l with
    | nil => intro s; simp
    | cons x r ih => intro s; simp only [List.map_cons, List.foldl_cons]; rw [ih]; simp
  rw [this]
  simp
end Go.Proofs.YtcdecnmhogmhaaaDoor
namespace Go.Proofs.YtcdecnmhogmhaaaDoor
open Go.RowKit
def Inv (b n0 l0 : Nat) (w : World) (n l a : Value) (wr : World) : Prop :=
  ∃ (k m : Nat) (z : Int) (acc : List UInt8), n = .int .u64 (k : Int) ∧ l = .int .i64 z ∧ a = .int .i64 (m : Int) ∧ m + acc.length = 20 ∧ k < b ^ m ∧ k < 18446744073709551616 ∧
    z ≤ m ∧ -20 ≤ z - m ∧ tell b m k z.toNat ++ acc = tell b 20 n0 l0 ∧ wr = w.alloc (.cells (room m acc) 174)
theorem inv_step {b n0 l0 : Nat} {w : World} {k q : Nat} {z : Int} {acc : List UInt8} (hb : 2 ≤ b) (h1 : q + 1 + acc.length = 20) (h2 : k < b ^ (q + 1)) (h3 : k < 18446744073709551616)
    (h4 : z ≤ (q + 1 : Nat)) (h5 : -20 ≤ z - (q + 1 : Nat)) (h6 : tell b (q + 1) k z.toNat ++ acc = tell b 20 n0 l0) (hkz : ¬ (k = 0 ∧ z.toNat = 0)) :
    Inv b n0 l0 w (.int .u64 (IntKind.u64.wrap ((k : Int) / (b : Int)))) (.int .i64 (z - 1)) (.int .i64 (q : Int)) (w.alloc (.cells ((room (q + 1) acc).setIfInBounds q (.int .u8 ((dg (k % b)).toNat : Int))) 174)) := by
  have h0 : (k : Int) / b = ((k / b : Nat) : Int) := rfl
  have hw : IntKind.u64.wrap ((k : Int) / b) = ((k / b : Nat) : Int) := by
    have hle := Nat.div_le_self k b
    rw [h0]; generalize k / b = t at *
    exact IntWalk.u64_in _ (by omega)
  refine ⟨k / b, q, z - 1, dg (k % b) :: acc, by rw [hw], rfl, rfl, by simp; omega, pow_step b q k hb h2, by have := Nat.div_le_self k b; omega, by omega, by omega, ?_, by rw [room_put]⟩
  rw [← h6, ← tell_step b q k z.toNat acc hkz, show (z - 1).toNat = z.toNat - 1 by omega]
set_option maxHeartbeats 400000 in
theorem tell_any (b n l : Nat) (p : Nat) (w : World) (hb : 2 ≤ b) (hb' : b ≤ 16) (hn : n < b ^ 20) (hn' : n < 18446744073709551616) (hl : l ≤ 20) (hp : p < w.heap.size) (hc : w.cell? ⟨p, 0, none⟩ = some (.int .u64 (b : Int))) :
    Calls Tryd.prog 177 #[.int .u64 (n : Int), .int .i64 (l : Int), .pointer (some ⟨p, 0, none⟩)] w fun e w' => e = .returned (.string ⟨(tell b 20 n l).toArray⟩) ∧ Below w.heap.size w w' := by
  have Hn := Lib.hid hn; clear hn
  go_enter Tryd.func177, Tryd.ntmps177
  go_wp2
  go_loopw [0, 1, 7] (fun x y a wr => Inv b n l w x y a wr) (fun _ _ a _ => (intOf a).toNat)
  case atStart => 
    exact ⟨n, 20, l, [], rfl, rfl, rfl, by simp, Hn.out, hn', by omega, by omega, by simp, rfl⟩
  case round =>
    obtain ⟨k, m, z, acc, rfl, rfl, rfl, h1, h2, h3, h4, h5, h6, rfl⟩ := hrel
    have hkb0 : 0 ≤ (k : Int) % b := by omega
    have hkb1 : (k : Int) % b < 16 := by have := Int.emod_lt_of_pos (k : Int) (show (0 : Int) < b by omega); omega
    have hpn : p ≠ w.heap.size := by omega
    have hm20 : m ≤ 20 := by omega
    have H3 := Lib.hid h3; clear h3 hn'
    by_cases hex : k = 0 ∧ z ≤ 0
    · obtain ⟨rfl, hz⟩ := hex
      have H1 := Lib.hid h1; clear h1
      have H2 := Lib.hid h2; clear h2
      have H6 := Lib.hid h6; clear h6
      have hsl := slice39 (w.alloc (.cells (room m acc) 174)) w.heap.size m hm20
      have hcv := room_conv w m acc H1.out (20 - m)
      clear hkb0 hkb1
      go_wp2
      all_goals
        go_ret
        have h := H6.out
        rw [show z.toNat = 0 by omega, tell_done] at h
        rw [← h]
        exact ⟨rfl, (Below.refl _ _).alloc (Nat.le_refl _) _⟩
    · obtain ⟨q, rfl⟩ : ∃ q, m = q + 1 := ⟨m - 1, by
        rcases Nat.eq_zero_or_pos m with e | e
        · subst e; simp at h2; omega
        · omega⟩
      have hcell : (room (q + 1) acc)[q]? = some (.int .u8 0) := room_at _ _ _ (by omega)
      have hq1 : q ≤ 19 := by omega
      have hkz : ¬ (k = 0 ∧ z.toNat = 0) := by omega
      have R := inv_step (w := w) hb h1 h2 H3.out h4 h5 h6 hkz
      have HR := Lib.hid R; clear R
      clear h1 h2 h6
      by_cases hk : 0 < k
      · go_wp2
        go_roundw
        case rel => rw [dg_at]; exact HR.out
        case measure => simp [intOf]
      · obtain rfl : k = 0 := by omega
        have hz : 0 < z := by omega
        clear hk hex hkz hkb0 hkb1
        have hb0 : (0 : Int) % (b : Int) = 0 := by simp
        go_wp2
        go_roundw
        case rel => 
          have h := HR.out
          rw [show IntKind.u64.wrap (((0 : Nat) : Int) / (b : Int)) = 0 by simp [IntKind.wrap, IntKind.bits, IntKind.signed], Nat.zero_mod] at h
          exact h
        case measure => simp [intOf]
theorem teller_any (b : Int) (w : World) : Calls Tryd.prog 157 #[.int .u64 b] w fun e w' => e = .returned (.func (.func 177) #[] #[.pointer (some ⟨w.heap.size, 0, none⟩)]) ∧ w.alloc (.cells #[.int .u64 b] 161) = w' := by
  have hmf : ∀ (fn : Fn) (first cap : Array Value) (w : World), (Instr.makeFunc fn first cap).run Tryd.prog w = .ok (.func fn first cap) w := fun _ _ _ _ => rfl
  go_enter Tryd.func157, Tryd.ntmps157
  go_wp2
  go_ret
  exact ⟨rfl, rfl⟩
theorem reader_any (b : Int) (w : World) : Calls Tryd.prog 187 #[.int .u64 b] w fun e w' => e = .returned (.func (.func 194) #[] #[.pointer (some ⟨w.heap.size, 0, none⟩)]) ∧ w.alloc (.cells #[.int .u64 b] 161) = w' := by
  have hmf : ∀ (fn : Fn) (first cap : Array Value) (w : World), (Instr.makeFunc fn first cap).run Tryd.prog w = .ok (.func fn first cap) w := fun _ _ _ _ => rfl
  go_enter Tryd.func187, Tryd.ntmps187
  go_wp2
  go_ret
  exact ⟨rfl, rfl⟩
theorem digit_any (c : Int) (w : World) (h0 : 0 ≤ c) (h1 : c < 256) : Calls Tryd.prog 195 #[.int .u8 c] w fun e w' => e = .returned (.int .u64 (worth c)) ∧ w = w' := by
  have hw : c < 48 ∨ 70 < c ∨ (57 < c ∧ c < 65) → worth c = 18446744073709551615 := by unfold worth; intro h; rw [if_neg (by omega), if_neg (by omega)]
  have hw1 : 48 ≤ c → c ≤ 57 → worth c = c - 48 := by unfold worth; intro h h'; rw [if_pos (by omega)]
  have hw2 : 65 ≤ c → c ≤ 70 → worth c = c - 65 + 10 := by unfold worth; intro h h'; rw [if_neg (by omega), if_pos (by omega)]; omega
  have Hw := Lib.hid hw; have Hw1 := Lib.hid hw1; have Hw2 := Lib.hid hw2; clear hw hw1 hw2
  rcases (show c < 48 ∨ 70 < c ∨ (57 < c ∧ c < 65) ∨ (48 ≤ c ∧ c ≤ 57) ∨ (65 ≤ c ∧ c ≤ 70) by omega) with a | a | ⟨a, b⟩ | ⟨a, b⟩ | ⟨a, b⟩
  all_goals
    go_enter Tryd.func195, Tryd.ntmps195
    go_wp2
    go_ret
    first
      | (rw [Hw.out (by omega)]; exact ⟨rfl, rfl⟩)
      | (rw [Hw1.out (by omega) (by omega)]; exact ⟨rfl, rfl⟩)
      | (rw [Hw2.out (by omega) (by omega)]; exact ⟨rfl, rfl⟩)
end Go.Proofs.YtcdecnmhogmhaaaDoor
namespace Go.Proofs.YtcdecnmhogmhaaaDoor
open Go.RowKit
/-- What the reader answers. -/
def readOk (b : Nat) (s : ByteArray) : Bool := digs b s.data.toList && !s.toList.isEmpty
def readVal (b : Nat) (s : ByteArray) : Int := if digs b s.data.toList then rdv b s.data.toList else 0
theorem readOk_bad {b : Nat} {s : ByteArray} (h : digs b s.data.toList = false) : readOk b s = false := by simp [readOk, h]
theorem readVal_bad {b : Nat} {s : ByteArray} (h : digs b s.data.toList = false) : readVal b s = 0 := by simp [readVal, h]
theorem readOk_good {b : Nat} {s : ByteArray} (h : digs b s.data.toList = true) : readOk b s = !s.toList.isEmpty := by simp [readOk, h]
theorem readVal_good {b : Nat} {s : ByteArray} (h : digs b s.data.toList = true) : readVal b s = rdv b s.data.toList := by simp [readVal, h]
theorem digs_bad {b : Nat} {s : ByteArray} {k : Nat} (hk : k < s.size) (h : ¬ worth (s[k].toNat : Int) < b) : digs b s.data.toList = false := by
  cases hd : digs b s.data.toList with
  | false => rfl
  | true =>
    exfalso; apply h
    rw [digs, List.all_eq_true] at hd
    have := hd s[k] (by show s.data[k] ∈ _; simp)
    simpa using this
set_option maxHeartbeats 400000 in
theorem read_any (b p : Nat) (s : ByteArray) (w : World) (hb : 2 ≤ b) (hb' : b ≤ 16) (hs : s.size ≤ 1000000) (hc : w.cell? ⟨p, 0, none⟩ = some (.int .u64 (b : Int))) :
    Calls Tryd.prog 194 #[.string s, .pointer (some ⟨p, 0, none⟩)] w fun e w' => e = .returned (.tuple #[.int .u64 (readVal b s), .bool (readOk b s)]) ∧ w = w' := by
  go_enter Tryd.func194, Tryd.ntmps194
  go_wp2
  go_loop [5, 6] (fun n i => ∃ k : Nat, k ≤ s.size ∧ i = .int .i64 k ∧ n = .int .u64 (rdv b (s.data.toList.take k)) ∧ digs b (s.data.toList.take k) = true) (fun _ i => s.size - (intOf i).toNat)
  case atStart => exact ⟨0, Nat.zero_le _, rfl, rfl, rfl⟩
  case round =>
    obtain ⟨k, hk, rfl, rfl, hd⟩ := hrel
    have Hd := Lib.hid hd; clear hd
    by_cases hlt : k < s.size
    · have hts := take_snoc s k hlt
      have hrs := rdv_snoc b (s.data.toList.take k) s[k]
      have hds := digs_snoc b (s.data.toList.take k) s[k]
      have hbad := @digs_bad b s k hlt
      rw [← hts] at hrs hds
      have Hr := Lib.hid hrs; have Hs := Lib.hid hds; have Hb := Lib.hid hbad; clear hts hrs hds hbad
      by_cases hw : worth (s[k].toNat : Int) < b
      · go_wp2_with (go_at_call 195; refine (digit_any _ _ (u8_nn _) (u8_lt _)).mono ?_; rintro e w' ⟨rfl, rfl⟩)
        go_round
        case rel => exact ⟨k + 1, by omega, by go_num, by rw [Hr.out], by rw [Hs.out, Hd.out]; simpa using hw⟩
        case measure => simp [intOf]; omega
      · go_wp2_with (go_at_call 195; refine (digit_any _ _ (u8_nn _) (u8_lt _)).mono ?_; rintro e w' ⟨rfl, rfl⟩)
        go_ret2
        rw [readVal_bad (Hb.out hw), readOk_bad (Hb.out hw)]
        exact ⟨rfl, rfl⟩
    · have hta := take_all s k (by omega)
      have hdt := Hd.out
      rw [hta] at hdt
      have Ht := Lib.hid hta; have Hdt := Lib.hid hdt; clear hta hdt
      go_wp2
      go_ret2
      rw [readVal_good Hdt.out, readOk_good Hdt.out, Ht.out]
      exact ⟨rfl, rfl⟩

/-- A number's digits. -/
def decS (n : Int) : List UInt8 := if n < 0 then 45 :: tell 10 20 n.natAbs 1 else tell 10 20 n.toNat 1
theorem tell_int (b : Nat) (x l : Int) (p : Nat) (w : World) (hb : 2 ≤ b) (hb' : b ≤ 16) (hx0 : 0 ≤ x) (hn : x.toNat < b ^ 20) (hn' : x.toNat < 18446744073709551616) (hl0 : 0 ≤ l) (hl : l ≤ 20) (hp : p < w.heap.size) (hc : w.cell? ⟨p, 0, none⟩ = some (.int .u64 (b : Int))) :
    Calls Tryd.prog 177 #[.int .u64 x, .int .i64 l, .pointer (some ⟨p, 0, none⟩)] w fun e w' => e = .returned (.string ⟨(tell b 20 x.toNat l.toNat).toArray⟩) ∧ Below w.heap.size w w' := by
  have h := tell_any b x.toNat l.toNat p w hb hb' hn hn' (by omega) hp hc
  rw [Int.toNat_of_nonneg hx0, Int.toNat_of_nonneg hl0] at h
  exact h
theorem cell10 (w : World) (b : Int) : (w.alloc (.cells #[.int .u64 b] 161)).cell? ⟨w.heap.size, 0, none⟩ = some (.int .u64 b) := by rw [World.cell?_alloc_new]; rfl
set_option maxHeartbeats 400000 in
theorem dec_any (n : Int) (w : World) (h0 : -9223372036854775808 ≤ n) (h1 : n ≤ 9223372036854775807) : Calls Tryd.prog 122 #[.int .i64 n] w fun e w' => e = .returned (.string ⟨(decS n).toArray⟩) ∧ Below w.heap.size w w' := by
  by_cases h : n < 0
  · have hd : decS n = 45 :: tell 10 20 n.natAbs 1 := by unfold decS; rw [if_pos h]
    have e := u64_neg n h0 h
    have e2 : (IntKind.u64.wrap (-IntKind.u64.wrap n)).toNat = n.natAbs := by rw [e]; rfl
    have ht := tell_int 10 (IntKind.u64.wrap (-IntKind.u64.wrap n)) 1 w.heap.size (w.alloc (.cells #[.int .u64 10] 161)) (by omega) (by omega) (by omega) (by rw [e2]; omega) (by rw [e2]; omega) (by omega) (by omega) (by simp) (cell10 w 10)
    rw [e2] at ht
    have hl := tell_len 10 20 n.natAbs 1
    rw [show (1 : Int).toNat = 1 from rfl] at ht
    have Hd := Lib.hid hd; clear hd e e2
    generalize tell 10 20 n.natAbs 1 = t at *
    go_enter Tryd.func122, Tryd.ntmps122
    go_wp2_with (first | (go_at_call 157; refine (teller_any _ _).mono ?_; rintro e w' ⟨rfl, rfl⟩) | (go_at_call 177; refine ht.mono ?_; rintro e w1 ⟨rfl, hb⟩))
    go_ret
    rw [Hd.out]
    refine ⟨?_, ((Below.refl w.heap.size w).alloc (Nat.le_refl _) _).trans (hb.mono (by simp))⟩
    exact congrArg (fun x => Ending.returned (.string x)) (ba_app [45] t)
  · have hd : decS n = tell 10 20 n.toNat 1 := by unfold decS; rw [if_neg h]
    have ht := tell_int 10 n 1 w.heap.size (w.alloc (.cells #[.int .u64 10] 161)) (by omega) (by omega) (by omega) (by omega) (by omega) (by omega) (by omega) (by simp) (cell10 w 10)
    rw [show (1 : Int).toNat = 1 from rfl] at ht
    have Hd := Lib.hid hd; clear hd
    go_enter Tryd.func122, Tryd.ntmps122
    go_wp2_with (first | (go_at_call 157; refine (teller_any _ _).mono ?_; rintro e w' ⟨rfl, rfl⟩) | (go_at_call 177; refine ht.mono ?_; rintro e w1 ⟨rfl, hb⟩))
    go_ret
    rw [Hd.out]
    refine ⟨rfl, ?_⟩
    exact ((Below.refl w.heap.size w).alloc (Nat.le_refl _) _).trans (hb.mono (by simp))
end Go.Proofs.YtcdecnmhogmhaaaDoor
namespace Go.Proofs.YtcdecnmhogmhaaaDoor
open Go.RowKit
theorem ext1 (c : UInt8) (r : List UInt8) : (⟨(c :: r).toArray⟩ : ByteArray).extract 1 (r.length + 1) = ⟨r.toArray⟩ := by
  apply ByteArray.ext
  rw [ByteArray.data_extract]
  apply Array.ext'
  simp
theorem rng_wrap (x : Int) : -9223372036854775808 ≤ wrap64 x ∧ wrap64 x ≤ 9223372036854775807 := by unfold wrap64; omega
/-- What Undec makes of its digits. -/
def undV (l : List UInt8) : Int := if l.head? = some 45 then wrap64 (-wrap64 (readVal 10 ⟨l.tail.toArray⟩)) else wrap64 (readVal 10 ⟨l.toArray⟩)
def undD (l : List UInt8) : Bool := if l.head? = some 45 then readOk 10 ⟨l.tail.toArray⟩ else readOk 10 ⟨l.toArray⟩
def undOk (l : List UInt8) : Bool := undD l && decS (undV l) == l
def undR (l : List UInt8) : Int := if undOk l then undV l else 0
def undE (l : List UInt8) : Int := if undOk l then 0 else 6
theorem und_no {l : List UInt8} (h : undOk l = false) : undR l = 0 ∧ undE l = 6 := by simp [undR, undE, h]
theorem und_yes {l : List UInt8} (h : undOk l = true) : undR l = undV l ∧ undE l = 0 := by simp [undR, undE, h]
/-- The post. -/
def UndPost (l : List UInt8) (w : World) (e : Ending) (w' : World) : Prop := e = .returned (.tuple #[.int .i64 (undR l), .int .i64 (undE l)]) ∧ Below w.heap.size w w'
theorem post_no {l : List UInt8} {w w' : World} (h : undOk l = false) (hb : Below w.heap.size w w') : UndPost l w (.returned (.tuple #[.int .i64 0, .int .i64 6])) w' := by
  refine ⟨?_, hb⟩; rw [(und_no h).1, (und_no h).2]
theorem post_yes {l : List UInt8} {w w' : World} (h : undOk l = true) (hb : Below w.heap.size w w') : UndPost l w (.returned (.tuple #[.int .i64 (undV l), .int .i64 0])) w' := by
  refine ⟨?_, hb⟩; rw [(und_yes h).1, (und_yes h).2]
theorem below1 {w w2 : World} (hb : Below (w.alloc (.cells #[.int .u64 10] 161)).heap.size (w.alloc (.cells #[.int .u64 10] 161)) w2) : Below w.heap.size w w2 :=
  ((Below.refl w.heap.size w).alloc (Nat.le_refl _) _).trans (hb.mono (by simp))
set_option maxHeartbeats 400000 in
theorem undec_neg (r : List UInt8) (w : World) (hs : r.length ≤ 1000000) (b : Bool) (hok : readOk 10 ⟨r.toArray⟩ = b) : Calls Tryd.prog 181 #[.string ⟨(45 :: r).toArray⟩] w (UndPost (45 :: r) w) := by
  have hr : Calls Tryd.prog 194 #[.string ((⟨(45 :: r).toArray⟩ : ByteArray).extract 1 (r.length + 1)), .pointer (some ⟨w.heap.size, 0, none⟩)] (w.alloc (.cells #[.int .u64 10] 161)) fun e w' => e = .returned (.tuple #[.int .u64 (readVal 10 ⟨r.toArray⟩), .bool b]) ∧ w.alloc (.cells #[.int .u64 10] 161) = w' := by
    rw [ext1, ← hok]
    exact read_any 10 w.heap.size ⟨r.toArray⟩ _ (by omega) (by omega) hs (cell10 w 10)
  have hv : undV (45 :: r) = wrap64 (-wrap64 (readVal 10 ⟨r.toArray⟩)) := by simp [undV]
  have hd : undD (45 :: r) = b := by simp [undD, hok]
  have ho : undOk (45 :: r) = (b && decS (wrap64 (-wrap64 (readVal 10 ⟨r.toArray⟩))) == 45 :: r) := by rw [undOk, hv, hd]
  generalize readVal 10 ⟨r.toArray⟩ = u at *
  have Hv := Lib.hid hv; have Ho := Lib.hid ho; clear hok hd hv ho
  cases b
  · go_enter Tryd.func181, Tryd.ntmps181
    go_wp2_with (first | (go_at_call 187; refine (reader_any _ _).mono ?_; rintro e w' ⟨rfl, rfl⟩) | (go_at_call 194; refine hr.mono ?_; rintro e w' ⟨rfl, rfl⟩))
    go_ret2
    exact post_no (by rw [Ho.out]; rfl) ((Below.refl w.heap.size w).alloc (Nat.le_refl _) _)
  · go_enter Tryd.func181, Tryd.ntmps181
    go_wp2_with (first | (go_at_call 187; refine (reader_any _ _).mono ?_; rintro e w' ⟨rfl, rfl⟩) | (go_at_call 194; refine hr.mono ?_; rintro e w' ⟨rfl, rfl⟩) | (go_at_call 122; refine (dec_any _ _ (rng_wrap _).1 (rng_wrap _).2).mono ?_; rintro e w2 ⟨rfl, hb⟩))
    · have h : (!decS (wrap64 (-wrap64 u)) == 45 :: r) = true := by assumption
      go_ret2
      exact post_no (by rw [Ho.out]; simpa using h) (below1 hb)
    · have h : (!decS (wrap64 (-wrap64 u)) == 45 :: r) = false := by assumption
      go_ret2
      rw [← Hv.out]
      exact post_yes (by rw [Ho.out]; simpa using h) (below1 hb)
set_option maxHeartbeats 400000 in
theorem undec_pos (c : UInt8) (r : List UInt8) (w : World) (hc : c ≠ 45) (hs : r.length ≤ 999999) (b : Bool) (hok : readOk 10 ⟨(c :: r).toArray⟩ = b) : Calls Tryd.prog 181 #[.string ⟨(c :: r).toArray⟩] w (UndPost (c :: r) w) := by
  have hr : Calls Tryd.prog 194 #[.string (⟨(c :: r).toArray⟩ : ByteArray), .pointer (some ⟨w.heap.size, 0, none⟩)] (w.alloc (.cells #[.int .u64 10] 161)) fun e w' => e = .returned (.tuple #[.int .u64 (readVal 10 ⟨(c :: r).toArray⟩), .bool b]) ∧ w.alloc (.cells #[.int .u64 10] 161) = w' := by
    rw [← hok]
    exact read_any 10 w.heap.size ⟨(c :: r).toArray⟩ _ (by omega) (by omega) (by show (c :: r).toArray.size ≤ _; simp; omega) (cell10 w 10)
  have hv : undV (c :: r) = wrap64 (readVal 10 ⟨(c :: r).toArray⟩) := by simp [undV, hc]
  have hd : undD (c :: r) = b := by simp [undD, hok, hc]
  have ho : undOk (c :: r) = (b && decS (wrap64 (readVal 10 ⟨(c :: r).toArray⟩)) == c :: r) := by rw [undOk, hv, hd]
  generalize readVal 10 ⟨(c :: r).toArray⟩ = u at *
  have h45 : ((((⟨(c :: r).toArray⟩ : ByteArray)[0]'(Nat.succ_pos _)).toNat : Int) == 45) = false := by
    show ((c.toNat : Int) == 45) = false
    rw [beq_eq_false_iff_ne]; intro h; apply hc; apply UInt8.toNat_inj.mp; show c.toNat = 45; omega
  have Hv := Lib.hid hv; have Ho := Lib.hid ho; clear hok hd hv ho
  cases b
  · go_enter Tryd.func181, Tryd.ntmps181
    go_wp2_with (first | (go_at_call 187; refine (reader_any _ _).mono ?_; rintro e w' ⟨rfl, rfl⟩) | (go_at_call 194; refine hr.mono ?_; rintro e w' ⟨rfl, rfl⟩))
    go_ret2
    exact post_no (by rw [Ho.out]; rfl) ((Below.refl w.heap.size w).alloc (Nat.le_refl _) _)
  · go_enter Tryd.func181, Tryd.ntmps181
    go_wp2_with (first | (go_at_call 187; refine (reader_any _ _).mono ?_; rintro e w' ⟨rfl, rfl⟩) | (go_at_call 194; refine hr.mono ?_; rintro e w' ⟨rfl, rfl⟩) | (go_at_call 122; refine (dec_any _ _ (rng_wrap _).1 (rng_wrap _).2).mono ?_; rintro e w2 ⟨rfl, hb⟩))
    · have h : (!decS (wrap64 u) == c :: r) = true := by assumption
      go_ret2
      exact post_no (by rw [Ho.out]; simpa using h) (below1 hb)
    · have h : (!decS (wrap64 u) == c :: r) = false := by assumption
      go_ret2
      rw [← Hv.out]
      exact post_yes (by rw [Ho.out]; simpa using h) (below1 hb)
theorem readOk_nil : readOk 10 ⟨#[]⟩ = false := by simp [readOk, ByteArray.toList_eq]
theorem undOk_nil : undOk [] = false := by simp [undOk, undD, readOk, ByteArray.toList_eq]
set_option maxHeartbeats 400000 in
theorem undec_nil (w : World) : Calls Tryd.prog 181 #[.string ⟨#[]⟩] w (UndPost [] w) := by
  have hr : Calls Tryd.prog 194 #[.string (⟨#[]⟩ : ByteArray), .pointer (some ⟨w.heap.size, 0, none⟩)] (w.alloc (.cells #[.int .u64 10] 161)) fun e w' => e = .returned (.tuple #[.int .u64 (readVal 10 ⟨#[]⟩), .bool false]) ∧ w.alloc (.cells #[.int .u64 10] 161) = w' :=
    readOk_nil ▸ read_any 10 w.heap.size ⟨#[]⟩ _ (by omega) (by omega) (Nat.zero_le _) (cell10 w 10)
  go_enter Tryd.func181, Tryd.ntmps181
  go_wp2_with (first | (go_at_call 187; refine (reader_any _ _).mono ?_; rintro e w' ⟨rfl, rfl⟩) | (go_at_call 194; refine hr.mono ?_; rintro e w' ⟨rfl, rfl⟩))
  go_ret2
  exact post_no undOk_nil ((Below.refl w.heap.size w).alloc (Nat.le_refl _) _)
theorem undec_any (l : List UInt8) (w : World) (hs : l.length ≤ 999999) : Calls Tryd.prog 181 #[.string ⟨l.toArray⟩] w (UndPost l w) := by
  cases l with
  | nil => exact undec_nil w
  | cons c r =>
    by_cases hc : c = 45
    · subst hc; exact undec_neg r w (by simp at hs; omega) _ rfl
    · exact undec_pos c r w hc (by simp at hs; omega) _ rfl
end Go.Proofs.YtcdecnmhogmhaaaDoor
