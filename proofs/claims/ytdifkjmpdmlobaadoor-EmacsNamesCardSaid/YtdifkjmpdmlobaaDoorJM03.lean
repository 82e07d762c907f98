/-
  Joined: Sg1 Mk Ky2 M6 Ky3 Ky4 Em1 Em2.
-/
import Derived.Test.YtdifkjmpdmlobaaDoorJM01
import Derived.Test.YtdifkjmpdmlobaaDoorJM02
import Derived.Laws.OwnMore
import Derived.Laws.MakeOwn
import Derived.Deep.OwnRows
import Derived.OwnWalk
import Derived.Laws.Rows
import Derived.Deep.RegionHeld3
import Derived.Test.YtdifkjmpdmlobaaDoorProg
import Derived.Shelf.Strings.BuilderX
import Derived.Lib.Builder
import Derived.Lib.AppendStr
import Derived.Laws.Externs
import Derived.Deep.Cut
set_option linter.unusedVariables false
set_option linter.unusedSimpArgs false
set_option maxRecDepth 100000
set_option linter.unusedVariables false
set_option linter.unusedSimpArgs false
namespace Go.Proofs.YtdifkjmpdmlobaaDoor
open Go.RowKit
theorem blk_alloc {w : World} {g : Nat} {o : Obj} (h : w.heap[g]? = some o) (o' : Obj) : (w.alloc o').heap[g]? = some o :=
  (Below.heap_alloc w o' g (by
    rcases Nat.lt_or_ge g w.heap.size with h1 | h1
    · exact h1
    · rw [Array.getElem?_eq_none h1] at h; cases h)).trans h
theorem blk_set {w : World} {g : Nat} {cs : Array Value} {t : TypeId} {f : Nat × Nat} (h : w.heap[g]? = some (.cells cs t f)) (i : Nat) (u : Value) : (w.setCell ⟨g, i, none⟩ u).heap[g]? = some (.cells (cs.setIfInBounds i u) t f) := by
  simp [World.setCell, Array.getElem?_modify, h]
theorem blk_far {w : World} {g : Nat} {o : Obj} {p : Addr} (h : w.heap[g]? = some o) (hp : g ≠ p.block) (u : Value) : (w.setCell p u).heap[g]? = some o := (Below.heap_setCell w p u g hp).trans h
theorem blk_lt {w : World} {g : Nat} {o : Obj} (h : w.heap[g]? = some o) : g < w.heap.size := by
  rcases Nat.lt_or_ge g w.heap.size with h1 | h1
  · exact h1
  · rw [Array.getElem?_eq_none h1] at h; cases h
theorem blk_below {w w' : World} {g : Nat} {o : Obj} (h : w.heap[g]? = some o) (hb : Below w.heap.size w w') : w'.heap[g]? = some o := (hb.block g (blk_lt h)).trans h
theorem ownsRow_pos {w : World} {base : Nat} {e : TypeId} {size : Nat} {v : Value} {n : Nat} {xs : List Value} (h : w.ownsRow base e size v n xs) (hn : 0 < n) : ∃ g cap, v = .slice (some ⟨g, 0, none⟩) n cap := by
  rcases h.2 with ⟨_, h0⟩ | ⟨g, cap, _, rfl, _⟩
  · omega
  · exact ⟨g, cap, rfl⟩
/-- May a sign be? -/
def sgR (v l : Int) : Bool := decide (0 ≤ l) && (decide (l ≤ 5) && rightB v)
set_option maxRecDepth 100000 in
set_option maxHeartbeats 1000000 in
theorem sright_any (v l : Int) (w : World) : Calls Tryd.prog 72 #[.agg #[.int .i64 v, .int .i64 l]] w fun e w' => e = .returned (.bool (sgR v l)) ∧ Below w.heap.size w w' := by
  have R := Lib.hid fun w => right_any v w
  have hb := below_alloc w (.cells #[.int .i64 v, .int .i64 l] 89)
  by_cases h0 : 0 ≤ l
  · by_cases h5 : l ≤ 5
    · have e : Hid (sgR v l = rightB v) := Lib.hid (by unfold sgR; rw [decide_eq_true h0, decide_eq_true h5]; simp)
      go_enter Tryd.func72, Tryd.ntmps72
      go_wp2_with (go_at_call 94; refine (R.out _).mono ?_; rintro e w1 ⟨rfl, rfl⟩)
      go_ret
      rw [e.out]; exact ⟨rfl, hb⟩
    · have e : Hid (sgR v l = false) := Lib.hid (by unfold sgR; rw [decide_eq_false h5]; simp)
      go_enter Tryd.func72, Tryd.ntmps72
      go_wp2
      go_ret
      rw [e.out]; exact ⟨rfl, hb⟩
  · have e : Hid (sgR v l = false) := Lib.hid (by unfold sgR; rw [decide_eq_false h0]; simp)
    go_enter Tryd.func72, Tryd.ntmps72
    go_wp2
    go_ret
    rw [e.out]; exact ⟨rfl, hb⟩
theorem getD_mem {l : List (Int × Int)} {k : Nat} (h : k < l.length) : l.getD k (0, 0) ∈ l := by
  rw [List.getD, List.getElem?_eq_getElem h]; exact List.getElem_mem h
/-- May all signs be? -/
def sgC (l : List (Int × Int)) : Bool := l.all fun p => sgR p.1 p.2
def sgE (l : List (Int × Int)) : Int := if sgC l = true then 0 else 2
theorem sgE_no {l : List (Int × Int)} (h : sgC l = false) : sgE l = 2 := by unfold sgE; rw [h]; rfl
theorem sgE_yes {l : List (Int × Int)} (h : sgC l = true) : sgE l = 0 := by unfold sgE; rw [h]; rfl
set_option maxRecDepth 100000 in
set_option maxHeartbeats 1000000 in
theorem scheck_any (l : List (Int × Int)) (a : Option Addr) (c : Nat) (w : World) (hl : l.length ≤ 9223372036854775807) (hs : Signs w a l) :
    Calls Tryd.prog 48 #[.slice a l.length c] w fun e w' => e = .returned (.int .i64 (sgE l)) ∧ Below w.heap.size w w' := by
  have HS := Lib.hid hs; clear hs
  go_enter Tryd.func48, Tryd.ntmps48
  go_wp2
  go_loopw [7] (fun iv wr => ∃ k : Nat, k ≤ l.length ∧ iv = .int .i64 (k : Int) ∧ Hid (∀ j, j < k → sgR (l.getD j (0, 0)).1 (l.getD j (0, 0)).2 = true) ∧ Below w.heap.size w wr) (fun iv _ => l.length - (intOf iv).toNat)
  case atStart => exact ⟨0, Nat.zero_le _, rfl, Lib.hid (fun j hj => absurd hj (by omega)), Below.refl _ _⟩
  case round =>
    obtain ⟨k, hk, rfl, hall, hb⟩ := hrel
    by_cases hlt : k < l.length
    · obtain ⟨b, off, rfl, hblk, c1, c2⟩ := (HS.out.below hb) k hlt
      have hk1 : (k : Int) < l.length := by omega
      have hk0 : (0 : Int) ≤ k := by omega
      have R := fun w => sright_any (l.getD k (0, 0)).1 (l.getD k (0, 0)).2 w
      have hin := getD_mem hlt
      cases hr : sgR (l.getD k (0, 0)).1 (l.getD k (0, 0)).2
      · have HF : Hid (sgE l = 2) := Lib.hid (sgE_no (by unfold sgC; rw [List.all_eq_false]; exact ⟨_, hin, by rw [hr]; simp⟩))
        rw [hr] at R
        generalize (l.getD k (0, 0)).1 = v at *
        generalize (l.getD k (0, 0)).2 = u at *
        replace R := Lib.hid R
        clear hin hr
        go_wp2_with (go_at_call 72; refine (R.out _).mono ?_; rintro e w1 ⟨rfl, hb1⟩)
        go_ret
        rw [HF.out]
        exact ⟨rfl, hb.trans ((seqB (below_alloc _ _) hb1).mono hb.size)⟩
      · have HF : Hid (∀ j, j < k + 1 → sgR (l.getD j (0, 0)).1 (l.getD j (0, 0)).2 = true) := Lib.hid (by
          intro j hj
          rcases Nat.lt_succ_iff_lt_or_eq.1 hj with h | rfl
          · exact hall.out j h
          · exact hr)
        rw [hr] at R
        generalize (l.getD k (0, 0)).1 = v at *
        generalize (l.getD k (0, 0)).2 = u at *
        replace R := Lib.hid R
        clear hin hr
        go_wp2_with (go_at_call 72; refine (R.out _).mono ?_; rintro e w1 ⟨rfl, hb1⟩)
        go_roundw
        case rel => exact ⟨k + 1, by omega, by go_num, HF, hb.trans ((seqB (below_alloc _ _) hb1).mono hb.size)⟩
        case measure => simp [intOf]; omega
    · obtain rfl : k = l.length := by omega
      have HF : Hid (sgE l = 0) := Lib.hid (sgE_yes (by
        unfold sgC; rw [List.all_eq_true]; intro p hp
        obtain ⟨j, hj, rfl⟩ := List.getElem_of_mem hp
        have := hall.out j hj
        rwa [List.getD, List.getElem?_eq_getElem hj] at this))
      go_wp2
      go_ret
      rw [HF.out]
      exact ⟨rfl, hb⟩
end Go.Proofs.YtdifkjmpdmlobaaDoor
set_option linter.unusedVariables false
set_option linter.unusedSimpArgs false
namespace Go.Proofs.YtdifkjmpdmlobaaDoor
open Go.RowKit
/-- A make of elements of several cells. -/
theorem make_rowN {P : Program} (t e : TypeId) (i : TypeInfo) (z : Value) (ht : P.underlying t = some (.slice e)) (hi : P.info? e = some i) (hz : i.zero = some z)
    (n : Nat) (hb : i.bytes * n ≤ 281474976710656) (h63 : n ≤ 9223372036854775807) (w : World) :
    (Instr.makeSlice t (.int .i64 (n : Int)) (.int .i64 (n : Int))).run P w = .ok (.slice (some ⟨w.heap.size, 0, none⟩) n n) (w.alloc (.cells (madeCells z.cells (n * i.size)) e)) := by
  have h := run_make (P := P) w t e i z ht hi hz .i64 .i64 (n : Int) (n : Int) (by omega) (by omega) (by
    have : ((i.bytes * n : Nat) : Int) ≤ 281474976710656 := by omega
    rwa [Int.natCast_mul] at this) (by omega)
  simpa only [Int.toNat_natCast] using h
theorem infoSign : (Tryd.prog.info? 89).map (fun i => (i.zero, i.size, i.bytes)) = some (some (.agg #[.int .i64 0, .int .i64 0]), 2, 16) := by kernel_rfl
theorem made_signs (n : Nat) : madeCells #[.int .i64 0, .int .i64 0] (n * 2) = sRow (List.replicate n (0, 0)) := by
  apply Array.ext
  · simp [madeCells, sRow, List.length_flatMap]
  · intro i h1 h2
    simp only [madeCells, Array.getElem_map, Array.getElem_range]
    have hi : i < n * 2 := by simpa [madeCells] using h1
    have hlt : i / 2 < (List.replicate n ((0 : Int), (0 : Int))).length := by simp; omega
    have h := sRow_at (List.replicate n ((0 : Int), (0 : Int))) (i / 2) hlt
    have hz : (List.replicate n ((0 : Int), (0 : Int))).getD (i / 2) (0, 0) = (0, 0) := by
      rw [List.getD, List.getElem?_replicate]; split <;> rfl
    rw [hz] at h
    have e : (sRow (List.replicate n ((0 : Int), (0 : Int))))[i]? = some (.int .i64 0) := by
      rw [sRow, List.getElem?_toArray]
      rcases Nat.mod_two_eq_zero_or_one i with hm | hm
      · have : i / 2 * 2 = i := by omega
        rw [this] at h; exact h.1
      · have : i / 2 * 2 + 1 = i := by omega
        rw [this] at h; exact h.2
    have e2 := Array.getElem?_eq_getElem h2
    rw [e] at e2
    injection e2 with e2
    rw [← e2]
    rcases Nat.mod_two_eq_zero_or_one i with hm | hm <;> simp [hm]
theorem sRow_set (L : List (Int × Int)) (k : Nat) (p : Int × Int) (h : k < L.length) : ((sRow L).setIfInBounds (k * 2) (.int .i64 p.1)).setIfInBounds (k * 2 + 1) (.int .i64 p.2) = sRow (L.set k p) := by
  apply Array.ext'
  simp only [sRow, Array.toList_setIfInBounds]
  induction L generalizing k with
  | nil => simp at h
  | cons x L ih =>
    cases k with
    | zero => rfl
    | succ k =>
      have := ih k (by simpa using h)
      rw [show (k + 1) * 2 = k * 2 + 1 + 1 by omega]
      simp only [List.flatMap_cons, List.cons_append, List.nil_append, List.set_cons_succ, this]
theorem sg_cells {w : World} {g k : Nat} {L : List (Int × Int)} {t : TypeId} {f : Nat × Nat} (h : w.heap[g]? = some (.cells (sRow L) t f)) (hk : k < L.length) :
    w.cell? ⟨g, k * 2, none⟩ = some (.int .i64 (L.getD k (0, 0)).1) ∧ w.cell? ⟨g, k * 2 + 1, none⟩ = some (.int .i64 (L.getD k (0, 0)).2) := by
  have hh := sRow_at L k hk
  rw [cell_of_row _ _ _ _ _ _ h, cell_of_row _ _ _ _ _ _ h, sRow, List.getElem?_toArray, List.getElem?_toArray]
  exact hh
theorem put_snoc {α β : Type} (l : List α) (f : α → β) (z : β) (d : α) (k : Nat) (h : k < l.length) :
    ((l.take k).map f ++ List.replicate (l.length - k) z).set k (f (l.getD k d)) = (l.take (k + 1)).map f ++ List.replicate (l.length - (k + 1)) z := by
  have hl : ((l.take k).map f).length = k := by simp; omega
  rw [List.set_append_right _ _ (by omega), hl, Nat.sub_self, List.take_succ_eq_append_getElem h, List.map_append, List.append_assoc]
  congr 1
  obtain ⟨m, hm⟩ : ∃ m, l.length - k = m + 1 := ⟨l.length - k - 1, by omega⟩
  have hm2 : l.length - (k + 1) = m := by omega
  rw [hm, hm2, List.replicate_succ, List.set_cons_zero, List.getD, List.getElem?_eq_getElem h]; rfl
theorem infoIntS : (Tryd.prog.info? 3).map (fun i => (i.zero, i.size, i.bytes)) = some (some (.int .i64 0), 1, 8) := by kernel_rfl
theorem made_ints (n : Nat) : madeCells #[.int .i64 0] (n * 1) = iRow (List.replicate n 0) := by
  apply Array.ext'
  rw [toList_madeCells_one]; simp [iRow]
theorem i_cell {w : World} {g k : Nat} {L : List Int} {t : TypeId} {f : Nat × Nat} (h : w.heap[g]? = some (.cells (iRow L) t f)) (hk : k < L.length) :
    w.cell? ⟨g, k, none⟩ = some (.int .i64 (L.getD k 0)) := by
  rw [cell_of_row _ _ _ _ _ _ h, iRow_at L k hk]
/-- A slice of numbers, out of a block. -/
theorem row_of_blk {w : World} {g : Nat} {L : List Int} {t : TypeId} {f : Nat × Nat} (h : w.heap[g]? = some (.cells (iRow L) t f)) : Row w (some ⟨g, 0, none⟩) L := fun j hj =>
  ⟨g, 0, rfl, by rw [Nat.zero_add]; exact i_cell h hj, blk_lt h⟩
theorem signs_of_blk {w : World} {g : Nat} {L : List (Int × Int)} {t : TypeId} {f : Nat × Nat} (h : w.heap[g]? = some (.cells (sRow L) t f)) : Signs w (some ⟨g, 0, none⟩) L := fun j hj =>
  ⟨g, 0, rfl, blk_lt h, by rw [Nat.zero_add]; exact (sg_cells h hj).1, by rw [Nat.zero_add]; exact (sg_cells h hj).2⟩
theorem app_cells {w : World} {h : Nat} {L : List Value} {t : TypeId} (hh : w.heap.size = h) {j : Nat} {x : Value} (hj : L[j]? = some x) : (w.alloc (.cells L.toArray t)).cell? ((⟨h, 0, none⟩ : Addr).add j) = some x := by
  subst hh
  have hadd : (⟨w.heap.size, 0, none⟩ : Addr).add j = ⟨w.heap.size, 0 + j, none⟩ := by unfold Addr.add; split <;> simp_all
  rw [hadd, World.cell?_alloc_new, Nat.zero_add, List.getElem?_toArray]; exact hj
end Go.Proofs.YtdifkjmpdmlobaaDoor
set_option linter.unusedVariables false
set_option linter.unusedSimpArgs false
namespace Go.Proofs.YtdifkjmpdmlobaaDoor
open Go.RowKit
def rowL (r : KRow) : List Value := [.int .i64 r.1, .int .i64 r.2.1, .string ⟨r.2.2.1.toArray⟩, .string ⟨r.2.2.2.toArray⟩]
def rowV (r : KRow) : Value := .agg #[.int .i64 r.1, .int .i64 r.2.1, .string ⟨r.2.2.1.toArray⟩, .string ⟨r.2.2.2.toArray⟩]
def kCells : List Value := kTab.flatMap rowL
/-- The table lies in memory. -/
structure KT (w : World) : Prop where
  cell : ∀ i, i < 52 → w.cell? ⟨1, i, none⟩ = kCells[i]?
  lt : 1 < w.heap.size
theorem KT.below {w w' : World} (h : KT w) (hb : Below w.heap.size w w') : KT w' :=
  ⟨fun i hi => (hb.cell (p := ⟨1, i, none⟩) h.lt).trans (h.cell i hi), Nat.lt_of_lt_of_le h.lt hb.size⟩
theorem undK : Tryd.prog.underlying 176 = some (.array 13 170) := by kernel_rfl
theorem infoK : (Tryd.prog.info? 176).map (·.size) = some 52 := by kernel_rfl
theorem infoR : (Tryd.prog.info? 170).map (·.size) = some 4 := by kernel_rfl
/-- A whole variable, out of its cells. -/
theorem run_loadVar_cells {P : Program} (w : World) (g : Nat) (ty : TypeId) (cs : List Value) (d : TypeDesc) (hg : ∀ j v, cs[j]? = some v → w.cell? ⟨g, j, none⟩ = some v)
    (hu : P.underlying ty = some d) (hd : (match d with | .struct _ | .array _ _ => true | _ => false) = true) (hi : (P.info? ty).map (·.size) = some cs.length) :
    (loadVar ty ⟨g, 0, none⟩).run P w = .ok (.agg cs.toArray) w := by
  have hl : (loadCells ⟨g, 0, none⟩ cs.length).run P w = .ok cs.toArray w :=
    run_loadCells_list (P := P) w ⟨g, 0, none⟩ cs (fun j v hv => by
      have hadd : (⟨g, 0, none⟩ : Addr).add j = ⟨g, j, none⟩ := by unfold Addr.add; split <;> simp_all
      rw [hadd]; exact hg j v hv)
  cases hq : P.info? ty with
  | none => simp [hq] at hi
  | some i =>
    have hs : i.size = cs.length := by simpa [hq] using hi
    have hagg : (isAgg ty).run P w = .ok true w := by
      unfold isAgg
      rw [Sem.run_bind, run_underlying hu w]
      cases d <;> simp_all
    simp [loadVar, Sem.run_bind, hagg, sizeOf, typeInfo, hq, hs, hl]
theorem kLoad (w : World) (h : KT w) : (loadVar 176 ⟨1, 0, none⟩).run Tryd.prog w = .ok (.agg kCells.toArray) w :=
  run_loadVar_cells w _ _ kCells _ (fun j v hv => by
    have hj : j < 52 := by
      have := (List.getElem?_eq_some_iff.1 hv).1
      exact this
    rw [h.cell j hj]; exact hv) undK rfl infoK
theorem kLoad2 (w : World) (h : KT w) : (loadCellsFrom ⟨1, 0, none⟩ 0 52 #[]).run Tryd.prog w = .ok kCells.toArray w := by
  have := run_loadCells_list (P := Tryd.prog) w ⟨1, 0, none⟩ kCells (fun j v hv => by
      have hadd : (⟨1, 0, none⟩ : Addr).add j = ⟨1, j, none⟩ := by unfold Addr.add; split <;> simp_all
      have hj : j < 52 := (List.getElem?_eq_some_iff.1 hv).1
      rw [hadd, h.cell j hj]; exact hv)
  have e : kCells.length = 52 := rfl
  simpa [loadCells, e] using this
/-- The walk's step where the whole table is loaded. -/
theorem wpList_load_kt {ops : Array Oper} {rest : List Oper} {dst : Option Tmp} {ty : TypeId} {pos : String} {after : Array Edge} {a : Act} {w : World} {Q : Exit → Act → World → Prop} (hT : KT w)
    (h : wpList Tryd.prog ops Q rest (a.put dst (.agg kCells.toArray)) w) :
    wpList Tryd.prog ops Q ({ dst := dst, op := .load 176 (.global 1), type := ty, pos := pos, after := after, guard := none } :: rest) a w := by
  refine wpList_plain rfl fun _ hK => ?_
  have hx : a.eval (.global 1) = .pointer (some ⟨1, 0, none⟩) := rfl
  unfold Oper.wp execOp
  simp only [hx, Instr.loadAt, Instr.sureAddr, Sem.run_bind, Sem.run_pure, Result.andThen_ok, kLoad w hT]
  exact hK _ _ h
theorem kIdx (k : Nat) (hk : k < 13) (w : World) : (Instr.index 176 (.agg kCells.toArray) (.int .i64 (k : Int))).run Tryd.prog w = .ok (rowV (kTab.getD k kr0)) w := by
  have hagg : (isAgg 170).run Tryd.prog w = .ok true w := by kernel_rfl
  have hsz : (sizeOf 170).run Tryd.prog w = .ok 4 w := by kernel_rfl
  have hex : List.take 4 (List.drop (k * 4) kCells) = rowL (kTab.getD k kr0) := by
    match k, hk with
    | 0, _ => rfl
    | 1, _ => rfl
    | 2, _ => rfl
    | 3, _ => rfl
    | 4, _ => rfl
    | 5, _ => rfl
    | 6, _ => rfl
    | 7, _ => rfl
    | 8, _ => rfl
    | 9, _ => rfl
    | 10, _ => rfl
    | 11, _ => rfl
    | 12, _ => rfl
  have h0 : (0 : Int) ≤ k := by omega
  have h1 : (k : Int) < 13 := by omega
  simp only [Instr.index, asIntOf, Sem.run_bind, run_underlying undK, Sem.run_pure, Result.andThen, Result.andThen_ok]
  simp only [h0, h1, true_and, if_true, part, Sem.run_bind, hsz, hagg, Result.andThen, Result.andThen_ok, Sem.run_pure, Int.toNat_natCast]
  simp [hex, rowV, h1]
  simp [rowL]
/-- From a row on: which is a key's. -/
def kFrom (kind v : Int) (k : Nat) : Option KRow := (kTab.drop k).find? (kIs kind v)
theorem kFrom_end (kind v : Int) : kFrom kind v 13 = none := rfl
theorem kTab_len : kTab.length = 13 := rfl
theorem kFrom_step (kind v : Int) (k : Nat) (hk : k < 13) : kFrom kind v k = if (kTab.getD k kr0).1 = kind ∧ (kTab.getD k kr0).2.1 = v then some (kTab.getD k kr0) else kFrom kind v (k + 1) := by
  unfold kFrom
  have hk' : k < kTab.length := hk
  rw [List.drop_eq_getElem_cons hk', List.find?_cons]
  have e : kTab.getD k kr0 = kTab[k] := by rw [List.getD, List.getElem?_eq_getElem hk']; rfl
  rw [e]
  unfold kIs
  by_cases h : (kTab[k]).1 = kind ∧ (kTab[k]).2.1 = v
  · rw [if_pos h, show ((kTab[k]).1 == kind && (kTab[k]).2.1 == v) = true by rw [h.1, h.2]; simp]
  · rw [if_neg h]
    have hb : ((kTab[k]).1 == kind && (kTab[k]).2.1 == v) = false := by
      cases hx : ((kTab[k]).1 == kind && (kTab[k]).2.1 == v) with
      | false => rfl
      | true => exact absurd (by simpa using hx) h
    rw [hb]
set_option maxRecDepth 100000 in
theorem kfinder_any (kind : Int) (w : World) : Calls Tryd.prog 120 #[.int .i64 kind] w fun e w' => e = .returned (.func (.func 132) #[] #[.pointer (some ⟨w.heap.size, 0, none⟩)]) ∧ w.alloc (.cells #[.int .i64 kind] 3) = w' := by
  have hmf : ∀ (fn : Fn) (first cap : Array Value) (w : World), (Instr.makeFunc fn first cap).run Tryd.prog w = .ok (.func fn first cap) w := fun _ _ _ _ => rfl
  go_enter Tryd.func120, Tryd.ntmps120
  go_wp2
  go_ret
  exact ⟨rfl, rfl⟩
end Go.Proofs.YtdifkjmpdmlobaaDoor
set_option linter.unusedVariables false
set_option linter.unusedSimpArgs false
namespace Go.Proofs.YtdifkjmpdmlobaaDoor
open Go.RowKit
/-- A builder of the call's own, at block b, that holds some bytes. -/
abbrev BldAt (B b : Nat) (p : Value) (bs : List Value) (w : World) : Prop := Lib.BuilderAt 185 5 B b p bs w
abbrev IsBld (B b : Nat) (bs : List Value) (w : World) : Prop := Lib.IsBuilder 185 5 B b bs w
theorem sizeBld : (Tryd.prog.info? 185).map (fun i => i.size) = some 2 := by kernel_rfl
theorem liesBld : liesAt Tryd.prog Tryd.prog.depth 185 (2 / Tryd.prog.cellsOf 185) 0 185 1 = true := by kernel_rfl
theorem infoU8 : (Tryd.prog.info? 5).map (fun i => (i.zero, i.size, i.bytes)) = some (some (.int .u8 0), 1, 1) := by kernel_rfl
set_option maxHeartbeats 1000000 in
set_option maxRecDepth 100000 in
theorem bcheck_used (b : Nat) (w : World) (h0 : w.cell? ⟨b, 0, none⟩ = some (.pointer (some ⟨b, 0, none⟩))) :
    Calls Tryd.prog 142 #[.pointer (some ⟨b, 0, none⟩)] w fun e w' => e = .returned (.tuple #[]) ∧ w = w' := by
  obtain ⟨j, hj, _⟩ := Option.map_eq_some_iff.1 sizeBld
  go_enter Tryd.func142, Tryd.ntmps142
  go_wp2
  rw [Lib.run_neq_ptr_same w _ Tryd.underlying183 hj]
  go_wp2
  go_end0
  exact ⟨rfl, rfl⟩
set_option maxHeartbeats 1000000 in
set_option maxRecDepth 100000 in
theorem bcheck_fresh (b : Nat) (w : World) (h0 : w.cell? ⟨b, 0, none⟩ = some (.pointer none)) (hsh : w.shape? b = some (185, 2)) (hfz : w.frozen? ⟨b, 0, none⟩ = false) :
    Calls Tryd.prog 142 #[.pointer (some ⟨b, 0, none⟩)] w fun e w' => e = .returned (.tuple #[]) ∧ w' = w.setCell ⟨b, 0, none⟩ (.pointer (some ⟨b, 0, none⟩)) := by
  obtain ⟨j, hj, hjs⟩ := Option.map_eq_some_iff.1 sizeBld
  go_enter Tryd.func142, Tryd.ntmps142
  go_wp2
  rw [Lib.run_to_unsafe w ⟨b, 0, none⟩ Tryd.underlying183 Tryd.underlying207 hj (by rw [hjs]; decide) hsh (Nat.zero_lt_succ 1)]
  simp only [Result.andThen]
  rw [Oper.upon_value]
  go_wp2
  rw [run_callFunc_extern Tryd.func146 (by kernel_rfl) (by kernel_rfl) (by kernel_rfl) (e := Extern.AbiNoEscape.same) (by kernel_rfl)]
  rw [Lib.run_noEscape]
  simp only [Result.andThen]
  rw [Oper.upon_value]
  go_wp2
  rw [Lib.run_from_unsafe w ⟨b, 0, none⟩ Tryd.underlying207 Tryd.underlying183 hj hsh liesBld]
  simp only [Result.andThen]
  rw [Oper.upon_value]
  go_wp2
  go_end0
  exact ⟨rfl, rfl⟩
theorem bcheck_any (B b : Nat) (bs : List Value) (w : World) (h : IsBld B b bs w) :
    Calls Tryd.prog 142 #[.pointer (some ⟨b, 0, none⟩)] w fun e w' => e = .returned (.tuple #[]) ∧ BldAt B b (.pointer (some ⟨b, 0, none⟩)) bs w' ∧ Below B w w' := by
  rcases h with h | h
  · refine (bcheck_fresh b w h.cell0 h.shape h.frozen0).mono ?_
    rintro e w' ⟨rfl, rfl⟩
    exact ⟨rfl, h.used _, (Below.refl B w).setCell (p := ⟨b, 0, none⟩) h.1 _⟩
  · refine (bcheck_used b w h.cell0).mono ?_
    rintro e w' ⟨rfl, rfl⟩
    exact ⟨rfl, h, Below.refl B _⟩
set_option maxHeartbeats 2000000 in
set_option maxRecDepth 100000 in
theorem bwrite_any (B b : Nat) (bs : List Value) (s : ByteArray) (w : World) (h : IsBld B b bs w) (hlen : bs.length + s.size ≤ 140737488355328) (hBw : B ≤ w.heap.size) :
    Calls Tryd.prog 134 #[.pointer (some ⟨b, 0, none⟩), .string s] w fun e w' => e = .returned (.tuple #[.int .i64 s.size, .nilIface]) ∧ BldAt B b (.pointer (some ⟨b, 0, none⟩)) (bs ++ Lib.strCells s) w' ∧ Below B w w' := by
  obtain ⟨i0, hi, hz0, hz1, hz2⟩ := info_parts infoU8
  have C := Lib.hid (bcheck_any B b bs w h)
  clear h
  go_enter Tryd.func134, Tryd.ntmps134
  go_wp2_with (go_at_call 142; refine C.out.mono ?_)
  rintro e w1 ⟨rfl, ⟨hB, v, hbk, hown, hne⟩, hb1⟩
  have c0 := Lib.cell_of_heap hbk 0; have c1 := Lib.cell_of_heap hbk 1
  dsimp at c0 c1
  go_wp2_with (at_builtin; refine Lib.wpList_append_own_string _ rfl _ _ 148 9 rfl B 5 i0 Tryd.underlying148 Tryd.underlying9 hi hz0 hz1 hz2 _ _ _ rfl hown s rfl ?g3 ?g4 ?g5 ?_)
  case g3 => unfold maxLen; omega
  case g4 => omega
  case g5 => have := hb1.size; omega
  intro v' w2 hown' hgrow _
  have hlt := blk_lt hbk
  have hb2 : w2.heap[b]? = some (.cells #[.pointer (some ⟨b, 0, none⟩), v] 185 (0, 0)) := (hgrow.block b hlt (fun e => hne e.symm)).trans hbk
  have d0 := Lib.cell_of_heap hb2 0
  have d1 := Lib.cell_of_heap hb2 1
  have f1 : w2.frozen? ⟨b, 1, none⟩ = false := Lib.frozen_of_heap hb2 1
  dsimp at d0 d1
  obtain ⟨ao, n', cap, rfl⟩ : ∃ ao n' cap, v' = .slice ao n' cap := by
    rcases hown'.2 with ⟨hv, _⟩ | ⟨g, cap, cur, hv, _⟩
    · exact ⟨_, _, _, hv⟩
    · exact ⟨_, _, _, hv⟩
  go_wp2
  go_ret2
  refine ⟨rfl, ?_, ?_⟩
  · exact Lib.BuilderAt.put (T := 185) (e := 5) hB hb2 (bs' := bs ++ Lib.strCells s) (by simpa [Lib.strCells_length] using hown') (by decide)
  · exact (hb1.grown hgrow (by have := hb1.size; omega) (fun k hk => (hown.lt k hk).1)).setCell (p := ⟨b, 1, none⟩) hB _
end Go.Proofs.YtdifkjmpdmlobaaDoor
set_option linter.unusedVariables false
set_option linter.unusedSimpArgs false
namespace Go.Proofs.YtdifkjmpdmlobaaDoor
open Go.RowKit
theorem rowV_eq (a b : Int) (c d : List UInt8) : rowV (a, b, c, d) = .agg #[.int .i64 a, .int .i64 b, .string ⟨c.toArray⟩, .string ⟨d.toArray⟩] := rfl
theorem kFrom_hit {kind v : Int} {k : Nat} {r : KRow} (h : kFrom kind v k = kFind kind v) (hk : k < 13) (e : kTab.getD k kr0 = r) (h1 : r.1 = kind) (h2 : r.2.1 = v) : kFind kind v = some r := by
  rw [← h, kFrom_step kind v k hk, e, if_pos ⟨h1, h2⟩]
theorem kFrom_miss {kind v : Int} {k : Nat} {r : KRow} (h : kFrom kind v k = kFind kind v) (hk : k < 13) (e : kTab.getD k kr0 = r) (h1 : ¬ (r.1 = kind ∧ r.2.1 = v)) : kFrom kind v (k + 1) = kFind kind v := by
  rw [← h, kFrom_step kind v k hk, e, if_neg h1]
/-- Four stores into a block. -/
theorem four_set {w : World} {b : Nat} {x0 x1 x2 x3 : Value} {T : TypeId} {f : Nat × Nat} (h : w.heap[b]? = some (.cells #[x0, x1, x2, x3] T f)) (v0 v1 v2 v3 : Value) :
    ((((w.setCell ⟨b, 0, none⟩ v0).setCell ⟨b, 1, none⟩ v1).setCell ⟨b, 2, none⟩ v2).setCell ⟨b, 3, none⟩ v3).heap[b]? = some (.cells #[v0, v1, v2, v3] T f) :=
  blk_set (blk_set (blk_set (blk_set h 0 _) 1 _) 2 _) 3 _
theorem four_below (w w0 : World) (b : Nat) (v0 v1 v2 v3 : Value) (hb : w0.heap.size ≤ b) (h : Below w0.heap.size w0 w) :
    Below w0.heap.size w0 ((((w.setCell ⟨b, 0, none⟩ v0).setCell ⟨b, 1, none⟩ v1).setCell ⟨b, 2, none⟩ v2).setCell ⟨b, 3, none⟩ v3) :=
  (((h.setCell (p := ⟨b, 0, none⟩) hb v0).setCell (p := ⟨b, 1, none⟩) hb v1).setCell (p := ⟨b, 2, none⟩) hb v2).setCell (p := ⟨b, 3, none⟩) hb v3
set_option maxHeartbeats 4000000 in
set_option maxRecDepth 100000 in
theorem kfind_any (v kind : Int) (p : Nat) (w : World) (hK : KT w) (hp : w.cell? ⟨p, 0, none⟩ = some (.int .i64 kind)) :
    Calls Tryd.prog 132 #[.int .i64 v, .pointer (some ⟨p, 0, none⟩)] w fun e w' => e = .returned (.tuple #[rowV (kRowOf kind v), .bool (kFind kind v).isSome]) ∧ Below w.heap.size w w' := by
  have B0 := below_alloc w (.cells #[.int .i64 0, .int .i64 0, .string ⟨#[]⟩, .string ⟨#[]⟩] 170)
  have hq := Lib.hid (heap_alloc_new w (.cells #[.int .i64 0, .int .i64 0, .string ⟨#[]⟩, .string ⟨#[]⟩] 170))
  have hpl : p < w.heap.size := block_lt_of_cell hp
  have hld := Lib.hid (hK.below B0)
  have hp0 := Lib.hid ((B0.cell (p := ⟨p, 0, none⟩) hpl).trans hp)
  have hs0 := B0.size
  clear hK hp
  go_enter Tryd.func132, Tryd.ntmps132
  go_wp2_with (with_reducible refine wpList_load_kt hld.out ?_)
  clear hld
  go_loopw [8] (fun iv wr => ∃ k : Nat, k ≤ 13 ∧ iv = .int .i64 (k : Int) ∧ Hid (kFrom kind v k = kFind kind v) ∧ Below (w.alloc (.cells #[.int .i64 0, .int .i64 0, .string ⟨#[]⟩, .string ⟨#[]⟩] 170)).heap.size (w.alloc (.cells #[.int .i64 0, .int .i64 0, .string ⟨#[]⟩, .string ⟨#[]⟩] 170)) wr) (fun iv _ => 13 - (intOf iv).toNat)
  case atStart => exact ⟨0, by omega, rfl, Lib.hid rfl, Below.refl _ _⟩
  case round =>
    obtain ⟨k, hk, rfl, HE, hb⟩ := hrel
    have hql : w.heap.size < (w.alloc (.cells #[.int .i64 0, .int .i64 0, .string ⟨#[]⟩, .string ⟨#[]⟩] 170)).heap.size := blk_lt hq.out
    have hqr := blk_below hq.out hb
    have hpr : wr.cell? ⟨p, 0, none⟩ = some (.int .i64 kind) := (hb.cell (p := ⟨p, 0, none⟩) (by show p < _; omega)).trans hp0.out
    have hsz := hb.size
    by_cases hlt : k < 13
    · have hk0 : (0 : Int) ≤ k := by omega
      have hk1 : (k : Int) < 13 := by omega
      have hix := fun w => kIdx k hlt w
      obtain ⟨r, hr⟩ : ∃ r, kTab.getD k kr0 = r := ⟨_, rfl⟩
      rw [hr] at hix
      obtain ⟨a, b, c, d⟩ := r
      rw [rowV_eq] at hix
      have B1 := below_alloc wr (.cells #[.int .i64 a, .int .i64 b, .string ⟨c.toArray⟩, .string ⟨d.toArray⟩] 170)
      have hpr1 := (B1.cell (p := ⟨p, 0, none⟩) (by show p < _; omega)).trans hpr
      by_cases h1 : a = kind
      · by_cases h2 : b = v
        · have HF := Lib.hid (kFrom_hit HE.out hlt hr h1 h2)
          have hq1 := blk_below hqr B1
          have HN := seqB B0 (hb.trans (B1.mono hsz))
          clear HE hr hqr
          subst h1; subst h2
          have zf := fun i => frozen_of_row _ w.heap.size i _ _ hq1
          have zz := fun i => cell_of_row _ _ i _ _ _ hq1
          have z0 := zz 0; have z1 := zz 1; have z2 := zz 2; have z3 := zz 3
          dsimp at z0 z1 z2 z3
          have hql1 := blk_lt hq1
          have hfin := Lib.hid (four_set hq1 (.int .i64 a) (.int .i64 b) (.string ⟨c.toArray⟩) (.string ⟨d.toArray⟩))
          have NF := Lib.hid (four_below _ w w.heap.size (.int .i64 a) (.int .i64 b) (.string ⟨c.toArray⟩) (.string ⟨d.toArray⟩) (Nat.le_refl _) HN)
          clear zz hq1 HN
          go_wp2
          generalize hWF : World.setCell _ _ _ = WF
          have hqf : WF.heap[w.heap.size]? = some (.cells #[.int .i64 a, .int .i64 b, .string ⟨c.toArray⟩, .string ⟨d.toArray⟩] 170 (0, 0)) := by rw [← hWF]; exact hfin.out
          have hN : Below w.heap.size w WF := by rw [← hWF]; exact NF.out
          have y := fun i => cell_of_row _ _ i _ _ _ hqf
          have y0 := y 0; have y1 := y 1; have y2 := y 2; have y3 := y 3
          dsimp at y0 y1 y2 y3
          clear y hqf hWF
          refine bodyPost_ret (v := .tuple #[.agg #[.int .i64 a, .int .i64 b, .string ⟨c.toArray⟩, .string ⟨d.toArray⟩], .bool true]) (by simp [results, Tryd.results132, go_sem, y0, y1, y2, y3]) rfl ?_
          unfold kRowOf
          rw [HF.out]
          exact ⟨rfl, hN⟩
        · have HF := Lib.hid (kFrom_miss HE.out hlt hr (fun h => h2 h.2))
          clear HE hr hqr
          subst h1
          go_wp2
          go_roundw
          case rel => exact ⟨k + 1, by omega, by go_num, HF, hb.trans (B1.mono hsz)⟩
          case measure => (simp [intOf]; try omega)
      · have HF := Lib.hid (kFrom_miss HE.out hlt hr (fun h => h1 h.1))
        clear HE hr hqr
        go_wp2
        go_roundw
        case rel => exact ⟨k + 1, by omega, by go_num, HF, hb.trans (B1.mono hsz)⟩
        case measure => (simp [intOf]; try omega)
    · obtain rfl : k = 13 := by omega
      have HF : Hid (kFind kind v = none) := Lib.hid (by rw [← HE.out]; rfl)
      have HN := seqB B0 hb
      have zf := fun i => frozen_of_row _ w.heap.size i _ _ hqr
      have zz := fun i => cell_of_row _ _ i _ _ _ hqr
      have z0 := zz 0; have z1 := zz 1; have z2 := zz 2; have z3 := zz 3
      dsimp at z0 z1 z2 z3
      have hql1 := blk_lt hqr
      have hfin := Lib.hid (four_set hqr (.int .i64 0) (.int .i64 0) (.string ⟨#[]⟩) (.string ⟨#[]⟩))
      have NF := Lib.hid (four_below _ w w.heap.size (.int .i64 0) (.int .i64 0) (.string ⟨#[]⟩) (.string ⟨#[]⟩) (Nat.le_refl _) HN)
      clear zz hqr HN HE
      go_wp2
      generalize hWF : World.setCell _ _ _ = WF
      have hqf : WF.heap[w.heap.size]? = some (.cells #[.int .i64 0, .int .i64 0, .string ⟨#[]⟩, .string ⟨#[]⟩] 170 (0, 0)) := by rw [← hWF]; exact hfin.out
      have hN : Below w.heap.size w WF := by rw [← hWF]; exact NF.out
      have y := fun i => cell_of_row _ _ i _ _ _ hqf
      have y0 := y 0; have y1 := y 1; have y2 := y 2; have y3 := y 3
      dsimp at y0 y1 y2 y3
      clear y hqf hWF
      refine bodyPost_ret (v := .tuple #[.agg #[.int .i64 0, .int .i64 0, .string ⟨#[]⟩, .string ⟨#[]⟩], .bool false]) (by simp [results, Tryd.results132, go_sem, y0, y1, y2, y3]) rfl ?_
      unfold kRowOf
      rw [HF.out]
      exact ⟨rfl, hN⟩
end Go.Proofs.YtdifkjmpdmlobaaDoor
set_option linter.unusedVariables false
set_option linter.unusedSimpArgs false
namespace Go.Proofs.YtdifkjmpdmlobaaDoor
open Go.RowKit
theorem kcell (w : World) (v : Value) (t : TypeId) : (w.alloc (.cells #[v] t)).cell? ⟨w.heap.size, 0, none⟩ = some v := by rw [World.cell?_alloc_new]; rfl
theorem may_sign (v : Int) : mayB 1 v = (decide (32 ≤ v) && decide (v ≠ 127) && rightB v) := by unfold mayB; rw [if_pos rfl]
theorem may_ctrl (v : Int) : mayB 2 v = ctB v := by unfold mayB; rw [if_neg (by decide), if_pos rfl]
theorem may_meta (v : Int) : mayB 3 v = (decide (0 ≤ v ∧ v < 128) && !lnB v) := by unfold mayB; rw [if_neg (by decide), if_neg (by decide), if_pos rfl]
theorem may_other (kind v : Int) (h1 : kind ≠ 1) (h2 : kind ≠ 2) (h3 : kind ≠ 3) : mayB kind v = (kFind kind v).isSome := by unfold mayB; rw [if_neg h1, if_neg h2, if_neg h3]
set_option maxHeartbeats 2000000 in
set_option maxRecDepth 100000 in
theorem kmay_any (kind v : Int) (w : World) (hK : KT w) : Calls Tryd.prog 100 #[.int .i64 kind, .int .i64 v] w fun e w' => e = .returned (.bool (mayB kind v)) ∧ Below w.heap.size w w' := by
  by_cases h1 : kind = 1
  · subst h1
    rw [may_sign]
    have R := Lib.hid fun w => right_any v w
    clear hK
    by_cases h32 : 32 ≤ v
    · by_cases h127 : v = 127
      · subst h127
        go_enter Tryd.func100, Tryd.ntmps100
        go_wp2_with fail
        go_ret
        exact ⟨rfl, Below.refl _ _⟩
      · rw [decide_eq_true h32, decide_eq_true h127]
        go_enter Tryd.func100, Tryd.ntmps100
        go_wp2_with (go_at_call 94; refine (R.out _).mono ?_; rintro e w1 ⟨rfl, rfl⟩)
        go_ret
        refine ⟨?_, Below.refl _ _⟩
        show Ending.returned (.bool (v != 127 && rightB v)) = _
        rw [show (v != 127) = true by simp [h127]]
        rfl
    · rw [decide_eq_false h32]
      go_enter Tryd.func100, Tryd.ntmps100
      go_wp2_with fail
      go_ret
      exact ⟨rfl, Below.refl _ _⟩
  by_cases h2 : kind = 2
  · subst h2
    rw [may_ctrl]
    have L := Lib.hid fun w => lineByte_any v w
    clear hK h1
    by_cases h0 : 0 ≤ v
    · by_cases h32 : v < 32
      · have e : ctB v = !lnB v := by unfold ctB; rw [decide_eq_true (by omega)]; rfl
        rw [e]
        go_enter Tryd.func100, Tryd.ntmps100
        go_wp2_with (go_at_call 119; refine (L.out _).mono ?_; rintro e w1 ⟨rfl, hb1⟩)
        go_ret
        exact ⟨rfl, hb1⟩
      · have e : ctB v = false := by unfold ctB; rw [decide_eq_false (by omega)]; rfl
        rw [e]
        go_enter Tryd.func100, Tryd.ntmps100
        go_wp2_with fail
        go_ret
        exact ⟨rfl, Below.refl _ _⟩
    · have e : ctB v = false := by unfold ctB; rw [decide_eq_false (by omega)]; rfl
      rw [e]
      go_enter Tryd.func100, Tryd.ntmps100
      go_wp2_with fail
      go_ret
      exact ⟨rfl, Below.refl _ _⟩
  by_cases h3 : kind = 3
  · subst h3
    rw [may_meta]
    have L := Lib.hid fun w => lineByte_any v w
    clear hK h1 h2
    by_cases h0 : 0 ≤ v
    · by_cases h32 : v < 128
      · rw [decide_eq_true ⟨h0, h32⟩]
        go_enter Tryd.func100, Tryd.ntmps100
        go_wp2_with (go_at_call 119; refine (L.out _).mono ?_; rintro e w1 ⟨rfl, hb1⟩)
        go_ret
        exact ⟨rfl, hb1⟩
      · rw [decide_eq_false (by omega)]
        go_enter Tryd.func100, Tryd.ntmps100
        go_wp2_with fail
        go_ret
        exact ⟨rfl, Below.refl _ _⟩
    · rw [decide_eq_false (by omega)]
      go_enter Tryd.func100, Tryd.ntmps100
      go_wp2_with fail
      go_ret
      exact ⟨rfl, Below.refl _ _⟩
  · rw [may_other kind v h1 h2 h3]
    have B0 := below_alloc w (.cells #[.int .i64 kind] 3)
    have F := kfind_any v kind w.heap.size (w.alloc (.cells #[.int .i64 kind] 3)) (hK.below B0) (kcell _ _ _)
    obtain ⟨r, hr⟩ : ∃ r, kRowOf kind v = r := ⟨_, rfl⟩
    rw [hr] at F
    obtain ⟨a, b, c, d⟩ := r
    rw [rowV_eq] at F
    generalize (kFind kind v).isSome = q at *
    replace F := Lib.hid F
    clear hK hr
    go_enter Tryd.func100, Tryd.ntmps100
    go_wp2_with (first
      | (go_at_call 120; refine (kfinder_any _ _).mono ?_; rintro e w1 ⟨rfl, rfl⟩)
      | (go_at_call 132; refine F.out.mono ?_; rintro e w1 ⟨rfl, hb1⟩))
    go_ret
    exact ⟨rfl, seqB (seqB B0 hb1) (below_alloc _ _)⟩
/-- A key as a value. -/
def kyV (k : Ky) : Value := .agg #[.int .i64 k.1, .int .i64 k.2.1, .string k.2.2.1, .bool k.2.2.2]
theorem key_paste (v : Int) (t : ByteArray) (c : Bool) : keyB (15, v, t, c) = (decide (v = 0) && decide (t.size ≤ 65536)) := by unfold keyB; rw [if_pos rfl]
theorem key_other (kind v : Int) (t : ByteArray) (c : Bool) (h : kind ≠ 15) : keyB (kind, v, t, c) = (decide (t.size = 0) && !c && mayB kind v) := by unfold keyB; rw [if_neg h]
theorem kstr_ne {s t : ByteArray} (h : ¬ s = t) : (s.toList == t.toList) = false ∧ (s.toList != t.toList) = true ∧ ¬ s.toList = t.toList := by
  have h1 : ¬ s.toList = t.toList := by rw [ByteArray.toList_eq, ByteArray.toList_eq]; intro e; exact h (ByteArray.ext (Array.ext' e))
  exact ⟨by simpa using h1, by simpa using h1, h1⟩
theorem kstr_nil {t : ByteArray} (h : ¬ t = ⟨#[]⟩) : ¬ t.toList = [] := by
  have h1 := (kstr_ne h).2.2
  rwa [show (⟨#[]⟩ : ByteArray).toList = [] by rw [ByteArray.toList_eq]] at h1
def ckE (k : Ky) : Int := if keyB k then 0 else 2
theorem ckE_yes {k : Ky} (h : keyB k = true) : ckE k = 0 := by unfold ckE; rw [h]; rfl
theorem ckE_no {k : Ky} (h : keyB k = false) : ckE k = 2 := by unfold ckE; rw [h]; rfl
set_option maxHeartbeats 2000000 in
set_option maxRecDepth 100000 in
theorem kcheck_any (k : Ky) (w : World) (hK : KT w) : Calls Tryd.prog 82 #[kyV k] w fun e w' => e = .returned (.int .i64 (ckE k)) ∧ Below w.heap.size w w' := by
  obtain ⟨kind, v, t, c⟩ := k
  show Calls _ _ #[.agg #[.int .i64 kind, .int .i64 v, .string t, .bool c]] _ _
  have B0 := below_alloc w (.cells #[.int .i64 kind, .int .i64 v, .string t, .bool c] 107)
  by_cases h15 : kind = 15
  · subst h15
    clear hK
    by_cases hv : v = 0
    · subst hv
      by_cases ht : t.size ≤ 65536
      · have e : Hid (ckE (15, 0, t, c) = 0) := Lib.hid (ckE_yes (by rw [key_paste, decide_eq_true rfl, decide_eq_true ht]; rfl))
        have ht' : (t.size : Int) ≤ 65536 := by omega
        go_enter Tryd.func82, Tryd.ntmps82
        go_wp2_with fail
        go_ret
        rw [e.out]; exact ⟨rfl, B0⟩
      · have e : Hid (ckE (15, 0, t, c) = 2) := Lib.hid (ckE_no (by rw [key_paste, decide_eq_false ht]; simp))
        have ht' : ¬ (t.size : Int) ≤ 65536 := by omega
        go_enter Tryd.func82, Tryd.ntmps82
        go_wp2_with fail
        go_ret
        rw [e.out]; exact ⟨rfl, B0⟩
    · have e : Hid (ckE (15, v, t, c) = 2) := Lib.hid (ckE_no (by rw [key_paste, decide_eq_false hv]; rfl))
      go_enter Tryd.func82, Tryd.ntmps82
      go_wp2_with fail
      go_ret
      rw [e.out]; exact ⟨rfl, B0⟩
  · by_cases ht : t = ⟨#[]⟩
    · subst ht
      cases c with
      | true =>
        have e : Hid (ckE (kind, v, ⟨#[]⟩, true) = 2) := Lib.hid (ckE_no (by rw [key_other _ _ _ _ h15]; simp))
        clear hK
        go_enter Tryd.func82, Tryd.ntmps82
        go_wp2_with fail
        go_ret
        rw [e.out]; exact ⟨rfl, B0⟩
      | false =>
        have M := kmay_any kind v (w.alloc (.cells #[.int .i64 kind, .int .i64 v, .string ⟨#[]⟩, .bool false] 107)) (hK.below B0)
        have e : keyB (kind, v, ⟨#[]⟩, false) = mayB kind v := by rw [key_other _ _ _ _ h15]; show (decide (0 = 0) && !false && mayB kind v) = _; simp
        have e2 : ckE (kind, v, ⟨#[]⟩, false) = if mayB kind v then 0 else 2 := by unfold ckE; rw [e]
        rw [e2]
        clear e e2 hK
        cases hm : mayB kind v with
        | true =>
          rw [hm] at M
          replace M := Lib.hid M
          clear hm
          go_enter Tryd.func82, Tryd.ntmps82
          go_wp2_with (go_at_call 100; refine M.out.mono ?_; rintro e w1 ⟨rfl, hb1⟩)
          go_ret
          exact ⟨rfl, seqB B0 hb1⟩
        | false =>
          rw [hm] at M
          replace M := Lib.hid M
          clear hm
          go_enter Tryd.func82, Tryd.ntmps82
          go_wp2_with (go_at_call 100; refine M.out.mono ?_; rintro e w1 ⟨rfl, hb1⟩)
          go_ret
          exact ⟨rfl, seqB B0 hb1⟩
    · have e : Hid (ckE (kind, v, t, c) = 2) := Lib.hid (ckE_no (by rw [key_other _ _ _ _ h15, decide_eq_false (fun h => ht (kzero h))]; rfl))
      have s3 : ¬ t.toList = [] := kstr_nil ht
      clear hK
      go_enter Tryd.func82, Tryd.ntmps82
      go_wp2_with fail
      go_ret
      rw [e.out]; exact ⟨rfl, B0⟩
end Go.Proofs.YtdifkjmpdmlobaaDoor
set_option linter.unusedVariables false
set_option linter.unusedSimpArgs false
namespace Go.Proofs.YtdifkjmpdmlobaaDoor
open Go.RowKit
/-- The names of the commands. -/
def enS : List ByteArray := [⟨#[110, 111, 110, 101]⟩, ⟨#[115, 101, 108, 102]⟩, ⟨#[108, 101, 102, 116]⟩, ⟨#[114, 105, 103, 104, 116]⟩, ⟨#[119, 111, 114, 100, 45, 108, 101, 102, 116]⟩, ⟨#[119, 111, 114, 100, 45, 114, 105, 103, 104, 116]⟩, ⟨#[104, 111, 109, 101]⟩, ⟨#[101, 110, 100]⟩, ⟨#[100, 101, 108, 101, 116, 101]⟩, ⟨#[98, 97, 99, 107]⟩, ⟨#[107, 105, 108, 108, 45, 101, 110, 100]⟩, ⟨#[107, 105, 108, 108, 45, 104, 111, 109, 101]⟩, ⟨#[107, 105, 108, 108, 45, 119, 111, 114, 100]⟩, ⟨#[107, 105, 108, 108, 45, 98, 97, 99, 107]⟩, ⟨#[107, 105, 108, 108, 45, 97, 108, 108]⟩, ⟨#[121, 97, 110, 107]⟩, ⟨#[112, 111, 112]⟩, ⟨#[115, 119, 97, 112]⟩, ⟨#[115, 119, 97, 112, 45, 119, 111, 114, 100, 115]⟩, ⟨#[117, 112, 112, 101, 114]⟩, ⟨#[108, 111, 119, 101, 114]⟩, ⟨#[99, 97, 112]⟩, ⟨#[117, 110, 100, 111]⟩, ⟨#[114, 101, 100, 111]⟩, ⟨#[109, 97, 114, 107]⟩, ⟨#[101, 120, 99, 104, 97, 110, 103, 101]⟩, ⟨#[117, 112]⟩, ⟨#[100, 111, 119, 110]⟩, ⟨#[102, 105, 114, 115, 116]⟩, ⟨#[108, 97, 115, 116]⟩, ⟨#[112, 114, 101, 102, 105, 120]⟩, ⟨#[115, 101, 101, 107]⟩, ⟨#[99, 111, 109, 112, 108, 101, 116, 101]⟩, ⟨#[101, 110, 116, 101, 114]⟩, ⟨#[113, 117, 111, 116, 101]⟩, ⟨#[99, 97, 110, 99, 101, 108]⟩, ⟨#[101, 114, 97, 115, 101]⟩, ⟨#[101, 111, 102]⟩, ⟨#[112, 97, 115, 116, 101]⟩, ⟨#[101, 115, 99]⟩, ⟨#[99, 111, 112, 121]⟩, ⟨#[107, 105, 108, 108, 45, 109, 97, 114, 107]⟩]
def enC : List Value := enS.map Value.string
/-- They lie in memory. -/
structure EN (w : World) : Prop where
  cell : ∀ i, i < 42 → w.cell? ⟨0, i, none⟩ = some (.string (enS.getD i ⟨#[]⟩))
  lt : 0 < w.heap.size
theorem EN.below {w w' : World} (h : EN w) (hb : Below w.heap.size w w') : EN w' :=
  ⟨fun i hi => (hb.cell (p := ⟨0, i, none⟩) h.lt).trans (h.cell i hi), Nat.lt_of_lt_of_le h.lt hb.size⟩
theorem undEn : Tryd.prog.underlying 110 = some (.array 42 9) := by kernel_rfl
theorem infoEn : (Tryd.prog.info? 110).map (·.size) = some 42 := by kernel_rfl
theorem enC_at (j : Nat) (hj : j < 42) : enC[j]? = some (.string (enS.getD j ⟨#[]⟩)) := by
  have h : j < enS.length := hj
  rw [enC, List.getElem?_map, List.getD, List.getElem?_eq_getElem h]
  rfl
theorem enLoad (w : World) (h : EN w) : (loadVar 110 ⟨0, 0, none⟩).run Tryd.prog w = .ok (.agg enC.toArray) w :=
  run_loadVar_cells w _ _ enC _ (fun j v hv => by
    have hj : j < 42 := (List.getElem?_eq_some_iff.1 hv).1
    rw [h.cell j hj, ← enC_at j hj]; exact hv) undEn rfl infoEn
theorem wpList_load_en {ops : Array Oper} {rest : List Oper} {dst : Option Tmp} {ty : TypeId} {pos : String} {after : Array Edge} {a : Act} {w : World} {Q : Exit → Act → World → Prop} (hT : EN w)
    (h : wpList Tryd.prog ops Q rest (a.put dst (.agg enC.toArray)) w) :
    wpList Tryd.prog ops Q ({ dst := dst, op := .load 110 (.global 0), type := ty, pos := pos, after := after, guard := none } :: rest) a w := by
  refine wpList_plain rfl fun _ hK => ?_
  have hx : a.eval (.global 0) = .pointer (some ⟨0, 0, none⟩) := rfl
  unfold Oper.wp execOp
  simp only [hx, Instr.loadAt, Instr.sureAddr, Sem.run_bind, Sem.run_pure, Result.andThen_ok, enLoad w hT]
  exact hK _ _ h
theorem enIdx (k : Nat) (hk : k < 42) (w : World) : (Instr.index 110 (.agg enC.toArray) (.int .i64 (k : Int))).run Tryd.prog w = .ok (.string (enS.getD k ⟨#[]⟩)) w := by
  have hagg : (isAgg 9).run Tryd.prog w = .ok false w := by kernel_rfl
  have hsz : (sizeOf 9).run Tryd.prog w = .ok 1 w := by kernel_rfl
  have hex := enC_at k hk
  have h0 : (0 : Int) ≤ k := by omega
  have h1 : (k : Int) < 42 := by omega
  simp only [Instr.index, asIntOf, Sem.run_bind, run_underlying undEn, Sem.run_pure, Result.andThen, Result.andThen_ok]
  simp only [h0, h1, true_and, if_true, part, Sem.run_bind, hsz, hagg, Result.andThen, Result.andThen_ok, Sem.run_pure, Int.toNat_natCast]
  simp [hex, h1]
/-- What Name answers. -/
def enN (n : Int) : ByteArray := if 0 ≤ n ∧ n ≤ 41 then enS.getD n.toNat ⟨#[]⟩ else ⟨#[]⟩
def enE (n : Int) : Int := if 0 ≤ n ∧ n ≤ 41 then 0 else 3
set_option maxRecDepth 100000 in
theorem ename_any (n : Int) (w : World) (hN : EN w) : Calls Tryd.prog 27 #[.int .i64 n] w fun e w' => e = .returned (.tuple #[.string (enN n), .int .i64 (enE n)]) ∧ w' = w := by
  by_cases h0 : n < 0
  · have he : Hid (enN n = ⟨#[]⟩ ∧ enE n = 3) := Lib.hid ⟨if_neg (by omega), if_neg (by omega)⟩
    clear hN
    go_enter Tryd.func27, Tryd.ntmps27
    go_wp2
    refine bodyPost_ret (results_tmp2 rfl _ _ _) rfl ?_
    exact ⟨by rw [he.out.1, he.out.2]; rfl, rfl⟩
  by_cases h1 : 42 ≤ n
  · have he : Hid (enN n = ⟨#[]⟩ ∧ enE n = 3) := Lib.hid ⟨if_neg (by omega), if_neg (by omega)⟩
    clear hN
    go_enter Tryd.func27, Tryd.ntmps27
    go_wp2
    refine bodyPost_ret (results_tmp2 rfl _ _ _) rfl ?_
    exact ⟨by rw [he.out.1, he.out.2]; rfl, rfl⟩
  · obtain ⟨k, rfl⟩ : ∃ k : Nat, n = (k : Int) := ⟨n.toNat, by omega⟩
    have hk : k < 42 := by omega
    have hk42 : (k : Int) < 42 := by omega
    have he : Hid (enN k = enS.getD k ⟨#[]⟩ ∧ enE k = 0) := Lib.hid ⟨by unfold enN; rw [if_pos (by omega)]; rfl, if_pos (by omega)⟩
    have c0 := hN.cell k hk
    generalize enS.getD k ⟨#[]⟩ = s at *
    clear hN
    go_enter Tryd.func27, Tryd.ntmps27
    go_wp2
    refine bodyPost_ret (results_tmp2 rfl _ _ _) rfl ?_
    exact ⟨by rw [he.out.1, he.out.2]; rfl, rfl⟩
/-- What Parse answers. -/
def PaPost (s : ByteArray) (w : World) (e : Ending) (w' : World) : Prop := ((∃ k : Nat, k < 42 ∧ enS.getD k ⟨#[]⟩ = s ∧ e = .returned (.tuple #[.int .i64 (k : Int), .int .i64 0])) ∨ ((∀ j, j < 42 → enS.getD j ⟨#[]⟩ ≠ s) ∧ e = .returned (.tuple #[.int .i64 0, .int .i64 6]))) ∧ Below w.heap.size w w'
set_option maxHeartbeats 4000000 in
set_option maxRecDepth 100000 in
theorem eparse_any (s : ByteArray) (w : World) (hN : EN w) : Calls Tryd.prog 28 #[.string s] w (PaPost s w) := by
  have hld := Lib.hid hN
  clear hN
  go_enter Tryd.func28, Tryd.ntmps28
  go_wp2_with (with_reducible refine wpList_load_en hld.out ?_)
  clear hld
  go_loopw [7] (fun iv wr => ∃ k : Nat, k ≤ 42 ∧ iv = .int .i64 (k : Int) ∧ Hid (∀ j, j < k → enS.getD j ⟨#[]⟩ ≠ s) ∧ Hid (Below w.heap.size w wr)) (fun iv _ => 42 - (intOf iv).toNat)
  case atStart => exact ⟨0, by omega, rfl, Lib.hid (fun j hj => absurd hj (Nat.not_lt_zero j)), Lib.hid (Below.refl _ _)⟩
  case round =>
    obtain ⟨k, hk, rfl, HE, hb⟩ := hrel
    by_cases hlt : k < 42
    · have hk0 : (0 : Int) ≤ k := by omega
      have hk1 : (k : Int) < 42 := by omega
      have hix := fun w => enIdx k hlt w
      obtain ⟨r, hr⟩ : ∃ r, enS.getD k ⟨#[]⟩ = r := ⟨_, rfl⟩
      rw [hr] at hix
      have HR := Lib.hid hr
      by_cases h1 : r = s
      · subst h1
        have h1b : (r.toList == r.toList) = true := by simp
        clear hr
        go_wp2_with fail
        refine bodyPost_ret (results_tmp2 rfl _ _ _) rfl ?_
        exact ⟨Or.inl ⟨k, hlt, HR.out, rfl⟩, hb.out⟩
      · have h1b := (kstr_ne h1).1
        have HE2 : Hid (∀ j, j < k + 1 → enS.getD j ⟨#[]⟩ ≠ s) := Lib.hid fun j hj => by
          by_cases e : j = k
          · rw [e, HR.out]; exact h1
          · exact HE.out j (by omega)
        clear hr
        go_wp2_with fail
        go_roundw
        case rel => exact ⟨k + 1, by omega, by go_num, HE2, hb⟩
        case measure => (simp [intOf]; try omega)
    · obtain rfl : k = 42 := by omega
      go_wp2_with fail
      refine bodyPost_ret (results_tmp2 rfl _ _ _) rfl ?_
      exact ⟨Or.inr ⟨HE.out, rfl⟩, hb.out⟩
end Go.Proofs.YtdifkjmpdmlobaaDoor
set_option linter.unusedVariables false
set_option linter.unusedSimpArgs false
namespace Go.Proofs.YtdifkjmpdmlobaaDoor
open Go.RowKit
/-- A row of the tables: a key's name, and what it asks for. -/
abbrev ER := ByteArray × Int
def erCells (L : List ER) : Array Value := (L.flatMap fun r => [Value.string r.1, .int .i64 r.2]).toArray
/-- A table that lies. -/
def ErB (w : World) (q : Nat) (L : List ER) : Prop := w.heap[q]? = some (.cells (erCells L) 142 (0, 0))
theorem erCells_at (L : List ER) : ∀ k, k < L.length → (erCells L)[k * 2]? = some (.string (L.getD k (⟨#[]⟩, 0)).1) ∧ (erCells L)[k * 2 + 1]? = some (.int .i64 (L.getD k (⟨#[]⟩, 0)).2) := by
  unfold erCells
  induction L with
  | nil => intro k hk; exact absurd hk (Nat.not_lt_zero k)
  | cons r L ih =>
    intro k hk
    cases k with
    | zero => exact ⟨rfl, rfl⟩
    | succ k =>
      have h := ih k (by simpa using hk)
      rw [List.getElem?_toArray] at h ⊢
      rw [List.getElem?_toArray] at h ⊢
      rw [List.flatMap_cons, show (k + 1) * 2 = k * 2 + 2 by omega, show k * 2 + 2 + 1 = (k * 2 + 1) + 2 by omega]
      exact h
theorem ErB.cells {w : World} {q : Nat} {L : List ER} (h : ErB w q L) (k : Nat) (hk : k < L.length) : w.cell? ⟨q, k * 2, none⟩ = some (.string (L.getD k (⟨#[]⟩, 0)).1) ∧ w.cell? ⟨q, k * 2 + 1, none⟩ = some (.int .i64 (L.getD k (⟨#[]⟩, 0)).2) := by
  rw [cell_of_row _ _ _ _ _ _ h, cell_of_row _ _ _ _ _ _ h]
  exact erCells_at L k hk
def erA : List ER := [(⟨#[67, 45, 97]⟩, 6), (⟨#[67, 45, 98]⟩, 2), (⟨#[67, 45, 99]⟩, 35), (⟨#[67, 45, 100]⟩, 37), (⟨#[67, 45, 101]⟩, 7), (⟨#[67, 45, 102]⟩, 3), (⟨#[67, 45, 103]⟩, 35), (⟨#[67, 45, 104]⟩, 9), (⟨#[67, 45, 105]⟩, 32), (⟨#[67, 45, 107]⟩, 10), (⟨#[67, 45, 108]⟩, 36), (⟨#[67, 45, 110]⟩, 27), (⟨#[67, 45, 112]⟩, 26), (⟨#[67, 45, 113]⟩, 34), (⟨#[67, 45, 114]⟩, 31), (⟨#[67, 45, 116]⟩, 17), (⟨#[67, 45, 117]⟩, 11), (⟨#[67, 45, 118]⟩, 34), (⟨#[67, 45, 119]⟩, 13), (⟨#[67, 45, 121]⟩, 15), (⟨#[67, 45, 64]⟩, 24), (⟨#[67, 45, 95]⟩, 22)]
set_option maxRecDepth 100000 in
set_option maxHeartbeats 4000000 in
theorem econtrols_any (w : World) : Calls Tryd.prog 103 #[] w fun e w' => e = .returned (.slice (some ⟨w.heap.size, 0, none⟩) 22 22) ∧ ErB w' w.heap.size erA ∧ Below w.heap.size w w' := by
  have hb := Lib.hid fun (o : Obj) => below_alloc w o
  have hn := Lib.hid (heap_alloc_new w (.cells (erCells erA) 142))
  go_enter Tryd.func103, Tryd.ntmps103
  go_wp2
  go_ret
  exact ⟨rfl, hn.out, hb.out _⟩
def erB : List ER := [(⟨#[77, 45, 102]⟩, 5), (⟨#[77, 45, 98]⟩, 4), (⟨#[77, 45, 100]⟩, 12), (⟨#[77, 45, 60, 55, 70, 62]⟩, 13), (⟨#[77, 45, 67, 45, 104]⟩, 13), (⟨#[77, 45, 121]⟩, 16), (⟨#[77, 45, 116]⟩, 18), (⟨#[77, 45, 117]⟩, 19), (⟨#[77, 45, 108]⟩, 20), (⟨#[77, 45, 99]⟩, 21), (⟨#[77, 45, 60, 51, 67, 62]⟩, 28), (⟨#[77, 45, 62]⟩, 29), (⟨#[77, 45, 112]⟩, 30), (⟨#[77, 45, 119]⟩, 40), (⟨#[77, 45, 107]⟩, 41), (⟨#[77, 45, 120]⟩, 25), (⟨#[77, 45, 114]⟩, 23), (⟨#[77, 45, 97]⟩, 14)]
set_option maxRecDepth 100000 in
set_option maxHeartbeats 4000000 in
theorem emetas_any (w : World) : Calls Tryd.prog 104 #[] w fun e w' => e = .returned (.slice (some ⟨w.heap.size, 0, none⟩) 18 18) ∧ ErB w' w.heap.size erB ∧ Below w.heap.size w w' := by
  have hb := Lib.hid fun (o : Obj) => below_alloc w o
  have hn := Lib.hid (heap_alloc_new w (.cells (erCells erB) 142))
  go_enter Tryd.func104, Tryd.ntmps104
  go_wp2
  go_ret
  exact ⟨rfl, hn.out, hb.out _⟩
def erC : List ER := [(⟨#[82, 69, 84]⟩, 33), (⟨#[76, 70, 68]⟩, 33), (⟨#[69, 83, 67]⟩, 35), (⟨#[68, 69, 76]⟩, 9), (⟨#[85, 80]⟩, 26), (⟨#[68, 79, 87, 78]⟩, 27), (⟨#[82, 73, 71, 72, 84]⟩, 3), (⟨#[76, 69, 70, 84]⟩, 2), (⟨#[72, 79, 77, 69]⟩, 6), (⟨#[69, 78, 68]⟩, 7), (⟨#[68, 69, 76, 69, 84, 69]⟩, 8), (⟨#[80, 71, 85, 80]⟩, 28), (⟨#[80, 71, 68, 78]⟩, 29)]
set_option maxRecDepth 100000 in
set_option maxHeartbeats 4000000 in
theorem eothers_any (w : World) : Calls Tryd.prog 105 #[] w fun e w' => e = .returned (.slice (some ⟨w.heap.size, 0, none⟩) 13 13) ∧ ErB w' w.heap.size erC ∧ Below w.heap.size w w' := by
  have hb := Lib.hid fun (o : Obj) => below_alloc w o
  have hn := Lib.hid (heap_alloc_new w (.cells (erCells erC) 142))
  go_enter Tryd.func105, Tryd.ntmps105
  go_wp2
  go_ret
  exact ⟨rfl, hn.out, hb.out _⟩
end Go.Proofs.YtdifkjmpdmlobaaDoor
