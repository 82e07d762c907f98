/-
  Joined: Sg1 U2 Mk U3 C6 Ow Sg2 U4 C7 Sg6 U5 C8 Sg7 U6 U7.
-/
import Derived.Test.YtldblffhkokhlaaDoorJV01
import Derived.Test.YtldblffhkokhlaaDoorJV03
import Derived.Laws.OwnMore
import Derived.Laws.MakeOwn
import Derived.Deep.OwnRows
import Derived.OwnWalk
import Derived.Lib.ItoaWalk
set_option linter.unusedVariables false
set_option linter.unusedSimpArgs false
set_option maxRecDepth 100000
set_option linter.unusedVariables false
set_option linter.unusedSimpArgs false
namespace Go.Proofs.YtldblffhkokhlaaDoor
open Go.RowKit
theorem blk_alloc {w : World} {g : Nat} {o : Obj} (h : w.heap[g]? = some o) (o' : Obj) : (w.alloc o').heap[g]? = some o :=
  (Below.heap_alloc w o' g (by
    rcases Nat.lt_or_ge g w.heap.size with h1 | h1
    · exact h1
    · rw [Array.getElem?_eq_none h1] at h; cases h)).trans h
theorem blk_set {w : World} {g : Nat} {cs : Array Value} {t : TypeId} {f : Nat × Nat} (h : w.heap[g]? = some (.cells cs t f)) (i : Nat) (u : Value) : (w.setCell ⟨g, i, none⟩ u).heap[g]? = some (.cells (cs.setIfInBounds i u) t f) := by
  simp [World.setCell, Array.getElem?_modify, h]
theorem blk_far {w : World} {g : Nat} {o : Obj} {p : Addr} (h : w.heap[g]? = some o) (hp : g ≠ p.block) (u : Value) : (w.setCell p u).heap[g]? = some o := (Below.heap_setCell w p u g hp).trans h
theorem blk_lt {w : World} {g : Nat} {o : Obj} (h : w.heap[g]? = some o) : g < w.heap.size := by
  rcases Nat.lt_or_ge g w.heap.size with h1 | h1
  · exact h1
  · rw [Array.getElem?_eq_none h1] at h; cases h
theorem blk_below {w w' : World} {g : Nat} {o : Obj} (h : w.heap[g]? = some o) (hb : Below w.heap.size w w') : w'.heap[g]? = some o := (hb.block g (blk_lt h)).trans h
theorem ownsRow_pos {w : World} {base : Nat} {e : TypeId} {size : Nat} {v : Value} {n : Nat} {xs : List Value} (h : w.ownsRow base e size v n xs) (hn : 0 < n) : ∃ g cap, v = .slice (some ⟨g, 0, none⟩) n cap := by
  rcases h.2 with ⟨_, h0⟩ | ⟨g, cap, _, rfl, _⟩
  · omega
  · exact ⟨g, cap, rfl⟩
/-- May a sign be? -/
def sgR (v l : Int) : Bool := decide (0 ≤ l) && (decide (l ≤ 5) && rightB v)
set_option maxRecDepth 100000 in
set_option maxHeartbeats 1000000 in
theorem sright_any (v l : Int) (w : World) : Calls Tryd.prog 80 #[.agg #[.int .i64 v, .int .i64 l]] w fun e w' => e = .returned (.bool (sgR v l)) ∧ Below w.heap.size w w' := by
  have R := Lib.hid fun w => right_any v w
  have hb := below_alloc w (.cells #[.int .i64 v, .int .i64 l] 77)
  by_cases h0 : 0 ≤ l
  · by_cases h5 : l ≤ 5
    · have e : Hid (sgR v l = rightB v) := Lib.hid (by unfold sgR; rw [decide_eq_true h0, decide_eq_true h5]; simp)
      go_enter Tryd.func80, Tryd.ntmps80
      go_wp2_with (go_at_call 108; refine (R.out _).mono ?_; rintro e w1 ⟨rfl, rfl⟩)
      go_ret
      rw [e.out]; exact ⟨rfl, hb⟩
    · have e : Hid (sgR v l = false) := Lib.hid (by unfold sgR; rw [decide_eq_false h5]; simp)
      go_enter Tryd.func80, Tryd.ntmps80
      go_wp2
      go_ret
      rw [e.out]; exact ⟨rfl, hb⟩
  · have e : Hid (sgR v l = false) := Lib.hid (by unfold sgR; rw [decide_eq_false h0]; simp)
    go_enter Tryd.func80, Tryd.ntmps80
    go_wp2
    go_ret
    rw [e.out]; exact ⟨rfl, hb⟩
theorem getD_mem {l : List (Int × Int)} {k : Nat} (h : k < l.length) : l.getD k (0, 0) ∈ l := by
  rw [List.getD, List.getElem?_eq_getElem h]; exact List.getElem_mem h
/-- May all signs be? -/
def sgC (l : List (Int × Int)) : Bool := l.all fun p => sgR p.1 p.2
def sgE (l : List (Int × Int)) : Int := if sgC l = true then 0 else 2
theorem sgE_no {l : List (Int × Int)} (h : sgC l = false) : sgE l = 2 := by unfold sgE; rw [h]; rfl
theorem sgE_yes {l : List (Int × Int)} (h : sgC l = true) : sgE l = 0 := by unfold sgE; rw [h]; rfl
set_option maxRecDepth 100000 in
set_option maxHeartbeats 1000000 in
theorem scheck_any (l : List (Int × Int)) (a : Option Addr) (c : Nat) (w : World) (hl : l.length ≤ 9223372036854775807) (hs : Signs w a l) :
    Calls Tryd.prog 49 #[.slice a l.length c] w fun e w' => e = .returned (.int .i64 (sgE l)) ∧ Below w.heap.size w w' := by
  have HS := Lib.hid hs; clear hs
  go_enter Tryd.func49, Tryd.ntmps49
  go_wp2
  go_loopw [7] (fun iv wr => ∃ k : Nat, k ≤ l.length ∧ iv = .int .i64 (k : Int) ∧ Hid (∀ j, j < k → sgR (l.getD j (0, 0)).1 (l.getD j (0, 0)).2 = true) ∧ Below w.heap.size w wr) (fun iv _ => l.length - (intOf iv).toNat)
  case atStart => exact ⟨0, Nat.zero_le _, rfl, Lib.hid (fun j hj => absurd hj (by omega)), Below.refl _ _⟩
  case round =>
    obtain ⟨k, hk, rfl, hall, hb⟩ := hrel
    by_cases hlt : k < l.length
    · obtain ⟨b, off, rfl, hblk, c1, c2⟩ := (HS.out.below hb) k hlt
      have hk1 : (k : Int) < l.length := by omega
      have hk0 : (0 : Int) ≤ k := by omega
      have R := fun w => sright_any (l.getD k (0, 0)).1 (l.getD k (0, 0)).2 w
      have hin := getD_mem hlt
      cases hr : sgR (l.getD k (0, 0)).1 (l.getD k (0, 0)).2
      · have HF : Hid (sgE l = 2) := Lib.hid (sgE_no (by unfold sgC; rw [List.all_eq_false]; exact ⟨_, hin, by rw [hr]; simp⟩))
        rw [hr] at R
        generalize (l.getD k (0, 0)).1 = v at *
        generalize (l.getD k (0, 0)).2 = u at *
        replace R := Lib.hid R
        clear hin hr
        go_wp2_with (go_at_call 80; refine (R.out _).mono ?_; rintro e w1 ⟨rfl, hb1⟩)
        go_ret
        rw [HF.out]
        exact ⟨rfl, hb.trans ((seqB (below_alloc _ _) hb1).mono hb.size)⟩
      · have HF : Hid (∀ j, j < k + 1 → sgR (l.getD j (0, 0)).1 (l.getD j (0, 0)).2 = true) := Lib.hid (by
          intro j hj
          rcases Nat.lt_succ_iff_lt_or_eq.1 hj with h | rfl
          · exact hall.out j h
          · exact hr)
        rw [hr] at R
        generalize (l.getD k (0, 0)).1 = v at *
        generalize (l.getD k (0, 0)).2 = u at *
        replace R := Lib.hid R
        clear hin hr
        go_wp2_with (go_at_call 80; refine (R.out _).mono ?_; rintro e w1 ⟨rfl, hb1⟩)
        go_roundw
        case rel => exact ⟨k + 1, by omega, by go_num, HF, hb.trans ((seqB (below_alloc _ _) hb1).mono hb.size)⟩
        case measure => simp [intOf]; omega
    · obtain rfl : k = l.length := by omega
      have HF : Hid (sgE l = 0) := Lib.hid (sgE_yes (by
        unfold sgC; rw [List.all_eq_true]; intro p hp
        obtain ⟨j, hj, rfl⟩ := List.getElem_of_mem hp
        have := hall.out j hj
        rwa [List.getD, List.getElem?_eq_getElem hj] at this))
      go_wp2
      go_ret
      rw [HF.out]
      exact ⟨rfl, hb⟩
end Go.Proofs.YtldblffhkokhlaaDoor
namespace Go.Proofs.YtldblffhkokhlaaDoor
open Go.RowKit
theorem dec_pos (s : ByteArray) (i : Nat) (h : i < s.size) : 1 ≤ (Utf8.decode s i).2 ∧ (Utf8.decode s i).2 ≤ 4 ∧ i + (Utf8.decode s i).2 ≤ s.size := by
  rw [Lib.decode_at]
  unfold Lib.decodeN
  repeat' split
  all_goals (simp only; omega)
theorem vAt_size (s : ByteArray) (i : Nat) (h : i < s.size) : (vAt s i).2 = (Utf8.decode s i).2 := by
  have hp := dec_pos s i h
  unfold vAt
  split
  · rename_i h2
    have := dec_cases s i
    rcases this with h3 | h3
    · rw [h3]
    · rcases h3 with h3 | h3 | h3 | h3 <;> omega
  · rfl
/-- A text's first value. -/
def oneS (s : ByteArray) : Nat × Nat := if s.size = 0 then (0, 0) else vAt s 0
set_option maxRecDepth 100000 in
set_option maxHeartbeats 1000000 in
theorem one_any (s : ByteArray) (w : World) (hT : UT w) (hs : s.size ≤ 1000000) :
    Calls Tryd.prog 117 #[.string s] w fun e w' => e = .returned (.tuple #[.int .i64 ((oneS s).1 : Int), .int .i64 ((oneS s).2 : Int)]) ∧ Below w.heap.size w w' := by
  have hit := World.iter_heap w s 0
  have Hit := Lib.hid hit; clear hit
  have HT := Lib.hid hT; clear hT
  by_cases h : s.size = 0
  · have Ho : Hid (oneS s = (0, 0)) := Lib.hid (by unfold oneS; rw [if_pos h])
    have hnx : ∀ ty, (Instr.next (.pointer (some ⟨w.heap.size, 0, none⟩)) true ty).run Tryd.prog (w.iter s 0) = _ := fun ty => Lib.run_next_end_at (w.iter s 0) w.heap.size s 0 ty Hit.out (by omega)
    have hb : Below w.heap.size w (w.iter s 0) := below_alloc _ _
    clear h
    go_enter Tryd.func117, Tryd.ntmps117
    go_wp2
    refine wp_loop_rounds 1 ?_
    rw [rounds_succ]
    go_wp2
    go_ret2
    rw [Ho.out]
    exact ⟨rfl, hb⟩
  · have Ho : Hid (oneS s = vAt s 0) := Lib.hid (by unfold oneS; rw [if_neg h])
    have hb : Below w.heap.size w ((w.iter s 0).iterAt w.heap.size s (0 + (Utf8.decode s 0).2)) := Lib.below_iterAt (below_alloc _ _) (Nat.le_refl _) s _
    have hv := value_any s 0 _ (HT.out.below hb) hs (by omega)
    have hnx : ∀ ty, (Instr.next (.pointer (some ⟨w.heap.size, 0, none⟩)) true ty).run Tryd.prog (w.iter s 0) = _ := fun ty => Lib.run_next_any_at (w.iter s 0) w.heap.size s 0 ty Hit.out (by omega)
    clear h
    generalize (w.iter s 0).iterAt w.heap.size s (0 + (Utf8.decode s 0).2) = W1 at *
    have Hv := Lib.hid hv; clear hv
    go_enter Tryd.func117, Tryd.ntmps117
    go_wp2
    refine wp_loop_rounds 1 ?_
    rw [rounds_succ]
    go_wp2_with (go_at_call 138; refine Hv.out.mono ?_; rintro e w1 ⟨rfl, hb1⟩)
    go_ret2
    rw [Ho.out]
    exact ⟨rfl, hb.trans (hb1.mono hb.size)⟩
/-- A text's values, from a place on, at most so many. -/
def valsF (s : ByteArray) : Nat → Nat → List Int
  | 0, _ => []
  | f + 1, i => if i < s.size then ((vAt s i).1 : Int) :: valsF s f (i + (Utf8.decode s i).2) else []
def valsS (s : ByteArray) : List Int := valsF s s.size 0
theorem valsF_end (s : ByteArray) (f i : Nat) (h : ¬ i < s.size) : valsF s f i = [] := by
  cases f with
  | zero => rfl
  | succ f => rw [valsF, if_neg h]
theorem valsF_step (s : ByteArray) (f i : Nat) (h : i < s.size) : valsF s (f + 1) i = ((vAt s i).1 : Int) :: valsF s f (i + (Utf8.decode s i).2) := by rw [valsF, if_pos h]
theorem valsF_len (s : ByteArray) : ∀ f i, (valsF s f i).length + i ≤ s.size ∨ valsF s f i = [] := by
  intro f
  induction f with
  | zero => intro i; right; rfl
  | succ f ih =>
    intro i
    by_cases h : i < s.size
    · rw [valsF_step s f i h]
      have hp := dec_pos s i h
      left
      rcases ih (i + (Utf8.decode s i).2) with h2 | h2
      · simp; omega
      · rw [h2]; simp; omega
    · right; exact valsF_end s _ i h
end Go.Proofs.YtldblffhkokhlaaDoor
set_option linter.unusedVariables false
set_option linter.unusedSimpArgs false
namespace Go.Proofs.YtldblffhkokhlaaDoor
open Go.RowKit
/-- A make of elements of several cells. -/
theorem make_rowN {P : Program} (t e : TypeId) (i : TypeInfo) (z : Value) (ht : P.underlying t = some (.slice e)) (hi : P.info? e = some i) (hz : i.zero = some z)
    (n : Nat) (hb : i.bytes * n ≤ 281474976710656) (h63 : n ≤ 9223372036854775807) (w : World) :
    (Instr.makeSlice t (.int .i64 (n : Int)) (.int .i64 (n : Int))).run P w = .ok (.slice (some ⟨w.heap.size, 0, none⟩) n n) (w.alloc (.cells (madeCells z.cells (n * i.size)) e)) := by
  have h := run_make (P := P) w t e i z ht hi hz .i64 .i64 (n : Int) (n : Int) (by omega) (by omega) (by
    have : ((i.bytes * n : Nat) : Int) ≤ 281474976710656 := by omega
    rwa [Int.natCast_mul] at this) (by omega)
  simpa only [Int.toNat_natCast] using h
theorem infoSign : (Tryd.prog.info? 77).map (fun i => (i.zero, i.size, i.bytes)) = some (some (.agg #[.int .i64 0, .int .i64 0]), 2, 16) := by kernel_rfl
theorem made_signs (n : Nat) : madeCells #[.int .i64 0, .int .i64 0] (n * 2) = sRow (List.replicate n (0, 0)) := by
  apply Array.ext
  · simp [madeCells, sRow, List.length_flatMap]
  · intro i h1 h2
    simp only [madeCells, Array.getElem_map, Array.getElem_range]
    have hi : i < n * 2 := by simpa [madeCells] using h1
    have hlt : i / 2 < (List.replicate n ((0 : Int), (0 : Int))).length := by simp; omega
    have h := sRow_at (List.replicate n ((0 : Int), (0 : Int))) (i / 2) hlt
    have hz : (List.replicate n ((0 : Int), (0 : Int))).getD (i / 2) (0, 0) = (0, 0) := by
      rw [List.getD, List.getElem?_replicate]; split <;> rfl
    rw [hz] at h
    have e : (sRow (List.replicate n ((0 : Int), (0 : Int))))[i]? = some (.int .i64 0) := by
      rw [sRow, List.getElem?_toArray]
      rcases Nat.mod_two_eq_zero_or_one i with hm | hm
      · have : i / 2 * 2 = i := by omega
        rw [this] at h; exact h.1
      · have : i / 2 * 2 + 1 = i := by omega
        rw [this] at h; exact h.2
    have e2 := Array.getElem?_eq_getElem h2
    rw [e] at e2
    injection e2 with e2
    rw [← e2]
    rcases Nat.mod_two_eq_zero_or_one i with hm | hm <;> simp [hm]
theorem sRow_set (L : List (Int × Int)) (k : Nat) (p : Int × Int) (h : k < L.length) : ((sRow L).setIfInBounds (k * 2) (.int .i64 p.1)).setIfInBounds (k * 2 + 1) (.int .i64 p.2) = sRow (L.set k p) := by
  apply Array.ext'
  simp only [sRow, Array.toList_setIfInBounds]
  induction L generalizing k with
  | nil => simp at h
  | cons x L ih =>
    cases k with
    | zero => rfl
    | succ k =>
      have := ih k (by simpa using h)
      rw [show (k + 1) * 2 = k * 2 + 1 + 1 by omega]
      simp only [List.flatMap_cons, List.cons_append, List.nil_append, List.set_cons_succ, this]
theorem sg_cells {w : World} {g k : Nat} {L : List (Int × Int)} {t : TypeId} {f : Nat × Nat} (h : w.heap[g]? = some (.cells (sRow L) t f)) (hk : k < L.length) :
    w.cell? ⟨g, k * 2, none⟩ = some (.int .i64 (L.getD k (0, 0)).1) ∧ w.cell? ⟨g, k * 2 + 1, none⟩ = some (.int .i64 (L.getD k (0, 0)).2) := by
  have hh := sRow_at L k hk
  rw [cell_of_row _ _ _ _ _ _ h, cell_of_row _ _ _ _ _ _ h, sRow, List.getElem?_toArray, List.getElem?_toArray]
  exact hh
theorem put_snoc {α β : Type} (l : List α) (f : α → β) (z : β) (d : α) (k : Nat) (h : k < l.length) :
    ((l.take k).map f ++ List.replicate (l.length - k) z).set k (f (l.getD k d)) = (l.take (k + 1)).map f ++ List.replicate (l.length - (k + 1)) z := by
  have hl : ((l.take k).map f).length = k := by simp; omega
  rw [List.set_append_right _ _ (by omega), hl, Nat.sub_self, List.take_succ_eq_append_getElem h, List.map_append, List.append_assoc]
  congr 1
  obtain ⟨m, hm⟩ : ∃ m, l.length - k = m + 1 := ⟨l.length - k - 1, by omega⟩
  have hm2 : l.length - (k + 1) = m := by omega
  rw [hm, hm2, List.replicate_succ, List.set_cons_zero, List.getD, List.getElem?_eq_getElem h]; rfl
theorem infoIntS : (Tryd.prog.info? 3).map (fun i => (i.zero, i.size, i.bytes)) = some (some (.int .i64 0), 1, 8) := by kernel_rfl
theorem made_ints (n : Nat) : madeCells #[.int .i64 0] (n * 1) = iRow (List.replicate n 0) := by
  apply Array.ext'
  rw [toList_madeCells_one]; simp [iRow]
theorem i_cell {w : World} {g k : Nat} {L : List Int} {t : TypeId} {f : Nat × Nat} (h : w.heap[g]? = some (.cells (iRow L) t f)) (hk : k < L.length) :
    w.cell? ⟨g, k, none⟩ = some (.int .i64 (L.getD k 0)) := by
  rw [cell_of_row _ _ _ _ _ _ h, iRow_at L k hk]
/-- A slice of numbers, out of a block. -/
theorem row_of_blk {w : World} {g : Nat} {L : List Int} {t : TypeId} {f : Nat × Nat} (h : w.heap[g]? = some (.cells (iRow L) t f)) : Row w (some ⟨g, 0, none⟩) L := fun j hj =>
  ⟨g, 0, rfl, by rw [Nat.zero_add]; exact i_cell h hj, blk_lt h⟩
theorem signs_of_blk {w : World} {g : Nat} {L : List (Int × Int)} {t : TypeId} {f : Nat × Nat} (h : w.heap[g]? = some (.cells (sRow L) t f)) : Signs w (some ⟨g, 0, none⟩) L := fun j hj =>
  ⟨g, 0, rfl, blk_lt h, by rw [Nat.zero_add]; exact (sg_cells h hj).1, by rw [Nat.zero_add]; exact (sg_cells h hj).2⟩
theorem app_cells {w : World} {h : Nat} {L : List Value} {t : TypeId} (hh : w.heap.size = h) {j : Nat} {x : Value} (hj : L[j]? = some x) : (w.alloc (.cells L.toArray t)).cell? ((⟨h, 0, none⟩ : Addr).add j) = some x := by
  subst hh
  have hadd : (⟨w.heap.size, 0, none⟩ : Addr).add j = ⟨w.heap.size, 0 + j, none⟩ := by unfold Addr.add; split <;> simp_all
  rw [hadd, World.cell?_alloc_new, Nat.zero_add, List.getElem?_toArray]; exact hj
end Go.Proofs.YtldblffhkokhlaaDoor
namespace Go.Proofs.YtldblffhkokhlaaDoor
open Go.RowKit
theorem infoInt : (Tryd.prog.info? 3).map (fun i => (i.zero, i.size, i.bytes)) = some (some (.int .i64 0), 1, 8) := by kernel_rfl
theorem iBuild (l : List Int) (x : Int) : l.map (Value.int .i64) ++ [Value.int .i64 x] = (l ++ [x]).map (Value.int .i64) := by simp
/-- The loop of Decode. -/
structure DecInv (s : ByteArray) (w : World) (B : Nat) (i f : Nat) (acc : List Int) (v : Value) (wr : World) : Prop where
  own : wr.ownsRow w.heap.size 3 1 v acc.length (acc.map (Value.int .i64))
  it : wr.heap[B]? = some (.stringIter s i)
  bl : Below w.heap.size w wr
  ac : acc ++ valsF s f i = valsS s
  le : i ≤ s.size
  fu : s.size ≤ i + f
  al : acc.length ≤ i
theorem grown_of_below {w w' : World} (h : Below w.heap.size w w') : w.grownBy w' none := ⟨h.os, h.tape, h.output, h.size, fun k hk _ => h.block k hk⟩
theorem own_apart {w : World} {base : Nat} {e : TypeId} {size : Nat} {v : Value} {n : Nat} {xs : List Value} (h : w.ownsRow base e size v n xs) {B : Nat} {s : ByteArray} {i : Nat} (hb : w.heap[B]? = some (.stringIter s i)) : v.ownBlock ≠ some B := by
  rcases h.2 with ⟨rfl, _⟩ | ⟨g, cap, cur, rfl, _, hg, _⟩
  · simp [Value.ownBlock]
  · intro e1
    have : g = B := by simpa [Value.ownBlock] using e1
    subst this
    rw [hg] at hb; cases hb
theorem own_iter {w : World} {base : Nat} {e : TypeId} {size : Nat} {v : Value} {n : Nat} {xs : List Value} (h : w.ownsRow base e size v n xs) {B : Nat} {s : ByteArray} {i : Nat} (hb : w.heap[B]? = some (.stringIter s i)) (j : Nat) :
    (w.iterAt B s j).ownsRow base e size v n xs := by
  have hg : w.grownBy (w.iterAt B s j) (some B) := ⟨rfl, rfl, rfl, by rw [Lib.iterAt_size]; exact Nat.le_refl _, fun k _ hne => Lib.iterAt_other w B k s j (by intro e1; exact hne (by rw [e1]))⟩
  exact h.kept hg (Or.inr (own_apart h hb))
theorem own_below {w w' : World} {base : Nat} {e : TypeId} {size : Nat} {v : Value} {n : Nat} {xs : List Value} (h : w.ownsRow base e size v n xs) (hb : Below w.heap.size w w') : w'.ownsRow base e size v n xs :=
  h.kept (grown_of_below hb) (by cases hv : v.ownBlock <;> simp)
end Go.Proofs.YtldblffhkokhlaaDoor
namespace Go.Proofs.YtldblffhkokhlaaDoor
open Go.RowKit
theorem cright_ref (v : Int) (w : World) : Calls Tryd.prog 97 #[.int .i64 v] w fun e w' => e = .returned (.bool (rght v)) ∧ w = w' := by
  rcases rght_cases v with ⟨e, h | h | h⟩ | ⟨e, h | h | h | h⟩
  all_goals
    rw [e]; clear e
    go_enter Tryd.func97, Tryd.ntmps97
    go_wp2
    all_goals
      first
        | (go_ret; first | exact ⟨rfl, rfl⟩ | exact ⟨ret_bool (by simp; omega), rfl⟩)
        | (exfalso; omega)
theorem w64_u8 (c : UInt8) : wrap64 (c.toNat : Int) = (c.toNat : Int) := by have := c.toNat_lt; unfold wrap64; omega
/-- The reference's look. -/
def hitS (v : Int) (j : Nat) : Bool := lSk.getD j 0 == v
def skelR (v : Int) : Int := match (List.range 51).find? (hitS v) with | some j => ((sSk.getD j 0).toNat : Int) | none => v
theorem sk_byte (k : Nat) (h : k < (⟨#[65, 66, 69, 90, 72, 73, 75, 77, 78, 79, 80, 84, 89, 88, 118, 111, 112, 83, 73, 74, 65, 66, 69, 75, 77, 72, 79, 80, 67, 84, 88, 97, 101, 111, 112, 99, 121, 120, 115, 105, 106, 100, 113, 119, 59, 45, 45, 47, 47, 46, 44]⟩ : ByteArray).size) : (⟨#[65, 66, 69, 90, 72, 73, 75, 77, 78, 79, 80, 84, 89, 88, 118, 111, 112, 83, 73, 74, 65, 66, 69, 75, 77, 72, 79, 80, 67, 84, 88, 97, 101, 111, 112, 99, 121, 120, 115, 105, 106, 100, 113, 119, 59, 45, 45, 47, 47, 46, 44]⟩ : ByteArray)[k] = sSk.getD k 0 := by
  have h' : k < sSk.length := h
  rw [List.getD, List.getElem?_eq_getElem h']
  rfl
end Go.Proofs.YtldblffhkokhlaaDoor
set_option linter.unusedVariables false
set_option linter.unusedSimpArgs false
namespace Go.Proofs.YtldblffhkokhlaaDoor
open Go.RowKit
theorem own_ne_kind {w : World} {B n size b : Nat} {e T : TypeId} {v : Value} {xs : List Value} {cs : Array Value} {fr : Nat × Nat} (h : w.ownsRow B e size v n xs) (hb : w.heap[b]? = some (.cells cs T fr)) (hT : T ≠ e) : v.ownBlock ≠ some b := by
  rcases h.2 with ⟨rfl, _⟩ | ⟨g, cap, cur, rfl, _, hg, _⟩
  · simp [Value.ownBlock]
  · intro e'
    obtain rfl : g = b := by simpa [Value.ownBlock] using e'
    rw [hg] at hb; simp at hb; exact hT hb.2.1.symm
theorem own_ne_own {w : World} {B B' n n' size size' : Nat} {e e' : TypeId} {v v' : Value} {xs xs' : List Value} (h : w.ownsRow B e size v n xs) (h' : w.ownsRow B' e' size' v' n' xs') (hT : e ≠ e') : v.ownBlock = none ∨ v.ownBlock ≠ v'.ownBlock := by
  rcases h.2 with ⟨rfl, _⟩ | ⟨g, cap, cur, rfl, _, hg, _⟩
  · exact .inl rfl
  · exact .inr fun e'' => own_ne_kind h' hg hT e''.symm
theorem own_set {w : World} {B n size : Nat} {e : TypeId} {v : Value} {xs : List Value} (h : w.ownsRow B e size v n xs) {a : Addr} (ha : v.ownBlock ≠ some a.block) (u : Value) : (w.setCell a u).ownsRow B e size v n xs := by
  refine ⟨h.1, ?_⟩
  rcases h.2 with h2 | ⟨g, cap, cur, rfl, hB, hg, r⟩
  · exact .inl h2
  · exact .inr ⟨g, cap, cur, rfl, hB, by rw [Below.heap_setCell _ _ _ _ (fun e => ha (by rw [← e]; rfl))]; exact hg, r⟩
/-- A row of numbers of the call's own, read as a slice. -/
theorem row_ofI {w : World} {B : Nat} {v : Value} {L : List Int} (h : w.ownsRow B 3 1 v L.length (L.map (Value.int .i64))) : ∃ a c, v = .slice a L.length c ∧ Row w a L := by
  rcases h.2 with ⟨rfl, h0⟩ | ⟨g, cap, cur, rfl, _, hg, _⟩
  · exact ⟨none, 0, by rw [h0], fun j hj => by omega⟩
  · refine ⟨_, cap, rfl, fun j hj => ⟨g, 0, rfl, ?_, blk_lt hg⟩⟩
    rw [Nat.zero_add, h.cellAt j (by omega), List.getElem?_map, List.getD, List.getElem?_eq_getElem hj]; rfl
end Go.Proofs.YtldblffhkokhlaaDoor
set_option linter.unusedVariables false
set_option linter.unusedSimpArgs false
namespace Go.Proofs.YtldblffhkokhlaaDoor
open Go.RowKit
/-- What With has made after k rounds. -/
def wthL (l : List (Int × Int)) (u : Int) (k : Nat) : List (Int × Int) := (l.take k).map (fun p => (p.1, u)) ++ List.replicate (l.length - k) (0, 0)
theorem wthL_len (l : List (Int × Int)) (u : Int) (k : Nat) (h : k ≤ l.length) : (wthL l u k).length = l.length := by simp [wthL]; omega
set_option maxRecDepth 100000 in
set_option maxHeartbeats 1000000 in
theorem with_any (l : List (Int × Int)) (a : Option Addr) (c : Nat) (u : Int) (w : World) (hl : l.length ≤ 1000000) (hs : Signs w a l) :
    Calls Tryd.prog 53 #[.slice a l.length c, .int .i64 u] w fun e w' => e = .returned (.slice (some ⟨w.heap.size, 0, none⟩) l.length l.length) ∧ w'.heap[w.heap.size]? = some (.cells (sRow (l.map fun p => (p.1, u))) 77 (0, 0)) ∧ Below w.heap.size w w' := by
  obtain ⟨i0, hi, hz0, hz1, hz2⟩ := info_parts infoSign
  have HS := Lib.hid hs; clear hs
  have hmk := make_rowN (P := Tryd.prog) 22 77 i0 _ Tryd.underlying22 hi hz0 l.length (by rw [hz2]; omega) (by omega)
  rw [hz1] at hmk
  have hmade : madeCells (Value.agg #[.int .i64 0, .int .i64 0]).cells (l.length * 2) = sRow (wthL l u 0) := by rw [show (Value.agg #[.int .i64 0, .int .i64 0]).cells = #[.int .i64 0, .int .i64 0] from rfl, made_signs]; simp [wthL]
  rw [hmade] at hmk
  go_enter Tryd.func53, Tryd.ntmps53
  go_wp2
  go_loopw [13] (fun iv wr => ∃ k : Nat, k ≤ l.length ∧ iv = .int .i64 (k : Int) ∧ wr.heap[w.heap.size]? = some (.cells (sRow (wthL l u k)) 77 (0, 0)) ∧ Below w.heap.size w wr) (fun iv _ => l.length - (intOf iv).toNat)
  case atStart => exact ⟨0, Nat.zero_le _, rfl, heap_alloc_new _ _, below_alloc _ _⟩
  case round =>
    obtain ⟨k, hk, rfl, hown, hb⟩ := hrel
    by_cases hlt : k < l.length
    · obtain ⟨b, off, rfl, hblk, c1, c2⟩ := (HS.out.below hb) k hlt
      have hk1 : (k : Int) < l.length := by omega
      have hk0 : (0 : Int) ≤ k := by omega
      have hnext := put_snoc l (fun p : Int × Int => (p.1, u)) (0, 0) (0, 0) k hlt
      obtain ⟨p1, p2, hp⟩ : ∃ p1 p2, l.getD k (0, 0) = (p1, p2) := ⟨_, _, rfl⟩
      rw [hp] at c1 c2 hnext
      have hlen := wthL_len l u k hk
      have s12 := fun o => sg_cells (blk_alloc hown o) (k := k) (by rw [hlen]; exact hlt)
      have s1 := fun o => (s12 o).1
      have s2 := fun o => (s12 o).2
      have f12 := fun o i => frozen_of_row (wr.alloc o) w.heap.size i _ _ (blk_alloc hown o)
      generalize (wthL l u k).getD k (0, 0) = q at *
      have Hset : Hid ((wthL l u k).set k (p1, u) = wthL l u (k + 1)) := Lib.hid hnext
      have Hset2 := Lib.hid (sRow_set (wthL l u k) k (p1, u) (by rw [hlen]; exact hlt))
      have Hlen := Lib.hid hlen
      clear hnext hlen s12 hp
      go_wp2
      go_roundw
      case rel => exact ⟨k + 1, by omega, by go_num, by rw [← Hset.out, ← Hset2.out]; exact blk_set (blk_set (blk_alloc hown _) _ _) _ _, ((hb.alloc hb.size _).setCell (Nat.le_refl _) _).setCell (Nat.le_refl _) _⟩
      case measure => simp [intOf]; omega
    · obtain rfl : k = l.length := by omega
      have hfin : wthL l u l.length = l.map fun p => (p.1, u) := by unfold wthL; rw [List.take_length, Nat.sub_self, List.replicate_zero, List.append_nil]
      rw [hfin] at hown
      clear hfin hmade
      go_wp2
      go_ret
      exact ⟨rfl, hown, hb⟩
/-- What Values has made after k rounds. -/
def valL (l : List (Int × Int)) (k : Nat) : List Int := (l.take k).map (·.1) ++ List.replicate (l.length - k) 0
theorem valL_len (l : List (Int × Int)) (k : Nat) (h : k ≤ l.length) : (valL l k).length = l.length := by simp [valL]; omega
/-- What signs say. -/
def sTxt (l : List (Int × Int)) : ByteArray := encS (l.map (·.1))
end Go.Proofs.YtldblffhkokhlaaDoor
namespace Go.Proofs.YtldblffhkokhlaaDoor
open Go.RowKit
theorem sizeB_cases (c : Nat) (h : c < 256) : (c < 128 ∧ sizeB c = 1) ∨ (194 ≤ c ∧ c ≤ 223 ∧ sizeB c = 2) ∨ (224 ≤ c ∧ c ≤ 239 ∧ sizeB c = 3) ∨ (240 ≤ c ∧ c ≤ 244 ∧ sizeB c = 4) ∨ (128 ≤ c ∧ c < 194 ∧ sizeB c = 0) ∨ (244 < c ∧ sizeB c = 0) := by
  unfold sizeB; repeat' split
  all_goals omega
set_option maxRecDepth 100000 in
theorem size_ref (c : UInt8) (w : World) : Calls Tryd.prog 122 #[.int .u8 (c.toNat : Int)] w fun e w' => e = .returned (.int .i64 (sizeB c.toNat : Int)) ∧ w' = w := by
  have h1 := c.toNat_lt
  generalize c.toNat = n at *
  rcases sizeB_cases n (by omega) with ⟨h, e⟩ | ⟨h, h', e⟩ | ⟨h, h', e⟩ | ⟨h, h', e⟩ | ⟨h, h', e⟩ | ⟨h, e⟩
  all_goals
    rw [e]; clear e
    go_enter Tryd.func122, Tryd.ntmps122
    go_wp2
    go_ret
    exact ⟨rfl, rfl⟩
set_option maxRecDepth 100000 in
set_option maxHeartbeats 4000000 in
theorem may_ref (f c : UInt8) (i : Int) (w : World) : Calls Tryd.prog 139 #[.int .u8 (f.toNat : Int), .int .u8 (c.toNat : Int), .int .i64 i] w fun e w' => e = .returned (.bool (mayB f.toNat c.toNat i.toNat)) ∧ w' = w := by
  have h1 := c.toNat_lt
  have h2 := f.toNat_lt
  have hm := mayB_iff f.toNat c.toNat i.toNat
  generalize c.toNat = n at *
  generalize f.toNat = k at *
  by_cases ha : 128 ≤ n ∧ n ≤ 191
  · by_cases hb : 1 < i
    · have e : mayB k n i.toNat = true := hm.2 ⟨ha, Or.inl (by omega)⟩
      rw [e]; clear e hm
      obtain ⟨ha1, ha2⟩ := ha
      go_enter Tryd.func139, Tryd.ntmps139
      go_wp2
      go_ret
      exact ⟨rfl, rfl⟩
    · obtain ⟨ha1, ha2⟩ := ha
      have e : mayB k n i.toNat = !(decide (k = 224 ∧ n < 160) || decide (k = 237 ∧ 159 < n) || decide (k = 240 ∧ n < 144) || decide (k = 244 ∧ 143 < n)) := by
        rw [Bool.eq_iff_iff, hm]; simp; omega
      rw [e]; clear e hm
      rcases (show k = 224 ∨ k = 237 ∨ k = 240 ∨ k = 244 ∨ (k ≠ 224 ∧ k ≠ 237 ∧ k ≠ 240 ∧ k ≠ 244) by omega) with rfl | rfl | rfl | rfl | ⟨n1, n2, n3, n4⟩
      case inr.inr.inr.inr =>
        have e1 : ((k : Int) == 224) = false := by rw [beq_eq_false_iff_ne]; omega
        have e2 : ((k : Int) == 237) = false := by rw [beq_eq_false_iff_ne]; omega
        have e3 : ((k : Int) == 240) = false := by rw [beq_eq_false_iff_ne]; omega
        have e4 : ((k : Int) == 244) = false := by rw [beq_eq_false_iff_ne]; omega
        go_enter Tryd.func139, Tryd.ntmps139
        go_wp2
        go_ret
        exact ⟨ret_boolU (by first | (simp; done) | (simp; omega)), rfl⟩
      all_goals
        go_enter Tryd.func139, Tryd.ntmps139
        go_wp2
        all_goals
          go_ret
          exact ⟨ret_boolU (by first | (simp; done) | (simp; omega)), rfl⟩
  · have e : mayB k n i.toNat = false := by
      cases hx : mayB k n i.toNat with
      | false => rfl
      | true => exact absurd (hm.1 hx).1 ha
    rw [e]; clear e hm
    rcases (show n < 128 ∨ 191 < n by omega) with h | h
    all_goals
      go_enter Tryd.func139, Tryd.ntmps139
      go_wp2
      go_ret
      exact ⟨rfl, rfl⟩
end Go.Proofs.YtldblffhkokhlaaDoor
namespace Go.Proofs.YtldblffhkokhlaaDoor
open Go.RowKit
/-- The reference's class and width. -/
def clsR (v : Int) : Int := if rght v = false then 0 else if 1114111 < v then 12 else if 0 < oddR v then oddR v else if skelR v ≠ v then 3 else if wthn lWide v then 2 else 1
def widR (v : Int) : Int := if clsR v = 2 then 2 else if clsR v = 1 ∨ clsR v = 3 then 1 else 0
end Go.Proofs.YtldblffhkokhlaaDoor
set_option linter.unusedVariables false
set_option linter.unusedSimpArgs false
namespace Go.Proofs.YtldblffhkokhlaaDoor
open Go.RowKit
/-- Runs: label, from, to. -/
abbrev Rn := Int × Int × Int
/-- One more sign at place i, of label u; new: it begins a run. -/
def rnStep (R : List Rn) (new : Bool) (u i : Int) : List Rn :=
  if new = true then R ++ [(u, i, i + 1)] else R.set (R.length - 1) ((R.getD (R.length - 1) (0, 0, 0)).1, (R.getD (R.length - 1) (0, 0, 0)).2.1, i + 1)
def rnNew (l : List (Int × Int)) (i : Nat) : Bool := decide (i = 0) || (l.getD i (0, 0)).2 != (l.getD (i - 1) (0, 0)).2
/-- The runs of the first k signs. -/
def rnM (l : List (Int × Int)) : Nat → List Rn
  | 0 => []
  | k + 1 => rnStep (rnM l k) (rnNew l k) (l.getD k (0, 0)).2 k
/-- What runs are: each of one label, none beside one of the same, all signs in one of them. -/
structure RnOk (l : List (Int × Int)) (k : Nat) (R : List Rn) : Prop where
  frm : ∀ i, i < R.length → (R.getD i (0, 0, 0)).2.1 = if i = 0 then 0 else (R.getD (i - 1) (0, 0, 0)).2.2
  lt : ∀ i, i < R.length → (R.getD i (0, 0, 0)).2.1 < (R.getD i (0, 0, 0)).2.2
  lb : ∀ i, i < R.length → 0 < i → (R.getD (i - 1) (0, 0, 0)).1 ≠ (R.getD i (0, 0, 0)).1
  all : ∀ i, i < R.length → ∀ j : Nat, (R.getD i (0, 0, 0)).2.1 ≤ j → (j : Int) < (R.getD i (0, 0, 0)).2.2 → (l.getD j (0, 0)).2 = (R.getD i (0, 0, 0)).1
  last : 0 < R.length → (R.getD (R.length - 1) (0, 0, 0)).2.2 = k
  pos : 0 < k → 0 < R.length
  len : R.length ≤ k
theorem getD_snoc (R : List Rn) (x : Rn) (i : Nat) : (R ++ [x]).getD i (0, 0, 0) = if i < R.length then R.getD i (0, 0, 0) else if i = R.length then x else (0, 0, 0) := by
  rw [List.getD, List.getD]
  by_cases h : i < R.length
  · rw [List.getElem?_append_left h, if_pos h]
  · rw [List.getElem?_append_right (by omega), if_neg h]
    by_cases h2 : i = R.length
    · subst h2; simp
    · rw [if_neg h2]
      obtain ⟨m, hm⟩ : ∃ m, i - R.length = m + 1 := ⟨i - R.length - 1, by omega⟩
      rw [hm]; rfl
theorem getD_setR (R : List Rn) (i j : Nat) (x : Rn) : (R.set i x).getD j (0, 0, 0) = if i = j ∧ i < R.length then x else R.getD j (0, 0, 0) := by
  rw [List.getD, List.getD, List.getElem?_set]
  by_cases h : i = j
  · subst h
    by_cases h2 : i < R.length
    · simp [h2]
    · simp [h2]
  · simp [h]
theorem rn_bounds {l : List (Int × Int)} {k : Nat} {R : List Rn} (h : RnOk l k R) : ∀ i, i < R.length → 0 ≤ (R.getD i (0, 0, 0)).2.1 ∧ (R.getD i (0, 0, 0)).2.2 ≤ k := by
  have hlow : ∀ i, i < R.length → 0 ≤ (R.getD i (0, 0, 0)).2.1 := by
    intro i
    induction i with
    | zero => intro hi; rw [h.frm 0 hi]; simp
    | succ i ih =>
      intro hi
      have := h.frm (i + 1) hi
      rw [if_neg (by omega), Nat.add_sub_cancel] at this
      have h1 := ih (by omega)
      have h2 := h.lt i (by omega)
      omega
  have hup : ∀ d i, i + d + 1 = R.length → (R.getD i (0, 0, 0)).2.2 ≤ k := by
    intro d
    induction d with
    | zero =>
      intro i hi
      have := h.last (by omega)
      rw [show R.length - 1 = i by omega] at this
      omega
    | succ d ih =>
      intro i hi
      have h1 := ih (i + 1) (by omega)
      have h2 := h.frm (i + 1) (by omega)
      rw [if_neg (by omega), Nat.add_sub_cancel] at h2
      have h3 := h.lt (i + 1) (by omega)
      omega
  exact fun i hi => ⟨hlow i hi, hup (R.length - i - 1) i (by omega)⟩
theorem rn_ok (l : List (Int × Int)) : ∀ k, k ≤ l.length → RnOk l k (rnM l k) := by
  intro k
  induction k with
  | zero => intro _; exact ⟨fun i hi => absurd hi (by simp [rnM]), fun i hi => absurd hi (by simp [rnM]), fun i hi => absurd hi (by simp [rnM]), fun i hi => absurd hi (by simp [rnM]), fun hi => absurd hi (by simp [rnM]), fun h => absurd h (by omega), by simp [rnM]⟩
  | succ k ih =>
    intro hk
    have h := ih (by omega)
    have hb := rn_bounds h
    have hlast := h.last
    have hpos := h.pos
    have e : rnM l (k + 1) = rnStep (rnM l k) (rnNew l k) (l.getD k (0, 0)).2 k := rfl
    rw [e]
    generalize rnM l k = R at *
    unfold rnStep
    have hlastL : 0 < R.length → (l.getD (k - 1) (0, 0)).2 = (R.getD (R.length - 1) (0, 0, 0)).1 := fun hp => by
      have h1 := h.lt (R.length - 1) (by omega)
      have h0 := (hb (R.length - 1) (by omega)).1
      have h2 := hlast hp
      exact h.all (R.length - 1) (by omega) (k - 1) (by omega) (by omega)
    cases hn : rnNew l k
    · rw [if_neg (by simp)]
      unfold rnNew at hn
      rw [Bool.or_eq_false_iff] at hn
      have hk0 : k ≠ 0 := by simpa using hn.1
      have hsame : (l.getD k (0, 0)).2 = (l.getD (k - 1) (0, 0)).2 := by simpa using hn.2
      have hp := hpos (by omega)
      have hL := hlastL hp
      have h2 := hlast hp
      have hlt := h.lt (R.length - 1) (by omega)
      have hlb := fun i hi h0 => h.lb i hi h0
      refine ⟨?_, ?_, ?_, ?_, ?_, ?_, by simp; have := h.len; omega⟩
      · intro i hi
        have hi' : i < R.length := by simpa using hi
        have hf := h.frm i hi'
        rw [getD_setR, getD_setR]
        by_cases hi2 : R.length - 1 = i
        · rw [if_pos ⟨hi2, by omega⟩]
          subst hi2
          show (R.getD (R.length - 1) (0, 0, 0)).2.1 = _
          rw [hf]
          by_cases h00 : R.length - 1 = 0
          · rw [if_pos h00, if_pos h00]
          · rw [if_neg h00, if_neg h00, if_neg (by omega)]
        · rw [if_neg (by omega), hf]
          by_cases h00 : i = 0
          · rw [if_pos h00, if_pos h00]
          · rw [if_neg h00, if_neg h00, if_neg (by omega)]
      · intro i hi
        have hi' : i < R.length := by simpa using hi
        rw [getD_setR]
        by_cases hi2 : R.length - 1 = i
        · rw [if_pos ⟨hi2, by omega⟩]
          show (R.getD (R.length - 1) (0, 0, 0)).2.1 < (k : Int) + 1
          omega
        · rw [if_neg (by omega)]; exact h.lt i hi'
      · intro i hi h0
        have hi' : i < R.length := by simpa using hi
        rw [getD_setR, getD_setR]
        by_cases hi2 : R.length - 1 = i
        · rw [if_neg (by omega), if_pos ⟨hi2, by omega⟩]
          subst hi2
          exact h.lb (R.length - 1) hi' h0
        · rw [if_neg (by omega), if_neg (by omega)]; exact h.lb i hi' h0
      · intro i hi j hj1 hj2
        have hi' : i < R.length := by simpa using hi
        rw [getD_setR] at hj1 hj2 ⊢
        by_cases hi2 : R.length - 1 = i
        · rw [if_pos ⟨hi2, by omega⟩] at hj1 hj2 ⊢
          replace hj1 : (R.getD (R.length - 1) (0, 0, 0)).2.1 ≤ (j : Int) := hj1
          replace hj2 : (j : Int) < (k : Int) + 1 := hj2
          show (l.getD j (0, 0)).2 = (R.getD (R.length - 1) (0, 0, 0)).1
          by_cases hjk : j = k
          · rw [hjk, hsame, hL]
          · exact h.all (R.length - 1) (by omega) j hj1 (by omega)
        · rw [if_neg (by omega)] at hj1 hj2 ⊢
          exact h.all i hi' j hj1 hj2
      · intro _
        rw [getD_setR, List.length_set, if_pos ⟨rfl, by omega⟩]
        show (k : Int) + 1 = _
        omega
      · intro _; simpa using hp
    · rw [if_pos rfl]
      have hdiff : 0 < R.length → (R.getD (R.length - 1) (0, 0, 0)).1 ≠ (l.getD k (0, 0)).2 := fun hp => by
        unfold rnNew at hn
        rw [Bool.or_eq_true] at hn
        have hk0 : k ≠ 0 := by have := h.len; omega
        have h1 : (l.getD k (0, 0)).2 ≠ (l.getD (k - 1) (0, 0)).2 := by
          rcases hn with hn | hn
          · exact absurd (by simpa using hn) hk0
          · simpa using hn
        rw [hlastL hp] at h1
        exact fun e => h1 e.symm
      have hk0' : R.length = 0 → k = 0 := fun h0 => by
        rcases Nat.eq_zero_or_pos k with h1 | h1
        · exact h1
        · have := hpos h1; omega
      refine ⟨?_, ?_, ?_, ?_, ?_, ?_, by simp; have := h.len; omega⟩
      · intro i hi
        have hi' : i < R.length + 1 := by simpa using hi
        rw [getD_snoc, getD_snoc]
        by_cases hi2 : i < R.length
        · rw [if_pos hi2, h.frm i hi2]
          by_cases h00 : i = 0
          · rw [if_pos h00, if_pos h00]
          · rw [if_neg h00, if_neg h00, if_pos (by omega)]
        · have : i = R.length := by omega
          subst this
          rw [if_neg (by omega), if_pos rfl]
          show (k : Int) = _
          by_cases h00 : R.length = 0
          · rw [if_pos h00]; have := hk0' h00; omega
          · rw [if_neg h00, if_pos (by omega)]; exact (hlast (by omega)).symm
      · intro i hi
        have hi' : i < R.length + 1 := by simpa using hi
        rw [getD_snoc]
        by_cases hi2 : i < R.length
        · rw [if_pos hi2]; exact h.lt i hi2
        · rw [if_neg hi2, if_pos (by omega)]; show (k : Int) < (k : Int) + 1; omega
      · intro i hi h0
        have hi' : i < R.length + 1 := by simpa using hi
        rw [getD_snoc, getD_snoc]
        by_cases hi2 : i < R.length
        · rw [if_pos (by omega), if_pos hi2]; exact h.lb i hi2 h0
        · have : i = R.length := by omega
          subst this
          rw [if_pos (by omega), if_neg (by omega), if_pos rfl]
          exact hdiff (by omega)
      · intro i hi j hj1 hj2
        have hi' : i < R.length + 1 := by simpa using hi
        rw [getD_snoc] at hj1 hj2 ⊢
        by_cases hi2 : i < R.length
        · rw [if_pos hi2] at hj1 hj2 ⊢; exact h.all i hi2 j hj1 hj2
        · have hh : i = R.length := by omega
          rw [if_neg hi2, if_pos hh] at hj1 hj2 ⊢
          replace hj1 : (k : Int) ≤ (j : Int) := hj1
          replace hj2 : (j : Int) < (k : Int) + 1 := hj2
          have : j = k := by omega
          rw [this]
      · intro _
        rw [getD_snoc, List.length_append, if_neg (by simp), if_pos (by simp)]
        show (k : Int) + 1 = _
        omega
      · intro _; simp
end Go.Proofs.YtldblffhkokhlaaDoor
set_option linter.unusedVariables false
set_option linter.unusedSimpArgs false
namespace Go.Proofs.YtldblffhkokhlaaDoor
open Go.RowKit
/-- Does another byte belong to it? -/
def more (s : ByteArray) (m : Nat) : Prop := m < sizeB (s.get! 0).toNat ∧ m < s.size ∧ mayB (s.get! 0).toNat (s.get! m).toNat m = true
/-- How many bytes belong to what the first one begins, from m on. -/
def bgF (s : ByteArray) : Nat → Nat → Nat
  | 0, m => m
  | f + 1, m => if m < sizeB (s.get! 0).toNat ∧ m < s.size ∧ mayB (s.get! 0).toNat (s.get! m).toNat m = true then bgF s f (m + 1) else m
def begS (s : ByteArray) : Nat := bgF s 4 1
theorem sizeB_le (c : Nat) : sizeB c ≤ 4 := by unfold sizeB; repeat' split
                                               all_goals omega
theorem begS_B (s : ByteArray) : begS s = begB s.size (s.get! 0).toNat (s.get! 1).toNat (s.get! 2).toNat (s.get! 3).toNat := by
  have h4 : ¬ (4 < sizeB (s.get! 0).toNat ∧ 4 < s.size ∧ mayB (s.get! 0).toNat (s.get! 4).toNat 4 = true) := by have := sizeB_le (s.get! 0).toNat; omega
  unfold begS begB
  simp only [bgF]
  rw [if_neg h4]
theorem bgF_le (s : ByteArray) (hs : 0 < s.size) : ∀ f m, m ≤ s.size → bgF s f m ≤ s.size := by
  intro f
  induction f with
  | zero => intro m h; exact h
  | succ f ih =>
    intro m h
    rw [bgF]
    split
    · rename_i hm; exact ih (m + 1) hm.2.1
    · exact h
theorem begS_rng (s : ByteArray) (hs : 0 < s.size) : 1 ≤ begS s ∧ begS s ≤ 4 ∧ begS s ≤ s.size := by
  refine ⟨?_, ?_, bgF_le s hs 4 1 (by omega)⟩
  · rw [begS_B]; unfold begB; repeat' split
    all_goals omega
  · rw [begS_B]; unfold begB; repeat' split
    all_goals omega
set_option maxRecDepth 100000 in
set_option maxHeartbeats 4000000 in
theorem begins_ref (s : ByteArray) (w : World) (hs : 0 < s.size) (hs' : s.size ≤ 1000000) : Calls Tryd.prog 121 #[.string s] w fun e w' => e = .returned (.int .i64 (begS s : Int)) ∧ ∃ n, w' = w.drewN n := by
  go_enter Tryd.func121, Tryd.ntmps121
  go_wp2
  go_loopw [3] (fun n wr => ∃ (m f k : Nat), n = .int .i64 (m : Int) ∧ Hid (bgF s f m = begS s) ∧ m + f = 5 ∧ 1 ≤ m ∧ wr = w.drewN k) (fun n _ => 5 - (intOf n).toNat)
  case atStart => exact ⟨1, 4, 0, rfl, Lib.hid rfl, rfl, Nat.le_refl _, rfl⟩
  case round =>
    obtain ⟨m, f, k, rfl, hb, hf, hm, rfl⟩ := hrel
    have g0 := get_get s 0 hs
    have S0 := Lib.hid fun w => size_ref (s[0]) w
    have hsz := sizeB_le (s.get! 0).toNat
    rw [g0] at hsz
    have hbm : Hid (f = 0 → m = begS s) := Lib.hid fun h => by have := hb.out; rw [h] at this; exact this
    have hbs : Hid (∀ f', f = f' + 1 → (if m < sizeB (s.get! 0).toNat ∧ m < s.size ∧ mayB (s.get! 0).toNat (s.get! m).toNat m = true then bgF s f' (m + 1) else m) = begS s) := Lib.hid fun f' h => by have := hb.out; rw [h] at this; exact this
    rw [g0] at hbs
    clear g0
    have hs0 : (0 : Int) < (s.size : Int) := by omega
    generalize hz : sizeB (s[0]).toNat = z at *
    have Hz := Lib.hid hz; clear hz
    by_cases t1 : m < z
    · obtain ⟨f', rfl⟩ : ∃ f', f = f' + 1 := ⟨f - 1, by omega⟩
      have hB := Lib.hid (hbs.out f' rfl)
      clear hbs hbm hb
      by_cases t2 : m < s.size
      · have M0 := fun w => may_ref (s[0]) (s[m]) (m : Int) w
        have hB2 := hB.out
        rw [get_get s m t2] at hB2
        simp only [Int.toNat_natCast] at M0
        have t2i : (m : Int) < (s.size : Int) := by omega
        clear hB
        generalize hy : mayB (s[0]).toNat (s[m]).toNat m = y at *
        have Hy := Lib.hid hy; clear hy
        replace M0 := Lib.hid M0
        have t1i : (m : Int) < (z : Int) := by omega
        cases y
        · have hfin : Hid (m = begS s) := Lib.hid (by rw [← hB2, if_neg (by simp)])
          clear hB2
          go_wp2
          go_quiet (((first | (go_at_call 122; exact qsame (S0.out _)) | (go_at_call 139; exact qsame (M0.out _)))))
          go_wp2
          go_ret
          rw [← hfin.out]
          exact ⟨rfl, _, World.drewN_drewN _ _ _⟩
        · have hnext : Hid (bgF s f' (m + 1) = begS s) := Lib.hid (by rw [← hB2, if_pos ⟨t1, t2, rfl⟩])
          clear hB2
          go_wp2
          go_quiet (((first | (go_at_call 122; exact qsame (S0.out _)) | (go_at_call 139; exact qsame (M0.out _)))))
          go_wp2
          go_roundw
          case rel => exact ⟨m + 1, f', _, by go_num, hnext, by omega, by omega, rfl⟩
          case measure => simp [intOf]; omega
      · have hfin : Hid (m = begS s) := Lib.hid (by rw [← hB.out, if_neg (by omega)])
        have t2d : decide ((m : Int) < (s.size : Int)) = false := decide_eq_false (by omega)
        have t2e : decide (m < s.size) = false := decide_eq_false (by omega)
        have t1i : (m : Int) < (z : Int) := by omega
        clear hB
        go_wp2
        go_quiet ((go_at_call 122; exact qsame (S0.out _)))
        go_wp2
        go_ret
        rw [← hfin.out]
        exact ⟨rfl, _, World.drewN_drewN _ _ _⟩
    · have hfin : Hid (m = begS s) := Lib.hid (by
        rcases Nat.eq_zero_or_pos f with e | e
        · exact hbm.out e
        · have := hbs.out (f - 1) (by omega)
          rw [if_neg (by omega)] at this; exact this)
      have t1d : decide ((m : Int) < (z : Int)) = false := decide_eq_false (by omega)
      have t1e : decide (m < z) = false := decide_eq_false (by omega)
      clear hbm hbs hb
      go_wp2
      go_quiet ((go_at_call 122; exact qsame (S0.out _)))
      go_wp2
      go_ret
      rw [← hfin.out]
      exact ⟨rfl, _, World.drewN_drewN _ _ _⟩
end Go.Proofs.YtldblffhkokhlaaDoor
namespace Go.Proofs.YtldblffhkokhlaaDoor
open Go.RowKit
theorem inb_self (v x : Int) : inb v x x = true ↔ v = x := by
  unfold inb; simp; omega
theorem find_some_lt {p : Nat → Bool} {n j : Nat} (h : (List.range n).find? p = some j) : j < n ∧ p j = true := by
  have h1 := List.mem_of_find?_eq_some h
  exact ⟨by simpa using h1, List.find?_some h⟩
theorem look_keys : ∀ j : Fin 51, skelR (lks.getD (2 * j.val) 0) = skel (lks.getD (2 * j.val) 0) ∧ skel (lks.getD (2 * j.val) 0) ≠ lks.getD (2 * j.val) 0 := by decide +kernel
theorem look_keys2 : ∀ j : Fin 51, skelR (lSk.getD j.val 0) = skel (lSk.getD j.val 0) := by decide +kernel
/-- Both tables tell the same looks. -/
theorem skel_eq (v : Int) : skelR v = skel v := by
  cases h1 : (List.range 51).find? (hitL v) with
  | some j =>
    have ⟨hj, hp⟩ := find_some_lt h1
    have e : v = lks.getD (2 * j) 0 := (inb_self v _).1 hp
    rw [e]; exact (look_keys ⟨j, hj⟩).1
  | none =>
    cases h2 : (List.range 51).find? (hitS v) with
    | some j =>
      have ⟨hj, hp⟩ := find_some_lt h2
      have e : v = lSk.getD j 0 := by unfold hitS at hp; simpa using (beq_iff_eq.1 hp).symm
      rw [e]; exact look_keys2 ⟨j, hj⟩
    | none => unfold skelR skel; rw [h1, h2]
/-- Is it a look-alike? -/
def isL (v : Int) : Bool := (List.range 51).any (hitL v)
theorem isL_iff (v : Int) : isL v = true ↔ skel v ≠ v := by
  cases h1 : (List.range 51).find? (hitL v) with
  | some j =>
    have ⟨hj, hp⟩ := find_some_lt h1
    have e : v = lks.getD (2 * j) 0 := (inb_self v _).1 hp
    have hk := (look_keys ⟨j, hj⟩).2
    constructor
    · intro _; rw [e]; exact hk
    · intro _; unfold isL; rw [List.any_eq_true]; exact ⟨j, by simpa using hj, hp⟩
  | none =>
    have hn : skel v = v := by unfold skel; rw [h1]
    have : isL v = false := by
      unfold isL; rw [List.any_eq_false]
      rw [List.find?_eq_none] at h1; exact h1
    rw [this, hn]; simp
def toldP (v : Int) : Int := match (List.range 53).find? (hitR v) with | some j => rng.getD (3 * j) 0 | none => if isL v then 3 else 1
def oddP (v : Int) : Int := if wthn lSpace v then 10 else if wthn lZero v then 8 else if wthn lBidi v then 7 else if wthn lMark v then 9 else if wthn lOther v then 11 else 0
def clsP (v : Int) : Int := if 0 < oddP v then oddP v else if isL v then 3 else if wthn lWide v then 2 else 1
theorem told_toldP (v : Int) : told v = toldP v := by
  unfold told toldP
  cases (List.range 53).find? (hitR v) with
  | some j => rfl
  | none =>
    show (if skel v = v then (1 : Int) else 3) = if isL v then 3 else 1
    by_cases h : skel v = v
    · rw [if_pos h]
      have : isL v = false := by
        cases hl : isL v with
        | false => rfl
        | true => exact absurd h ((isL_iff v).1 hl)
      rw [this]; rfl
    · rw [if_neg h, (isL_iff v).2 h]; rfl
/-- Where a test may turn. -/
def brk : List Int := 160 :: ((List.range 53).flatMap fun j => [rng.getD (3 * j + 1) 0, rng.getD (3 * j + 2) 0 + 1]) ++ ((List.range 51).flatMap fun j => [lks.getD (2 * j) 0, lks.getD (2 * j) 0 + 1]) ++
  ([lSpace, lZero, lBidi, lMark, lOther, lWide].flatMap fun l => (List.range (l.length / 2)).flatMap fun j => [l.getD (2 * j) 0, l.getD (2 * j + 1) 0 + 1])
theorem floor_ex (v : Int) : ∀ B : List Int, (∃ b ∈ B, b ≤ v) → ∃ p ∈ B, p ≤ v ∧ ∀ b ∈ B, b ≤ v → b ≤ p := by
  intro B
  induction B with
  | nil => rintro ⟨b, hb, _⟩; cases hb
  | cons a B ih =>
    rintro ⟨b, hb, hv⟩
    by_cases hB : ∃ b ∈ B, b ≤ v
    · obtain ⟨p, hp, hpv, hmax⟩ := ih hB
      by_cases ha : a ≤ v ∧ p ≤ a
      · exact ⟨a, List.mem_cons_self .., ha.1, fun c hc hcv => by
          rcases List.mem_cons.1 hc with rfl | hc
          · exact Int.le_refl _
          · exact Int.le_trans (hmax c hc hcv) ha.2⟩
      · exact ⟨p, List.mem_cons_of_mem _ hp, hpv, fun c hc hcv => by
          rcases List.mem_cons.1 hc with rfl | hc
          · omega
          · exact hmax c hc hcv⟩
    · rcases List.mem_cons.1 hb with rfl | hb
      · exact ⟨b, List.mem_cons_self .., hv, fun c hc hcv => by
          rcases List.mem_cons.1 hc with rfl | hc
          · exact Int.le_refl _
          · exact absurd ⟨c, hc, hcv⟩ hB⟩
      · exact absurd ⟨b, hb, hv⟩ hB
theorem inb_floor {v p x y : Int} {B : List Int} (hp : p ≤ v) (hm : ∀ b ∈ B, b ≤ v → b ≤ p) (hx : x ∈ B) (hy : y + 1 ∈ B) : inb v x y = inb p x y := by
  have h1 := hm x hx; have h2 := hm (y + 1) hy
  unfold inb
  have e1 : decide (x ≤ v) = decide (x ≤ p) := by rw [Bool.eq_iff_iff]; simp; omega
  have e2 : decide (v ≤ y) = decide (p ≤ y) := by rw [Bool.eq_iff_iff]; simp; omega
  rw [e1, e2]
theorem brk_R : ∀ j : Fin 53, rng.getD (3 * j.val + 1) 0 ∈ brk ∧ rng.getD (3 * j.val + 2) 0 + 1 ∈ brk := by decide +kernel
theorem brk_L : ∀ j : Fin 51, lks.getD (2 * j.val) 0 ∈ brk ∧ lks.getD (2 * j.val) 0 + 1 ∈ brk := by decide +kernel
def brkW (l : List Int) : Bool := (List.range (l.length / 2)).all fun j => decide (l.getD (2 * j) 0 ∈ brk ∧ l.getD (2 * j + 1) 0 + 1 ∈ brk)
theorem brk_W : ∀ l ∈ [lSpace, lZero, lBidi, lMark, lOther, lWide], brkW l = true := by decide +kernel
theorem find_congr {p q : Nat → Bool} : ∀ {l : List Nat}, (∀ j ∈ l, p j = q j) → l.find? p = l.find? q
  | [], _ => rfl
  | a :: l, h => by
    rw [List.find?_cons, List.find?_cons, h a (List.mem_cons_self ..), find_congr fun j hj => h j (List.mem_cons_of_mem _ hj)]
theorem any_congr {p q : Nat → Bool} : ∀ {l : List Nat}, (∀ j ∈ l, p j = q j) → l.any p = l.any q
  | [], _ => rfl
  | a :: l, h => by
    rw [List.any_cons, List.any_cons, h a (List.mem_cons_self ..), any_congr fun j hj => h j (List.mem_cons_of_mem _ hj)]
theorem cls_points : ∀ p ∈ brk, 160 ≤ p → p ≤ 1114111 → toldP p = clsP p := by decide +kernel
theorem told_cls (v : Int) (h0 : 160 ≤ v) (h1 : v ≤ 1114111) : told v = clsP v := by
  obtain ⟨p, hpB, hpv, hm⟩ := floor_ex v brk ⟨160, by decide +kernel, h0⟩
  have hp0 : 160 ≤ p := hm 160 (by decide +kernel) h0
  have eR : ∀ j, j < 53 → hitR v j = hitR p j := fun j hj => inb_floor hpv hm (brk_R ⟨j, hj⟩).1 (brk_R ⟨j, hj⟩).2
  have eL : ∀ j, j < 51 → hitL v j = hitL p j := fun j hj => inb_floor hpv hm (brk_L ⟨j, hj⟩).1 (brk_L ⟨j, hj⟩).2
  have eW : ∀ l ∈ [lSpace, lZero, lBidi, lMark, lOther, lWide], wthn l v = wthn l p := fun l hl => by
    have hw := brk_W l hl
    unfold brkW at hw
    rw [List.all_eq_true] at hw
    unfold wthn
    exact any_congr fun j hj => by
      have := of_decide_eq_true (hw j hj)
      exact inb_floor hpv hm this.1 this.2
  have eI : isL v = isL p := any_congr fun j hj => eL j (by simpa using hj)
  have eT : toldP v = toldP p := by
    unfold toldP
    rw [find_congr (p := hitR v) (q := hitR p) fun j hj => eR j (by simpa using hj), eI]
  have eO : oddP v = oddP p := by
    unfold oddP
    rw [eW lSpace (by simp), eW lZero (by simp), eW lBidi (by simp), eW lMark (by simp), eW lOther (by simp)]
  have eC : clsP v = clsP p := by
    unfold clsP
    rw [eO, eI, eW lWide (by simp)]
  rw [told_toldP, eT, eC]
  exact cls_points p hpB hp0 (by omega)
theorem wthn_low {l : List Int} {v : Int} (hl : (List.range (l.length / 2)).all (fun j => decide (160 ≤ l.getD (2 * j) 0)) = true) (h : v < 160) : wthn l v = false := by
  refine wthn_no fun j hj => ?_
  rw [List.all_eq_true] at hl
  have := of_decide_eq_true (hl j (by simpa using hj))
  unfold hitW inb
  rw [decide_eq_false (by omega)]; rfl
theorem skelR_low {v : Int} (h : v < 160) : skelR v = v := by
  have hn : ∀ j, j < 51 → hitS v j = false := fun j hj => by
    have key : ∀ j : Fin 51, 160 ≤ lSk.getD j.val 0 := by decide +kernel
    have := key ⟨j, hj⟩
    unfold hitS
    rw [beq_eq_false_iff_ne]; intro h2; simp only at this; omega
  unfold skelR; rw [find_none hn]
theorem cls_small (v : Int) (h0 : 0 ≤ v) (h : v < 160) : cls v = clsR v := by
  have e : rght v = true := by
    rcases rght_cases v with h2 | h2
    · exact h2.1
    · omega
  have hR : clsR v = if 1114111 < v then 12 else if 0 < oddR v then oddR v else if skelR v ≠ v then 3 else if wthn lWide v then 2 else 1 := by unfold clsR; rw [e, if_neg (show ¬ (true = false) by decide)]
  have hL : cls v = if 1114112 ≤ v then 12 else if v < 32 then 4 else if v = 127 then 5 else if 128 ≤ v ∧ v < 160 then 6 else if v < 160 then 1 else told v := by unfold cls; rw [e, if_neg (show ¬ (true = false) by decide)]
  have w1 := wthn_low (l := lSpace) (by decide +kernel) h
  have w2 := wthn_low (l := lZero) (by decide +kernel) h
  have w3 := wthn_low (l := lBidi) (by decide +kernel) h
  have w4 := wthn_low (l := lMark) (by decide +kernel) h
  have w5 := wthn_low (l := lOther) (by decide +kernel) h
  have w6 := wthn_low (l := lWide) (by decide +kernel) h
  have ho : oddR v = if v ≤ 31 then 4 else if v = 127 then 5 else if 128 ≤ v ∧ v ≤ 159 then 6 else 0 := by unfold oddR; rw [w1, w2, w3, w4, w5]; simp only [Bool.false_eq_true, if_false]
  rw [hR, hL, ho, skelR_low h, w6, if_neg (show ¬ 1114112 ≤ v by omega), if_neg (show ¬ 1114111 < v by omega)]
  rcases (show v < 32 ∨ v = 127 ∨ (128 ≤ v ∧ v < 160) ∨ (32 ≤ v ∧ v < 127) by omega) with c | c | c | c
  · rw [if_pos c, if_pos (show v ≤ 31 by omega)]; simp
  · subst c; simp
  · rw [if_neg (show ¬ v < 32 by omega), if_neg (show ¬ v = 127 by omega), if_pos (show 128 ≤ v ∧ v < 160 by omega), if_neg (show ¬ v ≤ 31 by omega), if_neg (show ¬ v = 127 by omega), if_pos (show 128 ≤ v ∧ v ≤ 159 by omega)]; simp
  · rw [if_neg (show ¬ v < 32 by omega), if_neg (show ¬ v = 127 by omega), if_neg (show ¬ (128 ≤ v ∧ v < 160) by omega), if_pos h, if_neg (show ¬ v ≤ 31 by omega), if_neg (show ¬ v = 127 by omega), if_neg (show ¬ (128 ≤ v ∧ v ≤ 159) by omega)]; simp
/-- Both tell the same class of every value. -/
theorem cls_eq (v : Int) : cls v = clsR v := by
  rcases rght_cases v with ⟨e, h⟩ | ⟨e, h⟩
  · by_cases h1 : v < 160
    · exact cls_small v (by omega) h1
    · have hR : clsR v = if 1114111 < v then 12 else if 0 < oddR v then oddR v else if skelR v ≠ v then 3 else if wthn lWide v then 2 else 1 := by unfold clsR; rw [e, if_neg (show ¬ (true = false) by decide)]
      have hL : cls v = if 1114112 ≤ v then 12 else if v < 32 then 4 else if v = 127 then 5 else if 128 ≤ v ∧ v < 160 then 6 else if v < 160 then 1 else told v := by unfold cls; rw [e, if_neg (show ¬ (true = false) by decide)]
      by_cases h2 : 1114111 < v
      · rw [hR, hL, if_pos (by omega), if_pos h2]
      · have ho : oddR v = oddP v := by unfold oddR oddP; rw [if_neg (by omega), if_neg (by omega), if_neg (by omega)]
        rw [hR, hL, if_neg (by omega), if_neg (by omega), if_neg (by omega), if_neg (by omega), if_neg (by omega), told_cls v (by omega) (by omega), if_neg h2, ho, skel_eq]
        unfold clsP
        by_cases h3 : skel v = v
        · have : isL v = false := by
            cases hl : isL v with
            | false => rfl
            | true => exact absurd h3 ((isL_iff v).1 hl)
          rw [this, if_neg (show ¬ skel v ≠ v by simpa using h3), if_neg (show ¬ (false = true) by decide)]
        · rw [(isL_iff v).2 h3, if_pos (show skel v ≠ v from h3), if_pos rfl]
  · unfold cls clsR; rw [e, if_pos rfl, if_pos rfl]
theorem wid_eq (v : Int) : wid v = widR v := by unfold wid widR; rw [cls_eq]
end Go.Proofs.YtldblffhkokhlaaDoor
set_option linter.unusedVariables false
set_option linter.unusedSimpArgs false
namespace Go.Proofs.YtldblffhkokhlaaDoor
open Go.RowKit
theorem infoRun : (Tryd.prog.info? 87).map (fun i => (i.zero, i.size, i.bytes)) = some (some (.agg #[.int .i64 0, .int .i64 0, .int .i64 0]), 3, 24) := by kernel_rfl
/-- Runs' cells. -/
def rCells (R : List Rn) : List Value := R.flatMap fun p => [Value.int .i64 p.1, Value.int .i64 p.2.1, Value.int .i64 p.2.2]
theorem rCells_len (R : List Rn) : (rCells R).length = R.length * 3 := by
  unfold rCells; induction R with
  | nil => rfl
  | cons x R ih => simp only [List.flatMap_cons, List.length_append, List.length_cons, List.length_nil, ih]; omega
theorem rCells_at (R : List Rn) : ∀ i, i < R.length → (rCells R)[i * 3]? = some (.int .i64 (R.getD i (0, 0, 0)).1) ∧ (rCells R)[i * 3 + 1]? = some (.int .i64 (R.getD i (0, 0, 0)).2.1) ∧ (rCells R)[i * 3 + 2]? = some (.int .i64 (R.getD i (0, 0, 0)).2.2) := by
  induction R with
  | nil => intro i hi; simp at hi
  | cons x L ih =>
    intro i hi
    cases i with
    | zero => exact ⟨rfl, rfl, rfl⟩
    | succ i =>
      have h := ih i (by simpa using hi)
      rw [show (i + 1) * 3 = i * 3 + 1 + 1 + 1 by omega]
      exact h
theorem rCells_snoc (R : List Rn) (x : Rn) : rCells (R ++ [x]) = rCells R ++ [.int .i64 x.1, .int .i64 x.2.1, .int .i64 x.2.2] := by simp [rCells]
theorem rCells_set (R : List Rn) (k : Nat) (h : k < R.length) (y : Int) : (rCells R).set (k * 3 + 2) (.int .i64 y) = rCells (R.set k ((R.getD k (0, 0, 0)).1, (R.getD k (0, 0, 0)).2.1, y)) := by
  unfold rCells
  induction R generalizing k with
  | nil => simp at h
  | cons x L ih =>
    cases k with
    | zero => rfl
    | succ k =>
      have := ih k (by simpa using h)
      rw [show (k + 1) * 3 + 2 = k * 3 + 2 + 1 + 1 + 1 by omega]
      simp only [List.flatMap_cons, List.cons_append, List.nil_append, List.set_cons_succ]
      rw [this]; rfl
/-- A row of runs of the call's own. -/
def ownR (w : World) (B : Nat) (v : Value) (R : List Rn) : Prop := w.ownsRow B 87 3 v R.length (rCells R)
theorem rn_len (l : List (Int × Int)) (k : Nat) (h : k ≤ l.length) : (rnM l k).length ≤ k := (rn_ok l k h).len
theorem rnStep_set (R : List Rn) (u i : Int) : (R ++ [(u, i, 0)]).set (R.length + 1 - 1) (u, i, i + 1) = R ++ [(u, i, i + 1)] := by
  rw [Nat.add_sub_cancel, List.set_append_right _ _ (Nat.le_refl _), Nat.sub_self]; rfl
set_option maxRecDepth 100000 in
set_option maxHeartbeats 2000000 in
theorem runs_any (l : List (Int × Int)) (a : Option Addr) (c : Nat) (w : World) (hl : l.length ≤ 1000000) (hs : Signs w a l) :
    Calls Tryd.prog 41 #[.slice a l.length c] w fun e w' => ∃ v, e = .returned v ∧ ownR w' w.heap.size v (rnM l l.length) ∧ Below w.heap.size w w' := by
  obtain ⟨i0, hi, hz0, hz1, hz2⟩ := info_parts infoRun
  have HS := Lib.hid hs; clear hs
  go_enter Tryd.func41, Tryd.ntmps41
  go_wp2
  go_loopw [3, 8] (fun v iv wr => ∃ k : Nat, k ≤ l.length ∧ iv = .int .i64 (k : Int) ∧ ownR wr w.heap.size v (rnM l k) ∧ Below w.heap.size w wr) (fun _ iv _ => l.length - (intOf iv).toNat)
  case atStart => exact ⟨0, Nat.zero_le _, rfl, World.ownsRow_nil _ _ _ _, Below.refl _ _⟩
  case round =>
    obtain ⟨k, hk, rfl, hown, hb⟩ := hrel
    have hrl := rn_len l k hk
    by_cases hlt : k < l.length
    · obtain ⟨b, off, rfl, hblk, c1, c2⟩ := (HS.out.below hb) k hlt
      have hk1 : (k : Int) < l.length := by omega
      have hk0 : (0 : Int) ≤ k := by omega
      have hnew : rnNew l k = (decide (k = 0) || (l.getD k (0, 0)).2 != (l.getD (k - 1) (0, 0)).2) := rfl
      have hstep : rnM l (k + 1) = rnStep (rnM l k) (rnNew l k) (l.getD k (0, 0)).2 k := rfl
      have hpos := (rn_ok l k hk).pos
      have hprev : ∀ o, 0 < k → (wr.alloc o).cell? ⟨b, off + (k - 1) * 2 + 1, none⟩ = some (.int .i64 (l.getD (k - 1) (0, 0)).2) := fun o h0 => by
        obtain ⟨b', off', e', hblk', c1', c2'⟩ := (HS.out.below hb) (k - 1) (by omega)
        obtain ⟨rfl, rfl⟩ : b = b' ∧ off = off' := by simpa using e'
        exact (World.cell?_alloc_lt wr o (⟨b, off + (k - 1) * 2 + 1, none⟩ : Addr) hblk').trans c2'
      generalize (l.getD (k - 1) (0, 0)).2 = u0 at *
      obtain ⟨p1, u, hp⟩ : ∃ p1 p2, l.getD k (0, 0) = (p1, p2) := ⟨_, _, rfl⟩
      rw [hp] at c1 c2 hnew hstep
      clear hp
      generalize rnM l k = R at *
      have hsz := hb.size
      have hbo := hb.alloc hb.size
      cases hn : rnNew l k
      · rw [hn] at hnew hstep
        have hnew' := hnew.symm
        rw [Bool.or_eq_false_iff] at hnew'
        have hk00 : k ≠ 0 := by simpa using hnew'.1
        have hd0 : ((k : Int) == 0) = false := by rw [beq_eq_false_iff_ne]; omega
        have hd1 : (u != u0) = false := hnew'.2
        have hprev1 := fun o => hprev o (by omega)
        have hR := hpos (by omega)
        obtain ⟨g, cap, rfl⟩ := ownsRow_pos hown hR
        have hgl := hown.lt g rfl
        have hk2 : (0 : Int) ≤ (k : Int) - 1 := by omega
        have hk3 : (k : Int) - 1 < l.length := by omega
        have hr1 : (0 : Int) ≤ (R.length : Int) - 1 := by omega
        have hset := rCells_set R (R.length - 1) (by omega) ((k : Int) + 1)
        have Hst : Hid (R.set (R.length - 1) ((R.getD (R.length - 1) (0, 0, 0)).1, (R.getD (R.length - 1) (0, 0, 0)).2.1, (k : Int) + 1) = rnM l (k + 1)) := Lib.hid (by rw [hstep]; rfl)
        have hca := fun o => (hown.alloc o).cellAt ((R.length - 1) * 3 + 2) (by omega)
        rw [(rCells_at R (R.length - 1) (by omega)).2.2] at hca
        have hfa := fun o => (hown.alloc o).frozenAt ((R.length - 1) * 3 + 2)
        have hst := fun o n => ((show ((wr.alloc o).drewN n).ownsRow w.heap.size 87 3 (.slice (some ⟨g, 0, none⟩) R.length cap) R.length (rCells R) from hown.alloc o).stored ((R.length - 1) * 3 + 2) (.int .i64 ((k : Int) + 1))).1
        rw [hset] at hst
        have Hst2 := Lib.hid hst
        have Hown := Lib.hid hown
        generalize (R.getD (R.length - 1) (0, 0, 0)).2.2 = y0 at *
        clear hnew hnew' hstep hprev hset hst hown hn hk00 hpos
        go_wp2
        go_quiet (fail)
        go_wp2
        go_roundw
        case rel => exact ⟨k + 1, by omega, by go_num, by rw [← Hst.out]; unfold ownR; rw [List.length_set]; exact Hst2.out _ _, (drewN_below (hbo _) _).setCell hgl.1 _⟩
        case measure => simp [intOf]; omega
      · rw [hn] at hnew hstep
        have Hst : Hid (R ++ [(u, (k : Int), (k : Int) + 1)] = rnM l (k + 1)) := Lib.hid (by rw [hstep]; rfl)
        have hor : k = 0 ∨ (0 < k ∧ ((k : Int) == 0) = false ∧ (u != u0) = true) := by
          rcases Nat.eq_zero_or_pos k with h | h
          · exact Or.inl h
          · refine Or.inr ⟨h, by rw [beq_eq_false_iff_ne]; omega, ?_⟩
            have h2 := hnew.symm
            rw [Bool.or_eq_true] at h2
            rcases h2 with h2 | h2
            · have := of_decide_eq_true h2; omega
            · exact h2
        have Hown := Lib.hid hown
        clear hnew hstep hn hpos hown
        rcases hor with h0 | ⟨hkp, hd0, hd1⟩
        · clear hprev
          subst h0
          replace c1 : wr.cell? ⟨b, off, none⟩ = some (.int .i64 p1) := by simpa using c1
          replace c2 : wr.cell? ⟨b, off + 1, none⟩ = some (.int .i64 u) := by simpa using c2
          go_wp2
          go_quiet (fail)
          go_wp2_with (at_builtin; refine wpList_append_own _ rfl _ _ 84 rfl w.heap.size 87 i0 _ 3 24 Tryd.underlying84 hi hz0 hz1 hz2 rfl (by decide) _ _ _ rfl (show (((wr.alloc (.cells #[.int .i64 p1, .int .i64 u] 77)).drewN nq).alloc _).ownsRow _ _ _ _ _ _ from (show ((wr.alloc (.cells #[.int .i64 p1, .int .i64 u] 77)).drewN nq).ownsRow _ _ _ _ _ _ from Hown.out.alloc _).alloc _) ⟨wr.heap.size + 1, 0, none⟩ 1 1 [.int .i64 u, .int .i64 0, .int .i64 0] rfl rfl ?c1 ?c2 ?c3 ?c4 ?c5 ?_)
          case c1 =>
            intro j x hj
            exact app_cells (w := (wr.alloc (.cells #[.int .i64 p1, .int .i64 u] 77)).drewN nq) (by simp) hj
          case c2 => intro x hx; simp at hx; rcases hx with rfl | rfl | rfl <;> rfl
          case c3 => unfold maxLen; omega
          case c4 => omega
          case c5 => simp; omega
          intro v' w3 hown3 hgrow3 hiff
          have hR1 : 0 < R.length + 1 := by omega
          obtain ⟨g, cap, rfl⟩ := ownsRow_pos hown3 hR1
          have hg3 := hown3.lt g rfl
          have hb3 : Below w.heap.size w w3 := (((drewN_below (hbo (.cells #[.int .i64 p1, .int .i64 u] 77)) nq).alloc (by simp; omega) _).grown hgrow3 (by simp; omega) (fun k hk => (Hown.out.lt k hk).1))
          have hcs : rCells R ++ [.int .i64 u, .int .i64 0, .int .i64 0] = rCells (R ++ [(u, 0, 0)]) := (rCells_snoc R (u, 0, 0)).symm
          rw [hcs] at hown3
          have hca := hown3.cellAt ((R.length + 1 - 1) * 3 + 2) (by omega)
          rw [(rCells_at (R ++ [(u, 0, 0)]) (R.length + 1 - 1) (by simp)).2.2] at hca
          have hfa := hown3.frozenAt ((R.length + 1 - 1) * 3 + 2)
          have hst := (hown3.stored ((R.length + 1 - 1) * 3 + 2) (.int .i64 (0 + 1))).1
          rw [rCells_set (R ++ [(u, 0, 0)]) (R.length + 1 - 1) (by simp) (0 + 1)] at hst
          have hgd : (R ++ [(u, 0, 0)]).getD (R.length + 1 - 1) (0, 0, 0) = (u, 0, 0) := by rw [getD_snoc, if_neg (by omega), if_pos (by omega)]
          rw [hgd] at hst hca
          rw [rnStep_set] at hst
          simp only [Nat.add_sub_cancel] at hst hca hfa
          have Hst2 := Lib.hid hst
          have hr1 : (0 : Int) ≤ (R.length : Int) + 1 - 1 := by omega
          clear hst hgd hcs hgrow3 hiff hown3 
          go_wp2
          go_roundw
          case rel => exact ⟨1, by omega, rfl, by rw [← Hst.out]; unfold ownR; rw [List.length_append]; exact Hst2.out, hb3.setCell hg3.1 _⟩
          case measure => simp [intOf]; omega
        · have hprev1 := fun o => hprev o hkp
          have hk2 : (0 : Int) ≤ (k : Int) - 1 := by omega
          have hk3 : (k : Int) - 1 < l.length := by omega
          clear hprev
          go_wp2
          go_quiet (fail)
          go_wp2_with (at_builtin; refine wpList_append_own _ rfl _ _ 84 rfl w.heap.size 87 i0 _ 3 24 Tryd.underlying84 hi hz0 hz1 hz2 rfl (by decide) _ _ _ rfl (show (((wr.alloc (.cells #[.int .i64 p1, .int .i64 u] 77)).drewN nq).alloc _).ownsRow _ _ _ _ _ _ from (show ((wr.alloc (.cells #[.int .i64 p1, .int .i64 u] 77)).drewN nq).ownsRow _ _ _ _ _ _ from Hown.out.alloc _).alloc _) ⟨wr.heap.size + 1, 0, none⟩ 1 1 [.int .i64 u, .int .i64 (k : Int), .int .i64 0] rfl rfl ?c1 ?c2 ?c3 ?c4 ?c5 ?_)
          case c1 =>
            intro j x hj
            exact app_cells (w := (wr.alloc (.cells #[.int .i64 p1, .int .i64 u] 77)).drewN nq) (by simp) hj
          case c2 => intro x hx; simp at hx; rcases hx with rfl | rfl | rfl <;> rfl
          case c3 => unfold maxLen; omega
          case c4 => omega
          case c5 => simp; omega
          intro v' w3 hown3 hgrow3 hiff
          have hR1 : 0 < R.length + 1 := by omega
          obtain ⟨g, cap, rfl⟩ := ownsRow_pos hown3 hR1
          have hg3 := hown3.lt g rfl
          have hb3 : Below w.heap.size w w3 := (((drewN_below (hbo (.cells #[.int .i64 p1, .int .i64 u] 77)) nq).alloc (by simp; omega) _).grown hgrow3 (by simp; omega) (fun k hk => (Hown.out.lt k hk).1))
          have hcs : rCells R ++ [.int .i64 u, .int .i64 (k : Int), .int .i64 0] = rCells (R ++ [(u, (k : Int), 0)]) := (rCells_snoc R (u, (k : Int), 0)).symm
          rw [hcs] at hown3
          have hca := hown3.cellAt ((R.length + 1 - 1) * 3 + 2) (by omega)
          rw [(rCells_at (R ++ [(u, (k : Int), 0)]) (R.length + 1 - 1) (by simp)).2.2] at hca
          have hfa := hown3.frozenAt ((R.length + 1 - 1) * 3 + 2)
          have hst := (hown3.stored ((R.length + 1 - 1) * 3 + 2) (.int .i64 ((k : Int) + 1))).1
          rw [rCells_set (R ++ [(u, (k : Int), 0)]) (R.length + 1 - 1) (by simp) ((k : Int) + 1)] at hst
          have hgd : (R ++ [(u, (k : Int), 0)]).getD (R.length + 1 - 1) (0, 0, 0) = (u, (k : Int), 0) := by rw [getD_snoc, if_neg (by omega), if_pos (by omega)]
          rw [hgd] at hst hca
          rw [rnStep_set] at hst
          simp only [Nat.add_sub_cancel] at hst hca hfa
          have Hst2 := Lib.hid hst
          have hr1 : (0 : Int) ≤ (R.length : Int) + 1 - 1 := by omega
          clear hst hgd hcs hgrow3 hiff hown3 
          go_wp2
          go_roundw
          case rel => exact ⟨k + 1, by omega, by go_num, by rw [← Hst.out]; unfold ownR; rw [List.length_append]; exact Hst2.out, hb3.setCell hg3.1 _⟩
          case measure => simp [intOf]; omega
    · obtain rfl : k = l.length := by omega
      go_wp2
      go_ret
      exact ⟨_, rfl, hown, hb⟩
end Go.Proofs.YtldblffhkokhlaaDoor
namespace Go.Proofs.YtldblffhkokhlaaDoor
open Go.RowKit
theorem get0 (s : ByteArray) (i : Nat) : (s.get! i).toNat < 256 := (s.get! i).toNat_lt
theorem vAt_one (s : ByteArray) (hs : 0 < s.size) : vAt s 0 = oneB s.size (s.get! 0).toNat (s.get! 1).toNat (s.get! 2).toNat (s.get! 3).toNat := by
  rw [vAt_val, one_val _ _ _ _ _ (by omega) (get0 _ _) (get0 _ _) (get0 _ _) (get0 _ _)]; simp
theorem beg_m1 {n b0 b1 b2 b3 : Nat} (h : 2 ≤ begB n b0 b1 b2 b3) : 128 ≤ b1 := by
  unfold begB at h
  split at h
  · rename_i h1; exact ((mayB_iff _ _ _).1 h1.2.2).1.1
  · omega
theorem beg_m2 {n b0 b1 b2 b3 : Nat} (h : 3 ≤ begB n b0 b1 b2 b3) : 128 ≤ b2 := by
  unfold begB at h
  split at h
  · split at h
    · rename_i h1; exact ((mayB_iff _ _ _).1 h1.2.2).1.1
    · omega
  · omega
theorem beg_m3 {n b0 b1 b2 b3 : Nat} (h : 4 ≤ begB n b0 b1 b2 b3) : 128 ≤ b3 := by
  unfold begB at h
  split at h
  · split at h
    · split at h
      · rename_i h1; exact ((mayB_iff _ _ _).1 h1.2.2).1.1
      · omega
    · omega
  · omega
theorem wv2 (a b : Nat) (h0 : 194 ≤ a) (h1 : a ≤ 223) (h2 : 128 ≤ b) (h3 : b < 256) :
    wrap64 (wrap64 (wrap64 (wrap64 (wrap64 (a : Int) - 192) * 64) + wrap64 (b : Int)) - 128) = (((a - 192) * 64 + b - 128 : Nat) : Int) := by
  simp (disch := omega) only [IntWalk.wrap64_in]; omega
theorem wv3 (a b c : Nat) (h0 : 224 ≤ a) (h1 : a ≤ 239) (h2 : 128 ≤ b) (h3 : b < 256) (h4 : 128 ≤ c) (h5 : c < 256) :
    wrap64 (wrap64 (wrap64 (wrap64 (wrap64 (wrap64 (wrap64 (wrap64 (a : Int) - 224) * 64) + wrap64 (b : Int)) - 128) * 64) + wrap64 (c : Int)) - 128) = ((((a - 224) * 64 + b - 128) * 64 + c - 128 : Nat) : Int) := by
  simp (disch := omega) only [IntWalk.wrap64_in]; omega
theorem wv4 (a b c d : Nat) (h0 : 240 ≤ a) (h1 : a ≤ 244) (h2 : 128 ≤ b) (h3 : b < 256) (h4 : 128 ≤ c) (h5 : c < 256) (h6 : 128 ≤ d) (h7 : d < 256) :
    wrap64 (wrap64 (wrap64 (wrap64 (wrap64 (wrap64 (wrap64 (wrap64 (wrap64 (wrap64 (wrap64 (a : Int) - 240) * 64) + wrap64 (b : Int)) - 128) * 64) + wrap64 (c : Int)) - 128) * 64) + wrap64 (d : Int)) - 128) = (((((a - 240) * 64 + b - 128) * 64 + c - 128) * 64 + d - 128 : Nat) : Int) := by
  simp (disch := omega) only [IntWalk.wrap64_in]; omega
set_option maxRecDepth 100000 in
set_option maxHeartbeats 4000000 in
theorem one_ref (s : ByteArray) (w : World) (hs : 0 < s.size) (hs' : s.size ≤ 1000000) : Calls Tryd.prog 92 #[.string s] w fun e w' => e = .returned (.tuple #[.int .i64 ((vAt s 0).1 : Int), .int .i64 ((vAt s 0).2 : Int)]) ∧ ∃ n, w' = w.drewN n := by
  have Bg := Lib.hid fun w => begins_ref s w hs hs'
  have S0 := fun w => size_ref (s[0]) w
  have hv := vAt_one s hs
  have hb := begS_B s
  have hr := begS_rng s hs
  rw [get_get s 0 hs] at hv hb
  have hlt := (s[0]).toNat_lt
  have h0 := sizeB_cases (s[0]).toNat (by omega)
  generalize hz : sizeB (s[0]).toNat = z at *
  generalize hm : begS s = m at *
  have Hm := Lib.hid hm
  by_cases hne : m = z
  · subst hne
    have hmm : ((m : Int) != (m : Int)) = false := by simp
    have hz' : sizeB (s[0]).toNat = m := hz
    have hm4 : m = 1 ∨ m = 2 ∨ m = 3 ∨ m = 4 := by omega
    rcases hm4 with rfl | rfl | rfl | rfl
    · have Hv : Hid (vAt s 0 = ((s[0]).toNat, 1)) := Lib.hid (by rw [hv]; exact one_1 hb.symm hz')
      have hw : wrap64 (((s[0]).toNat : Nat) : Int) = (((s[0]).toNat : Nat) : Int) := by unfold wrap64; omega
      have Hw := Lib.hid hw
      replace S0 := Lib.hid S0
      clear hv hb hw hz hz' hm h0 hlt
      go_enter Tryd.func92, Tryd.ntmps92
      go_wp2_with (first | (go_at_call 121; refine (Bg.out _).mono ?_; rintro e w1 ⟨rfl, n, rfl⟩) | (go_at_call 122; refine (S0.out _).mono ?_; rintro e w1 ⟨rfl, rfl⟩))
      refine wp_loop_rounds 1 ?_
      rw [rounds_succ]
      go_wp2
      go_ret2
      rw [Hv.out]
      exact ⟨ret_ii Hw.out rfl, _, rfl⟩
    · rw [get_get s 1 (by omega)] at hv hb
      have k1 := beg_m1 (n := s.size) (b0 := (s[0]).toNat) (b1 := _) (b2 := _) (b3 := _) (by rw [← hb]; omega)
      have l1 := (s[1]'(by omega)).toNat_lt
      have hv2 := hv.trans (one_2 hb.symm hz')
      have hw := wv2 (s[0]'(by omega)).toNat (s[1]'(by omega)).toNat (by omega) (by omega) (by omega) (by omega)
      have Hv := Lib.hid hv2; have Hw := Lib.hid hw
      have hs4 : 2 ≤ s.size := by omega
      replace S0 := Lib.hid S0
      clear hv hb hw hz hz' hm h0 hlt hv2 k1 l1
      go_enter Tryd.func92, Tryd.ntmps92
      go_wp2_with (first | (go_at_call 121; refine (Bg.out _).mono ?_; rintro e w1 ⟨rfl, n, rfl⟩) | (go_at_call 122; refine (S0.out _).mono ?_; rintro e w1 ⟨rfl, rfl⟩))
      refine wp_loop_rounds 2 ?_
      rw [rounds_succ]
      go_wp2
      rw [rounds_succ]
      go_wp2
      go_ret2
      rw [Hv.out]
      exact ⟨ret_ii Hw.out rfl, _, rfl⟩
    · rw [get_get s 1 (by omega)] at hv hb
      rw [get_get s 2 (by omega)] at hv hb
      have k1 := beg_m1 (n := s.size) (b0 := (s[0]).toNat) (b1 := _) (b2 := _) (b3 := _) (by rw [← hb]; omega)
      have l1 := (s[1]'(by omega)).toNat_lt
      have k2 := beg_m2 (n := s.size) (b0 := (s[0]).toNat) (b1 := _) (b2 := _) (b3 := _) (by rw [← hb]; omega)
      have l2 := (s[2]'(by omega)).toNat_lt
      have hv2 := hv.trans (one_3 hb.symm hz')
      have hw := wv3 (s[0]'(by omega)).toNat (s[1]'(by omega)).toNat (s[2]'(by omega)).toNat (by omega) (by omega) (by omega) (by omega) (by omega) (by omega)
      have Hv := Lib.hid hv2; have Hw := Lib.hid hw
      have hs4 : 3 ≤ s.size := by omega
      replace S0 := Lib.hid S0
      clear hv hb hw hz hz' hm h0 hlt hv2 k1 l1 k2 l2
      go_enter Tryd.func92, Tryd.ntmps92
      go_wp2_with (first | (go_at_call 121; refine (Bg.out _).mono ?_; rintro e w1 ⟨rfl, n, rfl⟩) | (go_at_call 122; refine (S0.out _).mono ?_; rintro e w1 ⟨rfl, rfl⟩))
      refine wp_loop_rounds 3 ?_
      rw [rounds_succ]
      go_wp2
      rw [rounds_succ]
      go_wp2
      rw [rounds_succ]
      go_wp2
      go_ret2
      rw [Hv.out]
      exact ⟨ret_ii Hw.out rfl, _, rfl⟩
    · rw [get_get s 1 (by omega)] at hv hb
      rw [get_get s 2 (by omega)] at hv hb
      rw [get_get s 3 (by omega)] at hv hb
      have k1 := beg_m1 (n := s.size) (b0 := (s[0]).toNat) (b1 := _) (b2 := _) (b3 := _) (by rw [← hb]; omega)
      have l1 := (s[1]'(by omega)).toNat_lt
      have k2 := beg_m2 (n := s.size) (b0 := (s[0]).toNat) (b1 := _) (b2 := _) (b3 := _) (by rw [← hb]; omega)
      have l2 := (s[2]'(by omega)).toNat_lt
      have k3 := beg_m3 (n := s.size) (b0 := (s[0]).toNat) (b1 := _) (b2 := _) (b3 := _) (by rw [← hb]; omega)
      have l3 := (s[3]'(by omega)).toNat_lt
      have hv2 := hv.trans (one_4 hb.symm hz')
      have hw := wv4 (s[0]'(by omega)).toNat (s[1]'(by omega)).toNat (s[2]'(by omega)).toNat (s[3]'(by omega)).toNat (by omega) (by omega) (by omega) (by omega) (by omega) (by omega) (by omega) (by omega)
      have Hv := Lib.hid hv2; have Hw := Lib.hid hw
      have hs4 : 4 ≤ s.size := by omega
      replace S0 := Lib.hid S0
      clear hv hb hw hz hz' hm h0 hlt hv2 k1 l1 k2 l2 k3 l3
      go_enter Tryd.func92, Tryd.ntmps92
      go_wp2_with (first | (go_at_call 121; refine (Bg.out _).mono ?_; rintro e w1 ⟨rfl, n, rfl⟩) | (go_at_call 122; refine (S0.out _).mono ?_; rintro e w1 ⟨rfl, rfl⟩))
      refine wp_loop_rounds 4 ?_
      rw [rounds_succ]
      go_wp2
      rw [rounds_succ]
      go_wp2
      rw [rounds_succ]
      go_wp2
      rw [rounds_succ]
      go_wp2
      go_ret2
      rw [Hv.out]
      exact ⟨ret_ii Hw.out rfl, _, rfl⟩
  · have hne2 : ((m : Int) != (z : Int)) = true := by rw [bne_iff_ne]; omega
    have Hv : Hid (vAt s 0 = (1114112 + (s[0]).toNat, 1)) := Lib.hid (by rw [hv]; unfold oneB; rw [if_pos (by rw [← hb, hz]; exact hne)])
    have hw : wrap64 (1114112 + wrap64 (((s[0]).toNat : Nat) : Int)) = ((1114112 + (s[0]).toNat : Nat) : Int) := by unfold wrap64; omega
    have Hw := Lib.hid hw
    replace S0 := Lib.hid S0
    clear hv hb hw hz hm h0 hlt hne
    go_enter Tryd.func92, Tryd.ntmps92
    go_wp2_with (first | (go_at_call 121; refine (Bg.out _).mono ?_; rintro e w1 ⟨rfl, n, rfl⟩) | (go_at_call 122; refine (S0.out _).mono ?_; rintro e w1 ⟨rfl, rfl⟩))
    go_ret2
    rw [Hv.out]
    exact ⟨ret_ii Hw.out rfl, _, rfl⟩
end Go.Proofs.YtldblffhkokhlaaDoor
namespace Go.Proofs.YtldblffhkokhlaaDoor
open Go.RowKit
theorem ext_size (s : ByteArray) (n : Nat) : (s.extract n s.size).size = s.size - n := by simp
theorem ext_get (s : ByteArray) (n j : Nat) (h : n + j < s.size) : (s.extract n s.size).get! j = s.get! (n + j) := by
  rw [get_get _ j (by rw [ext_size]; omega), get_get _ (n + j) h]
  simp [ByteArray.getElem_extract]
theorem vAt_tail (s : ByteArray) (n j : Nat) (h : n + j < s.size) : vAt (s.extract n s.size) j = vAt s (n + j) := by
  unfold vAt; rw [Lib.tail_decode, ext_get s n j h]
theorem valsF_tail (s : ByteArray) (n : Nat) : ∀ f j, valsF (s.extract n s.size) f j = valsF s f (n + j) := by
  intro f
  induction f with
  | zero => intro j; rfl
  | succ f ih =>
    intro j
    by_cases h : n + j < s.size
    · rw [valsF_step _ f j (by rw [ext_size]; omega), valsF_step s f (n + j) h, vAt_tail s n j h, Lib.tail_decode, ih, Nat.add_assoc]
    · rw [valsF_end _ _ _ (by rw [ext_size]; omega), valsF_end _ _ _ h]
theorem valsF_fuel (s : ByteArray) : ∀ f f' i, s.size ≤ i + f → s.size ≤ i + f' → valsF s f i = valsF s f' i := by
  intro f
  induction f with
  | zero => intro f' i h h'; rw [valsF_end s 0 i (by omega), valsF_end s f' i (by omega)]
  | succ f ih =>
    intro f' i h h'
    by_cases hi : i < s.size
    · obtain ⟨g, rfl⟩ : ∃ g, f' = g + 1 := ⟨f' - 1, by omega⟩
      have := (dec_pos s i hi).1
      rw [valsF_step s f i hi, valsF_step s g i hi, ih g _ (by omega) (by omega)]
    · rw [valsF_end _ _ _ hi, valsF_end _ _ _ hi]
theorem valsS_cons (s : ByteArray) (h : 0 < s.size) : valsS s = ((vAt s 0).1 : Int) :: valsS (s.extract (vAt s 0).2 s.size) := by
  have hp := dec_pos s 0 h
  obtain ⟨f, hf⟩ : ∃ f, s.size = f + 1 := ⟨s.size - 1, by omega⟩
  unfold valsS
  rw [vAt_size s 0 h, valsF_tail, Nat.add_zero]
  have e : valsF s s.size 0 = valsF s (f + 1) 0 := by rw [hf]
  rw [e, valsF_step s f 0 h, Nat.zero_add]
  rw [valsF_fuel s f (s.extract (Utf8.decode s 0).2 s.size).size _ (by omega) (by rw [ext_size]; omega)]
theorem valsS_nil (s : ByteArray) (h : ¬ 0 < s.size) : valsS s = [] := by unfold valsS; exact valsF_end s _ 0 h
theorem valsS_len (s : ByteArray) : (valsS s).length ≤ s.size := by
  rcases valsF_len s s.size 0 with h | h
  · exact h
  · unfold valsS; rw [h]; simp
def strSize : Value → Nat
  | .string t => t.size
  | _ => 0
structure DrInv (s : ByteArray) (w : World) (t : ByteArray) (acc : List Int) (v : Value) (wr : World) : Prop where
  sz : t.size + acc.length ≤ s.size
  own : wr.ownsRow w.heap.size 3 1 v acc.length (acc.map (Value.int .i64))
  ac : acc ++ valsS t = valsS s
  bl : Below w.heap.size w wr
theorem cut_nat (t : ByteArray) (n : Nat) : t.extract (n : Int).toNat t.size = t.extract n t.size := rfl
theorem cell_k (w : World) (k : Nat) (x : Int) : ((w.drewN k).alloc (Obj.cells #[Value.int IntKind.i64 x] 3)).cell? ({ block := w.heap.size, off := 0 } : Addr) = some (Value.int .i64 x) := cell_new (w.drewN k) _ _
end Go.Proofs.YtldblffhkokhlaaDoor
