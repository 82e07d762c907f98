import Derived.Test.YtecffaidpiadoaaDoorSg1
set_option linter.unusedVariables false
set_option linter.unusedSimpArgs false
namespace Go.Proofs.YtecffaidpiadoaaDoor
open Go.RowKit
/-- A make of elements of several cells. -/
theorem make_rowN {P : Program} (t e : TypeId) (i : TypeInfo) (z : Value) (ht : P.underlying t = some (.slice e)) (hi : P.info? e = some i) (hz : i.zero = some z)
    (n : Nat) (hb : i.bytes * n ≤ 281474976710656) (h63 : n ≤ 9223372036854775807) (w : World) :
    (Instr.makeSlice t (.int .i64 (n : Int)) (.int .i64 (n : Int))).run P w = .ok (.slice (some ⟨w.heap.size, 0, none⟩) n n) (w.alloc (.cells (madeCells z.cells (n * i.size)) e)) := by
  have h := run_make (P := P) w t e i z ht hi hz .i64 .i64 (n : Int) (n : Int) (by omega) (by omega) (by
    have : ((i.bytes * n : Nat) : Int) ≤ 281474976710656 := by omega
    rwa [Int.natCast_mul] at this) (by omega)
  simpa only [Int.toNat_natCast] using h
theorem infoSign : (Tryd.prog.info? 44).map (fun i => (i.zero, i.size, i.bytes)) = some (some (.agg #[.int .i64 0, .int .i64 0]), 2, 16) := by kernel_rfl
theorem made_signs (n : Nat) : madeCells #[.int .i64 0, .int .i64 0] (n * 2) = sRow (List.replicate n (0, 0)) := by
  apply Array.ext
  · simp [madeCells, sRow, List.length_flatMap]
  · intro i h1 h2
    simp only [madeCells, Array.getElem_map, Array.getElem_range]
    have hi : i < n * 2 := by simpa [madeCells] using h1
    have hlt : i / 2 < (List.replicate n ((0 : Int), (0 : Int))).length := by simp; omega
    have h := sRow_at (List.replicate n ((0 : Int), (0 : Int))) (i / 2) hlt
    have hz : (List.replicate n ((0 : Int), (0 : Int))).getD (i / 2) (0, 0) = (0, 0) := by
      rw [List.getD, List.getElem?_replicate]; split <;> rfl
    rw [hz] at h
    have e : (sRow (List.replicate n ((0 : Int), (0 : Int))))[i]? = some (.int .i64 0) := by
      rw [sRow, List.getElem?_toArray]
      rcases Nat.mod_two_eq_zero_or_one i with hm | hm
      · have : i / 2 * 2 = i := by omega
        rw [this] at h; exact h.1
      · have : i / 2 * 2 + 1 = i := by omega
        rw [this] at h; exact h.2
    have e2 := Array.getElem?_eq_getElem h2
    rw [e] at e2
    injection e2 with e2
    rw [← e2]
    rcases Nat.mod_two_eq_zero_or_one i with hm | hm <;> simp [hm]
theorem sRow_set (L : List (Int × Int)) (k : Nat) (p : Int × Int) (h : k < L.length) : ((sRow L).setIfInBounds (k * 2) (.int .i64 p.1)).setIfInBounds (k * 2 + 1) (.int .i64 p.2) = sRow (L.set k p) := by
  apply Array.ext'
  simp only [sRow, Array.toList_setIfInBounds]
  induction L generalizing k with
  | nil => simp at h
  | cons x L ih =>
    cases k with
    | zero => rfl
    | succ k =>
      have := ih k (by simpa using h)
      rw [show (k + 1) * 2 = k * 2 + 1 + 1 by omega]
      simp only [List.flatMap_cons, List.cons_append, List.nil_append, List.set_cons_succ, this]
theorem sg_cells {w : World} {g k : Nat} {L : List (Int × Int)} {t : TypeId} {f : Nat × Nat} (h : w.heap[g]? = some (.cells (sRow L) t f)) (hk : k < L.length) :
    w.cell? ⟨g, k * 2, none⟩ = some (.int .i64 (L.getD k (0, 0)).1) ∧ w.cell? ⟨g, k * 2 + 1, none⟩ = some (.int .i64 (L.getD k (0, 0)).2) := by
  have hh := sRow_at L k hk
  rw [cell_of_row _ _ _ _ _ _ h, cell_of_row _ _ _ _ _ _ h, sRow, List.getElem?_toArray, List.getElem?_toArray]
  exact hh
/-- What With has made after k rounds. -/
def wthL (l : List (Int × Int)) (u : Int) (k : Nat) : List (Int × Int) := (l.take k).map (fun p => (p.1, u)) ++ List.replicate (l.length - k) (0, 0)
theorem wthL_len (l : List (Int × Int)) (u : Int) (k : Nat) (h : k ≤ l.length) : (wthL l u k).length = l.length := by simp [wthL]; omega
theorem put_snoc {α β : Type} (l : List α) (f : α → β) (z : β) (d : α) (k : Nat) (h : k < l.length) :
    ((l.take k).map f ++ List.replicate (l.length - k) z).set k (f (l.getD k d)) = (l.take (k + 1)).map f ++ List.replicate (l.length - (k + 1)) z := by
  have hl : ((l.take k).map f).length = k := by simp; omega
  rw [List.set_append_right _ _ (by omega), hl, Nat.sub_self, List.take_succ_eq_append_getElem h, List.map_append, List.append_assoc]
  congr 1
  obtain ⟨m, hm⟩ : ∃ m, l.length - k = m + 1 := ⟨l.length - k - 1, by omega⟩
  have hm2 : l.length - (k + 1) = m := by omega
  rw [hm, hm2, List.replicate_succ, List.set_cons_zero, List.getD, List.getElem?_eq_getElem h]; rfl
set_option maxRecDepth 100000 in
set_option maxHeartbeats 1000000 in
theorem with_any (l : List (Int × Int)) (a : Option Addr) (c : Nat) (u : Int) (w : World) (hl : l.length ≤ 1000000) (hs : Signs w a l) :
    Calls Tryd.prog 59 #[.slice a l.length c, .int .i64 u] w fun e w' => e = .returned (.slice (some ⟨w.heap.size, 0, none⟩) l.length l.length) ∧ w'.heap[w.heap.size]? = some (.cells (sRow (l.map fun p => (p.1, u))) 44 (0, 0)) ∧ Below w.heap.size w w' := by
  obtain ⟨i0, hi, hz0, hz1, hz2⟩ := info_parts infoSign
  have HS := Lib.hid hs; clear hs
  have hmk := make_rowN (P := Tryd.prog) 38 44 i0 _ Tryd.underlying38 hi hz0 l.length (by rw [hz2]; omega) (by omega)
  rw [hz1] at hmk
  have hmade : madeCells (Value.agg #[.int .i64 0, .int .i64 0]).cells (l.length * 2) = sRow (wthL l u 0) := by rw [show (Value.agg #[.int .i64 0, .int .i64 0]).cells = #[.int .i64 0, .int .i64 0] from rfl, made_signs]; simp [wthL]
  rw [hmade] at hmk
  go_enter Tryd.func59, Tryd.ntmps59
  go_wp2
  go_loopw [13] (fun iv wr => ∃ k : Nat, k ≤ l.length ∧ iv = .int .i64 (k : Int) ∧ wr.heap[w.heap.size]? = some (.cells (sRow (wthL l u k)) 44 (0, 0)) ∧ Below w.heap.size w wr) (fun iv _ => l.length - (intOf iv).toNat)
  case atStart => exact ⟨0, Nat.zero_le _, rfl, heap_alloc_new _ _, below_alloc _ _⟩
  case round =>
    obtain ⟨k, hk, rfl, hown, hb⟩ := hrel
    by_cases hlt : k < l.length
    · obtain ⟨b, off, rfl, hblk, c1, c2⟩ := (HS.out.below hb) k hlt
      have hk1 : (k : Int) < l.length := by omega
      have hk0 : (0 : Int) ≤ k := by omega
      have hnext := put_snoc l (fun p : Int × Int => (p.1, u)) (0, 0) (0, 0) k hlt
      obtain ⟨p1, p2, hp⟩ : ∃ p1 p2, l.getD k (0, 0) = (p1, p2) := ⟨_, _, rfl⟩
      rw [hp] at c1 c2 hnext
      have hlen := wthL_len l u k hk
      have s12 := fun o => sg_cells (blk_alloc hown o) (k := k) (by rw [hlen]; exact hlt)
      have s1 := fun o => (s12 o).1
      have s2 := fun o => (s12 o).2
      have f12 := fun o i => frozen_of_row (wr.alloc o) w.heap.size i _ _ (blk_alloc hown o)
      generalize (wthL l u k).getD k (0, 0) = q at *
      have Hset : Hid ((wthL l u k).set k (p1, u) = wthL l u (k + 1)) := Lib.hid hnext
      have Hset2 := Lib.hid (sRow_set (wthL l u k) k (p1, u) (by rw [hlen]; exact hlt))
      have Hlen := Lib.hid hlen
      clear hnext hlen s12 hp
      go_wp2
      go_roundw
      case rel => exact ⟨k + 1, by omega, by go_num, by rw [← Hset.out, ← Hset2.out]; exact blk_set (blk_set (blk_alloc hown _) _ _) _ _, ((hb.alloc hb.size _).setCell (Nat.le_refl _) _).setCell (Nat.le_refl _) _⟩
      case measure => simp [intOf]; omega
    · obtain rfl : k = l.length := by omega
      have hfin : wthL l u l.length = l.map fun p => (p.1, u) := by unfold wthL; rw [List.take_length, Nat.sub_self, List.replicate_zero, List.append_nil]
      rw [hfin] at hown
      clear hfin hmade
      go_wp2
      go_ret
      exact ⟨rfl, hown, hb⟩
/-- What Values has made after k rounds. -/
def valL (l : List (Int × Int)) (k : Nat) : List Int := (l.take k).map (·.1) ++ List.replicate (l.length - k) 0
theorem valL_len (l : List (Int × Int)) (k : Nat) (h : k ≤ l.length) : (valL l k).length = l.length := by simp [valL]; omega
theorem infoIntS : (Tryd.prog.info? 3).map (fun i => (i.zero, i.size, i.bytes)) = some (some (.int .i64 0), 1, 8) := by kernel_rfl
theorem made_ints (n : Nat) : madeCells #[.int .i64 0] (n * 1) = iRow (List.replicate n 0) := by
  apply Array.ext'
  rw [toList_madeCells_one]; simp [iRow]
theorem i_cell {w : World} {g k : Nat} {L : List Int} {t : TypeId} {f : Nat × Nat} (h : w.heap[g]? = some (.cells (iRow L) t f)) (hk : k < L.length) :
    w.cell? ⟨g, k, none⟩ = some (.int .i64 (L.getD k 0)) := by
  rw [cell_of_row _ _ _ _ _ _ h, iRow_at L k hk]
set_option maxRecDepth 100000 in
set_option maxHeartbeats 1000000 in
theorem values_any (l : List (Int × Int)) (a : Option Addr) (c : Nat) (w : World) (hl : l.length ≤ 1000000) (hs : Signs w a l) :
    Calls Tryd.prog 60 #[.slice a l.length c] w fun e w' => e = .returned (.slice (some ⟨w.heap.size, 0, none⟩) l.length l.length) ∧ w'.heap[w.heap.size]? = some (.cells (iRow (l.map (·.1))) 3 (0, 0)) ∧ Below w.heap.size w w' := by
  obtain ⟨i0, hi, hz0, hz1, hz2⟩ := info_parts infoIntS
  have HS := Lib.hid hs; clear hs
  have hmk := make_rowN (P := Tryd.prog) 23 3 i0 _ Tryd.underlying23 hi hz0 l.length (by rw [hz2]; omega) (by omega)
  rw [hz1] at hmk
  have hmade : madeCells (Value.int .i64 0).cells (l.length * 1) = iRow (valL l 0) := by rw [show (Value.int .i64 0).cells = #[.int .i64 0] from rfl, made_ints]; simp [valL]
  rw [hmade] at hmk
  go_enter Tryd.func60, Tryd.ntmps60
  go_wp2
  go_loopw [11] (fun iv wr => ∃ k : Nat, k ≤ l.length ∧ iv = .int .i64 (k : Int) ∧ wr.heap[w.heap.size]? = some (.cells (iRow (valL l k)) 3 (0, 0)) ∧ Below w.heap.size w wr) (fun iv _ => l.length - (intOf iv).toNat)
  case atStart => exact ⟨0, Nat.zero_le _, rfl, heap_alloc_new _ _, below_alloc _ _⟩
  case round =>
    obtain ⟨k, hk, rfl, hown, hb⟩ := hrel
    by_cases hlt : k < l.length
    · obtain ⟨b, off, rfl, hblk, c1, c2⟩ := (HS.out.below hb) k hlt
      have hk1 : (k : Int) < l.length := by omega
      have hk0 : (0 : Int) ≤ k := by omega
      have hnext := put_snoc l (fun p : Int × Int => p.1) 0 (0, 0) k hlt
      obtain ⟨p1, p2, hp⟩ : ∃ p1 p2, l.getD k (0, 0) = (p1, p2) := ⟨_, _, rfl⟩
      rw [hp] at c1 c2 hnext
      have hlen := valL_len l k hk
      have s1 := fun o => i_cell (blk_alloc hown o) (k := k) (by rw [hlen]; exact hlt)
      have f12 := fun o i => frozen_of_row (wr.alloc o) w.heap.size i _ _ (blk_alloc hown o)
      generalize (valL l k).getD k 0 = q at *
      have Hset : Hid ((valL l k).set k p1 = valL l (k + 1)) := Lib.hid hnext
      have Hset2 := Lib.hid (iRow_set (valL l k) k p1)
      have Hlen := Lib.hid hlen
      clear hnext hlen hp
      go_wp2
      go_roundw
      case rel => exact ⟨k + 1, by omega, by go_num, by rw [← Hset.out, ← Hset2.out]; exact blk_set (blk_alloc hown _) _ _, (hb.alloc hb.size _).setCell (Nat.le_refl _) _⟩
      case measure => simp [intOf]; omega
    · obtain rfl : k = l.length := by omega
      have hfin : valL l l.length = l.map (·.1) := by unfold valL; rw [List.take_length, Nat.sub_self, List.replicate_zero, List.append_nil]
      rw [hfin] at hown
      clear hfin hmade
      go_wp2
      go_ret
      exact ⟨rfl, hown, hb⟩
/-- A slice of numbers, out of a block. -/
theorem row_of_blk {w : World} {g : Nat} {L : List Int} {t : TypeId} {f : Nat × Nat} (h : w.heap[g]? = some (.cells (iRow L) t f)) : Row w (some ⟨g, 0, none⟩) L := fun j hj =>
  ⟨g, 0, rfl, by rw [Nat.zero_add]; exact i_cell h hj, blk_lt h⟩
theorem signs_of_blk {w : World} {g : Nat} {L : List (Int × Int)} {t : TypeId} {f : Nat × Nat} (h : w.heap[g]? = some (.cells (sRow L) t f)) : Signs w (some ⟨g, 0, none⟩) L := fun j hj =>
  ⟨g, 0, rfl, blk_lt h, by rw [Nat.zero_add]; exact (sg_cells h hj).1, by rw [Nat.zero_add]; exact (sg_cells h hj).2⟩
/-- What signs say. -/
def sTxt (l : List (Int × Int)) : ByteArray := encS (l.map (·.1))
set_option maxRecDepth 100000 in
set_option maxHeartbeats 1000000 in
theorem stext_any (l : List (Int × Int)) (a : Option Addr) (c : Nat) (w : World) (hl : l.length ≤ 1000000) (hs : Signs w a l) :
    Calls Tryd.prog 53 #[.slice a l.length c] w fun e w' => e = .returned (.string (sTxt l)) ∧ Below w.heap.size w w' := by
  have V := Lib.hid (values_any l a c w hl hs)
  have E := Lib.hid fun g w1 (h : w1.heap[g]? = some (.cells (iRow (l.map (·.1))) 3 (0, 0))) => (by
    have h := encode_any (l.map (·.1)) (some ⟨g, 0, none⟩) l.length w1 (by simpa using hl) (row_of_blk h)
    rw [List.length_map] at h; exact h : Calls Tryd.prog 15 #[.slice (some ⟨g, 0, none⟩) l.length l.length] w1 fun e w' => e = .returned (.string (encS (l.map (·.1)))) ∧ Below w1.heap.size w1 w')
  go_enter Tryd.func53, Tryd.ntmps53
  go_wp2_with (first
    | (go_at_call 60; refine V.out.mono ?_; rintro e w1 ⟨rfl, hg, hb1⟩; have Hg := Lib.hid hg; clear hg)
    | (go_at_call 15; refine (E.out _ _ Hg.out).mono ?_; rintro e w2 ⟨rfl, hb2⟩))
  go_ret
  exact ⟨rfl, seqB hb1 hb2⟩
end Go.Proofs.YtecffaidpiadoaaDoor
