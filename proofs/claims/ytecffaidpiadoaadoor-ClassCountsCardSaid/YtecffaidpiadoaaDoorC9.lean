import Derived.Test.YtecffaidpiadoaaDoorC8
import Derived.Lib.QuietBelow
set_option linter.unusedVariables false
set_option linter.unusedSimpArgs false
namespace Go.Proofs.YtecffaidpiadoaaDoor
open Go.RowKit
/-- One more of v's class. -/
def bump (f : Int → Int) (L : List Int) (v : Int) : List Int := L.set (f v).toNat (L.getD (f v).toNat 0 + 1)
def zer : List Int := List.replicate 13 0
/-- How many there are of each class. -/
def cnts (f : Int → Int) (l : List Int) : List Int := l.foldl (bump f) zer
theorem cnts_snoc (f : Int → Int) (l : List Int) (v : Int) : cnts f (l ++ [v]) = bump f (cnts f l) v := by simp [cnts]
theorem cnts_take (f : Int → Int) (l : List Int) (k : Nat) (h : k < l.length) : cnts f (l.take (k + 1)) = bump f (cnts f (l.take k)) (l.getD k 0) := by
  rw [List.take_succ_eq_append_getElem h, cnts_snoc, List.getD, List.getElem?_eq_getElem h]; rfl
theorem getD_set (L : List Int) (i j : Nat) (x : Int) : (L.set i x).getD j 0 = if i = j ∧ i < L.length then x else L.getD j 0 := by
  rw [List.getD, List.getD, List.getElem?_set]
  by_cases h : i = j
  · subst h
    by_cases h2 : i < L.length
    · simp [h2]
    · simp [h2]
  · simp [h]
theorem bump_le (f : Int → Int) (L : List Int) (v n : Int) (hn : 0 ≤ n) (h : L.length = 13 ∧ ∀ j, 0 ≤ L.getD j 0 ∧ L.getD j 0 ≤ n) : (bump f L v).length = 13 ∧ ∀ j, 0 ≤ (bump f L v).getD j 0 ∧ (bump f L v).getD j 0 ≤ n + 1 := by
  unfold bump
  refine ⟨by simp [h.1], fun j => ?_⟩
  rw [getD_set]
  have h1 := h.2 j; have h2 := h.2 (f v).toNat
  split <;> omega
theorem cnts_le (f : Int → Int) (l : List Int) : ∀ k, k ≤ l.length → (cnts f (l.take k)).length = 13 ∧ ∀ j, 0 ≤ (cnts f (l.take k)).getD j 0 ∧ (cnts f (l.take k)).getD j 0 ≤ k := by
  intro k
  induction k with
  | zero => intro _; refine ⟨rfl, fun j => ?_⟩
            have : cnts f (l.take 0) = zer := rfl
            rw [this]
            have : zer.getD j 0 = 0 := by
              unfold zer; rw [List.getD, List.getElem?_replicate]; split <;> rfl
            rw [this]; exact ⟨by omega, by omega⟩
  | succ k ih =>
    intro hk
    rw [cnts_take f l k hk]
    have := bump_le f _ (l.getD k 0) k (by omega) (ih (by omega))
    exact ⟨this.1, fun j => by have := this.2 j; omega⟩
/-- A row of numbers in memory. -/
def iRow (L : List Int) : Array Value := (L.map (Value.int .i64)).toArray
theorem iRow_at (L : List Int) (i : Nat) (h : i < L.length) : (iRow L)[i]? = some (.int .i64 (L.getD i 0)) := by
  rw [iRow, List.getElem?_toArray, List.getElem?_map, List.getD, List.getElem?_eq_getElem h]; rfl
theorem iRow_set (L : List Int) (i : Nat) (x : Int) : (iRow L).setIfInBounds i (.int .i64 x) = iRow (L.set i x) := by
  apply Array.ext'
  simp [iRow, List.map_set]
theorem iRow_zer : iRow zer = #[.int .i64 0, .int .i64 0, .int .i64 0, .int .i64 0, .int .i64 0, .int .i64 0, .int .i64 0, .int .i64 0, .int .i64 0, .int .i64 0, .int .i64 0, .int .i64 0, .int .i64 0] := rfl
/-- The two blocks of Count: the result's, all noughts, and the counts. -/
structure CntInv (w : World) (L : List Int) (wr : World) : Prop where
  n : wr.heap[w.heap.size + 1]? = some (.cells (iRow L) 36 (0, 0))
  r : wr.heap[w.heap.size]? = some (.cells (iRow zer) 36 (0, 0))
  b : Below w.heap.size w wr
  s : w.heap.size + 2 ≤ wr.heap.size
theorem cnt_start (w : World) : CntInv w zer ((w.alloc (.cells (iRow zer) 36)).alloc (.cells (iRow zer) 36)) :=
  ⟨heap_alloc2_new _ _ _, heap_alloc2_old _ _ _, ((Below.refl _ _).alloc (Nat.le_refl _) _).alloc (by simp) _, by simp⟩
theorem cnt_below {w wr w1 : World} {L : List Int} (h : CntInv w L wr) (hb : Below wr.heap.size wr w1) : CntInv w L w1 :=
  ⟨(hb.block _ (by have := h.s; omega)).trans h.n, (hb.block _ (by have := h.s; omega)).trans h.r, h.b.trans (hb.mono (by have := h.s; omega)), Nat.le_trans h.s hb.size⟩
theorem cnt_store {w wr : World} {L : List Int} (h : CntInv w L wr) (i : Nat) (x : Int) : CntInv w (L.set i x) (wr.setCell ⟨w.heap.size + 1, i, none⟩ (.int .i64 x)) :=
  ⟨by rw [heap_setCell_same _ _ _ _ _ _ h.n, iRow_set], by rw [heap_setCell_other _ _ _ _ (show w.heap.size ≠ w.heap.size + 1 by omega)]; exact h.r, h.b.setCell (by show w.heap.size ≤ w.heap.size + 1; omega) _, by simpa using h.s⟩
theorem below_setRow (w : World) (g : Nat) (cs : Array Value) : Below g w (w.setRow g cs) :=
  ⟨rfl, rfl, rfl, by simp, fun k hk => setRow_other _ _ _ _ (by omega)⟩
set_option maxRecDepth 100000 in
set_option maxHeartbeats 1000000 in
theorem count_any (l : List Int) (a : Option Addr) (cap : Nat) (w : World) (hT : Tabs w) (hl : l.length ≤ 1000000) (ha : ∀ i, i < l.length → ∃ b off, a = some ⟨b, off, none⟩ ∧ b < w.heap.size)
    (hc : ∀ i b off, i < l.length → a = some ⟨b, off, none⟩ → w.cell? ⟨b, off + i, none⟩ = some (.int .i64 (l.getD i 0))) :
    Calls Tryd.prog 32 #[.slice a l.length cap] w fun e w' => e = .returned (.agg (iRow (cnts cls l))) ∧ Below w.heap.size w w' := by
  have HT := Lib.hid hT; have Ha := Lib.hid ha; have Hc := Lib.hid hc; clear hT ha hc
  have H0 := Lib.hid (cnt_start w)
  rw [iRow_zer] at H0
  go_enter Tryd.func32, Tryd.ntmps32
  go_wp2
  generalize hW : (w.alloc _).alloc _ = W0 at *
  clear hW
  go_loopw [8] (fun i wr => ∃ k : Nat, k ≤ l.length ∧ i = .int .i64 (k : Int) ∧ CntInv w (cnts cls (l.take k)) wr) (fun i _ => l.length - (intOf i).toNat)
  case atStart => exact ⟨0, Nat.zero_le _, rfl, H0.out⟩
  case round =>
    obtain ⟨k, hk, rfl, hinv⟩ := hrel
    by_cases hlt : k < l.length
    · obtain ⟨b, off, rfl, hbw⟩ := Ha.out k hlt
      have hcell : wr.cell? ⟨b, off + k, none⟩ = some (.int .i64 (l.getD k 0)) := (hinv.b.cell (p := ⟨b, off + k, none⟩) hbw).trans (Hc.out k b off hlt rfl)
      have hle := cnts_le cls l k hk
      have hstep := cnts_take cls l k hlt
      have hTr : Tabs wr := HT.out.below hinv.b
      have hcl := cls_rng (l.getD k 0)
      unfold bump at hstep
      have hof := of_any (l.getD k 0) wr hTr
      generalize l.getD k 0 = v at *
      obtain ⟨c, hc⟩ := Int.eq_ofNat_of_zero_le hcl.1
      rw [hc] at hof hstep
      rw [Int.toNat_natCast] at hstep
      have hc13 : c ≤ 12 := by omega
      generalize cnts cls (l.take k) = L at *
      have hx := hle.2 c
      have hlen := hle.1
      generalize hxe : L.getD c 0 = x at *
      have Hxe := Lib.hid hxe; have Hstep := Lib.hid hstep; have Hof := Lib.hid hof; have Hlen := Lib.hid hlen
      clear hle hcl hc hxe hstep hof hlen hTr
      go_wp2_with (go_at_call 27; refine Hof.out.mono ?_; rintro e w1 ⟨rfl, hb1⟩; have hi1 := cnt_below hinv hb1; have hc1 : w1.cell? ⟨w.heap.size + 1, c, none⟩ = some (.int .i64 x) := (by rw [cell_of_row _ _ _ _ _ _ hi1.n, iRow_at _ _ (by rw [Hlen.out]; omega), Hxe.out]); have hf1 : w1.frozen? ⟨w.heap.size + 1, c, none⟩ = false := frozen_of_row _ _ _ _ _ hi1.n)
      go_roundw
      case rel => exact ⟨k + 1, by omega, by go_num, by rw [Hstep.out]; exact cnt_store hi1 _ _⟩
      case measure => simp [intOf]; omega
    · obtain rfl : k = l.length := by omega
      have hta : l.take l.length = l := List.take_length
      rw [hta] at hinv
      clear hlt hta
      have hlen : (cnts cls l).length = 13 := by
        have := (cnts_le cls l l.length (Nat.le_refl _)).1
        rwa [List.take_length] at this
      have hsz : (iRow (cnts cls l)).size = 13 := by simp [iRow, hlen]
      have hall : (iRow (cnts cls l)).all (·.oneCell') = true := by
        rw [Array.all_eq_true_iff_forall_mem]; intro x hx
        simp [iRow] at hx; obtain ⟨y, _, rfl⟩ := hx; rfl
      generalize hL : cnts cls l = L at *
      have HL := Lib.hid hL; clear hL
      have hres : (wr.setRow w.heap.size (iRow L)).heap[w.heap.size]? = some (.cells (iRow L) 36 (0, 0)) := setRow_heap _ _ _ _ _ _ hinv.r
      have hfin : Below w.heap.size w (wr.setRow w.heap.size (iRow L)) := hinv.b.trans (below_setRow _ _ _)
      have hi36 : (Tryd.prog.info? 36).map (·.size) = some (iRow L).size := by rw [hsz]; kernel_rfl
      have Hsz := Lib.hid hsz; have Hlen := Lib.hid hlen
      clear hsz hlen
      go_wp2_with (first
        | (refine wpList_load_row rfl 36 _ rfl (w.heap.size + 1) rfl 36 _ (0, 0) _ hinv.n Tryd.underlying36 rfl hi36 ?_)
        | (refine wpList_store_row rfl 36 _ _ rfl w.heap.size (iRow L) rfl rfl 36 _ hinv.r hi36 (by rw [Hsz.out]; rfl) hall ?_))
      refine bodyPost_ret (results_cell_row rfl _ _ w.heap.size 36 _ (0, 0) _ rfl hres Tryd.underlying36 rfl hi36) rfl ⟨by rw [HL.out], hfin⟩
end Go.Proofs.YtecffaidpiadoaaDoor
