/-
  Joined: Ln0 Ln3 Ln4 Ln5 Ln9 Ln7 Ln10 Ln11.
-/
import Derived.Test.YtjgffedcbdnddaaDoorJU04
import Derived.Test.YtjgffedcbdnddaaDoorJU05
import Derived.Test.YtjgffedcbdnddaaDoorJU08
import Derived.Lib.QuietBelow
import Derived.Deep.RegionHeld3
import Derived.BigRegion
import Derived.BigQuiet
set_option linter.unusedVariables false
set_option linter.unusedSimpArgs false
set_option maxRecDepth 100000
set_option linter.unusedVariables false
set_option linter.unusedSimpArgs false
namespace Go.Proofs.YtjgffedcbdnddaaDoor
open Go.RowKit
/-- Slices of signs that lie in a block. -/
structure CatIn (S : Nat → Prop) (w : World) (A : Nat) (E : List SgArg) : Prop where
  cell : ∀ j, j < E.length → w.cell? ⟨A, j, none⟩ = some (.slice (E.getD j SgArg.zero).a (E.getD j SgArg.zero).l.length (E.getD j SgArg.zero).c)
  lt : A < w.heap.size
  sl : ∀ j, j < E.length → SlS S w (E.getD j SgArg.zero).a (E.getD j SgArg.zero).l (E.getD j SgArg.zero).c
theorem CatIn.below {S : Nat → Prop} {w w' : World} {A : Nat} {E : List SgArg} (h : CatIn S w A E) (hb : Below w.heap.size w w') : CatIn S w' A E :=
  ⟨fun j hj => (hb.cell (p := ⟨A, j, none⟩) h.lt).trans (h.cell j hj), Nat.lt_of_lt_of_le h.lt hb.size, fun j hj => (h.sl j hj).below hb⟩
def catL (E : List SgArg) : List (Int × Int) := E.flatMap (·.l)
theorem catL_next (E : List SgArg) (j : Nat) (hj : j < E.length) : catL (E.take (j + 1)) = catL (E.take j) ++ (E.getD j SgArg.zero).l := by
  unfold catL
  rw [List.take_succ_eq_append_getElem hj, List.flatMap_append, List.getD, List.getElem?_eq_getElem hj]
  simp
theorem catL_le (E : List SgArg) (j : Nat) : (catL (E.take j)).length ≤ (catL E).length := by
  conv => rhs; rw [← List.take_append_drop j E]
  unfold catL
  rw [List.flatMap_append, List.length_append]
  omega
/-- A list of slices, out of a block. -/
theorem catIn_of {S : Nat → Prop} {w : World} {A : Nat} {E : List SgArg} {t : TypeId} {f : Nat × Nat} (h : w.heap[A]? = some (.cells (E.map fun y => Value.slice y.a y.l.length y.c).toArray t f)) (hs : ∀ y ∈ E, SlS S w y.a y.l y.c) : CatIn S w A E := by
  refine ⟨fun j hj => ?_, blk_lt h, fun j hj => ?_⟩
  · rw [cell_of_row _ _ _ _ _ _ h, List.getElem?_toArray, List.getElem?_map, List.getD, List.getElem?_eq_getElem hj]; rfl
  · rw [List.getD, List.getElem?_eq_getElem hj]; exact hs _ (List.getElem_mem hj)
end Go.Proofs.YtjgffedcbdnddaaDoor
set_option linter.unusedVariables false
set_option linter.unusedSimpArgs false
namespace Go.Proofs.YtjgffedcbdnddaaDoor
open Go.RowKit Go.Sort
/-- The places of a cut. -/
def btF (n : Nat) (i j : Int) : Nat := (min (plc n i) (plc n j)).toNat
def btT (n : Nat) (i j : Int) : Nat := (max (plc n i) (plc n j)).toNat
theorem bt_le (n : Nat) (i j : Int) : btF n i j ≤ btT n i j ∧ btT n i j ≤ n := by unfold btF btT plc; omega
/-- A line that has been laid into its box. -/
theorem ln_fin {w w5 : World} {R B N d : Nat} {b : Option Addr} {L : List (Int × Int)} {at_ : Int} {u0 u1 : Value} (hR : w5.heap[R]? = some (.cells #[u0, u1] 30 (0, 0))) (hO : OwS w5 B (.slice b N d) L) (hb : Below w.heap.size w w5) (hlt : w.heap.size ≤ R) {WF : World} (hWF : (w5.setCell ⟨R, 0, none⟩ (.slice b N d)).setCell ⟨R, 1, none⟩ (.int .i64 at_) = WF) :
    WF.heap[R]? = some (.cells #[.slice b N d, .int .i64 at_] 30 (0, 0)) ∧ WF.cell? ⟨R, 0, none⟩ = some (.slice b N d) ∧ WF.cell? ⟨R, 1, none⟩ = some (.int .i64 at_) ∧ OwS WF B (.slice b N d) L ∧ Below w.heap.size w WF := by
  have hq : WF.heap[R]? = some (.cells #[.slice b N d, .int .i64 at_] 30 (0, 0)) := by rw [← hWF]; exact blk_set (blk_set hR 0 _) 1 _
  refine ⟨hq, cell_of_row _ _ 0 _ _ _ hq, cell_of_row _ _ 1 _ _ _ hq, ?_, ?_⟩
  · rw [← hWF]; unfold OwS
    exact own_set (own_set hO (own_ne_kind hO hR (by decide)) _) (own_ne_kind hO hR (by decide)) _
  · rw [← hWF]; exact (hb.setCell (p := ⟨R, 0, none⟩) hlt _).setCell (p := ⟨R, 1, none⟩) hlt _
theorem farL {w : World} {p q i j k : Nat} {u v : Value} (h : p ≠ q) : ((w.setCell ⟨p, i, none⟩ u).setCell ⟨p, j, none⟩ v).cell? ⟨q, k, none⟩ = w.cell? ⟨q, k, none⟩ := by
  unfold World.cell?
  rw [Below.heap_setCell _ _ _ _ (Ne.symm h), Below.heap_setCell _ _ _ _ (Ne.symm h)]
end Go.Proofs.YtjgffedcbdnddaaDoor
set_option linter.unusedVariables false
set_option linter.unusedSimpArgs false
namespace Go.Proofs.YtjgffedcbdnddaaDoor
open Go.RowKit Go.Sort
end Go.Proofs.YtjgffedcbdnddaaDoor
set_option linter.unusedVariables false
set_option linter.unusedSimpArgs false
namespace Go.Proofs.YtjgffedcbdnddaaDoor
open Go.RowKit Go.Sort
/-- A sign of an owned row is written. -/
theorem ows_put {w : World} {B g n d : Nat} {L : List (Int × Int)} (h : OwS w B (.slice (some ⟨g, 0, none⟩) n d) L) (hn : L.length = n) (k : Nat) (hk : k < n) (p : Int × Int) :
    OwS ((w.setCell ⟨g, k * 2, none⟩ (.int .i64 p.1)).setCell ⟨g, k * 2 + 1, none⟩ (.int .i64 p.2)) B (.slice (some ⟨g, 0, none⟩) n d) (L.set k p) := by
  subst hn
  unfold OwS at h ⊢
  have h2 := (World.ownsRow.stored (World.ownsRow.stored h (k * 2) (.int .i64 p.1)).1 (k * 2 + 1) (.int .i64 p.2)).1
  rw [List.length_set]
  have e := sRow_set L k p hk
  rw [← e, Array.toList_setIfInBounds, Array.toList_setIfInBounds]
  exact h2
theorem ows_cells {w : World} {B g n d : Nat} {L : List (Int × Int)} (h : OwS w B (.slice (some ⟨g, 0, none⟩) n d) L) (hn : L.length = n) (k : Nat) (hk : k < n) :
    w.cell? ⟨g, k * 2, none⟩ = some (.int .i64 (L.getD k (0, 0)).1) ∧ w.cell? ⟨g, k * 2 + 1, none⟩ = some (.int .i64 (L.getD k (0, 0)).2) := by
  subst hn
  unfold OwS at h
  have e := sRow_at L k hk
  exact ⟨by rw [h.cellAt _ (by omega)]; exact e.1, by rw [h.cellAt _ (by omega)]; exact e.2⟩
theorem ows_pos {w : World} {B n d : Nat} {b : Option Addr} {L : List (Int × Int)} (h : OwS w B (.slice b n d) L) (hp : 0 < n) : ∃ g, b = some ⟨g, 0, none⟩ ∧ B ≤ g ∧ g < w.heap.size := by
  unfold OwS at h
  rcases h.2 with ⟨e, h0⟩ | ⟨g, cap, cur, e, hB, hg, _⟩
  · injection e with e1 e2 e3; omega
  · injection e with e1 e2 e3
    exact ⟨g, e1, hB, blk_lt hg⟩
def swI (n at_ : Nat) : Nat := min at_ (n - 1)
def swM (L : List (Int × Int)) (at_ : Nat) : List (Int × Int) := L.take (swI L.length at_ - 1) ++ [L.getD (swI L.length at_) (0, 0), L.getD (swI L.length at_ - 1) (0, 0)] ++ L.drop (swI L.length at_ + 1)
theorem sw_set (L : List (Int × Int)) (i : Nat) (h0 : 0 < i) (hi : i < L.length) : (L.set (i - 1) (L.getD i (0, 0))).set i (L.getD (i - 1) (0, 0)) = L.take (i - 1) ++ [L.getD i (0, 0), L.getD (i - 1) (0, 0)] ++ L.drop (i + 1) := by
  obtain ⟨k, rfl⟩ : ∃ k, i = k + 1 := ⟨i - 1, by omega⟩
  rw [Nat.add_sub_cancel]
  apply List.ext_getElem
  · simp; omega
  · intro j h1 h2
    simp only [List.length_set] at h1
    rw [List.getElem_set, List.getElem_set]
    by_cases e1 : k + 1 = j
    · subst e1
      rw [if_pos rfl, List.getElem_append_left (by simp; omega), List.getElem_append_right (by simp; omega)]
      simp only [List.length_take, Nat.min_eq_left (show k ≤ L.length by omega), show k + 1 - k = 1 by omega, List.getElem_cons_succ, List.getElem_cons_zero]
    · rw [if_neg e1]
      by_cases e2 : k = j
      · subst e2
        rw [if_pos rfl, List.getElem_append_left (by simp; omega), List.getElem_append_right (by simp; omega)]
        simp only [List.length_take, Nat.min_eq_left (show k ≤ L.length by omega), Nat.sub_self, List.getElem_cons_zero]
      · rw [if_neg e2]
        by_cases e3 : j < k
        · rw [List.getElem_append_left (by simp; omega), List.getElem_append_left (by simp; omega), List.getElem_take]
        · rw [List.getElem_append_right (by simp; omega), List.getElem_drop]
          congr 1
          simp; omega
theorem swM_len (L : List (Int × Int)) (at_ : Nat) (h0 : 0 < at_) (h2 : 2 ≤ L.length) : (swM L at_).length = L.length := by
  unfold swM swI; simp; omega
end Go.Proofs.YtjgffedcbdnddaaDoor
set_option linter.unusedVariables false
set_option linter.unusedSimpArgs false
namespace Go.Proofs.YtjgffedcbdnddaaDoor
open Go.RowKit Go.Sort
def cutAt (f t p : Nat) : Nat := if t < p then p - (t - f) else if f < p then f else p
end Go.Proofs.YtjgffedcbdnddaaDoor
set_option linter.unusedVariables false
set_option linter.unusedSimpArgs false
namespace Go.Proofs.YtjgffedcbdnddaaDoor
open Go.RowKit Go.Sort
def swpM (L : List (Int × Int)) (s1 e1 s2 e2 : Nat) : List (Int × Int) := L.take s1 ++ (L.drop s2).take (e2 - s2) ++ (L.drop e1).take (s2 - e1) ++ (L.drop s1).take (e1 - s1) ++ L.drop e2
/-- May the words change places? -/
def swpOk (s1 e1 s2 : Nat) (x1 x2 : Bool) : Prop := s1 < s2 ∧ e1 ≤ s2 ∧ x1 = true ∧ x2 = true
/-- The places of the two words. -/
structure Wds (L : List (Int × Int)) (at_ m s2 e2 s1 e1 : Nat) : Prop where
  hm : nextM L (at_ : Int) = m
  hs2 : backM L (m : Int) = s2
  he2 : nextM L (s2 : Int) = e2
  hs1 : backM L (s2 : Int) = s1
  he1 : nextM L (s1 : Int) = e1
theorem plc_nat (n k : Nat) (h : k ≤ n) : plc n (k : Int) = k := by unfold plc; omega
theorem wds_ex (L : List (Int × Int)) (at_ : Nat) : ∃ m s2 e2 s1 e1, Wds L at_ m s2 e2 s1 e1 ∧ s2 ≤ L.length ∧ e2 ≤ L.length ∧ s1 ≤ L.length ∧ e1 ≤ L.length ∧ s2 ≤ e2 ∧ s1 ≤ e1 := by
  have r1 := next_rng L at_
  have p1 : 0 ≤ plc L.length at_ := by unfold plc; omega
  obtain ⟨m, hm⟩ := Int.eq_ofNat_of_zero_le (show 0 ≤ nextM L at_ by omega)
  have r2 := back_rng L m
  have p2 := plc_cases L.length m
  obtain ⟨s2, hs2⟩ := Int.eq_ofNat_of_zero_le r2.1
  have q2 : s2 ≤ L.length := by obtain ⟨k, hk, hkl⟩ := p2; omega
  have r3 := next_rng L s2
  rw [plc_nat _ _ q2] at r3
  obtain ⟨e2, he2⟩ := Int.eq_ofNat_of_zero_le (show 0 ≤ nextM L s2 by omega)
  have r4 := back_rng L s2
  rw [plc_nat _ _ q2] at r4
  obtain ⟨s1, hs1⟩ := Int.eq_ofNat_of_zero_le r4.1
  have r5 := next_rng L s1
  rw [plc_nat _ s1 (by omega)] at r5
  obtain ⟨e1, he1⟩ := Int.eq_ofNat_of_zero_le (show 0 ≤ nextM L s1 by omega)
  exact ⟨m, s2, e2, s1, e1, ⟨hm, hs2, he2, hs1, he1⟩, q2, by omega, by omega, by omega, by omega, by omega⟩
end Go.Proofs.YtjgffedcbdnddaaDoor
set_option linter.unusedVariables false
set_option linter.unusedSimpArgs false
namespace Go.Proofs.YtjgffedcbdnddaaDoor
open Go.RowKit Go.Sort
def grM (v : Int) : Int := if 97 ≤ v ∧ v ≤ 122 then v - 32 else v
def smM (v : Int) : Int := if 65 ≤ v ∧ v ≤ 90 then v + 32 else v
theorem gr_sm (v : Int) : grM (smM v) = grM v := by unfold grM smM; repeat' split
                                                    all_goals omega
theorem gr_gr (v : Int) : grM (grM v) = grM v := by unfold grM; repeat' split
                                                    all_goals omega
/-- What a letter of a line becomes. -/
def chM (L : List (Int × Int)) (how : Int) (k : Nat) : Int :=
  if how = 0 then grM (L.getD k (0, 0)).1 else if how = 1 then smM (L.getD k (0, 0)).1 else if how = 2 then (if (kAt L false ((k : Int) - 1) == 1) = true then smM (L.getD k (0, 0)).1 else grM (L.getD k (0, 0)).1) else (L.getD k (0, 0)).1
theorem ch_gr (L : List (Int × Int)) (how : Int) (k : Nat) : grM (chM L how k) = grM (L.getD k (0, 0)).1 := by
  unfold chM
  repeat' split
  all_goals first | exact gr_gr _ | exact gr_sm _ | rfl
end Go.Proofs.YtjgffedcbdnddaaDoor
set_option linter.unusedVariables false
set_option linter.unusedSimpArgs false
namespace Go.Proofs.YtjgffedcbdnddaaDoor
open Go.RowKit Go.Sort
theorem list_set_self (xs : List Value) (j : Nat) (v : Value) (h : xs[j]? = some v) : xs.set j v = xs := by
  apply List.ext_getElem?
  intro i
  rw [List.getElem?_set]
  split
  · rename_i e
    subst e
    split
    · exact h.symm
    · rename_i hlt
      rw [List.getElem?_eq_none (by omega)] at h; cases h
  · rfl
/-- A sign's value is written. -/
theorem ows_putV {w : World} {B g n d : Nat} {L : List (Int × Int)} (h : OwS w B (.slice (some ⟨g, 0, none⟩) n d) L) (hn : L.length = n) (k : Nat) (hk : k < n) (u : Int) :
    OwS (w.setCell ⟨g, k * 2, none⟩ (.int .i64 u)) B (.slice (some ⟨g, 0, none⟩) n d) (L.set k (u, (L.getD k (0, 0)).2)) := by
  subst hn
  unfold OwS at h ⊢
  have h2 := (World.ownsRow.stored h (k * 2) (.int .i64 u)).1
  rw [List.length_set]
  have e := sRow_set L k (u, (L.getD k (0, 0)).2) hk
  rw [← e, Array.toList_setIfInBounds, Array.toList_setIfInBounds, list_set_self]
  · exact h2
  · rw [List.getElem?_set_ne (by omega)]
    exact (sRow_at L k hk).2
def csL (L : List (Int × Int)) (how : Int) (f k : Nat) : List (Int × Int) :=
  (List.range L.length).map fun i => if f ≤ i ∧ i < k then (chM L how i, (L.getD i (0, 0)).2) else L.getD i (0, 0)
theorem cs_len (L : List (Int × Int)) (how : Int) (f k : Nat) : (csL L how f k).length = L.length := by unfold csL; simp
theorem cs_at (L : List (Int × Int)) (how : Int) (f k i : Nat) (hi : i < L.length) : (csL L how f k).getD i (0, 0) = if f ≤ i ∧ i < k then (chM L how i, (L.getD i (0, 0)).2) else L.getD i (0, 0) := by
  unfold csL
  rw [List.getD, List.getElem?_map, List.getElem?_range hi]; rfl
theorem list_extD {l m : List (Int × Int)} (h : l.length = m.length) (hh : ∀ j, j < l.length → l.getD j (0, 0) = m.getD j (0, 0)) : l = m := by
  apply List.ext_getElem h
  intro j h1 h2
  have := hh j h1
  simpa [List.getD, List.getElem?_eq_getElem h1, List.getElem?_eq_getElem h2] using this
theorem getD_setL (R : List (Int × Int)) (i j : Nat) (x : Int × Int) (hi : i < R.length) : (R.set i x).getD j (0, 0) = if i = j then x else R.getD j (0, 0) := by
  rw [List.getD, List.getElem?_set]
  by_cases h : i = j
  · rw [if_pos h, if_pos h, if_pos hi]; rfl
  · rw [if_neg h, if_neg h]; rfl
theorem cs_0 (L : List (Int × Int)) (how : Int) (f : Nat) : csL L how f f = L := by
  refine list_extD (cs_len _ _ _ _) (fun j hj => ?_)
  rw [cs_len] at hj
  rw [cs_at _ _ _ _ _ hj, if_neg (by omega)]
theorem cs_next (L : List (Int × Int)) (how : Int) (f k : Nat) (hf : f ≤ k) (hk : k < L.length) : csL L how f (k + 1) = (csL L how f k).set k (chM L how k, ((csL L how f k).getD k (0, 0)).2) := by
  refine list_extD (by rw [List.length_set, cs_len, cs_len]) (fun j hj => ?_)
  rw [cs_len] at hj
  rw [getD_setL _ _ _ _ (by rw [cs_len]; exact hk), cs_at _ _ _ _ _ hj, cs_at _ _ _ _ _ hk, cs_at _ _ _ _ _ hj, if_neg (show ¬ (f ≤ k ∧ k < k) by omega)]
  by_cases e : k = j
  · subst e
    rw [if_pos rfl, if_pos (by omega)]
  · rw [if_neg e]
    by_cases h : f ≤ j ∧ j < k
    · rw [if_pos h, if_pos (by omega)]
    · rw [if_neg h, if_neg (by omega)]
theorem far1 {w : World} {p q i k : Nat} {u : Value} (h : p ≠ q) : (w.setCell ⟨p, i, none⟩ u).cell? ⟨q, k, none⟩ = w.cell? ⟨q, k, none⟩ := by
  unfold World.cell?
  rw [Below.heap_setCell _ _ _ _ (Ne.symm h)]
end Go.Proofs.YtjgffedcbdnddaaDoor
