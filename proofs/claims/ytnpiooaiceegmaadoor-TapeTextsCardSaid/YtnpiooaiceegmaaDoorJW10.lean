/-
  Joined: Es7 Spb.
-/
import Derived.Test.YtnpiooaiceegmaaDoorJW04
import Derived.Test.YtnpiooaiceegmaaDoorJW09
set_option linter.unusedVariables false
set_option linter.unusedSimpArgs false
set_option maxRecDepth 100000
set_option linter.unusedVariables false
set_option linter.unusedSimpArgs false
namespace Go.Proofs.YtnpiooaiceegmaaDoor
open Go.RowKit
/-- The line's end. -/
def nlB : ByteArray := ⟨#[10]⟩
theorem split_nl (s : ByteArray) (w : World) (hs : s.size < 4294967281) : Calls Tryd.prog 65 #[.string s, .string ⟨#[10]⟩] w fun e w' => e = .returned (.slice (some ⟨w.heap.size, 0, none⟩) (Lib.countB s nlB + 1) (Lib.countB s nlB + 1)) ∧ w.alloc (.cells ((Lib.splitB nlB 0 (Lib.countB s nlB) s).map Value.string).toArray 9) = w' := by
  have hle := Lib.countB_le nlB (by decide) s.size s (Nat.le_refl _)
  have hlen := Lib.splitB_all nlB (by decide) 0 _ s rfl
  have c := Any.strings_genSplit_core Tryd.lays221 (by kernel_rfl) s nlB 0 (-1) (Lib.countB s nlB + 1) w hs (by decide) (Nat.zero_le _)
    (fun x c hx => by
      have h := Tryd.strings_Index_one x 10 (w.alloc (.cells c 9))
      refine Calls.mono h ?_
      rintro e w' ⟨rfl, rfl⟩
      refine ⟨?_, rfl⟩
      show _ = Ending.returned (Value.int .i64 (Lib.index x.data.toList [10]))
      rw [Lib.index_one])
    (by
      have h := Tryd.strings_Count_one s 10 w
      refine Calls.mono h ?_
      rintro e w' ⟨rfl, rfl⟩
      refine ⟨?_, rfl⟩
      show _ = Ending.returned (Value.int .i64 ((Lib.count s.data.toList [10] : Nat) : Int))
      rw [Lib.count_one]
      rfl)
    (by decide) (by decide) (by rw [if_pos (by decide)]; omega)
  rw [Nat.add_sub_cancel, hlen] at c
  have e2 : Lib.cellsOf (Lib.splitB nlB 0 (Lib.countB s nlB) s) (Lib.countB s nlB + 1) = ((Lib.splitB nlB 0 (Lib.countB s nlB) s).map Value.string).toArray := by rw [← hlen]; exact Lib.cellsOf_full _
  rw [e2] at c
  have c' : Calls Tryd.prog 114 #[.string s, .string ⟨#[10]⟩, .int .i64 0, .int .i64 (-1)] w _ := c
  go_enter Tryd.func65, Tryd.ntmps65
  go_wp2_with (go_at_call 114; refine c'.mono ?_; rintro e w' ⟨rfl, hw⟩)
  go_ret
  exact ⟨rfl, rfl⟩
/-- A text is pieces. -/
def PiOf (l : List UInt8) (ps : List (List UInt8)) : Prop := Lib.splitB nlB 0 (Lib.countB (mkL l) nlB) (mkL l) = ps.map mkL
theorem PiOf.len {l : List UInt8} {ps : List (List UInt8)} (h : PiOf l ps) : ps.length = Lib.countB (mkL l) nlB + 1 := by
  have := Lib.splitB_all nlB (by decide) 0 _ (mkL l) rfl
  rw [show Lib.splitB nlB 0 (Lib.countB (mkL l) nlB) (mkL l) = ps.map mkL from h, List.length_map] at this
  exact this
theorem PiOf.read {l : List UInt8} {ps : List (List UInt8)} (h : PiOf l ps) (w : World) (hs : l.length < 4294967281) : Calls Tryd.prog 65 #[.string (mkL l), .string ⟨#[10]⟩] w fun e w' => e = .returned (.slice (some ⟨w.heap.size, 0, none⟩) ps.length ps.length) ∧ (∀ i, i < ps.length → w'.cell? ⟨w.heap.size, i, none⟩ = some (.string (mkL (ps.getD i [])))) ∧ w.heap.size < w'.heap.size ∧ Below w.heap.size w w' := by
  have := split_nl (mkL l) w (by rw [mkL_size]; exact hs)
  rw [show Lib.splitB nlB 0 (Lib.countB (mkL l) nlB) (mkL l) = ps.map mkL from h, ← h.len] at this
  refine this.mono ?_
  rintro e w' ⟨rfl, rfl⟩
  refine ⟨rfl, fun i hi => ?_, by simp, below_alloc _ _⟩
  rw [cell_of_row _ _ _ _ _ _ (heap_alloc_new _ _)]
  rw [List.getElem?_toArray, List.getElem?_map, List.getElem?_map, List.getD, List.getElem?_eq_getElem hi]
  rfl
/-- Entries under way: a row of slices, each of the call's own. -/
structure RdSt (B : Nat) (v : Value) (E : List (List (Int × Int))) (w : World) : Prop where
  ex : ∃ vs : List Value, w.ownsRow B 46 1 v E.length vs ∧ ∀ i, i < E.length → ∃ x, vs[i]? = some x ∧ OwS w B x (E.getD i [])
  le : B ≤ w.heap.size
theorem RdSt.below {B : Nat} {v : Value} {E : List (List (Int × Int))} {w w' : World} (h : RdSt B v E w) (hb : Below w.heap.size w w') : RdSt B v E w' := by
  obtain ⟨vs, h1, h2⟩ := h.ex
  exact ⟨⟨vs, own_below h1 hb, fun i hi => by obtain ⟨x, e, hx⟩ := h2 i hi; exact ⟨x, e, own_below hx hb⟩⟩, Nat.le_trans h.le hb.size⟩
/-- An entry comes behind. -/
theorem RdSt.next {B : Nat} {v x : Value} {E : List (List (Int × Int))} {L : List (Int × Int)} {w w1 : World} {v' : Value} {vs : List Value} (h2 : ∀ i, i < E.length → ∃ x, vs[i]? = some x ∧ OwS w B x (E.getD i [])) (hvl : vs.length = E.length) (hw : w.ownsRow B 46 1 v E.length vs) (hx : OwS w B x L)
    (ho : w1.ownsRow B 46 1 v' (E.length + 1) (vs ++ [x])) (hg : w.grownBy w1 v.ownBlock) (hle : B ≤ w.heap.size) : RdSt B v' (E ++ [L]) w1 := by
  have hk : ∀ y M, OwS w B y M → OwS w1 B y M := fun y M hy => World.ownsRow.kept hy hg (own_ne_own hy hw (by decide))
  refine ⟨⟨vs ++ [x], by rw [List.length_append]; exact ho, fun i hi => ?_⟩, Nat.le_trans hle hg.size⟩
  rw [List.length_append, List.length_singleton] at hi
  by_cases hlt : i < E.length
  · obtain ⟨y, e, hy⟩ := h2 i hlt
    refine ⟨y, by rw [List.getElem?_append_left (by omega)]; exact e, ?_⟩
    rw [show (E ++ [L]).getD i [] = E.getD i [] by rw [List.getD, List.getElem?_append_left hlt, List.getD]]
    exact hk _ _ hy
  · obtain rfl : i = E.length := by omega
    refine ⟨x, by rw [List.getElem?_append_right (by omega), hvl, Nat.sub_self]; rfl, ?_⟩
    rw [show (E ++ [L]).getD E.length [] = L by rw [List.getD, List.getElem?_append_right (Nat.le_refl _), Nat.sub_self]; rfl]
    exact hk _ _ hx
end Go.Proofs.YtnpiooaiceegmaaDoor
set_option linter.unusedVariables false
set_option linter.unusedSimpArgs false
namespace Go.Proofs.YtnpiooaiceegmaaDoor
open Go.RowKit
/-- Pieces, a byte between. -/
def joB (b : UInt8) (p : List UInt8) (ps : List (List UInt8)) : List UInt8 := p ++ ps.flatMap fun q => b :: q
theorem joB_nil (b : UInt8) (p : List UInt8) : joB b p [] = p := by unfold joB; simp
theorem joB_cons (b : UInt8) (p q : List UInt8) (ps : List (List UInt8)) : joB b p (q :: ps) = p ++ b :: joB b q ps := by unfold joB; rw [List.flatMap_cons]; rfl
/-- A text's pieces. -/
def spB (b : UInt8) : List UInt8 → List UInt8 × List (List UInt8)
  | [] => ([], [])
  | c :: r => if c = b then ([], (spB b r).1 :: (spB b r).2) else (c :: (spB b r).1, (spB b r).2)
theorem spB_jo (b : UInt8) : ∀ l, joB b (spB b l).1 (spB b l).2 = l
  | [] => rfl
  | c :: r => by
    have ih := spB_jo b r
    unfold spB
    by_cases h : c = b
    · rw [if_pos h]
      show joB b [] ((spB b r).1 :: (spB b r).2) = _
      rw [joB_cons, ih, h]; rfl
    · rw [if_neg h]
      show joB b (c :: (spB b r).1) (spB b r).2 = _
      conv => rhs; rw [← ih]
      rfl
theorem spB_no (b : UInt8) : ∀ l, (∀ c ∈ (spB b l).1, c ≠ b) ∧ ∀ q ∈ (spB b l).2, ∀ c ∈ q, c ≠ b
  | [] => ⟨fun c h => (by cases h), fun q h => (by cases h)⟩
  | c :: r => by
    have ih := spB_no b r
    unfold spB
    by_cases h : c = b
    · rw [if_pos h]
      refine ⟨fun x hx => (by cases hx), fun q hq => ?_⟩
      rcases List.mem_cons.1 hq with rfl | hq
      · exact ih.1
      · exact ih.2 q hq
    · rw [if_neg h]
      refine ⟨fun x hx => ?_, ih.2⟩
      rcases List.mem_cons.1 hx with rfl | hx
      · exact h
      · exact ih.1 x hx
theorem spB_of (b : UInt8) (p : List UInt8) (ps : List (List UInt8)) (h : ∀ c ∈ p, c ≠ b) (h2 : ∀ q ∈ ps, ∀ c ∈ q, c ≠ b) : spB b (joB b p ps) = (p, ps) := by
  induction ps generalizing p with
  | nil =>
    rw [joB_nil]
    induction p with
    | nil => rfl
    | cons c p ih =>
      unfold spB
      rw [if_neg (h c (List.mem_cons_self ..)), ih (fun x hx => h x (List.mem_cons_of_mem _ hx))]
  | cons q ps ihp =>
    rw [joB_cons]
    induction p with
    | nil =>
      rw [List.nil_append]
      unfold spB
      rw [if_pos rfl, ihp q (h2 q (List.mem_cons_self ..)) (fun x hx => h2 x (List.mem_cons_of_mem _ hx))]
    | cons c p ih =>
      rw [List.cons_append]
      unfold spB
      rw [if_neg (h c (List.mem_cons_self ..)), ih (fun x hx => h x (List.mem_cons_of_mem _ hx))]
theorem ixb_at (b : UInt8) (a r : List UInt8) (h : ∀ c ∈ a, c ≠ b) : Lib.indexByte (a ++ b :: r) b = (a.length : Int) := by
  induction a with
  | nil => rw [List.nil_append]; unfold Lib.indexByte; rw [if_pos (by simp)]; rfl
  | cons c a ih =>
    have h1 := h c (List.mem_cons_self ..)
    have h2 := ih (fun x hx => h x (List.mem_cons_of_mem _ hx))
    rw [List.cons_append]
    unfold Lib.indexByte
    rw [if_neg (by simpa using h1), h2, if_neg (by simp), List.length_cons]
    omega
theorem spb_k (b : UInt8) (p : List UInt8) (ps : List (List UInt8)) (h : ∀ c ∈ p, c ≠ b) (h2 : ∀ q ∈ ps, ∀ c ∈ q, c ≠ b) : Lib.splitK [b] 0 ps.length (joB b p ps) = p :: ps := by
  induction ps generalizing p with
  | nil => rw [joB_nil]; rfl
  | cons q ps ih =>
    have ix : Lib.index (p ++ b :: joB b q ps) [b] = (p.length : Int) := by rw [Lib.index_one, ixb_at _ _ _ h]
    rw [joB_cons, List.length_cons]
    unfold Lib.splitK
    rw [ix, if_neg (by simp), Int.toNat_natCast, Nat.add_zero, List.take_left, List.length_singleton]
    congr 1
    rw [show (p ++ b :: joB b q ps).drop (p.length + 1) = joB b q ps by
      rw [List.drop_append, List.drop_of_length_le (by omega), show p.length + 1 - p.length = 1 by omega]; rfl]
    exact ih q (h2 q (List.mem_cons_self ..)) (fun m hm => h2 m (List.mem_cons_of_mem _ hm))
theorem spb_count (b : UInt8) (p : List UInt8) (ps : List (List UInt8)) (h : ∀ c ∈ p, c ≠ b) (h2 : ∀ q ∈ ps, ∀ c ∈ q, c ≠ b) : Lib.countB (mkL (joB b p ps)) ⟨#[b]⟩ = ps.length := by
  show Lib.count (joB b p ps) [b] = ps.length
  rw [Lib.count_one]
  induction ps generalizing p with
  | nil => rw [joB_nil]; exact List.count_eq_zero_of_not_mem (fun e => h b e rfl)
  | cons q ps ih =>
    rw [joB_cons, List.count_append, List.count_cons_self, ih q (h2 q (List.mem_cons_self ..)) (fun m hm => h2 m (List.mem_cons_of_mem _ hm)), List.count_eq_zero_of_not_mem (fun e => h b e rfl), List.length_cons]
    omega
theorem spb_splitB (b : UInt8) (l : List UInt8) : Lib.countB (mkL l) ⟨#[b]⟩ = (spB b l).2.length ∧ Lib.splitB ⟨#[b]⟩ 0 (Lib.countB (mkL l) ⟨#[b]⟩) (mkL l) = ((spB b l).1 :: (spB b l).2).map mkL := by
  have hn := spB_no b l
  have hc := spb_count b _ _ hn.1 hn.2
  have hk := spb_k b _ _ hn.1 hn.2
  rw [spB_jo] at hc hk
  refine ⟨hc, ?_⟩
  rw [hc]
  have hd := Lib.splitB_data ⟨#[b]⟩ 0 (spB b l).2.length (mkL l)
  have hm : ∀ L : List ByteArray, L = (L.map (·.data.toList)).map mkL := fun L => by
    rw [List.map_map]
    conv => lhs; rw [← List.map_id L]
    exact List.map_congr_left fun b _ => by
      show b = mkL b.data.toList
      unfold mkL
      rw [Array.toArray_toList]
  rw [hm (Lib.splitB ⟨#[b]⟩ 0 (spB b l).2.length (mkL l)), hd]
  congr 1
theorem split_b (b : UInt8) (s : ByteArray) (w : World) (hs : s.size < 4294967281) : Calls Tryd.prog 65 #[.string s, .string ⟨#[b]⟩] w fun e w' => e = .returned (.slice (some ⟨w.heap.size, 0, none⟩) (Lib.countB s ⟨#[b]⟩ + 1) (Lib.countB s ⟨#[b]⟩ + 1)) ∧ w.alloc (.cells ((Lib.splitB ⟨#[b]⟩ 0 (Lib.countB s ⟨#[b]⟩) s).map Value.string).toArray 9) = w' := by
  have hb1 : 1 ≤ (⟨#[b]⟩ : ByteArray).size := Nat.le_refl 1
  have hle := Lib.countB_le ⟨#[b]⟩ hb1 s.size s (Nat.le_refl _)
  have hlen := Lib.splitB_all ⟨#[b]⟩ hb1 0 _ s rfl
  have c := Any.strings_genSplit_core Tryd.lays221 (by kernel_rfl) s ⟨#[b]⟩ 0 (-1) (Lib.countB s ⟨#[b]⟩ + 1) w hs hb1 (Nat.zero_le _)
    (fun x c hx => by
      have h := Tryd.strings_Index_one x b (w.alloc (.cells c 9))
      refine Calls.mono h ?_
      rintro e w' ⟨rfl, rfl⟩
      refine ⟨?_, rfl⟩
      show _ = Ending.returned (Value.int .i64 (Lib.index x.data.toList [b]))
      rw [Lib.index_one])
    (by
      have h := Tryd.strings_Count_one s b w
      refine Calls.mono h ?_
      rintro e w' ⟨rfl, rfl⟩
      refine ⟨?_, rfl⟩
      show _ = Ending.returned (Value.int .i64 ((Lib.count s.data.toList [b] : Nat) : Int))
      rw [Lib.count_one]
      rfl)
    (by decide) (by decide) (by rw [if_pos (by decide)]; omega)
  rw [Nat.add_sub_cancel, hlen] at c
  have e2 : Lib.cellsOf (Lib.splitB ⟨#[b]⟩ 0 (Lib.countB s ⟨#[b]⟩) s) (Lib.countB s ⟨#[b]⟩ + 1) = ((Lib.splitB ⟨#[b]⟩ 0 (Lib.countB s ⟨#[b]⟩) s).map Value.string).toArray := by rw [← hlen]; exact Lib.cellsOf_full _
  rw [e2] at c
  have c' : Calls Tryd.prog 114 #[.string s, .string ⟨#[b]⟩, .int .i64 0, .int .i64 (-1)] w _ := c
  go_enter Tryd.func65, Tryd.ntmps65
  go_wp2_with (go_at_call 114; refine c'.mono ?_; rintro e w' ⟨rfl, hw⟩)
  go_ret
  exact ⟨rfl, rfl⟩
/-- Texts lie in memory. -/
def PcI (w : World) (g : Nat) (P : List (List UInt8)) : Prop := g < w.heap.size ∧ ∀ i, i < P.length → w.cell? ⟨g, i, none⟩ = some (.string (mkL (P.getD i [])))
theorem PcI.below {w w' : World} {g : Nat} {P : List (List UInt8)} (h : PcI w g P) (hb : Below w.heap.size w w') : PcI w' g P :=
  ⟨Nat.lt_of_lt_of_le h.1 hb.size, fun i hi => (hb.cell (p := ⟨g, i, none⟩) h.1).trans (h.2 i hi)⟩
def pcB (b : UInt8) (l : List UInt8) : List (List UInt8) := (spB b l).1 :: (spB b l).2
theorem splitb_any (b : UInt8) (l : List UInt8) (w : World) (hs : l.length < 4294967281) : Calls Tryd.prog 65 #[.string (mkL l), .string ⟨#[b]⟩] w fun e w' => e = .returned (.slice (some ⟨w.heap.size, 0, none⟩) (pcB b l).length (pcB b l).length) ∧ PcI w' w.heap.size (pcB b l) ∧ Below w.heap.size w w' := by
  have h0 := split_b b (mkL l) w (by rw [mkL_size]; exact hs)
  obtain ⟨h1, h2⟩ := spb_splitB b l
  rw [h2, h1] at h0
  refine h0.mono ?_
  rintro e w' ⟨rfl, rfl⟩
  refine ⟨rfl, ⟨by simp, fun i hi => ?_⟩, below_alloc _ _⟩
  rw [cell_of_row _ _ _ _ _ _ (heap_alloc_new _ _)]
  rw [List.getElem?_toArray, List.getElem?_map, List.getElem?_map]
  show Option.map Value.string (Option.map mkL (pcB b l)[i]?) = _
  rw [List.getD, List.getElem?_eq_getElem hi]
  rfl
theorem pcB_len (b : UInt8) (l : List UInt8) : (pcB b l).length ≤ l.length + 1 := by
  unfold pcB
  induction l with
  | nil => simp [spB]
  | cons c r ih =>
    unfold spB
    split
    · simp only [List.length_cons] at ih ⊢; omega
    · simp only [List.length_cons] at ih ⊢; omega
theorem joB_mem (b : UInt8) (p : List UInt8) (ps : List (List UInt8)) : p.length ≤ (joB b p ps).length ∧ ∀ q ∈ ps, q.length ≤ (joB b p ps).length := by
  refine ⟨by unfold joB; rw [List.length_append]; omega, fun q hq => ?_⟩
  induction ps generalizing p with
  | nil => cases hq
  | cons x ps ih =>
    rw [joB_cons, List.length_append, List.length_cons]
    rcases List.mem_cons.1 hq with rfl | hq
    · have : q.length ≤ (joB b q ps).length := by unfold joB; rw [List.length_append]; omega
      omega
    · have := ih x hq; omega
theorem pcB_mem (b : UInt8) (l : List UInt8) : ∀ q ∈ pcB b l, q.length ≤ l.length := by
  have h := joB_mem b (spB b l).1 (spB b l).2
  rw [spB_jo] at h
  intro q hq
  rcases List.mem_cons.1 hq with rfl | hq
  · exact h.1
  · exact h.2 q hq
end Go.Proofs.YtnpiooaiceegmaaDoor
