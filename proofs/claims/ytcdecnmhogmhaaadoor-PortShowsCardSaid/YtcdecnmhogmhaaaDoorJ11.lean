/-
  Joined: R12 R13 V10 V11 R14.
-/
import Derived.Test.YtcdecnmhogmhaaaDoorJ07
import Derived.Test.YtcdecnmhogmhaaaDoorJ10
set_option linter.unusedVariables false
set_option linter.unusedSimpArgs false
namespace Go.Proofs.YtcdecnmhogmhaaaDoor
set_option maxRecDepth 100000
open Go.RowKit
/-- May the cell at k be where it is? -/
def CellOk (L : List Cl) (k : Nat) : Prop :=
  (L.getD k cl0).1 ≠ 0 ∧ 0 ≤ (L.getD k cl0).2.1 ∧ (L.getD k cl0).2.1 ≤ 7 ∧
  ((L.getD k cl0).1 = -1 → 0 < k ∧ cls (L.getD (k - 1) cl0).1 = 2 ∧ (L.getD (k - 1) cl0).2.1 = (L.getD k cl0).2.1 ∧ (L.getD (k - 1) cl0).2.2.2.1 = (L.getD k cl0).2.2.2.1 ∧ (L.getD (k - 1) cl0).2.2.2.2 = 0 ∧ (L.getD k cl0).2.2.2.2 = 1) ∧
  ((L.getD k cl0).1 ≠ -1 → cls (L.getD k cl0).1 = 1 ∨ cls (L.getD k cl0).1 = 3 ∨ (cls (L.getD k cl0).1 = 2 ∧ k + 1 < L.length ∧ (L.getD (k + 1) cl0).1 = -1))
def RowOk (L : List Cl) : Prop := ∀ k, k < L.length → CellOk L k
theorem getD_rt {α : Type} (a b : List α) (d : α) (j : Nat) (h : a.length ≤ j) : (a ++ b).getD j d = b.getD (j - a.length) d := by simp [List.getD, List.getElem?_append_right h]
theorem rowOk_nil : RowOk [] := fun k h => absurd h (by simp)
theorem rowOk_app {a b : List Cl} (ha : RowOk a) (hb : RowOk b) : RowOk (a ++ b) := by
  intro k hk
  rw [List.length_append] at hk
  by_cases h : k < a.length
  · obtain ⟨h1, h2, h3, h4, h5⟩ := ha k h
    unfold CellOk
    rw [getD_app a b cl0 k h, getD_app a b cl0 (k - 1) (by omega)]
    refine ⟨h1, h2, h3, h4, fun hv => ?_⟩
    rcases h5 hv with h6 | h6 | ⟨h6, h7, h8⟩
    · exact Or.inl h6
    · exact Or.inr (Or.inl h6)
    · exact Or.inr (Or.inr ⟨h6, by rw [List.length_append]; omega, by rw [getD_app a b cl0 (k + 1) h7]; exact h8⟩)
  · obtain ⟨h1, h2, h3, h4, h5⟩ := hb (k - a.length) (by omega)
    unfold CellOk
    rw [getD_rt a b cl0 k (by omega)]
    refine ⟨h1, h2, h3, fun hv => ?_, fun hv => ?_⟩
    · obtain ⟨h6, h7⟩ := h4 hv
      rw [getD_rt a b cl0 (k - 1) (by omega), show k - 1 - a.length = k - a.length - 1 by omega]
      exact ⟨by omega, h7⟩
    · rcases h5 hv with h6 | h6 | ⟨h6, h7, h8⟩
      · exact Or.inl h6
      · exact Or.inr (Or.inl h6)
      · exact Or.inr (Or.inr ⟨h6, by rw [List.length_append]; omega, by rw [getD_rt a b cl0 (k + 1) (by omega), show k + 1 - a.length = k - a.length + 1 by omega]; exact h8⟩)
theorem rowOk_one {c : Cl} (h1 : c.1 ≠ 0) (h2 : 0 ≤ c.2.1) (h3 : c.2.1 ≤ 7) (h4 : c.1 ≠ -1) (h5 : cls c.1 = 1 ∨ cls c.1 = 3) : RowOk [c] := by
  intro k hk
  obtain rfl : k = 0 := by simpa using hk
  exact ⟨h1, h2, h3, fun h => absurd h h4, fun _ => h5.elim Or.inl fun h => Or.inr (Or.inl h)⟩
theorem rowOk_two {c d : Cl} (h1 : c.1 ≠ 0) (h2 : 0 ≤ c.2.1) (h3 : c.2.1 ≤ 7) (h4 : c.1 ≠ -1) (h5 : cls c.1 = 2) (h6 : d.1 = -1) (h7 : c.2.1 = d.2.1) (h8 : c.2.2.2.1 = d.2.2.2.1) (h9 : c.2.2.2.2 = 0 ∧ d.2.2.2.2 = 1) : RowOk [c, d] := by
  intro k hk
  rcases (by simp at hk; omega : k = 0 ∨ k = 1) with rfl | rfl
  · exact ⟨h1, h2, h3, fun h => absurd h h4, fun _ => Or.inr (Or.inr ⟨h5, by simp, h6⟩)⟩
  · refine ⟨?_, ?_, ?_, fun _ => ⟨by omega, h5, h7, h8, h9⟩, fun h => absurd h6 h⟩
    · show d.1 ≠ 0; omega
    · show 0 ≤ d.2.1; omega
    · show d.2.1 ≤ 7; omega
theorem lkI_rng (v l : Int) : 0 ≤ lkI v l ∧ lkI v l ≤ 7 := by unfold lkI; split <;> split <;> split <;> omega
theorem cls_print (v : Int) (h1 : 32 ≤ v) (h2 : v < 127) : cls v = 1 := by
  have key : ∀ i : Fin 127, 32 ≤ i.val → cls (i.val : Int) = 1 := by decide +kernel
  have := key ⟨v.toNat, by omega⟩ (by show 32 ≤ v.toNat; omega)
  have e : ((v.toNat : Nat) : Int) = v := by omega
  simpa [e] using this
theorem cls_m1 : cls (-1) = 0 := by decide +kernel
theorem rowOk_all {L : List Cl} (h : ∀ c ∈ L, c.1 ≠ 0 ∧ 0 ≤ c.2.1 ∧ c.2.1 ≤ 7 ∧ c.1 ≠ -1 ∧ (cls c.1 = 1 ∨ cls c.1 = 3)) : RowOk L := by
  induction L with
  | nil => exact rowOk_nil
  | cons c L ih =>
    obtain ⟨h1, h2, h3, h4, h5⟩ := h c (by simp)
    exact rowOk_app (rowOk_one h1 h2 h3 h4 h5) (ih fun c hc => h c (by simp [hc]))
theorem rowOk_shK (v l o : Int) : RowOk (shK v l o) := by
  obtain ⟨hl0, hl7⟩ := lkI_rng v l
  have hm := cls_m1
  have hz : cls 0 = 4 := by decide +kernel
  unfold shK
  split
  · rename_i hd
    refine rowOk_all fun c hc => ?_
    unfold tkL at hc
    obtain ⟨i, hi, rfl⟩ := List.mem_map.1 hc
    have hi := List.mem_range.1 hi
    have e : (shT v).get! i = (shT v)[i] := get_get _ i hi
    have h1 := sh_byte v i hi
    have h2 := sh_ascii v hd (shT v)[i] (by show (shT v).data[i] ∈ (shT v).data.toList; rw [Array.mem_toList_iff]; exact Array.getElem_mem _)
    rw [e]
    have hcl := cls_print (((shT v)[i].toNat : Nat) : Int) (by omega) (by omega)
    exact ⟨by show (((shT v)[i].toNat : Nat) : Int) ≠ 0; omega, hl0, hl7, by show (((shT v)[i].toNat : Nat) : Int) ≠ -1; omega, Or.inl hcl⟩
  · rename_i hd
    have hr := cls_rng v
    have v0 : v ≠ 0 := fun e => by rw [e, hz] at hd; omega
    split
    · rename_i h2
      exact rowOk_two v0 hl0 hl7 (fun e => by rw [show v = -1 from e, hm] at h2; omega) h2 rfl rfl rfl ⟨rfl, rfl⟩
    · split
      · exact rowOk_nil
      · rename_i h2 h0
        exact rowOk_one v0 hl0 hl7 (fun e => by rw [show v = -1 from e, hm] at h0; omega) (by show cls v = 1 ∨ cls v = 3; omega)
theorem rowOk_vwG (l : List (Int × Int)) (f : Nat → Int) : ∀ k, RowOk (vwG l f k)
  | 0 => rowOk_nil
  | k + 1 => by rw [vwG_succ]; exact rowOk_app (rowOk_vwG l f k) (rowOk_shK _ _ _)
theorem rowOk_vw (p l : List (Int × Int)) : RowOk (vwOf p l) := rowOk_app (rowOk_vwG _ _ _) (rowOk_vwG _ _ _)
theorem rowOk_lay {L : List Cl} (h : RowOk L) : layB L = true := layB_yes fun j hj e => by
  obtain ⟨h1, h2, _⟩ := (h j hj).2.2.2.1 e
  exact ⟨by omega, fun e2 => by rw [e2, cls_m1] at h2; omega⟩
theorem getD_lt {α : Type} {a : List α} {d : α} {i : Nat} (h : i < a.length) : a.getD i d = a[i] := by simp [List.getD, h]
/-- Cells can be laid up to each beginning of a piece; where there is room, what may be shown may be shown in rows. -/
theorem ly_exists {L : List Cl} {w : Int} (hw : 1 ≤ w) (hL : layB L = true) : ∀ n k, k < n → k ≤ L.length → (k < L.length → (L.getD k cl0).1 ≠ -1) → ∃ X y S, LyI L w k X y S ∧ (1 < w → RowOk L → ∀ r ∈ X ++ [y], RowOk r)
  | 0, k, h, _, _ => absurd h (by omega)
  | n + 1, k, h, hk, hb => by
    have hput : ∀ {X : List (List Cl)} {y p : List Cl} {m : Int}, (∀ r ∈ X ++ [y], RowOk r) → RowOk p → ∀ r ∈ lyX w X y m ++ [lyY w y m ++ p], RowOk r := fun {X y p m} hr hp r h' => by
      unfold lyX lyY at h'
      split at h'
      · rcases List.mem_append.1 h' with h'' | h''
        · exact hr r h''
        · obtain rfl : r = [] ++ p := by simpa using h''
          exact hp
      · rcases List.mem_append.1 h' with h'' | h''
        · exact hr r (List.mem_append_left _ h'')
        · obtain rfl : r = y ++ p := by simpa using h''
          exact rowOk_app (hr y (by simp)) hp
    rcases Nat.eq_zero_or_pos k with rfl | hpos
    · exact ⟨[], [], [], LyI.start L w hw, fun _ _ r hr => by
        obtain rfl : r = [] := by simpa using hr
        exact rowOk_nil⟩
    · by_cases hv : (L.getD (k - 1) cl0).1 = -1
      · obtain ⟨h0, h1⟩ := layB_at hL (j := k - 1) (by omega) hv
        obtain ⟨X, y, S, hI, hR⟩ := ly_exists hw hL n (k - 2) (by omega) (by omega) (fun _ => by rw [show k - 2 = k - 1 - 1 by omega]; exact h1)
        have hv' : (L.getD (k - 2 + 1) cl0).1 = -1 := by rw [show k - 2 + 1 = k - 1 by omega]; exact hv
        have h1' : (L.getD (k - 2) cl0).1 ≠ -1 := by rw [show k - 2 = k - 1 - 1 by omega]; exact h1
        by_cases hw1 : w = 1
        · have := hI.narrow hw1 (by omega) h1' hv'
          rw [show k - 2 + 2 = k by omega] at this
          exact ⟨_, _, _, this, fun h => absurd h (by omega)⟩
        · have := hI.two (by omega) (by omega) h1' hv'
          rw [show k - 2 + 2 = k by omega] at this
          refine ⟨_, _, _, this, fun hw hL => hput (hR hw hL) ?_⟩
          have c1 := hL (k - 2) (by omega)
          have c2 := (hL (k - 2 + 1) (by omega)).2.2.2.1 hv'
          rw [Nat.add_sub_cancel] at c2
          exact rowOk_two c1.1 c1.2.1 c1.2.2.1 h1' c2.2.1 hv' c2.2.2.1 c2.2.2.2.1 c2.2.2.2.2
      · obtain ⟨X, y, S, hI, hR⟩ := ly_exists hw hL n (k - 1) (by omega) (by omega) (fun _ => hv)
        have hn : k - 1 + 1 < L.length → (L.getD (k - 1 + 1) cl0).1 ≠ -1 := by rw [show k - 1 + 1 = k by omega]; exact hb
        have := hI.one hw (by omega) hv hn
        rw [show k - 1 + 1 = k by omega] at this
        refine ⟨_, _, _, this, fun hw hL => hput (hR hw hL) ?_⟩
        have c1 := hL (k - 1) (by omega)
        refine rowOk_one c1.1 c1.2.1 c1.2.2.1 hv ?_
        rcases c1.2.2.2.2 hv with h6 | h6 | ⟨_, h7, h8⟩
        · exact Or.inl h6
        · exact Or.inr h6
        · exact absurd h8 (hn h7)
theorem lyRows_ok {L : List Cl} {w : Int} (hw : 1 ≤ w) (hL : layB L = true) : (∀ r ∈ lyRows L w, (r.length : Int) ≤ w) ∧ (1 < w → RowOk L → ∀ r ∈ lyRows L w, RowOk r) := by
  obtain ⟨X, y, S, hI, hR⟩ := ly_exists hw hL (L.length + 1) L.length (by omega) (Nat.le_refl _) (fun h => absurd h (by omega))
  by_cases hf : (y.length : Int) = w
  · rw [← (hI.full hf).1]
    refine ⟨fun r hr => ?_, fun h1 h2 r hr => ?_⟩
    · rcases List.mem_append.1 hr with h' | h'
      · exact hI.fit_all r h'
      · obtain rfl : r = [] := by simpa using h'
        simp; omega
    · rcases List.mem_append.1 hr with h' | h'
      · exact hR h1 h2 r h'
      · obtain rfl : r = [] := by simpa using h'
        exact rowOk_nil
  · rw [← (hI.rest hf).1]
    exact ⟨hI.fit_all, fun h1 h2 => hR h1 h2⟩
end Go.Proofs.YtcdecnmhogmhaaaDoor
set_option linter.unusedVariables false
set_option linter.unusedSimpArgs false
namespace Go.Proofs.YtcdecnmhogmhaaaDoor
open Go.RowKit
theorem rwS_more (L : List Cl) (w r : Int) (k : Nat) : ∀ n, ∃ t, rwS L w r (k + n) = rwS L w r k ++ t
  | 0 => ⟨[], by simp⟩
  | n + 1 => by
    obtain ⟨t, ht⟩ := rwS_more L w r k n
    exact ⟨t ++ rwO L w r (k + n), by rw [← Nat.add_assoc, rwS_succ, ht, List.append_assoc]⟩
/-- The next column is how long the row is. -/
theorem rw_col (L : List Cl) (w : Int) : ∀ k, k ≤ L.length → ((rwS L w (spS L w k).2.1 k).length : Int) = (spS L w k).2.2
  | 0, _ => by simp [rwS, spS]
  | k + 1, hk => by
    have ih := rw_col L w k (by omega)
    have hat : ∀ p, (spS L w (k + 1)).1 = (spS L w k).1 ++ [p] → ((spAll L w).getD k (0, 0)) = p := fun p e => by
      rw [spAll_at L w (k + 1) k (by omega) (by omega), e]
      have := getD_end (spS L w k).1 p (0, 0)
      rwa [spS_len] at this
    have hst := sp_step L w k
    by_cases hs : spSkip L w k = true
    · rw [if_pos hs] at hst
      have h : (L.getD k cl0).1 = -1 ∧ w = 1 := by unfold spSkip at hs; simpa using hs
      have hO : ∀ r, rwO L w r k = [] := fun r => by unfold rwO; split; rfl; rw [if_pos ⟨h.2, h.1⟩]
      rw [hst, rwS_succ, hO, List.append_nil]; exact ih
    · have h2 : ¬ (w = 1 ∧ (L.getD k cl0).1 = -1) := fun h => hs (by unfold spSkip; rw [decide_eq_true h.1, decide_eq_true h.2]; rfl)
      rw [if_neg hs] at hst
      by_cases hn : spNew L w k (spS L w k).2.2 = true
      · rw [if_pos hn] at hst
        have ha := hat _ (by rw [hst])
        rw [hst]
        show ((rwS L w ((spS L w k).2.1 + 1) (k + 1)).length : Int) = 1
        rw [rwS_at L w _ _ k (by rw [ha]) h2, if_pos rfl, rwS_none L w k (by omega) _ (by omega)]; rfl
      · rw [if_neg hn] at hst
        have ha := hat _ (by rw [hst])
        rw [hst]
        show ((rwS L w (spS L w k).2.1 (k + 1)).length : Int) = (spS L w k).2.2 + 1
        rw [rwS_at L w _ _ k (by rw [ha]) h2, if_pos rfl, List.length_append, List.length_singleton]
        omega
/-- The cell at a cell's place. -/
theorem rw_place (L : List Cl) (w : Int) (hw : w ≠ 1) (j : Nat) (hj : j < L.length) : ∃ c : Nat, (((spAll L w).getD j (0, 0)).2) = c ∧ c < (rwS L w ((spAll L w).getD j (0, 0)).1 L.length).length ∧ (rwS L w ((spAll L w).getD j (0, 0)).1 L.length).getD c cl0 = L.getD j cl0 := by
  have ih := rw_col L w j (by omega)
  have hat : ∀ p, (spS L w (j + 1)).1 = (spS L w j).1 ++ [p] → ((spAll L w).getD j (0, 0)) = p := fun p e => by
    rw [spAll_at L w (j + 1) j (by omega) (by omega), e]
    have := getD_end (spS L w j).1 p (0, 0)
    rwa [spS_len] at this
  have hst := sp_step L w j
  have hs : ¬ spSkip L w j = true := fun h => by unfold spSkip at h; rw [decide_eq_false hw, Bool.and_false] at h; cases h
  have h2 : ¬ (w = 1 ∧ (L.getD j cl0).1 = -1) := fun h => hw h.1
  have hc : rwC L w j = L.getD j cl0 := by unfold rwC; rw [if_neg (fun h => hw h.1)]
  rw [if_neg hs] at hst
  have fin : ∀ r : Int, ((spAll L w).getD j (0, 0)).1 = r → (rwS L w r j).length < (rwS L w r L.length).length ∧ (rwS L w r L.length).getD (rwS L w r j).length cl0 = L.getD j cl0 := fun r hr => by
    obtain ⟨t, ht⟩ := rwS_more L w r (j + 1) (L.length - (j + 1))
    rw [show j + 1 + (L.length - (j + 1)) = L.length by omega, rwS_at L w r r j hr h2, if_pos rfl, hc] at ht
    rw [ht]
    refine ⟨by simp, ?_⟩
    rw [getD_app _ _ _ _ (by simp), getD_end]
  by_cases hn : spNew L w j (spS L w j).2.2 = true
  · rw [if_pos hn] at hst
    have ha := hat _ (by rw [hst])
    rw [ha]
    have hz : rwS L w ((spS L w j).2.1 + 1) j = [] := rwS_none L w j (by omega) _ (by omega)
    have := fin ((spS L w j).2.1 + 1) (by rw [ha])
    rw [hz] at this
    exact ⟨0, rfl, this⟩
  · rw [if_neg hn] at hst
    have ha := hat _ (by rw [hst])
    rw [ha]
    exact ⟨_, ih.symm, fin (spS L w j).2.1 (by rw [ha])⟩
theorem spAll_end (L : List Cl) (w : Int) : (spAll L w).getD L.length (0, 0) = if (spS L w L.length).2.2 = w then ((spS L w L.length).2.1 + 1, 0) else (spS L w L.length).2 := by
  unfold spAll
  have := getD_end (spS L w L.length).1 (if (spS L w L.length).2.2 = w then ((spS L w L.length).2.1 + 1, 0) else (spS L w L.length).2) (0, 0)
  rwa [spS_len] at this
/-- At the end's place there is no cell. -/
theorem rw_end (L : List Cl) (w : Int) : ((rwS L w ((spAll L w).getD L.length (0, 0)).1 L.length).length : Int) = ((spAll L w).getD L.length (0, 0)).2 := by
  rw [spAll_end]
  split
  · show ((rwS L w ((spS L w L.length).2.1 + 1) L.length).length : Int) = 0
    rw [rwS_none L w L.length (Nat.le_refl _) _ (by omega)]; rfl
  · exact rw_col L w L.length (Nat.le_refl _)
/-- In front of. -/
def ltP (p q : Int × Int) : Prop := p.1 < q.1 ∨ p.1 = q.1 ∧ p.2 < q.2
def leP (p q : Int × Int) : Prop := p.1 < q.1 ∨ p.1 = q.1 ∧ p.2 ≤ q.2
theorem sp_next (L : List Cl) (w : Int) (hw : w ≠ 1) (k : Nat) : ∃ p, (spS L w (k + 1)).1 = (spS L w k).1 ++ [p] ∧ leP (spS L w k).2 p ∧ ltP p (spS L w (k + 1)).2 := by
  have hst := sp_step L w k
  have hs : ¬ spSkip L w k = true := fun h => by unfold spSkip at h; rw [decide_eq_false hw, Bool.and_false] at h; cases h
  rw [if_neg hs] at hst
  split at hst
  · refine ⟨_, by rw [hst], Or.inl ?_, ?_⟩
    · show (spS L w k).2.1 < (spS L w k).2.1 + 1; omega
    · rw [hst]; exact Or.inr ⟨rfl, by show (0 : Int) < 1; decide⟩
  · refine ⟨_, by rw [hst], Or.inr ⟨rfl, Int.le_refl _⟩, ?_⟩
    rw [hst]; exact Or.inr ⟨rfl, by show (spS L w k).2.2 < (spS L w k).2.2 + 1; omega⟩
theorem sp_lt (L : List Cl) (w : Int) (hw : w ≠ 1) : ∀ k j, j < k → ltP ((spS L w k).1.getD j (0, 0)) (spS L w k).2
  | 0, j, h => absurd h (by omega)
  | k + 1, j, h => by
    obtain ⟨p, hp, h1, h2⟩ := sp_next L w hw k
    by_cases hj : j < k
    · rw [sp_keep L w k j hj]
      have := sp_lt L w hw k j hj
      unfold ltP leP at *; omega
    · obtain rfl : j = k := by omega
      rw [hp]
      have := getD_end (spS L w j).1 p (0, 0)
      rw [spS_len] at this
      rw [this]; exact h2
/-- Unlike cells have unlike places. -/
theorem spAll_lt (L : List Cl) (w : Int) (hw : w ≠ 1) {i j : Nat} (hij : i < j) (hj : j ≤ L.length) : ltP ((spAll L w).getD i (0, 0)) ((spAll L w).getD j (0, 0)) := by
  rw [spAll_at L w j i hij hj]
  have h1 := sp_lt L w hw j i hij
  by_cases h : j < L.length
  · obtain ⟨p, hp, h2, _⟩ := sp_next L w hw j
    have : (spAll L w).getD j (0, 0) = p := by
      rw [spAll_at L w (j + 1) j (by omega) (by omega), hp]
      have := getD_end (spS L w j).1 p (0, 0)
      rwa [spS_len] at this
    rw [this]
    unfold ltP leP at *; omega
  · obtain rfl : j = L.length := by omega
    rw [spAll_end]
    split
    · rcases h1 with h1 | h1
      · exact Or.inl (by show ((spS L w L.length).1.getD i (0, 0)).1 < (spS L w L.length).2.1 + 1; omega)
      · exact Or.inl (by show ((spS L w L.length).1.getD i (0, 0)).1 < (spS L w L.length).2.1 + 1; omega)
    · exact h1
theorem spAll_inj (L : List Cl) (w : Int) (hw : w ≠ 1) {i j : Nat} (hi : i ≤ L.length) (hj : j ≤ L.length) (e : (spAll L w).getD i (0, 0) = (spAll L w).getD j (0, 0)) : i = j := by
  rcases Nat.lt_trichotomy i j with h | h | h
  · have := spAll_lt L w hw h hj; rw [e] at this; unfold ltP at this; omega
  · exact h
  · have := spAll_lt L w hw h hi; rw [e] at this; unfold ltP at this; omega
/-- Places hang on the values alone. -/
theorem spAll_vals {L M : List Cl} (w : Int) (h : L.map (·.1) = M.map (·.1)) : spAll L w = spAll M w := by
  have hl : L.length = M.length := by simpa using congrArg List.length h
  have hv : ∀ k, (L.getD k cl0).1 = (M.getD k cl0).1 := fun k => by
    have e := congrArg (fun l => l.getD k 0) h
    have := fun (N : List Cl) => show (N.map (·.1)).getD k 0 = (N.getD k cl0).1 by
      simp only [List.getD, List.getElem?_map]; cases N[k]? <;> rfl
    simpa only [this] using e
  have hs : ∀ k, spS L w k = spS M w k := fun k => by
    induction k with
    | zero => rfl
    | succ k ih =>
      rw [sp_step, sp_step, ih]
      have e1 : spSkip L w k = spSkip M w k := by unfold spSkip; rw [hv]
      have e2 : ∀ c, spNew L w k c = spNew M w k c := fun c => by unfold spNew spN; rw [hv, hv, hl]
      rw [e1, e2]
  unfold spAll; rw [hl, hs]
/-- Cells of filled rows, without the blanks. -/
theorem fill_cells (r : List Cl) (n : Nat) (h : ∀ c ∈ r, c.1 ≠ 0) : (fillN r n).filter (fun c => decide (c.1 ≠ 0)) = r := by
  unfold fillN
  rw [List.filter_append, List.filter_eq_self.2 (fun c hc => by simpa using h c hc), List.filter_eq_nil_iff.2 (fun c hc => by
    obtain rfl := List.eq_of_mem_replicate hc
    decide), List.append_nil]
theorem rowOk_ne {r : List Cl} (h : RowOk r) : ∀ c ∈ r, c.1 ≠ 0 := fun c hc => by
  obtain ⟨i, hi, rfl⟩ := List.getElem_of_mem hc
  have := (h i hi).1
  rwa [getD_lt hi] at this
/-- All of the rows' cells are the cells, where a row has more than one column. -/
theorem lyRows_flat {L : List Cl} {w : Int} (hw : 1 < w) (hL : layB L = true) : (lyRows L w).flatten = L := by
  have key : ∀ n k, k < n → k ≤ L.length → (k < L.length → (L.getD k cl0).1 ≠ -1) → ∃ X y S, LyI L w k X y S ∧ (X ++ [y]).flatten = L.take k := by
    intro n
    induction n with
    | zero => intro k h; omega
    | succ n ih =>
      intro k h hk hb
      have hput : ∀ {X : List (List Cl)} {y p : List Cl} {m : Int}, (lyX w X y m ++ [lyY w y m ++ p]).flatten = (X ++ [y]).flatten ++ p := fun {X y p m} => by
        unfold lyX lyY; split <;> simp
      have htk : ∀ j, j < L.length → L.take (j + 1) = L.take j ++ [L.getD j cl0] := fun j hj => by rw [List.take_add_one, List.getElem?_eq_getElem hj, getD_lt hj]; rfl
      rcases Nat.eq_zero_or_pos k with rfl | hpos
      · exact ⟨[], [], [], LyI.start L w (by omega), rfl⟩
      · by_cases hv : (L.getD (k - 1) cl0).1 = -1
        · obtain ⟨h0, h1⟩ := layB_at hL (j := k - 1) (by omega) hv
          obtain ⟨X, y, S, hI, hR⟩ := ih (k - 2) (by omega) (by omega) (fun _ => by rw [show k - 2 = k - 1 - 1 by omega]; exact h1)
          have hv' : (L.getD (k - 2 + 1) cl0).1 = -1 := by rw [show k - 2 + 1 = k - 1 by omega]; exact hv
          have h1' : (L.getD (k - 2) cl0).1 ≠ -1 := by rw [show k - 2 = k - 1 - 1 by omega]; exact h1
          have := hI.two hw (by omega) h1' hv'
          rw [show k - 2 + 2 = k by omega] at this
          refine ⟨_, _, _, this, ?_⟩
          have e := htk (k - 2 + 1) (by omega)
          rw [htk (k - 2) (by omega), show k - 2 + 1 + 1 = k by omega] at e
          rw [hput, hR, e, List.append_assoc]; rfl
        · obtain ⟨X, y, S, hI, hR⟩ := ih (k - 1) (by omega) (by omega) (fun _ => hv)
          have hn : k - 1 + 1 < L.length → (L.getD (k - 1 + 1) cl0).1 ≠ -1 := by rw [show k - 1 + 1 = k by omega]; exact hb
          have := hI.one (by omega) (by omega) hv hn
          rw [show k - 1 + 1 = k by omega] at this
          refine ⟨_, _, _, this, ?_⟩
          have e := htk (k - 1) (by omega)
          rw [show k - 1 + 1 = k by omega] at e
          rw [hput, hR, e]
  obtain ⟨X, y, S, hI, hR⟩ := key (L.length + 1) L.length (by omega) (Nat.le_refl _) (fun h => absurd h (by omega))
  rw [List.take_length] at hR
  by_cases hf : (y.length : Int) = w
  · rw [← (hI.full hf).1, List.flatten_append, hR]; simp
  · rw [← (hI.rest hf).1]; exact hR
end Go.Proofs.YtcdecnmhogmhaaaDoor
set_option linter.unusedVariables false
set_option linter.unusedSimpArgs false
namespace Go.Proofs.YtcdecnmhogmhaaaDoor
open Go.RowKit
theorem tkL_own (s : ByteArray) (a o f : Int) (k : Nat) : ∀ c ∈ tkL s a o f k, c.2.2.1 = o := by
  intro c hc
  simp only [tkL, List.mem_map] at hc
  obtain ⟨i, _, rfl⟩ := hc
  rfl
theorem shK_own (v l o : Int) : ∀ c ∈ shK v l o, c.2.2.1 = o := by
  intro c hc
  rcases cells_cases v l o with ⟨_, hs⟩ | ⟨_, _, hs⟩ | ⟨_, _, hs⟩ | ⟨_, _, hs⟩ <;> rw [hs] at hc
  · exact tkL_own _ _ _ _ _ c hc
  · simp at hc; rcases hc with rfl | rfl <;> rfl
  · simp at hc; rw [hc]
  · simp at hc
/-- How many cells the first k signs have. -/
def lnM (l : List (Int × Int)) (k : Nat) : Nat := (vwG l ofL k).length
theorem lnM_succ (l : List (Int × Int)) (k : Nat) : (lnM l (k + 1) : Int) = lnM l k + shC (l.getD k (0, 0)).1 := by
  unfold lnM; rw [vwG_succ, List.length_append, Int.natCast_add, shK_len]
theorem lnM_mono1 (l : List (Int × Int)) (k : Nat) : lnM l k ≤ lnM l (k + 1) := by unfold lnM; rw [vwG_succ, List.length_append]; omega
theorem lnM_mono (l : List (Int × Int)) (j k : Nat) (h : j ≤ k) : lnM l j ≤ lnM l k := by
  induction k with
  | zero => have : j = 0 := by omega
            rw [this]; exact Nat.le_refl _
  | succ k ih =>
    rcases Nat.lt_or_ge j (k + 1) with h1 | h1
    · exact Nat.le_trans (ih (by omega)) (lnM_mono1 l k)
    · have : j = k + 1 := by omega
      rw [this]; exact Nat.le_refl _
theorem getD_left (a b : List Cl) (j : Nat) (h : j < a.length) : (a ++ b).getD j cl0 = a.getD j cl0 := by
  simp only [List.getD]; rw [List.getElem?_append_left h]
theorem getD_right (a b : List Cl) (j : Nat) (h : a.length ≤ j) : (a ++ b).getD j cl0 = b.getD (j - a.length) cl0 := by
  simp only [List.getD]; rw [List.getElem?_append_right h]
theorem getD_memC (a : List Cl) (j : Nat) (h : j < a.length) : a.getD j cl0 ∈ a := by
  rw [List.getD, List.getElem?_eq_getElem h]; exact List.getElem_mem h
/-- Whose the cells of signs are. -/
theorem vwG_at (l : List (Int × Int)) (f : Nat → Int) : ∀ k j, j < (vwG l f k).length → ∃ i, i < k ∧ lnM l i ≤ j ∧ j < lnM l (i + 1) ∧ ((vwG l f k).getD j cl0).2.2.1 = f i := by
  intro k
  induction k with
  | zero => intro j h; simp [vwG] at h
  | succ k ih =>
    intro j h
    have e := vwG_len l f ofL
    by_cases h1 : j < (vwG l f k).length
    · obtain ⟨i, a, b, c, d⟩ := ih j h1
      exact ⟨i, by omega, b, c, by rw [vwG_succ, getD_left _ _ _ h1]; exact d⟩
    · refine ⟨k, by omega, ?_, ?_, ?_⟩
      · have := e k; unfold lnM; omega
      · have := e (k + 1); unfold lnM; omega
      · rw [vwG_succ, getD_right _ _ _ (by omega)]
        refine shK_own _ _ _ _ (getD_memC _ _ ?_)
        rw [vwG_succ, List.length_append] at h; omega
theorem vw_front (p l : List (Int × Int)) (j : Nat) (h : j < (vwG p ofP p.length).length) : ((vwOf p l).getD j cl0).2.2.1 = -1 := by
  unfold vwOf
  rw [getD_left _ _ _ h]
  obtain ⟨i, _, _, _, hd⟩ := vwG_at p ofP p.length j h
  exact hd
theorem vw_line (p l : List (Int × Int)) (j i : Nat) (hi : i < l.length) (h0 : (vwG p ofP p.length).length + lnM l i ≤ j) (h1 : j < (vwG p ofP p.length).length + lnM l (i + 1)) : ((vwOf p l).getD j cl0).2.2.1 = i := by
  unfold vwOf
  rw [getD_right _ _ _ (by omega)]
  have hm := lnM_mono l (i + 1) l.length (by omega)
  obtain ⟨i', a, b, c, hd⟩ := vwG_at l ofL l.length (j - (vwG p ofP p.length).length) (by unfold lnM at hm h1; omega)
  have : i' = i := by
    rcases (by omega : i' < i ∨ i' = i ∨ i < i') with k | k | k
    · have := lnM_mono l (i' + 1) i (by omega); omega
    · exact k
    · have := lnM_mono l (i + 1) i' (by omega); omega
  rw [hd, this]; rfl
theorem lnM_lt {l : List (Int × Int)} (h : sgC l = true) {i : Nat} (hi : i < l.length) : lnM l i < lnM l (i + 1) := by
  have h1 := lnM_succ l i
  have h2 := shC_rng _ (sgC_at h hi)
  omega
/-- Where a sign's cells begin. -/
theorem fst_line (p l : List (Int × Int)) (h : sgC l = true) (i : Nat) (hi : i ≤ l.length) : fstM (vwOf p l) (i : Int) = (vwG p ofP p.length).length + lnM l i := by
  have hlen : (vwOf p l).length = (vwG p ofP p.length).length + lnM l l.length := by unfold vwOf lnM; rw [List.length_append]
  have hlow : ∀ j, j < (vwG p ofP p.length).length + lnM l i → ((vwOf p l).getD j cl0).2.2.1 < (i : Int) := by
    intro j hj
    by_cases hj1 : j < (vwG p ofP p.length).length
    · rw [vw_front p l j hj1]; omega
    · have hm := lnM_mono l i l.length hi
      unfold vwOf
      rw [getD_right _ _ _ (by omega)]
      obtain ⟨i', a, b, c, hd⟩ := vwG_at l ofL l.length (j - (vwG p ofP p.length).length) (by unfold lnM at hm hj; omega)
      rw [hd]
      have : i' < i := by
        rcases Nat.lt_or_ge i' i with k | k
        · exact k
        · have := lnM_mono l i i' k; omega
      show (i' : Int) < i
      omega
  by_cases he : i = l.length
  · rw [he] at hlow ⊢
    rw [← hlen]
    exact fstM_none (fun j hj => hlow j (by omega))
  · have hlt := lnM_lt h (i := i) (by omega)
    have hm := lnM_mono l (i + 1) l.length (by omega)
    refine fstM_at (by omega) ?_ hlow
    rw [vw_line p l _ i (by omega) (Nat.le_refl _) (by omega)]; exact Int.le_refl _
theorem own_line (p l : List (Int × Int)) (j i : Nat) (hi : i < l.length) (h0 : (vwG p ofP p.length).length + lnM l i ≤ j) (h1 : j < (vwG p ofP p.length).length + lnM l (i + 1)) : ownM (vwOf p l) (j : Int) = i := by
  have hlen : (vwOf p l).length = (vwG p ofP p.length).length + lnM l l.length := by unfold vwOf lnM; rw [List.length_append]
  have hm := lnM_mono l (i + 1) l.length (by omega)
  unfold ownM
  rw [if_neg (by omega), if_neg (by omega), show (max (j : Int) 0).toNat = j by omega]
  exact vw_line p l j i hi h0 h1
theorem own_rng (p l : List (Int × Int)) (hl : l.length ≤ 1000) : ∀ j, j < (vwOf p l).length → -9223372036854775808 ≤ ((vwOf p l).getD j cl0).2.2.1 ∧ ((vwOf p l).getD j cl0).2.2.1 < 9223372036854775807 := by
  intro j hj
  by_cases hj1 : j < (vwG p ofP p.length).length
  · rw [vw_front p l j hj1]; omega
  · unfold vwOf at hj ⊢
    rw [List.length_append] at hj
    rw [getD_right _ _ _ (by omega)]
    obtain ⟨i', a, b, c, hd⟩ := vwG_at l ofL l.length (j - (vwG p ofP p.length).length) (by omega)
    rw [hd]
    show -9223372036854775808 ≤ (i' : Int) ∧ (i' : Int) < 9223372036854775807
    omega
end Go.Proofs.YtcdecnmhogmhaaaDoor
set_option linter.unusedVariables false
set_option linter.unusedSimpArgs false
namespace Go.Proofs.YtcdecnmhogmhaaaDoor
open Go.RowKit
/-- What is seen of a cell. -/
def seen (c : Cl) : Int × Int := (c.1, c.2.1)
theorem shS_seen {x y : List Cl} (h : shS x y = true) : x.map seen = y.map seen := by
  unfold shS at h
  rw [Bool.and_eq_true, List.all_eq_true] at h
  have hl : x.length = y.length := by simpa using h.1
  apply List.ext_getElem (by simpa using hl)
  intro j h1 h2
  have h3 := h.2 j (by simpa using h1)
  have h1' : j < x.length := by simpa using h1
  simp only [List.getD, List.getElem?_eq_getElem h1', List.getElem?_eq_getElem (hl ▸ h1'), Option.getD_some] at h3
  unfold clE at h3
  rw [Bool.and_eq_true, beq_iff_eq, beq_iff_eq] at h3
  simp only [List.getElem_map, seen, h3.1, h3.2]
theorem tkL_seen (s : ByteArray) (a o f : Int) : (tkL s a o f s.size).map seen = (s.data.toList.map fun c => (c.toNat : Int)).map fun b => (b, a) := by
  apply List.ext_getElem (by simp [tkL_len])
  intro j h1 h2
  have hj : j < s.size := by simpa [tkL_len] using h1
  simp only [tkL, List.getElem_map, List.getElem_range, seen]
  rw [get_get s j hj, Array.getElem_toList]; rfl
/-- What is seen of a sign. -/
def sgV (v a : Int) : List (Int × Int) :=
  if 3 < cls v then ((shT v).data.toList.map fun c => (c.toNat : Int)).map fun b => (b, a) else if cls v = 2 then [(v, a), (-1, a)] else if cls v = 0 then [] else [(v, a)]
theorem shK_seen (v l o : Int) : (shK v l o).map seen = sgV v (lkI v l) := by
  unfold sgV
  rcases cells_casesR v l o with ⟨h0, hs⟩ | ⟨h2, hs⟩ | ⟨h2, hs⟩ | ⟨h2, hs⟩ <;> rw [hs]
  · rw [if_neg (by omega), if_neg (by omega), if_pos h0]; rfl
  · rw [if_neg (by omega), if_pos h2]; rfl
  · rw [if_neg (by omega), if_neg (by omega), if_neg (by omega)]; rfl
  · rw [if_pos h2, tkL_seen]
theorem vwG_seen (l : List (Int × Int)) (f : Nat → Int) : ∀ k, k ≤ l.length → (vwG l f k).map seen = (l.take k).flatMap fun q => sgV q.1 (lkI q.1 q.2)
  | 0, _ => by simp [vwG]
  | k + 1, hk => by
    rw [vwG_succ, List.map_append, vwG_seen l f k (by omega), shK_seen, List.take_add_one, List.getElem?_eq_getElem (by omega), List.flatMap_append]
    simp [List.getD, List.getElem?_eq_getElem (show k < l.length by omega)]
theorem look_odd (v l : Int) : lkI v l % 2 = if 3 < cls v then 1 else 0 := by
  unfold lkI; repeat' split
  all_goals omega
theorem dg_ne (k : Nat) : (dg (k % 16)).toNat ≠ 62 := by
  have key : ∀ j : Fin 16, (dg j).toNat ≠ 62 := by decide
  exact key ⟨k % 16, Nat.mod_lt _ (by omega)⟩
theorem tell_no62 : ∀ f n l, ∀ c ∈ tell 16 f n l, c.toNat ≠ 62
  | 0, _, _, c, h => by simp [tell] at h
  | f + 1, n, l, c, h => by
    rw [tell] at h
    split at h
    · simp at h
    · rw [List.mem_append] at h
      rcases h with h | h
      · exact tell_no62 f _ _ c h
      · have : c = dg (n % 16) := by simpa using h
        rw [this]; exact dg_ne n
/-- A dangerous value's shown text: two bytes; four; or up to the first of 62. -/
def Form (L : List Int) : Prop := (∃ c, L = [94, c]) ∨ (∃ a b, L = [92, 120, a, b]) ∨ ∃ h : List Int, (∀ c ∈ h, c ≠ 62) ∧ L = [60, 85, 43] ++ h ++ [62]
def bsI (v : Int) : List Int := (shT v).data.toList.map fun c => (c.toNat : Int)
theorem form_of (v : Int) (hd : 3 < cls v) : Form (bsI v) := by
  unfold bsI
  rcases sh_lists v with ⟨h0, hs⟩ | ⟨h0, a, b, k, d, hs⟩ | ⟨h0, h1, h2, hs⟩ | ⟨h0, _, hs⟩ | ⟨h0, h1, h2, hs⟩ | ⟨h0, h00, h1, h2, h3, hs⟩
  · omega
  · omega
  · rw [hs]; exact Or.inl ⟨_, rfl⟩
  · rw [hs]; exact Or.inl ⟨_, rfl⟩
  · rw [hs]
    right; left
    have hl := hexL_len (v - 1114112) 2 2 (by show _ < 256; omega) (by decide) (by omega)
    have e : (2 : Int).toNat = 2 := rfl
    match hh : hexL (v - 1114112) 2, hl with
    | [a, b], _ => exact ⟨_, _, rfl⟩
    | [], hl => simp at hl
    | [_], hl => simp at hl
    | _ :: _ :: _ :: _, hl => simp at hl
  · rw [hs]
    right; right
    refine ⟨(hexL v 4).map fun c => (c.toNat : Int), ?_, ?_⟩
    · intro c hc
      rw [List.mem_map] at hc
      obtain ⟨x, hx, rfl⟩ := hc
      have := tell_no62 _ _ _ x hx
      omega
    · show List.map _ ([60, 85, 43] ++ hexL v 4 ++ [62]) = _
      rw [List.map_append, List.map_append]; rfl
theorem upto_62 : ∀ (h k A B : List Int), (∀ c ∈ h, c ≠ 62) → (∀ c ∈ k, c ≠ 62) → h ++ 62 :: A = k ++ 62 :: B → h = k
  | [], [], _, _, _, _, _ => rfl
  | [], y :: k, A, B, _, h2, e => by
    simp at e
    exact absurd e.1.symm (h2 y (by simp))
  | x :: h, [], A, B, h1, _, e => by
    simp at e
    exact absurd e.1 (h1 x (by simp))
  | x :: h, y :: k, A, B, h1, h2, e => by
    simp only [List.cons_append, List.cons.injEq] at e
    rw [e.1, upto_62 h k A B (fun c hc => h1 c (by simp [hc])) (fun c hc => h2 c (by simp [hc])) e.2]
/-- No such text begins another. -/
theorem form_apart {L M A B : List Int} (hL : Form L) (hM : Form M) (e : L ++ A = M ++ B) : L = M := by
  rcases hL with ⟨c, rfl⟩ | ⟨a, b, rfl⟩ | ⟨h, hh, rfl⟩ <;> rcases hM with ⟨c', rfl⟩ | ⟨a', b', rfl⟩ | ⟨h', hh', rfl⟩ <;> simp at e ⊢
  · exact e.1
  · exact ⟨e.1, e.2.1⟩
  · exact upto_62 h h' A B hh hh' e
theorem bsI_inj {v u : Int} (h : bsI v = bsI u) : shT v = shT u := by
  unfold bsI at h
  have key : ∀ a b : List UInt8, (a.map fun c => (c.toNat : Int)) = (b.map fun c => (c.toNat : Int)) → a = b := by
    intro a
    induction a with
    | nil => intro b e; cases b with
             | nil => rfl
             | cons y b => simp at e
    | cons x a ih =>
      intro b e
      cases b with
      | nil => simp at e
      | cons y b =>
        simp only [List.map_cons, List.cons.injEq] at e
        have e1 : x.toNat = y.toNat := by omega
        rw [UInt8.toNat_inj.1 e1, ih b e.2]
  have h2 := key _ _ h
  exact ByteArray.ext (Array.toList_inj.1 h2)
theorem sgV_pos {v : Int} (h : cls v ≠ 0) (a : Int) : ∃ x r, sgV v a = (x, a) :: r := by
  unfold sgV
  split
  · have hne := shT_ne v h
    cases hl : (shT v).data.toList with
    | nil => exact absurd (ByteArray.ext (Array.toList_inj.1 (by rw [hl]))) hne
    | cons x l => exact ⟨_, _, rfl⟩
  · split
    · exact ⟨_, _, rfl⟩
    · first | exact ⟨_, _, rfl⟩ | (rw [if_neg h]; exact ⟨_, _, rfl⟩)
/-- Signs that look the same in front of anything have the same value and the same looks. -/
theorem sgV_apart {v u a b : Int} {A B : List (Int × Int)} (hv : cls v ≠ 0) (hu : cls u ≠ 0) (ha : a % 2 = if 3 < cls v then 1 else 0) (hb : b % 2 = if 3 < cls u then 1 else 0) (e : sgV v a ++ A = sgV u b ++ B) : v = u ∧ a = b := by
  obtain ⟨x, r, h1⟩ := sgV_pos hv a
  obtain ⟨y, s, h2⟩ := sgV_pos hu b
  have hab : a = b := by
    rw [h1, h2] at e
    simp at e; exact e.1.2
  subst hab
  refine ⟨?_, rfl⟩
  have hd : (3 < cls v) ↔ (3 < cls u) := by
    rw [ha] at hb
    by_cases k : 3 < cls v <;> by_cases k2 : 3 < cls u <;> simp [k, k2] at hb ⊢
  by_cases k : 3 < cls v
  · have k2 := hd.1 k
    unfold sgV at e
    rw [if_pos k, if_pos k2] at e
    have e2 := congrArg (List.map Prod.fst) e
    have id1 : ∀ L : List Int, (L.map fun b => (b, a)).map Prod.fst = L := fun L => by
      rw [List.map_map]
      conv => rhs; rw [← List.map_id L]
      exact List.map_congr_left fun _ _ => rfl
    rw [List.map_append, List.map_append, id1, id1] at e2
    have e3 : bsI v ++ A.map Prod.fst = bsI u ++ B.map Prod.fst := e2
    exact sh_apart hv hu hd (bsI_inj (form_apart (form_of v k) (form_of u k2) e3))
  · have k2 : ¬ 3 < cls u := fun h => k (hd.2 h)
    have g : ∀ w : Int, cls w ≠ 0 → ¬ 3 < cls w → ∃ r, sgV w a = (w, a) :: r := fun w h0 h3 => by
      unfold sgV
      rw [if_neg h3]
      split
      · exact ⟨_, rfl⟩
      · first | exact ⟨_, rfl⟩ | (rw [if_neg h0]; exact ⟨_, rfl⟩)
    obtain ⟨r1, g1⟩ := g v hv k
    obtain ⟨r2, g2⟩ := g u hu k2
    rw [g1, g2] at e
    simp at e; exact e.1
theorem lines_apart : ∀ (x y : List (Int × Int)), (∀ q ∈ x, cls q.1 ≠ 0) → (∀ q ∈ y, cls q.1 ≠ 0) → (x.flatMap fun q => sgV q.1 (lkI q.1 q.2)) = (y.flatMap fun q => sgV q.1 (lkI q.1 q.2)) → x.map (·.1) = y.map (·.1)
  | [], [], _, _, _ => rfl
  | [], q :: y, _, h2, e => by
    obtain ⟨z, r, h⟩ := sgV_pos (h2 q (by simp)) (lkI q.1 q.2)
    rw [List.flatMap_nil, List.flatMap_cons, h] at e; cases e
  | q :: x, [], h1, _, e => by
    obtain ⟨z, r, h⟩ := sgV_pos (h1 q (by simp)) (lkI q.1 q.2)
    rw [List.flatMap_nil, List.flatMap_cons, h] at e; cases e
  | q :: x, q' :: y, h1, h2, e => by
    rw [List.flatMap_cons, List.flatMap_cons] at e
    have k := sgV_apart (h1 q (by simp)) (h2 q' (by simp)) (look_odd _ _) (look_odd _ _) e
    have e2 : sgV q.1 (lkI q.1 q.2) = sgV q'.1 (lkI q'.1 q'.2) := by rw [k.2, k.1]
    rw [e2] at e
    have ih := lines_apart x y (fun z hz => h1 z (by simp [hz])) (fun z hz => h2 z (by simp [hz])) (List.append_cancel_left e)
    simp [k.1, ih]
theorem sgC_mem {l : List (Int × Int)} (h : sgC l = true) : ∀ q ∈ l, cls q.1 ≠ 0 := by
  intro q hq
  have h2 := (List.all_eq_true.1 h) _ hq
  refine right_yes ?_
  unfold sgR at h2
  rw [Bool.and_eq_true, Bool.and_eq_true] at h2
  exact h2.2.2
/-- Two lines behind one prompt that are shown the same have the same values. -/
theorem vw_apart {p x y : List (Int × Int)} (hx : sgC x = true) (hy : sgC y = true) (h : shS (vwOf p x) (vwOf p y) = true) : x.map (·.1) = y.map (·.1) := by
  have e := shS_seen h
  unfold vwOf at e
  rw [List.map_append, List.map_append] at e
  have e2 := List.append_cancel_left e
  rw [vwG_seen _ _ _ (Nat.le_refl _), vwG_seen _ _ _ (Nat.le_refl _), List.take_length, List.take_length] at e2
  exact lines_apart x y (sgC_mem hx) (sgC_mem hy) e2
end Go.Proofs.YtcdecnmhogmhaaaDoor
set_option linter.unusedVariables false
set_option linter.unusedSimpArgs false
namespace Go.Proofs.YtcdecnmhogmhaaaDoor
open Go.RowKit
/-- The rows of a screen. -/
def scR (L : List Cl) (w top h : Nat) : List (List Cl) := (List.range h).map fun i => fillN (rwS L w ((top + i : Nat) : Int) L.length) (w - (rwS L w ((top + i : Nat) : Int) L.length).length)
theorem scR_len (L : List Cl) (w top h : Nat) : (scR L w top h).length = h := by unfold scR; rw [List.length_map, List.length_range]
theorem scR_at (L : List Cl) (w top h i : Nat) (hi : i < h) : (scR L w top h).getD i [] = fillN (rwS L w ((top + i : Nat) : Int) L.length) (w - (rwS L w ((top + i : Nat) : Int) L.length).length) := by
  unfold scR
  rw [List.getD, List.getElem?_map, List.getElem?_range hi]; rfl
theorem rwS_mem (L : List Cl) (w r : Int) (hw : w ≠ 1) : ∀ k, k ≤ L.length → ∀ c ∈ rwS L w r k, c ∈ L
  | 0, _, c, hc => by simp [rwS] at hc
  | k + 1, hk, c, hc => by
    rw [rwS_succ] at hc
    rcases List.mem_append.1 hc with h | h
    · exact rwS_mem L w r hw k (by omega) c h
    · unfold rwO at h
      split at h
      · simp at h
      · rw [if_neg (fun h => hw h.1), if_neg (fun h => hw h.1)] at h
        obtain rfl : c = L.getD k cl0 := by simpa using h
        rw [getD_lt (by omega)]; exact List.getElem_mem _
theorem flat_more {α : Type} (f : Nat → List α) (n : Nat) : ∀ m, (∀ i, n ≤ i → f i = []) → ((List.range (n + m)).map f).flatten = ((List.range n).map f).flatten
  | 0, _ => rfl
  | m + 1, h => by rw [← Nat.add_assoc, List.range_succ, List.map_append, List.flatten_append, flat_more f n m h]; simp [h (n + m) (by omega)]
theorem lyRows_more {L : List Cl} {w : Int} (i : Nat) (h : (lyRows L w).length ≤ i) : rwS L w (i : Int) L.length = [] := by
  rw [lyRows_len] at h
  refine rwS_none L w L.length (Nat.le_refl _) _ ?_
  have e := spAll_end L w
  have hr := spS_rng L w L.length
  split at e
  · rw [e] at h; simp only at h; omega
  · rw [e] at h; omega
/-- All cells are on the screen, where the rows fit. -/
theorem scR_cells {L : List Cl} {w h : Nat} (hw : 1 < w) (hL : RowOk L) (hh : (lyRows L w).length ≤ h) : (scR L w 0 h).flatten.filter (fun c => decide (c.1 ≠ 0)) = L := by
  rw [List.filter_flatten]
  have e : (scR L w 0 h).map (List.filter fun c => decide (c.1 ≠ 0)) = (List.range h).map fun (i : Nat) => rwS L w (i : Int) L.length := by
    unfold scR
    rw [List.map_map]
    apply List.map_congr_left
    intro i _
    show (fillN (rwS L w ((0 + i : Nat) : Int) L.length) _).filter _ = _
    rw [Nat.zero_add]
    exact fill_cells _ _ fun c hc => rowOk_ne hL c (rwS_mem L w i (by omega) _ (Nat.le_refl _) c hc)
  rw [e]
  have h2 := flat_more (fun (i : Nat) => rwS L w (i : Int) L.length) (lyRows L w).length (h - (lyRows L w).length) (fun i hi => lyRows_more i hi)
  rw [show (lyRows L w).length + (h - (lyRows L w).length) = h by omega] at h2
  rw [h2]
  have h3 := lyRows_flat (L := L) (w := w) (by omega) (rowOk_lay hL)
  have h4 : lyRows L w = (List.range (lyRows L w).length).map fun (i : Nat) => rwS L w (i : Int) L.length := by
    rw [lyRows_len]; rfl
  rw [← h4, h3]
theorem rowsS_seen {x y : List (List Cl)} (hl : x.length = y.length) (h : rowsS x y = true) : x.flatten.map seen = y.flatten.map seen := by
  have key : x.map (List.map seen) = y.map (List.map seen) := by
    apply List.ext_getElem (by simpa using hl)
    intro i h1 h2
    have hi : i < x.length := by simpa using h1
    have hj : i < y.length := by simpa using h2
    unfold rowsS at h
    rw [List.all_eq_true] at h
    have := shS_seen (h i (by simpa using hi))
    rw [getD_lt hi, getD_lt hj] at this
    simpa using this
  rw [List.map_flatten, List.map_flatten, key]
theorem same_seen {L M : List Cl} {w h : Nat} (hw : 1 < w) (hL : RowOk L) (hM : RowOk M) (h1 : (lyRows L w).length ≤ h) (h2 : (lyRows M w).length ≤ h) (hs : rowsS (scR L w 0 h) (scR M w 0 h) = true) : L.map seen = M.map seen := by
  have hc := rowsS_seen (by rw [scR_len, scR_len]) hs
  have key : ∀ l : List Cl, (l.filter fun c => decide (c.1 ≠ 0)).map seen = (l.map seen).filter fun q => decide (q.1 ≠ 0) := fun l => by rw [List.filter_map]; rfl
  have e := congrArg (List.filter fun q => decide (q.1 ≠ 0)) hc
  rwa [← key, ← key, scR_cells hw hL h1, scR_cells hw hM h2] at e
theorem shS_of_seen {x y : List Cl} (h : x.map seen = y.map seen) : shS x y = true := by
  have hl : x.length = y.length := by simpa using congrArg List.length h
  refine shS_yes hl fun j hj => ?_
  have e := congrArg (fun l => l[j]?) h
  simp only [List.getElem?_map, List.getElem?_eq_getElem hj, List.getElem?_eq_getElem (hl ▸ hj : j < y.length), Option.map_some, Option.some.injEq] at e
  rw [getD_lt hj, getD_lt (hl ▸ hj)]
  unfold seen at e
  unfold clE
  rw [(Prod.mk.inj e).1, (Prod.mk.inj e).2]; simp
theorem ln_vals {x y : List (Int × Int)} (h : x.map (·.1) = y.map (·.1)) : ∀ k, lnM x k = lnM y k
  | 0 => rfl
  | k + 1 => by
    have ih := ln_vals h k
    have h1 := lnM_succ x k
    have h2 := lnM_succ y k
    have hv : (x.getD k (0, 0)).1 = (y.getD k (0, 0)).1 := by
      have e := congrArg (fun l => l.getD k 0) h
      have := fun (N : List (Int × Int)) => show (N.map (·.1)).getD k 0 = (N.getD k (0, 0)).1 by
        simp only [List.getD, List.getElem?_map]; cases N[k]? <;> rfl
      simpa only [this] using e
    rw [hv] at h1
    omega
theorem ln_lt {x : List (Int × Int)} (h : sgC x = true) (a : Nat) : ∀ n, 0 < n → a + n ≤ x.length → lnM x a < lnM x (a + n)
  | 0, h0, _ => absurd h0 (by omega)
  | n + 1, _, hn => by
    have h1 := lnM_lt h (i := a + n) (by omega)
    rcases Nat.eq_zero_or_pos n with rfl | hp
    · exact h1
    · have := ln_lt h a n hp (by omega)
      rw [← Nat.add_assoc]; omega
theorem ln_inj {x : List (Int × Int)} (h : sgC x = true) {a b : Nat} (ha : a ≤ x.length) (hb : b ≤ x.length) (e : lnM x a = lnM x b) : a = b := by
  rcases Nat.lt_trichotomy a b with h' | h' | h'
  · have := ln_lt h a (b - a) (by omega) (by omega); rw [show a + (b - a) = b by omega] at this; omega
  · exact h'
  · have := ln_lt h b (a - b) (by omega) (by omega); rw [show b + (a - b) = a by omega] at this; omega
theorem vw_len (p l : List (Int × Int)) : (vwOf p l).length = (vwG p ofP p.length).length + lnM l l.length := by unfold vwOf lnM; rw [List.length_append]
theorem ln_le (x : List (Int × Int)) {a : Nat} (ha : a ≤ x.length) : lnM x a ≤ lnM x x.length := lnM_mono x a x.length ha
/-- Where all rows fit: lines shown the same have the same values; cursors at the same place are at the same place of the line. -/
theorem fits_apart {p x y : List (Int × Int)} {w h a b : Nat} (hw : 1 < w) (hx : sgC x = true) (hy : sgC y = true) (h1 : (lyRows (vwOf p x) w).length ≤ h) (h2 : (lyRows (vwOf p y) w).length ≤ h) (ha : a ≤ x.length) (hb : b ≤ y.length)
    (hs : rowsS (scR (vwOf p x) w 0 h) (scR (vwOf p y) w 0 h) = true) (hc : (spAll (vwOf p x) w).getD (fstM (vwOf p x) a) (0, 0) = (spAll (vwOf p y) w).getD (fstM (vwOf p y) b) (0, 0)) : x.map (·.1) = y.map (·.1) ∧ a = b := by
  have hse := same_seen hw (rowOk_vw p x) (rowOk_vw p y) h1 h2 hs
  have hv := vw_apart hx hy (shS_of_seen hse)
  refine ⟨hv, ?_⟩
  have hvv : (vwOf p x).map (·.1) = (vwOf p y).map (·.1) := by
    have e := congrArg (List.map Prod.fst) hse
    simpa [seen, Function.comp_def] using e
  have hlen : (vwOf p x).length = (vwOf p y).length := by simpa using congrArg List.length hvv
  have hxy : x.length = y.length := by simpa using congrArg List.length hv
  rw [spAll_vals w hvv, fst_line p x hx a ha, fst_line p y hy b hb] at hc
  have hi := spAll_inj (vwOf p y) w (by omega) (by rw [← hlen, vw_len]; have := ln_le x ha; omega) (by rw [vw_len]; have := ln_le y hb; omega) hc
  have hab : lnM x a = lnM y b := by omega
  rw [ln_vals hv] at hab
  exact ln_inj hy (by omega) hb hab
/-- The first cell of a sign of the line. -/
theorem vw_first (p l : List (Int × Int)) (h : sgC l = true) (i : Nat) (hi : i < l.length) : ∃ v a, (vwOf p l).getD ((vwG p ofP p.length).length + lnM l i) cl0 = (v, a, (i : Int), (l.getD i (0, 0)).1, 0) := by
  have hc : cls (l.getD i (0, 0)).1 ≠ 0 := sgC_at h hi
  have hlt := lnM_lt h hi
  unfold vwOf
  rw [getD_rt _ _ _ _ (by omega), Nat.add_sub_cancel_left]
  have hpre : ∃ t, vwG l ofL l.length = vwG l ofL (i + 1) ++ t := by
    have : ∀ n, ∃ t, vwG l ofL (i + 1 + n) = vwG l ofL (i + 1) ++ t := fun n => by
      induction n with
      | zero => exact ⟨[], by simp⟩
      | succ n ih => obtain ⟨t, ht⟩ := ih; exact ⟨_, by rw [← Nat.add_assoc, vwG_succ, ht, List.append_assoc]⟩
    obtain ⟨t, ht⟩ := this (l.length - (i + 1))
    exact ⟨t, by rw [← ht]; congr 1; omega⟩
  obtain ⟨t, ht⟩ := hpre
  rw [ht, getD_app _ _ _ _ (by exact hlt), vwG_succ, getD_rt _ _ _ _ (by unfold lnM; exact Nat.le_refl _), show lnM l i - (vwG l ofL i).length = 0 by unfold lnM; omega]
  generalize (l.getD i (0, 0)).1 = v at *
  generalize (l.getD i (0, 0)).2 = q at *
  unfold shK
  split
  · rename_i hd
    have hsz := (shC_rng v hc).2.2 hd
    unfold shC at hsz
    rw [if_pos hd] at hsz
    refine ⟨(((shT v).get! 0).toNat : Int), lkI v q, ?_⟩
    unfold tkL
    rw [getD_lt (by rw [List.length_map, List.length_range]; omega), List.getElem_map, List.getElem_range]
    rfl
  · split
    · exact ⟨_, _, rfl⟩
    · exact ⟨_, _, rfl⟩
end Go.Proofs.YtcdecnmhogmhaaaDoor
