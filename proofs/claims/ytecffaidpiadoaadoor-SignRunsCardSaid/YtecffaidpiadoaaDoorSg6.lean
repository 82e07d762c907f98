import Derived.Test.YtecffaidpiadoaaDoorSg2
set_option linter.unusedVariables false
set_option linter.unusedSimpArgs false
namespace Go.Proofs.YtecffaidpiadoaaDoor
open Go.RowKit
/-- Runs: label, from, to. -/
abbrev Rn := Int × Int × Int
/-- One more sign at place i, of label u; new: it begins a run. -/
def rnStep (R : List Rn) (new : Bool) (u i : Int) : List Rn :=
  if new = true then R ++ [(u, i, i + 1)] else R.set (R.length - 1) ((R.getD (R.length - 1) (0, 0, 0)).1, (R.getD (R.length - 1) (0, 0, 0)).2.1, i + 1)
def rnNew (l : List (Int × Int)) (i : Nat) : Bool := decide (i = 0) || (l.getD i (0, 0)).2 != (l.getD (i - 1) (0, 0)).2
/-- The runs of the first k signs. -/
def rnM (l : List (Int × Int)) : Nat → List Rn
  | 0 => []
  | k + 1 => rnStep (rnM l k) (rnNew l k) (l.getD k (0, 0)).2 k
/-- What runs are: each of one label, none beside one of the same, all signs in one of them. -/
structure RnOk (l : List (Int × Int)) (k : Nat) (R : List Rn) : Prop where
  frm : ∀ i, i < R.length → (R.getD i (0, 0, 0)).2.1 = if i = 0 then 0 else (R.getD (i - 1) (0, 0, 0)).2.2
  lt : ∀ i, i < R.length → (R.getD i (0, 0, 0)).2.1 < (R.getD i (0, 0, 0)).2.2
  lb : ∀ i, i < R.length → 0 < i → (R.getD (i - 1) (0, 0, 0)).1 ≠ (R.getD i (0, 0, 0)).1
  all : ∀ i, i < R.length → ∀ j : Nat, (R.getD i (0, 0, 0)).2.1 ≤ j → (j : Int) < (R.getD i (0, 0, 0)).2.2 → (l.getD j (0, 0)).2 = (R.getD i (0, 0, 0)).1
  last : 0 < R.length → (R.getD (R.length - 1) (0, 0, 0)).2.2 = k
  pos : 0 < k → 0 < R.length
  len : R.length ≤ k
theorem getD_snoc (R : List Rn) (x : Rn) (i : Nat) : (R ++ [x]).getD i (0, 0, 0) = if i < R.length then R.getD i (0, 0, 0) else if i = R.length then x else (0, 0, 0) := by
  rw [List.getD, List.getD]
  by_cases h : i < R.length
  · rw [List.getElem?_append_left h, if_pos h]
  · rw [List.getElem?_append_right (by omega), if_neg h]
    by_cases h2 : i = R.length
    · subst h2; simp
    · rw [if_neg h2]
      obtain ⟨m, hm⟩ : ∃ m, i - R.length = m + 1 := ⟨i - R.length - 1, by omega⟩
      rw [hm]; rfl
theorem getD_setR (R : List Rn) (i j : Nat) (x : Rn) : (R.set i x).getD j (0, 0, 0) = if i = j ∧ i < R.length then x else R.getD j (0, 0, 0) := by
  rw [List.getD, List.getD, List.getElem?_set]
  by_cases h : i = j
  · subst h
    by_cases h2 : i < R.length
    · simp [h2]
    · simp [h2]
  · simp [h]
theorem rn_bounds {l : List (Int × Int)} {k : Nat} {R : List Rn} (h : RnOk l k R) : ∀ i, i < R.length → 0 ≤ (R.getD i (0, 0, 0)).2.1 ∧ (R.getD i (0, 0, 0)).2.2 ≤ k := by
  have hlow : ∀ i, i < R.length → 0 ≤ (R.getD i (0, 0, 0)).2.1 := by
    intro i
    induction i with
    | zero => intro hi; rw [h.frm 0 hi]; simp
    | succ i ih =>
      intro hi
      have := h.frm (i + 1) hi
      rw [if_neg (by omega), Nat.add_sub_cancel] at this
      have h1 := ih (by omega)
      have h2 := h.lt i (by omega)
      omega
  have hup : ∀ d i, i + d + 1 = R.length → (R.getD i (0, 0, 0)).2.2 ≤ k := by
    intro d
    induction d with
    | zero =>
      intro i hi
      have := h.last (by omega)
      rw [show R.length - 1 = i by omega] at this
      omega
    | succ d ih =>
      intro i hi
      have h1 := ih (i + 1) (by omega)
      have h2 := h.frm (i + 1) (by omega)
      rw [if_neg (by omega), Nat.add_sub_cancel] at h2
      have h3 := h.lt (i + 1) (by omega)
      omega
  exact fun i hi => ⟨hlow i hi, hup (R.length - i - 1) i (by omega)⟩
theorem rn_ok (l : List (Int × Int)) : ∀ k, k ≤ l.length → RnOk l k (rnM l k) := by
  intro k
  induction k with
  | zero => intro _; exact ⟨fun i hi => absurd hi (by simp [rnM]), fun i hi => absurd hi (by simp [rnM]), fun i hi => absurd hi (by simp [rnM]), fun i hi => absurd hi (by simp [rnM]), fun hi => absurd hi (by simp [rnM]), fun h => absurd h (by omega), by simp [rnM]⟩
  | succ k ih =>
    intro hk
    have h := ih (by omega)
    have hb := rn_bounds h
    have hlast := h.last
    have hpos := h.pos
    have e : rnM l (k + 1) = rnStep (rnM l k) (rnNew l k) (l.getD k (0, 0)).2 k := rfl
    rw [e]
    generalize rnM l k = R at *
    unfold rnStep
    have hlastL : 0 < R.length → (l.getD (k - 1) (0, 0)).2 = (R.getD (R.length - 1) (0, 0, 0)).1 := fun hp => by
      have h1 := h.lt (R.length - 1) (by omega)
      have h0 := (hb (R.length - 1) (by omega)).1
      have h2 := hlast hp
      exact h.all (R.length - 1) (by omega) (k - 1) (by omega) (by omega)
    cases hn : rnNew l k
    · rw [if_neg (by simp)]
      unfold rnNew at hn
      rw [Bool.or_eq_false_iff] at hn
      have hk0 : k ≠ 0 := by simpa using hn.1
      have hsame : (l.getD k (0, 0)).2 = (l.getD (k - 1) (0, 0)).2 := by simpa using hn.2
      have hp := hpos (by omega)
      have hL := hlastL hp
      have h2 := hlast hp
      have hlt := h.lt (R.length - 1) (by omega)
      have hlb := fun i hi h0 => h.lb i hi h0
      refine ⟨?_, ?_, ?_, ?_, ?_, ?_, by simp; have := h.len; omega⟩
      · intro i hi
        have hi' : i < R.length := by simpa using hi
        have hf := h.frm i hi'
        rw [getD_setR, getD_setR]
        by_cases hi2 : R.length - 1 = i
        · rw [if_pos ⟨hi2, by omega⟩]
          subst hi2
          show (R.getD (R.length - 1) (0, 0, 0)).2.1 = _
          rw [hf]
          by_cases h00 : R.length - 1 = 0
          · rw [if_pos h00, if_pos h00]
          · rw [if_neg h00, if_neg h00, if_neg (by omega)]
        · rw [if_neg (by omega), hf]
          by_cases h00 : i = 0
          · rw [if_pos h00, if_pos h00]
          · rw [if_neg h00, if_neg h00, if_neg (by omega)]
      · intro i hi
        have hi' : i < R.length := by simpa using hi
        rw [getD_setR]
        by_cases hi2 : R.length - 1 = i
        · rw [if_pos ⟨hi2, by omega⟩]
          show (R.getD (R.length - 1) (0, 0, 0)).2.1 < (k : Int) + 1
          omega
        · rw [if_neg (by omega)]; exact h.lt i hi'
      · intro i hi h0
        have hi' : i < R.length := by simpa using hi
        rw [getD_setR, getD_setR]
        by_cases hi2 : R.length - 1 = i
        · rw [if_neg (by omega), if_pos ⟨hi2, by omega⟩]
          subst hi2
          exact h.lb (R.length - 1) hi' h0
        · rw [if_neg (by omega), if_neg (by omega)]; exact h.lb i hi' h0
      · intro i hi j hj1 hj2
        have hi' : i < R.length := by simpa using hi
        rw [getD_setR] at hj1 hj2 ⊢
        by_cases hi2 : R.length - 1 = i
        · rw [if_pos ⟨hi2, by omega⟩] at hj1 hj2 ⊢
          replace hj1 : (R.getD (R.length - 1) (0, 0, 0)).2.1 ≤ (j : Int) := hj1
          replace hj2 : (j : Int) < (k : Int) + 1 := hj2
          show (l.getD j (0, 0)).2 = (R.getD (R.length - 1) (0, 0, 0)).1
          by_cases hjk : j = k
          · rw [hjk, hsame, hL]
          · exact h.all (R.length - 1) (by omega) j hj1 (by omega)
        · rw [if_neg (by omega)] at hj1 hj2 ⊢
          exact h.all i hi' j hj1 hj2
      · intro _
        rw [getD_setR, List.length_set, if_pos ⟨rfl, by omega⟩]
        show (k : Int) + 1 = _
        omega
      · intro _; simpa using hp
    · rw [if_pos rfl]
      have hdiff : 0 < R.length → (R.getD (R.length - 1) (0, 0, 0)).1 ≠ (l.getD k (0, 0)).2 := fun hp => by
        unfold rnNew at hn
        rw [Bool.or_eq_true] at hn
        have hk0 : k ≠ 0 := by have := h.len; omega
        have h1 : (l.getD k (0, 0)).2 ≠ (l.getD (k - 1) (0, 0)).2 := by
          rcases hn with hn | hn
          · exact absurd (by simpa using hn) hk0
          · simpa using hn
        rw [hlastL hp] at h1
        exact fun e => h1 e.symm
      have hk0' : R.length = 0 → k = 0 := fun h0 => by
        rcases Nat.eq_zero_or_pos k with h1 | h1
        · exact h1
        · have := hpos h1; omega
      refine ⟨?_, ?_, ?_, ?_, ?_, ?_, by simp; have := h.len; omega⟩
      · intro i hi
        have hi' : i < R.length + 1 := by simpa using hi
        rw [getD_snoc, getD_snoc]
        by_cases hi2 : i < R.length
        · rw [if_pos hi2, h.frm i hi2]
          by_cases h00 : i = 0
          · rw [if_pos h00, if_pos h00]
          · rw [if_neg h00, if_neg h00, if_pos (by omega)]
        · have : i = R.length := by omega
          subst this
          rw [if_neg (by omega), if_pos rfl]
          show (k : Int) = _
          by_cases h00 : R.length = 0
          · rw [if_pos h00]; have := hk0' h00; omega
          · rw [if_neg h00, if_pos (by omega)]; exact (hlast (by omega)).symm
      · intro i hi
        have hi' : i < R.length + 1 := by simpa using hi
        rw [getD_snoc]
        by_cases hi2 : i < R.length
        · rw [if_pos hi2]; exact h.lt i hi2
        · rw [if_neg hi2, if_pos (by omega)]; show (k : Int) < (k : Int) + 1; omega
      · intro i hi h0
        have hi' : i < R.length + 1 := by simpa using hi
        rw [getD_snoc, getD_snoc]
        by_cases hi2 : i < R.length
        · rw [if_pos (by omega), if_pos hi2]; exact h.lb i hi2 h0
        · have : i = R.length := by omega
          subst this
          rw [if_pos (by omega), if_neg (by omega), if_pos rfl]
          exact hdiff (by omega)
      · intro i hi j hj1 hj2
        have hi' : i < R.length + 1 := by simpa using hi
        rw [getD_snoc] at hj1 hj2 ⊢
        by_cases hi2 : i < R.length
        · rw [if_pos hi2] at hj1 hj2 ⊢; exact h.all i hi2 j hj1 hj2
        · have hh : i = R.length := by omega
          rw [if_neg hi2, if_pos hh] at hj1 hj2 ⊢
          replace hj1 : (k : Int) ≤ (j : Int) := hj1
          replace hj2 : (j : Int) < (k : Int) + 1 := hj2
          have : j = k := by omega
          rw [this]
      · intro _
        rw [getD_snoc, List.length_append, if_neg (by simp), if_pos (by simp)]
        show (k : Int) + 1 = _
        omega
      · intro _; simp
end Go.Proofs.YtecffaidpiadoaaDoor
