/-
  Counts: what keys of a count say. No program.
-/
import Derived.Test.YteolfbamcehcpaaDoorKy1
set_option linter.unusedVariables false
set_option linter.unusedSimpArgs false
namespace Go.Proofs.YteolfbamcehcpaaDoor
set_option maxRecDepth 100000
open Go.RowKit
/-- A count: begun, digits, number, below. -/
abbrev CoS := Bool × Bool × Int × Bool
def cDig (S : List UInt8) : Bool := S.any fun c => c != 45
def cNum (S : List UInt8) : Int := S.foldl (fun n c => if c = 45 then n else min (n * 10 + ((c.toNat : Int) - 48)) 9999) 0
def cNeg (S : List UInt8) : Bool := S.foldl (fun b c => if c = 45 then !b else b) false
def cBeg (S : List UInt8) : Bool := !S.isEmpty
/-- The count that keys make. -/
def coOf (S : List UInt8) : CoS := (cBeg S, cDig S, cNum S, cNeg S)
/-- What the count says. -/
def coV (S : List UInt8) : Int := if cNeg S then -(if cDig S then cNum S else 1) else (if cDig S then cNum S else 1)
/-- Of the bytes of a count. -/
def coOk (S : List UInt8) : Prop := ∀ c ∈ S, c = 45 ∨ (48 ≤ c.toNat ∧ c.toNat ≤ 57)
/-- Which byte a key is of a count; none: of none. -/
def coB (S : List UInt8) (k : Ky) : Option UInt8 :=
  if keyB k = true ∧ (k.1 = 3 ∨ k.1 = 1 ∧ S ≠ []) ∧ 48 ≤ k.2.1 ∧ k.2.1 ≤ 57 then some k.2.1.toNat.toUInt8
  else if keyB k = true ∧ k.1 = 3 ∧ k.2.1 = 45 ∧ cDig S = false then some 45
  else none
def coN (S : List UInt8) (k : Ky) : List UInt8 := match coB S k with | some c => S ++ [c] | none => S
theorem cDig_snoc (S : List UInt8) (c : UInt8) : cDig (S ++ [c]) = (cDig S || c != 45) := by simp [cDig]
theorem cNum_snoc (S : List UInt8) (c : UInt8) : cNum (S ++ [c]) = if c = 45 then cNum S else min (cNum S * 10 + ((c.toNat : Int) - 48)) 9999 := by simp [cNum]
theorem cNeg_snoc (S : List UInt8) (c : UInt8) : cNeg (S ++ [c]) = if c = 45 then !cNeg S else cNeg S := by simp [cNeg]
theorem cBeg_snoc (S : List UInt8) (c : UInt8) : cBeg (S ++ [c]) = true := by simp [cBeg]
theorem coOk_snoc {S : List UInt8} {c : UInt8} (h : coOk S) (hc : c = 45 ∨ (48 ≤ c.toNat ∧ c.toNat ≤ 57)) : coOk (S ++ [c]) := fun x hx => by
  rcases List.mem_append.1 hx with h1 | h1
  · exact h x h1
  · simp at h1; subst h1; exact hc
theorem coOk_nil : coOk [] := fun c h => by cases h
theorem cNum_rng : ∀ S, coOk S → 0 ≤ cNum S ∧ cNum S ≤ 9999 := by
  refine snoc_ind (fun _ => ⟨by decide, by decide⟩) ?_
  intro S c ih h
  have h1 := ih (fun x hx => h x (List.mem_append_left _ hx))
  have h2 := h c (by simp)
  rw [cNum_snoc]
  split
  · exact h1
  · rename_i hc
    rcases h2 with rfl | h2
    · exact absurd rfl hc
    · omega
theorem coV_rng (S : List UInt8) (h : coOk S) : -9999 ≤ coV S ∧ coV S ≤ 9999 := by
  have := cNum_rng S h
  unfold coV
  split <;> split <;> omega
/-- The bytes of a number. -/
theorem coOk_dig {S : List UInt8} (h : ∀ c ∈ S, 48 ≤ c.toNat ∧ c.toNat ≤ 57) : coOk S := fun c hc => Or.inr (h c hc)
theorem dig_ne {c : UInt8} (h : 48 ≤ c.toNat ∧ c.toNat ≤ 57) : c ≠ 45 := fun e => by subst e; simp at h
theorem cNeg_dig : ∀ S : List UInt8, (∀ c ∈ S, 48 ≤ c.toNat ∧ c.toNat ≤ 57) → cNeg S = false := by
  refine snoc_ind (fun _ => rfl) ?_
  intro S c ih h
  rw [cNeg_snoc, if_neg (dig_ne (h c (by simp)))]
  exact ih (fun x hx => h x (List.mem_append_left _ hx))
theorem cDig_dig (S : List UInt8) (h : ∀ c ∈ S, 48 ≤ c.toNat ∧ c.toNat ≤ 57) (hn : S ≠ []) : cDig S = true := by
  obtain ⟨c, r, rfl⟩ := List.exists_cons_of_ne_nil hn
  have := dig_ne (h c (by simp))
  simp [cDig, this]
theorem worth_dig {c : UInt8} (h : 48 ≤ c.toNat ∧ c.toNat ≤ 57) : worth (c.toNat : Int) = (c.toNat : Int) - 48 := by
  unfold worth; rw [if_pos (by omega)]
theorem cNum_dv : ∀ S : List UInt8, (∀ c ∈ S, 48 ≤ c.toNat ∧ c.toNat ≤ 57) → 0 ≤ dv 10 S ∧ cNum S = min (dv 10 S) 9999 := by
  refine snoc_ind (fun _ => ⟨by decide, by decide⟩) ?_
  intro S c ih h
  have hc := h c (by simp)
  have ⟨h0, h1⟩ := ih (fun x hx => h x (List.mem_append_left _ hx))
  rw [cNum_snoc, if_neg (dig_ne hc), dv_snoc, worth_dig hc, h1]
  omega
theorem dg_dig (k : Nat) (h : k < 10) : 48 ≤ (dg k).toNat ∧ (dg k).toNat ≤ 57 := by
  have key : ∀ j : Fin 10, 48 ≤ (dg j).toNat ∧ (dg j).toNat ≤ 57 := by decide
  exact key ⟨k, h⟩
theorem tell_dig : ∀ f n l, ∀ c ∈ tell 10 f n l, 48 ≤ c.toNat ∧ c.toNat ≤ 57 := by
  intro f
  induction f with
  | zero => intro n l c h; simp [tell] at h
  | succ f ih =>
    intro n l c h
    rw [tell] at h
    split at h
    · simp at h
    · rcases List.mem_append.1 h with h | h
      · exact ih _ _ c h
      · simp at h; subst h; exact dg_dig _ (by omega)
theorem decS_co (n : Int) (h0 : 0 ≤ n) (h1 : n ≤ 65535) : (∀ c ∈ decS n, 48 ≤ c.toNat ∧ c.toNat ≤ 57) ∧ coV (decS n) = lowI n 9999 ∧ cBeg (decS n) = true := by
  have e : decS n = tell 10 20 n.toNat 1 := by unfold decS; rw [if_neg (by omega)]
  have hd : ∀ c ∈ decS n, 48 ≤ c.toNat ∧ c.toNat ≤ 57 := by rw [e]; exact tell_dig _ _ _
  have hn := decS_ne n
  refine ⟨hd, ?_, by unfold cBeg; cases hh : decS n with | nil => exact absurd hh hn | cons => rfl⟩
  have hv : dv 10 (decS n) = n := by rw [e, dv_tell 10 (by omega) (by omega) 20 _ _ (by omega)]; omega
  unfold coV
  rw [cNeg_dig _ hd, cDig_dig _ hd hn, if_neg (by decide), if_pos rfl, (cNum_dv _ hd).2, hv]
  unfold lowI; split <;> omega
end Go.Proofs.YteolfbamcehcpaaDoor
