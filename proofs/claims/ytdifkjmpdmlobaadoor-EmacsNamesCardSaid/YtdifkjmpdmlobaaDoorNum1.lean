import Derived.Test.YtdifkjmpdmlobaaDoorNum0
namespace Go.Proofs.YtdifkjmpdmlobaaDoor
set_option linter.unusedVariables false
set_option linter.unusedSimpArgs false
set_option maxRecDepth 100000
open Go

theorem wu (n : Int) : IntKind.u64.wrap n = n % 18446744073709551616 := by
  simp [IntKind.wrap, IntKind.bits, IntKind.signed]

theorem wu_step (x b y : Int) : IntKind.u64.wrap (IntKind.u64.wrap (IntKind.u64.wrap x * b) + y) = IntKind.u64.wrap (x * b + y) := by
  simp only [wu]
  rw [Int.add_emod, Int.emod_emod_of_dvd _ (Int.dvd_refl _), Int.mul_emod, Int.emod_emod_of_dvd _ (Int.dvd_refl _), ← Int.mul_emod, ← Int.add_emod]

/-- Digits' number, not around anything. -/
def dv (b : Nat) (l : List UInt8) : Int := l.foldl (fun n c => n * b + worth (c.toNat : Int)) 0
theorem dv_snoc (b : Nat) (l : List UInt8) (c : UInt8) : dv b (l ++ [c]) = dv b l * b + worth (c.toNat : Int) := by simp [dv]

theorem snoc_ind {P : List UInt8 → Prop} (h0 : P []) (h1 : ∀ l c, P l → P (l ++ [c])) : ∀ l, P l := by
  intro l
  have h : ∀ r : List UInt8, P r.reverse := by
    intro r
    induction r with
    | nil => exact h0
    | cons c r ih => rw [List.reverse_cons]; exact h1 _ _ ih
  have := h l.reverse
  rwa [List.reverse_reverse] at this

theorem rdv_dv (b : Nat) (l : List UInt8) : rdv b l = IntKind.u64.wrap (dv b l) := by
  refine snoc_ind (P := fun l => rdv b l = IntKind.u64.wrap (dv b l)) rfl ?_ l
  intro l c ih
  rw [rdv_snoc, dv_snoc, ih, wu_step]

theorem worth_dg (k : Nat) (h : k < 16) : worth ((dg k).toNat : Int) = k := by
  have key : ∀ j : Fin 16, worth ((dg j).toNat : Int) = (j.val : Int) := by decide
  exact key ⟨k, h⟩

theorem dv_tell (b : Nat) (hb : 2 ≤ b) (hb' : b ≤ 16) : ∀ f n l, n < b ^ f → dv b (tell b f n l) = n := by
  intro f
  induction f with
  | zero => intro n l h; have : n = 0 := by simpa using h
            subst this; rfl
  | succ f ih =>
    intro n l h
    rw [tell]
    by_cases hz : n = 0 ∧ l = 0
    · rw [if_pos hz, hz.1]; rfl
    · have hm : n % b < b := Nat.mod_lt _ (by omega)
      rw [if_neg hz, dv_snoc, ih _ _ (pow_step b f n hb h), worth_dg _ (by omega)]
      have := Nat.div_add_mod n b
      rw [Nat.mul_comm] at this
      have e : ((n / b * b + n % b : Nat) : Int) = n := by rw [this]
      simpa using e

theorem digs_tell (b : Nat) (hb : 2 ≤ b) (hb' : b ≤ 16) : ∀ f n l, digs b (tell b f n l) = true := by
  intro f
  induction f with
  | zero => intro n l; rfl
  | succ f ih =>
    intro n l
    rw [tell]
    by_cases hz : n = 0 ∧ l = 0
    · rw [if_pos hz]; rfl
    · have hm : n % b < b := Nat.mod_lt _ (by omega)
      rw [if_neg hz, digs_snoc, ih, worth_dg _ (by omega)]
      simp; omega

theorem dv_bound (b : Nat) (l : List UInt8) : digs b l = true → 0 ≤ dv b l ∧ dv b l < (b : Int) ^ l.length := by
  refine snoc_ind (P := fun l => digs b l = true → 0 ≤ dv b l ∧ dv b l < (b : Int) ^ l.length) (fun _ => ⟨Int.le_refl 0, by simp [dv]⟩) ?_ l
  intro l c ih h
  rw [digs_snoc, Bool.and_eq_true] at h
  have ⟨i1, i2⟩ := ih h.1
  have hw : worth (c.toNat : Int) < b := by simpa using h.2
  have hn := worth_nonneg (c.toNat : Int)
  rw [dv_snoc, List.length_append]
  have hbn : (0 : Int) ≤ b := Int.natCast_nonneg b
  refine ⟨Int.add_nonneg (Int.mul_nonneg i1 hbn) hn, ?_⟩
  have h1 : dv b l + 1 ≤ (b : Int) ^ l.length := i2
  have h2 := Int.mul_le_mul_of_nonneg_right h1 hbn
  rw [Int.add_mul] at h2
  show _ < (b : Int) ^ (l.length + 1)
  rw [Int.pow_succ]
  omega

theorem tell_ne (b f n l : Nat) (h : 0 < l ∨ 0 < n) : tell b (f + 1) n l ≠ [] := by
  rw [tell, if_neg (by omega)]; simp

end Go.Proofs.YtdifkjmpdmlobaaDoor
