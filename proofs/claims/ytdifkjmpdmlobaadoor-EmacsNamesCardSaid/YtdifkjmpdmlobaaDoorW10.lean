import Derived.Test.YtdifkjmpdmlobaaDoorW9
namespace Go.Proofs.YtdifkjmpdmlobaaDoor
set_option linter.unusedVariables false
set_option linter.unusedSimpArgs false
set_option maxRecDepth 100000
open Go.RowKit
theorem lst_low (l : Int) : lowI (highI l 1) 16 = lst l := by unfold lowI highI lst; split <;> split <;> (try split) <;> (try split) <;> omega
theorem hexS_pos (n l : Int) (h : 0 ≤ n) : hexS n l = hexN n (lst l) := by
  have := lst_rng l
  unfold hexS hexN; rw [if_neg (by omega), show (max (lst l) 1).toNat = (lst l).toNat by omega]
theorem hexS_neg (n l : Int) (h : n < 0) : hexS n l = [] := by unfold hexS; rw [if_pos h]
theorem hexN_ne (n l : Int) : hexN n l ≠ [] := tell_ne 16 19 _ _ (Or.inl (by omega))
theorem uh_hex (n l : Int) (h : 0 ≤ n) (h1 : n ≤ 9223372036854775807) (hl : (hexN n l).length ≤ 15) : uhR (hexN n l) = n ∧ uhE (hexN n l) = 0 := by
  have e : readOk 16 ⟨(hexN n l).toArray⟩ = true := readOk_tell 16 19 _ _ (by omega) (by omega) (Or.inl (by omega))
  have e2 : readVal 16 ⟨(hexN n l).toArray⟩ = n := by
    unfold hexN
    rw [readVal_tell 16 20 _ _ (by omega) (by omega) (by omega) (by omega)]; omega
  have ho : uhOk (hexN n l) = true := by unfold uhOk; rw [e, decide_eq_true hl]; rfl
  unfold uhR uhE
  rw [ho, e2]
  exact ⟨by rw [if_pos rfl]; unfold wrap64; omega, rfl⟩
theorem uh_cases (l : List UInt8) : (0 ≤ unhexR l ∧ uhE l = 0 ∧ uhR l = unhexR l) ∨ (unhexR l < 0 ∧ uhE l = 6 ∧ uhR l = 0) := by
  have hne : (⟨l.toArray⟩ : ByteArray).data.toList = l := by simp
  by_cases h : l.length = 0 ∨ 15 < l.length ∨ digs 16 l = false
  · right
    have ho : uhOk l = false := by
      unfold uhOk readOk
      rw [hne, ByteArray.toList_eq, hne]
      rcases h with h | h | h
      · cases l with
        | nil => simp
        | cons => simp at h
      · rw [decide_eq_false (by omega)]; simp
      · rw [h]; simp
    refine ⟨?_, ?_, ?_⟩
    · unfold unhexR; rw [if_pos h]; omega
    · simp [uhE, ho]
    · simp [uhR, ho]
  · left
    have hd : digs 16 l = true := by
      cases hx : digs 16 l with
      | true => rfl
      | false => exact absurd (Or.inr (Or.inr hx)) h
    have ⟨b1, b2⟩ := dv_bound 16 l hd
    have b3 := pow16 l.length (by omega)
    have b4 : ((16 : Nat) : Int) ^ l.length = (16 : Int) ^ l.length := rfl
    rw [b4] at b2
    have hu : unhexR l = dv 16 l := by unfold unhexR; rw [if_neg h]
    have ho : uhOk l = true := by
      unfold uhOk readOk
      rw [hne, ByteArray.toList_eq, hne, hd, decide_eq_true (by omega)]
      cases l with
      | nil => simp at h
      | cons => rfl
    have hv : readVal 16 ⟨l.toArray⟩ = dv 16 l := by
      unfold readVal; rw [hne, hd, if_pos rfl, rdv_dv, wu]; omega
    refine ⟨by omega, by simp [uhE, ho], ?_⟩
    unfold uhR
    rw [ho, if_pos rfl, hv, hu]; unfold wrap64; omega
theorem unhexR_rng (l : List UInt8) : -1 ≤ unhexR l := by
  rcases uh_cases l with h | h
  · omega
  · by_cases h2 : l.length = 0 ∨ 15 < l.length ∨ digs 16 l = false
    · unfold unhexR; rw [if_pos h2]; omega
    · have hd : digs 16 l = true := by
        cases hx : digs 16 l with
        | true => rfl
        | false => exact absurd (Or.inr (Or.inr hx)) h2
      have := (dv_bound 16 l hd).1
      unfold unhexR at *; rw [if_neg h2] at *; omega
end Go.Proofs.YtdifkjmpdmlobaaDoor
