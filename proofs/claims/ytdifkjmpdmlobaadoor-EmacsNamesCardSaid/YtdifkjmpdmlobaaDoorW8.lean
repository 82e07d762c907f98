import Derived.Test.YtdifkjmpdmlobaaDoorW7
namespace Go.Proofs.YtdifkjmpdmlobaaDoor
set_option linter.unusedVariables false
set_option linter.unusedSimpArgs false
set_option maxRecDepth 100000
open Go.RowKit
theorem decS_ne (n : Int) : decS n ≠ [] := by
  unfold decS; split
  · simp
  · exact tell_ne 10 19 _ 1 (Or.inl (by omega))
theorem tell_head (f n l : Nat) (c : UInt8) (hc : c = 45) : (tell 10 f n l).head? ≠ some c := by
  intro h
  have hd := digs_tell 10 (by omega) (by omega) f n l
  rw [digs, List.all_eq_true] at hd
  have := hd c (List.mem_of_mem_head? h)
  subst hc
  revert this; decide
theorem isEmpty_of_ne {l : List UInt8} (h : l ≠ []) : (⟨l.toArray⟩ : ByteArray).toList.isEmpty = false := by
  rw [ByteArray.toList_eq]; cases l with
  | nil => exact absurd rfl h
  | cons => rfl
theorem readOk_tell (b f n l : Nat) (hb : 2 ≤ b) (hb' : b ≤ 16) (h : 0 < l ∨ 0 < n) : readOk b ⟨(tell b (f + 1) n l).toArray⟩ = true := by
  unfold readOk
  rw [isEmpty_of_ne (tell_ne b f n l h)]
  have := digs_tell b hb hb' (f + 1) n l
  simp [this]
theorem readVal_tell (b f n l : Nat) (hb : 2 ≤ b) (hb' : b ≤ 16) (hn : n < b ^ f) (h : n < 18446744073709551616) : readVal b ⟨(tell b f n l).toArray⟩ = n := by
  unfold readVal
  have := digs_tell b hb hb' f n l
  simp only [this, if_true]
  rw [rdv_dv, dv_tell b hb hb' f n l hn, wu]; omega
theorem undV_dec (n : Int) (h0 : -9223372036854775808 ≤ n) (h1 : n ≤ 9223372036854775807) : undV (decS n) = n ∧ undD (decS n) = true := by
  unfold decS undV undD
  by_cases h : n < 0
  · rw [if_pos h]
    simp only [List.head?_cons, List.tail_cons, if_true]
    rw [readVal_tell 10 20 _ 1 (by omega) (by omega) (by omega) (by omega), readOk_tell 10 19 _ 1 (by omega) (by omega) (Or.inl (by omega))]
    refine ⟨?_, rfl⟩
    unfold wrap64; omega
  · rw [if_neg h, if_neg (tell_head 20 _ 1 45 rfl), if_neg (tell_head 20 _ 1 45 rfl)]
    rw [readVal_tell 10 20 _ 1 (by omega) (by omega) (by omega) (by omega), readOk_tell 10 19 _ 1 (by omega) (by omega) (Or.inl (by omega))]
    refine ⟨?_, rfl⟩
    unfold wrap64; omega
theorem und_dec (n : Int) (h0 : -9223372036854775808 ≤ n) (h1 : n ≤ 9223372036854775807) : undR (decS n) = n ∧ undE (decS n) = 0 := by
  have ⟨e1, e2⟩ := undV_dec n h0 h1
  have ho : undOk (decS n) = true := by unfold undOk; rw [e1, e2]; simp
  have := und_yes ho
  rw [e1] at this; exact this
theorem dec_12 : decS (-12) = [45, 49, 50] := by decide
theorem uh_12 : undR [45, 49, 50] = -12 ∧ undE [45, 49, 50] = 0 := by
  have h := und_dec (-12) (by omega) (by omega)
  rw [dec_12] at h; exact h
theorem hx_173 : uhR [48, 48, 65, 68] = 173 ∧ uhE [48, 48, 65, 68] = 0 := by
  have e : ([48, 48, 65, 68] : List UInt8) = tell 16 20 173 4 := by decide
  have ho : uhOk [48, 48, 65, 68] = true := by unfold uhOk; rw [e, readOk_tell 16 19 173 4 (by omega) (by omega) (Or.inl (by omega))]; decide
  unfold uhR uhE
  rw [ho, e, readVal_tell 16 20 173 4 (by omega) (by omega) (by omega) (by omega)]
  exact ⟨by rw [if_pos rfl]; unfold wrap64; omega, rfl⟩
theorem hex_173 : hexS 173 4 = [48, 48, 65, 68] := by decide
end Go.Proofs.YtdifkjmpdmlobaaDoor
