import Derived.Test.YtdifkjmpdmlobaaDoorW3
namespace Go.Proofs.YtdifkjmpdmlobaaDoor
set_option linter.unusedVariables false
set_option linter.unusedSimpArgs false
set_option maxRecDepth 100000
open Go.RowKit
theorem tell_fuel (b : Nat) (hb : 2 ≤ b) : ∀ f n l, n < b ^ f → l ≤ f → tell b (f + 1) n l = tell b f n l := by
  intro f
  induction f with
  | zero => intro n l h hl; have : n = 0 := by simpa using h
            subst this; obtain rfl : l = 0 := by omega
            simp [tell]
  | succ f ih =>
    intro n l h hl
    have e1 : tell b (f + 1 + 1) n l = if n = 0 ∧ l = 0 then [] else tell b (f + 1) (n / b) (l - 1) ++ [dg (n % b)] := rfl
    have e2 : tell b (f + 1) n l = if n = 0 ∧ l = 0 then [] else tell b f (n / b) (l - 1) ++ [dg (n % b)] := rfl
    rw [e1, e2]
    by_cases hz : n = 0 ∧ l = 0
    · rw [if_pos hz, if_pos hz]
    · rw [if_neg hz, if_neg hz, ih _ _ (pow_step b f n hb h) (by omega)]
theorem tell_least (b f n : Nat) (h : 0 < n) : tell b f n 1 = tell b f n 0 := by
  cases f with
  | zero => rfl
  | succ f => rw [tell, tell, if_neg (by omega), if_neg (by omega)]
/-- A digit more. -/
theorem tell_more (n : Nat) (h : 10 ≤ n) (hn : n < 10 ^ 20) : tell 10 20 n 1 = tell 10 20 (n / 10) 1 ++ [dg (n % 10)] := by
  have hp := pow_step 10 19 n (by omega) hn
  have e1 : tell 10 20 n 1 = tell 10 19 (n / 10) 0 ++ [dg (n % 10)] := by rw [tell, if_neg (by omega)]
  rw [e1, tell_least 10 20 (n / 10) (by omega), tell_fuel 10 (by omega) 19 (n / 10) 0 hp (by omega)]
theorem tell_one (n : Nat) (h : n < 10) : tell 10 20 n 1 = [dg n] := by
  have e1 : tell 10 20 n 1 = tell 10 19 (n / 10) 0 ++ [dg (n % 10)] := by rw [tell, if_neg (by omega)]
  rw [e1, Nat.div_eq_of_lt h, Nat.mod_eq_of_lt h]; rfl
theorem dig_ext (n : Nat) (h : n < 16) : (⟨#[48, 49, 50, 51, 52, 53, 54, 55, 56, 57, 65, 66, 67, 68, 69, 70]⟩ : ByteArray).extract n (n + 1) = ⟨[dg n].toArray⟩ := by
  have key : ∀ j : Fin 16, (⟨#[48, 49, 50, 51, 52, 53, 54, 55, 56, 57, 65, 66, 67, 68, 69, 70]⟩ : ByteArray).data.extract j (j + 1) = #[dg j] := by decide
  apply ByteArray.ext
  rw [ByteArray.data_extract]
  exact key ⟨n, h⟩
theorem td_neg (n : Int) (h : n < 0) : n.tdiv 10 = -((-n) / 10) ∧ n.tmod 10 = -((-n) % 10) := by
  obtain ⟨m, rfl⟩ : ∃ m, n = -m := ⟨-n, by omega⟩
  rw [Int.neg_tdiv, Int.neg_tmod, Int.tdiv_eq_ediv_of_nonneg (by omega), Int.tmod_eq_emod_of_nonneg (by omega)]
  simp
theorem decS_neg1 (n : Int) (h : n < 0) (h' : -10 < n) : decS n = 45 :: [dg (-n).toNat] := by
  unfold decS; rw [if_pos h, tell_one _ (by omega), show n.natAbs = (-n).toNat by omega]
theorem decS_pos1 (n : Int) (h : 0 ≤ n) (h' : n < 10) : decS n = [dg n.toNat] := by
  unfold decS; rw [if_neg (by omega), tell_one _ (by omega)]
theorem decS_neg (n : Int) (h : n ≤ -10) (h' : -9223372036854775808 ≤ n) : decS n = decS (n.tdiv 10) ++ [dg (-(n.tmod 10)).toNat] := by
  have := td_neg n (by omega)
  have e2 : (-(n.tmod 10)).toNat = n.natAbs % 10 := by omega
  have e3 : (n.tdiv 10).natAbs = n.natAbs / 10 := by omega
  unfold decS
  rw [if_pos (by omega), if_pos (by omega), tell_more _ (by omega) (by omega), e2, e3]; rfl
theorem decS_pos (n : Int) (h : 10 ≤ n) (h' : n ≤ 9223372036854775807) : decS n = decS (n / 10) ++ [dg (n % 10).toNat] := by
  have e2 : (n % 10).toNat = n.toNat % 10 := by omega
  have e3 : (n / 10).toNat = n.toNat / 10 := by omega
  unfold decS
  rw [if_neg (by omega), if_neg (by omega), tell_more _ (by omega) (by omega), e2, e3]
theorem decS_len (n : Int) : (decS n).length ≤ 21 := by
  unfold decS; split
  · have := tell_len 10 20 n.natAbs 1; simp; omega
  · have := tell_len 10 20 n.toNat 1; omega
end Go.Proofs.YtdifkjmpdmlobaaDoor
