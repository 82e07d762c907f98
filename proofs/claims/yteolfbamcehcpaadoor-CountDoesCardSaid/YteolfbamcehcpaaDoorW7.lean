import Derived.Test.YteolfbamcehcpaaDoorW6
namespace Go.Proofs.YteolfbamcehcpaaDoor
set_option linter.unusedVariables false
set_option linter.unusedSimpArgs false
set_option maxRecDepth 100000
open Go.RowKit
theorem tell16_one (n : Nat) (h : n < 16) : tell 16 20 n 1 = [dg n] := by
  have e1 : tell 16 20 n 1 = tell 16 19 (n / 16) 0 ++ [dg (n % 16)] := by rw [tell, if_neg (by omega)]
  rw [e1, Nat.div_eq_of_lt h, Nat.mod_eq_of_lt h]; rfl
/-- The reference's hex digits, at least l (below 1 is 1). -/
def hexN (n : Int) (l : Int) : List UInt8 := tell 16 20 n.toNat (max l 1).toNat
theorem hexN_base (n l : Int) (h0 : 0 ≤ n) (h : n < 16) (hl : l ≤ 1) : hexN n l = [dg n.toNat] := by
  unfold hexN; rw [show (max l 1).toNat = 1 by omega, tell16_one _ (by omega)]
theorem hexN_step (n l : Int) (h0 : 0 ≤ n) (hn : n ≤ 9223372036854775807) (h : ¬ (n < 16 ∧ l ≤ 1)) (hl : l ≤ 16) : hexN n l = hexN (n / 16) (l - 1) ++ [dg (n % 16).toNat] := by
  have e2 : (n % 16).toNat = n.toNat % 16 := by omega
  have e3 : (n / 16).toNat = n.toNat / 16 := by omega
  unfold hexN
  have e1 : tell 16 20 n.toNat (max l 1).toNat = tell 16 19 (n.toNat / 16) ((max l 1).toNat - 1) ++ [dg (n.toNat % 16)] := by rw [tell, if_neg (by omega)]
  rw [e1, e2, e3]
  congr 1
  have hf := tell_fuel 16 (by omega) 19 (n.toNat / 16) ((max l 1).toNat - 1) (by omega) (by omega)
  rw [← hf]
  rcases (show 2 ≤ l ∨ l ≤ 1 by omega) with h2 | h2
  · rw [show (max (l - 1) 1).toNat = (max l 1).toNat - 1 by omega]
  · rw [show (max (l - 1) 1).toNat = 1 by omega, show (max l 1).toNat - 1 = 0 by omega, tell_least 16 20 _ (by omega)]
theorem hexN_len (n l : Int) : (hexN n l).length ≤ 20 := tell_len 16 20 _ _
set_option maxHeartbeats 400000 in
theorem hex_ref (k : Nat) : ∀ (n l : Int) (w : World), 0 ≤ n → n ≤ 9223372036854775807 → n.toNat < 16 ^ k → l ≤ k → l ≤ 16 → (k : Int) - 1000 ≤ l →
    Calls Tryd.prog 56 #[.int .i64 n, .int .i64 l] w fun e w' => e = .returned (.string ⟨(hexN n l).toArray⟩) ∧ w = w' := by
  induction k with
  | zero => 
    intro n l w h0 h1 hk hl hl2 hl3
    obtain rfl : n = 0 := by simp at hk; omega
    have Hd : Hid (hexN 0 l = [dg 0]) := Lib.hid (hexN_base 0 l (by omega) (by omega) (by omega))
    have : l ≤ 1 := by omega
    clear hk
    go_enter Tryd.func56, Tryd.ntmps56
    go_wp2_with (go_at_call 61; refine (digit_ref _ _ (by omega) (by omega)).mono ?_; rintro e w' ⟨rfl, rfl⟩)
    go_ret
    rw [Hd.out]
    exact ⟨rfl, rfl⟩
  | succ k ih => 
    intro n l w h0 h1 hk hl hl2 hl3
    by_cases hb : n < 16 ∧ l ≤ 1
    · obtain ⟨hb1, hb2⟩ := hb
      have Hd : Hid (hexN n l = [dg n.toNat]) := Lib.hid (hexN_base n l (by omega) (by omega) (by omega))
      clear hk ih
      go_enter Tryd.func56, Tryd.ntmps56
      go_wp2_with (go_at_call 61; refine (digit_ref _ _ (by omega) (by omega)).mono ?_; rintro e w' ⟨rfl, rfl⟩)
      go_ret
      rw [Hd.out]
      exact ⟨rfl, rfl⟩
    · have Hd : Hid (hexN n l = hexN (n / 16) (l - 1) ++ [dg (n % 16).toNat]) := Lib.hid (hexN_step n l h0 h1 hb hl2)
      have hln := hexN_len (n / 16) (l - 1)
      have hk2 : (n / 16).toNat < 16 ^ k := by
        have := pow_step 16 k n.toNat (by omega) hk
        rw [show (n / 16).toNat = n.toNat / 16 by omega]; exact this
      have Ih : Hid (∀ w : World, Calls Tryd.prog 56 #[.int .i64 (n / 16), .int .i64 (l - 1)] w fun e w' => e = .returned (.string ⟨(hexN (n / 16) (l - 1)).toArray⟩) ∧ w = w') :=
        Lib.hid fun w => ih (n / 16) (l - 1) w (by omega) (by omega) hk2 (by omega) (by omega) (by omega)
      clear hk ih hk2
      rcases (show 16 ≤ n ∨ (n < 16 ∧ 1 < l) by omega) with a | ⟨a, b⟩
      · go_enter Tryd.func56, Tryd.ntmps56
        go_wp2_with (first | (go_at_call 56; refine (Ih.out _).mono ?_; rintro e w' ⟨rfl, rfl⟩) | (go_at_call 61; refine (digit_ref _ _ (by omega) (by omega)).mono ?_; rintro e w' ⟨rfl, rfl⟩))
        go_ret
        rw [Hd.out]
        exact ⟨congrArg (fun x => Ending.returned (.string x)) (ba_app _ _), rfl⟩
      · go_enter Tryd.func56, Tryd.ntmps56
        go_wp2_with (first | (go_at_call 56; refine (Ih.out _).mono ?_; rintro e w' ⟨rfl, rfl⟩) | (go_at_call 61; refine (digit_ref _ _ (by omega) (by omega)).mono ?_; rintro e w' ⟨rfl, rfl⟩))
        go_ret
        rw [Hd.out]
        exact ⟨congrArg (fun x => Ending.returned (.string x)) (ba_app _ _), rfl⟩
end Go.Proofs.YteolfbamcehcpaaDoor
