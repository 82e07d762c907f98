import Derived.Test.YtecffaidpiadoaaDoorU3
namespace Go.Proofs.YtecffaidpiadoaaDoor
open Go.RowKit
theorem ret_boolU {a b : Bool} (h : a = b) : Ending.returned (.bool a) = .returned (.bool b) := by rw [h]
theorem sizeB_cases (c : Nat) (h : c < 256) : (c < 128 ∧ sizeB c = 1) ∨ (194 ≤ c ∧ c ≤ 223 ∧ sizeB c = 2) ∨ (224 ≤ c ∧ c ≤ 239 ∧ sizeB c = 3) ∨ (240 ≤ c ∧ c ≤ 244 ∧ sizeB c = 4) ∨ (128 ≤ c ∧ c < 194 ∧ sizeB c = 0) ∨ (244 < c ∧ sizeB c = 0) := by
  unfold sizeB; repeat' split
  all_goals omega
set_option maxRecDepth 100000 in
theorem size_ref (c : UInt8) (w : World) : Calls Tryd.prog 47 #[.int .u8 (c.toNat : Int)] w fun e w' => e = .returned (.int .i64 (sizeB c.toNat : Int)) ∧ w' = w := by
  have h1 := c.toNat_lt
  generalize c.toNat = n at *
  rcases sizeB_cases n (by omega) with ⟨h, e⟩ | ⟨h, h', e⟩ | ⟨h, h', e⟩ | ⟨h, h', e⟩ | ⟨h, h', e⟩ | ⟨h, e⟩
  all_goals
    rw [e]; clear e
    go_enter Tryd.func47, Tryd.ntmps47
    go_wp2
    go_ret
    exact ⟨rfl, rfl⟩
set_option maxRecDepth 100000 in
set_option maxHeartbeats 4000000 in
theorem may_ref (f c : UInt8) (i : Int) (w : World) : Calls Tryd.prog 71 #[.int .u8 (f.toNat : Int), .int .u8 (c.toNat : Int), .int .i64 i] w fun e w' => e = .returned (.bool (mayB f.toNat c.toNat i.toNat)) ∧ w' = w := by
  have h1 := c.toNat_lt
  have h2 := f.toNat_lt
  have hm := mayB_iff f.toNat c.toNat i.toNat
  generalize c.toNat = n at *
  generalize f.toNat = k at *
  by_cases ha : 128 ≤ n ∧ n ≤ 191
  · by_cases hb : 1 < i
    · have e : mayB k n i.toNat = true := hm.2 ⟨ha, Or.inl (by omega)⟩
      rw [e]; clear e hm
      obtain ⟨ha1, ha2⟩ := ha
      go_enter Tryd.func71, Tryd.ntmps71
      go_wp2
      go_ret
      exact ⟨rfl, rfl⟩
    · obtain ⟨ha1, ha2⟩ := ha
      have e : mayB k n i.toNat = !(decide (k = 224 ∧ n < 160) || decide (k = 237 ∧ 159 < n) || decide (k = 240 ∧ n < 144) || decide (k = 244 ∧ 143 < n)) := by
        rw [Bool.eq_iff_iff, hm]; simp; omega
      rw [e]; clear e hm
      rcases (show k = 224 ∨ k = 237 ∨ k = 240 ∨ k = 244 ∨ (k ≠ 224 ∧ k ≠ 237 ∧ k ≠ 240 ∧ k ≠ 244) by omega) with rfl | rfl | rfl | rfl | ⟨n1, n2, n3, n4⟩
      case inr.inr.inr.inr =>
        have e1 : ((k : Int) == 224) = false := by rw [beq_eq_false_iff_ne]; omega
        have e2 : ((k : Int) == 237) = false := by rw [beq_eq_false_iff_ne]; omega
        have e3 : ((k : Int) == 240) = false := by rw [beq_eq_false_iff_ne]; omega
        have e4 : ((k : Int) == 244) = false := by rw [beq_eq_false_iff_ne]; omega
        go_enter Tryd.func71, Tryd.ntmps71
        go_wp2
        go_ret
        exact ⟨ret_boolU (by first | (simp; done) | (simp; omega)), rfl⟩
      all_goals
        go_enter Tryd.func71, Tryd.ntmps71
        go_wp2
        all_goals
          go_ret
          exact ⟨ret_boolU (by first | (simp; done) | (simp; omega)), rfl⟩
  · have e : mayB k n i.toNat = false := by
      cases hx : mayB k n i.toNat with
      | false => rfl
      | true => exact absurd (hm.1 hx).1 ha
    rw [e]; clear e hm
    rcases (show n < 128 ∨ 191 < n by omega) with h | h
    all_goals
      go_enter Tryd.func71, Tryd.ntmps71
      go_wp2
      go_ret
      exact ⟨rfl, rfl⟩
end Go.Proofs.YtecffaidpiadoaaDoor
