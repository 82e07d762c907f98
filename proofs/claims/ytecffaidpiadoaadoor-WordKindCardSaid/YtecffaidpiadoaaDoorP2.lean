import Derived.Test.YtecffaidpiadoaaDoorP1
set_option linter.unusedVariables false
set_option linter.unusedSimpArgs false
namespace Go.Proofs.YtecffaidpiadoaaDoor
open Go.RowKit
set_option maxRecDepth 100000 in
set_option maxHeartbeats 4000000 in
theorem kind_ref (v : Int) (w : World) : Calls Tryd.prog 38 #[.int .i64 v] w fun e w' => e = .returned (.int .i64 (knd v)) ∧ Below w.heap.size w w' := by
  have R := fun w => of_ref v w
  rw [← cls_eq] at R
  have hk0 := cls_lo v
  by_cases hv : v < 128
  · replace hk0 := hk0 hv
    generalize cls v = c at *
    have c10 : (c == 10) = false := by rw [beq_eq_false_iff_ne]; omega
    replace R := Lib.hid R
    clear hk0
    rcases (show v = 9 ∨ v = 10 ∨ v = 13 ∨ v = 32 ∨ v = 95 ∨ (97 ≤ v ∧ v ≤ 122) ∨ (65 ≤ v ∧ v ≤ 90) ∨ (48 ≤ v ∧ v ≤ 57) ∨ (v ≠ 9 ∧ v ≠ 10 ∧ v ≠ 13 ∧ v ≠ 32 ∧ v ≠ 95 ∧ (v < 48 ∨ 57 < v ∧ v < 65 ∨ 90 < v ∧ v < 97 ∨ 122 < v)) by omega) with rfl | rfl | rfl | rfl | rfl | ⟨h1, h2⟩ | ⟨h1, h2⟩ | ⟨h1, h2⟩ | ⟨n9, n10, n13, n32, n95, h⟩
    · have Hk : Hid (knd 9 = 0) := Lib.hid (knd_0 (by omega))
      go_enter Tryd.func38, Tryd.ntmps38
      go_wp2_with (go_at_call 24; refine (R.out _).mono ?_; rintro e w1 ⟨rfl, hb1⟩)
      go_ret
      rw [Hk.out]; exact ⟨rfl, hb1⟩
    · have Hk : Hid (knd 10 = 0) := Lib.hid (knd_0 (by omega))
      go_enter Tryd.func38, Tryd.ntmps38
      go_wp2_with (go_at_call 24; refine (R.out _).mono ?_; rintro e w1 ⟨rfl, hb1⟩)
      go_ret
      rw [Hk.out]; exact ⟨rfl, hb1⟩
    · have Hk : Hid (knd 13 = 0) := Lib.hid (knd_0 (by omega))
      go_enter Tryd.func38, Tryd.ntmps38
      go_wp2_with (go_at_call 24; refine (R.out _).mono ?_; rintro e w1 ⟨rfl, hb1⟩)
      go_ret
      rw [Hk.out]; exact ⟨rfl, hb1⟩
    · have Hk : Hid (knd 32 = 0) := Lib.hid (knd_0 (by omega))
      go_enter Tryd.func38, Tryd.ntmps38
      go_wp2_with (go_at_call 24; refine (R.out _).mono ?_; rintro e w1 ⟨rfl, hb1⟩)
      go_ret
      rw [Hk.out]; exact ⟨rfl, hb1⟩
    · have Hk : Hid (knd 95 = 1) := Lib.hid (knd_1 (by omega) (by omega))
      go_enter Tryd.func38, Tryd.ntmps38
      go_wp2_with (go_at_call 24; refine (R.out _).mono ?_; rintro e w1 ⟨rfl, hb1⟩)
      go_ret
      rw [Hk.out]; exact ⟨rfl, hb1⟩
    all_goals
      have e9 : (v == 9) = false := by rw [beq_eq_false_iff_ne]; omega
      have e10 : (v == 10) = false := by rw [beq_eq_false_iff_ne]; omega
      have e13 : (v == 13) = false := by rw [beq_eq_false_iff_ne]; omega
      have e32 : (v == 32) = false := by rw [beq_eq_false_iff_ne]; omega
      have e95 : (v == 95) = false := by rw [beq_eq_false_iff_ne]; omega
    · have Hk : Hid (knd v = 1) := Lib.hid (knd_1 (by omega) (by omega))
      go_enter Tryd.func38, Tryd.ntmps38
      go_wp2_with (go_at_call 24; refine (R.out _).mono ?_; rintro e w1 ⟨rfl, hb1⟩)
      go_ret
      rw [Hk.out]; exact ⟨rfl, hb1⟩
    · have Hk : Hid (knd v = 1) := Lib.hid (knd_1 (by omega) (by omega))
      go_enter Tryd.func38, Tryd.ntmps38
      go_wp2_with (go_at_call 24; refine (R.out _).mono ?_; rintro e w1 ⟨rfl, hb1⟩)
      go_ret
      rw [Hk.out]; exact ⟨rfl, hb1⟩
    · have Hk : Hid (knd v = 1) := Lib.hid (knd_1 (by omega) (by omega))
      go_enter Tryd.func38, Tryd.ntmps38
      go_wp2_with (go_at_call 24; refine (R.out _).mono ?_; rintro e w1 ⟨rfl, hb1⟩)
      go_ret
      rw [Hk.out]; exact ⟨rfl, hb1⟩
    · have Hk : Hid (knd v = 2) := Lib.hid (knd_2 (by omega) (by omega) hv)
      clear n9 n10 n13 n32 n95
      rcases h with h | ⟨h, h'⟩ | ⟨h, h'⟩ | h
      all_goals
        go_enter Tryd.func38, Tryd.ntmps38
        go_wp2_with (go_at_call 24; refine (R.out _).mono ?_; rintro e w1 ⟨rfl, hb1⟩)
        go_ret
        rw [Hk.out]; exact ⟨rfl, hb1⟩
  · have e9 : (v == 9) = false := by rw [beq_eq_false_iff_ne]; omega
    have e10 : (v == 10) = false := by rw [beq_eq_false_iff_ne]; omega
    have e13 : (v == 13) = false := by rw [beq_eq_false_iff_ne]; omega
    have e32 : (v == 32) = false := by rw [beq_eq_false_iff_ne]; omega
    have e95 : (v == 95) = false := by rw [beq_eq_false_iff_ne]; omega
    have hk := knd_far (v := v) (by omega)
    clear hk0
    generalize cls v = c at *
    replace R := Lib.hid R
    rcases (show c = 10 ∨ c = 1 ∨ c = 2 ∨ c = 3 ∨ (c ≠ 10 ∧ c ≠ 1 ∧ c ≠ 2 ∧ c ≠ 3) by omega) with rfl | rfl | rfl | rfl | ⟨n10, n1, n2, n3⟩
    · have Hk : Hid (knd v = 0) := Lib.hid (by rw [hk]; rfl)
      clear hk
      go_enter Tryd.func38, Tryd.ntmps38
      go_wp2_with (go_at_call 24; refine (R.out _).mono ?_; rintro e w1 ⟨rfl, hb1⟩)
      go_ret
      rw [Hk.out]; exact ⟨rfl, hb1⟩
    · have Hk : Hid (knd v = 1) := Lib.hid (by rw [hk]; rfl)
      clear hk
      go_enter Tryd.func38, Tryd.ntmps38
      go_wp2_with (go_at_call 24; refine (R.out _).mono ?_; rintro e w1 ⟨rfl, hb1⟩)
      go_ret
      rw [Hk.out]; exact ⟨rfl, hb1⟩
    · have Hk : Hid (knd v = 1) := Lib.hid (by rw [hk]; rfl)
      clear hk
      go_enter Tryd.func38, Tryd.ntmps38
      go_wp2_with (go_at_call 24; refine (R.out _).mono ?_; rintro e w1 ⟨rfl, hb1⟩)
      go_ret
      rw [Hk.out]; exact ⟨rfl, hb1⟩
    · have Hk : Hid (knd v = 1) := Lib.hid (by rw [hk]; rfl)
      clear hk
      go_enter Tryd.func38, Tryd.ntmps38
      go_wp2_with (go_at_call 24; refine (R.out _).mono ?_; rintro e w1 ⟨rfl, hb1⟩)
      go_ret
      rw [Hk.out]; exact ⟨rfl, hb1⟩
    · have Hk : Hid (knd v = 2) := Lib.hid (by rw [hk, if_neg n10, if_neg (by omega)])
      have c10 : (c == 10) = false := by rw [beq_eq_false_iff_ne]; omega
      have c1 : (c == 1) = false := by rw [beq_eq_false_iff_ne]; omega
      have c2 : (c == 2) = false := by rw [beq_eq_false_iff_ne]; omega
      have c3 : (c == 3) = false := by rw [beq_eq_false_iff_ne]; omega
      clear hk n10 n1 n2 n3
      go_enter Tryd.func38, Tryd.ntmps38
      go_wp2_with (go_at_call 24; refine (R.out _).mono ?_; rintro e w1 ⟨rfl, hb1⟩)
      go_ret
      rw [Hk.out]; exact ⟨rfl, hb1⟩
end Go.Proofs.YtecffaidpiadoaaDoor
