/-
  Kinds of values: the program's, the reference's. Slices of signs.
-/
import Derived.Test.YtecffaidpiadoaaDoorC12
set_option linter.unusedVariables false
set_option linter.unusedSimpArgs false
namespace Go.Proofs.YtecffaidpiadoaaDoor
open Go.RowKit
/-- A value's kind. -/
def knd (v : Int) : Int := if v = 9 ∨ v = 10 ∨ v = 13 ∨ v = 32 then 0 else if 97 ≤ v ∧ v ≤ 122 ∨ 65 ≤ v ∧ v ≤ 90 ∨ 48 ≤ v ∧ v ≤ 57 ∨ v = 95 then 1 else if v < 128 then 2 else if cls v = 10 then 0 else if cls v = 1 ∨ cls v = 2 ∨ cls v = 3 then 1 else 2
theorem knd_rng (v : Int) : 0 ≤ knd v ∧ knd v ≤ 2 := by unfold knd; repeat' split
                                                        all_goals omega
theorem cls_lo (v : Int) (h : v < 128) : cls v ≠ 10 := by
  by_cases h0 : v < 0
  · have : cls v = 0 := by
      unfold cls rght
      rcases pnt_cases v with ⟨h1, h2⟩ | ⟨h1, h2⟩
      · omega
      rcases stry_cases v with ⟨h3, h4, h5⟩ | ⟨h3, h4⟩
      · omega
      rw [h1, h3]; rfl
    omega
  · have key : ∀ i : Fin 128, cls (i.val : Int) ≠ 10 := by decide +kernel
    have := key ⟨v.toNat, by omega⟩
    have e : ((v.toNat : Nat) : Int) = v := by omega
    simpa [e] using this
theorem knd_0 {v : Int} (h : v = 9 ∨ v = 10 ∨ v = 13 ∨ v = 32) : knd v = 0 := by unfold knd; rw [if_pos h]
theorem knd_1 {v : Int} (h0 : ¬ (v = 9 ∨ v = 10 ∨ v = 13 ∨ v = 32)) (h : 97 ≤ v ∧ v ≤ 122 ∨ 65 ≤ v ∧ v ≤ 90 ∨ 48 ≤ v ∧ v ≤ 57 ∨ v = 95) : knd v = 1 := by unfold knd; rw [if_neg h0, if_pos h]
theorem knd_2 {v : Int} (h0 : ¬ (v = 9 ∨ v = 10 ∨ v = 13 ∨ v = 32)) (h1 : ¬ (97 ≤ v ∧ v ≤ 122 ∨ 65 ≤ v ∧ v ≤ 90 ∨ 48 ≤ v ∧ v ≤ 57 ∨ v = 95)) (h : v < 128) : knd v = 2 := by unfold knd; rw [if_neg h0, if_neg h1, if_pos h]
theorem knd_far {v : Int} (h : 128 ≤ v) : knd v = if cls v = 10 then 0 else if cls v = 1 ∨ cls v = 2 ∨ cls v = 3 then 1 else 2 := by unfold knd; rw [if_neg (by omega), if_neg (by omega), if_neg (by omega)]
set_option maxRecDepth 100000 in
set_option maxHeartbeats 2000000 in
theorem kind_any (v : Int) (w : World) (hT : Tabs w) : Calls Tryd.prog 37 #[.int .i64 v] w fun e w' => e = .returned (.int .i64 (knd v)) ∧ Below w.heap.size w w' := by
  by_cases hv : v < 128
  · rcases (show v = 9 ∨ v = 10 ∨ v = 13 ∨ v = 32 ∨ v = 95 ∨ (97 ≤ v ∧ v ≤ 122) ∨ (65 ≤ v ∧ v ≤ 90) ∨ (48 ≤ v ∧ v ≤ 57) ∨ (v ≠ 9 ∧ v ≠ 10 ∧ v ≠ 13 ∧ v ≠ 32 ∧ v ≠ 95 ∧ (v < 48 ∨ 57 < v ∧ v < 65 ∨ 90 < v ∧ v < 97 ∨ 122 < v)) by omega) with rfl | rfl | rfl | rfl | rfl | ⟨h1, h2⟩ | ⟨h1, h2⟩ | ⟨h1, h2⟩ | ⟨n9, n10, n13, n32, n95, h⟩
    · have Hk : Hid (knd 9 = 0) := Lib.hid (knd_0 (by omega))
      go_enter Tryd.func37, Tryd.ntmps37
      go_wp2
      go_ret
      rw [Hk.out]; exact ⟨rfl, Below.refl _ _⟩
    · have Hk : Hid (knd 10 = 0) := Lib.hid (knd_0 (by omega))
      go_enter Tryd.func37, Tryd.ntmps37
      go_wp2
      go_ret
      rw [Hk.out]; exact ⟨rfl, Below.refl _ _⟩
    · have Hk : Hid (knd 13 = 0) := Lib.hid (knd_0 (by omega))
      go_enter Tryd.func37, Tryd.ntmps37
      go_wp2
      go_ret
      rw [Hk.out]; exact ⟨rfl, Below.refl _ _⟩
    · have Hk : Hid (knd 32 = 0) := Lib.hid (knd_0 (by omega))
      go_enter Tryd.func37, Tryd.ntmps37
      go_wp2
      go_ret
      rw [Hk.out]; exact ⟨rfl, Below.refl _ _⟩
    · have Hk : Hid (knd 95 = 1) := Lib.hid (knd_1 (by omega) (by omega))
      go_enter Tryd.func37, Tryd.ntmps37
      go_wp2
      go_ret
      rw [Hk.out]; exact ⟨rfl, Below.refl _ _⟩
    · have Hk : Hid (knd v = 1) := Lib.hid (knd_1 (by omega) (by omega))
      have e9 : (v == 9) = false := by rw [beq_eq_false_iff_ne]; omega
      have e10 : (v == 10) = false := by rw [beq_eq_false_iff_ne]; omega
      have e13 : (v == 13) = false := by rw [beq_eq_false_iff_ne]; omega
      have e32 : (v == 32) = false := by rw [beq_eq_false_iff_ne]; omega
      go_enter Tryd.func37, Tryd.ntmps37
      go_wp2
      go_ret
      rw [Hk.out]; exact ⟨rfl, Below.refl _ _⟩
    · have Hk : Hid (knd v = 1) := Lib.hid (knd_1 (by omega) (by omega))
      have e9 : (v == 9) = false := by rw [beq_eq_false_iff_ne]; omega
      have e10 : (v == 10) = false := by rw [beq_eq_false_iff_ne]; omega
      have e13 : (v == 13) = false := by rw [beq_eq_false_iff_ne]; omega
      have e32 : (v == 32) = false := by rw [beq_eq_false_iff_ne]; omega
      go_enter Tryd.func37, Tryd.ntmps37
      go_wp2
      go_ret
      rw [Hk.out]; exact ⟨rfl, Below.refl _ _⟩
    · have Hk : Hid (knd v = 1) := Lib.hid (knd_1 (by omega) (by omega))
      have e9 : (v == 9) = false := by rw [beq_eq_false_iff_ne]; omega
      have e10 : (v == 10) = false := by rw [beq_eq_false_iff_ne]; omega
      have e13 : (v == 13) = false := by rw [beq_eq_false_iff_ne]; omega
      have e32 : (v == 32) = false := by rw [beq_eq_false_iff_ne]; omega
      go_enter Tryd.func37, Tryd.ntmps37
      go_wp2
      go_ret
      rw [Hk.out]; exact ⟨rfl, Below.refl _ _⟩
    · have Hk : Hid (knd v = 2) := Lib.hid (knd_2 (by omega) (by omega) hv)
      have e9 : (v == 9) = false := by rw [beq_eq_false_iff_ne]; omega
      have e10 : (v == 10) = false := by rw [beq_eq_false_iff_ne]; omega
      have e13 : (v == 13) = false := by rw [beq_eq_false_iff_ne]; omega
      have e32 : (v == 32) = false := by rw [beq_eq_false_iff_ne]; omega
      have e95 : (v == 95) = false := by rw [beq_eq_false_iff_ne]; omega
      clear n9 n10 n13 n32 n95
      rcases h with h | ⟨h, h'⟩ | ⟨h, h'⟩ | h
      all_goals
        go_enter Tryd.func37, Tryd.ntmps37
        go_wp2
        go_ret
        rw [Hk.out]; exact ⟨rfl, Below.refl _ _⟩
  · have e9 : (v == 9) = false := by rw [beq_eq_false_iff_ne]; omega
    have e10 : (v == 10) = false := by rw [beq_eq_false_iff_ne]; omega
    have e13 : (v == 13) = false := by rw [beq_eq_false_iff_ne]; omega
    have e32 : (v == 32) = false := by rw [beq_eq_false_iff_ne]; omega
    have e95 : (v == 95) = false := by rw [beq_eq_false_iff_ne]; omega
    have O := fun w hT => of_any v w hT
    have hk := knd_far (v := v) (by omega)
    generalize cls v = c at *
    replace O := Lib.hid O
    have HT := Lib.hid hT; clear hT
    rcases (show c = 10 ∨ c = 1 ∨ c = 2 ∨ c = 3 ∨ (c ≠ 10 ∧ c ≠ 1 ∧ c ≠ 2 ∧ c ≠ 3) by omega) with rfl | rfl | rfl | rfl | ⟨n10, n1, n2, n3⟩
    · have Hk : Hid (knd v = 0) := Lib.hid (by rw [hk]; rfl)
      clear hk
      go_enter Tryd.func37, Tryd.ntmps37
      go_wp2_with (go_at_call 27; refine (O.out _ HT.out).mono ?_; rintro e w1 ⟨rfl, hb1⟩)
      go_ret
      rw [Hk.out]; exact ⟨rfl, hb1⟩
    · have Hk : Hid (knd v = 1) := Lib.hid (by rw [hk]; rfl)
      clear hk
      go_enter Tryd.func37, Tryd.ntmps37
      go_wp2_with (go_at_call 27; refine (O.out _ HT.out).mono ?_; rintro e w1 ⟨rfl, hb1⟩)
      go_ret
      rw [Hk.out]; exact ⟨rfl, hb1⟩
    · have Hk : Hid (knd v = 1) := Lib.hid (by rw [hk]; rfl)
      clear hk
      go_enter Tryd.func37, Tryd.ntmps37
      go_wp2_with (go_at_call 27; refine (O.out _ HT.out).mono ?_; rintro e w1 ⟨rfl, hb1⟩)
      go_ret
      rw [Hk.out]; exact ⟨rfl, hb1⟩
    · have Hk : Hid (knd v = 1) := Lib.hid (by rw [hk]; rfl)
      clear hk
      go_enter Tryd.func37, Tryd.ntmps37
      go_wp2_with (go_at_call 27; refine (O.out _ HT.out).mono ?_; rintro e w1 ⟨rfl, hb1⟩)
      go_ret
      rw [Hk.out]; exact ⟨rfl, hb1⟩
    · have Hk : Hid (knd v = 2) := Lib.hid (by rw [hk, if_neg n10, if_neg (by omega)])
      have c10 : (c == 10) = false := by rw [beq_eq_false_iff_ne]; omega
      have c1 : (c == 1) = false := by rw [beq_eq_false_iff_ne]; omega
      have c2 : (c == 2) = false := by rw [beq_eq_false_iff_ne]; omega
      have c3 : (c == 3) = false := by rw [beq_eq_false_iff_ne]; omega
      clear hk n10 n1 n2 n3
      go_enter Tryd.func37, Tryd.ntmps37
      go_wp2_with (go_at_call 27; refine (O.out _ HT.out).mono ?_; rintro e w1 ⟨rfl, hb1⟩)
      go_ret
      rw [Hk.out]; exact ⟨rfl, hb1⟩
end Go.Proofs.YtecffaidpiadoaaDoor
