import Derived.Test.YtfhcfamjlhmgiaaDoorC6
namespace Go.Proofs.YtfhcfamjlhmgiaaDoor
set_option maxRecDepth 100000
open Go.RowKit
/-- The reference's class and width. -/
def clsR (v : Int) : Int := if rght v = false then 0 else if 1114111 < v then 12 else if 0 < oddR v then oddR v else if skelR v ≠ v then 3 else if wthn lWide v then 2 else 1
def widR (v : Int) : Int := if clsR v = 2 then 2 else if clsR v = 1 ∨ clsR v = 3 then 1 else 0
set_option maxRecDepth 100000 in
set_option maxHeartbeats 2000000 in
theorem of_ref (v : Int) (w : World) : Calls Tryd.prog 27 #[.int .i64 v] w fun e w' => e = .returned (.int .i64 (clsR v)) ∧ Below w.heap.size w w' := by
  have R := fun w => cright_ref v w
  have O := fun w => odd_any v w
  have K := fun w => skel_ref v w
  have W1 := w_lWide v
  have hc : clsR v = if rght v = false then 0 else if 1114111 < v then 12 else if 0 < oddR v then oddR v else if skelR v ≠ v then 3 else if wthn lWide v then 2 else 1 := rfl
  generalize rght v = r at *
  generalize oddR v = o at *
  generalize skelR v = s at *
  generalize wthn lWide v = b at *
  have R := Lib.hid R; have O := Lib.hid O; have K := Lib.hid K; have W1 := Lib.hid W1
  cases r
  · have Hc : Hid (clsR v = 0) := Lib.hid (by rw [hc, if_pos rfl])
    clear hc
    go_enter Tryd.func27, Tryd.ntmps27
    go_wp2_with (go_at_call 25; refine (R.out _).mono ?_; rintro e w' ⟨rfl, rfl⟩)
    go_ret
    rw [Hc.out]; exact ⟨rfl, Below.refl _ _⟩
  · rw [if_neg (by simp)] at hc
    by_cases h1 : 1114111 < v
    · have Hc : Hid (clsR v = 12) := Lib.hid (by rw [hc, if_pos h1])
      clear hc
      go_enter Tryd.func27, Tryd.ntmps27
      go_wp2_with (go_at_call 25; refine (R.out _).mono ?_; rintro e w' ⟨rfl, rfl⟩)
      go_ret
      rw [Hc.out]; exact ⟨rfl, Below.refl _ _⟩
    · rw [if_neg h1] at hc
      by_cases h2 : 0 < o
      · have Hc : Hid (clsR v = o) := Lib.hid (by rw [hc, if_pos h2])
        clear hc
        go_enter Tryd.func27, Tryd.ntmps27
        go_wp2_with (first | (go_at_call 25; refine (R.out _).mono ?_; rintro e w' ⟨rfl, rfl⟩) | (go_at_call 68; refine (O.out _).mono ?_; rintro e w1 ⟨rfl, hb1⟩))
        go_ret
        rw [Hc.out]; exact ⟨rfl, hb1⟩
      · rw [if_neg h2] at hc
        by_cases h3 : s = v
        · have h3b : (s != v) = false := by rw [h3]; simp
          have Hc : Hid (clsR v = if b then 2 else 1) := Lib.hid (by rw [hc, if_neg (by simpa using h3)])
          clear hc h3
          cases b
          all_goals
            go_enter Tryd.func27, Tryd.ntmps27
            go_wp2_with (first | (go_at_call 25; refine (R.out _).mono ?_; rintro e w' ⟨rfl, rfl⟩) | (go_at_call 68; refine (O.out _).mono ?_; rintro e w1 ⟨rfl, hb1⟩) | (go_at_call 69; refine (K.out _).mono ?_; rintro e w2 ⟨rfl, hb2⟩) | (go_at_call 70; (with_reducible refine (W1.out _ _ (by simp)).mono ?_); rintro e w3 ⟨rfl, rfl⟩))
            go_ret
            rw [Hc.out]
            exact ⟨rfl, seqB (seqB hb1 hb2) (below_alloc _ _)⟩
        · have h3b : (s != v) = true := by simpa using h3
          have Hc : Hid (clsR v = 3) := Lib.hid (by rw [hc, if_pos h3])
          clear hc h3
          go_enter Tryd.func27, Tryd.ntmps27
          go_wp2_with (first | (go_at_call 25; refine (R.out _).mono ?_; rintro e w' ⟨rfl, rfl⟩) | (go_at_call 68; refine (O.out _).mono ?_; rintro e w1 ⟨rfl, hb1⟩) | (go_at_call 69; refine (K.out _).mono ?_; rintro e w2 ⟨rfl, hb2⟩))
          go_ret
          rw [Hc.out]; exact ⟨rfl, seqB hb1 hb2⟩
theorem width_ref (v : Int) (w : World) : Calls Tryd.prog 65 #[.int .i64 v] w fun e w' => e = .returned (.int .i64 (widR v)) ∧ Below w.heap.size w w' := by
  have ho := of_ref v w
  have hw : widR v = if clsR v = 2 then 2 else if clsR v = 1 ∨ clsR v = 3 then 1 else 0 := rfl
  generalize clsR v = c at *
  have Ho := Lib.hid ho; clear ho
  rcases (show c = 2 ∨ c = 1 ∨ c = 3 ∨ (c ≠ 2 ∧ c ≠ 1 ∧ c ≠ 3) by omega) with rfl | rfl | rfl | ⟨h1, h2, h3⟩
  · have Hw : Hid (widR v = 2) := Lib.hid (by rw [hw]; rfl)
    clear hw
    go_enter Tryd.func65, Tryd.ntmps65
    go_wp2_with (go_at_call 27; refine Ho.out.mono ?_; rintro e w1 ⟨rfl, hb1⟩)
    go_ret
    rw [Hw.out]; exact ⟨rfl, hb1⟩
  · have Hw : Hid (widR v = 1) := Lib.hid (by rw [hw]; rfl)
    clear hw
    go_enter Tryd.func65, Tryd.ntmps65
    go_wp2_with (go_at_call 27; refine Ho.out.mono ?_; rintro e w1 ⟨rfl, hb1⟩)
    go_ret
    rw [Hw.out]; exact ⟨rfl, hb1⟩
  · have Hw : Hid (widR v = 1) := Lib.hid (by rw [hw]; rfl)
    clear hw
    go_enter Tryd.func65, Tryd.ntmps65
    go_wp2_with (go_at_call 27; refine Ho.out.mono ?_; rintro e w1 ⟨rfl, hb1⟩)
    go_ret
    rw [Hw.out]; exact ⟨rfl, hb1⟩
  · have Hw : Hid (widR v = 0) := Lib.hid (by rw [hw, if_neg h1, if_neg (by omega)])
    have e1 : (c == 1) = false := by rw [beq_eq_false_iff_ne]; exact h2
    have e2 : (c == 2) = false := by rw [beq_eq_false_iff_ne]; exact h1
    have e3 : (c == 3) = false := by rw [beq_eq_false_iff_ne]; exact h3
    clear hw
    go_enter Tryd.func65, Tryd.ntmps65
    go_wp2_with (go_at_call 27; refine Ho.out.mono ?_; rintro e w1 ⟨rfl, hb1⟩)
    go_ret
    rw [Hw.out]; exact ⟨rfl, hb1⟩
end Go.Proofs.YtfhcfamjlhmgiaaDoor
