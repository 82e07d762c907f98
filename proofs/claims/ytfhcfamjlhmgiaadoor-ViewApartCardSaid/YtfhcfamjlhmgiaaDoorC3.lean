import Derived.Test.YtfhcfamjlhmgiaaDoorC2
namespace Go.Proofs.YtfhcfamjlhmgiaaDoor
set_option maxRecDepth 100000
open Go.RowKit
theorem ret_bool {a b : Bool} (h : a = b) : Ending.returned (.bool a) = .returned (.bool b) := by rw [h]
theorem cpoint_any (v : Int) (w : World) : Calls Tryd.prog 99 #[.int .i64 v] w fun e w' => e = .returned (.bool (pnt v)) ∧ w = w' := by
  rcases pnt_cases v with ⟨e, h | h⟩ | ⟨e, h | h | h⟩
  all_goals
    rw [e]; clear e
    go_enter Tryd.func99, Tryd.ntmps99
    go_wp2
    all_goals
      go_ret
      first | exact ⟨rfl, rfl⟩ | exact ⟨ret_bool (by simp; omega), rfl⟩
theorem cstray_any (v : Int) (w : World) : Calls Tryd.prog 101 #[.int .i64 v] w fun e w' => e = .returned (.bool (stry v)) ∧ w = w' := by
  rcases stry_cases v with ⟨e, h, h'⟩ | ⟨e, h | h⟩
  all_goals
    rw [e]; clear e
    go_enter Tryd.func101, Tryd.ntmps101
    go_wp2
    all_goals
      go_ret
      first | exact ⟨rfl, rfl⟩ | exact ⟨ret_bool (by simp; omega), rfl⟩
theorem cright_any (v : Int) (w : World) : Calls Tryd.prog 97 #[.int .i64 v] w fun e w' => e = .returned (.bool (rght v)) ∧ w = w' := by
  have hp := fun w => cpoint_any v w
  have hs := fun w => cstray_any v w
  have hr : rght v = (pnt v || stry v) := rfl
  rw [hr]; clear hr
  generalize pnt v = a at *
  generalize stry v = b at *
  have Hp := Lib.hid hp; have Hs := Lib.hid hs; clear hp hs
  cases a <;> cases b
  all_goals
    go_enter Tryd.func97, Tryd.ntmps97
    go_wp2_with (first | (go_at_call 99; refine (Hp.out _).mono ?_; rintro e w' ⟨rfl, rfl⟩) | (go_at_call 101; refine (Hs.out _).mono ?_; rintro e w' ⟨rfl, rfl⟩))
    go_ret
    exact ⟨rfl, rfl⟩
theorem rght_cases (v : Int) : (rght v = true ∧ (0 ≤ v ∧ v < 55296 ∨ 57343 < v ∧ v ≤ 1114111 ∨ 1114240 ≤ v ∧ v ≤ 1114367)) ∨ (rght v = false ∧ (v < 0 ∨ 55296 ≤ v ∧ v ≤ 57343 ∨ 1114111 < v ∧ v < 1114240 ∨ 1114367 < v)) := by
  unfold rght
  rcases pnt_cases v with ⟨e, h⟩ | ⟨e, h⟩ <;> rcases stry_cases v with ⟨e2, h2⟩ | ⟨e2, h2⟩ <;> rw [e, e2] <;> simp <;> omega
set_option maxHeartbeats 800000 in
theorem of_any (v : Int) (w : World) (hT : Tabs w) : Calls Tryd.prog 64 #[.int .i64 v] w fun e w' => e = .returned (.int .i64 (cls v)) ∧ Below w.heap.size w w' := by
  have hr := fun w => cright_any v w
  have ht := fun w h => told_any v w h
  have HT := Lib.hid hT; clear hT
  rcases rght_cases v with ⟨e, h⟩ | ⟨e, h⟩
  · rw [e] at hr
    have Hr := Lib.hid hr; clear hr
    rcases (show 1114112 ≤ v ∨ (0 ≤ v ∧ v < 32) ∨ v = 127 ∨ (128 ≤ v ∧ v < 160) ∨ (32 ≤ v ∧ v < 127) ∨ (160 ≤ v ∧ v < 1114112) by omega) with c | ⟨c, c2⟩ | rfl | ⟨c, c2⟩ | ⟨c, c2⟩ | ⟨c, c2⟩
    · have Hc : Hid (cls v = 12) := Lib.hid (by unfold cls; rw [e, if_neg (by simp), if_pos c])
      clear e h ht
      go_enter Tryd.func64, Tryd.ntmps64
      go_wp2_with (go_at_call 97; refine (Hr.out _).mono ?_; rintro e w' ⟨rfl, rfl⟩)
      go_ret
      rw [Hc.out]; exact ⟨rfl, Below.refl _ _⟩
    · have Hc : Hid (cls v = 4) := Lib.hid (by unfold cls; rw [e, if_neg (by simp), if_neg (by omega), if_pos (by omega)])
      clear e h ht
      go_enter Tryd.func64, Tryd.ntmps64
      go_wp2_with (go_at_call 97; refine (Hr.out _).mono ?_; rintro e w' ⟨rfl, rfl⟩)
      go_ret
      rw [Hc.out]; exact ⟨rfl, Below.refl _ _⟩
    · have Hc : Hid (cls 127 = 5) := Lib.hid (by unfold cls; rw [e, if_neg (by simp), if_neg (by omega), if_neg (by omega), if_pos rfl])
      clear e h ht
      go_enter Tryd.func64, Tryd.ntmps64
      go_wp2_with (go_at_call 97; refine (Hr.out _).mono ?_; rintro e w' ⟨rfl, rfl⟩)
      go_ret
      rw [Hc.out]; exact ⟨rfl, Below.refl _ _⟩
    · have Hc : Hid (cls v = 6) := Lib.hid (by unfold cls; rw [e, if_neg (by simp), if_neg (by omega), if_neg (by omega), if_neg (by omega), if_pos (by omega)])
      have h7 : (v == 127) = false := by rw [beq_eq_false_iff_ne]; omega
      clear e h ht
      go_enter Tryd.func64, Tryd.ntmps64
      go_wp2_with (go_at_call 97; refine (Hr.out _).mono ?_; rintro e w' ⟨rfl, rfl⟩)
      go_ret
      rw [Hc.out]; exact ⟨rfl, Below.refl _ _⟩
    · have Hc : Hid (cls v = 1) := Lib.hid (by unfold cls; rw [e, if_neg (by simp), if_neg (by omega), if_neg (by omega), if_neg (by omega), if_neg (by omega), if_pos (by omega)])
      have h7 : (v == 127) = false := by rw [beq_eq_false_iff_ne]; omega
      clear e h ht
      go_enter Tryd.func64, Tryd.ntmps64
      go_wp2_with (go_at_call 97; refine (Hr.out _).mono ?_; rintro e w' ⟨rfl, rfl⟩)
      go_ret
      rw [Hc.out]; exact ⟨rfl, Below.refl _ _⟩
    · have Hc : Hid (cls v = told v) := Lib.hid (by unfold cls; rw [e, if_neg (by simp), if_neg (by omega), if_neg (by omega), if_neg (by omega), if_neg (by omega), if_neg (by omega)])
      have h7 : (v == 127) = false := by rw [beq_eq_false_iff_ne]; omega
      have Ht := Lib.hid ht
      clear e h ht
      go_enter Tryd.func64, Tryd.ntmps64
      go_wp2_with (first | (go_at_call 97; refine (Hr.out _).mono ?_; rintro e w' ⟨rfl, rfl⟩) | (go_at_call 98; refine (Ht.out _ HT.out).mono ?_; rintro e w1 ⟨rfl, hb1⟩))
      go_ret
      rw [Hc.out]; exact ⟨rfl, hb1⟩
  · rw [e] at hr
    have Hr := Lib.hid hr; clear hr
    have Hc : Hid (cls v = 0) := Lib.hid (by unfold cls; rw [e, if_pos rfl])
    clear e h ht
    go_enter Tryd.func64, Tryd.ntmps64
    go_wp2_with (go_at_call 97; refine (Hr.out _).mono ?_; rintro e w' ⟨rfl, rfl⟩)
    go_ret
    rw [Hc.out]; exact ⟨rfl, Below.refl _ _⟩
theorem width_any (v : Int) (w : World) (hT : Tabs w) : Calls Tryd.prog 62 #[.int .i64 v] w fun e w' => e = .returned (.int .i64 (wid v)) ∧ Below w.heap.size w w' := by
  have ho := of_any v w hT
  have hw : wid v = if cls v = 2 then 2 else if cls v = 1 ∨ cls v = 3 then 1 else 0 := rfl
  generalize cls v = c at *
  have Ho := Lib.hid ho; clear ho hT
  rcases (show c = 2 ∨ c = 1 ∨ c = 3 ∨ (c ≠ 2 ∧ c ≠ 1 ∧ c ≠ 3) by omega) with rfl | rfl | rfl | ⟨h1, h2, h3⟩
  · have Hw : Hid (wid v = 2) := Lib.hid (by rw [hw]; rfl)
    clear hw
    go_enter Tryd.func62, Tryd.ntmps62
    go_wp2_with (go_at_call 64; refine Ho.out.mono ?_; rintro e w1 ⟨rfl, hb1⟩)
    go_ret
    rw [Hw.out]; exact ⟨rfl, hb1⟩
  · have Hw : Hid (wid v = 1) := Lib.hid (by rw [hw]; rfl)
    clear hw
    go_enter Tryd.func62, Tryd.ntmps62
    go_wp2_with (go_at_call 64; refine Ho.out.mono ?_; rintro e w1 ⟨rfl, hb1⟩)
    go_ret
    rw [Hw.out]; exact ⟨rfl, hb1⟩
  · have Hw : Hid (wid v = 1) := Lib.hid (by rw [hw]; rfl)
    clear hw
    go_enter Tryd.func62, Tryd.ntmps62
    go_wp2_with (go_at_call 64; refine Ho.out.mono ?_; rintro e w1 ⟨rfl, hb1⟩)
    go_ret
    rw [Hw.out]; exact ⟨rfl, hb1⟩
  · have Hw : Hid (wid v = 0) := Lib.hid (by rw [hw, if_neg h1, if_neg (by omega)])
    have e1 : (c == 1) = false := by rw [beq_eq_false_iff_ne]; exact h2
    have e2 : (c == 2) = false := by rw [beq_eq_false_iff_ne]; exact h1
    have e3 : (c == 3) = false := by rw [beq_eq_false_iff_ne]; exact h3
    clear hw
    go_enter Tryd.func62, Tryd.ntmps62
    go_wp2_with (go_at_call 64; refine Ho.out.mono ?_; rintro e w1 ⟨rfl, hb1⟩)
    go_ret
    rw [Hw.out]; exact ⟨rfl, hb1⟩
theorem cls_rng (v : Int) : 0 ≤ cls v ∧ cls v ≤ 12 := by
  have ht : 0 ≤ told v ∧ told v ≤ 12 := by
    unfold told
    split
    · rename_i j _
      rcases Nat.lt_or_ge j 53 with h | h
      · have key : ∀ j : Fin 53, 0 ≤ rng.getD (3 * j.val) 0 ∧ rng.getD (3 * j.val) 0 ≤ 12 := by decide +kernel
        exact key ⟨j, h⟩
      · rw [List.getD, List.getElem?_eq_none (show rng.length ≤ 3 * j by show 159 ≤ 3 * j; omega)]; exact ⟨by decide, by decide⟩
    · split <;> omega
  unfold cls
  repeat' split
  all_goals omega
theorem danger_any (v : Int) (w : World) (hT : Tabs w) : Calls Tryd.prog 61 #[.int .i64 v] w fun e w' => e = .returned (.bool (dng v)) ∧ Below w.heap.size w w' := by
  have ho := of_any v w hT
  have hw : dng v = decide (3 < cls v) := rfl
  have hr := cls_rng v
  generalize cls v = c at *
  have Ho := Lib.hid ho; clear ho hT
  rcases (show c = 0 ∨ c = 1 ∨ c = 2 ∨ c = 3 ∨ 3 < c by omega) with rfl | rfl | rfl | rfl | h
  all_goals try
    have Hw : Hid (dng v = false) := Lib.hid (by rw [hw]; rfl)
    clear hw
    go_enter Tryd.func61, Tryd.ntmps61
    go_wp2_with (go_at_call 64; refine Ho.out.mono ?_; rintro e w1 ⟨rfl, hb1⟩)
    go_ret
    rw [Hw.out]; exact ⟨rfl, hb1⟩
  have Hw : Hid (dng v = true) := Lib.hid (by rw [hw, decide_eq_true h])
  have e0 : (c == 0) = false := by rw [beq_eq_false_iff_ne]; omega
  have e1 : (c == 1) = false := by rw [beq_eq_false_iff_ne]; omega
  have e2 : (c == 2) = false := by rw [beq_eq_false_iff_ne]; omega
  have e3 : (c == 3) = false := by rw [beq_eq_false_iff_ne]; omega
  clear hw
  go_enter Tryd.func61, Tryd.ntmps61
  go_wp2_with (go_at_call 64; refine Ho.out.mono ?_; rintro e w1 ⟨rfl, hb1⟩)
  go_ret
  rw [Hw.out]; exact ⟨rfl, hb1⟩
end Go.Proofs.YtfhcfamjlhmgiaaDoor
