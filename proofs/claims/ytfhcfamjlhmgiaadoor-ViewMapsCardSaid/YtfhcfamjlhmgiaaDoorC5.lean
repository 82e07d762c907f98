import Derived.Test.YtfhcfamjlhmgiaaDoorC4
namespace Go.Proofs.YtfhcfamjlhmgiaaDoor
set_option maxRecDepth 100000
open Go.RowKit
/-- The reference's: the class of code points that are told; 0: none of these. -/
def oddR (v : Int) : Int := if v ≤ 31 then 4 else if v = 127 then 5 else if 128 ≤ v ∧ v ≤ 159 then 6 else if wthn lSpace v then 10 else if wthn lZero v then 8 else if wthn lBidi v then 7 else if wthn lMark v then 9 else if wthn lOther v then 11 else 0
set_option maxRecDepth 100000 in
set_option maxHeartbeats 4000000 in
theorem odd_any (v : Int) (w : World) : Calls Tryd.prog 68 #[.int .i64 v] w fun e w' => e = .returned (.int .i64 (oddR v)) ∧ Below w.heap.size w w' := by
  rcases (show v ≤ 31 ∨ v = 127 ∨ (128 ≤ v ∧ v ≤ 159) ∨ (31 < v ∧ v < 127) ∨ 159 < v by omega) with h | rfl | ⟨h, h'⟩ | h | h
  · have Hd : Hid (oddR v = 4) := Lib.hid (by unfold oddR; rw [if_pos h])
    go_enter Tryd.func68, Tryd.ntmps68
    go_wp2
    go_ret
    rw [Hd.out]; exact ⟨rfl, Below.refl _ _⟩
  · have Hd : Hid (oddR 127 = 5) := Lib.hid (by unfold oddR; rw [if_neg (by omega), if_pos rfl])
    go_enter Tryd.func68, Tryd.ntmps68
    go_wp2
    go_ret
    rw [Hd.out]; exact ⟨rfl, Below.refl _ _⟩
  · have Hd : Hid (oddR v = 6) := Lib.hid (by unfold oddR; rw [if_neg (by omega), if_neg (by omega), if_pos (by omega)])
    have h7 : (v == 127) = false := by rw [beq_eq_false_iff_ne]; omega
    go_enter Tryd.func68, Tryd.ntmps68
    go_wp2
    go_ret
    rw [Hd.out]; exact ⟨rfl, Below.refl _ _⟩
  all_goals
    have h7 : (v == 127) = false := by rw [beq_eq_false_iff_ne]; omega
    have ho : oddR v = if wthn lSpace v then 10 else if wthn lZero v then 8 else if wthn lBidi v then 7 else if wthn lMark v then 9 else if wthn lOther v then 11 else 0 := by unfold oddR; rw [if_neg (by omega), if_neg (by omega), if_neg (by omega)]
    have w1 := w_lSpace v
    have w2 := w_lZero v
    have w3 := w_lBidi v
    have w4 := w_lMark v
    have w5 := w_lOther v
    generalize wthn lSpace v = b1 at *
    generalize wthn lZero v = b2 at *
    generalize wthn lBidi v = b3 at *
    generalize wthn lMark v = b4 at *
    generalize wthn lOther v = b5 at *
    have W1 := Lib.hid w1; have W2 := Lib.hid w2; have W3 := Lib.hid w3; have W4 := Lib.hid w4; have W5 := Lib.hid w5; have Ho := Lib.hid ho
    clear w1 w2 w3 w4 w5 ho
    cases b1
    case' false => cases b2
    case' false.false => cases b3
    case' false.false.false => cases b4
    case' false.false.false.false => cases b5
    all_goals
      go_enter Tryd.func68, Tryd.ntmps68
      go_wp2_with (first | (go_at_call 70; (with_reducible refine (W1.out _ _ (by simp)).mono ?_); rintro e w' ⟨rfl, rfl⟩) | (go_at_call 70; (with_reducible refine (W2.out _ _ (by simp)).mono ?_); rintro e w' ⟨rfl, rfl⟩) | (go_at_call 70; (with_reducible refine (W3.out _ _ (by simp)).mono ?_); rintro e w' ⟨rfl, rfl⟩) | (go_at_call 70; (with_reducible refine (W4.out _ _ (by simp)).mono ?_); rintro e w' ⟨rfl, rfl⟩) | (go_at_call 70; (with_reducible refine (W5.out _ _ (by simp)).mono ?_); rintro e w' ⟨rfl, rfl⟩))
      go_ret
      rw [Ho.out]
      exact ⟨rfl, by go_grown⟩
end Go.Proofs.YtfhcfamjlhmgiaaDoor
