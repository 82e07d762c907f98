import Derived.Test.YtdifkjmpdmlobaaDoorW4
import Derived.Test.YtdifkjmpdmlobaaDoorNum1
namespace Go.Proofs.YtdifkjmpdmlobaaDoor
set_option linter.unusedVariables false
set_option linter.unusedSimpArgs false
set_option maxRecDepth 100000
open Go.RowKit
/-- How many hex digits at least. -/
def lst (l : Int) : Int := if l ≤ 1 then 1 else if 16 ≤ l then 16 else l
theorem lst_rng (l : Int) : 1 ≤ lst l ∧ lst l ≤ 16 := by unfold lst; split; omega; split <;> omega
def hexS (n l : Int) : List UInt8 := if n < 0 then [] else tell 16 20 n.toNat (lst l).toNat
theorem below16 {w w2 : World} (hb : Below (w.alloc (.cells #[.int .u64 16] 201)).heap.size (w.alloc (.cells #[.int .u64 16] 201)) w2) : Below w.heap.size w w2 :=
  ((Below.refl w.heap.size w).alloc (Nat.le_refl _) _).trans (hb.mono (by simp))
set_option maxHeartbeats 1000000 in
theorem hex_any (n l : Int) (w : World) (h0 : -9223372036854775808 ≤ n) (h1 : n ≤ 9223372036854775807) : Calls Tryd.prog 133 #[.int .i64 n, .int .i64 l] w fun e w' => e = .returned (.string ⟨(hexS n l).toArray⟩) ∧ Below w.heap.size w w' := by
  by_cases h : n < 0
  · have hd : hexS n l = [] := by unfold hexS; rw [if_pos h]
    have Hd := Lib.hid hd; clear hd
    go_enter Tryd.func133, Tryd.ntmps133
    go_wp2
    go_ret
    rw [Hd.out]
    exact ⟨rfl, Below.refl _ _⟩
  · have hd : hexS n l = tell 16 20 n.toNat (lst l).toNat := by unfold hexS; rw [if_neg h]
    have hr := lst_rng l
    have ht := tell_int 16 n (lst l) w.heap.size (w.alloc (.cells #[.int .u64 16] 201)) (by omega) (by omega) (by omega) (by omega) (by omega) (by omega) (by omega) (by simp) (cell10 w 16)
    have Hd := Lib.hid hd; clear hd
    rcases (show l < 1 ∨ l = 1 ∨ 16 < l ∨ l = 16 ∨ (1 < l ∧ l < 16) by omega) with a | rfl | a | rfl | ⟨a, b⟩
    · rw [show lst l = 1 by unfold lst; rw [if_pos (by omega)]] at *
      clear hr
      go_enter Tryd.func133, Tryd.ntmps133
      go_wp2_with (first | (go_at_call 141; refine (teller_any _ _).mono ?_; rintro e w' ⟨rfl, rfl⟩) | (go_at_call 145; refine ht.mono ?_; rintro e w1 ⟨rfl, hb⟩))
      go_ret
      rw [Hd.out]
      exact ⟨rfl, below16 hb⟩
    · rw [show lst 1 = 1 by rfl] at *
      clear hr
      go_enter Tryd.func133, Tryd.ntmps133
      go_wp2_with (first | (go_at_call 141; refine (teller_any _ _).mono ?_; rintro e w' ⟨rfl, rfl⟩) | (go_at_call 145; refine ht.mono ?_; rintro e w1 ⟨rfl, hb⟩))
      go_ret
      rw [Hd.out]
      exact ⟨rfl, below16 hb⟩
    · rw [show lst l = 16 by unfold lst; rw [if_neg (by omega), if_pos (by omega)]] at *
      clear hr
      go_enter Tryd.func133, Tryd.ntmps133
      go_wp2_with (first | (go_at_call 141; refine (teller_any _ _).mono ?_; rintro e w' ⟨rfl, rfl⟩) | (go_at_call 145; refine ht.mono ?_; rintro e w1 ⟨rfl, hb⟩))
      go_ret
      rw [Hd.out]
      exact ⟨rfl, below16 hb⟩
    · rw [show lst 16 = 16 by rfl] at *
      clear hr
      go_enter Tryd.func133, Tryd.ntmps133
      go_wp2_with (first | (go_at_call 141; refine (teller_any _ _).mono ?_; rintro e w' ⟨rfl, rfl⟩) | (go_at_call 145; refine ht.mono ?_; rintro e w1 ⟨rfl, hb⟩))
      go_ret
      rw [Hd.out]
      exact ⟨rfl, below16 hb⟩
    · rw [show lst l = l by unfold lst; rw [if_neg (by omega), if_neg (by omega)]] at *
      clear hr
      go_enter Tryd.func133, Tryd.ntmps133
      go_wp2_with (first | (go_at_call 141; refine (teller_any _ _).mono ?_; rintro e w' ⟨rfl, rfl⟩) | (go_at_call 145; refine ht.mono ?_; rintro e w1 ⟨rfl, hb⟩))
      go_ret
      rw [Hd.out]
      exact ⟨rfl, below16 hb⟩
end Go.Proofs.YtdifkjmpdmlobaaDoor
