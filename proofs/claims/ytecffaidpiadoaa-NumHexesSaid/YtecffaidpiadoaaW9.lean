import Derived.Test.YtecffaidpiadoaaW8
import Derived.Test.YtecffaidpiadoaaLaw
import Derived.Test.YtecffaidpiadoaaKit
namespace Go.Proofs.Ytecffaidpiadoaa
set_option maxRecDepth 100000
open Go.RowKit
theorem und_range (l : List UInt8) : -9223372036854775808 ≤ undR l ∧ undR l ≤ 9223372036854775807 := by
  unfold undR undV
  split
  · split
    · exact rng_wrap _
    · exact rng_wrap _
  · omega
theorem und_cases (l : List UInt8) : (undE l = 0 ∧ decS (undR l) = l) ∨ (undE l = 6 ∧ undR l = 0) := by
  by_cases h : undOk l = true
  · left
    have e := und_yes h
    refine ⟨e.2, ?_⟩
    rw [e.1]
    unfold undOk at h
    rw [Bool.and_eq_true] at h
    simpa using h.2
  · right
    have e := und_no (by simpa using h)
    exact ⟨e.2, e.1⟩
set_option maxHeartbeats 1000000 in
theorem numdecs_any (n : Int) (l : List UInt8) (w : World) (h0 : -9223372036854775808 ≤ n) (h1 : n ≤ 9223372036854775807) (hl : l.length ≤ 9223372036854775807) :
    Calls Try.prog 3 #[.int .i64 n, .string ⟨l.toArray⟩] w fun e w' => e = .returned (.bool true) ∧ Below w.heap.size w w' := by
  by_cases h : 100 < l.length
  · go_enter Try.func3, Try.ntmps3
    go_wp2_with (go_at_call 5; refine (nawake_any _).mono ?_; rintro e w1 ⟨rfl, hb1⟩)
    go_ret
    exact ⟨rfl, hb1⟩
  · have U1 : ∀ w, Calls Try.prog 7 #[.string ⟨(decS n).toArray⟩] w fun e w' => e = .returned (.tuple #[.int .i64 n, .int .i64 0]) ∧ Below w.heap.size w w' := fun w => by
      have h := undec_any (decS n) w (by have := decS_len n; omega)
      unfold UndPost at h; rw [(und_dec n h0 h1).1, (und_dec n h0 h1).2] at h; exact h
    have U2 : ∀ w, Calls Try.prog 7 #[.string ⟨l.toArray⟩] w fun e w' => e = .returned (.tuple #[.int .i64 (undR l), .int .i64 (undE l)]) ∧ Below w.heap.size w w' := fun w => undec_any l w (by omega)
    have D := fun w => dec_any n w h0 h1
    have R := fun w => dec_ref n.natAbs n w (Nat.le_refl _) h0 h1
    have hr := und_range l
    have R2 := fun w => dec_ref (undR l).natAbs (undR l) w (Nat.le_refl _) hr.1 hr.2
    have U1 := Lib.hid U1; have D := Lib.hid D; have R := Lib.hid R
    have hs : (decS n == decS n) = true := by simp
    have hn : (n == n) = true := by simp
    rcases und_cases l with ⟨e1, e2⟩ | ⟨e1, e2⟩
    · rw [e1] at U2; rw [e2] at R2
      have hs2 : (l == l) = true := by simp
      generalize undR l = k at *
      have U2 := Lib.hid U2; have R2 := Lib.hid R2
      clear e1 e2 hr
      go_enter Try.func3, Try.ntmps3
      go_wp2_with (first
        | (go_at_call 6; refine (D.out _).mono ?_; rintro e w1 ⟨rfl, hb1⟩)
        | (go_at_call 7; (with_reducible refine (U1.out _).mono ?_); rintro e w2 ⟨rfl, hb2⟩)
        | (go_at_call 7; (with_reducible refine (U2.out _).mono ?_); rintro e w3 ⟨rfl, hb3⟩)
        | (go_at_call 5; refine (nawake_any _).mono ?_; rintro e w4 ⟨rfl, hb4⟩)
        | (go_at_call 8; (with_reducible refine (R.out _).mono ?_); rintro e w5 ⟨rfl, rfl⟩)
        | (go_at_call 8; (with_reducible refine (R2.out _).mono ?_); rintro e w5 ⟨rfl, rfl⟩))
      go_ret
      exact ⟨rfl, seqB (seqB (seqB hb1 hb2) hb3) hb4⟩
    · rw [e1, e2] at U2
      have U2 := Lib.hid U2; clear R2 hr e1 e2
      go_enter Try.func3, Try.ntmps3
      go_wp2_with (first
        | (go_at_call 6; refine (D.out _).mono ?_; rintro e w1 ⟨rfl, hb1⟩)
        | (go_at_call 7; (with_reducible refine (U1.out _).mono ?_); rintro e w2 ⟨rfl, hb2⟩)
        | (go_at_call 7; (with_reducible refine (U2.out _).mono ?_); rintro e w3 ⟨rfl, hb3⟩)
        | (go_at_call 5; refine (nawake_any _).mono ?_; rintro e w4 ⟨rfl, hb4⟩)
        | (go_at_call 8; (with_reducible refine (R.out _).mono ?_); rintro e w5 ⟨rfl, rfl⟩))
      go_ret
      exact ⟨rfl, seqB (seqB (seqB hb1 hb2) hb3) hb4⟩
end Go.Proofs.Ytecffaidpiadoaa
