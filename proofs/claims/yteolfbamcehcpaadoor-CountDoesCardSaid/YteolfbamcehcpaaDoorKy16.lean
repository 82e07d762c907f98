/-
  Keys: equality of keys; what must come at any rate.
-/
import Derived.Test.YteolfbamcehcpaaDoorKy15
set_option linter.unusedVariables false
set_option linter.unusedSimpArgs false
namespace Go.Proofs.YteolfbamcehcpaaDoor
set_option maxRecDepth 100000
open Go.RowKit
theorem ktoL_ne {a b : ByteArray} (h : ¬ a = b) : ¬ a.toList = b.toList := by
  rw [ByteArray.toList_eq, ByteArray.toList_eq]; intro e; exact h (ByteArray.ext (Array.ext' e))
set_option maxHeartbeats 1000000 in
theorem eqKey (a b : Int) (t : ByteArray) (c : Bool) (a' b' : Int) (t' : ByteArray) (c' : Bool) (w : World) : (binOp .eql 23 (.agg #[.int .i64 a, .int .i64 b, .string t, .bool c]) (.agg #[.int .i64 a', .int .i64 b', .string t', .bool c'])).run Tryd.prog w = .ok (.bool (decide (((a, b, t, c) : Ky) = (a', b', t', c')))) w := by
  by_cases h1 : a = a'
  · by_cases h2 : b = b'
    · by_cases h3 : t = t'
      · by_cases h4 : c = c'
        · subst h1; subst h2; subst h3; subst h4
          simp [go_sem]
        · simp [go_sem, h1, h2, h3, h4]
      · simp [go_sem, h1, h2, h3, ktoL_ne h3]
    · simp [go_sem, h1, h2]
  · simp [go_sem, h1]
theorem eqKey_same (a b : Int) (t : ByteArray) (c : Bool) (w : World) : (binOp .eql 23 (.agg #[.int .i64 a, .int .i64 b, .string t, .bool c]) (.agg #[.int .i64 a, .int .i64 b, .string t, .bool c])).run Tryd.prog w = .ok (.bool true) w := by
  rw [eqKey, decide_eq_true rfl]
theorem ka_name (w : World) (hK : KT w) : Calls Tryd.prog 11 #[.agg #[.int .i64 3, .int .i64 102, .string ⟨#[]⟩, .bool false]] w fun e w' => e = .returned (.tuple #[.string ⟨#[77, 45, 102]⟩, .int .i64 0]) ∧ Below w.heap.size w w' :=
  kname_t (3, 102, ⟨#[]⟩, false) w hK _ _ (by decide) (by decide)
theorem ka_parse (w : World) (hK : KT w) : Calls Tryd.prog 16 #[.string ⟨#[80, 45, 48, 48, 70, 70, 33]⟩] w fun e w' => e = .returned (.tuple #[.agg #[.int .i64 15, .int .i64 0, .string ⟨#[0, 255]⟩, .bool true], .int .i64 0]) ∧ Below w.heap.size w w' := by
  have h := kparse_any ⟨#[80, 45, 48, 48, 70, 70, 33]⟩ w hK (by decide)
  unfold PrPost at h
  have e : (⟨#[80, 45, 48, 48, 70, 70, 33]⟩ : ByteArray).data.toList = nmN (15, 0, ⟨#[0, 255]⟩, true) := by decide
  have p := parse_name (15, 0, ⟨#[0, 255]⟩, true) (by decide)
  rw [e, p.1, p.2] at h
  exact h
theorem ka_value (w : World) (hK : KT w) : Calls Tryd.prog 12 #[.agg #[.int .i64 5, .int .i64 0, .string ⟨#[]⟩, .bool false]] w fun e w' => e = .returned (.tuple #[.int .i64 27, .bool true]) ∧ Below w.heap.size w w' := by
  have h := kvalue_any (5, 0, ⟨#[]⟩, false) w hK
  unfold VlPost at h
  rw [show vlI (5, 0, ⟨#[]⟩, false) = 27 by decide, show vlB (5, 0, ⟨#[]⟩, false) = true by decide] at h
  exact h
theorem ka_bytes (w : World) (hK : KT w) : Calls Tryd.prog 15 #[.agg #[.int .i64 7, .int .i64 0, .string ⟨#[]⟩, .bool false]] w fun e w' => e = .returned (.string ⟨#[27, 91, 65]⟩) ∧ Below w.heap.size w w' := by
  have h := kbytes_any (7, 0, ⟨#[]⟩, false) w hK
  unfold ByPost at h
  rw [show byR (7, 0, ⟨#[]⟩, false) = [27, 91, 65] by decide] at h
  exact h
theorem ka_check (w : World) (hK : KT w) : Calls Tryd.prog 14 #[.agg #[.int .i64 0, .int .i64 0, .string ⟨#[]⟩, .bool false]] w fun e w' => e = .returned (.int .i64 2) ∧ Below w.heap.size w w' := by
  have h := kcheck_any (0, 0, ⟨#[]⟩, false) w hK
  rw [show ckE (0, 0, ⟨#[]⟩, false) = 2 by decide] at h
  exact h
set_option maxHeartbeats 4000000 in
set_option maxRecDepth 100000 in
theorem kawake_any (w : World) (hK : KT w) : Calls Tryd.prog 10 #[] w fun e w' => e = .returned (.bool true) ∧ Below w.heap.size w w' := by
  have A := Lib.hid (ka_name w hK)
  have P := Lib.hid fun w hK => ka_parse w hK
  have V := Lib.hid fun w hK => ka_value w hK
  have B := Lib.hid fun w hK => ka_bytes w hK
  have C := Lib.hid fun w hK => ka_check w hK
  have EQ := eqKey_same 15 0 ⟨#[0, 255]⟩ true
  have HK := Lib.hid hK
  clear hK
  go_enter Tryd.func10, Tryd.ntmps10
  go_wp2_with (first
    | (go_at_call 11; refine A.out.mono ?_; rintro e w1 ⟨rfl, hb1⟩; have K1 := Lib.hid (HK.out.below hb1))
    | (go_at_call 16; refine (P.out _ K1.out).mono ?_; rintro e w2 ⟨rfl, hb2⟩; have B2 := below_alloc w2 (.cells #[.int .i64 15, .int .i64 0, .string ⟨#[0, 255]⟩, .bool true] 23); have q2 := Lib.hid (heap_alloc_new w2 (.cells #[.int .i64 15, .int .i64 0, .string ⟨#[0, 255]⟩, .bool true] 23)); have K2 := Lib.hid ((K1.out.below hb2).below B2))
    | (go_at_call 12; refine (V.out _ K2.out).mono ?_; rintro e w3 ⟨rfl, hb3⟩; have K3 := Lib.hid (K2.out.below hb3); have q3 := blk_below q2.out hb3; have yy := fun i => cell_of_row _ _ i _ _ _ q3; have y0 := yy 0; have y1 := yy 1; have y2 := yy 2; have y3 := yy 3; dsimp at y0 y1 y2 y3; clear yy)
    | (go_at_call 15; refine (B.out _ K3.out).mono ?_; rintro e w4 ⟨rfl, hb4⟩; have K4 := Lib.hid (K3.out.below hb4))
    | (go_at_call 14; refine (C.out _ K4.out).mono ?_; rintro e w5 ⟨rfl, hb5⟩))
  go_ret
  exact ⟨rfl, seqB (seqB (seqB (seqB (seqB hb1 hb2) B2) hb3) hb4) hb5⟩
end Go.Proofs.YteolfbamcehcpaaDoor
