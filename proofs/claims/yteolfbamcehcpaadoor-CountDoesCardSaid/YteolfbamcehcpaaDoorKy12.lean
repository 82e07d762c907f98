/-
  Keys, the reference: which may be, what they are typed as they are, what signs are named.
-/
import Derived.Test.YteolfbamcehcpaaDoorKy11
set_option linter.unusedVariables false
set_option linter.unusedSimpArgs false
namespace Go.Proofs.YteolfbamcehcpaaDoor
set_option maxRecDepth 100000
open Go.RowKit
set_option maxHeartbeats 2000000 in
theorem rvalue_ref (k : Ky) (w : World) : Calls Tryd.prog 17 #[kyV k] w fun e w' => e = .returned (.int .i64 (vlN k)) ∧ Below w.heap.size w w' := by
  obtain ⟨kind, v, t, c⟩ := k
  have B0 := below_alloc w (.cells #[.int .i64 kind, .int .i64 v, .string t, .bool c] 23)
  have HV : vlN (kind, v, t, c) = if kind = 1 ∨ kind = 2 ∨ kind = 4 then v else if kind = 5 then 27 else if kind = 6 then 127 else -1 := rfl
  rw [HV]
  clear HV
  show Calls _ _ #[.agg #[.int .i64 kind, .int .i64 v, .string t, .bool c]] _ _
  by_cases h1 : kind = 1
  · subst h1
    rw [if_pos (by decide)]
    go_enter Tryd.func17, Tryd.ntmps17
    go_wp2_with fail
    go_ret
    exact ⟨rfl, B0⟩
  by_cases h2 : kind = 2
  · subst h2
    rw [if_pos (by decide)]
    go_enter Tryd.func17, Tryd.ntmps17
    go_wp2_with fail
    go_ret
    exact ⟨rfl, B0⟩
  by_cases h4 : kind = 4
  · subst h4
    rw [if_pos (by decide)]
    go_enter Tryd.func17, Tryd.ntmps17
    go_wp2_with fail
    go_ret
    exact ⟨rfl, B0⟩
  rw [if_neg (by omega)]
  have b1 : (kind == 1) = false := by simp [h1]
  have b2 : (kind == 2) = false := by simp [h2]
  have b4 : (kind == 4) = false := by simp [h4]
  by_cases h5 : kind = 5
  · subst h5
    rw [if_pos rfl]
    go_enter Tryd.func17, Tryd.ntmps17
    go_wp2_with fail
    go_ret
    exact ⟨rfl, B0⟩
  rw [if_neg h5]
  by_cases h6 : kind = 6
  · subst h6
    rw [if_pos rfl]
    go_enter Tryd.func17, Tryd.ntmps17
    go_wp2_with fail
    go_ret
    exact ⟨rfl, B0⟩
  · rw [if_neg h6]
    go_enter Tryd.func17, Tryd.ntmps17
    go_wp2_with fail
    go_ret
    exact ⟨rfl, B0⟩
theorem may_other2 (kind v : Int) (h1 : kind ≠ 1) (h2 : kind ≠ 2) (h3 : kind ≠ 3) : mayB kind v = decide ((kind = 4 ∧ (v = 13 ∨ v = 10)) ∨ (5 ≤ kind ∧ kind ≤ 14 ∧ v = 0) ∨ (kind = 14 ∧ v = 1)) := by
  rw [may_other kind v h1 h2 h3, kFind_iff]
theorem rm4 (v : Int) : mayB 4 v = (decide (v = 10) || decide (v = 13)) := by
  rw [may_other2 _ _ (by decide) (by decide) (by decide), Bool.eq_iff_iff, decide_eq_true_iff]; simp; try omega
theorem rm14 (v : Int) : mayB 14 v = (decide (v = 0) || decide (v = 1)) := by
  rw [may_other2 _ _ (by decide) (by decide) (by decide), Bool.eq_iff_iff, decide_eq_true_iff]; simp; try omega
theorem rmo (kind v : Int) (h1 : kind ≠ 1) (h2 : kind ≠ 2) (h3 : kind ≠ 3) (h4 : kind ≠ 4) (h14 : kind ≠ 14) : mayB kind v = (decide (5 ≤ kind) && decide (kind ≤ 13) && decide (v = 0)) := by
  rw [may_other2 _ _ h1 h2 h3, Bool.eq_iff_iff, decide_eq_true_iff]; simp; try omega
set_option maxHeartbeats 4000000 in
theorem rmay_ref (k : Ky) (w : World) : Calls Tryd.prog 13 #[kyV k] w fun e w' => e = .returned (.bool (keyB k)) ∧ Below w.heap.size w w' := by
  obtain ⟨kind, v, t, c⟩ := k
  show Calls _ _ #[.agg #[.int .i64 kind, .int .i64 v, .string t, .bool c]] _ _
  have B0 := below_alloc w (.cells #[.int .i64 kind, .int .i64 v, .string t, .bool c] 23)
  by_cases h15 : kind = 15
  · subst h15
    rw [key_paste]
    by_cases hv : v = 0
    · subst hv
      have ht' : (t.size ≤ 65536) ↔ ((t.size : Int) ≤ 65536) := by omega
      rw [show decide (t.size ≤ 65536) = decide ((t.size : Int) ≤ 65536) by simp [ht']]
      go_enter Tryd.func13, Tryd.ntmps13
      go_wp2_with fail
      go_ret
      exact ⟨by simp, B0⟩
    · rw [decide_eq_false hv]
      go_enter Tryd.func13, Tryd.ntmps13
      go_wp2_with fail
      go_ret
      exact ⟨rfl, B0⟩
  rw [key_other _ _ _ _ h15]
  by_cases ht : t = ⟨#[]⟩
  · subst ht
    cases c with
    | true =>
      rw [show (decide ((⟨#[]⟩ : ByteArray).size = 0) && !true && mayB kind v) = false by simp]
      go_enter Tryd.func13, Tryd.ntmps13
      go_wp2_with fail
      go_ret
      exact ⟨rfl, B0⟩
    | false =>
      rw [show (decide ((⟨#[]⟩ : ByteArray).size = 0) && !false && mayB kind v) = mayB kind v by show (decide (0 = 0) && !false && mayB kind v) = _; simp]
      by_cases h1 : kind = 1
      · subst h1
        rw [may_sign]
        have R := Lib.hid fun w => right_ref v w
        by_cases h32 : 32 ≤ v
        · by_cases h127 : v = 127
          · subst h127
            go_enter Tryd.func13, Tryd.ntmps13
            go_wp2_with fail
            go_ret
            exact ⟨rfl, B0⟩
          · rw [decide_eq_true h32, decide_eq_true h127]
            go_enter Tryd.func13, Tryd.ntmps13
            go_wp2_with (go_at_call 50; refine (R.out _).mono ?_; rintro e w1 ⟨rfl, rfl⟩)
            go_ret
            refine ⟨?_, B0⟩
            show Ending.returned (.bool (v != 127 && rightB v)) = _
            rw [show (v != 127) = true by simp [h127]]
            rfl
        · rw [decide_eq_false h32]
          go_enter Tryd.func13, Tryd.ntmps13
          go_wp2_with fail
          go_ret
          exact ⟨rfl, B0⟩
      by_cases h2 : kind = 2
      · subst h2
        rw [may_ctrl]
        have R := Lib.hid fun w => control_ref v w
        go_enter Tryd.func13, Tryd.ntmps13
        go_wp2_with (go_at_call 51; refine (R.out _).mono ?_; rintro e w1 ⟨rfl, hb1⟩)
        go_ret
        exact ⟨rfl, seqB B0 hb1⟩
      by_cases h3 : kind = 3
      · subst h3
        rw [may_meta]
        have R := fun w => control_ref v w
        by_cases hc : ctB v = true
        · rw [hc] at R
          have e : (decide (0 ≤ v ∧ v < 128) && !lnB v) = true := by
            unfold ctB at hc
            simp at hc
            rw [hc.2, decide_eq_true (by omega)]; rfl
          rw [e]
          replace R := Lib.hid R
          clear e hc
          go_enter Tryd.func13, Tryd.ntmps13
          go_wp2_with (go_at_call 51; refine (R.out _).mono ?_; rintro e w1 ⟨rfl, hb1⟩)
          go_ret
          exact ⟨rfl, seqB B0 hb1⟩
        · have hc' : ctB v = false := by simpa using hc
          have Q0 := Lib.hid (heap_alloc_new w (.cells #[.int .i64 3, .int .i64 v, .string ⟨#[]⟩, .bool false] 23))
          rw [hc'] at R
          have e : (decide (0 ≤ v ∧ v < 128) && !lnB v) = (decide (32 ≤ v) && decide (v ≤ 127)) := by
            unfold ctB at hc'
            by_cases h32 : 32 ≤ v
            · rw [lnB_no (by omega), decide_eq_true h32]
              by_cases h7 : v ≤ 127
              · rw [decide_eq_true (by omega), decide_eq_true h7]; rfl
              · rw [decide_eq_false (by omega), decide_eq_false h7]; rfl
            · rw [decide_eq_false h32]
              by_cases h0 : 0 ≤ v
              · rw [decide_eq_true (by omega)] at hc'
                rw [decide_eq_true (by omega)]
                exact hc'
              · rw [decide_eq_false (by omega)]; rfl
          rw [e]
          replace R := Lib.hid R
          clear e hc hc'
          by_cases h32 : 32 ≤ v
          · rw [decide_eq_true h32]
            go_enter Tryd.func13, Tryd.ntmps13
            go_wp2_with (go_at_call 51; refine (R.out _).mono ?_; rintro e w1 ⟨rfl, hb1⟩; have q1 := blk_below Q0.out hb1; have y := fun i => cell_of_row _ _ i _ _ _ q1; have y1 := y 1; clear y q1; dsimp at y1)
            go_ret
            exact ⟨by simp, seqB B0 hb1⟩
          · rw [decide_eq_false h32]
            go_enter Tryd.func13, Tryd.ntmps13
            go_wp2_with (go_at_call 51; refine (R.out _).mono ?_; rintro e w1 ⟨rfl, hb1⟩; have q1 := blk_below Q0.out hb1; have y := fun i => cell_of_row _ _ i _ _ _ q1; have y1 := y 1; clear y q1; dsimp at y1)
            go_ret
            exact ⟨rfl, seqB B0 hb1⟩
      by_cases h4 : kind = 4
      · subst h4
        rw [rm4]
        by_cases hv : v = 10
        · subst hv
          go_enter Tryd.func13, Tryd.ntmps13
          go_wp2_with fail
          go_ret
          exact ⟨rfl, B0⟩
        · rw [decide_eq_false hv]
          go_enter Tryd.func13, Tryd.ntmps13
          go_wp2_with fail
          go_ret
          refine ⟨?_, B0⟩
          by_cases hw : v = 13 <;> simp [hw, hv]
      by_cases h14 : kind = 14
      · subst h14
        rw [rm14]
        by_cases hv : v = 0
        · subst hv
          go_enter Tryd.func13, Tryd.ntmps13
          go_wp2_with fail
          go_ret
          exact ⟨rfl, B0⟩
        · rw [decide_eq_false hv]
          go_enter Tryd.func13, Tryd.ntmps13
          go_wp2_with fail
          go_ret
          refine ⟨?_, B0⟩
          by_cases hw : v = 1 <;> simp [hw, hv]
      rw [rmo kind v h1 h2 h3 h4 h14]
      by_cases h5 : 5 ≤ kind
      · by_cases h13 : kind ≤ 13
        · rw [decide_eq_true h5, decide_eq_true h13]
          go_enter Tryd.func13, Tryd.ntmps13
          go_wp2_with fail
          go_ret
          refine ⟨?_, B0⟩
          by_cases hw : v = 0 <;> simp [hw]
        · rw [decide_eq_false h13]
          go_enter Tryd.func13, Tryd.ntmps13
          go_wp2_with fail
          go_ret
          exact ⟨by simp, B0⟩
      · rw [decide_eq_false h5]
        go_enter Tryd.func13, Tryd.ntmps13
        go_wp2_with fail
        go_ret
        exact ⟨by simp, B0⟩
  · rw [show (decide (t.size = 0) && !c && mayB kind v) = false by rw [decide_eq_false (fun h => ht (kzero h))]; rfl]
    have s3 : ¬ t.toList = [] := kstr_nil ht
    go_enter Tryd.func13, Tryd.ntmps13
    go_wp2_with fail
    go_ret
    exact ⟨rfl, B0⟩
end Go.Proofs.YteolfbamcehcpaaDoor
