import Derived.Test.YtfhcfamjlhmgiaaDoorSh7
import Derived.Test.YtfhcfamjlhmgiaaDoorSh8
set_option linter.unusedVariables false
set_option linter.unusedSimpArgs false
namespace Go.Proofs.YtfhcfamjlhmgiaaDoor
set_option maxRecDepth 100000
open Go.RowKit
theorem size_emp {s : ByteArray} (h : s ≠ ⟨#[]⟩) : s.toList.isEmpty = false ∧ 0 < s.size := by
  have hs : 0 < s.size := by
    rcases Nat.eq_zero_or_pos s.size with h0 | h0
    · exact absurd (ByteArray.ext (Array.eq_empty_of_size_eq_zero h0)) h
    · exact h0
  refine ⟨?_, hs⟩
  rw [ByteArray.toList_eq]
  cases hl : s.data.toList with
  | nil => have : s.size = 0 := (by show s.data.size = 0; rw [← Array.length_toList, hl]; rfl)
           omega
  | cons x l => rfl
theorem toList_inj {s t : ByteArray} (h : s.toList = t.toList) : s = t := by
  rw [ByteArray.toList_eq, ByteArray.toList_eq] at h
  exact ByteArray.ext (Array.toList_inj.1 h)
theorem toList_ne {s t : ByteArray} (h : s ≠ t) : (s.toList == t.toList) = false ∧ (s.toList != t.toList) = true := by
  have : s.toList ≠ t.toList := fun e => h (toList_inj e)
  exact ⟨by rw [beq_eq_false_iff_ne]; exact this, by rw [bne_iff_ne]; exact this⟩
set_option maxHeartbeats 4000000 in
theorem showcols_any (v : Int) (w : World) (hT : Tabs w) : Calls Tryd.prog 5 #[.int .i64 v] w fun e w' => e = .returned (.bool true) ∧ Below w.heap.size w w' := by
  have AW := Lib.hid fun w hT => shawake_any w hT
  have C := fun w hT => shcols_any v w hT
  have X := fun w hT => shtext_any v w hT
  have R := fun w => right_ref v w
  have O := fun w => of_ref v w
  rw [← cls_eq] at O
  have hno := right_no (v := v)
  have hyes := right_yes (v := v)
  have hrng := shC_rng v
  have hne := shT_ne v
  have hbig := shC_big (v := v)
  have hcl := cls_rng v
  have HT := Lib.hid hT; clear hT
  cases hr : rightB v
  · obtain ⟨n0, n1, n2⟩ := hno hr
    rw [hr] at R
    rw [n1] at C; rw [n2] at X
    replace R := Lib.hid R; replace C := Lib.hid C; replace X := Lib.hid X
    clear hno hyes hrng hne hbig n0 n1 n2 hr O hcl
    go_enter Tryd.func5, Tryd.ntmps5
    go_wp2_with (first
      | (go_at_call 26; refine (C.out _ HT.out).mono ?_; rintro e w1 ⟨rfl, hb1⟩; have T1 := Lib.hid (HT.out.below hb1))
      | (go_at_call 25; refine (R.out _).mono ?_; rintro e w2 ⟨rfl, rfl⟩)
      | (go_at_call 17; refine (AW.out _ T1.out).mono ?_; rintro e w3 ⟨rfl, hb3⟩; have T3 := Lib.hid (T1.out.below hb3))
      | (go_at_call 24; refine (X.out _ T3.out).mono ?_; rintro e w4 ⟨rfl, hb4⟩))
    go_ret
    exact ⟨rfl, seqB (seqB hb1 hb3) hb4⟩
  · have h0 := hyes hr
    have hrg := hrng h0
    have hn := hne h0
    rw [hr] at R
    clear hno hyes hrng hne hr
    have hsz := shT_size v
    generalize shC v = sc at *
    generalize shT v = s at *
    generalize cls v = c at *
    replace R := Lib.hid R; replace C := Lib.hid C; replace X := Lib.hid X; replace O := Lib.hid O
    obtain ⟨r1, r2, r3⟩ := hrg
    have hem := (size_emp hn).1
    have hem2 : (s.toList == []) = false := by
      cases hl : s.toList with
      | nil => rw [hl] at hem; cases hem
      | cons x l => rfl
    have hem3 : (s.toList != []) = true := by
      cases hl : s.toList with
      | nil => rw [hl] at hem; cases hem
      | cons x l => rfl
    by_cases hc : c ≤ 3
    · have Hn := Lib.hid hn
      clear hbig r3 hn
      go_enter Tryd.func5, Tryd.ntmps5
      go_wp2_with (first
        | (go_at_call 26; refine (C.out _ HT.out).mono ?_; rintro e w1 ⟨rfl, hb1⟩; have T1 := Lib.hid (HT.out.below hb1))
        | (go_at_call 25; refine (R.out _).mono ?_; rintro e w2 ⟨rfl, rfl⟩)
        | (go_at_call 24; refine (X.out _ T1.out).mono ?_; rintro e w4 ⟨rfl, hb4⟩; have T4 := Lib.hid (T1.out.below hb4))
        | (go_at_call 17; refine (AW.out _ T4.out).mono ?_; rintro e w3 ⟨rfl, hb3⟩)
        | (go_at_call 27; refine (O.out _).mono ?_; rintro e w5 ⟨rfl, hb5⟩))
      go_ret
      exact ⟨rfl, seqB (seqB (seqB hb1 hb4) hb3) hb5⟩
    · have hce : (sc == (s.size : Int)) = true := by rw [beq_iff_eq]; exact hbig (by omega)
      have r4 := r3 (by omega)
      have Hn := Lib.hid hn
      clear hbig r3 hn
      go_enter Tryd.func5, Tryd.ntmps5
      go_wp2_with (first
        | (go_at_call 26; refine (C.out _ HT.out).mono ?_; rintro e w1 ⟨rfl, hb1⟩; have T1 := Lib.hid (HT.out.below hb1))
        | (go_at_call 25; refine (R.out _).mono ?_; rintro e w2 ⟨rfl, rfl⟩)
        | (go_at_call 24; refine (X.out _ T1.out).mono ?_; rintro e w4 ⟨rfl, hb4⟩; have T4 := Lib.hid (T1.out.below hb4))
        | (go_at_call 17; refine (AW.out _ T4.out).mono ?_; rintro e w3 ⟨rfl, hb3⟩)
        | (go_at_call 27; refine (O.out _).mono ?_; rintro e w5 ⟨rfl, hb5⟩))
      go_ret
      exact ⟨rfl, seqB (seqB (seqB hb1 hb4) hb3) hb5⟩
set_option maxHeartbeats 4000000 in
theorem showapart_any (v u : Int) (w : World) (hT : Tabs w) : Calls Tryd.prog 4 #[.int .i64 v, .int .i64 u] w fun e w' => e = .returned (.bool true) ∧ Below w.heap.size w w' := by
  have AW := Lib.hid fun w hT => shawake_any w hT
  have X1 := fun w hT => shtext_any v w hT
  have X2 := fun w hT => shtext_any u w hT
  have R1 := fun w => right_ref v w
  have R2 := fun w => right_ref u w
  have L1 := fun w hT => looks_any v 0 w hT
  have L2 := fun w hT => looks_any u 0 w hT
  have hap := sh_apart (v := v) (w := u)
  have hy1 := right_yes (v := v)
  have hy2 := right_yes (v := u)
  have hby := sh_byte v
  have hs1 := shT_size v
  have hs2 := shT_size u
  have g1 := lk_rng v 0
  have g2 := lk_rng u 0
  have p1 : lkI v 0 % 2 = if 3 < cls v then 1 else 0 := by unfold lkI; repeat' split
                                                           all_goals omega
  have p2 : lkI u 0 % 2 = if 3 < cls u then 1 else 0 := by unfold lkI; repeat' split
                                                           all_goals omega
  have HT := Lib.hid hT; clear hT
  have hor : v = u ∨ (v ≠ u ∧ rightB v = false) ∨ (v ≠ u ∧ rightB v = true ∧ rightB u = false) ∨ (v ≠ u ∧ rightB v = true ∧ rightB u = true ∧ shT v ≠ shT u) ∨ (v ≠ u ∧ rightB v = true ∧ rightB u = true ∧ shT v = shT u ∧ lkI v 0 % 2 ≠ lkI u 0 % 2) := by
    by_cases e : v = u
    · exact Or.inl e
    right
    cases hr1 : rightB v
    · exact Or.inl ⟨e, rfl⟩
    cases hr2 : rightB u
    · exact Or.inr (Or.inl ⟨e, rfl, rfl⟩)
    by_cases es : shT v = shT u
    · right; right; right
      refine ⟨e, rfl, rfl, es, ?_⟩
      rw [p1, p2]
      intro hh
      apply e
      refine hap (hy1 hr1) (hy2 hr2) ?_ es
      by_cases a : 3 < cls v <;> by_cases b : 3 < cls u <;> simp [a, b] at hh ⊢
    · right; right; left; exact ⟨e, rfl, rfl, es⟩
  clear hap hy1 hy2 p1 p2
  generalize shT v = s at *
  generalize shT u = t at *
  generalize lkI v 0 = a at *
  generalize lkI u 0 = b at *
  have Hby := Lib.hid hby
  have Hor := Lib.hid hor
  replace X1 := Lib.hid X1; replace X2 := Lib.hid X2; replace L1 := Lib.hid L1; replace L2 := Lib.hid L2
  clear hby hor
  go_enter Tryd.func4, Tryd.ntmps4
  go_wp2_with (first
    | (go_at_call 24; (with_reducible refine (X1.out _ HT.out).mono ?_); rintro e w1 ⟨rfl, hb1⟩; have T1 := Lib.hid (HT.out.below hb1))
    | (go_at_call 24; (with_reducible refine (X2.out _ T1.out).mono ?_); rintro e w2 ⟨rfl, hb2⟩; have T2 := Lib.hid (T1.out.below hb2)))
  have N2 := seqB hb1 hb2
  clear hb1 hb2 T1
  go_loop [7] (fun iv => ∃ k : Nat, k ≤ s.size ∧ iv = .int .i64 (k : Int)) (fun iv => s.size - (intOf iv).toNat)
  case atStart => exact ⟨0, Nat.zero_le _, rfl⟩
  case round =>
    obtain ⟨k, hk, rfl⟩ := hrel
    by_cases hlt : k < s.size
    · have hk1 : (k : Int) < s.size := by omega
      have hk0 : (0 : Int) ≤ k := by omega
      have hbk := Hby.out k hlt
      have b1 : ¬ ((s[k].toNat : Int) < 32) := by omega
      have b2 : ((s[k].toNat : Int) == 127) = false := by rw [beq_eq_false_iff_ne]; omega
      have B1 := Lib.hid b1
      clear hbk
      go_wp2
      all_goals
        first
          | (go_round
             case rel => exact ⟨k + 1, by omega, by go_num⟩
             case measure => simp [intOf]; omega)
          | (exact absurd (by assumption) B1.out)
    · obtain rfl : k = s.size := by omega
      rcases Hor.out with e1 | ⟨e1, e2⟩ | ⟨e1, e2, e3⟩ | ⟨e1, e2, e3, e4⟩ | ⟨e1, e2, e3, e4, e5⟩
      · subst e1
        clear Hor
        go_wp2_with (first
          | (go_at_call 17; refine (AW.out _ T2.out).mono ?_; rintro e w3 ⟨rfl, hb3⟩; have T3 := Lib.hid (T2.out.below hb3)))
        go_ret
        exact ⟨rfl, N2.trans (hb3.mono N2.size)⟩
      · have bvu : (v == u) = false := by rw [beq_eq_false_iff_ne]; exact e1
        rw [e2] at R1
        replace R1 := Lib.hid R1
        clear Hor e1 e2
        go_wp2_with (first
          | (go_at_call 17; refine (AW.out _ T2.out).mono ?_; rintro e w3 ⟨rfl, hb3⟩; have T3 := Lib.hid (T2.out.below hb3))
          | (go_at_call 25; (with_reducible refine (R1.out _).mono ?_); rintro e w' ⟨rfl, rfl⟩))
        go_ret
        exact ⟨rfl, N2.trans (hb3.mono N2.size)⟩
      · have bvu : (v == u) = false := by rw [beq_eq_false_iff_ne]; exact e1
        rw [e2] at R1
        rw [e3] at R2
        replace R1 := Lib.hid R1; replace R2 := Lib.hid R2
        clear Hor e1 e2 e3
        go_wp2_with (first
          | (go_at_call 17; refine (AW.out _ T2.out).mono ?_; rintro e w3 ⟨rfl, hb3⟩; have T3 := Lib.hid (T2.out.below hb3))
          | (go_at_call 25; (with_reducible refine (R1.out _).mono ?_); rintro e w' ⟨rfl, rfl⟩)
          | (go_at_call 25; (with_reducible refine (R2.out _).mono ?_); rintro e w' ⟨rfl, rfl⟩))
        go_ret
        exact ⟨rfl, N2.trans (hb3.mono N2.size)⟩
      · have bvu : (v == u) = false := by rw [beq_eq_false_iff_ne]; exact e1
        rw [e2] at R1
        rw [e3] at R2
        obtain ⟨n1, n2⟩ := toList_ne e4
        replace R1 := Lib.hid R1; replace R2 := Lib.hid R2
        clear Hor e1 e2 e3 e4
        go_wp2_with (first
          | (go_at_call 17; refine (AW.out _ T2.out).mono ?_; rintro e w3 ⟨rfl, hb3⟩; have T3 := Lib.hid (T2.out.below hb3))
          | (go_at_call 25; (with_reducible refine (R1.out _).mono ?_); rintro e w' ⟨rfl, rfl⟩)
          | (go_at_call 25; (with_reducible refine (R2.out _).mono ?_); rintro e w' ⟨rfl, rfl⟩))
        go_ret
        exact ⟨rfl, N2.trans (hb3.mono N2.size)⟩
      · have bvu : (v == u) = false := by rw [beq_eq_false_iff_ne]; exact e1
        rw [e2] at R1
        rw [e3] at R2
        subst e4
        have b5 : (a % 2 != b % 2) = true := by rw [bne_iff_ne]; exact e5
        replace R1 := Lib.hid R1; replace R2 := Lib.hid R2
        clear Hor e1 e2 e3 e5
        go_wp2_with (first
          | (go_at_call 17; refine (AW.out _ T2.out).mono ?_; rintro e w3 ⟨rfl, hb3⟩; have T3 := Lib.hid (T2.out.below hb3))
          | (go_at_call 25; (with_reducible refine (R1.out _).mono ?_); rintro e w' ⟨rfl, rfl⟩)
          | (go_at_call 25; (with_reducible refine (R2.out _).mono ?_); rintro e w' ⟨rfl, rfl⟩)
          | (go_at_call 18; (with_reducible refine (L1.out _ T3.out).mono ?_); rintro e w4 ⟨rfl, hb4⟩; have T4 := Lib.hid (T3.out.below hb4))
          | (go_at_call 18; (with_reducible refine (L2.out _ T4.out).mono ?_); rintro e w5 ⟨rfl, hb5⟩))
        go_ret
        exact ⟨rfl, N2.trans ((seqB (seqB hb3 hb4) hb5).mono N2.size)⟩
end Go.Proofs.YtfhcfamjlhmgiaaDoor
