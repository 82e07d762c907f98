import Derived.Test.YtecffaidpiadoaaDoorC11
namespace Go.Proofs.YtecffaidpiadoaaDoor
open Go.RowKit
theorem look_idem_keys : ∀ j : Fin 51, skel (lks.getD (2 * j.val + 1) 0) = lks.getD (2 * j.val + 1) 0 ∧ cls (lks.getD (2 * j.val + 1) 0) = 1 := by decide +kernel
theorem skel_idem (v : Int) : skel (skel v) = skel v ∧ (skel v ≠ v → cls (skel v) = 1) := by
  cases h1 : (List.range 51).find? (hitL v) with
  | some j =>
    have ⟨hj, hp⟩ := find_some_lt h1
    have e : skel v = lks.getD (2 * j + 1) 0 := by unfold skel; rw [h1]
    have hk := look_idem_keys ⟨j, hj⟩
    rw [e]; exact ⟨hk.1, fun _ => hk.2⟩
  | none =>
    have e : skel v = v := by unfold skel; rw [h1]
    rw [e]; exact ⟨e, fun h => absurd rfl h⟩
set_option maxRecDepth 100000 in
set_option maxHeartbeats 4000000 in
theorem classof_any (v : Int) (w : World) (hT : Tabs w) : Calls Tryd.prog 7 #[.int .i64 v] w fun e w' => e = .returned (.bool true) ∧ Below w.heap.size w w' := by
  have A := fun w hT => awake_any w hT
  have R := fun w => of_ref v w
  have O := fun w hT => of_any v w hT
  have S := fun w hT => skel_any v w hT
  have S2 := fun w hT => skel_any (skel v) w hT
  have SR := fun w => skel_ref v w
  have W1 := fun w hT => width_any v w hT
  have W2 := fun w => width_ref v w
  have D := fun w hT => danger_any v w hT
  have O2 := fun w hT => of_any (skel v) w hT
  have hi := skel_idem v
  rw [← cls_eq] at R
  rw [skel_eq] at SR
  rw [← wid_eq] at W2
  rw [hi.1] at S2
  have hd : dng v = decide (3 < cls v) := rfl
  rw [hd] at D; clear hd
  have h2 := hi.2
  clear hi
  generalize cls v = c at *
  generalize wid v = d at *
  generalize hs : skel v = s at *
  generalize cls s = k at *
  have Hs := Lib.hid hs; clear hs
  have ec : (c == c) = true := by simp
  have ed : (d == d) = true := by simp
  have es : (s == s) = true := by simp
  have eb : (decide (3 < c) == decide (3 < c)) = true := by simp
  replace A := Lib.hid A; replace R := Lib.hid R; replace O := Lib.hid O; replace S := Lib.hid S; replace S2 := Lib.hid S2; replace SR := Lib.hid SR; replace W1 := Lib.hid W1; replace W2 := Lib.hid W2; replace D := Lib.hid D; replace O2 := Lib.hid O2
  have HT := Lib.hid hT; clear hT
  have H2 := Lib.hid h2; clear h2
  by_cases hsv : s = v
  · subst hsv
    clear H2 Hs
    go_enter Tryd.func7, Tryd.ntmps7
    go_wp2_with (first
      | (go_at_call 24; refine (R.out _).mono ?_; rintro e w1 ⟨rfl, hb1⟩; have T1 := Lib.hid (HT.out.below hb1))
      | (go_at_call 25; (with_reducible refine (S.out _ T1.out).mono ?_); rintro e w2 ⟨rfl, hb2⟩; have T2 := Lib.hid (T1.out.below hb2))
      | (go_at_call 26; refine (A.out _ T2.out).mono ?_; rintro e w3 ⟨rfl, hb3⟩; have T3 := Lib.hid (T2.out.below hb3))
      | (go_at_call 27; (with_reducible refine (O.out _ T3.out).mono ?_); rintro e w4 ⟨rfl, hb4⟩; have T4 := Lib.hid (T3.out.below hb4))
      | (go_at_call 28; (with_reducible refine (W1.out _ T4.out).mono ?_); rintro e w5 ⟨rfl, hb5⟩; have T5 := Lib.hid (T4.out.below hb5))
      | (go_at_call 29; (with_reducible refine (W2.out _).mono ?_); rintro e w6 ⟨rfl, hb6⟩; have T6 := Lib.hid (T5.out.below hb6))
      | (go_at_call 30; (with_reducible refine (D.out _ T6.out).mono ?_); rintro e w7 ⟨rfl, hb7⟩; have T7 := Lib.hid (T6.out.below hb7))
      | (go_at_call 31; (with_reducible refine (SR.out _).mono ?_); rintro e w8 ⟨rfl, hb8⟩; have T8 := Lib.hid (T7.out.below hb8))
      | (go_at_call 25; (with_reducible refine (S2.out _ T8.out).mono ?_); rintro e w9 ⟨rfl, hb9⟩; have T9 := Lib.hid (T8.out.below hb9)))
    go_ret
    exact ⟨rfl, seqB (seqB (seqB (seqB (seqB (seqB (seqB (seqB hb1 hb2) hb3) hb4) hb5) hb6) hb7) hb8) hb9⟩
  · have hk : k = 1 := H2.out hsv
    subst hk
    have hsv2 : (s == v) = false := by rw [beq_eq_false_iff_ne]; exact hsv
    clear H2 Hs hsv
    go_enter Tryd.func7, Tryd.ntmps7
    go_wp2_with (first
      | (go_at_call 24; refine (R.out _).mono ?_; rintro e w1 ⟨rfl, hb1⟩; have T1 := Lib.hid (HT.out.below hb1))
      | (go_at_call 25; (with_reducible refine (S.out _ T1.out).mono ?_); rintro e w2 ⟨rfl, hb2⟩; have T2 := Lib.hid (T1.out.below hb2))
      | (go_at_call 26; refine (A.out _ T2.out).mono ?_; rintro e w3 ⟨rfl, hb3⟩; have T3 := Lib.hid (T2.out.below hb3))
      | (go_at_call 27; (with_reducible refine (O.out _ T3.out).mono ?_); rintro e w4 ⟨rfl, hb4⟩; have T4 := Lib.hid (T3.out.below hb4))
      | (go_at_call 28; (with_reducible refine (W1.out _ T4.out).mono ?_); rintro e w5 ⟨rfl, hb5⟩; have T5 := Lib.hid (T4.out.below hb5))
      | (go_at_call 29; (with_reducible refine (W2.out _).mono ?_); rintro e w6 ⟨rfl, hb6⟩; have T6 := Lib.hid (T5.out.below hb6))
      | (go_at_call 30; (with_reducible refine (D.out _ T6.out).mono ?_); rintro e w7 ⟨rfl, hb7⟩; have T7 := Lib.hid (T6.out.below hb7))
      | (go_at_call 31; (with_reducible refine (SR.out _).mono ?_); rintro e w8 ⟨rfl, hb8⟩; have T8 := Lib.hid (T7.out.below hb8))
      | (go_at_call 25; (with_reducible refine (S2.out _ T8.out).mono ?_); rintro e w9 ⟨rfl, hb9⟩; have T9 := Lib.hid (T8.out.below hb9))
      | (go_at_call 27; (with_reducible refine (O2.out _ T9.out).mono ?_); rintro e w10 ⟨rfl, hb10⟩))
    go_ret
    exact ⟨rfl, seqB (seqB (seqB (seqB (seqB (seqB (seqB (seqB (seqB hb1 hb2) hb3) hb4) hb5) hb6) hb7) hb8) hb9) hb10⟩
end Go.Proofs.YtecffaidpiadoaaDoor
