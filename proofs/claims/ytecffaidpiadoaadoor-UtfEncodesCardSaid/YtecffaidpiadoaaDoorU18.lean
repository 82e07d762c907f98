import Derived.Test.YtecffaidpiadoaaDoorU16
namespace Go.Proofs.YtecffaidpiadoaaDoor
open Go.RowKit
def plainB (l : List Int) : Bool := l.all fun v => rightB v && decide (v ≤ 1114111)
theorem plain_step (l : List Int) (k : Nat) (h : k < l.length) : plainB (l.take (k + 1)) = (plainB (l.take k) && (rightB (l.getD k 0) && decide (l.getD k 0 ≤ 1114111))) := by
  unfold plainB
  rw [List.take_add_one, List.all_append, List.getElem?_eq_getElem h]
  simp [List.getD, List.getElem?_eq_getElem h]
theorem plain_vals {l : List Int} (h : plainB l = true) : valsS (encS l) = l := by
  apply valsS_enc
  intro v hv
  have := List.all_eq_true.1 h v hv
  rw [Bool.and_eq_true, decide_eq_true_eq] at this
  have h0 : ptB v = true ∨ stB v = true := by have h := this.1; unfold rightB at h; rwa [Bool.or_eq_true] at h
  rcases h0 with h1 | h1
  · exact h1
  · have := (stB_iff v).1 h1; omega
set_option maxRecDepth 100000 in
set_option maxHeartbeats 2000000 in
theorem encodes_any (l : List Int) (p : Option Addr) (c : Nat) (w : World) (hT : UT w) (hr : Row w p l) (hmax : l.length ≤ 9223372036854775807) :
    Calls Tryd.prog 4 #[.slice p l.length c] w fun e w' => e = .returned (.bool true) ∧ Below w.heap.size w w' := by
  have A := Lib.hid (fun w hT => awake_utf w hT)
  have HT := Lib.hid hT; clear hT
  have Hr := Lib.hid hr; clear hr
  by_cases h200 : 200 < l.length
  · have hi : (200 : Int) < (l.length : Int) := by omega
    go_enter Tryd.func4, Tryd.ntmps4
    go_wp2_with (first
      | (go_at_call 11; refine (A.out _ HT.out).mono ?_; rintro e w1 ⟨rfl, hb1⟩))
    go_ret
    exact ⟨rfl, hb1⟩
  · have hi : (l.length : Int) ≤ 200 := by omega
    have E := Lib.hid (fun a c w hr => encode_any l a c w (by omega) hr)
    go_enter Tryd.func4, Tryd.ntmps4
    go_wp2_with (first
      | (go_at_call 15; refine (E.out _ _ _ Hr.out).mono ?_; rintro e w1 ⟨rfl, hb1⟩; have T1 := Lib.hid (HT.out.below hb1); have hr1 := Lib.hid (Hr.out.below hb1)))
    have hret : Hid (decide (encS l = encS l) = true) := Lib.hid (by simp)
    go_loopw [4, 5] (fun pv iv wr => ∃ (k q : Nat), pv = .bool (plainB (l.take k)) ∧ iv = .int .i64 (k : Int) ∧ k ≤ l.length ∧ wr = w1.drewN q) (fun _ iv _ => l.length - (intOf iv).toNat)
    case atStart => exact ⟨0, 0, rfl, rfl, Nat.zero_le _, rfl⟩
    case round =>
      obtain ⟨k, q, rfl, rfl, hk, rfl⟩ := hrel
      by_cases hlt : k < l.length
      · obtain ⟨ba, oa, rfl, hca, hba⟩ := hr1.out k hlt
        have hlti : (k : Int) < (l.length : Int) := by omega
        have hnext := plain_step l k hlt
        have R1 := Lib.hid (fun w => right_any (l.getD k 0) w)
        have R2 := Lib.hid (fun w => right_ref (l.getD k 0) w)
        generalize l.getD k 0 = x at *
        generalize plainB (l.take k) = pl at *
        generalize rightB x = r at *
        have err : (r == r) = true := by simp
        have Hn := Lib.hid hnext; clear hnext
        go_wp2
        go_quiet ((first | (go_at_call 17; exact qsame (R1.out _)) | (go_at_call 18; exact qsame (R2.out _))))
        go_wp2_with (first
          | (go_at_call 18; refine (R2.out _).mono ?_; rintro e w2 ⟨rfl, rfl⟩))
        all_goals (refine ⟨⟨k + 1, _, ?_, by go_num, by omega, rfl⟩, by simp [intOf]; omega⟩)
        all_goals (rw [Hn.out]; simp [*])
      · obtain rfl : k = l.length := by omega
        rw [List.take_length]
        have RE := Lib.hid (fun a c w hr => encode_ref l a c w (by omega) hr)
        have I := fun pa pb ca cb w ha hb => ints_ref l l pa pb ca cb w ha hb (by omega) (by omega)
        simp only [decide_true] at I
        have hsz : (encS l).size ≤ 1000000 := by have := encI_len l; unfold encS; rw [txt_size]; omega
        have D : plainB l = true → ∀ w, UT w → Calls Tryd.prog 12 #[.string (encS l)] w fun e w' => ∃ a cap, e = .returned (.slice a l.length cap) ∧ Hid (Row w' a l) ∧ Below w.heap.size w w' := by
          intro hp w hT
          have hv := plain_vals hp
          refine (decode_any (encS l) w hT hsz).mono ?_
          rintro e w' ⟨v, rfl, hown, hb⟩
          rw [hv] at hown
          obtain ⟨a, cap, rfl, hr⟩ := row_own hown
          exact ⟨a, cap, rfl, Lib.hid hr, hb⟩
        have es : ((encS l).toList == (encS l).toList) = true := by simp
        have hbq : Below w1.heap.size w1 (w1.drewN q) := drewN_below (Below.refl _ _) q
        have T2 := Lib.hid (T1.out.below hbq)
        have hr2 := Lib.hid (hr1.out.below hbq)
        generalize encS l = t at *
        have hb2 := seqB hb1 hbq
        generalize w1.drewN q = W at *
        replace I := Lib.hid I
        clear E hr1 T1 hret hb1 hbq Hr HT
        cases hp : plainB l
        · clear D I
          go_wp2_with (first
            | (go_at_call 11; refine (A.out _ T2.out).mono ?_; rintro e w3 ⟨rfl, hb3⟩; have hr3 := Lib.hid (hr2.out.below hb3))
            | (go_at_call 19; refine (RE.out _ _ _ hr3.out).mono ?_; rintro e w4 ⟨rfl, hb4⟩))
          go_ret
          exact ⟨rfl, seqB (seqB hb2 hb3) hb4⟩
        · have D' := Lib.hid (D hp)
          clear D
          go_wp2_with (first
            | (go_at_call 11; refine (A.out _ T2.out).mono ?_; rintro e w3 ⟨rfl, hb3⟩; have T3 := Lib.hid (T2.out.below hb3); have hr3 := Lib.hid (hr2.out.below hb3))
            | (go_at_call 19; refine (RE.out _ _ _ hr3.out).mono ?_; rintro e w4 ⟨rfl, hb4⟩; have T4 := Lib.hid (T3.out.below hb4); have hr4 := Lib.hid (hr3.out.below hb4))
            | (go_at_call 12; refine (D'.out _ T4.out).mono ?_; rintro e w5 ⟨a, ca, rfl, hq5, hb5⟩; have hr5 := Lib.hid (hr4.out.below hb5))
            | (go_at_call 13; refine (I.out _ _ _ _ _ hq5.out hr5.out).mono ?_; rintro e w6 ⟨rfl, kk, rfl⟩; have hb6 : Below w5.heap.size w5 (w5.drewN kk) := drewN_below (Below.refl _ _) kk))
          go_ret
          exact ⟨rfl, seqB (seqB (seqB (seqB hb2 hb3) hb4) hb5) hb6⟩
end Go.Proofs.YtecffaidpiadoaaDoor
