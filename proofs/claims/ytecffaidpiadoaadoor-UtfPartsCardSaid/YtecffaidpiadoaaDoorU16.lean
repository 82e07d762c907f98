import Derived.Test.YtecffaidpiadoaaDoorU15
namespace Go.Proofs.YtecffaidpiadoaaDoor
open Go.RowKit
set_option maxRecDepth 100000 in
set_option maxHeartbeats 2000000 in
theorem parts_any (s : ByteArray) (w : World) (hT : UT w) :
    Calls Tryd.prog 5 #[.string s] w fun e w' => e = .returned (.bool true) ∧ Below w.heap.size w w' := by
  have A := Lib.hid (fun w hT => awake_utf w hT)
  have HT := Lib.hid hT; clear hT
  by_cases h500 : 500 < s.size
  · have hi : (500 : Int) < (s.size : Int) := by omega
    go_enter Tryd.func5, Tryd.ntmps5
    go_wp2_with (first
      | (go_at_call 11; refine (A.out _ HT.out).mono ?_; rintro e w1 ⟨rfl, hb1⟩))
    go_ret
    exact ⟨rfl, hb1⟩
  · have hi : (s.size : Int) ≤ 500 := by omega
    have hle : s.size ≤ 1000000 := by omega
    have O := Lib.hid (fun w hT => one_any s w hT hle)
    have P := Lib.hid (fun w hT => partial_any s w hT hle)
    by_cases hs : 0 < s.size
    · have he2 : ¬ s.toList = [] := by intro h; have := congrArg List.length h; rw [toList_len] at this; have h0 : s.size = 0 := this; omega
      have he : s.toList.isEmpty = false := by simpa using he2
      have RO := Lib.hid (fun w => one_ref s w hs hle)
      have RP := Lib.hid (fun w => partial_ref s w hs hle)
      have e1 : oneS s = vAt s 0 := by unfold oneS; rw [if_neg (by omega)]
      have e2 : pB s = partB s := by unfold pB; rw [decide_eq_true hs]; rfl
      rw [e1] at O; rw [e2] at P
      clear e1 e2
      generalize ((vAt s 0).1 : Int) = x at *
      generalize ((vAt s 0).2 : Int) = y at *
      generalize partB s = p at *
      have ex : (x == x) = true := by simp
      have ey : (y == y) = true := by simp
      have ep : (p == p) = true := by simp
      go_enter Tryd.func5, Tryd.ntmps5
      go_wp2_with (first
        | (go_at_call 20; refine (O.out _ HT.out).mono ?_; rintro e w1 ⟨rfl, hb1⟩; have T1 := Lib.hid (HT.out.below hb1))
        | (go_at_call 22; refine (RO.out _).mono ?_; rintro e w2 ⟨rfl, k, rfl⟩; have hb2 : Below w1.heap.size w1 (w1.drewN k) := drewN_below (Below.refl _ _) k; have T2 := Lib.hid (T1.out.below hb2))
        | (go_at_call 11; refine (A.out _ T2.out).mono ?_; rintro e w3 ⟨rfl, hb3⟩; have T3 := Lib.hid (T2.out.below hb3))
        | (go_at_call 21; refine (P.out _ T3.out).mono ?_; rintro e w4 ⟨rfl, hb4⟩)
        | (go_at_call 23; refine (RP.out _).mono ?_; rintro e w5 ⟨rfl, hb5⟩)
        | fail)
      go_ret
      exact ⟨rfl, seqB (seqB (seqB (seqB hb1 hb2) hb3) hb4) hb5⟩
    · have he : s = ⟨#[]⟩ := ByteArray.ext (Array.eq_empty_of_size_eq_zero (by have : s.size = 0 := by omega
                                                                               exact this))
      subst he
      have e1 : oneS ⟨#[]⟩ = (0, 0) := rfl
      have e2 : pB ⟨#[]⟩ = false := rfl
      rw [e1] at O; rw [e2] at P
      clear hi hle h500 hs
      go_enter Tryd.func5, Tryd.ntmps5
      go_wp2_with (first
        | (go_at_call 20; refine (O.out _ HT.out).mono ?_; rintro e w1 ⟨rfl, hb1⟩; have T1 := Lib.hid (HT.out.below hb1))
        | (go_at_call 11; refine (A.out _ T1.out).mono ?_; rintro e w3 ⟨rfl, hb3⟩; have T3 := Lib.hid (T1.out.below hb3))
        | (go_at_call 21; refine (P.out _ T3.out).mono ?_; rintro e w4 ⟨rfl, hb4⟩)
        | fail)
      go_ret
      exact ⟨rfl, seqB (seqB hb1 hb3) hb4⟩
end Go.Proofs.YtecffaidpiadoaaDoor
