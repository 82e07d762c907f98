import Derived.Test.YtecffaidpiadoaaDoorU16
namespace Go.Proofs.YtecffaidpiadoaaDoor
open Go.RowKit
set_option maxRecDepth 100000 in
set_option maxHeartbeats 2000000 in
theorem decodes_any (s : ByteArray) (w : World) (hT : UT w) :
    Calls Tryd.prog 3 #[.string s] w fun e w' => e = .returned (.bool true) ∧ Below w.heap.size w w' := by
  have A := Lib.hid (fun w hT => awake_utf w hT)
  have HT := Lib.hid hT; clear hT
  by_cases h500 : 500 < s.size
  · have hi : (500 : Int) < (s.size : Int) := by omega
    go_enter Tryd.func3, Tryd.ntmps3
    go_wp2_with (first
      | (go_at_call 11; refine (A.out _ HT.out).mono ?_; rintro e w1 ⟨rfl, hb1⟩))
    go_ret
    exact ⟨rfl, hb1⟩
  · have hi : (s.size : Int) ≤ 500 := by omega
    have hle : s.size ≤ 1000000 := by omega
    have hlen := valsS_len s
    have D : ∀ w, UT w → Calls Tryd.prog 12 #[.string s] w fun e w' => ∃ a cap, e = .returned (.slice a (valsS s).length cap) ∧ Hid (Row w' a (valsS s)) ∧ Below w.heap.size w w' := by
      intro w hT
      refine (decode_any s w hT hle).mono ?_
      rintro e w' ⟨v, rfl, hown, hb⟩
      obtain ⟨a, cap, rfl, hr⟩ := row_own hown
      exact ⟨a, cap, rfl, Lib.hid hr, hb⟩
    have RD : ∀ w, Calls Tryd.prog 14 #[.string s] w fun e w' => ∃ a cap, e = .returned (.slice a (valsS s).length cap) ∧ Hid (Row w' a (valsS s)) ∧ Below w.heap.size w w' := by
      intro w
      refine (decode_ref s w hle).mono ?_
      rintro e w' ⟨v, rfl, hown, hb⟩
      obtain ⟨a, cap, rfl, hr⟩ := row_own hown
      exact ⟨a, cap, rfl, Lib.hid hr, hb⟩
    have I := fun pa pb ca cb w ha hb => ints_ref (valsS s) (valsS s) pa pb ca cb w ha hb (by omega) (by omega)
    have E := fun a c w hr => encode_any (valsS s) a c w (by omega) hr
    have C := fun w => count_utf s w hle
    rw [encS_vals] at E
    simp only [decide_true] at I
    generalize valsS s = l at *
    generalize l.length = n at *
    have hn : n ≤ 500 := by omega
    have en : ((n : Int) == (n : Int)) = true := by simp
    have es : (s.toList == s.toList) = true := by simp
    replace D := Lib.hid D; replace RD := Lib.hid RD; replace I := Lib.hid I; replace E := Lib.hid E; replace C := Lib.hid C
    clear hlen hle h500
    go_enter Tryd.func3, Tryd.ntmps3
    go_wp2_with (first
      | (go_at_call 12; refine (D.out _ HT.out).mono ?_; rintro e w1 ⟨a, ca, rfl, hr1, hb1⟩; have T1 := Lib.hid (HT.out.below hb1))
      | (go_at_call 11; refine (A.out _ T1.out).mono ?_; rintro e w2 ⟨rfl, hb2⟩; have hr2 := Lib.hid (hr1.out.below hb2))
      | (go_at_call 14; refine (RD.out _).mono ?_; rintro e w3 ⟨b, cb, rfl, hq3, hb3⟩; have hr3 := Lib.hid (hr2.out.below hb3))
      | (go_at_call 13; refine (I.out _ _ _ _ _ hr3.out hq3.out).mono ?_; rintro e w4 ⟨rfl, k, rfl⟩; have hb4 : Below w3.heap.size w3 (w3.drewN k) := drewN_below (Below.refl _ _) k; have hr4 := Lib.hid (hr3.out.below hb4))
      | (go_at_call 15; refine (E.out _ _ _ hr4.out).mono ?_; rintro e w5 ⟨rfl, hb5⟩)
      | (go_at_call 16; refine (C.out _).mono ?_; rintro e w6 ⟨rfl, hb6⟩)
      | fail)
    go_ret
    exact ⟨rfl, seqB (seqB (seqB (seqB (seqB hb1 hb2) hb3) hb4) hb5) hb6⟩
end Go.Proofs.YtecffaidpiadoaaDoor
