/-
  The law on the whole view.
-/
import Derived.Test.YtfhcfamjlhmgiaaDoorV6
import Derived.Test.YtfhcfamjlhmgiaaDoorSh4
set_option linter.unusedVariables false
set_option linter.unusedSimpArgs false
namespace Go.Proofs.YtfhcfamjlhmgiaaDoor
set_option maxRecDepth 100000
open Go.RowKit
theorem vwOf_len (p l : List (Int × Int)) : ((vwOf p l).length : Int) = colM p p.length + colM l l.length := by
  unfold vwOf colM
  rw [List.length_append, vwG_len l ofL ofP, Int.natCast_add]
theorem vwOf_le (p l : List (Int × Int)) : (vwOf p l).length ≤ 30 * p.length + 30 * l.length := by
  have h1 := vwG_le p ofP p.length
  have h2 := vwG_le l ofL l.length
  unfold vwOf; rw [List.length_append]; omega
theorem colM_rng (l : List (Int × Int)) : 0 ≤ colM l l.length ∧ colM l l.length ≤ 30 * l.length := by
  have := vwG_le l ofP l.length
  unfold colM; omega
/-- What a law on views holds: the tables, the prompt, the line. -/
structure V7 (w : World) (a b : Option Addr) (p l : List (Int × Int)) : Prop where
  t : Tabs w
  p : Signs w a p
  l : Signs w b l
theorem V7.below {w w' : World} {a b : Option Addr} {p l : List (Int × Int)} (h : V7 w a b p l) (hb : Below w.heap.size w w') : V7 w' a b p l := ⟨h.t.below hb, h.p.below hb, h.l.below hb⟩
theorem vof_cells (p l : List (Int × Int)) (a b : Option Addr) (c d : Nat) (w : World) (hp : p.length ≤ 1000) (hl : l.length ≤ 1000) (h : V7 w a b p l) (hP : sgC p = true) (hL : sgC l = true) :
    Calls Tryd.prog 29 #[.slice a p.length c, .slice b l.length d] w fun e w' => ∃ ca cc, e = .returned (.tuple #[.slice ca (vwOf p l).length cc, .int .i64 0]) ∧ CellsIn w' ca (vwOf p l) ∧ Below w.heap.size w w' := by
  refine (vof_yes p l a b c d w hp hl h.p h.l h.t hP hL).mono ?_
  rintro e w' ⟨x, rfl, hown, hb⟩
  obtain ⟨ca, cc, rfl, hci⟩ := cells_of_own hown
  exact ⟨ca, cc, rfl, hci, hb⟩
theorem vof_cellsR (p l : List (Int × Int)) (a b : Option Addr) (c d : Nat) (w : World) (hp : p.length ≤ 1000) (hl : l.length ≤ 1000) (h : V7 w a b p l) (hP : sgC p = true) (hL : sgC l = true) :
    Calls Tryd.prog 31 #[.slice a p.length c, .slice b l.length d] w fun e w' => ∃ ca cc, e = .returned (.slice ca (vwOf p l).length cc) ∧ CellsIn w' ca (vwOf p l) ∧ Below w.heap.size w w' := by
  refine (vof_ref p l a b c d w hp hl h.p h.l hP hL).mono ?_
  rintro e w' ⟨x, rfl, hown, hb⟩
  obtain ⟨ca, cc, rfl, hci⟩ := cells_of_own hown
  exact ⟨ca, cc, rfl, hci, hb⟩
set_option maxHeartbeats 8000000 in
theorem viewof_any (p l : List (Int × Int)) (a b : Option Addr) (c d : Nat) (w : World) (hT : Tabs w) (hmp : p.length ≤ 9223372036854775807) (hml : l.length ≤ 9223372036854775807) (ha : Signs w a p) (hb : Signs w b l) :
    Calls Tryd.prog 6 #[.slice a p.length c, .slice b l.length d] w fun e w' => e = .returned (.bool true) ∧ Below w.heap.size w w' := by
  have AW := Lib.hid fun w hT => vawake_any w hT
  have HV := Lib.hid (⟨hT, ha, hb⟩ : V7 w a b p l)
  clear hT ha hb
  by_cases h1 : 40 < p.length
  · have h1' : (40 : Int) < p.length := by omega
    go_enter Tryd.func6, Tryd.ntmps6
    go_wp2_with (go_at_call 28; refine (AW.out _ HV.out.t).mono ?_; rintro e w1 ⟨rfl, hb1⟩)
    go_ret
    exact ⟨rfl, hb1⟩
  have h1' : ¬ (40 : Int) < p.length := by omega
  by_cases h2 : 60 < l.length
  · have h2' : (60 : Int) < l.length := by omega
    go_enter Tryd.func6, Tryd.ntmps6
    go_wp2_with (go_at_call 28; refine (AW.out _ HV.out.t).mono ?_; rintro e w1 ⟨rfl, hb1⟩)
    go_ret
    exact ⟨rfl, hb1⟩
  have h2' : ¬ (60 : Int) < l.length := by omega
  have A1 := fun w1 (h : V7 w1 a b p l) => sgall_ref p a c w1 (by omega) h.p
  have A2 := fun w1 (h : V7 w1 a b p l) => sgall_ref l b d w1 (by omega) h.l
  cases hP : sgC p
  · have V := Lib.hid (vof_no p l a b c d w (by omega) (by omega) HV.out.p HV.out.l (by rw [hP]; rfl))
    rw [hP] at A1
    replace A1 := Lib.hid A1
    clear A2 hP
    go_enter Tryd.func6, Tryd.ntmps6
    go_wp2_with (first
      | (go_at_call 29; refine V.out.mono ?_; rintro e w1 ⟨rfl, hb1⟩; have K1 := Lib.hid (HV.out.below hb1))
      | (go_at_call 30; (with_reducible refine (A1.out _ K1.out).mono ?_); rintro e w2 ⟨rfl, hb2⟩; have K2 := Lib.hid (K1.out.below hb2))
      | (go_at_call 28; refine (AW.out _ K2.out.t).mono ?_; rintro e w3 ⟨rfl, hb3⟩))
    go_ret
    exact ⟨rfl, seqB (seqB hb1 hb2) hb3⟩
  cases hL : sgC l
  · have V := Lib.hid (vof_no p l a b c d w (by omega) (by omega) HV.out.p HV.out.l (by rw [hL, Bool.and_false]))
    rw [hP] at A1
    rw [hL] at A2
    replace A1 := Lib.hid A1; replace A2 := Lib.hid A2
    clear hP hL
    go_enter Tryd.func6, Tryd.ntmps6
    go_wp2_with (first
      | (go_at_call 29; refine V.out.mono ?_; rintro e w1 ⟨rfl, hb1⟩; have K1 := Lib.hid (HV.out.below hb1))
      | (go_at_call 30; (with_reducible refine (A1.out _ K1.out).mono ?_); rintro e w2 ⟨rfl, hb2⟩; have K2 := Lib.hid (K1.out.below hb2))
      | (go_at_call 30; (with_reducible refine (A2.out _ K2.out).mono ?_); rintro e w3 ⟨rfl, hb3⟩; have K3 := Lib.hid (K2.out.below hb3))
      | (go_at_call 28; refine (AW.out _ K3.out.t).mono ?_; rintro e w4 ⟨rfl, hb4⟩))
    go_ret
    exact ⟨rfl, seqB (seqB (seqB hb1 hb2) hb3) hb4⟩
  · have V := vof_cells p l a b c d w (by omega) (by omega) HV.out hP hL
    have U := fun w1 (h : V7 w1 a b p l) => vof_cellsR p l a b c d w1 (by omega) (by omega) h hP hL
    have S1 := fun w1 (h : V7 w1 a b p l) => vcols_any p a c w1 (by omega) h.p h.t
    have S2 := fun w1 (h : V7 w1 a b p l) => vcols_any l b d w1 (by omega) h.l h.t
    have hlen := vwOf_len p l
    have hle := vwOf_le p l
    have n1 := colM_rng p
    have n2 := colM_rng l
    rw [hP] at A1
    rw [hL] at A2
    generalize vwOf p l = X at *
    generalize colM p p.length = s1 at *
    generalize colM l l.length = s2 at *
    have A := fun w1 a b c d (h1 : CellsIn w1 a X) (h2 : CellsIn w1 b X) => shall_ref X X a b c d w1 (by omega) (by omega) h1 h2
    rw [show shA X X = true by unfold shA; simp] at A
    have hsum : (s1 + s2 == (X.length : Int)) = true := by rw [beq_iff_eq]; omega
    replace A1 := Lib.hid A1; replace A2 := Lib.hid A2; replace V := Lib.hid V; replace U := Lib.hid U; replace S1 := Lib.hid S1; replace S2 := Lib.hid S2; replace A := Lib.hid A
    clear hP hL
    go_enter Tryd.func6, Tryd.ntmps6
    go_wp2_with (first
      | (go_at_call 29; refine V.out.mono ?_; rintro e w1 ⟨ca, cc, rfl, hci, hb1⟩; have K1 := Lib.hid (HV.out.below hb1); have C1 := Lib.hid hci; clear hci)
      | (go_at_call 30; (with_reducible refine (A1.out _ K1.out).mono ?_); rintro e w2 ⟨rfl, hb2⟩; have K2 := Lib.hid (K1.out.below hb2); have C2 := Lib.hid (C1.out.below hb2))
      | (go_at_call 30; (with_reducible refine (A2.out _ K2.out).mono ?_); rintro e w3 ⟨rfl, hb3⟩; have K3 := Lib.hid (K2.out.below hb3); have C3 := Lib.hid (C2.out.below hb3))
      | (go_at_call 28; refine (AW.out _ K3.out.t).mono ?_; rintro e w4 ⟨rfl, hb4⟩; have K4 := Lib.hid (K3.out.below hb4); have C4 := Lib.hid (C3.out.below hb4))
      | (go_at_call 31; refine (U.out _ K4.out).mono ?_; rintro e w5 ⟨da, dc, rfl, hdi, hb5⟩; have K5 := Lib.hid (K4.out.below hb5); have C5 := Lib.hid (C4.out.below hb5); have D5 := Lib.hid hdi; clear hdi)
      | (go_at_call 20; refine (A.out _ _ _ _ _ C5.out D5.out).mono ?_; rintro e w6 ⟨rfl, hb6⟩; have K6 := Lib.hid (K5.out.below hb6))
      | (go_at_call 32; (with_reducible refine (S1.out _ K6.out).mono ?_); rintro e w7 ⟨rfl, hb7⟩; have K7 := Lib.hid (K6.out.below hb7))
      | (go_at_call 32; (with_reducible refine (S2.out _ K7.out).mono ?_); rintro e w8 ⟨rfl, hb8⟩))
    go_ret
    exact ⟨rfl, seqB (seqB (seqB (seqB (seqB (seqB (seqB hb1 hb2) hb3) hb4) hb5) hb6) hb7) hb8⟩
end Go.Proofs.YtfhcfamjlhmgiaaDoor
