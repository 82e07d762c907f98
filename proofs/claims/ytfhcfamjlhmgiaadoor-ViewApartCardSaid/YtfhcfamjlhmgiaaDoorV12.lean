/-
  The law that unlike lines are shown unlike.
-/
import Derived.Test.YtfhcfamjlhmgiaaDoorV11
set_option linter.unusedVariables false
set_option linter.unusedSimpArgs false
namespace Go.Proofs.YtfhcfamjlhmgiaaDoor
set_option maxRecDepth 100000
open Go.RowKit
set_option maxHeartbeats 4000000 in
theorem sgvalues_ref (l : List (Int × Int)) (a : Option Addr) (c : Nat) (w : World) (hl : l.length ≤ 1000) (hs : Signs w a l) :
    Calls Tryd.prog 36 #[.slice a l.length c] w fun e w' => ∃ x, e = .returned x ∧ ownI w' w.heap.size x (l.map (·.1)) ∧ Below w.heap.size w w' := by
  obtain ⟨i0, hi, hz0, hz1, hz2⟩ := info_parts infoIntS
  have HS := Lib.hid hs; clear hs
  go_enter Tryd.func36, Tryd.ntmps36
  go_wp2
  go_loopw [3, 4] (fun ov iv wr => ∃ k : Nat, k ≤ l.length ∧ iv = .int .i64 (k : Int) ∧ Hid (ownI wr w.heap.size ov ((l.take k).map (·.1))) ∧ Below w.heap.size w wr) (fun _ iv _ => l.length - (intOf iv).toNat)
  case atStart => exact ⟨0, Nat.zero_le _, rfl, Lib.hid (World.ownsRow_nil _ _ _ _), Below.refl _ _⟩
  case round =>
    obtain ⟨k, hk, rfl, hO, hb⟩ := hrel
    by_cases hlt : k < l.length
    · obtain ⟨b, off, rfl, hblk, c1, c2⟩ := (HS.out.below hb) k hlt
      have hk1 : (k : Int) < l.length := by omega
      have hk0 : (0 : Int) ≤ k := by omega
      have hnext : (l.take (k + 1)).map (·.1) = (l.take k).map (·.1) ++ [(l.getD k (0, 0)).1] := by
        rw [List.take_add_one, List.getElem?_eq_getElem hlt, List.map_append]
        simp [List.getD, List.getElem?_eq_getElem hlt]
      have hlen : ((l.take k).map (·.1)).length ≤ 1000 := by simp; omega
      have Hn := Lib.hid hnext
      have hown := hO.out
      unfold ownI at hown
      have hsz := hb.size
      clear hnext
      generalize (l.getD k (0, 0)).1 = v at *
      generalize (l.take k).map (·.1) = Y at *
      go_wp2_with (at_builtin; refine wpList_append_own _ rfl _ _ 44 rfl w.heap.size 3 i0 (.int .i64 0) 1 8 Tryd.underlying44 hi hz0 hz1 hz2 rfl (by decide) _ _ _ rfl (hown.alloc _) ⟨wr.heap.size, 0, none⟩ 1 1 [.int .i64 v] rfl rfl ?g1 ?g2 ?g3 ?g4 ?g5 ?_)
      case g1 => intro j x hj; exact app_cells rfl hj
      case g2 => simp [Value.oneCell']
      case g3 => unfold maxLen; omega
      case g4 => omega
      case g5 => simp; omega
      intro v' w5 hown5 hgrow5 _
      have N5 := (hb.alloc hb.size (.cells #[.int .i64 v] 3)).grown hgrow5 (by simp; omega) (fun j hj => (hown.lt j hj).1)
      have HO := Lib.hid (show ownI w5 w.heap.size v' (Y ++ [v]) by unfold ownI; rw [List.length_append, List.map_append]; exact hown5)
      clear hown5 hgrow5 hown
      go_wp2
      go_roundw
      case rel => exact ⟨k + 1, by omega, by go_num, by first | exact HO | (rw [Hn.out]; exact HO), N5⟩
      case measure => (simp [intOf]; try omega)
    · obtain rfl : k = l.length := by omega
      rw [List.take_length] at hO
      go_wp2
      go_ret
      exact ⟨_, rfl, hO.out, hb⟩
set_option maxHeartbeats 8000000 in
theorem viewapart_any (p x y : List (Int × Int)) (a b g : Option Addr) (c d m : Nat) (w : World) (hT : Tabs w) (hmp : p.length ≤ 9223372036854775807) (hmx : x.length ≤ 9223372036854775807) (hmy : y.length ≤ 9223372036854775807) (ha : Signs w a p) (hb : Signs w b x) (hg : Signs w g y) :
    Calls Tryd.prog 8 #[.slice a p.length c, .slice b x.length d, .slice g y.length m] w fun e w' => e = .returned (.bool true) ∧ Below w.heap.size w w' := by
  have AW := Lib.hid fun w hT => vawake_any w hT
  have HV := Lib.hid (⟨⟨hT, ha, hb⟩, ⟨hT, ha, hg⟩⟩ : V7 w a b p x ∧ V7 w a g p y)
  clear hT ha hb hg
  by_cases h1 : 20 < p.length
  · have h1' : (20 : Int) < p.length := by omega
    go_enter Tryd.func8, Tryd.ntmps8
    go_wp2_with (go_at_call 28; refine (AW.out _ HV.out.1.t).mono ?_; rintro e w1 ⟨rfl, hb1⟩)
    go_ret
    exact ⟨rfl, hb1⟩
  have h1' : ¬ (20 : Int) < p.length := by omega
  by_cases h2 : 30 < x.length
  · have h2' : (30 : Int) < x.length := by omega
    go_enter Tryd.func8, Tryd.ntmps8
    go_wp2_with (go_at_call 28; refine (AW.out _ HV.out.1.t).mono ?_; rintro e w1 ⟨rfl, hb1⟩)
    go_ret
    exact ⟨rfl, hb1⟩
  have h2' : ¬ (30 : Int) < x.length := by omega
  by_cases h3 : 30 < y.length
  · have h3' : (30 : Int) < y.length := by omega
    go_enter Tryd.func8, Tryd.ntmps8
    go_wp2_with (go_at_call 28; refine (AW.out _ HV.out.1.t).mono ?_; rintro e w1 ⟨rfl, hb1⟩)
    go_ret
    exact ⟨rfl, hb1⟩
  have h3' : ¬ (30 : Int) < y.length := by omega
  have A1 := fun w1 (h : V7 w1 a b p x) => sgall_ref p a c w1 (by omega) h.p
  have A2 := fun w1 (h : V7 w1 a b p x) => sgall_ref x b d w1 (by omega) h.l
  have A3 := fun w1 (h : V7 w1 a g p y) => sgall_ref y g m w1 (by omega) h.l
  cases hP : sgC p
  · rw [hP] at A1
    replace A1 := Lib.hid A1
    clear A2 A3 hP
    go_enter Tryd.func8, Tryd.ntmps8
    go_wp2_with (first
      | (go_at_call 30; (with_reducible refine (A1.out _ HV.out.1).mono ?_); rintro e w2 ⟨rfl, hb2⟩; have K2 := Lib.hid (HV.out.1.below hb2))
      | (go_at_call 28; refine (AW.out _ K2.out.t).mono ?_; rintro e w3 ⟨rfl, hb3⟩))
    go_ret
    exact ⟨rfl, seqB hb2 hb3⟩
  cases hX : sgC x
  · rw [hP] at A1
    rw [hX] at A2
    replace A1 := Lib.hid A1; replace A2 := Lib.hid A2
    clear hP hX A3
    go_enter Tryd.func8, Tryd.ntmps8
    go_wp2_with (first
      | (go_at_call 30; (with_reducible refine (A1.out _ HV.out.1).mono ?_); rintro e w2 ⟨rfl, hb2⟩; have K2 := Lib.hid (HV.out.1.below hb2))
      | (go_at_call 30; (with_reducible refine (A2.out _ K2.out).mono ?_); rintro e w3 ⟨rfl, hb3⟩; have K3 := Lib.hid (K2.out.below hb3))
      | (go_at_call 28; refine (AW.out _ K3.out.t).mono ?_; rintro e w4 ⟨rfl, hb4⟩))
    go_ret
    exact ⟨rfl, seqB (seqB hb2 hb3) hb4⟩
  cases hY : sgC y
  · rw [hP] at A1
    rw [hX] at A2
    rw [hY] at A3
    replace A1 := Lib.hid A1; replace A2 := Lib.hid A2; replace A3 := Lib.hid A3
    clear hP hX hY
    go_enter Tryd.func8, Tryd.ntmps8
    go_wp2_with (first
      | (go_at_call 30; (with_reducible refine (A1.out _ HV.out.1).mono ?_); rintro e w2 ⟨rfl, hb2⟩; have K2 := Lib.hid (HV.out.1.below hb2); have L2 := Lib.hid (HV.out.2.below hb2))
      | (go_at_call 30; (with_reducible refine (A2.out _ K2.out).mono ?_); rintro e w3 ⟨rfl, hb3⟩; have K3 := Lib.hid (K2.out.below hb3); have L3 := Lib.hid (L2.out.below hb3))
      | (go_at_call 30; (with_reducible refine (A3.out _ L3.out).mono ?_); rintro e w4 ⟨rfl, hb4⟩; have K4 := Lib.hid (K3.out.below hb4))
      | (go_at_call 28; refine (AW.out _ K4.out.t).mono ?_; rintro e w5 ⟨rfl, hb5⟩))
    go_ret
    exact ⟨rfl, seqB (seqB (seqB hb2 hb3) hb4) hb5⟩
  · have V := fun w1 (h : V7 w1 a b p x) => vof_cells p x a b c d w1 (by omega) (by omega) h hP hX
    have U := fun w1 (h : V7 w1 a g p y) => vof_cells p y a g c m w1 (by omega) (by omega) h hP hY
    have hle1 := vwOf_le p x
    have hle2 := vwOf_le p y
    have hap := vw_apart (p := p) hX hY
    rw [hP] at A1
    rw [hX] at A2
    rw [hY] at A3
    generalize vwOf p x = X at *
    generalize vwOf p y = Y at *
    have S := fun w1 a b c d (h1 : CellsIn w1 a X) (h2 : CellsIn w1 b Y) => shsame_ref X Y a b c d w1 (by omega) (by omega) h1 h2
    have Q1 := fun w1 (h : V7 w1 a b p x) => sgvalues_ref x b d w1 (by omega) h.l
    have Q2 := fun w1 (h : V7 w1 a g p y) => sgvalues_ref y g m w1 (by omega) h.l
    have I := fun w1 pa pb ca cb (h1 : Row w1 pa (x.map (·.1))) (h2 : Row w1 pb (y.map (·.1))) => ints_ref (x.map (·.1)) (y.map (·.1)) pa pb ca cb w1 h1 h2 (by simp; omega) (by simp; omega)
    replace A1 := Lib.hid A1; replace A2 := Lib.hid A2; replace A3 := Lib.hid A3; replace V := Lib.hid V; replace U := Lib.hid U
    cases hS : shS X Y
    · rw [hS] at S
      replace S := Lib.hid S
      clear hP hX hY hap Q1 Q2 I hS
      go_enter Tryd.func8, Tryd.ntmps8
      go_wp2_with (first
        | (go_at_call 30; (with_reducible refine (A1.out _ HV.out.1).mono ?_); rintro e w2 ⟨rfl, hb2⟩; have K2 := Lib.hid (HV.out.1.below hb2); have L2 := Lib.hid (HV.out.2.below hb2))
        | (go_at_call 30; (with_reducible refine (A2.out _ K2.out).mono ?_); rintro e w3 ⟨rfl, hb3⟩; have K3 := Lib.hid (K2.out.below hb3); have L3 := Lib.hid (L2.out.below hb3))
        | (go_at_call 30; (with_reducible refine (A3.out _ L3.out).mono ?_); rintro e w4 ⟨rfl, hb4⟩; have K4 := Lib.hid (K3.out.below hb4); have L4 := Lib.hid (L3.out.below hb4))
        | (go_at_call 29; (with_reducible refine (V.out _ K4.out).mono ?_); rintro e w5 ⟨ca, cc, rfl, hci, hb5⟩; have K5 := Lib.hid (K4.out.below hb5); have L5 := Lib.hid (L4.out.below hb5); have C5 := Lib.hid hci; clear hci)
        | (go_at_call 29; (with_reducible refine (U.out _ L5.out).mono ?_); rintro e w6 ⟨da, dc, rfl, hdi, hb6⟩; have K6 := Lib.hid (K5.out.below hb6); have C6 := Lib.hid (C5.out.below hb6); have D6 := Lib.hid hdi; clear hdi)
        | (go_at_call 28; refine (AW.out _ K6.out.t).mono ?_; rintro e w7 ⟨rfl, hb7⟩; have C7 := Lib.hid (C6.out.below hb7); have D7 := Lib.hid (D6.out.below hb7))
        | (go_at_call 23; refine (S.out _ _ _ _ _ C7.out D7.out).mono ?_; rintro e w8 ⟨rfl, hb8⟩))
      go_ret
      exact ⟨rfl, seqB (seqB (seqB (seqB (seqB (seqB hb2 hb3) hb4) hb5) hb6) hb7) hb8⟩
    · have hval := hap hS
      rw [hS] at S
      rw [decide_eq_true hval] at I
      replace S := Lib.hid S; replace Q1 := Lib.hid Q1; replace Q2 := Lib.hid Q2; replace I := Lib.hid I
      clear hP hX hY hap hS hval
      generalize x.map (·.1) = X1 at *
      generalize y.map (·.1) = Y1 at *
      go_enter Tryd.func8, Tryd.ntmps8
      go_wp2_with (first
        | (go_at_call 30; (with_reducible refine (A1.out _ HV.out.1).mono ?_); rintro e w2 ⟨rfl, hb2⟩; have K2 := Lib.hid (HV.out.1.below hb2); have L2 := Lib.hid (HV.out.2.below hb2))
        | (go_at_call 30; (with_reducible refine (A2.out _ K2.out).mono ?_); rintro e w3 ⟨rfl, hb3⟩; have K3 := Lib.hid (K2.out.below hb3); have L3 := Lib.hid (L2.out.below hb3))
        | (go_at_call 30; (with_reducible refine (A3.out _ L3.out).mono ?_); rintro e w4 ⟨rfl, hb4⟩; have K4 := Lib.hid (K3.out.below hb4); have L4 := Lib.hid (L3.out.below hb4))
        | (go_at_call 29; (with_reducible refine (V.out _ K4.out).mono ?_); rintro e w5 ⟨ca, cc, rfl, hci, hb5⟩; have K5 := Lib.hid (K4.out.below hb5); have L5 := Lib.hid (L4.out.below hb5); have C5 := Lib.hid hci; clear hci)
        | (go_at_call 29; (with_reducible refine (U.out _ L5.out).mono ?_); rintro e w6 ⟨da, dc, rfl, hdi, hb6⟩; have K6 := Lib.hid (K5.out.below hb6); have L6 := Lib.hid (L5.out.below hb6); have C6 := Lib.hid (C5.out.below hb6); have D6 := Lib.hid hdi; clear hdi)
        | (go_at_call 28; refine (AW.out _ K6.out.t).mono ?_; rintro e w7 ⟨rfl, hb7⟩; have K7 := Lib.hid (K6.out.below hb7); have L7 := Lib.hid (L6.out.below hb7); have C7 := Lib.hid (C6.out.below hb7); have D7 := Lib.hid (D6.out.below hb7))
        | (go_at_call 23; refine (S.out _ _ _ _ _ C7.out D7.out).mono ?_; rintro e w8 ⟨rfl, hb8⟩; have K8 := Lib.hid (K7.out.below hb8); have L8 := Lib.hid (L7.out.below hb8))
        | (go_at_call 36; (with_reducible refine (Q1.out _ K8.out).mono ?_); rintro e w9 ⟨v9, rfl, hown9, hb9⟩; obtain ⟨ea, ec, rfl, hr9⟩ := row_of_own hown9; have L9 := Lib.hid (L8.out.below hb9); have R9 := Lib.hid hr9; clear hown9 hr9)
        | (go_at_call 36; (with_reducible refine (Q2.out _ L9.out).mono ?_); rintro e w10 ⟨v10, rfl, hown10, hb10⟩; obtain ⟨fa, fc, rfl, hr10⟩ := row_of_own hown10; have R10 := Lib.hid (R9.out.below hb10); have T10 := Lib.hid hr10; clear hown10 hr10)
        | (go_at_call 35; refine (I.out _ _ _ _ _ R10.out T10.out).mono ?_; rintro e w11 ⟨rfl, n11, rfl⟩))
      go_ret
      exact ⟨rfl, drewN_below (seqB (seqB (seqB (seqB (seqB (seqB (seqB (seqB hb2 hb3) hb4) hb5) hb6) hb7) hb8) hb9) hb10) _⟩
end Go.Proofs.YtfhcfamjlhmgiaaDoor
