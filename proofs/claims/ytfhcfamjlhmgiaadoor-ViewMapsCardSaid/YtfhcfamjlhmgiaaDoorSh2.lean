import Derived.Test.YtfhcfamjlhmgiaaDoorSh1
set_option linter.unusedVariables false
set_option linter.unusedSimpArgs false
namespace Go.Proofs.YtfhcfamjlhmgiaaDoor
set_option maxRecDepth 100000
open Go.RowKit
theorem hx16 {n : Int} (h : n ≤ 2000000) : n.toNat < 16 ^ 16 := Nat.lt_of_le_of_lt (show n.toNat ≤ 2000000 by omega) (by decide)
theorem right_cls {v : Int} (h1 : 32 ≤ v) (h2 : v ≤ 1114111) (h3 : v < 55296 ∨ 57343 < v) : rightB v = true := by
  unfold rightB; rw [Bool.or_eq_true]; left; rw [ptB_iff]; omega
set_option maxHeartbeats 4000000 in
theorem shtext_ref (v : Int) (w : World) : Calls Tryd.prog 38 #[.int .i64 v] w fun e w' => e = .returned (.string (shT v)) ∧ Below w.heap.size w w' := by
  have O := fun w => of_ref v w
  rw [← cls_eq] at O
  have hc := sh_cases v
  generalize cls v = c at *
  replace O := Lib.hid O
  rcases hc with ⟨h0, hs⟩ | ⟨h0, h1, h2, h3, hs⟩ | ⟨h0, h1, h2, hs⟩ | ⟨h0, hs⟩ | ⟨h0, h1, h2, hs⟩ | ⟨h0, h00, h1, h2, h3, hs⟩
  · subst h0
    have Hs := Lib.hid hs; clear hs
    go_enter Tryd.func38, Tryd.ntmps38
    go_wp2_with (go_at_call 27; refine (O.out _).mono ?_; rintro e w1 ⟨rfl, hb1⟩)
    go_ret
    rw [Hs.out]; exact ⟨rfl, hb1⟩
  · have B := Lib.hid fun w => bytes_ref v w (right_cls h1 h2 h3)
    have Hs := Lib.hid hs
    clear hs
    rcases h0 with rfl | rfl | rfl
    all_goals
      go_enter Tryd.func38, Tryd.ntmps38
      go_wp2_with (first
        | (go_at_call 27; refine (O.out _).mono ?_; rintro e w1 ⟨rfl, hb1⟩)
        | (go_at_call 74; refine (B.out _).mono ?_; rintro e w2 ⟨rfl, hb2⟩))
      go_ret
      rw [Hs.out]; exact ⟨rfl, seqB hb1 hb2⟩
  · subst h0
    have Hs := Lib.hid hs
    have hcv : ∀ (w : World) dst, Tryd.prog.underlying dst = some .string → (convert 90 dst (.slice (some ⟨w.heap.size, 0, none⟩) 1 1)).run Tryd.prog (w.alloc (Obj.cells #[.int .u8 (v + 64)] 5)) = .ok (.string (txt [v + 64])) (w.alloc (Obj.cells #[.int .u8 (v + 64)] 5)) := fun w => conv_new w [v + 64] 1 rfl
    have hsz : (txt [v + 64]).size ≤ 4 := by simp [txt, ByteArray.size]
    generalize txt [v + 64] = u at *
    clear hs
    go_enter Tryd.func38, Tryd.ntmps38
    go_wp2_with (go_at_call 27; refine (O.out _).mono ?_; rintro e w1 ⟨rfl, hb1⟩)
    go_ret
    rw [Hs.out]; exact ⟨rfl, seqB hb1 (below_alloc _ _)⟩
  · subst h0
    have Hs := Lib.hid hs; clear hs
    go_enter Tryd.func38, Tryd.ntmps38
    go_wp2_with (go_at_call 27; refine (O.out _).mono ?_; rintro e w1 ⟨rfl, hb1⟩)
    go_ret
    rw [Hs.out]; exact ⟨rfl, hb1⟩
  · subst h0
    have Hx := fun w => hex_ref 16 (v - 1114112) 2 w (by omega) (by omega) (hx16 (by omega)) (by omega) (by omega) (by omega)
    rw [hexN_L _ _ (by omega)] at Hx
    have Hs := Lib.hid hs
    have hsz : (⟨(hexL (v - 1114112) 2).toArray⟩ : ByteArray).size ≤ 20 := hex_size _ _
    generalize (⟨(hexL (v - 1114112) 2).toArray⟩ : ByteArray) = u at *
    replace Hx := Lib.hid Hx
    clear hs
    go_enter Tryd.func38, Tryd.ntmps38
    go_wp2_with (first
      | (go_at_call 27; refine (O.out _).mono ?_; rintro e w1 ⟨rfl, hb1⟩)
      | (go_at_call 75; refine (Hx.out _).mono ?_; rintro e w2 ⟨rfl, rfl⟩))
    go_ret
    rw [Hs.out]; exact ⟨rfl, hb1⟩
  · have Hx := fun w => hex_ref 16 v 4 w (by omega) (by omega) (hx16 (by omega)) (by omega) (by omega) (by omega)
    rw [hexN_L _ _ (by omega)] at Hx
    have Hs := Lib.hid hs
    have hsz : (⟨(hexL v 4).toArray⟩ : ByteArray).size ≤ 20 := hex_size _ _
    generalize (⟨(hexL v 4).toArray⟩ : ByteArray) = u at *
    replace Hx := Lib.hid Hx
    have b0 : (c == 0) = false := by rw [beq_eq_false_iff_ne]; omega
    have b4 : (c == 4) = false := by rw [beq_eq_false_iff_ne]; omega
    have b5 : (c == 5) = false := by rw [beq_eq_false_iff_ne]; omega
    have b12 : (c == 12) = false := by rw [beq_eq_false_iff_ne]; omega
    clear hs
    go_enter Tryd.func38, Tryd.ntmps38
    go_wp2_with (first
      | (go_at_call 27; refine (O.out _).mono ?_; rintro e w1 ⟨rfl, hb1⟩)
      | (go_at_call 75; refine (Hx.out _).mono ?_; rintro e w2 ⟨rfl, rfl⟩))
    go_ret
    rw [Hs.out]; exact ⟨rfl, hb1⟩
/-- A value's columns. -/
def shC (v : Int) : Int := if 3 < cls v then ((shT v).size : Int) else wid v
theorem shC_big {v : Int} (h : 3 < cls v) : shC v = ((shT v).size : Int) := by unfold shC; rw [if_pos h]
theorem shC_small {v : Int} (h : ¬ 3 < cls v) : shC v = wid v := by unfold shC; rw [if_neg h]
theorem shT_size (v : Int) : (shT v).size ≤ 30 := by
  have hh := fun n l => hex_size n l
  rcases sh_cases v with ⟨_, hs⟩ | ⟨_, _, _, _, hs⟩ | ⟨_, _, _, hs⟩ | ⟨_, hs⟩ | ⟨_, _, _, hs⟩ | ⟨_, _, _, _, _, hs⟩
  · rw [hs]; decide
  · rw [hs, txt_size]; have := oneI_len v; omega
  · rw [hs, ByteArray.size_append, txt_size]; show 1 + 1 ≤ 30; omega
  · rw [hs]; decide
  · rw [hs, ByteArray.size_append]; have := hh (v - 1114112) 2; show 2 + _ ≤ 30; omega
  · rw [hs, ByteArray.size_append, ByteArray.size_append]; have := hh v 4; show 3 + _ + 1 ≤ 30; omega
set_option maxHeartbeats 1000000 in
theorem shcols_any (v : Int) (w : World) (hT : Tabs w) : Calls Tryd.prog 26 #[.int .i64 v] w fun e w' => e = .returned (.int .i64 (shC v)) ∧ Below w.heap.size w w' := by
  have D := fun w hT => danger_any v w hT
  have X := fun w hT => shtext_any v w hT
  have W := fun w hT => width_any v w hT
  have hsz := shT_size v
  have hd : dng v = decide (3 < cls v) := rfl
  have HT := Lib.hid hT; clear hT
  by_cases h : 3 < cls v
  · rw [hd, decide_eq_true h] at D
    have HC := Lib.hid (shC_big h)
    generalize shT v = s at *
    replace D := Lib.hid D; replace X := Lib.hid X
    clear W hd h
    go_enter Tryd.func26, Tryd.ntmps26
    go_wp2_with (first
      | (go_at_call 61; refine (D.out _ HT.out).mono ?_; rintro e w1 ⟨rfl, hb1⟩; have T1 := Lib.hid (HT.out.below hb1))
      | (go_at_call 24; refine (X.out _ T1.out).mono ?_; rintro e w2 ⟨rfl, hb2⟩))
    go_ret
    rw [HC.out]; exact ⟨rfl, seqB hb1 hb2⟩
  · rw [hd, decide_eq_false h] at D
    have HC := Lib.hid (shC_small h)
    generalize wid v = s at *
    replace D := Lib.hid D; replace W := Lib.hid W
    clear X hd h
    go_enter Tryd.func26, Tryd.ntmps26
    go_wp2_with (first
      | (go_at_call 61; refine (D.out _ HT.out).mono ?_; rintro e w1 ⟨rfl, hb1⟩; have T1 := Lib.hid (HT.out.below hb1))
      | (go_at_call 62; refine (W.out _ T1.out).mono ?_; rintro e w2 ⟨rfl, hb2⟩))
    go_ret
    rw [HC.out]; exact ⟨rfl, seqB hb1 hb2⟩
set_option maxHeartbeats 1000000 in
theorem shcols_ref (v : Int) (w : World) : Calls Tryd.prog 21 #[.int .i64 v] w fun e w' => e = .returned (.int .i64 (shC v)) ∧ Below w.heap.size w w' := by
  have O := fun w => of_ref v w
  rw [← cls_eq] at O
  have X := fun w => shtext_ref v w
  have W := fun w => width_ref v w
  rw [← wid_eq] at W
  have hsz := shT_size v
  by_cases h : 3 < cls v
  · have HC := Lib.hid (shC_big h)
    generalize shT v = s at *
    generalize cls v = c at *
    replace O := Lib.hid O; replace X := Lib.hid X
    clear W
    go_enter Tryd.func21, Tryd.ntmps21
    go_wp2_with (first
      | (go_at_call 27; refine (O.out _).mono ?_; rintro e w1 ⟨rfl, hb1⟩)
      | (go_at_call 38; refine (X.out _).mono ?_; rintro e w2 ⟨rfl, hb2⟩))
    go_ret
    rw [HC.out]; exact ⟨rfl, seqB hb1 hb2⟩
  · have HC := Lib.hid (shC_small h)
    generalize wid v = s at *
    generalize cls v = c at *
    replace O := Lib.hid O; replace W := Lib.hid W
    clear X
    go_enter Tryd.func21, Tryd.ntmps21
    go_wp2_with (first
      | (go_at_call 27; refine (O.out _).mono ?_; rintro e w1 ⟨rfl, hb1⟩)
      | (go_at_call 65; refine (W.out _).mono ?_; rintro e w2 ⟨rfl, hb2⟩))
    go_ret
    rw [HC.out]; exact ⟨rfl, seqB hb1 hb2⟩
/-- A sign's looks. -/
def lkI (v l : Int) : Int := (if 3 < cls v then 1 else 0) + (if l = 2 ∨ l = 3 ∨ l = 4 then 2 else 0) + (if cls v = 3 then 4 else 0)
theorem lk_rng (v l : Int) : 0 ≤ lkI v l ∧ lkI v l ≤ 7 := by unfold lkI; repeat' split
                                                             all_goals omega
set_option maxHeartbeats 4000000 in
theorem looks_any (v l : Int) (w : World) (hT : Tabs w) : Calls Tryd.prog 18 #[.agg #[.int .i64 v, .int .i64 l]] w fun e w' => e = .returned (.int .i64 (lkI v l)) ∧ Below w.heap.size w w' := by
  have D := fun w hT => danger_any v w hT
  have O := fun w hT => of_any v w hT
  have hd : dng v = decide (3 < cls v) := rfl
  rw [hd] at D
  have hk : lkI v l = (if 3 < cls v then 1 else 0) + (if l = 2 ∨ l = 3 ∨ l = 4 then 2 else 0) + (if cls v = 3 then 4 else 0) := rfl
  have HT := Lib.hid (hT.below (below_alloc w (.cells #[.int .i64 v, .int .i64 l] 23)))
  have hb0 := below_alloc w (.cells #[.int .i64 v, .int .i64 l] 23)
  clear hT hd
  generalize cls v = c at *
  have hc : (3 < c) ∨ c = 3 ∨ (c < 3) := by omega
  have hl : l = 2 ∨ l = 3 ∨ l = 4 ∨ (l ≠ 2 ∧ l ≠ 3 ∧ l ≠ 4) := by omega
  rcases hc with hc | hc | hc
  all_goals
    first
      | (have e3 : (c == 3) = false := by rw [beq_eq_false_iff_ne]; omega
         first | rw [decide_eq_true hc] at D | rw [decide_eq_false (by omega)] at D)
      | (subst hc
         have e3 : True := trivial
         rw [decide_eq_false (by omega)] at D)
    replace D := Lib.hid D; replace O := Lib.hid O
    rcases hl with hl | hl | hl | ⟨n2, n3, n4⟩
    all_goals
      first
        | (subst hl
           have l2 : True := trivial; have l3 : True := trivial; have l4 : True := trivial)
        | (have l2 : (l == 2) = false := by rw [beq_eq_false_iff_ne]; exact n2
           have l3 : (l == 3) = false := by rw [beq_eq_false_iff_ne]; exact n3
           have l4 : (l == 4) = false := by rw [beq_eq_false_iff_ne]; exact n4)
      have Hk := Lib.hid hk
      clear hk
      go_enter Tryd.func18, Tryd.ntmps18
      go_wp2_with (first
        | (go_at_call 61; refine (D.out _ HT.out).mono ?_; rintro e w1 ⟨rfl, hb1⟩; have T1 := Lib.hid (HT.out.below hb1); have cc1 := (hb1.cell (p := ⟨w.heap.size, 0, none⟩) (by simp)).trans (World.cell?_alloc_new w (#[.int .i64 v, .int .i64 _]) 23 0); have cc2 := (hb1.cell (p := ⟨w.heap.size, 1, none⟩) (by simp)).trans (World.cell?_alloc_new w (#[.int .i64 v, .int .i64 _]) 23 1))
        | (go_at_call 64; refine (O.out _ T1.out).mono ?_; rintro e w2 ⟨rfl, hb2⟩))
      go_ret
      rw [Hk.out]
      refine ⟨retI ?_, seqB hb0 (seqB hb1 hb2)⟩
      clear HT T1 D O hb0 hb1 hb2
      (repeat' split) <;> first | omega | simp_all
end Go.Proofs.YtfhcfamjlhmgiaaDoor
