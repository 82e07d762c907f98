/-
  KeyNames: the law.
-/
import Derived.Test.YteolfbamcehcpaaDoorKy17
import Derived.Lib.QuietBelow
import Derived.BigQuiet
set_option linter.unusedVariables false
set_option linter.unusedSimpArgs false
namespace Go.Proofs.YteolfbamcehcpaaDoor
set_option maxRecDepth 100000
open Go.RowKit Go.Sort
theorem kvalue_t (k : Ky) (w : World) (hK : KT w) (v : Int) (b : Bool) (h1 : vlI k = v) (h2 : vlB k = b) : Calls Tryd.prog 12 #[.agg #[.int .i64 k.1, .int .i64 k.2.1, .string k.2.2.1, .bool k.2.2.2]] w fun e w' => e = .returned (.tuple #[.int .i64 v, .bool b]) ∧ Below w.heap.size w w' := by
  subst h1; subst h2; exact kvalue_any k w hK
theorem kcheck_t (k : Ky) (w : World) (hK : KT w) (er : Int) (h : ckE k = er) : Calls Tryd.prog 14 #[.agg #[.int .i64 k.1, .int .i64 k.2.1, .string k.2.2.1, .bool k.2.2.2]] w fun e w' => e = .returned (.int .i64 er) ∧ Below w.heap.size w w' := by
  subst h; exact kcheck_any k w hK
theorem kbytes_t (k : Ky) (w : World) (hK : KT w) (s : ByteArray) (h : mkS (byR k) = s) : Calls Tryd.prog 15 #[.agg #[.int .i64 k.1, .int .i64 k.2.1, .string k.2.2.1, .bool k.2.2.2]] w fun e w' => e = .returned (.string s) ∧ Below w.heap.size w w' := by
  subst h; exact kbytes_any k w hK
theorem rbytes_t (k : Ky) (w : World) (h : keyB k = true) (s : ByteArray) (hs : mkS (byN k) = s) : Calls Tryd.prog 19 #[.agg #[.int .i64 k.1, .int .i64 k.2.1, .string k.2.2.1, .bool k.2.2.2]] w fun e w' => e = .returned (.string s) ∧ Below w.heap.size w w' := by
  subst hs; exact rbytes_ref k w h
theorem rvalue_t (k : Ky) (w : World) (v : Int) (h : vlN k = v) : Calls Tryd.prog 17 #[.agg #[.int .i64 k.1, .int .i64 k.2.1, .string k.2.2.1, .bool k.2.2.2]] w fun e w' => e = .returned (.int .i64 v) ∧ Below w.heap.size w w' := by
  subst h; exact rvalue_ref k w
theorem khigh (v : Int) (w : World) (r : Int) (h : highI v 0 = r) : Calls Tryd.prog 20 #[.int .i64 v, .int .i64 0] w fun e w' => e = .returned (.int .i64 r) ∧ Below w.heap.size w w' :=
  (high_any v 0 w).mono fun e w' hh => ⟨by rw [hh.1, h], by rw [← hh.2]; exact Below.refl _ _⟩
theorem nm_short (k : Ky) (h : keyB k = true) (ht : k.2.2.1.size ≤ 300) : (mkS (nmN k)).size ≤ 900000 := by
  rw [mkS_size]
  have hf := kyF_of h
  clear h
  cases hf with
  | sign v h0 h1 h => show (sgN v).length ≤ _; have := sgN_len v; omega
  | ctrl v h0 h1 => show (ctN v).length ≤ _; rw [ctN_len]; omega
  | meta1 v h0 h1 => rw [nm_meta1 v h0]; have := sgN_len v; simp; omega
  | meta0 v h0 h1 => rw [nm_meta0 v (by omega)]; have := ctN_len v; simp; omega
  | paste t c h =>
    show (psN t.data.toList c).length ≤ _
    unfold psN
    have : t.data.toList.length ≤ 300 := by rw [list_size]; exact ht
    simp only [List.length_cons, List.length_append, hx2_len]
    cases c <;> simp <;> omega
  | named kind v h1 h2 h3 h15 h =>
    rw [nm_named kind v _ _ h1 h2 h3 h15]
    have : ∀ r ∈ kTab, r.2.2.1.length ≤ 10 := by decide
    obtain ⟨r, hr⟩ := Option.isSome_iff_exists.1 h
    have ⟨hm, e1, e2⟩ := find_ok hr
    have e3 : kRowOf kind v = r := by unfold kRowOf; rw [hr]; rfl
    rw [e3]; have := this r hm; omega
set_option maxHeartbeats 4000000 in
set_option maxRecDepth 100000 in
theorem kn_no (k : Ky) (w : World) (hK : KT w) (hs : ¬ (300 : Int) < k.2.2.1.size) (h : keyB k = false) : Calls Tryd.prog 3 #[.agg #[.int .i64 k.1, .int .i64 k.2.1, .string k.2.2.1, .bool k.2.2.2]] w fun e w' => e = .returned (.bool true) ∧ Below w.heap.size w w' := by
  have AW := Lib.hid fun w hK => kawake_any w hK
  have N := Lib.hid fun w hK => kname_t k w hK ⟨#[]⟩ 2 (by unfold nmR; rw [h]; rfl) (ckE_no h)
  have V := Lib.hid fun w hK => kvalue_t k w hK 0 false (by unfold vlI; rw [h]; simp) (by unfold vlB; rw [h]; rfl)
  have M := Lib.hid fun w => rmay_t k w false h
  have C := Lib.hid fun w hK => kcheck_t k w hK 2 (ckE_no h)
  have B := Lib.hid fun w hK => kbytes_t k w hK ⟨#[]⟩ (by unfold byR; rw [h]; rfl)
  have B0 := below_alloc w (.cells #[.int .i64 k.1, .int .i64 k.2.1, .string k.2.2.1, .bool k.2.2.2] 23)
  have Q0 := Lib.hid (heap_alloc_new w (.cells #[.int .i64 k.1, .int .i64 k.2.1, .string k.2.2.1, .bool k.2.2.2] 23))
  have HK := Lib.hid (hK.below B0)
  clear hK h
  go_enter Tryd.func3, Tryd.ntmps3
  go_wp2_with (first
    | (go_at_call 11; refine (N.out _ HK.out).mono ?_; rintro e w1 ⟨rfl, hb1⟩; have K1 := Lib.hid (HK.out.below hb1); have Q1 := Lib.hid (blk_below Q0.out hb1); have yy := fun i => cell_of_row _ _ i _ _ _ Q1.out; have a0 := yy 0; have a1 := yy 1; have a2 := yy 2; have a3 := yy 3; dsimp at a0 a1 a2 a3; clear yy)
    | (go_at_call 12; refine (V.out _ K1.out).mono ?_; rintro e w2 ⟨rfl, hb2⟩; have K2 := Lib.hid (K1.out.below hb2); have Q2 := Lib.hid (blk_below Q1.out hb2); have yy := fun i => cell_of_row _ _ i _ _ _ Q2.out; have b0 := yy 0; have b1 := yy 1; have b2 := yy 2; have b3 := yy 3; dsimp at b0 b1 b2 b3; clear yy)
    | (go_at_call 13; refine (M.out _).mono ?_; rintro e w3 ⟨rfl, hb3⟩; have K3 := Lib.hid (K2.out.below hb3); have Q3 := Lib.hid (blk_below Q2.out hb3))
    | (go_at_call 10; refine (AW.out _ K3.out).mono ?_; rintro e w4 ⟨rfl, hb4⟩; have K4 := Lib.hid (K3.out.below hb4); have Q4 := Lib.hid (blk_below Q3.out hb4); have yy := fun i => cell_of_row _ _ i _ _ _ Q4.out; have c0 := yy 0; have c1 := yy 1; have c2 := yy 2; have c3 := yy 3; dsimp at c0 c1 c2 c3; clear yy)
    | (go_at_call 14; refine (C.out _ K4.out).mono ?_; rintro e w5 ⟨rfl, hb5⟩; have K5 := Lib.hid (K4.out.below hb5); have Q5 := Lib.hid (blk_below Q4.out hb5); have yy := fun i => cell_of_row _ _ i _ _ _ Q5.out; have d0 := yy 0; have d1 := yy 1; have d2 := yy 2; have d3 := yy 3; dsimp at d0 d1 d2 d3; clear yy)
    | (go_at_call 15; refine (B.out _ K5.out).mono ?_; rintro e w6 ⟨rfl, hb6⟩))
  go_ret
  exact ⟨rfl, seqB (seqB (seqB (seqB (seqB (seqB B0 hb1) hb2) hb3) hb4) hb5) hb6⟩
set_option maxHeartbeats 8000000 in
set_option maxRecDepth 100000 in
theorem kn_yes (k : Ky) (w : World) (hK : KT w) (hs : ¬ (300 : Int) < k.2.2.1.size) (h : keyB k = true) (V0 vl : Int) (b : Bool) (hv : vlN k = vl) (h1 : vlI k = V0) (h2 : vlB k = b) (h3 : decide (0 ≤ vl) = b) (h4 : highI vl 0 = V0) : Calls Tryd.prog 3 #[.agg #[.int .i64 k.1, .int .i64 k.2.1, .string k.2.2.1, .bool k.2.2.2]] w fun e w' => e = .returned (.bool true) ∧ Below w.heap.size w w' := by
  have hsh := nm_short k h (by omega)
  have hp := parse_name k h
  obtain ⟨nm, hnm⟩ : ∃ nm, mkS (nmN k) = nm := ⟨_, rfl⟩
  obtain ⟨by0, hby⟩ : ∃ b, mkS (byN k) = b := ⟨_, rfl⟩
  rw [show nmN k = nm.data.toList by rw [← hnm]] at hp
  rw [hnm] at hsh
  have AW := fun w hK => kawake_any w hK
  have N := Lib.hid fun w hK => kname_t k w hK nm 0 (by unfold nmR; rw [h]; exact hnm) (ckE_yes h)
  have V := Lib.hid fun w hK => kvalue_t k w hK V0 b h1 h2
  have M := Lib.hid fun w => rmay_t k w true h
  have P := Lib.hid fun w hK => kparse_t nm w hK hsh k 0 hp.1 hp.2
  have RV := Lib.hid fun w => rvalue_t k w vl hv
  have C := fun w hK => kcheck_t k w hK 0 (ckE_yes h)
  have B := fun w hK => kbytes_t k w hK by0 (by unfold byR; rw [h]; exact hby)
  have RN := fun w => rname_t k w h nm hnm
  have RB := fun w => rbytes_t k w h by0 hby
  have HI := fun w => khigh vl w V0 h4
  have EQ := eqKey_same k.1 k.2.1 k.2.2.1 k.2.2.2
  have B0 := below_alloc w (.cells #[.int .i64 k.1, .int .i64 k.2.1, .string k.2.2.1, .bool k.2.2.2] 23)
  have Q0 := Lib.hid (heap_alloc_new w (.cells #[.int .i64 k.1, .int .i64 k.2.1, .string k.2.2.1, .bool k.2.2.2] 23))
  have HK := Lib.hid (hK.below B0)
  replace AW := Lib.hid AW; replace C := Lib.hid C; replace B := Lib.hid B; replace RN := Lib.hid RN; replace RB := Lib.hid RB; replace HI := Lib.hid HI
  clear hK h hp hsh hv h1 h2 h4 hnm hby
  go_enter Tryd.func3, Tryd.ntmps3
  go_upto_region 9 with (first
    | (go_at_call 11; refine (N.out _ HK.out).mono ?_; rintro e w1 ⟨rfl, hb1⟩; have K1 := Lib.hid (HK.out.below hb1); have Q1 := Lib.hid (blk_below Q0.out hb1); have yy := fun i => cell_of_row _ _ i _ _ _ Q1.out; have a0 := yy 0; have a1 := yy 1; have a2 := yy 2; have a3 := yy 3; dsimp at a0 a1 a2 a3; clear yy)
    | (go_at_call 12; refine (V.out _ K1.out).mono ?_; rintro e w2 ⟨rfl, hb2⟩; have K2 := Lib.hid (K1.out.below hb2); have Q2 := Lib.hid (blk_below Q1.out hb2); have yy := fun i => cell_of_row _ _ i _ _ _ Q2.out; have b0 := yy 0; have b1 := yy 1; have b2 := yy 2; have b3 := yy 3; dsimp at b0 b1 b2 b3; clear yy)
    | (go_at_call 13; refine (M.out _).mono ?_; rintro e w3 ⟨rfl, hb3⟩; have K3 := Lib.hid (K2.out.below hb3); have Q3 := Lib.hid (blk_below Q2.out hb3))
    | (go_at_call 16; refine (P.out _ K3.out).mono ?_; rintro e w4 ⟨rfl, hb4⟩; have B4 := below_alloc w4 (.cells #[.int .i64 k.1, .int .i64 k.2.1, .string k.2.2.1, .bool k.2.2.2] 23); have R4 := Lib.hid (heap_alloc_new w4 (.cells #[.int .i64 k.1, .int .i64 k.2.1, .string k.2.2.1, .bool k.2.2.2] 23)); have K4 := Lib.hid ((K3.out.below hb4).below B4); have Q4 := Lib.hid (blk_below (blk_below Q3.out hb4) B4); have yy := fun i => cell_of_row _ _ i _ _ _ Q4.out; have c0 := yy 0; have c1 := yy 1; have c2 := yy 2; have c3 := yy 3; dsimp at c0 c1 c2 c3; clear yy)
    | (go_at_call 17; refine (RV.out _).mono ?_; rintro e w5 ⟨rfl, hb5⟩; have K5 := Lib.hid (K4.out.below hb5); have Q5 := blk_below Q4.out hb5; have R5 := blk_below R4.out hb5))
  have NB := Lib.hid (seqB (seqB (seqB (seqB (seqB (seqB B0 hb1) hb2) hb3) hb4) B4) hb5)
  have yy := fun i => cell_of_row _ _ i _ _ _ Q5
  have zz := fun i => cell_of_row _ _ i _ _ _ R5
  have e0 := yy 0; have e1 := yy 1; have e2 := yy 2; have e3 := yy 3; have f0 := zz 0; have f1 := zz 1; have f2 := zz 2; have f3 := zz 3
  dsimp at e0 e1 e2 e3 f0 f1 f2 f3
  have G0 := fun d os => cell_regrown e0 d os
  have G1 := fun d os => cell_regrown e1 d os
  have G2 := fun d os => cell_regrown e2 d os
  have G3 := fun d os => cell_regrown e3 d os
  have H0 := fun d os => cell_regrown f0 d os
  have H1 := fun d os => cell_regrown f1 d os
  have H2 := fun d os => cell_regrown f2 d os
  have H3 := fun d os => cell_regrown f3 d os
  have KR := fun d os => K5.out.below (below_regrown w5 d os)
  have AW5 := Lib.hid fun d os => (AW.out (grow (redrawn w5 d) os) (KR d os)).regrown_of
  have C5 := Lib.hid fun d os => (C.out (grow (redrawn w5 d) os) (KR d os)).regrown_of
  have B5 := Lib.hid fun d os => (B.out (grow (redrawn w5 d) os) (KR d os)).regrown_of
  have RN5 := Lib.hid fun d os => (RN.out (grow (redrawn w5 d) os)).regrown_of
  have RB5 := Lib.hid fun d os => (RB.out (grow (redrawn w5 d) os)).regrown_of
  have HI5 := Lib.hid fun d os => (HI.out (grow (redrawn w5 d) os)).regrown_of
  clear yy zz e0 e1 e2 e3 f0 f1 f2 f3 a0 a1 a2 a3 b0 b1 b2 b3 c0 c1 c2 c3 Q5 R5 AW C B RN RB HI KR N V M P RV
  clear hb1 hb2 hb3 hb4 hb5 B4 B0
  refine wp_region_quiet_below (by kernel_rfl) (by kernel_rfl) ?_
  repeat (any_goals (go_big_quiet_step (first | (go_at_call 10; exact AW5.out _ _) | (go_at_call 14; exact C5.out _ _) | (go_at_call 15; exact B5.out _ _) | (go_at_call 18; exact RN5.out _ _) | (go_at_call 19; exact RB5.out _ _) | (go_at_call 20; exact HI5.out _ _))))
  refine wpQuiet_nil ?_
  intro _ hw'
  obtain ⟨⟨dq, osq⟩, hw''⟩ := hw'
  subst hw''
  have NF := seqB NB.out (below_regrown w5 dq osq)
  clear G0 G1 G2 G3 H0 H1 H2 H3
  generalize grow (redrawn w5 dq) osq = W6 at *
  go_wp2_with fail
  go_ret
  exact ⟨by simp, NF⟩
theorem kn_awake (k : Ky) (w : World) (hK : KT w) (hs : (300 : Int) < k.2.2.1.size) : Calls Tryd.prog 3 #[.agg #[.int .i64 k.1, .int .i64 k.2.1, .string k.2.2.1, .bool k.2.2.2]] w fun e w' => e = .returned (.bool true) ∧ Below w.heap.size w w' := by
  have AW := Lib.hid fun w hK => kawake_any w hK
  have B0 := below_alloc w (.cells #[.int .i64 k.1, .int .i64 k.2.1, .string k.2.2.1, .bool k.2.2.2] 23)
  have HK := Lib.hid (hK.below B0)
  clear hK
  go_enter Tryd.func3, Tryd.ntmps3
  go_wp2_with (go_at_call 10; refine (AW.out _ HK.out).mono ?_; rintro e w1 ⟨rfl, hb1⟩)
  go_ret
  exact ⟨rfl, seqB B0 hb1⟩
theorem keynames_any (k : Ky) (w : World) (hK : KT w) : Calls Tryd.prog 3 #[.agg #[.int .i64 k.1, .int .i64 k.2.1, .string k.2.2.1, .bool k.2.2.2]] w fun e w' => e = .returned (.bool true) ∧ Below w.heap.size w w' := by
  by_cases hs : (300 : Int) < k.2.2.1.size
  · exact kn_awake k w hK hs
  · cases h : keyB k with
    | false => exact kn_no k w hK hs h
    | true =>
      by_cases hv : 0 ≤ vlN k
      · exact kn_yes k w hK hs h (vlN k) (vlN k) true rfl (by unfold vlI; rw [if_pos ⟨h, hv⟩]) (by unfold vlB; rw [h, decide_eq_true hv]; rfl) (decide_eq_true hv) (by unfold highI; split <;> omega)
      · exact kn_yes k w hK hs h 0 (vlN k) false rfl (by unfold vlI; rw [if_neg (fun hh => hv hh.2)]) (by unfold vlB; rw [decide_eq_false hv, Bool.and_false]) (decide_eq_false hv) (by unfold highI; split <;> omega)
end Go.Proofs.YteolfbamcehcpaaDoor
