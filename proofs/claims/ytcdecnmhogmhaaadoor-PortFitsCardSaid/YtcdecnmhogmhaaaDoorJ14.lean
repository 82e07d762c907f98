/-
  Joined: R24 R25 R27 R28 R29.
-/
import Derived.Test.YtcdecnmhogmhaaaDoorJ05
import Derived.Test.YtcdecnmhogmhaaaDoorJ07
import Derived.Test.YtcdecnmhogmhaaaDoorJ11
import Derived.Test.YtcdecnmhogmhaaaDoorJ12
import Derived.Deep.RegionHeld3
import Derived.Lib.QuietBelow
import Derived.Deep.CutRange
set_option linter.unusedVariables false
set_option linter.unusedSimpArgs false
namespace Go.Proofs.YtcdecnmhogmhaaaDoor
set_option maxRecDepth 100000
open Go.RowKit Go.Sort
/-- May the cell at k of a full row be? -/
def FullAt (M : List Cl) (k : Nat) : Prop :=
  ((M.getD k cl0).1 = 0 ∧ (M.getD k cl0).2.1 = 0 ∧ ∀ j, k ≤ j → j < M.length → (M.getD j cl0).1 = 0) ∨
  ((M.getD k cl0).1 ≠ 0 ∧ 0 ≤ (M.getD k cl0).2.1 ∧ (M.getD k cl0).2.1 ≤ 7 ∧
    (((M.getD k cl0).1 = -1 ∧ 0 < k ∧ cls (M.getD (k - 1) cl0).1 = 2 ∧ (M.getD (k - 1) cl0).2.1 = (M.getD k cl0).2.1 ∧ (M.getD (k - 1) cl0).2.2.2.1 = (M.getD k cl0).2.2.2.1 ∧ (M.getD (k - 1) cl0).2.2.2.2 = 0 ∧ (M.getD k cl0).2.2.2.2 = 1) ∨
    ((M.getD k cl0).1 ≠ -1 ∧ (cls (M.getD k cl0).1 = 1 ∨ cls (M.getD k cl0).1 = 3)) ∨
    ((M.getD k cl0).1 ≠ -1 ∧ cls (M.getD k cl0).1 = 2 ∧ k + 1 < M.length ∧ (M.getD (k + 1) cl0).1 = -1 ∧ (M.getD (k + 1) cl0).2.1 = (M.getD k cl0).2.1 ∧ (M.getD (k + 1) cl0).2.2.2.1 = (M.getD k cl0).2.2.2.1 ∧ (M.getD k cl0).2.2.2.2 = 0 ∧ (M.getD (k + 1) cl0).2.2.2.2 = 1)))
/-- May a full row be? -/
def FullOk (M : List Cl) : Prop := (∀ k, k < M.length → FullAt M k) ∧ ∀ k, 0 < k → k < M.length → (M.getD (k - 1) cl0).1 = 0 → (M.getD k cl0).1 = 0
theorem full_ok {r : List Cl} (h : RowOk r) (n : Nat) : FullOk (fillN r n) := by
  have hb : ∀ j, r.length ≤ j → (fillN r n).getD j cl0 = clB ∨ (fillN r n).length ≤ j := fun j hj => by
    by_cases hl : j < (fillN r n).length
    · left
      unfold fillN
      rw [getD_rt _ _ _ _ hj]
      rw [fillN_len] at hl
      rw [List.getD, List.getElem?_replicate, if_pos (by omega)]; rfl
    · right; omega
  have ha : ∀ j, j < r.length → (fillN r n).getD j cl0 = r.getD j cl0 := fun j hj => by unfold fillN; exact getD_app _ _ _ _ hj
  refine ⟨fun k hk => ?_, fun k h0 hk hz => ?_⟩
  · by_cases hkr : k < r.length
    · obtain ⟨h1, h2, h3, h4, h5⟩ := h k hkr
      right
      rw [ha k hkr]
      refine ⟨h1, h2, h3, ?_⟩
      by_cases hv : (r.getD k cl0).1 = -1
      · left
        obtain ⟨g0, g1⟩ := h4 hv
        rw [ha (k - 1) (by omega)]
        exact ⟨hv, g0, g1⟩
      · right
        rcases h5 hv with g | g | ⟨g, g1, g2⟩
        · exact Or.inl ⟨hv, Or.inl g⟩
        · exact Or.inl ⟨hv, Or.inr g⟩
        · right
          rw [ha (k + 1) g1]
          obtain ⟨_, _, _, f4, _⟩ := h (k + 1) g1
          obtain ⟨_, e1, e2, e3, e4⟩ := f4 g2
          rw [Nat.add_sub_cancel] at e1 e2 e3 e4
          exact ⟨hv, g, by rw [fillN_len]; omega, g2, e2.symm, e3.symm, e4⟩
    · left
      have e : ∀ j, k ≤ j → j < (fillN r n).length → (fillN r n).getD j cl0 = clB := fun j h1 h2 => (hb j (by omega)).resolve_right (by omega)
      rw [e k (Nat.le_refl _) hk]
      exact ⟨rfl, rfl, fun j h1 h2 => by rw [e j h1 h2]⟩
  · by_cases hkr : k < r.length
    · rw [ha (k - 1) (by omega)] at hz
      exact absurd hz (h (k - 1) (by omega)).1
    · rw [(hb k (by omega)).resolve_right (by omega)]
theorem pred_small (a : Nat) (h : a ≤ 1000000) (h2 : 0 < a) : (((a : Int) - 1) + 9223372036854775808) % 18446744073709551616 - 9223372036854775808 = ((a - 1 : Nat) : Int) := by omega
theorem lenN_zero {M : List Cl} {k : Nat} : ∀ n, (∀ j, k ≤ j → j < n → (M.getD j cl0).1 = 0) → lenN M n ≤ k
  | 0, _ => Nat.zero_le _
  | n + 1, h => by
    unfold lenN
    by_cases hk : k ≤ n
    · rw [if_neg (by simpa using h n hk (by omega))]
      exact lenN_zero n fun j h1 h2 => h j h1 (by omega)
    · split
      · omega
      · have := lenN_le M n; omega
set_option maxHeartbeats 8000000 in
theorem row_may (M : List Cl) (a : Option Addr) (c : Nat) (w : World) (hl : M.length ≤ 1000000) (hM : FullOk M) (ha : CellsIn w a M) :
    Calls Tryd.prog 75 #[.slice a M.length c] w fun e w' => e = .returned (.bool true) ∧ Below w.heap.size w w' := by
  have HA := Lib.hid ha
  have HF := Lib.hid hM
  have O := Lib.hid (fun v w => by have := of_ref v w; rw [← cls_eq] at this; exact this)
  have LN := Lib.hid (fun w (h : CellsIn w a M) => len_ref M a c w hl h)
  clear ha hM
  go_enter Tryd.func75, Tryd.ntmps75
  go_wp2
  go_loopw [3] (fun iv wr => ∃ k : Nat, k ≤ M.length ∧ iv = .int .i64 (k : Int) ∧ Below w.heap.size w wr) (fun iv _ => M.length - (intOf iv).toNat)
  case atStart => exact ⟨0, Nat.zero_le _, rfl, Below.refl _ _⟩
  case round =>
    obtain ⟨k, hk, rfl, hbl⟩ := hrel
    by_cases hlt : k < M.length
    · have hk1 : (k : Int) < M.length := by omega
      have hk0 : (0 : Int) ≤ k := by omega
      have HAr := Lib.hid (HA.out.below hbl)
      obtain ⟨b1, o1, rfl, hb1, c1, c2, c3, c4, c5⟩ := HAr.out k hlt
      have hF := HF.out.1 k hlt
      rcases hF with ⟨f1, f2, f3⟩ | ⟨f1, f2, f3, f4⟩
      · have hz := lenN_zero M.length f3
        have hz1 : ¬ (k : Int) < (lenN M M.length : Int) := by omega
        rw [f1] at c1; rw [f2] at c2
        generalize lenN M M.length = ln at *
        clear f3 hz
        go_wp2_with (first
          | (go_at_call 42; refine (O.out _ _).mono ?_; rintro e w2 ⟨rfl, hb2⟩; have d1 := (hb2.cell (p := ⟨b1, o1 + k * 5, none⟩) hb1).trans c1; have d2 := (hb2.cell (p := ⟨b1, o1 + k * 5 + 1, none⟩) hb1).trans c2)
          | (go_at_call 116; refine (LN.out _ (HAr.out.below hb2)).mono ?_; rintro e w3 ⟨rfl, rfl⟩))
        exact ⟨⟨k + 1, by omega, by go_num, hbl.trans (hb2.mono hbl.size)⟩, by simp [intOf]; omega⟩
      · have hz : (M.getD k cl0).1 ≠ 0 := f1
        have hzb : ((M.getD k cl0).1 == 0) = false := by rw [beq_eq_false_iff_ne]; exact f1
        have hA0 : ¬ (M.getD k cl0).2.1 < 0 := by omega
        have hA7 : ¬ 7 < (M.getD k cl0).2.1 := by omega
        rcases f4 with ⟨f4, f5, f6, f7, f8, f9, f10⟩ | ⟨f4, f5⟩ | ⟨f4, f5, f6, f7, _, _, _, _⟩
        · obtain ⟨b2, o2, e2, hb2', p1, p2, p3, p4, p5⟩ := HAr.out (k - 1) (by omega)
          obtain ⟨rfl, rfl⟩ : b1 = b2 ∧ o1 = o2 := by simpa using e2
          have hkm : (k : Int) - 1 = ((k - 1 : Nat) : Int) := by omega
          have hkm1 : ((k - 1 : Nat) : Int) < M.length := by omega
          have hkm0 : (0 : Int) ≤ ((k - 1 : Nat) : Int) := by omega
          have hkw : IntKind.i64.wrap ((k : Int) - 1) = ((k - 1 : Nat) : Int) := by rw [IntKind.wrap_i64]; exact pred_small k (by omega) (by omega)
          have hk01 : ((k : Int) == 0) = false := by rw [beq_eq_false_iff_ne]; omega
          rw [f7] at p2; rw [f8] at p4; rw [f9] at p5; rw [f10] at c5; rw [f4] at c1
          have O2 := Lib.hid (fun w => by have := O.out (M.getD (k - 1) cl0).1 w; rw [f6] at this; exact this)
          generalize (M.getD (k - 1) cl0).1 = pv at *
          generalize (M.getD k cl0).2.1 = av at *
          generalize (M.getD k cl0).2.2.2.1 = fv at *
          generalize hmk : k - 1 = m at *
          clear f1 f4 f5 f6 f7 f8 f9 f10 hz hzb c3 p3 e2 hmk
          go_wp2_with (go_at_call 42; refine (O.out _ _).mono ?_; rintro e w2 ⟨rfl, hb2⟩; have d1 := (hb2.cell (p := ⟨b1, o1 + k * 5, none⟩) hb1).trans c1; have d2 := (hb2.cell (p := ⟨b1, o1 + k * 5 + 1, none⟩) hb1).trans c2; have d4 := (hb2.cell (p := ⟨b1, o1 + k * 5 + 3, none⟩) hb1).trans c4; have d5 := (hb2.cell (p := ⟨b1, o1 + k * 5 + 4, none⟩) hb1).trans c5; have g1 := (hb2.cell (p := ⟨b1, o1 + m * 5, none⟩) hb1).trans p1; have g2 := (hb2.cell (p := ⟨b1, o1 + m * 5 + 1, none⟩) hb1).trans p2; have g4 := (hb2.cell (p := ⟨b1, o1 + m * 5 + 3, none⟩) hb1).trans p4; have g5 := (hb2.cell (p := ⟨b1, o1 + m * 5 + 4, none⟩) hb1).trans p5; have hb12 : b1 < w2.heap.size := Nat.lt_of_lt_of_le hb1 hb2.size)
          have G1 := fun d os => cell_regrown g1 d os
          have G2 := fun d os => cell_regrown g2 d os
          have G4 := fun d os => cell_regrown g4 d os
          have G5 := fun d os => cell_regrown g5 d os
          have D2 := fun d os => cell_regrown d2 d os
          have D4 := fun d os => cell_regrown d4 d os
          have D5 := fun d os => cell_regrown d5 d os
          have OQ := Lib.hid (fun d os => (O2.out (grow (redrawn w2 d) os)).regrown_of)
          clear g1 g2 g4 g5 d1 d2 d4 d5 c1 c2 c4 c5 p1 p2 p4 p5
          refine wp_region_quiet_below (by kernel_rfl) (by kernel_rfl) ?_
          repeat (any_goals (go_big_quiet_step ((go_at_call 42; exact OQ.out _ _))))
          refine wpQuiet_nil ?_
          intro _ hw'
          obtain ⟨⟨dq, osq⟩, hw''⟩ := hw'
          subst hw''
          go_wp2
          exact ⟨⟨k + 1, by omega, by go_num, (hbl.trans (hb2.mono hbl.size)).trans ((below_regrown w2 dq osq).mono (Nat.le_trans hbl.size hb2.size))⟩, by simp [intOf]; omega⟩
        · have hv1 : ((M.getD k cl0).1 == -1) = false := by rw [beq_eq_false_iff_ne]; exact f4
          have hcl : ∃ q, cls (M.getD k cl0).1 = q ∧ (q = 1 ∨ q = 3) := ⟨_, rfl, f5⟩
          obtain ⟨q, hq, hq2⟩ := hcl
          have O2 := Lib.hid (fun w => by have := O.out (M.getD k cl0).1 w; rw [hq] at this; exact this)
          generalize (M.getD k cl0).1 = vv at *
          generalize (M.getD k cl0).2.1 = av at *
          clear f1 f4 f5 hz hq
          rcases hq2 with rfl | rfl
          all_goals
            go_wp2_with (go_at_call 42; refine (O2.out _).mono ?_; rintro e w2 ⟨rfl, hb2⟩; have d1 := (hb2.cell (p := ⟨b1, o1 + k * 5, none⟩) hb1).trans c1; have d2 := (hb2.cell (p := ⟨b1, o1 + k * 5 + 1, none⟩) hb1).trans c2)
            exact ⟨⟨k + 1, by omega, by go_num, hbl.trans (hb2.mono hbl.size)⟩, by simp [intOf]; omega⟩
        · have hv1 : ((M.getD k cl0).1 == -1) = false := by rw [beq_eq_false_iff_ne]; exact f4
          obtain ⟨b2, o2, e2, hb2', p1, p2, p3, p4, p5⟩ := HAr.out (k + 1) f6
          obtain ⟨rfl, rfl⟩ : b1 = b2 ∧ o1 = o2 := by simpa using e2
          rw [f7] at p1
          have hk2 : ¬ (M.length : Int) ≤ (k : Int) + 1 := by omega
          have hk3 : (k : Int) + 1 < M.length := by omega
          have hk4 : (0 : Int) ≤ (k : Int) + 1 := by omega
          have O2 := Lib.hid (fun w => by have := O.out (M.getD k cl0).1 w; rw [f5] at this; exact this)
          generalize (M.getD k cl0).1 = vv at *
          generalize (M.getD k cl0).2.1 = av at *
          clear f1 f4 f5 hz f7
          go_wp2_with (go_at_call 42; refine (O2.out _).mono ?_; rintro e w2 ⟨rfl, hb2⟩; have d1 := (hb2.cell (p := ⟨b1, o1 + k * 5, none⟩) hb1).trans c1; have d2 := (hb2.cell (p := ⟨b1, o1 + k * 5 + 1, none⟩) hb1).trans c2; have g1 := (hb2.cell (p := ⟨b1, o1 + (k + 1) * 5, none⟩) hb1).trans p1)
          exact ⟨⟨k + 1, by omega, by go_num, hbl.trans (hb2.mono hbl.size)⟩, by simp [intOf]; omega⟩
    · obtain rfl : k = M.length := by omega
      have hk1 : ¬ (M.length : Int) < M.length := by omega
      go_wp2
      go_ret
      exact ⟨rfl, hbl⟩
end Go.Proofs.YtcdecnmhogmhaaaDoor
set_option linter.unusedVariables false
set_option linter.unusedSimpArgs false
namespace Go.Proofs.YtcdecnmhogmhaaaDoor
open Go.RowKit
set_option maxHeartbeats 8000000 in
theorem signmay_any (M : List Cl) (k : Nat) (a : Option Addr) (c : Nat) (w : World) (hl : M.length ≤ 1000000) (hk : k < M.length) (ha : CellsIn w a M) (hT : Tabs w)
    (hM : (cls (M.getD k cl0).1 = 1 ∨ cls (M.getD k cl0).1 = 3) ∨ (cls (M.getD k cl0).1 = 2 ∧ k + 1 < M.length ∧ (M.getD (k + 1) cl0).1 = -1 ∧ (M.getD (k + 1) cl0).2.1 = (M.getD k cl0).2.1 ∧ (M.getD (k + 1) cl0).2.2.2.1 = (M.getD k cl0).2.2.2.1 ∧ (M.getD k cl0).2.2.2.2 = 0 ∧ (M.getD (k + 1) cl0).2.2.2.2 = 1)) :
    Calls Tryd.prog 118 #[.slice a M.length c, .int .i64 k] w fun e w' => e = .returned (.bool true) ∧ Below w.heap.size w w' := by
  obtain ⟨b1, o1, rfl, hb1, c1, c2, c3, c4, c5⟩ := ha k hk
  have hk1 : (k : Int) < M.length := by omega
  have hk0 : (0 : Int) ≤ k := by omega
  obtain ⟨v, x2, x3, x4, x5, hq⟩ : ∃ v x2 x3 x4 x5, M.getD k cl0 = (v, x2, x3, x4, x5) := ⟨_, _, _, _, _, rfl⟩
  rw [hq] at c1 c2 c3 c4 c5 hM
  simp only at c1 c2 c3 c4 c5 hM
  have B0 := below_alloc w (.cells #[.int .i64 v, .int .i64 x2, .int .i64 x3, .int .i64 x4, .int .i64 x5] 51)
  have O := Lib.hid (of_any v _ (hT.below B0))
  have t0 := heap_alloc_new w (.cells #[.int .i64 v, .int .i64 x2, .int .i64 x3, .int .i64 x4, .int .i64 x5] 51)
  have hA := ha.below B0
  clear hT hq
  rcases hM with h | ⟨h, hk2, f1, f2, f3, f4, f5⟩
  · obtain ⟨q, hq, hq2⟩ : ∃ q, cls v = q ∧ (q = 1 ∨ q = 3) := ⟨_, rfl, h⟩
    rw [hq] at O
    clear h hq hA ha
    rcases hq2 with rfl | rfl
    all_goals
      go_enter Tryd.func118, Tryd.ntmps118
      go_wp2_with (go_at_call 117; refine O.out.mono ?_; rintro e w2 ⟨rfl, hb2⟩)
      go_ret
      exact ⟨rfl, B0.trans (hb2.mono (by simp))⟩
  · rw [h] at O
    obtain ⟨b2, o2, e2, hb2', p1, p2, p3, p4, p5⟩ := hA (k + 1) hk2
    obtain ⟨rfl, rfl⟩ : b1 = b2 ∧ o1 = o2 := by simpa using e2
    rw [f1] at p1; rw [f2] at p2; rw [f3] at p4; rw [f5] at p5
    subst f4
    generalize (M.getD (k + 1) cl0).2.2.1 = y3 at *
    have hk3 : ¬ (k : Int) + 1 = M.length := by omega
    have hk4 : (k : Int) + 1 < M.length := by omega
    have hk5 : (0 : Int) ≤ (k : Int) + 1 := by omega
    have hk6 : ¬ k + 1 = M.length := by omega
    clear h f1 f2 f3 f5 hA ha e2
    go_enter Tryd.func118, Tryd.ntmps118
    go_wp2_with (go_at_call 117; refine O.out.mono ?_; rintro e w2 ⟨rfl, hb2⟩; have d1 := (hb2.cell (p := ⟨b1, o1 + (k + 1) * 5, none⟩) hb2').trans p1; have d2 := (hb2.cell (p := ⟨b1, o1 + (k + 1) * 5 + 1, none⟩) hb2').trans p2; have d3 := (hb2.cell (p := ⟨b1, o1 + (k + 1) * 5 + 2, none⟩) hb2').trans p3; have d4 := (hb2.cell (p := ⟨b1, o1 + (k + 1) * 5 + 3, none⟩) hb2').trans p4; have d5 := (hb2.cell (p := ⟨b1, o1 + (k + 1) * 5 + 4, none⟩) hb2').trans p5; have t2 := blk_below t0 hb2; have hw2 := blk_lt t2; have tc := fun i => cell_of_row _ _ i _ _ _ t2; have u1 := fun o => (World.cell?_alloc_lt w2 o (⟨w.heap.size, 1, none⟩ : Addr) hw2).trans (show w2.cell? ⟨w.heap.size, 1, none⟩ = some (.int .i64 x2) by rw [tc]; rfl); have u3 := fun o => (World.cell?_alloc_lt w2 o (⟨w.heap.size, 3, none⟩ : Addr) hw2).trans (show w2.cell? ⟨w.heap.size, 3, none⟩ = some (.int .i64 x4) by rw [tc]; rfl); have u4 := fun o => (World.cell?_alloc_lt w2 o (⟨w.heap.size, 4, none⟩ : Addr) hw2).trans (show w2.cell? ⟨w.heap.size, 4, none⟩ = some (.int .i64 0) by rw [tc]; rfl); clear tc)
    go_ret
    exact ⟨rfl, (B0.trans (hb2.mono (by simp))).alloc (by have := hb2.size; simp at this; omega) _⟩
set_option maxHeartbeats 8000000 in
theorem rowmay_any (M : List Cl) (a : Option Addr) (c : Nat) (w : World) (hl : M.length ≤ 1000000) (hM : FullOk M) (ha : CellsIn w a M) (hT : Tabs w) :
    Calls Tryd.prog 76 #[.slice a M.length c] w fun e w' => e = .returned (.bool true) ∧ Below w.heap.size w w' := by
  have HA := Lib.hid ha
  have HF := Lib.hid hM
  have HT := Lib.hid hT
  clear ha hM hT
  go_enter Tryd.func76, Tryd.ntmps76
  go_wp2
  go_loopw [7] (fun iv wr => ∃ k : Nat, k ≤ M.length ∧ iv = .int .i64 (k : Int) ∧ Below w.heap.size w wr) (fun iv _ => M.length - (intOf iv).toNat)
  case atStart => exact ⟨0, Nat.zero_le _, rfl, Below.refl _ _⟩
  case round =>
    obtain ⟨k, hk, rfl, hbl⟩ := hrel
    by_cases hlt : k < M.length
    · have hk1 : (k : Int) < M.length := by omega
      have hk0 : (0 : Int) ≤ k := by omega
      have HAr := Lib.hid (HA.out.below hbl)
      obtain ⟨b1, o1, rfl, hb1, c1, c2, c3, c4, c5⟩ := HAr.out k hlt
      have hF := HF.out.1 k hlt
      have hG := HF.out.2 k
      have hP : k = 0 ∨ (0 < k ∧ wr.cell? ⟨b1, o1 + (k - 1) * 5, none⟩ = some (.int .i64 (M.getD (k - 1) cl0).1)) := by
        rcases Nat.eq_zero_or_pos k with h | h
        · exact Or.inl h
        · obtain ⟨b2, o2, e2, _, p1, _⟩ := HAr.out (k - 1) (by omega)
          obtain ⟨rfl, rfl⟩ : b1 = b2 ∧ o1 = o2 := by simpa using e2
          exact Or.inr ⟨h, p1⟩
      have SM := fun w2 (h1 : CellsIn w2 (some ⟨b1, o1, none⟩) M) (h2 : Tabs w2) h3 => signmay_any M k (some ⟨b1, o1, none⟩) c w2 hl hlt h1 h2 h3
      obtain ⟨v, x2, x3, x4, x5, hq⟩ : ∃ v x2 x3 x4 x5, M.getD k cl0 = (v, x2, x3, x4, x5) := ⟨_, _, _, _, _, rfl⟩
      have B1 := below_alloc wr (.cells #[.int .i64 v, .int .i64 x2, .int .i64 x3, .int .i64 x4, .int .i64 x5] 51)
      have HC1 := HAr.out.below B1
      have HT1 := (HT.out.below hbl).below B1
      have SM1 := SM _ HC1 HT1
      have OF := fun u => of_any u _ HT1
      have N1 := hbl.alloc hbl.size (.cells #[.int .i64 v, .int .i64 x2, .int .i64 x3, .int .i64 x4, .int .i64 x5] 51)
      unfold FullAt at hF
      rw [hq] at c1 c2 c3 c4 c5 hF hG SM1
      simp only at c1 c2 c3 c4 c5 hF hG SM1
      have P1 : ∀ m pv, wr.cell? ⟨b1, o1 + m * 5, none⟩ = some (.int .i64 pv) → ∀ o, (wr.alloc o).cell? ⟨b1, o1 + m * 5, none⟩ = some (.int .i64 pv) := fun m pv h o => (World.cell?_alloc_lt wr o (⟨b1, o1 + m * 5, none⟩ : Addr) hb1).trans h
      clear SM hq
      rcases hF with ⟨rfl, rfl, _⟩ | ⟨f1, f2, f3, f4⟩
      · clear SM1 OF HC1 HT1 hG
        rcases hP with rfl | ⟨hp, hp1⟩
        · simp only [Nat.zero_mul, Nat.add_zero] at c1 c2 c3 c4 c5
          go_wp2
          exact ⟨⟨0 + 1, by omega, by go_num, N1⟩, by simp [intOf]; omega⟩
        · have hkm : (k : Int) - 1 = ((k - 1 : Nat) : Int) := by omega
          have hkm1 : ((k - 1 : Nat) : Int) < M.length := by omega
          have hkp : (0 : Int) < k := by omega
          have P2 := P1 _ _ hp1
          generalize hmk : k - 1 = m at *
          generalize (M.getD m cl0).1 = pv at *
          clear hmk P1 hp1
          by_cases hz : pv = 0
          · subst hz
            go_wp2
            exact ⟨⟨k + 1, by omega, by go_num, N1⟩, by simp [intOf]; omega⟩
          · have hzb : (pv == 0) = false := by rw [beq_eq_false_iff_ne]; exact hz
            clear hz
            go_wp2
            exact ⟨⟨k + 1, by omega, by go_num, N1⟩, by simp [intOf]; omega⟩
      · have hvz : (v == 0) = false := by rw [beq_eq_false_iff_ne]; exact f1
        have hvn : (v != 0) = true := by rw [bne_iff_ne]; exact f1
        have hA0 : ¬ x2 < 0 := by omega
        have hA7 : ¬ 7 < x2 := by omega
        rcases f4 with ⟨rfl, g0, g1, gr⟩ | f4
        · obtain ⟨_, hp1⟩ := hP.resolve_left (by omega)
          have hkm : (k : Int) - 1 = ((k - 1 : Nat) : Int) := by omega
          have hkm1 : ((k - 1 : Nat) : Int) < M.length := by omega
          have hkp : (0 : Int) < k := by omega
          have hkz : ((k : Int) == 0) = false := by rw [beq_eq_false_iff_ne]; omega
          have P2 := P1 _ _ hp1
          have hpz : ((M.getD (k - 1) cl0).1 == 0) = false := by
            rw [beq_eq_false_iff_ne]; intro e; exact f1 (hG g0 hlt e)
          have O2 := OF (M.getD (k - 1) cl0).1
          rw [g1] at O2
          replace O2 := Lib.hid O2
          generalize hmk : k - 1 = m at *
          generalize (M.getD m cl0).1 = pv at *
          clear hmk P1 hp1 SM1 OF HC1 HT1 hG f1 g1 hvz hvn gr
          go_wp2_with (go_at_call 117; refine O2.out.mono ?_; rintro e w2 ⟨rfl, hb2⟩)
          exact ⟨⟨k + 1, by omega, by go_num, N1.trans (hb2.mono N1.size)⟩, by simp [intOf]; omega⟩
        · have hv1 : (v == -1) = false := by
            rw [beq_eq_false_iff_ne]
            rcases f4 with ⟨h, _⟩ | ⟨h, _⟩
            · exact h
            · exact h
          have S2 := Lib.hid (SM1 (by
            rcases f4 with ⟨_, h⟩ | ⟨_, h⟩
            · exact Or.inl h
            · exact Or.inr h))
          have hPz : k = 0 ∨ (0 < k ∧ ((M.getD (k - 1) cl0).1 == 0) = false ∧ wr.cell? ⟨b1, o1 + (k - 1) * 5, none⟩ = some (.int .i64 (M.getD (k - 1) cl0).1)) := by
            rcases hP with h | ⟨h, h2⟩
            · exact Or.inl h
            · exact Or.inr ⟨h, by rw [beq_eq_false_iff_ne]; intro e; exact f1 (hG h hlt e), h2⟩
          clear SM1 OF HC1 HT1 hG f4 hP f1
          rcases hPz with rfl | ⟨hp, hpz, hp1⟩
          · simp only [Nat.zero_mul, Nat.add_zero] at c1 c2 c3 c4 c5
            go_wp2_with (go_at_call 118; refine S2.out.mono ?_; rintro e w2 ⟨rfl, hb2⟩)
            exact ⟨⟨0 + 1, by omega, by go_num, N1.trans (hb2.mono N1.size)⟩, by simp [intOf]; omega⟩
          · have hkm : (k : Int) - 1 = ((k - 1 : Nat) : Int) := by omega
            have hkm1 : ((k - 1 : Nat) : Int) < M.length := by omega
            have hkp : (0 : Int) < k := by omega
            have P2 := P1 _ _ hp1
            generalize hmk : k - 1 = m at *
            generalize (M.getD m cl0).1 = pv at *
            clear hmk P1 hp1
            go_wp2_with (go_at_call 118; refine S2.out.mono ?_; rintro e w2 ⟨rfl, hb2⟩)
            exact ⟨⟨k + 1, by omega, by go_num, N1.trans (hb2.mono N1.size)⟩, by simp [intOf]; omega⟩
    · obtain rfl : k = M.length := by omega
      have hk1 : ¬ (M.length : Int) < M.length := by omega
      go_wp2
      go_ret
      exact ⟨rfl, hbl⟩
end Go.Proofs.YtcdecnmhogmhaaaDoor
set_option linter.unusedVariables false
set_option linter.unusedSimpArgs false
namespace Go.Proofs.YtcdecnmhogmhaaaDoor
open Go.RowKit
set_option maxHeartbeats 8000000 in
theorem check_any (wd h R C : Nat) (l : List (List Cl)) (a : Option Addr) (c : Nat) (w : World) (hw1 : 1 ≤ wd) (hw2 : wd ≤ 1000) (hh1 : 1 ≤ h) (hh2 : h ≤ 1000) (hR : R < h) (hC : C < wd) (hl : l.length = h) (hr : ∀ i, i < h → (l.getD i []).length = wd ∧ FullOk (l.getD i [])) (ha : RowsIn w a l) (hT : Tabs w) :
    Calls Tryd.prog 21 #[.agg #[.int .i64 wd, .int .i64 h, .slice a h c, .int .i64 R, .int .i64 C]] w fun e w' => e = .returned (.int .i64 0) ∧ Below w.heap.size w w' := by
  have B0 := below_alloc w (.cells #[.int .i64 wd, .int .i64 h, .slice a h c, .int .i64 R, .int .i64 C] 28)
  have HA := Lib.hid (ha.below B0)
  have HT := Lib.hid (hT.below B0)
  have hsw : sideB (wd : Int) = true := by unfold sideB; rw [decide_eq_true (by omega), decide_eq_true (by omega)]; rfl
  have hsh : sideB (h : Int) = true := by unfold sideB; rw [decide_eq_true (by omega), decide_eq_true (by omega)]; rfl
  have t0 := heap_alloc_new w (.cells #[.int .i64 wd, .int .i64 h, .slice a h c, .int .i64 R, .int .i64 C] 28)
  have HRr := Lib.hid hr
  have e1 : ¬ (R : Int) < 0 := by omega
  have e2 : ¬ (h : Int) ≤ (R : Int) := by omega
  have e3 : ¬ (C : Int) < 0 := by omega
  have e4 : ¬ (wd : Int) ≤ (C : Int) := by omega
  have e5 : (R : Int) < h := by omega
  have e6 : (C : Int) < wd := by omega
  clear ha hr hT
  go_enter Tryd.func21, Tryd.ntmps21
  go_wp2_with (go_at_call 64; refine (side_any _ _).mono ?_; rintro e w1 ⟨rfl, rfl⟩)
  rename ((0 ≤ (R : Int) ∧ ¬h ≤ R) ∧ 0 ≤ (C : Int)) ∧ ¬wd ≤ C => hsp
  clear hsp e1 e2 e3 e4 e5 e6 hsw hsh hR hC
  generalize w.alloc (.cells #[.int .i64 wd, .int .i64 h, .slice a h c, .int .i64 R, .int .i64 C] 28) = W0 at *
  replace t0 := Lib.hid t0
  go_loopw [50] (fun iv wr => ∃ k : Nat, k ≤ h ∧ iv = .int .i64 (k : Int) ∧ Below W0.heap.size W0 wr) (fun iv _ => h - (intOf iv).toNat)
  case atStart => exact ⟨0, Nat.zero_le _, rfl, Below.refl _ _⟩
  case round =>
    obtain ⟨k, hk, rfl, hbl⟩ := hrel
    have t1 := blk_below t0.out hbl
    by_cases hlt : k < h
    · have hk1 : (k : Int) < h := by omega
      have hk0 : (0 : Int) ≤ k := by omega
      obtain ⟨bb, off, ra, rc, rfl, hbb, hrow, hci⟩ := (HA.out.below hbl) k (by omega)
      obtain ⟨hlen, hfull⟩ := HRr.out k hlt
      generalize l.getD k [] = r at *
      rw [hlen] at hrow
      have g0 : wr.cell? ⟨w.heap.size, 0, none⟩ = some (.int .i64 wd) := by rw [cell_of_row _ _ _ _ _ _ t1]; rfl
      have RO := rowmay_any r ra rc wr (by omega) hfull hci (HT.out.below hbl)
      rw [hlen] at RO
      replace RO := Lib.hid RO
      clear hfull hlen hci
      go_wp2_with (go_at_call 76; refine RO.out.mono ?_; rintro e w5 ⟨rfl, hb5⟩)
      go_roundw
      case rel => exact ⟨k + 1, by omega, by go_num, hbl.trans (hb5.mono hbl.size)⟩
      case measure => first | (simp [intOf]; omega) | (simp; omega)
    · obtain rfl : k = h := by omega
      have hk1 : ¬ (k : Int) < k := by omega
      go_wp2
      go_ret
      exact ⟨rfl, B0.trans (hbl.mono B0.size)⟩
end Go.Proofs.YtcdecnmhogmhaaaDoor
set_option linter.unusedVariables false
set_option linter.unusedSimpArgs false
namespace Go.Proofs.YtcdecnmhogmhaaaDoor
open Go.RowKit
set_option maxHeartbeats 8000000 in
theorem blank_any (wd h : Nat) (w : World) (hw1 : 1 ≤ wd) (hw2 : wd ≤ 1000) (hh1 : 1 ≤ h) (hh2 : h ≤ 1000) :
    Calls Tryd.prog 60 #[.int .i64 wd, .int .i64 h] w fun e w' => ∃ g : Nat, e = .returned (.tuple #[.agg #[.int .i64 wd, .int .i64 h, .slice (some ⟨g, 0, none⟩) h h, .int .i64 0, .int .i64 0], .int .i64 0]) ∧ RowsB w' g (filR [] wd h) ∧ Below w.heap.size w w' := by
  have N0 := below_alloc w (.cells #[.int .i64 0, .int .i64 0, .slice none 0 0, .int .i64 0, .int .i64 0] 28)
  have q0 := heap_alloc_new w (.cells #[.int .i64 0, .int .i64 0, .slice none 0 0, .int .i64 0, .int .i64 0] 28)
  have hsw := sideB_yes wd hw1 hw2
  have hsh := sideB_yes h hh1 hh2
  have PF := Lib.hid (pfill_any [] none 0 wd h (w.alloc (.cells #[.int .i64 0, .int .i64 0, .slice none 0 0, .int .i64 0, .int .i64 0] 28)) hw2 hh2 (Nat.zero_le _) (fun i => by rw [List.getD_nil]; exact Nat.zero_le _) (fun i hi => absurd hi (by simp)))
  go_enter Tryd.func60, Tryd.ntmps60
  go_wp2_with (first
    | (go_at_call 64; refine (side_any _ _).mono ?_; rintro e w1 ⟨rfl, rfl⟩)
    | (go_at_call 68; refine PF.out.mono ?_; rintro e w6 ⟨g, rfl, hg6, hR6, hb6⟩; have q6 := blk_below q0 hb6; have z := fun i => cell_of_row _ _ i _ _ _ q6; have z0 := z 0; have z1 := z 1; have z2 := z 2; have z3 := z 3; have z4 := z 4; have zf := fun i => frozen_of_row _ w.heap.size i _ _ q6; clear z; have HR6 := Lib.hid hR6; clear hR6))
  have q7 := scr_set q6 wd h (.slice (some ⟨g, 0, none⟩) h h) 0 0
  have N7 := scr_set_below w6 w w.heap.size (.int .i64 wd) (.int .i64 h) (.slice (some ⟨g, 0, none⟩) h h) (.int .i64 0) (.int .i64 0) (Nat.le_refl _) (N0.trans (hb6.mono (by simp)))
  have R7 := RowsB.set (RowsB.set (RowsB.set (RowsB.set (RowsB.set HR6.out (p := ⟨w.heap.size, 0, none⟩) q6 (by decide) (by decide) (.int .i64 wd)) (p := ⟨w.heap.size, 1, none⟩) (blk_set q6 _ _) (by decide) (by decide) (.int .i64 h)) (p := ⟨w.heap.size, 2, none⟩) (blk_set (blk_set q6 _ _) _ _) (by decide) (by decide) (.slice (some ⟨g, 0, none⟩) h h)) (p := ⟨w.heap.size, 3, none⟩) (blk_set (blk_set (blk_set q6 _ _) _ _) _ _) (by decide) (by decide) (.int .i64 0)) (p := ⟨w.heap.size, 4, none⟩) (blk_set (blk_set (blk_set (blk_set q6 _ _) _ _) _ _) _ _) (by decide) (by decide) (.int .i64 0)
  generalize (((((w6.setCell _ _).setCell _ _).setCell _ _).setCell _ _).setCell _ _) = WF at *
  have y := fun i => cell_of_row _ _ i _ _ _ q7
  have y0 : WF.cell? ⟨w.heap.size, 0, none⟩ = some (.int .i64 wd) := by rw [y]; rfl
  have y1 : WF.cell? ⟨w.heap.size, 1, none⟩ = some (.int .i64 h) := by rw [y]; rfl
  have y2 : WF.cell? ⟨w.heap.size, 2, none⟩ = some (.slice (some ⟨g, 0, none⟩) h h) := by rw [y]; rfl
  have y3 : WF.cell? ⟨w.heap.size, 3, none⟩ = some (.int .i64 0) := by rw [y]; rfl
  have y4 : WF.cell? ⟨w.heap.size, 4, none⟩ = some (.int .i64 0) := by rw [y]; rfl
  exact bodyPost_ret (v := .tuple #[.agg #[.int .i64 wd, .int .i64 h, .slice (some ⟨g, 0, none⟩) h h, .int .i64 0, .int .i64 0], .int .i64 0]) (by
    simp [results, Tryd.results60, go_sem, y0, y1, y2, y3, y4]) rfl ⟨g, rfl, R7, N7⟩
end Go.Proofs.YtcdecnmhogmhaaaDoor
set_option linter.unusedVariables false
set_option linter.unusedSimpArgs false
namespace Go.Proofs.YtcdecnmhogmhaaaDoor
open Go.RowKit
/-- The outer row's cells when k rows are there. -/
def cpV (n k : Nat) (Ls : List (List Cl)) (hs : Nat → Nat) : List Value := (List.range k).map (fun (i : Nat) => Value.slice (some ⟨hs i, 0, none⟩) (Ls.getD i []).length (Ls.getD i []).length) ++ List.replicate (n - k) (.slice none 0 0)
theorem cpV_set (n k b : Nat) (Ls : List (List Cl)) (hs : Nat → Nat) (hk : k < n) (len : Nat) (hl : (Ls.getD k []).length = len) : (cpV n k Ls hs).toArray.setIfInBounds k (.slice (some ⟨b, 0, none⟩) len len) = (cpV n (k + 1) Ls (fun i => if i = k then b else hs i)).toArray := by
  unfold cpV
  rw [List.setIfInBounds_toArray]
  congr 1
  have e : ((List.range k).map (fun (i : Nat) => Value.slice (some ⟨hs i, 0, none⟩) (Ls.getD i []).length (Ls.getD i []).length)).length = k := by rw [List.length_map, List.length_range]
  obtain ⟨m, hm⟩ : ∃ m, n - k = m + 1 := ⟨n - k - 1, by omega⟩
  rw [List.set_append_right _ _ (by rw [e]; exact Nat.le_refl _), e, Nat.sub_self, hm, show n - (k + 1) = m by omega, List.replicate_succ, List.range_succ, List.map_append, List.append_assoc]
  congr 1
  · apply List.map_congr_left
    intro i hi
    have : i ≠ k := by have := List.mem_range.1 hi; omega
    show _ = Value.slice (some ⟨if i = k then b else hs i, 0, none⟩) _ _
    rw [if_neg this]
  · rw [← hl]; simp
structure CpM (w : World) (B g n k : Nat) (Ls : List (List Cl)) (hs : Nat → Nat) : Prop where
  blk : w.heap[g]? = some (.cells (cpV n k Ls hs).toArray 36 (0, 0))
  rows : ∀ i, i < k → B ≤ hs i ∧ w.heap[hs i]? = some (.cells (cRow (Ls.getD i [])) 51 (0, 0))
theorem CpM.cells {w : World} {B g n k : Nat} {Ls : List (List Cl)} {hs : Nat → Nat} (h : CpM w B g n k Ls hs) (hk : k < n) : w.cell? ⟨g, k, none⟩ = some (.slice none 0 0) ∧ w.frozen? ⟨g, k, none⟩ = false := by
  refine ⟨?_, frozen_of_row w g k _ _ h.blk⟩
  rw [cell_of_row _ _ _ _ _ _ h.blk, List.getElem?_toArray]
  unfold cpV
  rw [List.getElem?_append_right (by rw [List.length_map, List.length_range]; exact Nat.le_refl _), List.length_map, List.length_range, Nat.sub_self]
  obtain ⟨m, hm⟩ : ∃ m, n - k = m + 1 := ⟨n - k - 1, by omega⟩
  rw [hm]; rfl
theorem CpM.done {w : World} {B g : Nat} {Ls : List (List Cl)} {hs : Nat → Nat} (h : CpM w B g Ls.length Ls.length Ls hs) : RowsB w g Ls := by
  refine ⟨⟨_, h.blk⟩, fun i hi => ⟨hs i, (Ls.getD i []).length, ?_, (h.rows i hi).2⟩⟩
  rw [cell_of_row _ _ _ _ _ _ h.blk, List.getElem?_toArray]
  unfold cpV
  rw [List.getElem?_append_left (by rw [List.length_map, List.length_range]; exact hi), List.getElem?_map, List.getElem?_range hi]; rfl
theorem cpV_nil (n : Nat) (Ls : List (List Cl)) (hs : Nat → Nat) : madeCells (Value.slice none 0 0).cells (n * 1) = (cpV n 0 Ls hs).toArray := by
  unfold cpV
  apply Array.ext
  · simp [madeCells, Value.cells]
  · intro i h1 h2
    simp [madeCells, Value.cells]
    rw [show i % 1 = 0 by omega]; rfl
set_option maxHeartbeats 8000000 in
theorem pcopy_any (W H R C : Int) (Ls : List (List Cl)) (a : Option Addr) (c : Nat) (w : World) (hl : Ls.length ≤ 1000) (hL : ∀ i, (Ls.getD i []).length ≤ 1000) (ha : RowsC w a Ls) :
    Calls Tryd.prog 62 #[.agg #[.int .i64 W, .int .i64 H, .slice a Ls.length c, .int .i64 R, .int .i64 C]] w fun e w' => ∃ g : Nat, e = .returned (.agg #[.int .i64 W, .int .i64 H, .slice (some ⟨g, 0, none⟩) Ls.length Ls.length, .int .i64 R, .int .i64 C]) ∧ RowsB w' g Ls ∧ Below w.heap.size w w' := by
  obtain ⟨i1, hj, hy0, hy1, hy2⟩ := info_parts infoCS
  obtain ⟨i0, hi, hz0, hz1, hz2⟩ := info_parts infoCell
  have hmk := make_rowN (P := Tryd.prog) 26 36 i1 _ Tryd.underlying26 hj hy0 Ls.length (by rw [hy2]; omega) (by omega)
  rw [hy1, cpV_nil Ls.length Ls (fun _ => 0)] at hmk
  have HA := Lib.hid ha
  clear ha
  generalize hn : Ls.length = n at *
  go_enter Tryd.func62, Tryd.ntmps62
  go_wp2
  have A1 := heap_alloc_new w (.cells #[.int .i64 W, .int .i64 H, .slice a n c, .int .i64 R, .int .i64 C] 28)
  have N1 := below_alloc w (.cells #[.int .i64 W, .int .i64 H, .slice a n c, .int .i64 R, .int .i64 C] 28)
  have z1 : (w.alloc (.cells #[.int .i64 W, .int .i64 H, .slice a n c, .int .i64 R, .int .i64 C] 28)).heap.size = w.heap.size + 1 := by simp
  generalize w.alloc (.cells #[.int .i64 W, .int .i64 H, .slice a n c, .int .i64 R, .int .i64 C] 28) = W1 at *
  have A2 := heap_alloc_new W1 (.cells #[.int .i64 0, .int .i64 0, .slice none 0 0, .int .i64 0, .int .i64 0] 28)
  have N2 := N1.alloc N1.size (.cells #[.int .i64 0, .int .i64 0, .slice none 0 0, .int .i64 0, .int .i64 0] 28)
  have z2 : (W1.alloc (.cells #[.int .i64 0, .int .i64 0, .slice none 0 0, .int .i64 0, .int .i64 0] 28)).heap.size = w.heap.size + 1 + 1 := by simp [z1]
  rw [z1] at A2
  generalize W1.alloc (.cells #[.int .i64 0, .int .i64 0, .slice none 0 0, .int .i64 0, .int .i64 0] 28) = W2 at *
  have A3 := heap_alloc_new W2 (.cells #[.int .i64 W, .int .i64 H, .slice (some ⟨w.heap.size + 1 + 1 + 1, 0, none⟩) n n, .int .i64 R, .int .i64 C] 28)
  have N3 := N2.alloc N2.size (.cells #[.int .i64 W, .int .i64 H, .slice (some ⟨w.heap.size + 1 + 1 + 1, 0, none⟩) n n, .int .i64 R, .int .i64 C] 28)
  have z3 : (W2.alloc (.cells #[.int .i64 W, .int .i64 H, .slice (some ⟨w.heap.size + 1 + 1 + 1, 0, none⟩) n n, .int .i64 R, .int .i64 C] 28)).heap.size = w.heap.size + 1 + 1 + 1 := by simp [z2]
  rw [z2] at A3
  replace A2 := blk_alloc A2 (.cells #[.int .i64 W, .int .i64 H, .slice (some ⟨w.heap.size + 1 + 1 + 1, 0, none⟩) n n, .int .i64 R, .int .i64 C] 28)
  generalize W2.alloc (.cells #[.int .i64 W, .int .i64 H, .slice (some ⟨w.heap.size + 1 + 1 + 1, 0, none⟩) n n, .int .i64 R, .int .i64 C] 28) = W3 at *
  have A4 := heap_alloc_new W3 (.cells (cpV n 0 Ls (fun _ => 0)).toArray 36)
  have N4 := N3.alloc N3.size (.cells (cpV n 0 Ls (fun _ => 0)).toArray 36)
  rw [z3] at A4
  replace A2 := Lib.hid (blk_alloc A2 (.cells (cpV n 0 Ls (fun _ => 0)).toArray 36))
  replace A3 := Lib.hid (blk_alloc A3 (.cells (cpV n 0 Ls (fun _ => 0)).toArray 36))
  have F0 := Lib.hid (show CpM (W3.alloc (.cells (cpV n 0 Ls (fun _ => 0)).toArray 36)) (w.heap.size + 1) (w.heap.size + 1 + 1 + 1) n 0 Ls (fun _ => 0) from ⟨A4, fun i hi => absurd hi (by omega)⟩)
  generalize W3.alloc (.cells (cpV n 0 Ls (fun _ => 0)).toArray 36) = W4 at *
  clear A1 A4 N1 N2 N3 z1 z2 z3 hmk
  go_loopw [15] (fun iv wr => ∃ (k : Nat) (hs : Nat → Nat), k ≤ n ∧ iv = .int .i64 (k : Int) ∧ Hid (CpM wr (w.heap.size + 1) (w.heap.size + 1 + 1 + 1) n k Ls hs) ∧ Hid (wr.heap[w.heap.size + 1]? = some (.cells #[.int .i64 0, .int .i64 0, .slice none 0 0, .int .i64 0, .int .i64 0] 28 (0, 0))) ∧
    Hid (wr.heap[w.heap.size + 1 + 1]? = some (.cells #[.int .i64 W, .int .i64 H, .slice (some ⟨w.heap.size + 1 + 1 + 1, 0, none⟩) n n, .int .i64 R, .int .i64 C] 28 (0, 0))) ∧ Below w.heap.size w wr) (fun iv _ => n - (intOf iv).toNat)
  case atStart => exact ⟨0, _, Nat.zero_le _, rfl, F0, A2, A3, N4⟩
  case round =>
    obtain ⟨k, hs, hk, rfl, hF, h2, h3, hbl⟩ := hrel
    have hsz := blk_lt hF.out.blk
    by_cases hlt : k < n
    · have hk1 : (k : Int) < n := by omega
      have hk0 : (0 : Int) ≤ k := by omega
      have c3 : wr.cell? ⟨w.heap.size + 1 + 1, 2, none⟩ = some (.slice (some ⟨w.heap.size + 1 + 1 + 1, 0, none⟩) n n) := by rw [cell_of_row _ _ _ _ _ _ h3.out]; rfl
      obtain ⟨f1, f2⟩ := hF.out.cells hlt
      have hn1 : w.heap.size + 1 + 1 + 1 ≠ w.heap.size + 1 + 1 := by omega
      have hn2 : w.heap.size + 1 ≠ w.heap.size + 1 + 1 + 1 := by omega
      have hn3 : w.heap.size + 1 + 1 ≠ w.heap.size + 1 + 1 + 1 := by omega
      have hn4 : w.heap.size + 1 + 1 < wr.heap.size := by omega
      have hBg : w.heap.size ≤ w.heap.size + 1 + 1 + 1 := by omega
      obtain ⟨bb, off, ra, rc, rfl, hbb, hr0, hci, hcn⟩ := HA.out k (by omega)
      have hr := (hbl.cell (p := ⟨bb, off + k, none⟩) hbb).trans hr0
      have hgb : w.heap.size + 1 + 1 + 1 ≠ bb := by omega
      generalize hS : w.heap.size + 1 + 1 = sb at *
      generalize hG : sb + 1 = g at *
      have hLk := hL k
      clear hr0
      generalize hR0 : Ls.getD k [] = Rk at hr hci hLk
      have HR0 := Lib.hid hR0
      clear hR0
      have hmr := make_rowN (P := Tryd.prog) 36 51 i0 _ Tryd.underlying36 hi hz0 Rk.length (by rw [hz2]; omega) (by omega)
      rw [hz1, show (Value.agg #[.int .i64 0, .int .i64 0, .int .i64 0, .int .i64 0, .int .i64 0]).cells = #[.int .i64 0, .int .i64 0, .int .i64 0, .int .i64 0, .int .i64 0] from rfl, made_cells] at hmr
      have c3a := fun o => (World.cell?_alloc_lt wr o (⟨sb, 2, none⟩ : Addr) hn4).trans c3
      have f1a := fun o => (World.cell?_alloc_lt wr o (⟨g, k, none⟩ : Addr) hsz).trans f1
      have f2a := fun o => (World.frozen?_of_block (w := wr) (w' := wr.alloc o) (a := ⟨g, k, none⟩) (Below.heap_alloc _ _ _ hsz)).trans f2
      go_upto_region 6 with fail
      go_region_held3 (fun w' => w'.cell? ⟨sb, 2, none⟩ = some (.slice (some ⟨g, 0, none⟩) n n)) (first | exact c3 | exact c3a _ | exact (World.cell?_setCell_far _ _ _ _ hn1).trans c3 | exact (World.cell?_setCell_far _ _ _ _ hn1).trans (c3a _) | go_keep) (fail)
      have zs : (wr.setCell ⟨g, k, none⟩ (.slice (some ⟨wr.heap.size, 0, none⟩) Rk.length Rk.length)).heap.size = wr.heap.size := by simp [World.setCell]
      have X1 := heap_alloc_new (wr.setCell ⟨g, k, none⟩ (.slice (some ⟨wr.heap.size, 0, none⟩) Rk.length Rk.length)) (.cells (cRow (List.replicate Rk.length cl0)) 51)
      rw [zs] at X1
      have X2 := blk_set hF.out.blk k (.slice (some ⟨wr.heap.size, 0, none⟩) Rk.length Rk.length)
      rw [cpV_set n k wr.heap.size Ls hs hlt Rk.length (by rw [HR0.out])] at X2
      replace X2 := blk_alloc X2 (.cells (cRow (List.replicate Rk.length cl0)) 51)
      have X3 : ∀ i, i < k → w.heap.size + 1 ≤ hs i ∧ hs i < wr.heap.size ∧ ((wr.setCell ⟨g, k, none⟩ (.slice (some ⟨wr.heap.size, 0, none⟩) Rk.length Rk.length)).alloc (.cells (cRow (List.replicate Rk.length cl0)) 51)).heap[hs i]? = some (.cells (cRow (Ls.getD i [])) 51 (0, 0)) := fun i hi => by
        obtain ⟨g1, g2⟩ := hF.out.rows i hi
        exact ⟨g1, blk_lt g2, blk_alloc (blk_far g2 (fun e => by rw [show hs i = g from e, hF.out.blk] at g2; simp at g2) _) _⟩
      have X4 := blk_alloc (blk_far h2.out (p := ⟨g, k, none⟩) (by show w.heap.size + 1 ≠ g; omega) (.slice (some ⟨wr.heap.size, 0, none⟩) Rk.length Rk.length)) (.cells (cRow (List.replicate Rk.length cl0)) 51)
      have X5 := blk_alloc (blk_far h3.out (p := ⟨g, k, none⟩) (by show sb ≠ g; omega) (.slice (some ⟨wr.heap.size, 0, none⟩) Rk.length Rk.length)) (.cells (cRow (List.replicate Rk.length cl0)) 51)
      have X6 := ((hbl.setCell (p := ⟨g, k, none⟩) hBg (.slice (some ⟨wr.heap.size, 0, none⟩) Rk.length Rk.length)).alloc (by rw [zs]; exact hbl.size) (.cells (cRow (List.replicate Rk.length cl0)) 51)).drew
      have X7 := blk_set hF.out.blk k (.slice (some ⟨wr.heap.size, 0, none⟩) Rk.length Rk.length)
      generalize hwx : World.drew _ = wx
      have hX : wx.heap = ((wr.setCell ⟨g, k, none⟩ (.slice (some ⟨wr.heap.size, 0, none⟩) Rk.length Rk.length)).alloc (.cells (cRow (List.replicate Rk.length cl0)) 51)).heap := by rw [← hwx]; rfl
      rw [← hX] at X1 X2 X4 X5
      have X3' : ∀ i, i < k → w.heap.size + 1 ≤ hs i ∧ hs i < wr.heap.size ∧ wx.heap[hs i]? = some (.cells (cRow (Ls.getD i [])) 51 (0, 0)) := fun i hi => by rw [hX]; exact X3 i hi
      rw [hwx] at X6
      have c3x : wx.cell? ⟨sb, 2, none⟩ = some (.slice (some ⟨g, 0, none⟩) n n) := by rw [cell_of_row _ _ _ _ _ _ X5]; rfl
      have f1x : wx.cell? ⟨g, k, none⟩ = some (.slice (some ⟨wr.heap.size, 0, none⟩) Rk.length Rk.length) := by
        rw [cell_of_row _ _ _ _ _ _ X2, List.getElem?_toArray]
        unfold cpV
        rw [List.getElem?_append_left (by rw [List.length_map, List.length_range]; omega), List.getElem?_map, List.getElem?_range (by omega)]
        show some (Value.slice (some ⟨if k = k then wr.heap.size else hs k, 0, none⟩) (Ls.getD k []).length (Ls.getD k []).length) = _
        rw [if_pos rfl, HR0.out]
      have hcx := Lib.hid (hci.below X6)
      have hxs : wr.heap.size < wx.heap.size := blk_lt X1
      generalize hnb : wr.heap.size = nb at *
      have hgn : g < nb := hsz
      have HX2 := Lib.hid X2; have HX3 := Lib.hid X3'; have HX4 := Lib.hid X4; have HX5 := Lib.hid X5; have HX1 := Lib.hid X1
      clear X1 X2 X3 X3' X4 X5 X7 hX hwx zs c3 c3a f1 f1a f2 f2a hF h2 h3 hr hmr hci
      have fin : ∀ wz : World, wz.heap[nb]? = some (.cells (cRow Rk) 51 (0, 0)) → (∀ j, j ≠ nb → wz.heap[j]? = wx.heap[j]?) → CpM wz (w.heap.size + 1) g n (k + 1) Ls (fun i => if i = k then nb else hs i) ∧ wz.heap[w.heap.size + 1]? = some (.cells #[.int .i64 0, .int .i64 0, .slice none 0 0, .int .i64 0, .int .i64 0] 28 (0, 0)) ∧ wz.heap[sb]? = some (.cells #[.int .i64 W, .int .i64 H, .slice (some ⟨g, 0, none⟩) n n, .int .i64 R, .int .i64 C] 28 (0, 0)) := fun wz y1 y2 => by
        refine ⟨⟨(y2 g (by omega)).trans HX2.out, fun i hi => ?_⟩, (y2 _ (by omega)).trans HX4.out, (y2 sb (by omega)).trans HX5.out⟩
        by_cases hik : i = k
        · subst hik
          show w.heap.size + 1 ≤ (if i = i then nb else hs i) ∧ wz.heap[if i = i then nb else hs i]? = _
          rw [if_pos rfl, HR0.out]
          exact ⟨by omega, y1⟩
        · show w.heap.size + 1 ≤ (if i = k then nb else hs i) ∧ wz.heap[if i = k then nb else hs i]? = _
          rw [if_neg hik]
          obtain ⟨g1, g2, g3⟩ := HX3.out i (by omega)
          exact ⟨g1, (y2 _ (by omega)).trans g3⟩
      have HFIN := Lib.hid fin
      clear fin
      have hsi : (Tryd.prog.info? 51).map (·.size) = some 5 := by rw [hi]; simp [hz1]
      cases ra with
      | none =>
        obtain rfl : rc = 0 := hcn rfl
        have hRn : Rk = [] := by
          cases Rk with
          | nil => rfl
          | cons x l => obtain ⟨_, _, e, _⟩ := hcx.out 0 (by simp); cases e
        subst hRn
        have hrun := run_copy_nil (P := Tryd.prog) wx 36 36 3 51 ⟨nb, 0, none⟩ ([] : List Cl).length ([] : List Cl).length Tryd.underlying36 (by rw [hsi]; rfl)
        have F9 := HFIN.out wx HX1.out (fun j _ => rfl)
        have HF9 := Lib.hid F9
        have NW := X6
        have hz00 : ([] : List Cl).length = 0 := rfl
        rw [hz00] at hrun f1x
        clear F9 HX1 HX2 HX3 HX4 HX5 HFIN hsi hcx
        go_wp2
        go_roundw
        case rel => exact ⟨k + 1, _, by omega, by go_num, Lib.hid HF9.out.1, Lib.hid HF9.out.2.1, Lib.hid HF9.out.2.2, NW⟩
        case measure => first | (simp [intOf]; omega) | (simp; omega)
      | some ad =>
        have hsize : (cRow (List.replicate Rk.length cl0)).size = Rk.length * 5 := by rw [cRow, List.size_toArray, cCells_len, List.length_replicate]
        have hrun := run_copy_wide (P := Tryd.prog) wx 36 36 3 51 nb 0 Rk.length Rk.length ad Rk.length rc (cRow (List.replicate Rk.length cl0)) 51 (cCells Rk) 5 Rk.length Tryd.underlying36 hsi HX1.out (show Rk.length = min Rk.length Rk.length by omega) (cCells_len Rk) (cells_news hcx.out) (by rw [cCells_len, hsize]; omega) (cCells_one Rk)
        have hfe : flK Rk Rk.length Rk.length = Rk := by rw [flK_end, Nat.sub_self]; simp [fillN]
        rw [List.append_assoc, flK_copy Rk Rk.length (Nat.le_refl _), hfe] at hrun
        have y1 := setRow_heap wx nb _ (cRow Rk) 51 (0, 0) HX1.out
        have F9 := HFIN.out (wx.setRow nb (cRow Rk)) y1 (fun j hj => setRow_other wx nb j (cRow Rk) hj)
        have HF9 := Lib.hid F9
        have NW := Go.below_setRow X6 (show w.heap.size ≤ nb by omega) (cRow Rk)
        clear F9 y1 HX1 HX2 HX3 HX4 HX5 HFIN hsi hcx hfe hsize
        go_wp2
        go_roundw
        case rel => exact ⟨k + 1, _, by omega, by go_num, Lib.hid HF9.out.1, Lib.hid HF9.out.2.1, Lib.hid HF9.out.2.2, NW⟩
        case measure => first | (simp [intOf]; omega) | (simp; omega)
    · obtain rfl : k = n := by omega
      have hk1 : ¬ (k : Int) < k := by omega
      have b3 := fun i => cell_of_row _ _ i _ _ _ h3.out
      have s0 : wr.cell? ⟨w.heap.size + 1 + 1, 0, none⟩ = some (.int .i64 W) := by rw [b3]; rfl
      have s1 : wr.cell? ⟨w.heap.size + 1 + 1, 1, none⟩ = some (.int .i64 H) := by rw [b3]; rfl
      have s2 : wr.cell? ⟨w.heap.size + 1 + 1, 2, none⟩ = some (.slice (some ⟨w.heap.size + 1 + 1 + 1, 0, none⟩) k k) := by rw [b3]; rfl
      have s3 : wr.cell? ⟨w.heap.size + 1 + 1, 3, none⟩ = some (.int .i64 R) := by rw [b3]; rfl
      have s4 : wr.cell? ⟨w.heap.size + 1 + 1, 4, none⟩ = some (.int .i64 C) := by rw [b3]; rfl
      have b0 := fun i => cell_of_row _ _ i _ _ _ h2.out
      have r0 : wr.cell? ⟨w.heap.size + 1, 0, none⟩ = some (.int .i64 0) := by rw [b0]; rfl
      have r1 : wr.cell? ⟨w.heap.size + 1, 1, none⟩ = some (.int .i64 0) := by rw [b0]; rfl
      have r2 : wr.cell? ⟨w.heap.size + 1, 2, none⟩ = some (.slice none 0 0) := by rw [b0]; rfl
      have r3 : wr.cell? ⟨w.heap.size + 1, 3, none⟩ = some (.int .i64 0) := by rw [b0]; rfl
      have r4 : wr.cell? ⟨w.heap.size + 1, 4, none⟩ = some (.int .i64 0) := by rw [b0]; rfl
      have rf := fun i => frozen_of_row _ (w.heap.size + 1) i _ _ h2.out
      have hM := hF.out
      rw [← hn] at hM
      have HF := hM.done
      have q7 := Lib.hid (scr_set h2.out W H (.slice (some ⟨w.heap.size + 1 + 1 + 1, 0, none⟩) k k) R C)
      have N7 := Lib.hid (scr_set_below wr w (w.heap.size + 1) (.int .i64 W) (.int .i64 H) (.slice (some ⟨w.heap.size + 1 + 1 + 1, 0, none⟩) k k) (.int .i64 R) (.int .i64 C) (show w.heap.size ≤ w.heap.size + 1 by omega) hbl)
      have R7 := Lib.hid (RowsB.set (RowsB.set (RowsB.set (RowsB.set (RowsB.set HF (p := ⟨w.heap.size + 1, 0, none⟩) h2.out (by decide) (by decide) (.int .i64 W)) (p := ⟨w.heap.size + 1, 1, none⟩) (blk_set h2.out _ _) (by decide) (by decide) (.int .i64 H)) (p := ⟨w.heap.size + 1, 2, none⟩) (blk_set (blk_set h2.out _ _) _ _) (by decide) (by decide) (.slice (some ⟨w.heap.size + 1 + 1 + 1, 0, none⟩) k k)) (p := ⟨w.heap.size + 1, 3, none⟩) (blk_set (blk_set (blk_set h2.out _ _) _ _) _ _) (by decide) (by decide) (.int .i64 R)) (p := ⟨w.heap.size + 1, 4, none⟩) (blk_set (blk_set (blk_set (blk_set h2.out _ _) _ _) _ _) _ _) (by decide) (by decide) (.int .i64 C))
      clear b0 b3 HF hM
      go_wp2
      generalize hWF : World.setCell _ _ _ = WF
      have hq : WF.heap[w.heap.size + 1]? = some (.cells #[.int .i64 W, .int .i64 H, .slice (some ⟨w.heap.size + 1 + 1 + 1, 0, none⟩) k k, .int .i64 R, .int .i64 C] 28 (0, 0)) := by rw [← hWF]; exact q7.out
      have hN : Below w.heap.size w WF := by rw [← hWF]; exact N7.out
      have hO : RowsB WF (w.heap.size + 1 + 1 + 1) Ls := by rw [← hWF]; exact R7.out
      have y := fun i => cell_of_row _ _ i _ _ _ hq
      have y0 : WF.cell? ⟨w.heap.size + 1, 0, none⟩ = some (.int .i64 W) := by rw [y]; rfl
      have y1 : WF.cell? ⟨w.heap.size + 1, 1, none⟩ = some (.int .i64 H) := by rw [y]; rfl
      have y2 : WF.cell? ⟨w.heap.size + 1, 2, none⟩ = some (.slice (some ⟨w.heap.size + 1 + 1 + 1, 0, none⟩) k k) := by rw [y]; rfl
      have y3 : WF.cell? ⟨w.heap.size + 1, 3, none⟩ = some (.int .i64 R) := by rw [y]; rfl
      have y4 : WF.cell? ⟨w.heap.size + 1, 4, none⟩ = some (.int .i64 C) := by rw [y]; rfl
      exact bodyPost_ret (v := .agg #[.int .i64 W, .int .i64 H, .slice (some ⟨w.heap.size + 1 + 1 + 1, 0, none⟩) k k, .int .i64 R, .int .i64 C]) (by
        simp [results, Tryd.results62, go_sem, y0, y1, y2, y3, y4]) rfl ⟨_, rfl, hO, hN⟩
end Go.Proofs.YtcdecnmhogmhaaaDoor
