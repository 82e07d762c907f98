/-
  Joined: Ln3 Ln4 Ln5 Ln9 Ln5b Ln7 Ln10 Ln11.
-/
import Derived.Test.YtdnmjofenckndaaDoorJL04
import Derived.Test.YtdnmjofenckndaaDoorJL06
import Derived.Lib.QuietBelow
import Derived.Deep.RegionHeld3
import Derived.BigRegion
import Derived.BigQuiet
set_option linter.unusedVariables false
set_option linter.unusedSimpArgs false
set_option maxRecDepth 100000
set_option linter.unusedVariables false
set_option linter.unusedSimpArgs false
namespace Go.Proofs.YtdnmjofenckndaaDoor
open Go.RowKit Go.Sort
theorem lw_in (a : Option Addr) (n c : Nat) (x i : Int) (w : World) : Calls Tryd.prog 83 #[.agg #[.slice a n c, .int .i64 x], .int .i64 i] w fun e w' => e = .returned (.int .i64 (plc n i)) ∧ Below w.heap.size w w' := by
  have B0 := below_alloc w (.cells #[.slice a n c, .int .i64 x] 24)
  go_enter Tryd.func83, Tryd.ntmps83
  go_wp2
  all_goals
    go_ret
    exact ⟨retI (by unfold plc; omega), B0⟩
/-- The places of a cut. -/
def btF (n : Nat) (i j : Int) : Nat := (min (plc n i) (plc n j)).toNat
def btT (n : Nat) (i j : Int) : Nat := (max (plc n i) (plc n j)).toNat
theorem bt_le (n : Nat) (i j : Int) : btF n i j ≤ btT n i j ∧ btT n i j ≤ n := by unfold btF btT plc; omega
set_option maxHeartbeats 1000000 in
theorem lw_btw (a : Option Addr) (n c : Nat) (x i j : Int) (f t : Nat) (hf : btF n i j = f) (ht : btT n i j = t) (w : World) :
    Calls Tryd.prog 91 #[.agg #[.slice a n c, .int .i64 x], .int .i64 i, .int .i64 j] w fun e w' => e = .returned (.tuple #[.int .i64 (f : Int), .int .i64 (t : Int)]) ∧ Below w.heap.size w w' := by
  have B0 := below_alloc w (.cells #[.slice a n c, .int .i64 x] 24)
  have q0 := heap_alloc_new w (.cells #[.slice a n c, .int .i64 x] 24)
  obtain ⟨W, hW⟩ : ∃ W, w.alloc (.cells #[.slice a n c, .int .i64 x] 24) = W := ⟨_, rfl⟩
  rw [hW] at B0 q0
  have I1 := fun d os => (lw_in a n c x i (grow (redrawn W d) os)).regrown_of
  have I2 := fun d os => (lw_in a n c x j (grow (redrawn W d) os)).regrown_of
  have hp0 : 0 ≤ plc n i := by unfold plc; omega
  have hq0 : 0 ≤ plc n j := by unfold plc; omega
  unfold btF at hf; unfold btT at ht
  generalize plc n i = p at *
  generalize plc n j = q at *
  have hF : Hid ((if p < q then p else q) = (f : Int) ∧ (if p < q then q else p) = (t : Int) ∧ (if q < p then q else p) = (f : Int) ∧ (if q < p then p else q) = (t : Int) ∧ min p q = f ∧ max p q = t) := Lib.hid (by
    by_cases hpq : p < q
    · rw [if_pos hpq, if_pos hpq, if_neg (by omega), if_neg (by omega)]; omega
    · rw [if_neg hpq, if_neg hpq]
      by_cases hqp : q < p
      · rw [if_pos hqp, if_pos hqp]; omega
      · rw [if_neg hqp, if_neg hqp]; omega)
  replace I1 := Lib.hid I1; replace I2 := Lib.hid I2
  have yy := fun i => cell_of_row _ _ i _ _ _ q0
  have e0 := yy 0; have e1 := yy 1
  dsimp at e0 e1
  have G0 := fun d os => cell_regrown e0 d os
  have G1 := fun d os => cell_regrown e1 d os
  clear yy e0 e1 q0 hf ht hp0 hq0
  go_enter Tryd.func91, Tryd.ntmps91
  go_upto_region 1 with fail
  refine wp_region_quiet_below (by kernel_rfl) (by kernel_rfl) ?_
  repeat (any_goals (go_big_quiet_step (first | (go_at_call 83; with_reducible exact I1.out _ _) | (go_at_call 83; with_reducible exact I2.out _ _))))
  refine wpQuiet_nil ?_
  intro _ hw'
  obtain ⟨⟨dq, osq⟩, hw''⟩ := hw'
  subst hw''
  have NF := seqB B0 (below_regrown W dq osq)
  clear G0 G1
  generalize grow (redrawn W dq) osq = W6 at *
  go_wp2_with fail
  all_goals
    refine bodyPost_ret (results_tmp2 rfl _ _ _) rfl ?_
    obtain ⟨h1, h2, h3, h4, h5, h6⟩ := hF.out
    refine ⟨?_, NF⟩
    show Ending.returned (.tuple #[.int .i64 _, .int .i64 _]) = Ending.returned (.tuple #[.int .i64 (f : Int), .int .i64 (t : Int)])
    rw [show ∀ a b : Int, a = f → b = t → Ending.returned (.tuple #[.int .i64 a, .int .i64 b]) = Ending.returned (.tuple #[.int .i64 (f : Int), .int .i64 (t : Int)]) from fun a b h1 h2 => by rw [h1, h2]] <;> omega
/-- A line that has been laid into its box. -/
theorem ln_fin {w w5 : World} {R B N d : Nat} {b : Option Addr} {L : List (Int × Int)} {at_ : Int} {u0 u1 : Value} (hR : w5.heap[R]? = some (.cells #[u0, u1] 24 (0, 0))) (hO : OwS w5 B (.slice b N d) L) (hb : Below w.heap.size w w5) (hlt : w.heap.size ≤ R) {WF : World} (hWF : (w5.setCell ⟨R, 0, none⟩ (.slice b N d)).setCell ⟨R, 1, none⟩ (.int .i64 at_) = WF) :
    WF.heap[R]? = some (.cells #[.slice b N d, .int .i64 at_] 24 (0, 0)) ∧ WF.cell? ⟨R, 0, none⟩ = some (.slice b N d) ∧ WF.cell? ⟨R, 1, none⟩ = some (.int .i64 at_) ∧ OwS WF B (.slice b N d) L ∧ Below w.heap.size w WF := by
  have hq : WF.heap[R]? = some (.cells #[.slice b N d, .int .i64 at_] 24 (0, 0)) := by rw [← hWF]; exact blk_set (blk_set hR 0 _) 1 _
  refine ⟨hq, cell_of_row _ _ 0 _ _ _ hq, cell_of_row _ _ 1 _ _ _ hq, ?_, ?_⟩
  · rw [← hWF]; unfold OwS
    exact own_set (own_set hO (own_ne_kind hO hR (by decide)) _) (own_ne_kind hO hR (by decide)) _
  · rw [← hWF]; exact (hb.setCell (p := ⟨R, 0, none⟩) hlt _).setCell (p := ⟨R, 1, none⟩) hlt _
theorem farL {w : World} {p q i j k : Nat} {u v : Value} (h : p ≠ q) : ((w.setCell ⟨p, i, none⟩ u).setCell ⟨p, j, none⟩ v).cell? ⟨q, k, none⟩ = w.cell? ⟨q, k, none⟩ := by
  unfold World.cell?
  rw [Below.heap_setCell _ _ _ _ (Ne.symm h), Below.heap_setCell _ _ _ _ (Ne.symm h)]
set_option maxHeartbeats 2000000 in
theorem lw_own (S : Nat → Prop) (L : List (Int × Int)) (a : Option Addr) (n c : Nat) (x : Int) (w : World) (hn : L.length = n) (hl : n ≤ 90000) (hs : SlS S w a L c) :
    Calls Tryd.prog 82 #[.agg #[.slice a n c, .int .i64 x]] w fun e w' => ∃ b d, e = .returned (.agg #[.slice b n d, .int .i64 x]) ∧ OwS w' w.heap.size (.slice b n d) L ∧ Below w.heap.size w w' := by
  have B0 := below_alloc w (.cells #[.slice a n c, .int .i64 x] 24)
  have q0 := heap_alloc_new w (.cells #[.slice a n c, .int .i64 x] 24)
  obtain ⟨W, hW⟩ : ∃ W, w.alloc (.cells #[.slice a n c, .int .i64 x] 24) = W := ⟨_, rfl⟩
  rw [hW] at B0 q0
  have B1 := seqB B0 (below_alloc W (.cells #[.slice none 0 0, .int .i64 0] 24))
  have q1 := blk_below q0 (below_alloc W (.cells #[.slice none 0 0, .int .i64 0] 24))
  have r1 := heap_alloc_new W (.cells #[.slice none 0 0, .int .i64 0] 24)
  obtain ⟨W1, hW1⟩ : ∃ W1, W.alloc (.cells #[.slice none 0 0, .int .i64 0] 24) = W1 := ⟨_, rfl⟩
  rw [hW1] at B1 q1 r1
  have hsW : Hid (W.heap.size = w.heap.size + 1 ∧ W1.heap.size = w.heap.size + 2) := Lib.hid (by rw [← hW1, ← hW]; simp)
  have CL := Lib.hid (clone_sg L a n c S W1.drew hn (by omega) ((hs.below B1).below (Below.refl _ _).drew))
  have zz := fun i => cell_of_row _ _ i _ _ _ q1
  have z0 := zz 0; have z1 := zz 1
  have yf := fun i => frozen_of_row _ W.heap.size i _ _ r1
  dsimp at z0 z1
  have R1 := Lib.hid r1
  have hH : Hid (w.heap.size < W1.heap.size) := Lib.hid (by have := hsW.out; omega)
  clear q0 q1 r1 zz hs B0
  go_enter Tryd.func82, Tryd.ntmps82
  go_upto_region 1 with fail
  clear hW
  have hWne : Hid (W.heap.size ≠ w.heap.size) := Lib.hid (by have := hsW.out; omega)
  go_region_held3 (fun w' => w'.cell? ⟨w.heap.size, 0, none⟩ = some (.slice a n c) ∧ w'.cell? ⟨w.heap.size, 1, none⟩ = some (.int .i64 x)) (first | exact ⟨z0, z1⟩ | exact ⟨z02, z12⟩ | exact ⟨(farL hWne.out).trans z02, (farL hWne.out).trans z12⟩ | go_keep)
    (first | (go_at_call 92; refine CL.out.mono ?_; rintro e w2 ⟨b, d, rfl, ho, hb⟩; have O2 := Lib.hid ho; have N2 := Lib.hid (seqB B1 ((Below.refl _ _).drew.trans hb)); have z02 := (hb.cell (p := ⟨w.heap.size, 0, none⟩) hH.out).trans z0; have z12 := (hb.cell (p := ⟨w.heap.size, 1, none⟩) hH.out).trans z1; have R2 := Lib.hid (blk_below R1.out ((Below.refl _ _).drew.trans hb)); have yf2 := fun i => frozen_of_row _ W.heap.size i _ _ R2.out; have yy := fun i => cell_of_row _ _ i _ _ _ R2.out; have y0 := yy 0; have y1 := yy 1; dsimp at y0 y1; clear ho hb yy))
  go_wp2
  clear z0 z1 z02 z12 y0 y1 yf yf2
  generalize hWF : World.setCell _ _ _ = WF
  obtain ⟨_, g0, g1, gO, gB⟩ := ln_fin R2.out O2.out N2.out (by have := hsW.out; omega) hWF
  refine bodyPost_ret (v := .agg #[.slice b n d, .int .i64 x]) (by simp [results, Tryd.results82, go_sem, g0, g1]) rfl ?_
  exact ⟨b, d, rfl, gO.mono (by have := hsW.out; show _ ≤ W1.heap.size; omega), gB⟩
end Go.Proofs.YtdnmjofenckndaaDoor
set_option linter.unusedVariables false
set_option linter.unusedSimpArgs false
namespace Go.Proofs.YtdnmjofenckndaaDoor
open Go.RowKit Go.Sort
/-- Signs one behind the other, out of a fresh block of slices. -/
theorem concatE (E : List SgArg) (cs : Array Value) (m N : Nat) (S : Nat → Prop) (w : World) (hcs : (E.map fun y => Value.slice y.a y.l.length y.c).toArray = cs) (hm : E.length = m) (hm2 : m ≤ 1000) (hN : (catL E).length = N) (hl : N ≤ 100000) (hs : ∀ y ∈ E, SlS S w y.a y.l y.c) :
    Calls Tryd.prog 87 #[.slice (some ⟨w.heap.size, 0, none⟩) m m] (w.alloc (.cells cs 22)) fun e w' => ∃ b d, e = .returned (.slice b N d) ∧ OwS w' w.heap.size (.slice b N d) (catL E) ∧ Below w.heap.size w w' := by
  have B0 := below_alloc w (.cells cs 22)
  have h0 := heap_alloc_new w (.cells cs 22)
  refine (concat_any E w.heap.size m N S _ (catIn_of (t := 22) (f := (0, 0)) (by rw [hcs]; exact h0) (fun y hy => (hs y hy).below B0)) hm hm2 hN hl).mono ?_
  rintro e w' ⟨b, d, rfl, ho, hb⟩
  exact ⟨b, d, rfl, ho.mono B0.size, seqB B0 hb⟩
theorem concat2 (x y : SgArg) (n1 n2 N : Nat) (S : Nat → Prop) (w : World) (h1 : x.l.length = n1) (h2 : y.l.length = n2) (hN : n1 + n2 = N) (hl : N ≤ 100000) (s1 : SlS S w x.a x.l x.c) (s2 : SlS S w y.a y.l y.c) :
    Calls Tryd.prog 87 #[.slice (some ⟨w.heap.size, 0, none⟩) 2 2] (w.alloc (.cells #[.slice x.a n1 x.c, .slice y.a n2 y.c] 22)) fun e w' => ∃ b d, e = .returned (.slice b N d) ∧ OwS w' w.heap.size (.slice b N d) (x.l ++ y.l) ∧ Below w.heap.size w w' := by
  have h := concatE [x, y] #[.slice x.a n1 x.c, .slice y.a n2 y.c] 2 N S w (by simp [h1, h2]) rfl (by omega) (by simp [catL, h1, h2, hN]) hl (by simp [s1, s2])
  simpa [catL] using h
theorem concat3 (x y z : SgArg) (n1 n2 n3 N : Nat) (S : Nat → Prop) (w : World) (h1 : x.l.length = n1) (h2 : y.l.length = n2) (h3 : z.l.length = n3) (hN : n1 + n2 + n3 = N) (hl : N ≤ 100000) (s1 : SlS S w x.a x.l x.c) (s2 : SlS S w y.a y.l y.c) (s3 : SlS S w z.a z.l z.c) :
    Calls Tryd.prog 87 #[.slice (some ⟨w.heap.size, 0, none⟩) 3 3] (w.alloc (.cells #[.slice x.a n1 x.c, .slice y.a n2 y.c, .slice z.a n3 z.c] 22)) fun e w' => ∃ b d, e = .returned (.slice b N d) ∧ OwS w' w.heap.size (.slice b N d) (x.l ++ y.l ++ z.l) ∧ Below w.heap.size w w' := by
  have h := concatE [x, y, z] #[.slice x.a n1 x.c, .slice y.a n2 y.c, .slice z.a n3 z.c] 3 N S w (by simp [h1, h2, h3]) rfl (by omega) (by simp [catL, h1, h2, h3, ← hN]; omega) hl (by simp [s1, s2, s3])
  simpa [catL] using h
theorem concat5 (x y z u v : SgArg) (n1 n2 n3 n4 n5 N : Nat) (S : Nat → Prop) (w : World) (h1 : x.l.length = n1) (h2 : y.l.length = n2) (h3 : z.l.length = n3) (h4 : u.l.length = n4) (h5 : v.l.length = n5) (hN : n1 + n2 + n3 + n4 + n5 = N) (hl : N ≤ 100000) (s1 : SlS S w x.a x.l x.c) (s2 : SlS S w y.a y.l y.c) (s3 : SlS S w z.a z.l z.c) (s4 : SlS S w u.a u.l u.c) (s5 : SlS S w v.a v.l v.c) :
    Calls Tryd.prog 87 #[.slice (some ⟨w.heap.size, 0, none⟩) 5 5] (w.alloc (.cells #[.slice x.a n1 x.c, .slice y.a n2 y.c, .slice z.a n3 z.c, .slice u.a n4 u.c, .slice v.a n5 v.c] 22)) fun e w' => ∃ b d, e = .returned (.slice b N d) ∧ OwS w' w.heap.size (.slice b N d) (x.l ++ y.l ++ z.l ++ u.l ++ v.l) ∧ Below w.heap.size w w' := by
  have h := concatE [x, y, z, u, v] #[.slice x.a n1 x.c, .slice y.a n2 y.c, .slice z.a n3 z.c, .slice u.a n4 u.c, .slice v.a n5 v.c] 5 N S w (by simp [h1, h2, h3, h4, h5]) rfl (by omega) (by simp [catL, h1, h2, h3, h4, h5, ← hN]; omega) hl (by simp [s1, s2, s3, s4, s5])
  simpa [catL] using h
set_option maxHeartbeats 4000000 in
theorem lw_rep (S : Nat → Prop) (L l : List (Int × Int)) (a b : Option Addr) (n c m d : Nat) (x i j : Int) (f t : Nat) (w : World) (hn : L.length = n) (hm : l.length = m) (hl : n + m ≤ 90000) (hf : btF n i j = f) (ht : btT n i j = t) (hs : SlS S w a L c) (hs2 : SlS S w b l d) :
    Calls Tryd.prog 81 #[.agg #[.slice a n c, .int .i64 x], .int .i64 i, .int .i64 j, .slice b m d] w fun e w' => ∃ ad d', e = .returned (.agg #[.slice ad (f + m + (n - t)) d', .int .i64 ((f : Int) + (m : Int))]) ∧ OwS w' w.heap.size (.slice ad (f + m + (n - t)) d') (L.take f ++ l ++ L.drop t) ∧ Below w.heap.size w w' := by
  have hbt := bt_le n i j
  rw [hf, ht] at hbt
  obtain ⟨hft, htn⟩ := hbt
  have hle := hs.le
  rw [hn] at hle
  have B0 := below_alloc w (.cells #[.slice a n c, .int .i64 x] 24)
  have q0 := heap_alloc_new w (.cells #[.slice a n c, .int .i64 x] 24)
  obtain ⟨W, hW⟩ : ∃ W, w.alloc (.cells #[.slice a n c, .int .i64 x] 24) = W := ⟨_, rfl⟩
  rw [hW] at B0 q0
  have B1 := seqB B0 (below_alloc W (.cells #[.slice none 0 0, .int .i64 0] 24))
  have q1 := blk_below q0 (below_alloc W (.cells #[.slice none 0 0, .int .i64 0] 24))
  have r1 := heap_alloc_new W (.cells #[.slice none 0 0, .int .i64 0] 24)
  obtain ⟨W1, hW1⟩ : ∃ W1, W.alloc (.cells #[.slice none 0 0, .int .i64 0] 24) = W1 := ⟨_, rfl⟩
  rw [hW1] at B1 q1 r1
  have hsW : Hid (W.heap.size = w.heap.size + 1 ∧ W1.heap.size = w.heap.size + 2) := Lib.hid (by rw [← hW1, ← hW]; simp)
  have BT := Lib.hid (lw_btw a n c x i j f t hf ht W1)
  have zz := fun i => cell_of_row _ _ i _ _ _ q1
  have z0 := zz 0; have z1 := zz 1
  dsimp at z0 z1
  have R1 := Lib.hid r1
  have hH : Hid (w.heap.size < W1.heap.size) := Lib.hid (by have := hsW.out; omega)
  obtain ⟨A1, hA1⟩ : ∃ x : Option Addr, (if c = 0 then a else a.map (·.add (0 * 2))) = x := ⟨_, rfl⟩
  obtain ⟨A2, hA2⟩ : ∃ x : Option Addr, (if c = t then a else a.map (·.add (t * 2))) = x := ⟨_, rfl⟩
  obtain ⟨s1, l1⟩ := hs.sub 0 f (Nat.zero_le _) (by omega)
  obtain ⟨s2, l2⟩ := hs.sub t L.length (by omega) (Nat.le_refl _)
  rw [hA1] at s1; rw [hA2] at s2
  rw [List.drop_zero, Nat.sub_zero] at s1 l1
  rw [Nat.sub_zero] at s1
  rw [List.take_of_length_le (by rw [List.length_drop]; omega)] at s2 l2
  rw [hn] at l2
  have hcut1 : ∀ w : World, (Instr.slice 22 (.slice a n c) none (some (.int .i64 (f : Int))) none).run Tryd.prog w = .ok (.slice A1 f c) w := fun w => by
    rw [run_cutH w a n c f (by omega), hA1]
  have hcut2 : ∀ w : World, (Instr.slice 22 (.slice a n c) (some (.int .i64 (t : Int))) none none).run Tryd.prog w = .ok (.slice A2 (n - t) (c - t)) w := fun w => by
    rw [run_cutL w a n c t (by omega), hA2]
  have CC := Lib.hid fun (w' : World) (hb : Below w.heap.size w w') => concat3 ⟨A1, L.take f, c⟩ ⟨b, l, d⟩ ⟨A2, L.drop t, c - t⟩ f m (n - t) (f + m + (n - t)) S w' l1 hm l2 rfl (by omega) (s1.below hb) (hs2.below hb) (s2.below hb)
  have hwr : IntKind.i64.wrap ((f : Int) + (m : Int)) = (f : Int) + (m : Int) := by rw [IntKind.wrap_i64]; omega
  clear hA1 hA2 s1 s2 l1 l2 hs hs2 q0 q1 r1 zz B0
  go_enter Tryd.func81, Tryd.ntmps81
  go_upto_region 1 with fail
  clear hW
  have hWne : Hid (W.heap.size ≠ w.heap.size) := Lib.hid (by have := hsW.out; omega)
  go_upto_region 2 with (go_at_call 91; refine BT.out.mono ?_; rintro e w2 ⟨rfl, hb⟩; have N2 := Lib.hid (seqB B1 hb); have z02 := (hb.cell (p := ⟨w.heap.size, 0, none⟩) hH.out).trans z0; have z12 := (hb.cell (p := ⟨w.heap.size, 1, none⟩) hH.out).trans z1; have R2 := Lib.hid (blk_below R1.out hb); clear hb BT z0 z1 R1)
  have CC2 := Lib.hid (CC.out w2.drew N2.out.drew)
  have hH2 : Hid (w.heap.size < w2.drew.heap.size) := Lib.hid (Nat.lt_of_lt_of_le hH.out (by have := N2.out.size; have := blk_lt R2.out; have := hsW.out; show _ ≤ w2.heap.size; omega))
  clear CC
  go_region_held3 (fun w' => w'.cell? ⟨w.heap.size, 0, none⟩ = some (.slice a n c) ∧ w'.cell? ⟨w.heap.size, 1, none⟩ = some (.int .i64 x)) (first | exact ⟨z02, z12⟩ | exact ⟨z03, z13⟩ | exact ⟨(World.cell?_alloc_lt _ _ _ hH2.out).trans z02, (World.cell?_alloc_lt _ _ _ hH2.out).trans z12⟩ | exact ⟨(farL hWne.out).trans z03, (farL hWne.out).trans z13⟩ | go_keep)
    (first | (go_at_call 87; refine CC2.out.mono ?_; rintro e w3 ⟨bx, dx, rfl, ho, hb⟩; have O3 := Lib.hid ho; have D3 := (Below.refl w2.heap.size w2).drew.trans hb; have N3 := Lib.hid (seqB N2.out D3); have z03 := (hb.cell (p := ⟨w.heap.size, 0, none⟩) hH2.out).trans z02; have z13 := (hb.cell (p := ⟨w.heap.size, 1, none⟩) hH2.out).trans z12; have R3 := Lib.hid (blk_below R2.out D3); have yf3 := fun i => frozen_of_row _ W.heap.size i _ _ R3.out; have yy := fun i => cell_of_row _ _ i _ _ _ R3.out; have y0 := yy 0; have y1 := yy 1; dsimp at y0 y1; clear ho hb yy D3))
  go_wp2
  clear z02 z12 z03 z13 y0 y1 yf3
  generalize hWF : World.setCell _ _ _ = WF
  obtain ⟨_, g0, g1, gO, gB⟩ := ln_fin R3.out O3.out N3.out (by have := hsW.out; omega) hWF
  refine bodyPost_ret (v := .agg #[.slice bx (f + m + (n - t)) dx, .int .i64 ((f : Int) + (m : Int))]) (by simp [results, Tryd.results81, go_sem, g0, g1]) rfl ?_
  exact ⟨bx, dx, rfl, gO.mono (by have := hH2.out; omega), gB⟩
set_option maxHeartbeats 2000000 in
theorem lw_ins (S : Nat → Prop) (L l : List (Int × Int)) (a b : Option Addr) (n c m d at_ : Nat) (w : World) (hn : L.length = n) (hm : l.length = m) (hl : n + m ≤ 90000) (hat : at_ ≤ n) (hs : SlS S w a L c) (hs2 : SlS S w b l d) :
    Calls Tryd.prog 26 #[.agg #[.slice a n c, .int .i64 (at_ : Int)], .slice b m d] w fun e w' => ∃ ad d', e = .returned (.agg #[.slice ad (at_ + m + (n - at_)) d', .int .i64 ((at_ : Int) + (m : Int))]) ∧ OwS w' w.heap.size (.slice ad (at_ + m + (n - at_)) d') (L.take at_ ++ l ++ L.drop at_) ∧ Below w.heap.size w w' := by
  have B0 := below_alloc w (.cells #[.slice a n c, .int .i64 (at_ : Int)] 24)
  have q0 := heap_alloc_new w (.cells #[.slice a n c, .int .i64 (at_ : Int)] 24)
  obtain ⟨W, hW⟩ : ∃ W, w.alloc (.cells #[.slice a n c, .int .i64 (at_ : Int)] 24) = W := ⟨_, rfl⟩
  rw [hW] at B0 q0
  have B1 := seqB B0 (below_alloc W (.cells #[.slice none 0 0, .int .i64 0] 24))
  have q1 := blk_below q0 (below_alloc W (.cells #[.slice none 0 0, .int .i64 0] 24))
  have r1 := heap_alloc_new W (.cells #[.slice none 0 0, .int .i64 0] 24)
  obtain ⟨W1, hW1⟩ : ∃ W1, W.alloc (.cells #[.slice none 0 0, .int .i64 0] 24) = W1 := ⟨_, rfl⟩
  rw [hW1] at B1 q1 r1
  have hsW : Hid (W.heap.size = w.heap.size + 1 ∧ W1.heap.size = w.heap.size + 2) := Lib.hid (by rw [← hW1, ← hW]; simp)
  have RP := Lib.hid (lw_rep S L l a b n c m d (at_ : Int) (at_ : Int) (at_ : Int) at_ at_ W1 hn hm hl (by unfold btF plc; omega) (by unfold btT plc; omega) (hs.below B1) (hs2.below B1))
  have zz := fun i => cell_of_row _ _ i _ _ _ q1
  have z0 := zz 0; have z1 := zz 1
  dsimp at z0 z1
  have R1 := Lib.hid r1
  clear hs hs2 q0 q1 r1 zz B0
  go_enter Tryd.func26, Tryd.ntmps26
  go_upto_region 1 with fail
  clear hW
  go_wp2_with (go_at_call 81; refine RP.out.mono ?_; rintro e w2 ⟨bx, dx, rfl, ho, hb⟩; have O2 := Lib.hid ho; have N2 := Lib.hid (seqB B1 hb); have R2 := Lib.hid (blk_below R1.out hb); have yf2 := fun i => frozen_of_row _ W.heap.size i _ _ R2.out; have yy := fun i => cell_of_row _ _ i _ _ _ R2.out; have y0 := yy 0; have y1 := yy 1; dsimp at y0 y1; clear ho hb yy)
  clear z0 z1 y0 y1 yf2
  generalize hWF : World.setCell _ _ _ = WF
  obtain ⟨_, g0, g1, gO, gB⟩ := ln_fin R2.out O2.out N2.out (by have := hsW.out; omega) hWF
  refine bodyPost_ret (v := .agg #[.slice bx (at_ + m + (n - at_)) dx, .int .i64 ((at_ : Int) + (m : Int))]) (by simp [results, Tryd.results26, go_sem, g0, g1]) rfl ?_
  exact ⟨bx, dx, rfl, gO.mono (by have := hsW.out; omega), gB⟩
end Go.Proofs.YtdnmjofenckndaaDoor
set_option linter.unusedVariables false
set_option linter.unusedSimpArgs false
namespace Go.Proofs.YtdnmjofenckndaaDoor
open Go.RowKit Go.Sort
/-- A sign of an owned row is written. -/
theorem ows_put {w : World} {B g n d : Nat} {L : List (Int × Int)} (h : OwS w B (.slice (some ⟨g, 0, none⟩) n d) L) (hn : L.length = n) (k : Nat) (hk : k < n) (p : Int × Int) :
    OwS ((w.setCell ⟨g, k * 2, none⟩ (.int .i64 p.1)).setCell ⟨g, k * 2 + 1, none⟩ (.int .i64 p.2)) B (.slice (some ⟨g, 0, none⟩) n d) (L.set k p) := by
  subst hn
  unfold OwS at h ⊢
  have h2 := (World.ownsRow.stored (World.ownsRow.stored h (k * 2) (.int .i64 p.1)).1 (k * 2 + 1) (.int .i64 p.2)).1
  rw [List.length_set]
  have e := sRow_set L k p hk
  rw [← e, Array.toList_setIfInBounds, Array.toList_setIfInBounds]
  exact h2
theorem ows_cells {w : World} {B g n d : Nat} {L : List (Int × Int)} (h : OwS w B (.slice (some ⟨g, 0, none⟩) n d) L) (hn : L.length = n) (k : Nat) (hk : k < n) :
    w.cell? ⟨g, k * 2, none⟩ = some (.int .i64 (L.getD k (0, 0)).1) ∧ w.cell? ⟨g, k * 2 + 1, none⟩ = some (.int .i64 (L.getD k (0, 0)).2) := by
  subst hn
  unfold OwS at h
  have e := sRow_at L k hk
  exact ⟨by rw [h.cellAt _ (by omega)]; exact e.1, by rw [h.cellAt _ (by omega)]; exact e.2⟩
theorem ows_pos {w : World} {B n d : Nat} {b : Option Addr} {L : List (Int × Int)} (h : OwS w B (.slice b n d) L) (hp : 0 < n) : ∃ g, b = some ⟨g, 0, none⟩ ∧ B ≤ g ∧ g < w.heap.size := by
  unfold OwS at h
  rcases h.2 with ⟨e, h0⟩ | ⟨g, cap, cur, e, hB, hg, _⟩
  · injection e with e1 e2 e3; omega
  · injection e with e1 e2 e3
    exact ⟨g, e1, hB, blk_lt hg⟩
def swI (n at_ : Nat) : Nat := min at_ (n - 1)
def swM (L : List (Int × Int)) (at_ : Nat) : List (Int × Int) := L.take (swI L.length at_ - 1) ++ [L.getD (swI L.length at_) (0, 0), L.getD (swI L.length at_ - 1) (0, 0)] ++ L.drop (swI L.length at_ + 1)
theorem sw_set (L : List (Int × Int)) (i : Nat) (h0 : 0 < i) (hi : i < L.length) : (L.set (i - 1) (L.getD i (0, 0))).set i (L.getD (i - 1) (0, 0)) = L.take (i - 1) ++ [L.getD i (0, 0), L.getD (i - 1) (0, 0)] ++ L.drop (i + 1) := by
  obtain ⟨k, rfl⟩ : ∃ k, i = k + 1 := ⟨i - 1, by omega⟩
  rw [Nat.add_sub_cancel]
  apply List.ext_getElem
  · simp; omega
  · intro j h1 h2
    simp only [List.length_set] at h1
    rw [List.getElem_set, List.getElem_set]
    by_cases e1 : k + 1 = j
    · subst e1
      rw [if_pos rfl, List.getElem_append_left (by simp; omega), List.getElem_append_right (by simp; omega)]
      simp only [List.length_take, Nat.min_eq_left (show k ≤ L.length by omega), show k + 1 - k = 1 by omega, List.getElem_cons_succ, List.getElem_cons_zero]
    · rw [if_neg e1]
      by_cases e2 : k = j
      · subst e2
        rw [if_pos rfl, List.getElem_append_left (by simp; omega), List.getElem_append_right (by simp; omega)]
        simp only [List.length_take, Nat.min_eq_left (show k ≤ L.length by omega), Nat.sub_self, List.getElem_cons_zero]
      · rw [if_neg e2]
        by_cases e3 : j < k
        · rw [List.getElem_append_left (by simp; omega), List.getElem_append_left (by simp; omega), List.getElem_take]
        · rw [List.getElem_append_right (by simp; omega), List.getElem_drop]
          congr 1
          simp; omega
theorem swM_len (L : List (Int × Int)) (at_ : Nat) (h0 : 0 < at_) (h2 : 2 ≤ L.length) : (swM L at_).length = L.length := by
  unfold swM swI; simp; omega
set_option maxHeartbeats 4000000 in
theorem lw_swap_no (S : Nat → Prop) (L : List (Int × Int)) (a : Option Addr) (n c at_ : Nat) (w : World) (hn : L.length = n) (hl : n ≤ 90000) (hat : at_ ≤ n) (hno : at_ = 0 ∨ n < 2) (hs : SlS S w a L c) :
    Calls Tryd.prog 17 #[.agg #[.slice a n c, .int .i64 (at_ : Int)]] w fun e w' => ∃ ad d', e = .returned (.tuple #[.agg #[.slice ad n d', .int .i64 (at_ : Int)], .bool false]) ∧ OwS w' w.heap.size (.slice ad n d') L ∧ Below w.heap.size w w' := by
  have B0 := below_alloc w (.cells #[.slice a n c, .int .i64 (at_ : Int)] 24)
  have q0 := heap_alloc_new w (.cells #[.slice a n c, .int .i64 (at_ : Int)] 24)
  obtain ⟨W, hW⟩ : ∃ W, w.alloc (.cells #[.slice a n c, .int .i64 (at_ : Int)] 24) = W := ⟨_, rfl⟩
  rw [hW] at B0 q0
  have B1 := seqB B0 (below_alloc W (.cells #[.slice none 0 0, .int .i64 0] 24))
  have q1 := blk_below q0 (below_alloc W (.cells #[.slice none 0 0, .int .i64 0] 24))
  have r1 := heap_alloc_new W (.cells #[.slice none 0 0, .int .i64 0] 24)
  obtain ⟨W1, hW1⟩ : ∃ W1, W.alloc (.cells #[.slice none 0 0, .int .i64 0] 24) = W1 := ⟨_, rfl⟩
  rw [hW1] at B1 q1 r1
  have hsW : Hid (W.heap.size = w.heap.size + 1 ∧ W1.heap.size = w.heap.size + 2) := Lib.hid (by rw [← hW1, ← hW]; simp)
  have OW := Lib.hid (lw_own S L a n c (at_ : Int) W1 hn hl (hs.below B1))
  have zz := fun i => cell_of_row _ _ i _ _ _ q1
  have z0 := zz 0; have z1 := zz 1
  dsimp at z0 z1
  have R1 := Lib.hid r1
  have Q1 := Lib.hid q1
  clear hs q0 q1 r1 zz B0
  go_enter Tryd.func17, Tryd.ntmps17
  go_upto_region 1 with fail
  clear hW
  go_upto_region 2 with (go_at_call 82; refine OW.out.mono ?_; rintro e w2 ⟨bx, dx, rfl, ho, hb⟩; have O2 := Lib.hid ho; have N2 := Lib.hid (seqB B1 hb); have R2 := Lib.hid (blk_below R1.out hb); have Q2 := Lib.hid (blk_below Q1.out hb); clear ho hb OW z0 z1)
  obtain ⟨w3, hw3⟩ : ∃ w3, w2.alloc (.cells #[.slice bx n dx, .int .i64 (at_ : Int)] 24) = w3 := ⟨_, rfl⟩
  have A3 := below_alloc w2 (.cells #[.slice bx n dx, .int .i64 (at_ : Int)] 24)
  have X3 := heap_alloc_new w2 (.cells #[.slice bx n dx, .int .i64 (at_ : Int)] 24)
  rw [hw3] at A3 X3
  rw [hw3]
  have N3 := Lib.hid (seqB N2.out A3)
  have O3 := Lib.hid (ows_keep O2.out A3)
  have hX := Lib.hid N2.out.size
  have yy := fun i => cell_of_row _ _ i _ _ _ (blk_below Q2.out A3)
  have e0 := yy 0; have e1 := yy 1
  dsimp at e0 e1
  have G0 := fun d os => cell_regrown e0 d os
  have G1 := fun d os => cell_regrown e1 d os
  have WI := Lib.hid fun d os => (lw_in a n c (at_ : Int) (at_ : Int) (grow (redrawn w3 d) os)).regrown_of
  have hpl : plc n (at_ : Int) = (at_ : Int) := by unfold plc; omega
  rw [hpl] at WI
  have X3' := Lib.hid X3
  have R3 := Lib.hid (blk_below R2.out A3)
  clear yy e0 e1 A3 X3 hw3 hpl N2 O2 R2 Q2
  refine wp_region_quiet_below (by kernel_rfl) (by kernel_rfl) ?_
  repeat (any_goals (go_big_quiet_step (first | (go_at_call 83; exact WI.out _ _))))
  refine wpQuiet_nil ?_
  intro _ hw'
  obtain ⟨⟨dq, osq⟩, hw''⟩ := hw'
  subst hw''
  have b4 := below_regrown w3 dq osq
  have N4 := Lib.hid (seqB N3.out b4)
  have O4 := Lib.hid (ows_keep O3.out b4)
  have X4 := blk_below X3'.out b4
  have R4 := Lib.hid (blk_below R3.out b4)
  have yy := fun i => cell_of_row _ _ i _ _ _ X4
  have x0 := yy 0; have x1 := yy 1
  dsimp at x0 x1
  have yf4 := fun i => frozen_of_row _ W.heap.size i _ _ R4.out
  have rr := fun i => cell_of_row _ _ i _ _ _ R4.out
  have y0 := rr 0; have y1 := rr 1
  dsimp at y0 y1
  clear G0 G1 yy rr b4 X4 N3 O3 R3 X3' WI
  generalize grow (redrawn w3 dq) osq = w4 at *
  by_cases h0 : at_ = 0
  · subst h0
    clear hno
    go_wp2_with fail
    generalize hWF : World.setCell _ _ _ = WF
    obtain ⟨_, g0, g1, gO, gB⟩ := ln_fin R4.out O4.out N4.out (by have := hsW.out; omega) hWF
    refine bodyPost_ret (v := .tuple #[.agg #[.slice bx n dx, .int .i64 ((0 : Nat) : Int)], .bool false]) (by simp [results, Tryd.results17, go_sem, g0, g1]) rfl ?_
    exact ⟨bx, dx, rfl, gO.mono (by have := hsW.out; omega), gB⟩
  · have h1 : ¬ (at_ : Int) = 0 := by omega
    have h2 : (n : Int) < 2 := by omega
    clear hno
    go_wp2_with fail
    generalize hWF : World.setCell _ _ _ = WF
    obtain ⟨_, g0, g1, gO, gB⟩ := ln_fin R4.out O4.out N4.out (by have := hsW.out; omega) hWF
    refine bodyPost_ret (v := .tuple #[.agg #[.slice bx n dx, .int .i64 (at_ : Int)], .bool false]) (by simp [results, Tryd.results17, go_sem, g0, g1]) rfl ?_
    exact ⟨bx, dx, rfl, gO.mono (by have := hsW.out; omega), gB⟩
end Go.Proofs.YtdnmjofenckndaaDoor
set_option linter.unusedVariables false
set_option linter.unusedSimpArgs false
namespace Go.Proofs.YtdnmjofenckndaaDoor
open Go.RowKit Go.Sort
def cutAt (f t p : Nat) : Nat := if t < p then p - (t - f) else if f < p then f else p
set_option maxHeartbeats 8000000 in
theorem lw_cut (S : Nat → Prop) (L : List (Int × Int)) (a : Option Addr) (n c p : Nat) (i j : Int) (f t : Nat) (w : World) (hn : L.length = n) (hl : n ≤ 90000) (hp : p ≤ n) (hf : btF n i j = f) (ht : btT n i j = t) (hs : SlS S w a L c) :
    Calls Tryd.prog 23 #[.agg #[.slice a n c, .int .i64 (p : Int)], .int .i64 i, .int .i64 j] w fun e w' => ∃ b d b2 d2, e = .returned (.tuple #[.agg #[.slice b (f + (n - t)) d, .int .i64 (cutAt f t p : Int)], .slice b2 (t - f) d2]) ∧ OwS w' w.heap.size (.slice b (f + (n - t)) d) (L.take f ++ L.drop t) ∧ OwS w' w.heap.size (.slice b2 (t - f) d2) ((L.drop f).take (t - f)) ∧ Below w.heap.size w w' := by
  have hbt := bt_le n i j
  rw [hf, ht] at hbt
  obtain ⟨hft, htn⟩ := hbt
  have hle := hs.le
  rw [hn] at hle
  have B0 := below_alloc w (.cells #[.slice a n c, .int .i64 (p : Int)] 24)
  obtain ⟨W, hW⟩ : ∃ W, w.alloc (.cells #[.slice a n c, .int .i64 (p : Int)] 24) = W := ⟨_, rfl⟩
  rw [hW] at B0
  have q0 : W.heap[w.heap.size]? = some (.cells #[.slice a n c, .int .i64 (p : Int)] 24 (0, 0)) := by rw [← hW]; exact heap_alloc_new _ _
  have B1 := seqB B0 (below_alloc W (.cells #[.slice none 0 0, .int .i64 0] 24))
  have q1 := blk_below q0 (below_alloc W (.cells #[.slice none 0 0, .int .i64 0] 24))
  have r1 := heap_alloc_new W (.cells #[.slice none 0 0, .int .i64 0] 24)
  obtain ⟨W1, hW1⟩ : ∃ W1, W.alloc (.cells #[.slice none 0 0, .int .i64 0] 24) = W1 := ⟨_, rfl⟩
  rw [hW1] at B1 q1 r1
  have hsW : Hid (W.heap.size = w.heap.size + 1 ∧ W1.heap.size = w.heap.size + 2) := Lib.hid (by rw [← hW1, ← hW]; simp)
  have BT := Lib.hid (lw_btw a n c (p : Int) i j f t hf ht W1)
  have WI := Lib.hid fun w => lw_in a n c (p : Int) (p : Int) w
  rw [show plc n (p : Int) = p by unfold plc; omega] at WI
  have zz := fun i => cell_of_row _ _ i _ _ _ q1
  have z0 := zz 0; have z1 := zz 1
  dsimp at z0 z1
  have R1 := Lib.hid r1
  have Q1 := Lib.hid q1
  obtain ⟨Aa, hAa⟩ : ∃ x : Option Addr, (if c = 0 then a else a.map (·.add (0 * 2))) = x := ⟨_, rfl⟩
  have sla : SlS S w Aa (L.take f) c ∧ (L.take f).length = f := by
    have h := hs.sub 0 f (Nat.zero_le _) (by omega)
    rw [hAa, List.drop_zero, Nat.sub_zero, Nat.sub_zero] at h
    exact h
  have hcuta : ∀ w : World, (Instr.slice 22 (.slice a n c) none (some (.int .i64 (f : Int))) none).run Tryd.prog w = .ok (.slice Aa f c) w := fun w => by
    rw [run_cutH w a n c f (by omega), hAa]
  obtain ⟨Ab, hAb⟩ : ∃ x : Option Addr, (if c = t then a else a.map (·.add (t * 2))) = x := ⟨_, rfl⟩
  have slb : SlS S w Ab (L.drop t) (c - t) ∧ (L.drop t).length = n - t := by
    have h := hs.sub t L.length (by omega) (Nat.le_refl _)
    rw [hAb, List.take_of_length_le (by rw [List.length_drop]; omega)] at h
    exact ⟨h.1, by rw [List.length_drop, hn]⟩
  have hcutb : ∀ w : World, (Instr.slice 22 (.slice a n c) (some (.int .i64 (t : Int))) none none).run Tryd.prog w = .ok (.slice Ab (n - t) (c - t)) w := fun w => by
    rw [run_cutL w a n c t (by omega), hAb]
  obtain ⟨Ac, hAc⟩ : ∃ x : Option Addr, (if c = f then a else a.map (·.add (f * 2))) = x := ⟨_, rfl⟩
  have slc : SlS S w Ac ((L.drop f).take (t - f)) (c - f) ∧ ((L.drop f).take (t - f)).length = t - f := by
    have h := hs.sub f t (by omega) (by omega)
    rw [hAc] at h
    exact h
  have hcutc : ∀ w : World, (Instr.slice 22 (.slice a n c) (some (.int .i64 (f : Int))) (some (.int .i64 (t : Int))) none).run Tryd.prog w = .ok (.slice Ac (t - f) (c - f)) w := fun w => by
    rw [run_cutLH w a n c f t (by omega) (by omega), hAc]
  have CC := Lib.hid fun (w' : World) (hb : Below w.heap.size w w') => concat2 ⟨Aa, L.take f, c⟩ ⟨Ab, L.drop t, c - t⟩ f (n - t) (f + (n - t)) S w' sla.2 slb.2 rfl (by omega) (sla.1.below hb) (slb.1.below hb)
  have CL := Lib.hid fun (w' : World) (hb : Below w.heap.size w w') => clone_sg ((L.drop f).take (t - f)) Ac (t - f) (c - f) S w' slc.2 (by omega) (slc.1.below hb)
  obtain ⟨k, hk⟩ : ∃ k, cutAt f t p = k := ⟨_, rfl⟩
  have hkk : k = if t < p then p - (t - f) else if f < p then f else p := hk.symm
  rw [hk]
  have hw1 : IntKind.i64.wrap ((t : Int) - (f : Int)) = (t : Int) - (f : Int) := by rw [IntKind.wrap_i64]; omega
  have hw3 : IntKind.i64.wrap ((p : Int) - ((t : Int) - (f : Int))) = (p : Int) - ((t : Int) - (f : Int)) := by rw [IntKind.wrap_i64]; omega
  clear hAa hAb hAc sla slb slc hs zz q0 q1 r1 B0 hf ht hk
  go_enter Tryd.func23, Tryd.ntmps23
  go_upto_region 1 with fail
  clear hW
  have hWne : Hid (W.heap.size ≠ w.heap.size) := Lib.hid (by have := hsW.out; omega)
  go_upto_region 3 with (first
    | (go_at_call 91; refine BT.out.mono ?_; rintro e w2 ⟨rfl, hb⟩; have N2 := Lib.hid (seqB B1 hb); have Q2 := Lib.hid (blk_below Q1.out hb); have R2 := Lib.hid (blk_below R1.out hb); have z02 := (hb.cell (p := ⟨w.heap.size, 0, none⟩) (blk_lt Q1.out)).trans z0; have z12 := (hb.cell (p := ⟨w.heap.size, 1, none⟩) (blk_lt Q1.out)).trans z1; clear hb BT z0 z1 R1 Q1)
    | (go_at_call 83; refine (WI.out _).mono ?_; rintro e w3 ⟨rfl, hb⟩; have N3 := Lib.hid (seqB N2.out hb); have Q3 := Lib.hid (blk_below Q2.out hb); have R3 := Lib.hid (blk_below R2.out hb); have z03 := (hb.cell (p := ⟨w.heap.size, 0, none⟩) (blk_lt Q2.out)).trans z02; have z13 := (hb.cell (p := ⟨w.heap.size, 1, none⟩) (blk_lt Q2.out)).trans z12; clear hb WI z02 z12 N2 Q2 R2))
  by_cases h1 : t < p
  · rw [if_pos h1] at hkk
    have e1 : (t : Int) < p := by omega
    have hq : (p : Int) - ((t : Int) - (f : Int)) = (k : Int) := by omega
    clear hkk
    go_upto_region 7 with fail
    have CC2 := Lib.hid (CC.out w3.drew N3.out.drew)
    have hH3 : Hid (w.heap.size < w3.drew.heap.size) := Lib.hid (blk_lt Q3.out)
    clear CC
    go_region_held3 (fun w' => w'.cell? ⟨w.heap.size, 0, none⟩ = some (.slice a n c) ∧ w'.cell? ⟨w.heap.size, 1, none⟩ = some (.int .i64 (p : Int))) (first | exact ⟨z03, z13⟩ | exact ⟨z04, z14⟩ | exact ⟨z05, z15⟩ | exact ⟨(World.cell?_alloc_lt _ _ _ hH3.out).trans z03, (World.cell?_alloc_lt _ _ _ hH3.out).trans z13⟩ | exact ⟨(farL hWne.out).trans z05, (farL hWne.out).trans z15⟩ | go_keep)
      (first
        | (go_at_call 87; refine CC2.out.mono ?_; rintro e w4 ⟨bx, dx, rfl, ho, hb⟩; have D4 := (Below.refl w3.heap.size w3).drew.trans hb; have O4 := Lib.hid (ho.mono (show w.heap.size ≤ w3.drew.heap.size from Nat.le_of_lt hH3.out)); have N4 := Lib.hid (seqB N3.out D4); have Q4 := Lib.hid (blk_below Q3.out D4); have z04 := (hb.cell (p := ⟨w.heap.size, 0, none⟩) hH3.out).trans z03; have z14 := (hb.cell (p := ⟨w.heap.size, 1, none⟩) hH3.out).trans z13; have R4 := Lib.hid (blk_below R3.out D4); clear ho hb D4)
        | (go_at_call 92; refine (CL.out _ N4.out).mono ?_; rintro e w5 ⟨by_, dy, rfl, ho, hb⟩; have P5 := Lib.hid (ho.mono N4.out.size); have O5 := Lib.hid (ows_keep O4.out hb); have N5 := Lib.hid (seqB N4.out hb); have z05 := (hb.cell (p := ⟨w.heap.size, 0, none⟩) (blk_lt Q4.out)).trans z04; have z15 := (hb.cell (p := ⟨w.heap.size, 1, none⟩) (blk_lt Q4.out)).trans z14; have R5 := Lib.hid (blk_below R4.out hb); have yf := fun i => frozen_of_row _ W.heap.size i _ _ R5.out; have yy := fun i => cell_of_row _ _ i _ _ _ R5.out; have y0 := yy 0; have y1 := yy 1; dsimp at y0 y1; clear ho hb yy))
    go_wp2_with fail
    clear y0 y1 yf
    generalize hWF : World.setCell _ _ _ = WF
    obtain ⟨hq, g0, g1, gO, gB⟩ := ln_fin R5.out O5.out N5.out (by have := hsW.out; omega) hWF
    have gP : OwS WF w.heap.size (.slice by_ (t - f) dy) ((L.drop f).take (t - f)) := by
      rw [← hWF]; unfold OwS
      exact own_set (own_set P5.out (own_ne_kind P5.out R5.out (by decide)) _) (own_ne_kind P5.out R5.out (by decide)) _
    refine bodyPost_ret (v := .tuple #[.agg #[.slice bx (f + (n - t)) dx, .int .i64 (k : Int)], .slice by_ (t - f) dy]) (by simp [results, Tryd.results23, go_sem, g0, g1]) rfl ?_
    exact ⟨bx, dx, by_, dy, rfl, gO, gP, gB⟩
  rw [if_neg h1] at hkk
  have e1 : ¬ (t : Int) < p := by omega
  by_cases h2 : f < p
  · rw [if_pos h2] at hkk
    have e2 : (f : Int) < p := by omega
    have hk2 := hkk.symm
    clear hkk
    subst hk2
    go_upto_region 7 with fail
    have CC2 := Lib.hid (CC.out w3.drew N3.out.drew)
    have hH3 : Hid (w.heap.size < w3.drew.heap.size) := Lib.hid (blk_lt Q3.out)
    clear CC
    go_region_held3 (fun w' => w'.cell? ⟨w.heap.size, 0, none⟩ = some (.slice a n c) ∧ w'.cell? ⟨w.heap.size, 1, none⟩ = some (.int .i64 (p : Int))) (first | exact ⟨z03, z13⟩ | exact ⟨z04, z14⟩ | exact ⟨z05, z15⟩ | exact ⟨(World.cell?_alloc_lt _ _ _ hH3.out).trans z03, (World.cell?_alloc_lt _ _ _ hH3.out).trans z13⟩ | exact ⟨(farL hWne.out).trans z05, (farL hWne.out).trans z15⟩ | go_keep)
      (first
        | (go_at_call 87; refine CC2.out.mono ?_; rintro e w4 ⟨bx, dx, rfl, ho, hb⟩; have D4 := (Below.refl w3.heap.size w3).drew.trans hb; have O4 := Lib.hid (ho.mono (show w.heap.size ≤ w3.drew.heap.size from Nat.le_of_lt hH3.out)); have N4 := Lib.hid (seqB N3.out D4); have Q4 := Lib.hid (blk_below Q3.out D4); have z04 := (hb.cell (p := ⟨w.heap.size, 0, none⟩) hH3.out).trans z03; have z14 := (hb.cell (p := ⟨w.heap.size, 1, none⟩) hH3.out).trans z13; have R4 := Lib.hid (blk_below R3.out D4); clear ho hb D4)
        | (go_at_call 92; refine (CL.out _ N4.out).mono ?_; rintro e w5 ⟨by_, dy, rfl, ho, hb⟩; have P5 := Lib.hid (ho.mono N4.out.size); have O5 := Lib.hid (ows_keep O4.out hb); have N5 := Lib.hid (seqB N4.out hb); have z05 := (hb.cell (p := ⟨w.heap.size, 0, none⟩) (blk_lt Q4.out)).trans z04; have z15 := (hb.cell (p := ⟨w.heap.size, 1, none⟩) (blk_lt Q4.out)).trans z14; have R5 := Lib.hid (blk_below R4.out hb); have yf := fun i => frozen_of_row _ W.heap.size i _ _ R5.out; have yy := fun i => cell_of_row _ _ i _ _ _ R5.out; have y0 := yy 0; have y1 := yy 1; dsimp at y0 y1; clear ho hb yy))
    go_wp2_with fail
    clear y0 y1 yf
    generalize hWF : World.setCell _ _ _ = WF
    obtain ⟨hq, g0, g1, gO, gB⟩ := ln_fin R5.out O5.out N5.out (by have := hsW.out; omega) hWF
    have gP : OwS WF w.heap.size (.slice by_ (t - f) dy) ((L.drop f).take (t - f)) := by
      rw [← hWF]; unfold OwS
      exact own_set (own_set P5.out (own_ne_kind P5.out R5.out (by decide)) _) (own_ne_kind P5.out R5.out (by decide)) _
    refine bodyPost_ret (v := .tuple #[.agg #[.slice bx (f + (n - t)) dx, .int .i64 (f : Int)], .slice by_ (t - f) dy]) (by simp [results, Tryd.results23, go_sem, g0, g1]) rfl ?_
    exact ⟨bx, dx, by_, dy, rfl, gO, gP, gB⟩
  · rw [if_neg h2] at hkk
    have e2 : ¬ (f : Int) < p := by omega
    have hk2 := hkk.symm
    clear hkk
    subst hk2
    go_upto_region 7 with fail
    have CC2 := Lib.hid (CC.out w3.drew N3.out.drew)
    have hH3 : Hid (w.heap.size < w3.drew.heap.size) := Lib.hid (blk_lt Q3.out)
    clear CC
    go_region_held3 (fun w' => w'.cell? ⟨w.heap.size, 0, none⟩ = some (.slice a n c) ∧ w'.cell? ⟨w.heap.size, 1, none⟩ = some (.int .i64 (p : Int))) (first | exact ⟨z03, z13⟩ | exact ⟨z04, z14⟩ | exact ⟨z05, z15⟩ | exact ⟨(World.cell?_alloc_lt _ _ _ hH3.out).trans z03, (World.cell?_alloc_lt _ _ _ hH3.out).trans z13⟩ | exact ⟨(farL hWne.out).trans z05, (farL hWne.out).trans z15⟩ | go_keep)
      (first
        | (go_at_call 87; refine CC2.out.mono ?_; rintro e w4 ⟨bx, dx, rfl, ho, hb⟩; have D4 := (Below.refl w3.heap.size w3).drew.trans hb; have O4 := Lib.hid (ho.mono (show w.heap.size ≤ w3.drew.heap.size from Nat.le_of_lt hH3.out)); have N4 := Lib.hid (seqB N3.out D4); have Q4 := Lib.hid (blk_below Q3.out D4); have z04 := (hb.cell (p := ⟨w.heap.size, 0, none⟩) hH3.out).trans z03; have z14 := (hb.cell (p := ⟨w.heap.size, 1, none⟩) hH3.out).trans z13; have R4 := Lib.hid (blk_below R3.out D4); clear ho hb D4)
        | (go_at_call 92; refine (CL.out _ N4.out).mono ?_; rintro e w5 ⟨by_, dy, rfl, ho, hb⟩; have P5 := Lib.hid (ho.mono N4.out.size); have O5 := Lib.hid (ows_keep O4.out hb); have N5 := Lib.hid (seqB N4.out hb); have z05 := (hb.cell (p := ⟨w.heap.size, 0, none⟩) (blk_lt Q4.out)).trans z04; have z15 := (hb.cell (p := ⟨w.heap.size, 1, none⟩) (blk_lt Q4.out)).trans z14; have R5 := Lib.hid (blk_below R4.out hb); have yf := fun i => frozen_of_row _ W.heap.size i _ _ R5.out; have yy := fun i => cell_of_row _ _ i _ _ _ R5.out; have y0 := yy 0; have y1 := yy 1; dsimp at y0 y1; clear ho hb yy))
    go_wp2_with fail
    clear y0 y1 yf
    generalize hWF : World.setCell _ _ _ = WF
    obtain ⟨hq, g0, g1, gO, gB⟩ := ln_fin R5.out O5.out N5.out (by have := hsW.out; omega) hWF
    have gP : OwS WF w.heap.size (.slice by_ (t - f) dy) ((L.drop f).take (t - f)) := by
      rw [← hWF]; unfold OwS
      exact own_set (own_set P5.out (own_ne_kind P5.out R5.out (by decide)) _) (own_ne_kind P5.out R5.out (by decide)) _
    refine bodyPost_ret (v := .tuple #[.agg #[.slice bx (f + (n - t)) dx, .int .i64 (p : Int)], .slice by_ (t - f) dy]) (by simp [results, Tryd.results23, go_sem, g0, g1]) rfl ?_
    exact ⟨bx, dx, by_, dy, rfl, gO, gP, gB⟩
end Go.Proofs.YtdnmjofenckndaaDoor
set_option linter.unusedVariables false
set_option linter.unusedSimpArgs false
namespace Go.Proofs.YtdnmjofenckndaaDoor
open Go.RowKit Go.Sort
set_option maxHeartbeats 4000000 in
theorem lw_swap_yes (S : Nat → Prop) (L : List (Int × Int)) (a : Option Addr) (n c at_ : Nat) (w : World) (hn : L.length = n) (hl : n ≤ 90000) (hat : at_ ≤ n) (hy1 : 0 < at_) (hy2 : 2 ≤ n) (hs : SlS S w a L c) :
    Calls Tryd.prog 17 #[.agg #[.slice a n c, .int .i64 (at_ : Int)]] w fun e w' => ∃ ad d', e = .returned (.tuple #[.agg #[.slice ad n d', .int .i64 ((swI n at_ : Nat) + 1 : Int)], .bool true]) ∧ OwS w' w.heap.size (.slice ad n d') (swM L at_) ∧ Below w.heap.size w w' := by
  have B0 := below_alloc w (.cells #[.slice a n c, .int .i64 (at_ : Int)] 24)
  have q0 := heap_alloc_new w (.cells #[.slice a n c, .int .i64 (at_ : Int)] 24)
  obtain ⟨W, hW⟩ : ∃ W, w.alloc (.cells #[.slice a n c, .int .i64 (at_ : Int)] 24) = W := ⟨_, rfl⟩
  rw [hW] at B0 q0
  have B1 := seqB B0 (below_alloc W (.cells #[.slice none 0 0, .int .i64 0] 24))
  have q1 := blk_below q0 (below_alloc W (.cells #[.slice none 0 0, .int .i64 0] 24))
  have r1 := heap_alloc_new W (.cells #[.slice none 0 0, .int .i64 0] 24)
  obtain ⟨W1, hW1⟩ : ∃ W1, W.alloc (.cells #[.slice none 0 0, .int .i64 0] 24) = W1 := ⟨_, rfl⟩
  rw [hW1] at B1 q1 r1
  have hsW : Hid (W.heap.size = w.heap.size + 1 ∧ W1.heap.size = w.heap.size + 2) := Lib.hid (by rw [← hW1, ← hW]; simp)
  have OW := Lib.hid (lw_own S L a n c (at_ : Int) W1 hn hl (hs.below B1))
  have zz := fun i => cell_of_row _ _ i _ _ _ q1
  have z0 := zz 0; have z1 := zz 1
  dsimp at z0 z1
  have R1 := Lib.hid r1
  have Q1 := Lib.hid q1
  clear hs q0 q1 r1 zz B0
  go_enter Tryd.func17, Tryd.ntmps17
  go_upto_region 1 with fail
  clear hW
  go_upto_region 2 with (go_at_call 82; refine OW.out.mono ?_; rintro e w2 ⟨bx, dx, rfl, ho, hb⟩; have O2 := Lib.hid ho; have N2 := Lib.hid (seqB B1 hb); have R2 := Lib.hid (blk_below R1.out hb); have Q2 := Lib.hid (blk_below Q1.out hb); clear ho hb OW z0 z1)
  obtain ⟨g, rfl, hg1, hg2⟩ := ows_pos O2.out (by omega)
  have HG := Lib.hid (And.intro hg1 hg2)
  clear hg1 hg2
  obtain ⟨w3, hw3⟩ : ∃ w3, w2.alloc (.cells #[.slice (some ⟨g, 0, none⟩) n dx, .int .i64 (at_ : Int)] 24) = w3 := ⟨_, rfl⟩
  have A3 := below_alloc w2 (.cells #[.slice (some ⟨g, 0, none⟩) n dx, .int .i64 (at_ : Int)] 24)
  have X3 := heap_alloc_new w2 (.cells #[.slice (some ⟨g, 0, none⟩) n dx, .int .i64 (at_ : Int)] 24)
  rw [hw3] at A3 X3
  rw [hw3]
  have N3 := Lib.hid (seqB N2.out A3)
  have O3 := Lib.hid (ows_keep O2.out A3)
  have hX := Lib.hid N2.out.size
  have yy := fun i => cell_of_row _ _ i _ _ _ (blk_below Q2.out A3)
  have e0 := yy 0; have e1 := yy 1
  dsimp at e0 e1
  have G0 := fun d os => cell_regrown e0 d os
  have G1 := fun d os => cell_regrown e1 d os
  have WI := Lib.hid fun d os => (lw_in a n c (at_ : Int) (at_ : Int) (grow (redrawn w3 d) os)).regrown_of
  have hpl : plc n (at_ : Int) = (at_ : Int) := by unfold plc; omega
  rw [hpl] at WI
  have X3' := Lib.hid X3
  have R3 := Lib.hid (blk_below R2.out A3)
  clear yy e0 e1 A3 X3 hw3 hpl N2 O2 R2 Q2
  refine wp_region_quiet_below (by kernel_rfl) (by kernel_rfl) ?_
  repeat (any_goals (go_big_quiet_step (first | (go_at_call 83; exact WI.out _ _))))
  refine wpQuiet_nil ?_
  intro _ hw'
  obtain ⟨⟨dq, osq⟩, hw''⟩ := hw'
  subst hw''
  have b4 := below_regrown w3 dq osq
  have N4 := Lib.hid (seqB N3.out b4)
  have O4 := Lib.hid (ows_keep O3.out b4)
  have X4 := blk_below X3'.out b4
  have R4 := Lib.hid (blk_below R3.out b4)
  have yy := fun i => cell_of_row _ _ i _ _ _ X4
  have x0 := yy 0; have x1 := yy 1
  dsimp at x0 x1
  have X4' := Lib.hid X4
  have xf4 := fun i => frozen_of_row _ w2.heap.size i _ _ X4
  clear G0 G1 yy b4 X4 N3 O3 R3 X3' WI
  generalize grow (redrawn w3 dq) osq = w4 at *
  obtain ⟨i, hi⟩ : ∃ i, swI n at_ = i := ⟨_, rfl⟩
  have hi2 : i = min at_ (n - 1) := hi.symm
  have hmin : (if (at_ : Int) < (n : Int) - 1 then (at_ : Int) else (n : Int) - 1) = (i : Int) := by split <;> omega
  have hmin2 : (if (n : Int) - 1 < (at_ : Int) then (n : Int) - 1 else (at_ : Int)) = (i : Int) := by split <;> omega
  have hmin3 : min (at_ : Int) ((n : Int) - 1) = (i : Int) := by omega
  have hi0 : 0 < i := by omega
  have hin : i < n := by omega
  have h1 : ¬ (at_ : Int) = 0 := by omega
  have h2 : ¬ (n : Int) < 2 := by omega
  have HI := Lib.hid hi
  obtain ⟨k, hk⟩ : ∃ k : Nat, i = k + 1 := ⟨i - 1, by omega⟩
  have hik : (i : Int) - 1 = (k : Int) := by omega
  have hiw : IntKind.i64.wrap ((i : Int) - 1) = (k : Int) := by rw [IntKind.wrap_i64]; omega
  have hkw : IntKind.i64.wrap (k : Int) = (k : Int) := by rw [IntKind.wrap_i64]; omega
  have hne1 : ¬ g = w2.heap.size := by have := HG.out; omega
  have hne2 : ¬ w2.heap.size = g := by have := HG.out; omega
  have hk0 : (0 : Int) ≤ k := by omega
  have hkn : (k : Int) < n := by omega
  have hi0' : (0 : Int) ≤ i := by omega
  have hin' : (i : Int) < n := by omega
  have HK := Lib.hid (And.intro hk (And.intro hi0 hin))
  obtain ⟨c1, c2⟩ := ows_cells O4.out hn i hin
  obtain ⟨c3, c4⟩ := ows_cells O4.out hn k (by omega)
  have gf := fun j => World.ownsRow.frozenAt (show w4.ownsRow W1.heap.size 39 2 (.slice (some ⟨g, 0, none⟩) n dx) n (sRow L).toList by have h := O4.out; unfold OwS at h; rw [hn] at h; exact h) j
  obtain ⟨p, hp⟩ : ∃ p, L.getD i (0, 0) = p := ⟨_, rfl⟩
  obtain ⟨q, hq⟩ : ∃ q, L.getD k (0, 0) = q := ⟨_, rfl⟩
  rw [hp] at c1 c2; rw [hq] at c3 c4
  have HP := Lib.hid (And.intro hp hq)
  clear hi hi2 hy1 hk hp hq hi0 hin
  go_upto_region 6 with fail
  go_region
  have neR : W.heap.size ≠ g := by have := HG.out; have := hsW.out; omega
  have neX : w2.heap.size ≠ g := by have := HG.out; omega
  have neRX : W.heap.size ≠ w2.heap.size := by have := HG.out; have := hsW.out; omega
  have o1 := ows_put O4.out hn k (by have := HK.out; omega) p
  have o2 := ows_put o1 (by rw [List.length_set]; exact hn) i (by have := HK.out; omega) q
  have he : (L.set k p).set i q = swM L at_ := by
    have hs := sw_set L i (by have := HK.out; omega) (by have := HK.out; omega)
    have hki : i - 1 = k := by have := HK.out; omega
    unfold swM
    rw [hn, HI.out]
    rw [hki] at hs ⊢
    rw [HP.out.1, HP.out.2] at hs ⊢
    exact hs
  rw [he] at o2
  generalize hWS : World.drew _ = WS
  have OS : OwS WS W1.heap.size (.slice (some ⟨g, 0, none⟩) n dx) (swM L at_) := by rw [← hWS]; exact o2
  have XS : WS.heap[w2.heap.size]? = some (.cells #[.slice (some ⟨g, 0, none⟩) n dx, .int .i64 (at_ : Int)] 24 (0, 0)) := by
    rw [← hWS]
    show (World.setCell _ _ _).heap[w2.heap.size]? = _
    rw [Below.heap_setCell _ _ _ _ neX, Below.heap_setCell _ _ _ _ neX, Below.heap_setCell _ _ _ _ neX, Below.heap_setCell _ _ _ _ neX]
    exact X4'.out
  have RS : WS.heap[W.heap.size]? = some (.cells #[.slice none 0 0, .int .i64 0] 24 (0, 0)) := by
    rw [← hWS]
    show (World.setCell _ _ _).heap[W.heap.size]? = _
    rw [Below.heap_setCell _ _ _ _ neR, Below.heap_setCell _ _ _ _ neR, Below.heap_setCell _ _ _ _ neR, Below.heap_setCell _ _ _ _ neR]
    exact R4.out
  have hwg : w.heap.size ≤ g := by have := HG.out; have := hsW.out; omega
  have NS : Below w.heap.size w WS := by
    rw [← hWS]
    exact ((((N4.out.setCell (p := ⟨g, _, none⟩) hwg _).setCell (p := ⟨g, _, none⟩) hwg _).setCell (p := ⟨g, _, none⟩) hwg _).setCell (p := ⟨g, _, none⟩) hwg _).drew
  clear hWS o1 o2 he c1 c2 c3 c4 gf x0 x1 xf4 O4 X4' R4 N4
  have XS5 : (WS.setCell ⟨w2.heap.size, 1, none⟩ (.int .i64 ((i : Int) + 1))).heap[w2.heap.size]? = some (.cells #[.slice (some ⟨g, 0, none⟩) n dx, .int .i64 ((i : Int) + 1)] 24 (0, 0)) := blk_set XS 1 _
  have RS5 : (WS.setCell ⟨w2.heap.size, 1, none⟩ (.int .i64 ((i : Int) + 1))).heap[W.heap.size]? = some (.cells #[.slice none 0 0, .int .i64 0] 24 (0, 0)) := by
    rw [Below.heap_setCell _ _ _ _ neRX]; exact RS
  have OS5 : OwS (WS.setCell ⟨w2.heap.size, 1, none⟩ (.int .i64 ((i : Int) + 1))) W1.heap.size (.slice (some ⟨g, 0, none⟩) n dx) (swM L at_) := by
    unfold OwS; exact own_set OS (own_ne_kind OS XS (by decide)) _
  have NS5 : Below w.heap.size w (WS.setCell ⟨w2.heap.size, 1, none⟩ (.int .i64 ((i : Int) + 1))) := NS.setCell (p := ⟨w2.heap.size, 1, none⟩) hX.out _
  have yy := fun i => cell_of_row _ _ i _ _ _ XS
  have x0 := yy 0; have x1 := yy 1
  have xf := fun i => frozen_of_row _ w2.heap.size i _ _ XS
  dsimp at x0 x1
  have hi1 : IntKind.i64.wrap ((i : Int) + 1) = (i : Int) + 1 := by rw [IntKind.wrap_i64]; omega
  clear yy
  go_upto_region 8 with fail
  generalize hW5 : World.setCell WS _ _ = W5
  rw [hW5] at XS5 RS5 OS5 NS5
  clear hW5 x0 x1 xf
  have O5 := Lib.hid OS5; have N5 := Lib.hid NS5; have R5 := Lib.hid RS5
  have yy := fun i => cell_of_row _ _ i _ _ _ XS5
  have x0 := yy 0; have x1 := yy 1
  have rr := fun i => cell_of_row _ _ i _ _ _ RS5
  have y0 := rr 0; have y1 := rr 1
  have yf := fun i => frozen_of_row _ W.heap.size i _ _ RS5
  dsimp at x0 x1 y0 y1
  clear yy rr OS5 NS5 RS5 XS5 XS RS OS NS
  go_wp2_with fail
  clear x0 x1 y0 y1 yf
  generalize hWF : World.setCell _ _ _ = WF
  obtain ⟨_, g0, g1, gO, gB⟩ := ln_fin R5.out O5.out N5.out (by have := hsW.out; omega) hWF
  refine bodyPost_ret (v := .tuple #[.agg #[.slice (some ⟨g, 0, none⟩) n dx, .int .i64 ((i : Int) + 1)], .bool true]) (by simp [results, Tryd.results17, go_sem, g0, g1]) rfl ?_
  exact ⟨_, dx, by rw [HI.out], gO.mono (by have := hsW.out; omega), gB⟩
end Go.Proofs.YtdnmjofenckndaaDoor
set_option linter.unusedVariables false
set_option linter.unusedSimpArgs false
namespace Go.Proofs.YtdnmjofenckndaaDoor
open Go.RowKit Go.Sort
theorem next_n (L : List (Int × Int)) (a : Option Addr) (n c : Nat) (i : Int) (k : Nat) (w : World) (hn : L.length = n) (hl : n ≤ 90000) (hk : nextM L i = k) (hT : Tabs w) (hs : Signs w a L) :
    Calls Tryd.prog 85 #[.slice a n c, .int .i64 i] w fun e w' => e = .returned (.int .i64 (k : Int)) ∧ Below w.heap.size w w' := by
  subst hn; rw [← hk]; exact next_any L a c i w (by omega) hT hs
theorem back_n (L : List (Int × Int)) (a : Option Addr) (n c : Nat) (i : Int) (k : Nat) (w : World) (hn : L.length = n) (hl : n ≤ 90000) (hk : backM L i = k) (hT : Tabs w) (hs : Signs w a L) :
    Calls Tryd.prog 84 #[.slice a n c, .int .i64 i] w fun e w' => e = .returned (.int .i64 (k : Int)) ∧ Below w.heap.size w w' := by
  subst hn; rw [← hk]; exact back_any L a c i w (by omega) hT hs
theorem lw_wordAt (L : List (Int × Int)) (a : Option Addr) (n c k : Nat) (x : Int) (bb : Bool) (w : World) (hn : L.length = n) (hl : n ≤ 90000) (hk : k ≤ n) (hb : (kAt L false (k : Int) == 1) = bb) (hT : Tabs w) (hs : Signs w a L) :
    Calls Tryd.prog 86 #[.agg #[.slice a n c, .int .i64 x], .int .i64 (k : Int)] w fun e w' => e = .returned (.bool bb) ∧ Below w.heap.size w w' := by
  have B0 := below_alloc w (.cells #[.slice a n c, .int .i64 x] 24)
  by_cases hlt : k < n
  · obtain ⟨b, off, rfl, hbk, c1, _⟩ := hs k (by omega)
    have c1' := (B0.cell (p := ⟨b, off + k * 2, none⟩) hbk).trans c1
    have K := Lib.hid (kind_any (L.getD k (0, 0)).1 (w.alloc (.cells #[.slice (some ⟨b, off, none⟩) n c, .int .i64 x] 24)) (hT.below B0))
    have hkk : kAt L false (k : Int) = knd (L.getD k (0, 0)).1 := by
      unfold kAt; rw [if_neg (by omega), Int.toNat_natCast]; rfl
    rw [hkk] at hb
    generalize (L.getD k (0, 0)).1 = v at *
    generalize knd v = q at *
    have hk1 : (k : Int) < n := by omega
    have hk0 : (0 : Int) ≤ k := by omega
    clear hs hT hkk c1
    go_enter Tryd.func86, Tryd.ntmps86
    go_wp2_with (go_at_call 117; refine K.out.mono ?_; rintro e w1 ⟨rfl, b1⟩)
    go_ret
    exact ⟨by first | rw [hb] | simp [hb], seqB B0 b1⟩
  · have hk1 : ¬ (k : Int) < n := by omega
    have hkk : kAt L false (k : Int) = -1 := by unfold kAt; rw [if_pos (Or.inr (by omega))]
    rw [hkk] at hb
    subst hb
    clear hs hT hkk
    go_enter Tryd.func86, Tryd.ntmps86
    go_wp2_with fail
    go_ret
    exact ⟨rfl, B0⟩
def swpM (L : List (Int × Int)) (s1 e1 s2 e2 : Nat) : List (Int × Int) := L.take s1 ++ (L.drop s2).take (e2 - s2) ++ (L.drop e1).take (s2 - e1) ++ (L.drop s1).take (e1 - s1) ++ L.drop e2
/-- May the words change places? -/
def swpOk (s1 e1 s2 : Nat) (x1 x2 : Bool) : Prop := s1 < s2 ∧ e1 ≤ s2 ∧ x1 = true ∧ x2 = true
/-- The places of the two words. -/
structure Wds (L : List (Int × Int)) (at_ m s2 e2 s1 e1 : Nat) : Prop where
  hm : nextM L (at_ : Int) = m
  hs2 : backM L (m : Int) = s2
  he2 : nextM L (s2 : Int) = e2
  hs1 : backM L (s2 : Int) = s1
  he1 : nextM L (s1 : Int) = e1
theorem plc_nat (n k : Nat) (h : k ≤ n) : plc n (k : Int) = k := by unfold plc; omega
theorem wds_ex (L : List (Int × Int)) (at_ : Nat) : ∃ m s2 e2 s1 e1, Wds L at_ m s2 e2 s1 e1 ∧ s2 ≤ L.length ∧ e2 ≤ L.length ∧ s1 ≤ L.length ∧ e1 ≤ L.length ∧ s2 ≤ e2 ∧ s1 ≤ e1 := by
  have r1 := next_rng L at_
  have p1 : 0 ≤ plc L.length at_ := by unfold plc; omega
  obtain ⟨m, hm⟩ := Int.eq_ofNat_of_zero_le (show 0 ≤ nextM L at_ by omega)
  have r2 := back_rng L m
  have p2 := plc_cases L.length m
  obtain ⟨s2, hs2⟩ := Int.eq_ofNat_of_zero_le r2.1
  have q2 : s2 ≤ L.length := by obtain ⟨k, hk, hkl⟩ := p2; omega
  have r3 := next_rng L s2
  rw [plc_nat _ _ q2] at r3
  obtain ⟨e2, he2⟩ := Int.eq_ofNat_of_zero_le (show 0 ≤ nextM L s2 by omega)
  have r4 := back_rng L s2
  rw [plc_nat _ _ q2] at r4
  obtain ⟨s1, hs1⟩ := Int.eq_ofNat_of_zero_le r4.1
  have r5 := next_rng L s1
  rw [plc_nat _ s1 (by omega)] at r5
  obtain ⟨e1, he1⟩ := Int.eq_ofNat_of_zero_le (show 0 ≤ nextM L s1 by omega)
  exact ⟨m, s2, e2, s1, e1, ⟨hm, hs2, he2, hs1, he1⟩, q2, by omega, by omega, by omega, by omega, by omega⟩
set_option maxHeartbeats 8000000 in
theorem lw_swp (S : Nat → Prop) (L : List (Int × Int)) (a : Option Addr) (n c at_ m s2 e2 s1 e1 : Nat) (w : World) (hn : L.length = n) (hl : n ≤ 90000) (hat : at_ ≤ n) (hW : Wds L at_ m s2 e2 s1 e1) (g1 : s2 ≤ n) (g2 : e2 ≤ n) (g3 : s1 ≤ n) (g4 : e1 ≤ n) (g5 : s2 ≤ e2) (g6 : s1 ≤ e1) (x1 x2 : Bool) (hx1 : (kAt L false (s1 : Int) == 1) = x1) (hx2 : (kAt L false (s2 : Int) == 1) = x2) (hT : Tabs w) (hs : SlS S w a L c) :
    Calls Tryd.prog 19 #[.agg #[.slice a n c, .int .i64 (at_ : Int)]] w fun e w' => (swpOk s1 e1 s2 x1 x2 → ∃ ad d', e = .returned (.tuple #[.agg #[.slice ad n d', .int .i64 (e2 : Int)], .bool true]) ∧ OwS w' w.heap.size (.slice ad n d') (swpM L s1 e1 s2 e2)) ∧ (¬ swpOk s1 e1 s2 x1 x2 → ∃ ad d', e = .returned (.tuple #[.agg #[.slice ad n d', .int .i64 (at_ : Int)], .bool false]) ∧ OwS w' w.heap.size (.slice ad n d') L) ∧ Below w.heap.size w w' := by
  have hle := hs.le
  rw [hn] at hle
  have B0 := below_alloc w (.cells #[.slice a n c, .int .i64 (at_ : Int)] 24)
  obtain ⟨W, hW0⟩ : ∃ W, w.alloc (.cells #[.slice a n c, .int .i64 (at_ : Int)] 24) = W := ⟨_, rfl⟩
  rw [hW0] at B0
  have q0 : W.heap[w.heap.size]? = some (.cells #[.slice a n c, .int .i64 (at_ : Int)] 24 (0, 0)) := by rw [← hW0]; exact heap_alloc_new _ _
  have B1 := seqB B0 (below_alloc W (.cells #[.slice none 0 0, .int .i64 0] 24))
  have q1 := blk_below q0 (below_alloc W (.cells #[.slice none 0 0, .int .i64 0] 24))
  have r1 := heap_alloc_new W (.cells #[.slice none 0 0, .int .i64 0] 24)
  obtain ⟨W1, hW1⟩ : ∃ W1, W.alloc (.cells #[.slice none 0 0, .int .i64 0] 24) = W1 := ⟨_, rfl⟩
  rw [hW1] at B1 q1 r1
  have hsW : Hid (W.heap.size = w.heap.size + 1 ∧ W1.heap.size = w.heap.size + 2) := Lib.hid (by rw [← hW1, ← hW0]; simp)
  have HS := Lib.hid hs
  have HT := Lib.hid hT
  have HN := Lib.hid hn
  have HWd := Lib.hid hW
  have HX := Lib.hid (And.intro hx1 hx2)
  have Q1 := Lib.hid q1
  have R1 := Lib.hid r1
  have zz := fun i => cell_of_row _ _ i _ _ _ q1
  have z0 := zz 0; have z1 := zz 1
  dsimp at z0 z1
  have G0 := fun d os => cell_regrown z0 d os
  have G1 := fun d os => cell_regrown z1 d os
  have NX := Lib.hid fun d os => (next_n L a n c (at_ : Int) m (grow (redrawn W1 d) os) hn hl hW.hm ((hT.below B1).below (below_regrown W1 d os)) ((hs.s.below B1).below (below_regrown W1 d os))).regrown_of
  have BK := Lib.hid fun d os => (back_n L a n c (m : Int) s2 (grow (redrawn W1 d) os) hn hl hW.hs2 ((hT.below B1).below (below_regrown W1 d os)) ((hs.s.below B1).below (below_regrown W1 d os))).regrown_of
  have hH : Hid (w.heap.size < W1.heap.size) := Lib.hid (by have := hsW.out; omega)
  clear zz q0 q1 r1 B0 hs hT hx1 hx2 hW z0 z1 hn
  go_enter Tryd.func19, Tryd.ntmps19
  go_upto_region 1 with fail
  clear hW0
  refine wp_region_quiet_below (by kernel_rfl) (by kernel_rfl) ?_
  repeat (any_goals (go_big_quiet_step (first | (go_at_call 85; exact NX.out _ _) | (go_at_call 84; exact BK.out _ _))))
  refine wpQuiet_nil ?_
  intro _ hw'
  obtain ⟨⟨dq, osq⟩, hw''⟩ := hw'
  subst hw''
  have b2 := below_regrown W1 dq osq
  have N2 := Lib.hid (seqB B1 b2)
  have Q2 := Lib.hid (blk_below Q1.out b2)
  have R2 := Lib.hid (blk_below R1.out b2)
  have hH2 : Hid (w.heap.size < (grow (redrawn W1 dq) osq).heap.size) := Lib.hid (Nat.lt_of_lt_of_le hH.out b2.size)
  clear G0 G1 NX BK b2 Q1 R1 hW1
  generalize grow (redrawn W1 dq) osq = W2 at *
  have ST : Hid (∀ w' : World, Below w.heap.size w w' → Tabs w' ∧ Signs w' a L) := Lib.hid fun w' hb => ⟨HT.out.below hb, HS.out.s.below hb⟩
  have C1 := Lib.hid fun (w' : World) (hb : Below w.heap.size w w') => next_n L a n c (s2 : Int) e2 w' HN.out hl HWd.out.he2 (ST.out w' hb).1 (ST.out w' hb).2
  have C2 := Lib.hid fun (w' : World) (hb : Below w.heap.size w w') => back_n L a n c (s2 : Int) s1 w' HN.out hl HWd.out.hs1 (ST.out w' hb).1 (ST.out w' hb).2
  have C3 := Lib.hid fun (w' : World) (hb : Below w.heap.size w w') => next_n L a n c (s1 : Int) e1 w' HN.out hl HWd.out.he1 (ST.out w' hb).1 (ST.out w' hb).2
  have C4 := Lib.hid fun (w' : World) (hb : Below w.heap.size w w') => lw_wordAt L a n c s1 (at_ : Int) x1 w' HN.out hl g3 HX.out.1 (ST.out w' hb).1 (ST.out w' hb).2
  have C5 := Lib.hid fun (w' : World) (hb : Below w.heap.size w w') => lw_wordAt L a n c s2 (at_ : Int) x2 w' HN.out hl g1 HX.out.2 (ST.out w' hb).1 (ST.out w' hb).2
  have zz := fun i => cell_of_row _ _ i _ _ _ Q2.out
  have z0 := zz 0; have z1 := zz 1
  dsimp at z0 z1
  have OW := Lib.hid fun (w' : World) (hb : Below w.heap.size w w') => lw_own S L a n c (at_ : Int) w' HN.out hl (HS.out.below hb)
  clear zz HX HWd ST
  go_upto_region 5 with (first
    | (go_at_call 85; (with_reducible refine (C1.out _ N2.out).mono ?_); rintro e w3 ⟨rfl, hb⟩; have N3 := Lib.hid (seqB N2.out hb); have Q3 := Lib.hid (blk_below Q2.out hb); have R3 := Lib.hid (blk_below R2.out hb); have z03 := (hb.cell (p := ⟨w.heap.size, 0, none⟩) (blk_lt Q2.out)).trans z0; have z13 := (hb.cell (p := ⟨w.heap.size, 1, none⟩) (blk_lt Q2.out)).trans z1; clear hb z0 z1 N2 Q2 R2 C1)
    | (go_at_call 84; (with_reducible refine (C2.out _ N3.out).mono ?_); rintro e w4 ⟨rfl, hb⟩; have N4 := Lib.hid (seqB N3.out hb); have Q4 := Lib.hid (blk_below Q3.out hb); have R4 := Lib.hid (blk_below R3.out hb); have z04 := (hb.cell (p := ⟨w.heap.size, 0, none⟩) (blk_lt Q3.out)).trans z03; have z14 := (hb.cell (p := ⟨w.heap.size, 1, none⟩) (blk_lt Q3.out)).trans z13; clear hb z03 z13 N3 Q3 R3 C2)
    | (go_at_call 85; (with_reducible refine (C3.out _ N4.out).mono ?_); rintro e w5 ⟨rfl, hb⟩; have N5 := Lib.hid (seqB N4.out hb); have Q5 := Lib.hid (blk_below Q4.out hb); have R5 := Lib.hid (blk_below R4.out hb); have z05 := (hb.cell (p := ⟨w.heap.size, 0, none⟩) (blk_lt Q4.out)).trans z04; have z15 := (hb.cell (p := ⟨w.heap.size, 1, none⟩) (blk_lt Q4.out)).trans z14; clear hb z04 z14 N4 Q4 R4 C3))
  have hlW : Hid (swpM L s1 e1 s2 e2 = swpM L s1 e1 s2 e2) := Lib.hid rfl
  by_cases hc1 : s1 < s2
  rotate_left
  · have hd1 : (s2 : Int) ≤ s1 := by omega
    go_wp2_with (first
      | (go_at_call 82; (with_reducible refine (OW.out _ N5.out).mono ?_); rintro e w8 ⟨bx, dx, rfl, ho, hb⟩; have O8 := Lib.hid (ho.mono N5.out.size); have N8 := Lib.hid (seqB N5.out hb); have R8 := Lib.hid (blk_below R5.out hb); have yf := fun i => frozen_of_row _ W.heap.size i _ _ R8.out; have yy := fun i => cell_of_row _ _ i _ _ _ R8.out; have y0 := yy 0; have y1 := yy 1; dsimp at y0 y1; clear ho hb yy))
    clear y0 y1 yf
    generalize hWF : World.setCell _ _ _ = WF
    obtain ⟨_, p0, p1, gO, gB⟩ := ln_fin R8.out O8.out N8.out (by have := hsW.out; omega) hWF
    refine bodyPost_ret (v := .tuple #[.agg #[.slice bx n dx, .int .i64 (at_ : Int)], .bool false]) (by simp [results, Tryd.results19, go_sem, p0, p1]) rfl ?_
    exact ⟨fun h => absurd (And.left h) hc1, fun _ => ⟨bx, dx, rfl, gO⟩, gB⟩
  have hd1 : ¬ (s2 : Int) ≤ s1 := by omega
  by_cases hc2 : e1 ≤ s2
  rotate_left
  · have hd2 : (s2 : Int) < e1 := by omega
    go_wp2_with (first
      | (go_at_call 82; (with_reducible refine (OW.out _ N5.out).mono ?_); rintro e w8 ⟨bx, dx, rfl, ho, hb⟩; have O8 := Lib.hid (ho.mono N5.out.size); have N8 := Lib.hid (seqB N5.out hb); have R8 := Lib.hid (blk_below R5.out hb); have yf := fun i => frozen_of_row _ W.heap.size i _ _ R8.out; have yy := fun i => cell_of_row _ _ i _ _ _ R8.out; have y0 := yy 0; have y1 := yy 1; dsimp at y0 y1; clear ho hb yy))
    clear y0 y1 yf
    generalize hWF : World.setCell _ _ _ = WF
    obtain ⟨_, p0, p1, gO, gB⟩ := ln_fin R8.out O8.out N8.out (by have := hsW.out; omega) hWF
    refine bodyPost_ret (v := .tuple #[.agg #[.slice bx n dx, .int .i64 (at_ : Int)], .bool false]) (by simp [results, Tryd.results19, go_sem, p0, p1]) rfl ?_
    exact ⟨fun h => absurd (And.left (And.right h)) hc2, fun _ => ⟨bx, dx, rfl, gO⟩, gB⟩
  have hd2 : ¬ (s2 : Int) < e1 := by omega
  cases x1
  · skip
    go_wp2_with (first
      | (go_at_call 86; (with_reducible refine (C4.out _ N5.out).mono ?_); rintro e w6 ⟨rfl, hb⟩; have N6 := Lib.hid (seqB N5.out hb); have Q6 := Lib.hid (blk_below Q5.out hb); have R6 := Lib.hid (blk_below R5.out hb); have z06 := (hb.cell (p := ⟨w.heap.size, 0, none⟩) (blk_lt Q5.out)).trans z05; have z16 := (hb.cell (p := ⟨w.heap.size, 1, none⟩) (blk_lt Q5.out)).trans z15; clear hb z05 z15 N5 Q5 R5 C4)
      | (go_at_call 82; (with_reducible refine (OW.out _ N6.out).mono ?_); rintro e w8 ⟨bx, dx, rfl, ho, hb⟩; have O8 := Lib.hid (ho.mono N6.out.size); have N8 := Lib.hid (seqB N6.out hb); have R8 := Lib.hid (blk_below R6.out hb); have yf := fun i => frozen_of_row _ W.heap.size i _ _ R8.out; have yy := fun i => cell_of_row _ _ i _ _ _ R8.out; have y0 := yy 0; have y1 := yy 1; dsimp at y0 y1; clear ho hb yy))
    clear y0 y1 yf
    generalize hWF : World.setCell _ _ _ = WF
    obtain ⟨_, p0, p1, gO, gB⟩ := ln_fin R8.out O8.out N8.out (by have := hsW.out; omega) hWF
    refine bodyPost_ret (v := .tuple #[.agg #[.slice bx n dx, .int .i64 (at_ : Int)], .bool false]) (by simp [results, Tryd.results19, go_sem, p0, p1]) rfl ?_
    exact ⟨fun h => Bool.noConfusion (show false = true from And.left (And.right (And.right h))), fun _ => ⟨bx, dx, rfl, gO⟩, gB⟩
  cases x2
  · skip
    go_wp2_with (first
      | (go_at_call 86; (with_reducible refine (C4.out _ N5.out).mono ?_); rintro e w6 ⟨rfl, hb⟩; have N6 := Lib.hid (seqB N5.out hb); have Q6 := Lib.hid (blk_below Q5.out hb); have R6 := Lib.hid (blk_below R5.out hb); have z06 := (hb.cell (p := ⟨w.heap.size, 0, none⟩) (blk_lt Q5.out)).trans z05; have z16 := (hb.cell (p := ⟨w.heap.size, 1, none⟩) (blk_lt Q5.out)).trans z15; clear hb z05 z15 N5 Q5 R5 C4)
      | (go_at_call 86; (with_reducible refine (C5.out _ N6.out).mono ?_); rintro e w7 ⟨rfl, hb⟩; have N7 := Lib.hid (seqB N6.out hb); have Q7 := Lib.hid (blk_below Q6.out hb); have R7 := Lib.hid (blk_below R6.out hb); have z07 := (hb.cell (p := ⟨w.heap.size, 0, none⟩) (blk_lt Q6.out)).trans z06; have z17 := (hb.cell (p := ⟨w.heap.size, 1, none⟩) (blk_lt Q6.out)).trans z16; clear hb z06 z16 N6 Q6 R6 C5)
      | (go_at_call 82; (with_reducible refine (OW.out _ N7.out).mono ?_); rintro e w8 ⟨bx, dx, rfl, ho, hb⟩; have O8 := Lib.hid (ho.mono N7.out.size); have N8 := Lib.hid (seqB N7.out hb); have R8 := Lib.hid (blk_below R7.out hb); have yf := fun i => frozen_of_row _ W.heap.size i _ _ R8.out; have yy := fun i => cell_of_row _ _ i _ _ _ R8.out; have y0 := yy 0; have y1 := yy 1; dsimp at y0 y1; clear ho hb yy))
    clear y0 y1 yf
    generalize hWF : World.setCell _ _ _ = WF
    obtain ⟨_, p0, p1, gO, gB⟩ := ln_fin R8.out O8.out N8.out (by have := hsW.out; omega) hWF
    refine bodyPost_ret (v := .tuple #[.agg #[.slice bx n dx, .int .i64 (at_ : Int)], .bool false]) (by simp [results, Tryd.results19, go_sem, p0, p1]) rfl ?_
    exact ⟨fun h => Bool.noConfusion (show false = true from And.right (And.right (And.right h))), fun _ => ⟨bx, dx, rfl, gO⟩, gB⟩
  go_upto_region 7 with (first
    | (go_at_call 86; (with_reducible refine (C4.out _ N5.out).mono ?_); rintro e w6 ⟨rfl, hb⟩; have N6 := Lib.hid (seqB N5.out hb); have Q6 := Lib.hid (blk_below Q5.out hb); have R6 := Lib.hid (blk_below R5.out hb); have z06 := (hb.cell (p := ⟨w.heap.size, 0, none⟩) (blk_lt Q5.out)).trans z05; have z16 := (hb.cell (p := ⟨w.heap.size, 1, none⟩) (blk_lt Q5.out)).trans z15; clear hb z05 z15 N5 Q5 R5 C4)
    | (go_at_call 86; (with_reducible refine (C5.out _ N6.out).mono ?_); rintro e w7 ⟨rfl, hb⟩; have N7 := Lib.hid (seqB N6.out hb); have Q7 := Lib.hid (blk_below Q6.out hb); have R7 := Lib.hid (blk_below R6.out hb); have z07 := (hb.cell (p := ⟨w.heap.size, 0, none⟩) (blk_lt Q6.out)).trans z06; have z17 := (hb.cell (p := ⟨w.heap.size, 1, none⟩) (blk_lt Q6.out)).trans z16; clear hb z06 z16 N6 Q6 R6 C5))
  have hs := HS.out
  have hn := HN.out
  obtain ⟨Aa, hAa⟩ : ∃ x : Option Addr, (if c = 0 then a else a.map (·.add (0 * 2))) = x := ⟨_, rfl⟩
  have sla : SlS S w Aa (L.take s1) c ∧ (L.take s1).length = s1 := by
    have h := hs.sub 0 s1 (Nat.zero_le _) (by omega)
    rw [hAa, List.drop_zero, Nat.sub_zero, Nat.sub_zero] at h
    exact h
  have hcuta : ∀ w : World, (Instr.slice 22 (.slice a n c) none (some (.int .i64 (s1 : Int))) none).run Tryd.prog w = .ok (.slice Aa s1 c) w := fun w => by
    rw [run_cutH w a n c s1 (by omega), hAa]
  obtain ⟨Ab, hAb⟩ : ∃ x : Option Addr, (if c = s2 then a else a.map (·.add (s2 * 2))) = x := ⟨_, rfl⟩
  have slb : SlS S w Ab ((L.drop s2).take (e2 - s2)) (c - s2) ∧ ((L.drop s2).take (e2 - s2)).length = e2 - s2 := by
    have h := hs.sub s2 e2 (by omega) (by omega)
    rw [hAb] at h
    exact h
  have hcutb : ∀ w : World, (Instr.slice 22 (.slice a n c) (some (.int .i64 (s2 : Int))) (some (.int .i64 (e2 : Int))) none).run Tryd.prog w = .ok (.slice Ab (e2 - s2) (c - s2)) w := fun w => by
    rw [run_cutLH w a n c s2 e2 (by omega) (by omega), hAb]
  obtain ⟨Ac, hAc⟩ : ∃ x : Option Addr, (if c = e1 then a else a.map (·.add (e1 * 2))) = x := ⟨_, rfl⟩
  have slc : SlS S w Ac ((L.drop e1).take (s2 - e1)) (c - e1) ∧ ((L.drop e1).take (s2 - e1)).length = s2 - e1 := by
    have h := hs.sub e1 s2 (by omega) (by omega)
    rw [hAc] at h
    exact h
  have hcutc : ∀ w : World, (Instr.slice 22 (.slice a n c) (some (.int .i64 (e1 : Int))) (some (.int .i64 (s2 : Int))) none).run Tryd.prog w = .ok (.slice Ac (s2 - e1) (c - e1)) w := fun w => by
    rw [run_cutLH w a n c e1 s2 (by omega) (by omega), hAc]
  obtain ⟨Ad, hAd⟩ : ∃ x : Option Addr, (if c = s1 then a else a.map (·.add (s1 * 2))) = x := ⟨_, rfl⟩
  have sld : SlS S w Ad ((L.drop s1).take (e1 - s1)) (c - s1) ∧ ((L.drop s1).take (e1 - s1)).length = e1 - s1 := by
    have h := hs.sub s1 e1 (by omega) (by omega)
    rw [hAd] at h
    exact h
  have hcutd : ∀ w : World, (Instr.slice 22 (.slice a n c) (some (.int .i64 (s1 : Int))) (some (.int .i64 (e1 : Int))) none).run Tryd.prog w = .ok (.slice Ad (e1 - s1) (c - s1)) w := fun w => by
    rw [run_cutLH w a n c s1 e1 (by omega) (by omega), hAd]
  obtain ⟨Ae, hAe⟩ : ∃ x : Option Addr, (if c = e2 then a else a.map (·.add (e2 * 2))) = x := ⟨_, rfl⟩
  have sle : SlS S w Ae (L.drop e2) (c - e2) ∧ (L.drop e2).length = n - e2 := by
    have h := hs.sub e2 L.length (by omega) (Nat.le_refl _)
    rw [hAe, List.take_of_length_le (by rw [List.length_drop]; omega)] at h
    exact ⟨h.1, by rw [List.length_drop, hn]⟩
  have hcute : ∀ w : World, (Instr.slice 22 (.slice a n c) (some (.int .i64 (e2 : Int))) none none).run Tryd.prog w = .ok (.slice Ae (n - e2) (c - e2)) w := fun w => by
    rw [run_cutL w a n c e2 (by omega), hAe]
  have hmw : s2 ≤ n ∧ s1 ≤ s2 := by omega
  have CC := Lib.hid (concat5 ⟨Aa, L.take s1, c⟩ ⟨Ab, (L.drop s2).take (e2 - s2), c - s2⟩ ⟨Ac, (L.drop e1).take (s2 - e1), c - e1⟩ ⟨Ad, (L.drop s1).take (e1 - s1), c - s1⟩ ⟨Ae, L.drop e2, c - e2⟩ s1 (e2 - s2) (s2 - e1) (e1 - s1) (n - e2) n S w7.drew sla.2 slb.2 slc.2 sld.2 sle.2 (by omega) (by omega) (sla.1.below N7.out.drew) (slb.1.below N7.out.drew) (slc.1.below N7.out.drew) (sld.1.below N7.out.drew) (sle.1.below N7.out.drew))
  have hWne : Hid (W.heap.size ≠ w.heap.size) := Lib.hid (by have := hsW.out; omega)
  have hH7 : Hid (w.heap.size < w7.drew.heap.size) := Lib.hid (blk_lt Q7.out)
  clear hs hn hAa hAb hAc hAd hAe sla slb slc sld sle OW
  go_region_held3 (fun w' => w'.cell? ⟨w.heap.size, 0, none⟩ = some (.slice a n c) ∧ w'.cell? ⟨w.heap.size, 1, none⟩ = some (.int .i64 (at_ : Int))) (first | exact ⟨z07, z17⟩ | exact ⟨z08, z18⟩ | exact ⟨(World.cell?_alloc_lt _ _ _ hH7.out).trans z07, (World.cell?_alloc_lt _ _ _ hH7.out).trans z17⟩ | go_keep)
    (first | (go_at_call 87; refine CC.out.mono ?_; rintro e w8 ⟨bx, dx, rfl, ho, hb⟩; have D8 := (Below.refl w7.heap.size w7).drew.trans hb; have O8 := Lib.hid (ho.mono (show w.heap.size ≤ w7.drew.heap.size from Nat.le_of_lt hH7.out)); have N8 := Lib.hid (seqB N7.out D8); have z08 := (hb.cell (p := ⟨w.heap.size, 0, none⟩) hH7.out).trans z07; have z18 := (hb.cell (p := ⟨w.heap.size, 1, none⟩) hH7.out).trans z17; have R8 := Lib.hid (blk_below R7.out D8); have yf := fun i => frozen_of_row _ W.heap.size i _ _ R8.out; have yy := fun i => cell_of_row _ _ i _ _ _ R8.out; have y0 := yy 0; have y1 := yy 1; dsimp at y0 y1; clear ho hb yy D8))
  go_wp2_with fail
  clear y0 y1 yf
  generalize hWF : World.setCell _ _ _ = WF
  obtain ⟨_, p0, p1, gO, gB⟩ := ln_fin R8.out O8.out N8.out (by have := hsW.out; omega) hWF
  refine bodyPost_ret (v := .tuple #[.agg #[.slice bx n dx, .int .i64 (e2 : Int)], .bool true]) (by simp [results, Tryd.results19, go_sem, p0, p1]) rfl ?_
  exact ⟨fun _ => ⟨bx, dx, rfl, gO⟩, fun h => absurd (show swpOk s1 e1 s2 true true from ⟨hc1, hc2, rfl, rfl⟩) h, gB⟩
end Go.Proofs.YtdnmjofenckndaaDoor
set_option linter.unusedVariables false
set_option linter.unusedSimpArgs false
namespace Go.Proofs.YtdnmjofenckndaaDoor
open Go.RowKit Go.Sort
def grM (v : Int) : Int := if 97 ≤ v ∧ v ≤ 122 then v - 32 else v
def smM (v : Int) : Int := if 65 ≤ v ∧ v ≤ 90 then v + 32 else v
theorem gr_sm (v : Int) : grM (smM v) = grM v := by unfold grM smM; repeat' split
                                                    all_goals omega
theorem gr_gr (v : Int) : grM (grM v) = grM v := by unfold grM; repeat' split
                                                    all_goals omega
theorem gr_any (v : Int) (w : World) : Calls Tryd.prog 169 #[.int .i64 v] w fun e w' => e = .returned (.int .i64 (grM v)) ∧ w = w' := by
  unfold grM
  by_cases h1 : 97 ≤ v
  · by_cases h2 : v ≤ 122
    · rw [if_pos ⟨h1, h2⟩]
      have hw : IntKind.i64.wrap (v - 32) = v - 32 := by rw [IntKind.wrap_i64]; omega
      go_enter Tryd.func169, Tryd.ntmps169
      go_wp2_with fail
      go_ret
      exact ⟨rfl, rfl⟩
    · rw [if_neg (fun h => h2 h.2)]
      go_enter Tryd.func169, Tryd.ntmps169
      go_wp2_with fail
      go_ret
      exact ⟨rfl, rfl⟩
  · rw [if_neg (fun h => h1 h.1)]
    go_enter Tryd.func169, Tryd.ntmps169
    go_wp2_with fail
    go_ret
    exact ⟨rfl, rfl⟩
theorem sm_any (v : Int) (w : World) : Calls Tryd.prog 170 #[.int .i64 v] w fun e w' => e = .returned (.int .i64 (smM v)) ∧ w = w' := by
  unfold smM
  by_cases h1 : 65 ≤ v
  · by_cases h2 : v ≤ 90
    · rw [if_pos ⟨h1, h2⟩]
      have hw : IntKind.i64.wrap (v + 32) = v + 32 := by rw [IntKind.wrap_i64]; omega
      go_enter Tryd.func170, Tryd.ntmps170
      go_wp2_with fail
      go_ret
      exact ⟨rfl, rfl⟩
    · rw [if_neg (fun h => h2 h.2)]
      go_enter Tryd.func170, Tryd.ntmps170
      go_wp2_with fail
      go_ret
      exact ⟨rfl, rfl⟩
  · rw [if_neg (fun h => h1 h.1)]
    go_enter Tryd.func170, Tryd.ntmps170
    go_wp2_with fail
    go_ret
    exact ⟨rfl, rfl⟩
theorem let_up (v : Int) (w : World) : Calls Tryd.prog 28 #[.int .i64 v, .bool true] w fun e w' => e = .returned (.int .i64 (grM v)) ∧ w = w' := by
  unfold grM
  by_cases h1 : 97 ≤ v
  · by_cases h2 : v ≤ 122
    · rw [if_pos ⟨h1, h2⟩]
      have hw : IntKind.i64.wrap (v - 32) = v - 32 := by rw [IntKind.wrap_i64]; omega
      go_enter Tryd.func28, Tryd.ntmps28
      go_wp2_with fail
      go_ret
      exact ⟨rfl, rfl⟩
    · rw [if_neg (fun h => h2 h.2)]
      go_enter Tryd.func28, Tryd.ntmps28
      go_wp2_with fail
      go_ret
      exact ⟨rfl, rfl⟩
  · rw [if_neg (fun h => h1 h.1)]
    go_enter Tryd.func28, Tryd.ntmps28
    go_wp2_with fail
    go_ret
    exact ⟨rfl, rfl⟩
/-- What a letter of a line becomes. -/
def chM (L : List (Int × Int)) (how : Int) (k : Nat) : Int :=
  if how = 0 then grM (L.getD k (0, 0)).1 else if how = 1 then smM (L.getD k (0, 0)).1 else if how = 2 then (if (kAt L false ((k : Int) - 1) == 1) = true then smM (L.getD k (0, 0)).1 else grM (L.getD k (0, 0)).1) else (L.getD k (0, 0)).1
theorem ch_gr (L : List (Int × Int)) (how : Int) (k : Nat) : grM (chM L how k) = grM (L.getD k (0, 0)).1 := by
  unfold chM
  repeat' split
  all_goals first | exact gr_gr _ | exact gr_sm _ | rfl
/-- The closure's two blocks. -/
structure ChIn (w : World) (p q : Nat) (a : Option Addr) (L : List (Int × Int)) (n c : Nat) (x how : Int) : Prop where
  hp : w.heap[p]? = some (.cells #[.slice a n c, .int .i64 x] 24 (0, 0))
  hq : w.heap[q]? = some (.cells #[.int .i64 how] 3 (0, 0))
  s : Signs w a L
  t : Tabs w
theorem ChIn.below {w w' : World} {p q : Nat} {a : Option Addr} {L : List (Int × Int)} {n c : Nat} {x how : Int} (h : ChIn w p q a L n c x how) (hb : Below w.heap.size w w') : ChIn w' p q a L n c x how :=
  ⟨blk_below h.hp hb, blk_below h.hq hb, h.s.below hb, h.t.below hb⟩
set_option maxHeartbeats 4000000 in
theorem ch_any (p q : Nat) (a : Option Addr) (L : List (Int × Int)) (n c k : Nat) (x how : Int) (w : World) (hn : L.length = n) (hl : n ≤ 90000) (hk : k < n) (h : ChIn w p q a L n c x how) :
    Calls Tryd.prog 168 #[.int .i64 (k : Int), .pointer (some ⟨p, 0, none⟩), .pointer (some ⟨q, 0, none⟩)] w fun e w' => e = .returned (.int .i64 (chM L how k)) ∧ Below w.heap.size w w' := by
  obtain ⟨b, off, rfl, hb, c1, _⟩ := h.s k (by omega)
  have pp := fun i => cell_of_row _ _ i _ _ _ h.hp
  have qq := fun i => cell_of_row _ _ i _ _ _ h.hq
  have p0 := pp 0; have q0 := qq 0
  dsimp at p0 q0
  have hk1 : (k : Int) < n := by omega
  have hk0 : (0 : Int) ≤ k := by omega
  obtain ⟨v, hv⟩ : ∃ v, (L.getD k (0, 0)).1 = v := ⟨_, rfl⟩
  rw [hv] at c1
  have GR := Lib.hid fun w => gr_any v w
  have SM := Lib.hid fun w => sm_any v w
  by_cases h0 : how = 0
  · have HF : Hid (chM L how k = grM v) := Lib.hid (by unfold chM; rw [if_pos h0, hv])
    subst h0
    clear pp qq h hv SM
    go_enter Tryd.func168, Tryd.ntmps168
    go_wp2_with (go_at_call 169; refine (GR.out _).mono ?_; rintro e w1 ⟨rfl, rfl⟩)
    go_ret
    rw [HF.out]
    exact ⟨rfl, Below.refl _ _⟩
  by_cases h1 : how = 1
  · have HF : Hid (chM L how k = smM v) := Lib.hid (by unfold chM; rw [if_neg h0, if_pos h1, hv])
    subst h1
    clear pp qq h hv GR h0
    go_enter Tryd.func168, Tryd.ntmps168
    go_wp2_with (go_at_call 170; refine (SM.out _).mono ?_; rintro e w1 ⟨rfl, rfl⟩)
    go_ret
    rw [HF.out]
    exact ⟨rfl, Below.refl _ _⟩
  by_cases h2 : how = 2
  rotate_left
  · have HF : Hid (chM L how k = v) := Lib.hid (by unfold chM; rw [if_neg h0, if_neg h1, if_neg h2, hv])
    clear pp qq h hv GR SM
    go_enter Tryd.func168, Tryd.ntmps168
    go_wp2_with fail
    go_ret
    rw [HF.out]
    exact ⟨rfl, Below.refl _ _⟩
  have HC : Hid (chM L how k = if (kAt L false ((k : Int) - 1) == 1) = true then smM v else grM v) := Lib.hid (by unfold chM; rw [if_neg h0, if_neg h1, if_pos h2, hv])
  subst h2
  by_cases hk3 : k = 0
  · have HF : Hid (chM L 2 k = grM v) := Lib.hid (by
      rw [HC.out, if_neg]
      subst hk3
      unfold kAt
      rw [if_pos (Or.inl (by omega))]
      decide)
    have hk4 : ¬ (0 : Int) < k := by omega
    have hk5 : decide ((0 : Int) < k) = false := decide_eq_false hk4
    clear pp qq h hv SM h0 h1 HC hk3
    go_enter Tryd.func168, Tryd.ntmps168
    go_wp2_with (go_at_call 169; refine (GR.out _).mono ?_; rintro e w1 ⟨rfl, rfl⟩)
    go_ret
    rw [HF.out]
    exact ⟨rfl, Below.refl _ _⟩
  · obtain ⟨j, rfl⟩ : ∃ j, k = j + 1 := ⟨k - 1, by omega⟩
    obtain ⟨b', off', e', hb', d1, _⟩ := h.s j (by omega)
    obtain ⟨rfl, rfl⟩ : b = b' ∧ off = off' := by simpa using e'
    obtain ⟨u, hu⟩ : ∃ u, (L.getD j (0, 0)).1 = u := ⟨_, rfl⟩
    rw [hu] at d1
    have hka : kAt L false (((j + 1 : Nat) : Int) - 1) = knd u := by
      unfold kAt
      rw [if_neg (by omega), show (((j + 1 : Nat) : Int) - 1).toNat = j by omega, hu]; rfl
    rw [hka] at HC
    have KN := Lib.hid fun w hT => kind_any u w hT
    generalize knd u = z at *
    have HT := Lib.hid h.t
    have hk4 : (0 : Int) < ((j + 1 : Nat) : Int) := by omega
    have hj0 : (0 : Int) ≤ j := by omega
    have hjn : (j : Int) < n := by omega
    obtain ⟨k, hkj⟩ : ∃ k, j + 1 = k := ⟨_, rfl⟩
    have hjw : IntKind.i64.wrap ((k : Int) - 1) = (j : Int) := by rw [IntKind.wrap_i64]; omega
    have hjw2 : (k : Int) - 1 = (j : Int) := by omega
    have hjw3 : IntKind.i64.wrap (j : Int) = (j : Int) := by rw [IntKind.wrap_i64]; omega
    rw [hkj] at c1 hk1 hk0 hk4 HC ⊢
    by_cases hz : z = 1
    · have HF : Hid (chM L 2 k = smM v) := Lib.hid (by rw [HC.out, if_pos (by rw [hz]; rfl)])
      subst hz
      clear pp qq h hv GR h0 h1 HC hk3 hka hkj e' hb' hu hk
      go_enter Tryd.func168, Tryd.ntmps168
      go_wp2_with (first
        | (go_at_call 117; refine (KN.out _ HT.out).mono ?_; rintro e w1 ⟨rfl, hb1⟩)
        | (go_at_call 170; refine (SM.out _).mono ?_; rintro e w2 ⟨rfl, rfl⟩))
      go_ret
      rw [HF.out]
      exact ⟨rfl, hb1⟩
    · have HF : Hid (chM L 2 k = grM v) := Lib.hid (by rw [HC.out, if_neg (by simpa using hz)])
      clear pp qq h hv SM h0 h1 HC hk3 hka hkj e' hb' hu hk
      go_enter Tryd.func168, Tryd.ntmps168
      go_wp2_with (first
        | (go_at_call 117; refine (KN.out _ HT.out).mono ?_; rintro e w1 ⟨rfl, hb1⟩)
        | (go_at_call 169; refine (GR.out _).mono ?_; rintro e w2 ⟨rfl, rfl⟩))
      go_ret
      rw [HF.out]
      exact ⟨rfl, hb1⟩
theorem changer_any (a : Option Addr) (n c : Nat) (x how : Int) (w : World) :
    Calls Tryd.prog 93 #[.agg #[.slice a n c, .int .i64 x], .int .i64 how] w fun e w' => e = .returned (.func (.func 168) #[] #[.pointer (some ⟨w.heap.size, 0, none⟩), .pointer (some ⟨w.heap.size + 1, 0, none⟩)]) ∧ (w.alloc (.cells #[.slice a n c, .int .i64 x] 24)).alloc (.cells #[.int .i64 how] 3) = w' := by
  go_enter Tryd.func93, Tryd.ntmps93
  go_wp2
  go_ret
  exact ⟨rfl, rfl⟩
theorem changer_in (a : Option Addr) (L : List (Int × Int)) (n c : Nat) (x how : Int) (w : World) (hs : Signs w a L) (hT : Tabs w) :
    Calls Tryd.prog 93 #[.agg #[.slice a n c, .int .i64 x], .int .i64 how] w fun e w' => e = .returned (.func (.func 168) #[] #[.pointer (some ⟨w.heap.size, 0, none⟩), .pointer (some ⟨w.heap.size + 1, 0, none⟩)]) ∧ ChIn w' w.heap.size (w.heap.size + 1) a L n c x how ∧ Below w.heap.size w w' := by
  refine (changer_any a n c x how w).mono ?_
  rintro e w' ⟨rfl, rfl⟩
  have B0 := below_alloc w (.cells #[.slice a n c, .int .i64 x] 24)
  have B1 := below_alloc (w.alloc (.cells #[.slice a n c, .int .i64 x] 24)) (.cells #[.int .i64 how] 3)
  have h1 := heap_alloc_new (w.alloc (.cells #[.slice a n c, .int .i64 x] 24)) (.cells #[.int .i64 how] 3)
  have hsz : (w.alloc (.cells #[.slice a n c, .int .i64 x] 24)).heap.size = w.heap.size + 1 := by simp
  rw [hsz] at h1
  exact ⟨rfl, ⟨blk_below (heap_alloc_new _ _) B1, h1, hs.below (seqB B0 B1), hT.below (seqB B0 B1)⟩, seqB B0 B1⟩
end Go.Proofs.YtdnmjofenckndaaDoor
set_option linter.unusedVariables false
set_option linter.unusedSimpArgs false
namespace Go.Proofs.YtdnmjofenckndaaDoor
open Go.RowKit Go.Sort
theorem list_set_self (xs : List Value) (j : Nat) (v : Value) (h : xs[j]? = some v) : xs.set j v = xs := by
  apply List.ext_getElem?
  intro i
  rw [List.getElem?_set]
  split
  · rename_i e
    subst e
    split
    · exact h.symm
    · rename_i hlt
      rw [List.getElem?_eq_none (by omega)] at h; cases h
  · rfl
/-- A sign's value is written. -/
theorem ows_putV {w : World} {B g n d : Nat} {L : List (Int × Int)} (h : OwS w B (.slice (some ⟨g, 0, none⟩) n d) L) (hn : L.length = n) (k : Nat) (hk : k < n) (u : Int) :
    OwS (w.setCell ⟨g, k * 2, none⟩ (.int .i64 u)) B (.slice (some ⟨g, 0, none⟩) n d) (L.set k (u, (L.getD k (0, 0)).2)) := by
  subst hn
  unfold OwS at h ⊢
  have h2 := (World.ownsRow.stored h (k * 2) (.int .i64 u)).1
  rw [List.length_set]
  have e := sRow_set L k (u, (L.getD k (0, 0)).2) hk
  rw [← e, Array.toList_setIfInBounds, Array.toList_setIfInBounds, list_set_self]
  · exact h2
  · rw [List.getElem?_set_ne (by omega)]
    exact (sRow_at L k hk).2
def csL (L : List (Int × Int)) (how : Int) (f k : Nat) : List (Int × Int) :=
  (List.range L.length).map fun i => if f ≤ i ∧ i < k then (chM L how i, (L.getD i (0, 0)).2) else L.getD i (0, 0)
theorem cs_len (L : List (Int × Int)) (how : Int) (f k : Nat) : (csL L how f k).length = L.length := by unfold csL; simp
theorem cs_at (L : List (Int × Int)) (how : Int) (f k i : Nat) (hi : i < L.length) : (csL L how f k).getD i (0, 0) = if f ≤ i ∧ i < k then (chM L how i, (L.getD i (0, 0)).2) else L.getD i (0, 0) := by
  unfold csL
  rw [List.getD, List.getElem?_map, List.getElem?_range hi]; rfl
theorem list_extD {l m : List (Int × Int)} (h : l.length = m.length) (hh : ∀ j, j < l.length → l.getD j (0, 0) = m.getD j (0, 0)) : l = m := by
  apply List.ext_getElem h
  intro j h1 h2
  have := hh j h1
  simpa [List.getD, List.getElem?_eq_getElem h1, List.getElem?_eq_getElem h2] using this
theorem getD_setL (R : List (Int × Int)) (i j : Nat) (x : Int × Int) (hi : i < R.length) : (R.set i x).getD j (0, 0) = if i = j then x else R.getD j (0, 0) := by
  rw [List.getD, List.getElem?_set]
  by_cases h : i = j
  · rw [if_pos h, if_pos h, if_pos hi]; rfl
  · rw [if_neg h, if_neg h]; rfl
theorem cs_0 (L : List (Int × Int)) (how : Int) (f : Nat) : csL L how f f = L := by
  refine list_extD (cs_len _ _ _ _) (fun j hj => ?_)
  rw [cs_len] at hj
  rw [cs_at _ _ _ _ _ hj, if_neg (by omega)]
theorem cs_next (L : List (Int × Int)) (how : Int) (f k : Nat) (hf : f ≤ k) (hk : k < L.length) : csL L how f (k + 1) = (csL L how f k).set k (chM L how k, ((csL L how f k).getD k (0, 0)).2) := by
  refine list_extD (by rw [List.length_set, cs_len, cs_len]) (fun j hj => ?_)
  rw [cs_len] at hj
  rw [getD_setL _ _ _ _ (by rw [cs_len]; exact hk), cs_at _ _ _ _ _ hj, cs_at _ _ _ _ _ hk, cs_at _ _ _ _ _ hj, if_neg (show ¬ (f ≤ k ∧ k < k) by omega)]
  by_cases e : k = j
  · subst e
    rw [if_pos rfl, if_pos (by omega)]
  · rw [if_neg e]
    by_cases h : f ≤ j ∧ j < k
    · rw [if_pos h, if_pos (by omega)]
    · rw [if_neg h, if_neg (by omega)]
/-- A line under way. -/
structure CsI (w : World) (R X p q : Nat) (a bx : Option Addr) (L : List (Int × Int)) (n c dx f k : Nat) (x how : Int) (wr : World) : Prop where
  b : Below w.heap.size w wr
  ci : ChIn wr p q a L n c x how
  hx : wr.heap[X]? = some (.cells #[.slice bx n dx, .int .i64 x] 24 (0, 0))
  hr : wr.heap[R]? = some (.cells #[.slice none 0 0, .int .i64 0] 24 (0, 0))
  o : OwS wr w.heap.size (.slice bx n dx) (csL L how f k)
theorem CsI.below {w wr w' : World} {R X p q : Nat} {a bx : Option Addr} {L : List (Int × Int)} {n c dx f k : Nat} {x how : Int} (h : CsI w R X p q a bx L n c dx f k x how wr) (hb : Below wr.heap.size wr w') : CsI w R X p q a bx L n c dx f k x how w' :=
  ⟨seqB h.b hb, h.ci.below hb, blk_below h.hx hb, blk_below h.hr hb, ows_keep h.o hb⟩
theorem CsI.put {w wr : World} {R X p q g : Nat} {a : Option Addr} {L : List (Int × Int)} {n c dx f k : Nat} {x how : Int} (h : CsI w R X p q a (some ⟨g, 0, none⟩) L n c dx f k x how wr) (hn : L.length = n) (hf : f ≤ k) (hk : k < n) (hg : w.heap.size ≤ g) (hold : Signs w a L) (hT : Tabs w) :
    CsI w R X p q a (some ⟨g, 0, none⟩) L n c dx f (k + 1) x how (wr.setCell ⟨g, k * 2, none⟩ (.int .i64 (chM L how k))) := by
  have hb : Below w.heap.size w (wr.setCell ⟨g, k * 2, none⟩ (.int .i64 (chM L how k))) := h.b.setCell (p := ⟨g, k * 2, none⟩) hg _
  have ne : ∀ {k2 : Nat} {cs : Array Value} {T : TypeId} {fr : Nat × Nat}, wr.heap[k2]? = some (.cells cs T fr) → T ≠ 39 → k2 ≠ g := fun h1 hT e => own_ne_kind h.o h1 hT (by rw [e]; rfl)
  refine ⟨hb, ⟨?_, ?_, hold.below hb, hT.below hb⟩, ?_, ?_, ?_⟩
  · rw [Below.heap_setCell _ _ _ _ (ne h.ci.hp (by decide))]; exact h.ci.hp
  · rw [Below.heap_setCell _ _ _ _ (ne h.ci.hq (by decide))]; exact h.ci.hq
  · rw [Below.heap_setCell _ _ _ _ (ne h.hx (by decide))]; exact h.hx
  · rw [Below.heap_setCell _ _ _ _ (ne h.hr (by decide))]; exact h.hr
  · rw [cs_next L how f k hf (by omega)]
    exact ows_putV h.o (by rw [cs_len]; exact hn) k hk _
theorem far1 {w : World} {p q i k : Nat} {u : Value} (h : p ≠ q) : (w.setCell ⟨p, i, none⟩ u).cell? ⟨q, k, none⟩ = w.cell? ⟨q, k, none⟩ := by
  unfold World.cell?
  rw [Below.heap_setCell _ _ _ _ (Ne.symm h)]
set_option maxHeartbeats 8000000 in
theorem lw_case (S : Nat → Prop) (L : List (Int × Int)) (a : Option Addr) (n c p0 : Nat) (tt how : Int) (f t : Nat) (w : World) (hn : L.length = n) (hl : n ≤ 90000) (hp : p0 ≤ n) (hf : btF n (p0 : Int) tt = f) (ht : btT n (p0 : Int) tt = t) (hT : Tabs w) (hs : SlS S w a L c) :
    Calls Tryd.prog 27 #[.agg #[.slice a n c, .int .i64 (p0 : Int)], .int .i64 tt, .int .i64 how] w fun e w' => ∃ b d, e = .returned (.agg #[.slice b n d, .int .i64 (t : Int)]) ∧ OwS w' w.heap.size (.slice b n d) (csL L how f t) ∧ Below w.heap.size w w' := by
  have hbt := bt_le n (p0 : Int) tt
  rw [hf, ht] at hbt
  obtain ⟨hft, htn⟩ := hbt
  have B0 := below_alloc w (.cells #[.slice a n c, .int .i64 (p0 : Int)] 24)
  obtain ⟨W, hW⟩ : ∃ W, w.alloc (.cells #[.slice a n c, .int .i64 (p0 : Int)] 24) = W := ⟨_, rfl⟩
  rw [hW] at B0
  have q0 : W.heap[w.heap.size]? = some (.cells #[.slice a n c, .int .i64 (p0 : Int)] 24 (0, 0)) := by rw [← hW]; exact heap_alloc_new _ _
  have B1 := seqB B0 (below_alloc W (.cells #[.slice none 0 0, .int .i64 0] 24))
  have q1 := blk_below q0 (below_alloc W (.cells #[.slice none 0 0, .int .i64 0] 24))
  have r1 := heap_alloc_new W (.cells #[.slice none 0 0, .int .i64 0] 24)
  obtain ⟨W1, hW1⟩ : ∃ W1, W.alloc (.cells #[.slice none 0 0, .int .i64 0] 24) = W1 := ⟨_, rfl⟩
  rw [hW1] at B1 q1 r1
  have hsW : Hid (W.heap.size = w.heap.size + 1 ∧ W1.heap.size = w.heap.size + 2) := Lib.hid (by rw [← hW1, ← hW]; simp)
  have BT := Lib.hid (lw_btw a n c (p0 : Int) (p0 : Int) tt f t hf ht W1)
  have CH := Lib.hid fun (w' : World) (hb : Below w.heap.size w w') => changer_in a L n c (p0 : Int) how w' (hs.s.below hb) (hT.below hb)
  have OW := Lib.hid fun (w' : World) (hb : Below w.heap.size w w') => lw_own S L a n c (p0 : Int) w' hn hl (hs.below hb)
  have HS := Lib.hid hs.s
  have HT := Lib.hid hT
  have HN := Lib.hid hn
  have zz := fun i => cell_of_row _ _ i _ _ _ q1
  have z0 := zz 0; have z1 := zz 1
  dsimp at z0 z1
  have R1 := Lib.hid r1
  have Q1 := Lib.hid q1
  have hHs : Hid (w.heap.size ≤ W.heap.size) := Lib.hid (by have := hsW.out; omega)
  clear hs hT zz q0 q1 r1 B0 hf ht hn
  go_enter Tryd.func27, Tryd.ntmps27
  go_upto_region 1 with fail
  clear hW
  go_upto_region 4 with (first
    | (go_at_call 91; refine BT.out.mono ?_; rintro e w2 ⟨rfl, hb⟩; have N2 := Lib.hid (seqB B1 hb); have Q2 := Lib.hid (blk_below Q1.out hb); have R2 := Lib.hid (blk_below R1.out hb); have z02 := (hb.cell (p := ⟨w.heap.size, 0, none⟩) (blk_lt Q1.out)).trans z0; have z12 := (hb.cell (p := ⟨w.heap.size, 1, none⟩) (blk_lt Q1.out)).trans z1; clear hb BT z0 z1 R1 Q1)
    | (go_at_call 93; refine (CH.out _ N2.out).mono ?_; rintro e w3 ⟨rfl, hc, hb⟩; have C3 := Lib.hid hc; have N3 := Lib.hid (seqB N2.out hb); have Q3 := Lib.hid (blk_below Q2.out hb); have R3 := Lib.hid (blk_below R2.out hb); have z03 := (hb.cell (p := ⟨w.heap.size, 0, none⟩) (blk_lt Q2.out)).trans z02; have z13 := (hb.cell (p := ⟨w.heap.size, 1, none⟩) (blk_lt Q2.out)).trans z12; clear hb hc CH z02 z12 N2 Q2 R2)
    | (go_at_call 82; refine (OW.out _ N3.out).mono ?_; rintro e w4 ⟨bx, dx, rfl, ho, hb⟩; have O4 := Lib.hid (ho.mono N3.out.size); have C4 := Lib.hid (C3.out.below hb); have N4 := Lib.hid (seqB N3.out hb); have Q4 := Lib.hid (blk_below Q3.out hb); have R4 := Lib.hid (blk_below R3.out hb); clear ho hb OW z03 z13 N3 Q3 R3 C3))
  obtain ⟨w5, hw5⟩ : ∃ w5, w4.alloc (.cells #[.slice bx n dx, .int .i64 (p0 : Int)] 24) = w5 := ⟨_, rfl⟩
  have A5 := below_alloc w4 (.cells #[.slice bx n dx, .int .i64 (p0 : Int)] 24)
  have X5 := heap_alloc_new w4 (.cells #[.slice bx n dx, .int .i64 (p0 : Int)] 24)
  rw [hw5] at A5 X5
  rw [hw5]
  have hX := Lib.hid N4.out.size
  have hWX := Lib.hid (blk_lt R4.out)
  obtain ⟨X, hXe⟩ : ∃ X, w4.heap.size = X := ⟨_, rfl⟩
  obtain ⟨P, hPe⟩ : ∃ P, w2.heap.size = P := ⟨_, rfl⟩
  have I5 : Hid (CsI w W.heap.size X P (P + 1) a bx L n c dx f f (p0 : Int) how w5) := Lib.hid (by
    rw [← hXe, ← hPe]
    exact ⟨seqB N4.out A5, C4.out.below A5, X5, blk_below R4.out A5, by rw [cs_0]; exact ows_keep O4.out A5⟩)
  rw [hXe] at hX hWX ⊢
  rw [hPe]
  clear O4 C4 N4 Q4 R4 A5 X5 hw5 hXe hPe
  go_wp2_with fail
  go_loopw [11] (fun iv wr => ∃ k : Nat, f ≤ k ∧ k ≤ t ∧ iv = .int .i64 (k : Int) ∧ Hid (CsI w W.heap.size X P (P + 1) a bx L n c dx f k (p0 : Int) how wr)) (fun iv _ => t - (intOf iv).toNat)
  case atStart => exact ⟨f, Nat.le_refl _, hft, rfl, I5⟩
  case round =>
    clear I5
    obtain ⟨k, hfk, hkt, rfl, HI⟩ := hrel
    have xx := fun i => cell_of_row _ _ i _ _ _ HI.out.hx
    have x0 := xx 0; have x1 := xx 1
    dsimp at x0 x1
    by_cases hlt : k < t
    · have hk1 : (k : Int) < t := by omega
      have hk0 : (0 : Int) ≤ k := by omega
      have hkn : (k : Int) < n := by omega
      have hkn' : k < n := by omega
      obtain ⟨g, rfl, hg1, hg2⟩ := ows_pos HI.out.o (by omega)
      have CA := Lib.hid (ch_any P (P + 1) a L n c k (p0 : Int) how wr.drew HN.out hl hkn' (HI.out.ci.below (Below.refl _ _).drew))
      have neX : Hid (g ≠ X) := Lib.hid (fun e => own_ne_kind HI.out.o HI.out.hx (by decide) (by rw [← e]; rfl))
      have hX2 : Hid (X < wr.drew.heap.size) := Lib.hid (blk_lt HI.out.hx)
      clear xx x1
      go_upto_region 7 with fail
      go_region_held3 (fun w' => w'.cell? ⟨X, 0, none⟩ = some (.slice (some ⟨g, 0, none⟩) n dx)) (first | exact x0 | exact x06 | exact (far1 neX.out).trans x06 | go_keep)
        (first | (go_at_call 168; refine CA.out.mono ?_; rintro e w6 ⟨rfl, hb⟩; have I6 := Lib.hid (HI.out.below ((Below.refl wr.heap.size wr).drew.trans hb)); have x06 := (hb.cell (p := ⟨X, 0, none⟩) hX2.out).trans x0; have d12 := ows_cells I6.out.o (by rw [cs_len]; exact HN.out) k hkn'; have d1 := d12.1; have d2 := d12.2; have gf := fun j => World.ownsRow.frozenAt (show w6.ownsRow w.heap.size 39 2 (.slice (some ⟨g, 0, none⟩) n dx) n (sRow (csL L how f k)).toList by have h := I6.out.o; unfold OwS at h; rw [cs_len, HN.out] at h; exact h) j; clear hb d12))
      go_wp2_with fail
      clear d1 d2 gf x06 x0
      have I7 := Lib.hid (I6.out.put HN.out hfk hkn' hg1 HS.out HT.out)
      clear I6 HI CA
      go_roundw
      case rel => exact ⟨k + 1, by omega, by omega, by go_num, I7⟩
      case measure => (simp [intOf]; try omega)
    · obtain rfl : k = t := by omega
      have hk1 : ¬ (k : Int) < k := by omega
      have xf := fun i => frozen_of_row _ X i _ _ HI.out.hx
      have neRX : W.heap.size ≠ X := by have := hWX.out; omega
      have XS5 : (wr.setCell ⟨X, 1, none⟩ (.int .i64 (k : Int))).heap[X]? = some (.cells #[.slice bx n dx, .int .i64 (k : Int)] 24 (0, 0)) := blk_set HI.out.hx 1 _
      have RS5 : (wr.setCell ⟨X, 1, none⟩ (.int .i64 (k : Int))).heap[W.heap.size]? = some (.cells #[.slice none 0 0, .int .i64 0] 24 (0, 0)) := by
        rw [Below.heap_setCell _ _ _ _ neRX]; exact HI.out.hr
      have OS5 : OwS (wr.setCell ⟨X, 1, none⟩ (.int .i64 (k : Int))) w.heap.size (.slice bx n dx) (csL L how f k) := by
        unfold OwS; exact own_set HI.out.o (own_ne_kind HI.out.o HI.out.hx (by decide)) _
      have NS5 : Below w.heap.size w (wr.setCell ⟨X, 1, none⟩ (.int .i64 (k : Int))) := HI.out.b.setCell (p := ⟨X, 1, none⟩) hX.out _
      clear xx
      go_upto_region 9 with fail
      generalize hW5 : World.setCell wr _ _ = W5
      rw [hW5] at XS5 RS5 OS5 NS5
      clear hW5 x0 x1 xf HI
      have O5 := Lib.hid OS5; have N5 := Lib.hid NS5; have R5 := Lib.hid RS5
      have yy := fun i => cell_of_row _ _ i _ _ _ XS5
      have x0 := yy 0; have x1 := yy 1
      have rr := fun i => cell_of_row _ _ i _ _ _ RS5
      have y0 := rr 0; have y1 := rr 1
      have yf := fun i => frozen_of_row _ W.heap.size i _ _ RS5
      dsimp at x0 x1 y0 y1
      clear yy rr OS5 NS5 RS5 XS5
      go_wp2_with fail
      clear x0 x1 y0 y1 yf
      generalize hWF : World.setCell _ _ _ = WF
      obtain ⟨_, g0, g1, gO, gB⟩ := ln_fin R5.out O5.out N5.out hHs.out hWF
      refine bodyPost_ret (v := .agg #[.slice bx n dx, .int .i64 (k : Int)]) (by simp [results, Tryd.results27, go_sem, g0, g1]) rfl ?_
      exact ⟨bx, dx, rfl, gO, gB⟩
end Go.Proofs.YtdnmjofenckndaaDoor
