/-
  Joined: Ln3 Ln4 Ln5 Ln9 Ln7 Ln10 Ln11 Ln6.
-/
import Derived.Test.YtgpcflpeddnfcaaDoorJO04
import Derived.Test.YtgpcflpeddnfcaaDoorJO05
import Derived.Test.YtgpcflpeddnfcaaDoorJO07
import Derived.Lib.QuietBelow
import Derived.Deep.RegionHeld3
import Derived.BigRegion
import Derived.BigQuiet
set_option linter.unusedVariables false
set_option linter.unusedSimpArgs false
set_option maxRecDepth 100000
set_option linter.unusedVariables false
set_option linter.unusedSimpArgs false
namespace Go.Proofs.YtgpcflpeddnfcaaDoor
open Go.RowKit Go.Sort
theorem lw_in (a : Option Addr) (n c : Nat) (x i : Int) (w : World) : Calls Tryd.prog 207 #[.agg #[.slice a n c, .int .i64 x], .int .i64 i] w fun e w' => e = .returned (.int .i64 (plc n i)) ∧ Below w.heap.size w w' := by
  have B0 := below_alloc w (.cells #[.slice a n c, .int .i64 x] 30)
  go_enter Tryd.func207, Tryd.ntmps207
  go_wp2
  all_goals
    go_ret
    exact ⟨retI (by unfold plc; omega), B0⟩
/-- The places of a cut. -/
def btF (n : Nat) (i j : Int) : Nat := (min (plc n i) (plc n j)).toNat
def btT (n : Nat) (i j : Int) : Nat := (max (plc n i) (plc n j)).toNat
theorem bt_le (n : Nat) (i j : Int) : btF n i j ≤ btT n i j ∧ btT n i j ≤ n := by unfold btF btT plc; omega
set_option maxHeartbeats 1000000 in
theorem lw_btw (a : Option Addr) (n c : Nat) (x i j : Int) (f t : Nat) (hf : btF n i j = f) (ht : btT n i j = t) (w : World) :
    Calls Tryd.prog 171 #[.agg #[.slice a n c, .int .i64 x], .int .i64 i, .int .i64 j] w fun e w' => e = .returned (.tuple #[.int .i64 (f : Int), .int .i64 (t : Int)]) ∧ Below w.heap.size w w' := by
  have B0 := below_alloc w (.cells #[.slice a n c, .int .i64 x] 30)
  have q0 := heap_alloc_new w (.cells #[.slice a n c, .int .i64 x] 30)
  obtain ⟨W, hW⟩ : ∃ W, w.alloc (.cells #[.slice a n c, .int .i64 x] 30) = W := ⟨_, rfl⟩
  rw [hW] at B0 q0
  have I1 := fun d os => (lw_in a n c x i (grow (redrawn W d) os)).regrown_of
  have I2 := fun d os => (lw_in a n c x j (grow (redrawn W d) os)).regrown_of
  have hp0 : 0 ≤ plc n i := by unfold plc; omega
  have hq0 : 0 ≤ plc n j := by unfold plc; omega
  unfold btF at hf; unfold btT at ht
  generalize plc n i = p at *
  generalize plc n j = q at *
  have hF : Hid ((if p < q then p else q) = (f : Int) ∧ (if p < q then q else p) = (t : Int) ∧ (if q < p then q else p) = (f : Int) ∧ (if q < p then p else q) = (t : Int) ∧ min p q = f ∧ max p q = t) := Lib.hid (by
    by_cases hpq : p < q
    · rw [if_pos hpq, if_pos hpq, if_neg (by omega), if_neg (by omega)]; omega
    · rw [if_neg hpq, if_neg hpq]
      by_cases hqp : q < p
      · rw [if_pos hqp, if_pos hqp]; omega
      · rw [if_neg hqp, if_neg hqp]; omega)
  replace I1 := Lib.hid I1; replace I2 := Lib.hid I2
  have yy := fun i => cell_of_row _ _ i _ _ _ q0
  have e0 := yy 0; have e1 := yy 1
  dsimp at e0 e1
  have G0 := fun d os => cell_regrown e0 d os
  have G1 := fun d os => cell_regrown e1 d os
  clear yy e0 e1 q0 hf ht hp0 hq0
  go_enter Tryd.func171, Tryd.ntmps171
  go_upto_region 1 with fail
  refine wp_region_quiet_below (by kernel_rfl) (by kernel_rfl) ?_
  repeat (any_goals (go_big_quiet_step (first | (go_at_call 207; with_reducible exact I1.out _ _) | (go_at_call 207; with_reducible exact I2.out _ _))))
  refine wpQuiet_nil ?_
  intro _ hw'
  obtain ⟨⟨dq, osq⟩, hw''⟩ := hw'
  subst hw''
  have NF := seqB B0 (below_regrown W dq osq)
  clear G0 G1
  generalize grow (redrawn W dq) osq = W6 at *
  go_wp2_with fail
  all_goals
    refine bodyPost_ret (results_tmp2 rfl _ _ _) rfl ?_
    obtain ⟨h1, h2, h3, h4, h5, h6⟩ := hF.out
    refine ⟨?_, NF⟩
    show Ending.returned (.tuple #[.int .i64 _, .int .i64 _]) = Ending.returned (.tuple #[.int .i64 (f : Int), .int .i64 (t : Int)])
    rw [show ∀ a b : Int, a = f → b = t → Ending.returned (.tuple #[.int .i64 a, .int .i64 b]) = Ending.returned (.tuple #[.int .i64 (f : Int), .int .i64 (t : Int)]) from fun a b h1 h2 => by rw [h1, h2]] <;> omega
/-- A line that has been laid into its box. -/
theorem ln_fin {w w5 : World} {R B N d : Nat} {b : Option Addr} {L : List (Int × Int)} {at_ : Int} {u0 u1 : Value} (hR : w5.heap[R]? = some (.cells #[u0, u1] 30 (0, 0))) (hO : OwS w5 B (.slice b N d) L) (hb : Below w.heap.size w w5) (hlt : w.heap.size ≤ R) {WF : World} (hWF : (w5.setCell ⟨R, 0, none⟩ (.slice b N d)).setCell ⟨R, 1, none⟩ (.int .i64 at_) = WF) :
    WF.heap[R]? = some (.cells #[.slice b N d, .int .i64 at_] 30 (0, 0)) ∧ WF.cell? ⟨R, 0, none⟩ = some (.slice b N d) ∧ WF.cell? ⟨R, 1, none⟩ = some (.int .i64 at_) ∧ OwS WF B (.slice b N d) L ∧ Below w.heap.size w WF := by
  have hq : WF.heap[R]? = some (.cells #[.slice b N d, .int .i64 at_] 30 (0, 0)) := by rw [← hWF]; exact blk_set (blk_set hR 0 _) 1 _
  refine ⟨hq, cell_of_row _ _ 0 _ _ _ hq, cell_of_row _ _ 1 _ _ _ hq, ?_, ?_⟩
  · rw [← hWF]; unfold OwS
    exact own_set (own_set hO (own_ne_kind hO hR (by decide)) _) (own_ne_kind hO hR (by decide)) _
  · rw [← hWF]; exact (hb.setCell (p := ⟨R, 0, none⟩) hlt _).setCell (p := ⟨R, 1, none⟩) hlt _
theorem farL {w : World} {p q i j k : Nat} {u v : Value} (h : p ≠ q) : ((w.setCell ⟨p, i, none⟩ u).setCell ⟨p, j, none⟩ v).cell? ⟨q, k, none⟩ = w.cell? ⟨q, k, none⟩ := by
  unfold World.cell?
  rw [Below.heap_setCell _ _ _ _ (Ne.symm h), Below.heap_setCell _ _ _ _ (Ne.symm h)]
end Go.Proofs.YtgpcflpeddnfcaaDoor
set_option linter.unusedVariables false
set_option linter.unusedSimpArgs false
namespace Go.Proofs.YtgpcflpeddnfcaaDoor
open Go.RowKit Go.Sort
/-- Signs one behind the other, out of a fresh block of slices. -/
theorem concatE (E : List SgArg) (cs : Array Value) (m N : Nat) (S : Nat → Prop) (w : World) (hcs : (E.map fun y => Value.slice y.a y.l.length y.c).toArray = cs) (hm : E.length = m) (hm2 : m ≤ 1000) (hN : (catL E).length = N) (hl : N ≤ 100000) (hs : ∀ y ∈ E, SlS S w y.a y.l y.c) :
    Calls Tryd.prog 172 #[.slice (some ⟨w.heap.size, 0, none⟩) m m] (w.alloc (.cells cs 28)) fun e w' => ∃ b d, e = .returned (.slice b N d) ∧ OwS w' w.heap.size (.slice b N d) (catL E) ∧ Below w.heap.size w w' := by
  have B0 := below_alloc w (.cells cs 28)
  have h0 := heap_alloc_new w (.cells cs 28)
  refine (concat_any E w.heap.size m N S _ (catIn_of (t := 28) (f := (0, 0)) (by rw [hcs]; exact h0) (fun y hy => (hs y hy).below B0)) hm hm2 hN hl).mono ?_
  rintro e w' ⟨b, d, rfl, ho, hb⟩
  exact ⟨b, d, rfl, ho.mono B0.size, seqB B0 hb⟩
theorem concat2 (x y : SgArg) (n1 n2 N : Nat) (S : Nat → Prop) (w : World) (h1 : x.l.length = n1) (h2 : y.l.length = n2) (hN : n1 + n2 = N) (hl : N ≤ 100000) (s1 : SlS S w x.a x.l x.c) (s2 : SlS S w y.a y.l y.c) :
    Calls Tryd.prog 172 #[.slice (some ⟨w.heap.size, 0, none⟩) 2 2] (w.alloc (.cells #[.slice x.a n1 x.c, .slice y.a n2 y.c] 28)) fun e w' => ∃ b d, e = .returned (.slice b N d) ∧ OwS w' w.heap.size (.slice b N d) (x.l ++ y.l) ∧ Below w.heap.size w w' := by
  have h := concatE [x, y] #[.slice x.a n1 x.c, .slice y.a n2 y.c] 2 N S w (by simp [h1, h2]) rfl (by omega) (by simp [catL, h1, h2, hN]) hl (by simp [s1, s2])
  simpa [catL] using h
theorem concat3 (x y z : SgArg) (n1 n2 n3 N : Nat) (S : Nat → Prop) (w : World) (h1 : x.l.length = n1) (h2 : y.l.length = n2) (h3 : z.l.length = n3) (hN : n1 + n2 + n3 = N) (hl : N ≤ 100000) (s1 : SlS S w x.a x.l x.c) (s2 : SlS S w y.a y.l y.c) (s3 : SlS S w z.a z.l z.c) :
    Calls Tryd.prog 172 #[.slice (some ⟨w.heap.size, 0, none⟩) 3 3] (w.alloc (.cells #[.slice x.a n1 x.c, .slice y.a n2 y.c, .slice z.a n3 z.c] 28)) fun e w' => ∃ b d, e = .returned (.slice b N d) ∧ OwS w' w.heap.size (.slice b N d) (x.l ++ y.l ++ z.l) ∧ Below w.heap.size w w' := by
  have h := concatE [x, y, z] #[.slice x.a n1 x.c, .slice y.a n2 y.c, .slice z.a n3 z.c] 3 N S w (by simp [h1, h2, h3]) rfl (by omega) (by simp [catL, h1, h2, h3, ← hN]; omega) hl (by simp [s1, s2, s3])
  simpa [catL] using h
theorem concat5 (x y z u v : SgArg) (n1 n2 n3 n4 n5 N : Nat) (S : Nat → Prop) (w : World) (h1 : x.l.length = n1) (h2 : y.l.length = n2) (h3 : z.l.length = n3) (h4 : u.l.length = n4) (h5 : v.l.length = n5) (hN : n1 + n2 + n3 + n4 + n5 = N) (hl : N ≤ 100000) (s1 : SlS S w x.a x.l x.c) (s2 : SlS S w y.a y.l y.c) (s3 : SlS S w z.a z.l z.c) (s4 : SlS S w u.a u.l u.c) (s5 : SlS S w v.a v.l v.c) :
    Calls Tryd.prog 172 #[.slice (some ⟨w.heap.size, 0, none⟩) 5 5] (w.alloc (.cells #[.slice x.a n1 x.c, .slice y.a n2 y.c, .slice z.a n3 z.c, .slice u.a n4 u.c, .slice v.a n5 v.c] 28)) fun e w' => ∃ b d, e = .returned (.slice b N d) ∧ OwS w' w.heap.size (.slice b N d) (x.l ++ y.l ++ z.l ++ u.l ++ v.l) ∧ Below w.heap.size w w' := by
  have h := concatE [x, y, z, u, v] #[.slice x.a n1 x.c, .slice y.a n2 y.c, .slice z.a n3 z.c, .slice u.a n4 u.c, .slice v.a n5 v.c] 5 N S w (by simp [h1, h2, h3, h4, h5]) rfl (by omega) (by simp [catL, h1, h2, h3, h4, h5, ← hN]; omega) hl (by simp [s1, s2, s3, s4, s5])
  simpa [catL] using h
set_option maxHeartbeats 4000000 in
theorem lw_rep (S : Nat → Prop) (L l : List (Int × Int)) (a b : Option Addr) (n c m d : Nat) (x i j : Int) (f t : Nat) (w : World) (hn : L.length = n) (hm : l.length = m) (hl : n + m ≤ 90000) (hf : btF n i j = f) (ht : btT n i j = t) (hs : SlS S w a L c) (hs2 : SlS S w b l d) :
    Calls Tryd.prog 130 #[.agg #[.slice a n c, .int .i64 x], .int .i64 i, .int .i64 j, .slice b m d] w fun e w' => ∃ ad d', e = .returned (.agg #[.slice ad (f + m + (n - t)) d', .int .i64 ((f : Int) + (m : Int))]) ∧ OwS w' w.heap.size (.slice ad (f + m + (n - t)) d') (L.take f ++ l ++ L.drop t) ∧ Below w.heap.size w w' := by
  have hbt := bt_le n i j
  rw [hf, ht] at hbt
  obtain ⟨hft, htn⟩ := hbt
  have hle := hs.le
  rw [hn] at hle
  have B0 := below_alloc w (.cells #[.slice a n c, .int .i64 x] 30)
  have q0 := heap_alloc_new w (.cells #[.slice a n c, .int .i64 x] 30)
  obtain ⟨W, hW⟩ : ∃ W, w.alloc (.cells #[.slice a n c, .int .i64 x] 30) = W := ⟨_, rfl⟩
  rw [hW] at B0 q0
  have B1 := seqB B0 (below_alloc W (.cells #[.slice none 0 0, .int .i64 0] 30))
  have q1 := blk_below q0 (below_alloc W (.cells #[.slice none 0 0, .int .i64 0] 30))
  have r1 := heap_alloc_new W (.cells #[.slice none 0 0, .int .i64 0] 30)
  obtain ⟨W1, hW1⟩ : ∃ W1, W.alloc (.cells #[.slice none 0 0, .int .i64 0] 30) = W1 := ⟨_, rfl⟩
  rw [hW1] at B1 q1 r1
  have hsW : Hid (W.heap.size = w.heap.size + 1 ∧ W1.heap.size = w.heap.size + 2) := Lib.hid (by rw [← hW1, ← hW]; simp)
  have BT := Lib.hid (lw_btw a n c x i j f t hf ht W1)
  have zz := fun i => cell_of_row _ _ i _ _ _ q1
  have z0 := zz 0; have z1 := zz 1
  dsimp at z0 z1
  have R1 := Lib.hid r1
  have hH : Hid (w.heap.size < W1.heap.size) := Lib.hid (by have := hsW.out; omega)
  obtain ⟨A1, hA1⟩ : ∃ x : Option Addr, (if c = 0 then a else a.map (·.add (0 * 2))) = x := ⟨_, rfl⟩
  obtain ⟨A2, hA2⟩ : ∃ x : Option Addr, (if c = t then a else a.map (·.add (t * 2))) = x := ⟨_, rfl⟩
  obtain ⟨s1, l1⟩ := hs.sub 0 f (Nat.zero_le _) (by omega)
  obtain ⟨s2, l2⟩ := hs.sub t L.length (by omega) (Nat.le_refl _)
  rw [hA1] at s1; rw [hA2] at s2
  rw [List.drop_zero, Nat.sub_zero] at s1 l1
  rw [Nat.sub_zero] at s1
  rw [List.take_of_length_le (by rw [List.length_drop]; omega)] at s2 l2
  rw [hn] at l2
  have hcut1 : ∀ w : World, (Instr.slice 28 (.slice a n c) none (some (.int .i64 (f : Int))) none).run Tryd.prog w = .ok (.slice A1 f c) w := fun w => by
    rw [run_cutH w a n c f (by omega), hA1]
  have hcut2 : ∀ w : World, (Instr.slice 28 (.slice a n c) (some (.int .i64 (t : Int))) none none).run Tryd.prog w = .ok (.slice A2 (n - t) (c - t)) w := fun w => by
    rw [run_cutL w a n c t (by omega), hA2]
  have CC := Lib.hid fun (w' : World) (hb : Below w.heap.size w w') => concat3 ⟨A1, L.take f, c⟩ ⟨b, l, d⟩ ⟨A2, L.drop t, c - t⟩ f m (n - t) (f + m + (n - t)) S w' l1 hm l2 rfl (by omega) (s1.below hb) (hs2.below hb) (s2.below hb)
  have hwr : IntKind.i64.wrap ((f : Int) + (m : Int)) = (f : Int) + (m : Int) := by rw [IntKind.wrap_i64]; omega
  clear hA1 hA2 s1 s2 l1 l2 hs hs2 q0 q1 r1 zz B0
  go_enter Tryd.func130, Tryd.ntmps130
  go_upto_region 1 with fail
  clear hW
  have hWne : Hid (W.heap.size ≠ w.heap.size) := Lib.hid (by have := hsW.out; omega)
  go_upto_region 2 with (go_at_call 171; refine BT.out.mono ?_; rintro e w2 ⟨rfl, hb⟩; have N2 := Lib.hid (seqB B1 hb); have z02 := (hb.cell (p := ⟨w.heap.size, 0, none⟩) hH.out).trans z0; have z12 := (hb.cell (p := ⟨w.heap.size, 1, none⟩) hH.out).trans z1; have R2 := Lib.hid (blk_below R1.out hb); clear hb BT z0 z1 R1)
  have CC2 := Lib.hid (CC.out w2.drew N2.out.drew)
  have hH2 : Hid (w.heap.size < w2.drew.heap.size) := Lib.hid (Nat.lt_of_lt_of_le hH.out (by have := N2.out.size; have := blk_lt R2.out; have := hsW.out; show _ ≤ w2.heap.size; omega))
  clear CC
  go_region_held3 (fun w' => w'.cell? ⟨w.heap.size, 0, none⟩ = some (.slice a n c) ∧ w'.cell? ⟨w.heap.size, 1, none⟩ = some (.int .i64 x)) (first | exact ⟨z02, z12⟩ | exact ⟨z03, z13⟩ | exact ⟨(World.cell?_alloc_lt _ _ _ hH2.out).trans z02, (World.cell?_alloc_lt _ _ _ hH2.out).trans z12⟩ | exact ⟨(farL hWne.out).trans z03, (farL hWne.out).trans z13⟩ | go_keep)
    (first | (go_at_call 172; refine CC2.out.mono ?_; rintro e w3 ⟨bx, dx, rfl, ho, hb⟩; have O3 := Lib.hid ho; have D3 := (Below.refl w2.heap.size w2).drew.trans hb; have N3 := Lib.hid (seqB N2.out D3); have z03 := (hb.cell (p := ⟨w.heap.size, 0, none⟩) hH2.out).trans z02; have z13 := (hb.cell (p := ⟨w.heap.size, 1, none⟩) hH2.out).trans z12; have R3 := Lib.hid (blk_below R2.out D3); have yf3 := fun i => frozen_of_row _ W.heap.size i _ _ R3.out; have yy := fun i => cell_of_row _ _ i _ _ _ R3.out; have y0 := yy 0; have y1 := yy 1; dsimp at y0 y1; clear ho hb yy D3))
  go_wp2
  clear z02 z12 z03 z13 y0 y1 yf3
  generalize hWF : World.setCell _ _ _ = WF
  obtain ⟨_, g0, g1, gO, gB⟩ := ln_fin R3.out O3.out N3.out (by have := hsW.out; omega) hWF
  refine bodyPost_ret (v := .agg #[.slice bx (f + m + (n - t)) dx, .int .i64 ((f : Int) + (m : Int))]) (by simp [results, Tryd.results130, go_sem, g0, g1]) rfl ?_
  exact ⟨bx, dx, rfl, gO.mono (by have := hH2.out; omega), gB⟩
set_option maxHeartbeats 2000000 in
theorem lw_ins (S : Nat → Prop) (L l : List (Int × Int)) (a b : Option Addr) (n c m d at_ : Nat) (w : World) (hn : L.length = n) (hm : l.length = m) (hl : n + m ≤ 90000) (hat : at_ ≤ n) (hs : SlS S w a L c) (hs2 : SlS S w b l d) :
    Calls Tryd.prog 87 #[.agg #[.slice a n c, .int .i64 (at_ : Int)], .slice b m d] w fun e w' => ∃ ad d', e = .returned (.agg #[.slice ad (at_ + m + (n - at_)) d', .int .i64 ((at_ : Int) + (m : Int))]) ∧ OwS w' w.heap.size (.slice ad (at_ + m + (n - at_)) d') (L.take at_ ++ l ++ L.drop at_) ∧ Below w.heap.size w w' := by
  have B0 := below_alloc w (.cells #[.slice a n c, .int .i64 (at_ : Int)] 30)
  have q0 := heap_alloc_new w (.cells #[.slice a n c, .int .i64 (at_ : Int)] 30)
  obtain ⟨W, hW⟩ : ∃ W, w.alloc (.cells #[.slice a n c, .int .i64 (at_ : Int)] 30) = W := ⟨_, rfl⟩
  rw [hW] at B0 q0
  have B1 := seqB B0 (below_alloc W (.cells #[.slice none 0 0, .int .i64 0] 30))
  have q1 := blk_below q0 (below_alloc W (.cells #[.slice none 0 0, .int .i64 0] 30))
  have r1 := heap_alloc_new W (.cells #[.slice none 0 0, .int .i64 0] 30)
  obtain ⟨W1, hW1⟩ : ∃ W1, W.alloc (.cells #[.slice none 0 0, .int .i64 0] 30) = W1 := ⟨_, rfl⟩
  rw [hW1] at B1 q1 r1
  have hsW : Hid (W.heap.size = w.heap.size + 1 ∧ W1.heap.size = w.heap.size + 2) := Lib.hid (by rw [← hW1, ← hW]; simp)
  have RP := Lib.hid (lw_rep S L l a b n c m d (at_ : Int) (at_ : Int) (at_ : Int) at_ at_ W1 hn hm hl (by unfold btF plc; omega) (by unfold btT plc; omega) (hs.below B1) (hs2.below B1))
  have zz := fun i => cell_of_row _ _ i _ _ _ q1
  have z0 := zz 0; have z1 := zz 1
  dsimp at z0 z1
  have R1 := Lib.hid r1
  clear hs hs2 q0 q1 r1 zz B0
  go_enter Tryd.func87, Tryd.ntmps87
  go_upto_region 1 with fail
  clear hW
  go_wp2_with (go_at_call 130; refine RP.out.mono ?_; rintro e w2 ⟨bx, dx, rfl, ho, hb⟩; have O2 := Lib.hid ho; have N2 := Lib.hid (seqB B1 hb); have R2 := Lib.hid (blk_below R1.out hb); have yf2 := fun i => frozen_of_row _ W.heap.size i _ _ R2.out; have yy := fun i => cell_of_row _ _ i _ _ _ R2.out; have y0 := yy 0; have y1 := yy 1; dsimp at y0 y1; clear ho hb yy)
  clear z0 z1 y0 y1 yf2
  generalize hWF : World.setCell _ _ _ = WF
  obtain ⟨_, g0, g1, gO, gB⟩ := ln_fin R2.out O2.out N2.out (by have := hsW.out; omega) hWF
  refine bodyPost_ret (v := .agg #[.slice bx (at_ + m + (n - at_)) dx, .int .i64 ((at_ : Int) + (m : Int))]) (by simp [results, Tryd.results87, go_sem, g0, g1]) rfl ?_
  exact ⟨bx, dx, rfl, gO.mono (by have := hsW.out; omega), gB⟩
end Go.Proofs.YtgpcflpeddnfcaaDoor
set_option linter.unusedVariables false
set_option linter.unusedSimpArgs false
namespace Go.Proofs.YtgpcflpeddnfcaaDoor
open Go.RowKit Go.Sort
/-- A sign of an owned row is written. -/
theorem ows_put {w : World} {B g n d : Nat} {L : List (Int × Int)} (h : OwS w B (.slice (some ⟨g, 0, none⟩) n d) L) (hn : L.length = n) (k : Nat) (hk : k < n) (p : Int × Int) :
    OwS ((w.setCell ⟨g, k * 2, none⟩ (.int .i64 p.1)).setCell ⟨g, k * 2 + 1, none⟩ (.int .i64 p.2)) B (.slice (some ⟨g, 0, none⟩) n d) (L.set k p) := by
  subst hn
  unfold OwS at h ⊢
  have h2 := (World.ownsRow.stored (World.ownsRow.stored h (k * 2) (.int .i64 p.1)).1 (k * 2 + 1) (.int .i64 p.2)).1
  rw [List.length_set]
  have e := sRow_set L k p hk
  rw [← e, Array.toList_setIfInBounds, Array.toList_setIfInBounds]
  exact h2
theorem ows_cells {w : World} {B g n d : Nat} {L : List (Int × Int)} (h : OwS w B (.slice (some ⟨g, 0, none⟩) n d) L) (hn : L.length = n) (k : Nat) (hk : k < n) :
    w.cell? ⟨g, k * 2, none⟩ = some (.int .i64 (L.getD k (0, 0)).1) ∧ w.cell? ⟨g, k * 2 + 1, none⟩ = some (.int .i64 (L.getD k (0, 0)).2) := by
  subst hn
  unfold OwS at h
  have e := sRow_at L k hk
  exact ⟨by rw [h.cellAt _ (by omega)]; exact e.1, by rw [h.cellAt _ (by omega)]; exact e.2⟩
theorem ows_pos {w : World} {B n d : Nat} {b : Option Addr} {L : List (Int × Int)} (h : OwS w B (.slice b n d) L) (hp : 0 < n) : ∃ g, b = some ⟨g, 0, none⟩ ∧ B ≤ g ∧ g < w.heap.size := by
  unfold OwS at h
  rcases h.2 with ⟨e, h0⟩ | ⟨g, cap, cur, e, hB, hg, _⟩
  · injection e with e1 e2 e3; omega
  · injection e with e1 e2 e3
    exact ⟨g, e1, hB, blk_lt hg⟩
def swI (n at_ : Nat) : Nat := min at_ (n - 1)
def swM (L : List (Int × Int)) (at_ : Nat) : List (Int × Int) := L.take (swI L.length at_ - 1) ++ [L.getD (swI L.length at_) (0, 0), L.getD (swI L.length at_ - 1) (0, 0)] ++ L.drop (swI L.length at_ + 1)
theorem sw_set (L : List (Int × Int)) (i : Nat) (h0 : 0 < i) (hi : i < L.length) : (L.set (i - 1) (L.getD i (0, 0))).set i (L.getD (i - 1) (0, 0)) = L.take (i - 1) ++ [L.getD i (0, 0), L.getD (i - 1) (0, 0)] ++ L.drop (i + 1) := by
  obtain ⟨k, rfl⟩ : ∃ k, i = k + 1 := ⟨i - 1, by omega⟩
  rw [Nat.add_sub_cancel]
  apply List.ext_getElem
  · simp; omega
  · intro j h1 h2
    simp only [List.length_set] at h1
    rw [List.getElem_set, List.getElem_set]
    by_cases e1 : k + 1 = j
    · subst e1
      rw [if_pos rfl, List.getElem_append_left (by simp; omega), List.getElem_append_right (by simp; omega)]
      simp only [List.length_take, Nat.min_eq_left (show k ≤ L.length by omega), show k + 1 - k = 1 by omega, List.getElem_cons_succ, List.getElem_cons_zero]
    · rw [if_neg e1]
      by_cases e2 : k = j
      · subst e2
        rw [if_pos rfl, List.getElem_append_left (by simp; omega), List.getElem_append_right (by simp; omega)]
        simp only [List.length_take, Nat.min_eq_left (show k ≤ L.length by omega), Nat.sub_self, List.getElem_cons_zero]
      · rw [if_neg e2]
        by_cases e3 : j < k
        · rw [List.getElem_append_left (by simp; omega), List.getElem_append_left (by simp; omega), List.getElem_take]
        · rw [List.getElem_append_right (by simp; omega), List.getElem_drop]
          congr 1
          simp; omega
theorem swM_len (L : List (Int × Int)) (at_ : Nat) (h0 : 0 < at_) (h2 : 2 ≤ L.length) : (swM L at_).length = L.length := by
  unfold swM swI; simp; omega
end Go.Proofs.YtgpcflpeddnfcaaDoor
set_option linter.unusedVariables false
set_option linter.unusedSimpArgs false
namespace Go.Proofs.YtgpcflpeddnfcaaDoor
open Go.RowKit Go.Sort
def cutAt (f t p : Nat) : Nat := if t < p then p - (t - f) else if f < p then f else p
end Go.Proofs.YtgpcflpeddnfcaaDoor
set_option linter.unusedVariables false
set_option linter.unusedSimpArgs false
namespace Go.Proofs.YtgpcflpeddnfcaaDoor
open Go.RowKit Go.Sort
def swpM (L : List (Int × Int)) (s1 e1 s2 e2 : Nat) : List (Int × Int) := L.take s1 ++ (L.drop s2).take (e2 - s2) ++ (L.drop e1).take (s2 - e1) ++ (L.drop s1).take (e1 - s1) ++ L.drop e2
/-- May the words change places? -/
def swpOk (s1 e1 s2 : Nat) (x1 x2 : Bool) : Prop := s1 < s2 ∧ e1 ≤ s2 ∧ x1 = true ∧ x2 = true
/-- The places of the two words. -/
structure Wds (L : List (Int × Int)) (at_ m s2 e2 s1 e1 : Nat) : Prop where
  hm : nextM L (at_ : Int) = m
  hs2 : backM L (m : Int) = s2
  he2 : nextM L (s2 : Int) = e2
  hs1 : backM L (s2 : Int) = s1
  he1 : nextM L (s1 : Int) = e1
theorem plc_nat (n k : Nat) (h : k ≤ n) : plc n (k : Int) = k := by unfold plc; omega
theorem wds_ex (L : List (Int × Int)) (at_ : Nat) : ∃ m s2 e2 s1 e1, Wds L at_ m s2 e2 s1 e1 ∧ s2 ≤ L.length ∧ e2 ≤ L.length ∧ s1 ≤ L.length ∧ e1 ≤ L.length ∧ s2 ≤ e2 ∧ s1 ≤ e1 := by
  have r1 := next_rng L at_
  have p1 : 0 ≤ plc L.length at_ := by unfold plc; omega
  obtain ⟨m, hm⟩ := Int.eq_ofNat_of_zero_le (show 0 ≤ nextM L at_ by omega)
  have r2 := back_rng L m
  have p2 := plc_cases L.length m
  obtain ⟨s2, hs2⟩ := Int.eq_ofNat_of_zero_le r2.1
  have q2 : s2 ≤ L.length := by obtain ⟨k, hk, hkl⟩ := p2; omega
  have r3 := next_rng L s2
  rw [plc_nat _ _ q2] at r3
  obtain ⟨e2, he2⟩ := Int.eq_ofNat_of_zero_le (show 0 ≤ nextM L s2 by omega)
  have r4 := back_rng L s2
  rw [plc_nat _ _ q2] at r4
  obtain ⟨s1, hs1⟩ := Int.eq_ofNat_of_zero_le r4.1
  have r5 := next_rng L s1
  rw [plc_nat _ s1 (by omega)] at r5
  obtain ⟨e1, he1⟩ := Int.eq_ofNat_of_zero_le (show 0 ≤ nextM L s1 by omega)
  exact ⟨m, s2, e2, s1, e1, ⟨hm, hs2, he2, hs1, he1⟩, q2, by omega, by omega, by omega, by omega, by omega⟩
end Go.Proofs.YtgpcflpeddnfcaaDoor
set_option linter.unusedVariables false
set_option linter.unusedSimpArgs false
namespace Go.Proofs.YtgpcflpeddnfcaaDoor
open Go.RowKit Go.Sort
def grM (v : Int) : Int := if 97 ≤ v ∧ v ≤ 122 then v - 32 else v
def smM (v : Int) : Int := if 65 ≤ v ∧ v ≤ 90 then v + 32 else v
theorem gr_sm (v : Int) : grM (smM v) = grM v := by unfold grM smM; repeat' split
                                                    all_goals omega
theorem gr_gr (v : Int) : grM (grM v) = grM v := by unfold grM; repeat' split
                                                    all_goals omega
/-- What a letter of a line becomes. -/
def chM (L : List (Int × Int)) (how : Int) (k : Nat) : Int :=
  if how = 0 then grM (L.getD k (0, 0)).1 else if how = 1 then smM (L.getD k (0, 0)).1 else if how = 2 then (if (kAt L false ((k : Int) - 1) == 1) = true then smM (L.getD k (0, 0)).1 else grM (L.getD k (0, 0)).1) else (L.getD k (0, 0)).1
theorem ch_gr (L : List (Int × Int)) (how : Int) (k : Nat) : grM (chM L how k) = grM (L.getD k (0, 0)).1 := by
  unfold chM
  repeat' split
  all_goals first | exact gr_gr _ | exact gr_sm _ | rfl
/-- The closure's two blocks. -/
structure ChIn (w : World) (p q : Nat) (a : Option Addr) (L : List (Int × Int)) (n c : Nat) (x how : Int) : Prop where
  hp : w.heap[p]? = some (.cells #[.slice a n c, .int .i64 x] 30 (0, 0))
  hq : w.heap[q]? = some (.cells #[.int .i64 how] 3 (0, 0))
  s : Signs w a L
  t : Tabs w
theorem ChIn.below {w w' : World} {p q : Nat} {a : Option Addr} {L : List (Int × Int)} {n c : Nat} {x how : Int} (h : ChIn w p q a L n c x how) (hb : Below w.heap.size w w') : ChIn w' p q a L n c x how :=
  ⟨blk_below h.hp hb, blk_below h.hq hb, h.s.below hb, h.t.below hb⟩
end Go.Proofs.YtgpcflpeddnfcaaDoor
set_option linter.unusedVariables false
set_option linter.unusedSimpArgs false
namespace Go.Proofs.YtgpcflpeddnfcaaDoor
open Go.RowKit Go.Sort
theorem list_set_self (xs : List Value) (j : Nat) (v : Value) (h : xs[j]? = some v) : xs.set j v = xs := by
  apply List.ext_getElem?
  intro i
  rw [List.getElem?_set]
  split
  · rename_i e
    subst e
    split
    · exact h.symm
    · rename_i hlt
      rw [List.getElem?_eq_none (by omega)] at h; cases h
  · rfl
/-- A sign's value is written. -/
theorem ows_putV {w : World} {B g n d : Nat} {L : List (Int × Int)} (h : OwS w B (.slice (some ⟨g, 0, none⟩) n d) L) (hn : L.length = n) (k : Nat) (hk : k < n) (u : Int) :
    OwS (w.setCell ⟨g, k * 2, none⟩ (.int .i64 u)) B (.slice (some ⟨g, 0, none⟩) n d) (L.set k (u, (L.getD k (0, 0)).2)) := by
  subst hn
  unfold OwS at h ⊢
  have h2 := (World.ownsRow.stored h (k * 2) (.int .i64 u)).1
  rw [List.length_set]
  have e := sRow_set L k (u, (L.getD k (0, 0)).2) hk
  rw [← e, Array.toList_setIfInBounds, Array.toList_setIfInBounds, list_set_self]
  · exact h2
  · rw [List.getElem?_set_ne (by omega)]
    exact (sRow_at L k hk).2
def csL (L : List (Int × Int)) (how : Int) (f k : Nat) : List (Int × Int) :=
  (List.range L.length).map fun i => if f ≤ i ∧ i < k then (chM L how i, (L.getD i (0, 0)).2) else L.getD i (0, 0)
theorem cs_len (L : List (Int × Int)) (how : Int) (f k : Nat) : (csL L how f k).length = L.length := by unfold csL; simp
theorem cs_at (L : List (Int × Int)) (how : Int) (f k i : Nat) (hi : i < L.length) : (csL L how f k).getD i (0, 0) = if f ≤ i ∧ i < k then (chM L how i, (L.getD i (0, 0)).2) else L.getD i (0, 0) := by
  unfold csL
  rw [List.getD, List.getElem?_map, List.getElem?_range hi]; rfl
theorem list_extD {l m : List (Int × Int)} (h : l.length = m.length) (hh : ∀ j, j < l.length → l.getD j (0, 0) = m.getD j (0, 0)) : l = m := by
  apply List.ext_getElem h
  intro j h1 h2
  have := hh j h1
  simpa [List.getD, List.getElem?_eq_getElem h1, List.getElem?_eq_getElem h2] using this
theorem getD_setL (R : List (Int × Int)) (i j : Nat) (x : Int × Int) (hi : i < R.length) : (R.set i x).getD j (0, 0) = if i = j then x else R.getD j (0, 0) := by
  rw [List.getD, List.getElem?_set]
  by_cases h : i = j
  · rw [if_pos h, if_pos h, if_pos hi]; rfl
  · rw [if_neg h, if_neg h]; rfl
theorem cs_0 (L : List (Int × Int)) (how : Int) (f : Nat) : csL L how f f = L := by
  refine list_extD (cs_len _ _ _ _) (fun j hj => ?_)
  rw [cs_len] at hj
  rw [cs_at _ _ _ _ _ hj, if_neg (by omega)]
theorem cs_next (L : List (Int × Int)) (how : Int) (f k : Nat) (hf : f ≤ k) (hk : k < L.length) : csL L how f (k + 1) = (csL L how f k).set k (chM L how k, ((csL L how f k).getD k (0, 0)).2) := by
  refine list_extD (by rw [List.length_set, cs_len, cs_len]) (fun j hj => ?_)
  rw [cs_len] at hj
  rw [getD_setL _ _ _ _ (by rw [cs_len]; exact hk), cs_at _ _ _ _ _ hj, cs_at _ _ _ _ _ hk, cs_at _ _ _ _ _ hj, if_neg (show ¬ (f ≤ k ∧ k < k) by omega)]
  by_cases e : k = j
  · subst e
    rw [if_pos rfl, if_pos (by omega)]
  · rw [if_neg e]
    by_cases h : f ≤ j ∧ j < k
    · rw [if_pos h, if_pos (by omega)]
    · rw [if_neg h, if_neg (by omega)]
/-- A line under way. -/
structure CsI (w : World) (R X p q : Nat) (a bx : Option Addr) (L : List (Int × Int)) (n c dx f k : Nat) (x how : Int) (wr : World) : Prop where
  b : Below w.heap.size w wr
  ci : ChIn wr p q a L n c x how
  hx : wr.heap[X]? = some (.cells #[.slice bx n dx, .int .i64 x] 30 (0, 0))
  hr : wr.heap[R]? = some (.cells #[.slice none 0 0, .int .i64 0] 30 (0, 0))
  o : OwS wr w.heap.size (.slice bx n dx) (csL L how f k)
theorem CsI.below {w wr w' : World} {R X p q : Nat} {a bx : Option Addr} {L : List (Int × Int)} {n c dx f k : Nat} {x how : Int} (h : CsI w R X p q a bx L n c dx f k x how wr) (hb : Below wr.heap.size wr w') : CsI w R X p q a bx L n c dx f k x how w' :=
  ⟨seqB h.b hb, h.ci.below hb, blk_below h.hx hb, blk_below h.hr hb, ows_keep h.o hb⟩
theorem CsI.put {w wr : World} {R X p q g : Nat} {a : Option Addr} {L : List (Int × Int)} {n c dx f k : Nat} {x how : Int} (h : CsI w R X p q a (some ⟨g, 0, none⟩) L n c dx f k x how wr) (hn : L.length = n) (hf : f ≤ k) (hk : k < n) (hg : w.heap.size ≤ g) (hold : Signs w a L) (hT : Tabs w) :
    CsI w R X p q a (some ⟨g, 0, none⟩) L n c dx f (k + 1) x how (wr.setCell ⟨g, k * 2, none⟩ (.int .i64 (chM L how k))) := by
  have hb : Below w.heap.size w (wr.setCell ⟨g, k * 2, none⟩ (.int .i64 (chM L how k))) := h.b.setCell (p := ⟨g, k * 2, none⟩) hg _
  have ne : ∀ {k2 : Nat} {cs : Array Value} {T : TypeId} {fr : Nat × Nat}, wr.heap[k2]? = some (.cells cs T fr) → T ≠ 70 → k2 ≠ g := fun h1 hT e => own_ne_kind h.o h1 hT (by rw [e]; rfl)
  refine ⟨hb, ⟨?_, ?_, hold.below hb, hT.below hb⟩, ?_, ?_, ?_⟩
  · rw [Below.heap_setCell _ _ _ _ (ne h.ci.hp (by decide))]; exact h.ci.hp
  · rw [Below.heap_setCell _ _ _ _ (ne h.ci.hq (by decide))]; exact h.ci.hq
  · rw [Below.heap_setCell _ _ _ _ (ne h.hx (by decide))]; exact h.hx
  · rw [Below.heap_setCell _ _ _ _ (ne h.hr (by decide))]; exact h.hr
  · rw [cs_next L how f k hf (by omega)]
    exact ows_putV h.o (by rw [cs_len]; exact hn) k hk _
theorem far1 {w : World} {p q i k : Nat} {u : Value} (h : p ≠ q) : (w.setCell ⟨p, i, none⟩ u).cell? ⟨q, k, none⟩ = w.cell? ⟨q, k, none⟩ := by
  unfold World.cell?
  rw [Below.heap_setCell _ _ _ _ (Ne.symm h)]
end Go.Proofs.YtgpcflpeddnfcaaDoor
set_option linter.unusedVariables false
set_option linter.unusedSimpArgs false
namespace Go.Proofs.YtgpcflpeddnfcaaDoor
open Go.RowKit Go.Sort
theorem r17_may (L : List (Int × Int)) (a : Option Addr) (n c : Nat) (x : Int) (w : World) (hn : L.length = n) (hl : n ≤ 1000000) (hs : Signs w a L) :
    Calls Tryd.prog 32 #[.agg #[.slice a n c, .int .i64 x]] w fun e w' => e = .returned (.bool (decide (0 ≤ x) && decide (x ≤ n) && sgC L)) ∧ Below w.heap.size w w' := by
  have B0 := below_alloc w (.cells #[.slice a n c, .int .i64 x] 30)
  have AL := sgall_ref L a c (w.alloc (.cells #[.slice a n c, .int .i64 x] 30)) (by omega) (hs.below B0)
  rw [hn] at AL
  replace AL := Lib.hid AL
  clear hs
  by_cases h1 : 0 ≤ x
  · by_cases h2 : x ≤ n
    · rw [decide_eq_true h1, decide_eq_true h2]
      go_enter Tryd.func32, Tryd.ntmps32
      go_wp2_with (go_at_call 85; refine AL.out.mono ?_; rintro e w1 ⟨rfl, b1⟩)
      go_ret
      exact ⟨by simp, seqB B0 b1⟩
    · rw [decide_eq_false h2]
      go_enter Tryd.func32, Tryd.ntmps32
      go_wp2_with fail
      go_ret
      exact ⟨by simp, B0⟩
  · rw [decide_eq_false h1]
    go_enter Tryd.func32, Tryd.ntmps32
    go_wp2_with fail
    go_ret
    exact ⟨by simp, B0⟩
theorem r16_same (L M : List (Int × Int)) (a b : Option Addr) (n m c d : Nat) (x y : Int) (w : World) (hn : L.length = n) (hm : M.length = m) (hl : n ≤ 1000000) (hl2 : m ≤ 1000000) (hs : Signs w a L) (ht : Signs w b M) (hx : x = y) (hL : L = M) :
    Calls Tryd.prog 16 #[.agg #[.slice a n c, .int .i64 x], .agg #[.slice b m d, .int .i64 y]] w fun e w' => e = .returned (.bool true) ∧ Below w.heap.size w w' := by
  subst hx
  have B0 := seqB (below_alloc w (.cells #[.slice a n c, .int .i64 x] 30)) (below_alloc _ (.cells #[.slice b m d, .int .i64 x] 30))
  have SM := sgsame_ref L M a b c d ((w.alloc (.cells #[.slice a n c, .int .i64 x] 30)).alloc (.cells #[.slice b m d, .int .i64 x] 30)) (by omega) (by omega) (hs.below B0) (ht.below B0)
  rw [hn, hm, decide_eq_true hL] at SM
  replace SM := Lib.hid SM
  clear hs ht hL
  go_enter Tryd.func16, Tryd.ntmps16
  go_wp2_with (go_at_call 24; refine SM.out.mono ?_; rintro e w1 ⟨rfl, b1⟩)
  go_ret
  exact ⟨rfl, seqB B0 b1⟩
end Go.Proofs.YtgpcflpeddnfcaaDoor
