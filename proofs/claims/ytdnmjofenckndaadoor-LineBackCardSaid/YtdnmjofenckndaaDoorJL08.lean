/-
  Joined: Ln8 Ln6 Ln12 Ln13 Ln14.
-/
import Derived.Test.YtdnmjofenckndaaDoorJL04
import Derived.Test.YtdnmjofenckndaaDoorJL07
set_option linter.unusedVariables false
set_option linter.unusedSimpArgs false
set_option maxRecDepth 100000
set_option linter.unusedVariables false
set_option linter.unusedSimpArgs false
namespace Go.Proofs.YtdnmjofenckndaaDoor
open Go.RowKit Go.Sort
theorem next5_n (L : List (Int × Int)) (a : Option Addr) (n c : Nat) (i : Int) (k : Nat) (w : World) (hn : L.length = n) (hl : n ≤ 90000) (hk : nextM L i = k) (hs : Signs w a L) :
    Calls Tryd.prog 89 #[.slice a n c, .int .i64 i] w fun e w' => e = .returned (.int .i64 (k : Int)) ∧ Below w.heap.size w w' := by
  rw [← hk]; exact next5_ref L a n c i w hn (by omega) hs
theorem back5_n (L : List (Int × Int)) (a : Option Addr) (n c : Nat) (i : Int) (k : Nat) (w : World) (hn : L.length = n) (hl : n ≤ 90000) (hk : backM L i = k) (hs : Signs w a L) :
    Calls Tryd.prog 88 #[.slice a n c, .int .i64 i] w fun e w' => e = .returned (.int .i64 (k : Int)) ∧ Below w.heap.size w w' := by
  rw [← hk]; exact back5_ref L a n c i w hn (by omega) hs
theorem ows_slT {w : World} {B n d : Nat} {b : Option Addr} {L : List (Int × Int)} (h : OwS w B (.slice b n d) L) : SlS (fun _ => True) w b L d := by
  obtain ⟨a, c, e, hs⟩ := h.sl
  injection e with e1 e2 e3
  subst e1; subst e3
  exact hs.mono (fun _ _ => trivial)
set_option maxHeartbeats 8000000 in
theorem r17_swp (S : Nat → Prop) (L : List (Int × Int)) (a : Option Addr) (n c at_ m s2 e2 s1 e1 : Nat) (w : World) (hn : L.length = n) (hl : n ≤ 90000) (hat : at_ ≤ n) (hW : Wds L at_ m s2 e2 s1 e1) (g1 : s2 ≤ n) (g2 : e2 ≤ n) (g3 : s1 ≤ n) (g4 : e1 ≤ n) (g5 : s2 ≤ e2) (g6 : s1 ≤ e1) (x1 x2 : Bool) (hx1 : (kAt L false (s1 : Int) == 1) = x1) (hx2 : (kAt L false (s2 : Int) == 1) = x2) (hs : SlS S w a L c) :
    Calls Tryd.prog 20 #[.agg #[.slice a n c, .int .i64 (at_ : Int)]] w fun e w' => (swpOk s1 e1 s2 x1 x2 → ∃ ad d', e = .returned (.tuple #[.agg #[.slice ad n d', .int .i64 (e2 : Int)], .bool true]) ∧ OwS w' w.heap.size (.slice ad n d') (swpM L s1 e1 s2 e2)) ∧ (¬ swpOk s1 e1 s2 x1 x2 → e = .returned (.tuple #[.agg #[.slice a n c, .int .i64 (at_ : Int)], .bool false])) ∧ Below w.heap.size w w' := by
  have hle := hs.le
  rw [hn] at hle
  have B0 := below_alloc w (.cells #[.slice a n c, .int .i64 (at_ : Int)] 24)
  obtain ⟨W, hW0⟩ : ∃ W, w.alloc (.cells #[.slice a n c, .int .i64 (at_ : Int)] 24) = W := ⟨_, rfl⟩
  rw [hW0] at B0
  have q0 : W.heap[w.heap.size]? = some (.cells #[.slice a n c, .int .i64 (at_ : Int)] 24 (0, 0)) := by rw [← hW0]; exact heap_alloc_new _ _
  have B1 := seqB B0 (below_alloc W (.cells #[.slice none 0 0, .int .i64 0] 24))
  have q1 := blk_below q0 (below_alloc W (.cells #[.slice none 0 0, .int .i64 0] 24))
  have r1 := heap_alloc_new W (.cells #[.slice none 0 0, .int .i64 0] 24)
  obtain ⟨W1, hW1⟩ : ∃ W1, W.alloc (.cells #[.slice none 0 0, .int .i64 0] 24) = W1 := ⟨_, rfl⟩
  rw [hW1] at B1 q1 r1
  have hsW : Hid (W.heap.size = w.heap.size + 1 ∧ W1.heap.size = w.heap.size + 2) := Lib.hid (by rw [← hW1, ← hW0]; simp)
  have HS := Lib.hid hs
  have HN := Lib.hid hn
  have N2 := Lib.hid B1
  have Q2 := Lib.hid q1
  have R2 := Lib.hid r1
  have L1 := kRf_one L s1
  have L2 := kRf_one L s2
  have Z1 := Lib.hid fun (w' : World) (hb : Below w.heap.size w w') => next5_n L a n c (at_ : Int) m w' hn hl hW.hm (hs.s.below hb)
  have Z2 := Lib.hid fun (w' : World) (hb : Below w.heap.size w w') => back5_n L a n c (m : Int) s2 w' hn hl hW.hs2 (hs.s.below hb)
  have C1 := Lib.hid fun (w' : World) (hb : Below w.heap.size w w') => next5_n L a n c (s2 : Int) e2 w' hn hl hW.he2 (hs.s.below hb)
  have C2 := Lib.hid fun (w' : World) (hb : Below w.heap.size w w') => back5_n L a n c (s2 : Int) s1 w' hn hl hW.hs1 (hs.s.below hb)
  have C3 := Lib.hid fun (w' : World) (hb : Below w.heap.size w w') => next5_n L a n c (s1 : Int) e1 w' hn hl hW.he1 (hs.s.below hb)
  have C4 := fun (w' : World) (hb : Below w.heap.size w w') => at5_ref L a n c (s1 : Int) w' hn (by omega) (hs.s.below hb)
  have C5 := fun (w' : World) (hb : Below w.heap.size w w') => at5_ref L a n c (s2 : Int) w' hn (by omega) (hs.s.below hb)
  rw [hx1] at L1; rw [hx2] at L2
  generalize kRf L s1 = v1 at *
  generalize kRf L s2 = v2 at *
  replace C4 := Lib.hid C4; replace C5 := Lib.hid C5
  have zz := fun i => cell_of_row _ _ i _ _ _ q1
  have z0 := zz 0; have z1 := zz 1
  dsimp at z0 z1
  have hHs : Hid (w.heap.size ≤ W.heap.size) := Lib.hid (by have := hsW.out; omega)
  clear zz q0 q1 r1 B0 B1 hs hx1 hx2 hW hn
  go_enter Tryd.func20, Tryd.ntmps20
  go_upto_region 1 with fail
  clear hW0
  clear hW1
  go_upto_region 6 with (first
    | (go_at_call 89; (with_reducible refine (Z1.out _ N2.out).mono ?_); rintro e w3 ⟨rfl, hb⟩; have N3 := Lib.hid (seqB N2.out hb); have Q3 := Lib.hid (blk_below Q2.out hb); have R3 := Lib.hid (blk_below R2.out hb); have z03 := (hb.cell (p := ⟨w.heap.size, 0, none⟩) (blk_lt Q2.out)).trans z0; have z13 := (hb.cell (p := ⟨w.heap.size, 1, none⟩) (blk_lt Q2.out)).trans z1; clear hb z0 z1 N2 Q2 R2 Z1)
    | (go_at_call 88; (with_reducible refine (Z2.out _ N3.out).mono ?_); rintro e w4 ⟨rfl, hb⟩; have N4 := Lib.hid (seqB N3.out hb); have Q4 := Lib.hid (blk_below Q3.out hb); have R4 := Lib.hid (blk_below R3.out hb); have z04 := (hb.cell (p := ⟨w.heap.size, 0, none⟩) (blk_lt Q3.out)).trans z03; have z14 := (hb.cell (p := ⟨w.heap.size, 1, none⟩) (blk_lt Q3.out)).trans z13; clear hb z03 z13 N3 Q3 R3 Z2)
    | (go_at_call 89; (with_reducible refine (C1.out _ N4.out).mono ?_); rintro e w5 ⟨rfl, hb⟩; have N5 := Lib.hid (seqB N4.out hb); have Q5 := Lib.hid (blk_below Q4.out hb); have R5 := Lib.hid (blk_below R4.out hb); have z05 := (hb.cell (p := ⟨w.heap.size, 0, none⟩) (blk_lt Q4.out)).trans z04; have z15 := (hb.cell (p := ⟨w.heap.size, 1, none⟩) (blk_lt Q4.out)).trans z14; clear hb z04 z14 N4 Q4 R4 C1)
    | (go_at_call 88; (with_reducible refine (C2.out _ N5.out).mono ?_); rintro e w6 ⟨rfl, hb⟩; have N6 := Lib.hid (seqB N5.out hb); have Q6 := Lib.hid (blk_below Q5.out hb); have R6 := Lib.hid (blk_below R5.out hb); have z06 := (hb.cell (p := ⟨w.heap.size, 0, none⟩) (blk_lt Q5.out)).trans z05; have z16 := (hb.cell (p := ⟨w.heap.size, 1, none⟩) (blk_lt Q5.out)).trans z15; clear hb z05 z15 N5 Q5 R5 C2)
    | (go_at_call 89; (with_reducible refine (C3.out _ N6.out).mono ?_); rintro e w7 ⟨rfl, hb⟩; have N7 := Lib.hid (seqB N6.out hb); have Q7 := Lib.hid (blk_below Q6.out hb); have R7 := Lib.hid (blk_below R6.out hb); have z07 := (hb.cell (p := ⟨w.heap.size, 0, none⟩) (blk_lt Q6.out)).trans z06; have z17 := (hb.cell (p := ⟨w.heap.size, 1, none⟩) (blk_lt Q6.out)).trans z16; clear hb z06 z16 N6 Q6 R6 C3))
  by_cases hc1 : s1 < s2
  rotate_left
  · have hd1 : (s2 : Int) ≤ s1 := by omega
    have rr := fun i => cell_of_row _ _ i _ _ _ R7.out
    have y0 := rr 0; have y1 := rr 1
    have yf := fun i => frozen_of_row _ W.heap.size i _ _ R7.out
    dsimp at y0 y1
    clear rr
    go_wp2_with fail
    clear y0 y1 yf
    generalize hWF : World.setCell _ _ _ = WF
    have hq : WF.heap[W.heap.size]? = some (.cells #[.slice a n c, .int .i64 (at_ : Int)] 24 (0, 0)) := by rw [← hWF]; exact blk_set (blk_set R7.out 0 _) 1 _
    have gB : Below w.heap.size w WF := by rw [← hWF]; exact (N7.out.setCell (p := ⟨W.heap.size, 0, none⟩) hHs.out _).setCell (p := ⟨W.heap.size, 1, none⟩) hHs.out _
    have gg := fun i => cell_of_row _ _ i _ _ _ hq
    have p0 := gg 0; have p1 := gg 1
    dsimp at p0 p1
    refine bodyPost_ret (v := .tuple #[.agg #[.slice a n c, .int .i64 (at_ : Int)], .bool false]) (by simp [results, Tryd.results20, go_sem, p0, p1]) rfl ?_
    exact ⟨fun h => absurd (And.left h) hc1, fun _ => rfl, gB⟩
  have hd1 : ¬ (s2 : Int) ≤ s1 := by omega
  by_cases hc2 : e1 ≤ s2
  rotate_left
  · have hd2 : (s2 : Int) < e1 := by omega
    have rr := fun i => cell_of_row _ _ i _ _ _ R7.out
    have y0 := rr 0; have y1 := rr 1
    have yf := fun i => frozen_of_row _ W.heap.size i _ _ R7.out
    dsimp at y0 y1
    clear rr
    go_wp2_with fail
    clear y0 y1 yf
    generalize hWF : World.setCell _ _ _ = WF
    have hq : WF.heap[W.heap.size]? = some (.cells #[.slice a n c, .int .i64 (at_ : Int)] 24 (0, 0)) := by rw [← hWF]; exact blk_set (blk_set R7.out 0 _) 1 _
    have gB : Below w.heap.size w WF := by rw [← hWF]; exact (N7.out.setCell (p := ⟨W.heap.size, 0, none⟩) hHs.out _).setCell (p := ⟨W.heap.size, 1, none⟩) hHs.out _
    have gg := fun i => cell_of_row _ _ i _ _ _ hq
    have p0 := gg 0; have p1 := gg 1
    dsimp at p0 p1
    refine bodyPost_ret (v := .tuple #[.agg #[.slice a n c, .int .i64 (at_ : Int)], .bool false]) (by simp [results, Tryd.results20, go_sem, p0, p1]) rfl ?_
    exact ⟨fun h => absurd (And.left (And.right h)) hc2, fun _ => rfl, gB⟩
  have hd2 : ¬ (s2 : Int) < e1 := by omega
  cases x1
  · have hv1 : ¬ v1 = 1 := by simpa using L1
    clear L1 L2
    go_upto_region 7 with (first
      | (go_at_call 90; (with_reducible refine (C4.out _ N7.out).mono ?_); rintro e w8 ⟨rfl, hb⟩; have N8 := Lib.hid (seqB N7.out hb); have Q8 := Lib.hid (blk_below Q7.out hb); have R8 := Lib.hid (blk_below R7.out hb); have z08 := (hb.cell (p := ⟨w.heap.size, 0, none⟩) (blk_lt Q7.out)).trans z07; have z18 := (hb.cell (p := ⟨w.heap.size, 1, none⟩) (blk_lt Q7.out)).trans z17; clear hb z07 z17 N7 Q7 R7 C4))
    have rr := fun i => cell_of_row _ _ i _ _ _ R8.out
    have y0 := rr 0; have y1 := rr 1
    have yf := fun i => frozen_of_row _ W.heap.size i _ _ R8.out
    dsimp at y0 y1
    clear rr
    go_wp2_with fail
    clear y0 y1 yf
    generalize hWF : World.setCell _ _ _ = WF
    have hq : WF.heap[W.heap.size]? = some (.cells #[.slice a n c, .int .i64 (at_ : Int)] 24 (0, 0)) := by rw [← hWF]; exact blk_set (blk_set R8.out 0 _) 1 _
    have gB : Below w.heap.size w WF := by rw [← hWF]; exact (N8.out.setCell (p := ⟨W.heap.size, 0, none⟩) hHs.out _).setCell (p := ⟨W.heap.size, 1, none⟩) hHs.out _
    have gg := fun i => cell_of_row _ _ i _ _ _ hq
    have p0 := gg 0; have p1 := gg 1
    dsimp at p0 p1
    refine bodyPost_ret (v := .tuple #[.agg #[.slice a n c, .int .i64 (at_ : Int)], .bool false]) (by simp [results, Tryd.results20, go_sem, p0, p1]) rfl ?_
    exact ⟨fun h => Bool.noConfusion (show false = true from And.left (And.right (And.right h))), fun _ => rfl, gB⟩
  obtain rfl : v1 = 1 := by simpa using L1
  cases x2
  · have hv2 : ¬ v2 = 1 := by simpa using L2
    clear L1 L2
    go_upto_region 7 with (first
      | (go_at_call 90; (with_reducible refine (C4.out _ N7.out).mono ?_); rintro e w8 ⟨rfl, hb⟩; have N8 := Lib.hid (seqB N7.out hb); have Q8 := Lib.hid (blk_below Q7.out hb); have R8 := Lib.hid (blk_below R7.out hb); have z08 := (hb.cell (p := ⟨w.heap.size, 0, none⟩) (blk_lt Q7.out)).trans z07; have z18 := (hb.cell (p := ⟨w.heap.size, 1, none⟩) (blk_lt Q7.out)).trans z17; clear hb z07 z17 N7 Q7 R7 C4)
      | (go_at_call 90; (with_reducible refine (C5.out _ N8.out).mono ?_); rintro e w9 ⟨rfl, hb⟩; have N9 := Lib.hid (seqB N8.out hb); have Q9 := Lib.hid (blk_below Q8.out hb); have R9 := Lib.hid (blk_below R8.out hb); have z09 := (hb.cell (p := ⟨w.heap.size, 0, none⟩) (blk_lt Q8.out)).trans z08; have z19 := (hb.cell (p := ⟨w.heap.size, 1, none⟩) (blk_lt Q8.out)).trans z18; clear hb z08 z18 N8 Q8 R8 C5))
    have rr := fun i => cell_of_row _ _ i _ _ _ R9.out
    have y0 := rr 0; have y1 := rr 1
    have yf := fun i => frozen_of_row _ W.heap.size i _ _ R9.out
    dsimp at y0 y1
    clear rr
    go_wp2_with fail
    clear y0 y1 yf
    generalize hWF : World.setCell _ _ _ = WF
    have hq : WF.heap[W.heap.size]? = some (.cells #[.slice a n c, .int .i64 (at_ : Int)] 24 (0, 0)) := by rw [← hWF]; exact blk_set (blk_set R9.out 0 _) 1 _
    have gB : Below w.heap.size w WF := by rw [← hWF]; exact (N9.out.setCell (p := ⟨W.heap.size, 0, none⟩) hHs.out _).setCell (p := ⟨W.heap.size, 1, none⟩) hHs.out _
    have gg := fun i => cell_of_row _ _ i _ _ _ hq
    have p0 := gg 0; have p1 := gg 1
    dsimp at p0 p1
    refine bodyPost_ret (v := .tuple #[.agg #[.slice a n c, .int .i64 (at_ : Int)], .bool false]) (by simp [results, Tryd.results20, go_sem, p0, p1]) rfl ?_
    exact ⟨fun h => Bool.noConfusion (show false = true from And.right (And.right (And.right h))), fun _ => rfl, gB⟩
  obtain rfl : v2 = 1 := by simpa using L2
  clear L1 L2
  go_upto_region 8 with (first
    | (go_at_call 90; (with_reducible refine (C4.out _ N7.out).mono ?_); rintro e w8 ⟨rfl, hb⟩; have N8 := Lib.hid (seqB N7.out hb); have Q8 := Lib.hid (blk_below Q7.out hb); have R8 := Lib.hid (blk_below R7.out hb); have z08 := (hb.cell (p := ⟨w.heap.size, 0, none⟩) (blk_lt Q7.out)).trans z07; have z18 := (hb.cell (p := ⟨w.heap.size, 1, none⟩) (blk_lt Q7.out)).trans z17; clear hb z07 z17 N7 Q7 R7 C4)
    | (go_at_call 90; (with_reducible refine (C5.out _ N8.out).mono ?_); rintro e w9 ⟨rfl, hb⟩; have N9 := Lib.hid (seqB N8.out hb); have Q9 := Lib.hid (blk_below Q8.out hb); have R9 := Lib.hid (blk_below R8.out hb); have z09 := (hb.cell (p := ⟨w.heap.size, 0, none⟩) (blk_lt Q8.out)).trans z08; have z19 := (hb.cell (p := ⟨w.heap.size, 1, none⟩) (blk_lt Q8.out)).trans z18; clear hb z08 z18 N8 Q8 R8 C5))
  have hs := HS.out
  have hn := HN.out
  obtain ⟨Aa, hAa⟩ : ∃ x : Option Addr, (if c = 0 then a else a.map (·.add (0 * 2))) = x := ⟨_, rfl⟩
  have sla : SlS S w Aa (L.take s1) c ∧ (L.take s1).length = s1 := by
    have h := hs.sub 0 s1 (Nat.zero_le _) (by omega)
    rw [hAa, List.drop_zero, Nat.sub_zero, Nat.sub_zero] at h
    exact h
  have hcuta : ∀ w : World, (Instr.slice 22 (.slice a n c) none (some (.int .i64 (s1 : Int))) none).run Tryd.prog w = .ok (.slice Aa s1 c) w := fun w => by
    rw [run_cutH w a n c s1 (by omega), hAa]
  obtain ⟨Ab, hAb⟩ : ∃ x : Option Addr, (if c = s2 then a else a.map (·.add (s2 * 2))) = x := ⟨_, rfl⟩
  have slb : SlS S w Ab ((L.drop s2).take (e2 - s2)) (c - s2) ∧ ((L.drop s2).take (e2 - s2)).length = e2 - s2 := by
    have h := hs.sub s2 e2 (by omega) (by omega)
    rw [hAb] at h
    exact h
  have hcutb : ∀ w : World, (Instr.slice 22 (.slice a n c) (some (.int .i64 (s2 : Int))) (some (.int .i64 (e2 : Int))) none).run Tryd.prog w = .ok (.slice Ab (e2 - s2) (c - s2)) w := fun w => by
    rw [run_cutLH w a n c s2 e2 (by omega) (by omega), hAb]
  obtain ⟨Ac, hAc⟩ : ∃ x : Option Addr, (if c = e1 then a else a.map (·.add (e1 * 2))) = x := ⟨_, rfl⟩
  have slc : SlS S w Ac ((L.drop e1).take (s2 - e1)) (c - e1) ∧ ((L.drop e1).take (s2 - e1)).length = s2 - e1 := by
    have h := hs.sub e1 s2 (by omega) (by omega)
    rw [hAc] at h
    exact h
  have hcutc : ∀ w : World, (Instr.slice 22 (.slice a n c) (some (.int .i64 (e1 : Int))) (some (.int .i64 (s2 : Int))) none).run Tryd.prog w = .ok (.slice Ac (s2 - e1) (c - e1)) w := fun w => by
    rw [run_cutLH w a n c e1 s2 (by omega) (by omega), hAc]
  obtain ⟨Ad, hAd⟩ : ∃ x : Option Addr, (if c = s1 then a else a.map (·.add (s1 * 2))) = x := ⟨_, rfl⟩
  have sld : SlS S w Ad ((L.drop s1).take (e1 - s1)) (c - s1) ∧ ((L.drop s1).take (e1 - s1)).length = e1 - s1 := by
    have h := hs.sub s1 e1 (by omega) (by omega)
    rw [hAd] at h
    exact h
  have hcutd : ∀ w : World, (Instr.slice 22 (.slice a n c) (some (.int .i64 (s1 : Int))) (some (.int .i64 (e1 : Int))) none).run Tryd.prog w = .ok (.slice Ad (e1 - s1) (c - s1)) w := fun w => by
    rw [run_cutLH w a n c s1 e1 (by omega) (by omega), hAd]
  obtain ⟨Ae, hAe⟩ : ∃ x : Option Addr, (if c = e2 then a else a.map (·.add (e2 * 2))) = x := ⟨_, rfl⟩
  have sle : SlS S w Ae (L.drop e2) (c - e2) ∧ (L.drop e2).length = n - e2 := by
    have h := hs.sub e2 L.length (by omega) (Nat.le_refl _)
    rw [hAe, List.take_of_length_le (by rw [List.length_drop]; omega)] at h
    exact ⟨h.1, by rw [List.length_drop, hn]⟩
  have hcute : ∀ w : World, (Instr.slice 22 (.slice a n c) (some (.int .i64 (e2 : Int))) none none).run Tryd.prog w = .ok (.slice Ae (n - e2) (c - e2)) w := fun w => by
    rw [run_cutL w a n c e2 (by omega), hAe]
  have JA := Lib.hid (joinS_ref S (L.take s1) ((L.drop s2).take (e2 - s2)) Aa Ab c (c - s2) s1 (e2 - s2) w9.drew sla.2 slb.2 (by omega) (by omega) (sla.1.below N9.out.drew) (slb.1.below N9.out.drew))
  have JB := Lib.hid fun (w' : World) (hb : Below w.heap.size w w') => joinS_ref S ((L.drop e1).take (s2 - e1)) ((L.drop s1).take (e1 - s1)) Ac Ad (c - e1) (c - s1) (s2 - e1) (e1 - s1) w' slc.2 sld.2 (by omega) (by omega) (slc.1.below hb) (sld.1.below hb)
  have LE := Lib.hid sle
  have hlab : Hid ((L.take s1 ++ (L.drop s2).take (e2 - s2)).length = s1 + (e2 - s2)) := Lib.hid (by rw [List.length_append, sla.2, slb.2])
  have hlcd : Hid (((L.drop e1).take (s2 - e1) ++ (L.drop s1).take (e1 - s1)).length = (s2 - e1) + (e1 - s1)) := Lib.hid (by rw [List.length_append, slc.2, sld.2])
  have hlall : Hid ((L.take s1 ++ (L.drop s2).take (e2 - s2) ++ ((L.drop e1).take (s2 - e1) ++ (L.drop s1).take (e1 - s1))).length = s1 + (e2 - s2) + ((s2 - e1) + (e1 - s1))) := Lib.hid (by rw [List.length_append, hlab.out, hlcd.out])
  have hM : Hid (L.take s1 ++ (L.drop s2).take (e2 - s2) ++ ((L.drop e1).take (s2 - e1) ++ (L.drop s1).take (e1 - s1)) ++ L.drop e2 = swpM L s1 e1 s2 e2) := Lib.hid (by unfold swpM; simp only [List.append_assoc])
  have hNn : s1 + (e2 - s2) + ((s2 - e1) + (e1 - s1)) + (n - e2) = n := by omega
  have HNn := Lib.hid hNn
  have JC := Lib.hid fun (w' : World) (b1 b2 : Option Addr) (d1 d2 : Nat) (h1 : SlS (fun _ => True) w' b1 (L.take s1 ++ (L.drop s2).take (e2 - s2)) d1) (h2 : SlS (fun _ => True) w' b2 ((L.drop e1).take (s2 - e1) ++ (L.drop s1).take (e1 - s1)) d2) => joinS_ref (fun _ => True) _ _ b1 b2 d1 d2 (s1 + (e2 - s2)) ((s2 - e1) + (e1 - s1)) w' hlab.out hlcd.out (by omega) (by omega) h1 h2
  clear hs hn hAa hAb hAc hAd hAe sla slb slc sld sle hNn
  go_region_held3 (fun _ => True) (exact True.intro)
    (first
      | (go_at_call 22; (with_reducible refine JA.out.mono ?_); rintro e wa ⟨ba, da, rfl, ho, hb⟩; have Da := Lib.hid ((Below.refl w9.heap.size w9).drew.trans hb); have Oa := Lib.hid (ows_slT ho); have Na := Lib.hid (seqB N9.out Da.out); clear ho hb)
      | (go_at_call 22; (with_reducible refine (JB.out _ Na.out).mono ?_); rintro e wb ⟨bb, db, rfl, ho, hb⟩; have Db := Lib.hid (seqB Da.out hb); have Ob := Lib.hid (ows_slT ho); have Oa2 := Lib.hid (Oa.out.below hb); have Nb := Lib.hid (seqB Na.out hb); clear ho hb)
      | (go_at_call 22; refine (JC.out _ _ _ _ _ Oa2.out Ob.out).mono ?_; rintro e wc ⟨bc, dc, rfl, ho, hb⟩; have Dc := Lib.hid (seqB Db.out hb); have Oc := Lib.hid ho; have hbs := Lib.hid hb.size; have hWb := Lib.hid (blk_lt (blk_below R9.out Db.out)); have Nc := Lib.hid (seqB Nb.out hb); clear ho hb))
  have Rc := Lib.hid (blk_below R9.out Dc.out)
  have zc0 := (Dc.out.cell (p := ⟨w.heap.size, 0, none⟩) (blk_lt Q9.out)).trans z09
  have zc1 := (Dc.out.cell (p := ⟨w.heap.size, 1, none⟩) (blk_lt Q9.out)).trans z19
  have Se := Lib.hid (LE.out.1.below Nc.out)
  clear JA JB JC z09 z19
  go_wp2_with (at_builtin; refine wpList_app_signs rfl _ _ rfl wb.heap.size _ (s1 + (e2 - s2) + ((s2 - e1) + (e1 - s1))) _ rfl hlall.out Oc.out Ae (n - e2) (c - e2) (L.drop e2) rfl LE.out.2 Se.out.s Se.out.nl ?g3 ?g4 ?_)
  case g3 => have := HNn.out; omega
  case g4 => exact hbs.out
  intro ad5 c5 w5 o5 g5
  have hr : ∀ j, (Value.slice bc (s1 + (e2 - s2) + ((s2 - e1) + (e1 - s1))) dc).ownBlock = some j → w.heap.size ≤ j := fun j hj => Nat.le_trans Nb.out.size (Oc.out.lt j hj).1
  have N5 := Lib.hid (Nc.out.grown g5 Nc.out.size hr)
  have O5 := Lib.hid o5
  have R5 : Hid (w5.heap[W.heap.size]? = some (.cells #[.slice none 0 0, .int .i64 0] 24 (0, 0))) := Lib.hid ((g5.block W.heap.size (blk_lt Rc.out) (fun e => by have := (Oc.out.lt _ e.symm).1; have := hWb.out; omega)).trans Rc.out)
  have yy := fun i => cell_of_row _ _ i _ _ _ R5.out
  have y0 := yy 0; have y1 := yy 1
  have yf := fun i => frozen_of_row _ W.heap.size i _ _ R5.out
  dsimp at y0 y1
  clear o5 g5 yy hr zc0 zc1 hcuta hcutb hcutc hcutd hcute
  go_wp2_with fail
  clear y0 y1 yf
  generalize hWF : World.setCell _ _ _ = WF
  obtain ⟨_, p0, p1, gO, gB⟩ := ln_fin R5.out O5.out N5.out hHs.out hWF
  refine bodyPost_ret (v := .tuple #[.agg #[.slice ad5 (s1 + (e2 - s2) + ((s2 - e1) + (e1 - s1)) + (n - e2)) c5, .int .i64 (e2 : Int)], .bool true]) (by simp [results, Tryd.results20, go_sem, p0, p1]) rfl ?_
  rw [HNn.out] at gO ⊢
  have gO2 : OwS WF wb.heap.size (.slice ad5 n c5) (swpM L s1 e1 s2 e2) := by rw [← hM.out]; simpa using gO
  exact ⟨fun _ => ⟨ad5, c5, rfl, gO2.mono Nb.out.size⟩, fun h => absurd (show swpOk s1 e1 s2 true true from ⟨hc1, hc2, rfl, rfl⟩) h, gB⟩
end Go.Proofs.YtdnmjofenckndaaDoor
set_option linter.unusedVariables false
set_option linter.unusedSimpArgs false
namespace Go.Proofs.YtdnmjofenckndaaDoor
open Go.RowKit Go.Sort
theorem r17_may (L : List (Int × Int)) (a : Option Addr) (n c : Nat) (x : Int) (w : World) (hn : L.length = n) (hl : n ≤ 1000000) (hs : Signs w a L) :
    Calls Tryd.prog 15 #[.agg #[.slice a n c, .int .i64 x]] w fun e w' => e = .returned (.bool (decide (0 ≤ x) && decide (x ≤ n) && sgC L)) ∧ Below w.heap.size w w' := by
  have B0 := below_alloc w (.cells #[.slice a n c, .int .i64 x] 24)
  have AL := sgall_ref L a c (w.alloc (.cells #[.slice a n c, .int .i64 x] 24)) (by omega) (hs.below B0)
  rw [hn] at AL
  replace AL := Lib.hid AL
  clear hs
  by_cases h1 : 0 ≤ x
  · by_cases h2 : x ≤ n
    · rw [decide_eq_true h1, decide_eq_true h2]
      go_enter Tryd.func15, Tryd.ntmps15
      go_wp2_with (go_at_call 76; refine AL.out.mono ?_; rintro e w1 ⟨rfl, b1⟩)
      go_ret
      exact ⟨by simp, seqB B0 b1⟩
    · rw [decide_eq_false h2]
      go_enter Tryd.func15, Tryd.ntmps15
      go_wp2_with fail
      go_ret
      exact ⟨by simp, B0⟩
  · rw [decide_eq_false h1]
    go_enter Tryd.func15, Tryd.ntmps15
    go_wp2_with fail
    go_ret
    exact ⟨by simp, B0⟩
theorem r16_same (L M : List (Int × Int)) (a b : Option Addr) (n m c d : Nat) (x y : Int) (w : World) (hn : L.length = n) (hm : M.length = m) (hl : n ≤ 1000000) (hl2 : m ≤ 1000000) (hs : Signs w a L) (ht : Signs w b M) (hx : x = y) (hL : L = M) :
    Calls Tryd.prog 21 #[.agg #[.slice a n c, .int .i64 x], .agg #[.slice b m d, .int .i64 y]] w fun e w' => e = .returned (.bool true) ∧ Below w.heap.size w w' := by
  subst hx
  have B0 := seqB (below_alloc w (.cells #[.slice a n c, .int .i64 x] 24)) (below_alloc _ (.cells #[.slice b m d, .int .i64 x] 24))
  have SM := sgsame_ref L M a b c d ((w.alloc (.cells #[.slice a n c, .int .i64 x] 24)).alloc (.cells #[.slice b m d, .int .i64 x] 24)) (by omega) (by omega) (hs.below B0) (ht.below B0)
  rw [hn, hm, decide_eq_true hL] at SM
  replace SM := Lib.hid SM
  clear hs ht hL
  go_enter Tryd.func21, Tryd.ntmps21
  go_wp2_with (go_at_call 29; refine SM.out.mono ?_; rintro e w1 ⟨rfl, b1⟩)
  go_ret
  exact ⟨rfl, seqB B0 b1⟩
set_option maxHeartbeats 2000000 in
theorem r17_swap_no (a : Option Addr) (n c : Nat) (x : Int) (w : World) (hno : x = 0 ∨ n < 2) :
    Calls Tryd.prog 18 #[.agg #[.slice a n c, .int .i64 x]] w fun e w' => e = .returned (.tuple #[.agg #[.slice a n c, .int .i64 x], .bool false]) ∧ Below w.heap.size w w' := by
  have B0 := below_alloc w (.cells #[.slice a n c, .int .i64 x] 24)
  obtain ⟨W, hW⟩ : ∃ W, w.alloc (.cells #[.slice a n c, .int .i64 x] 24) = W := ⟨_, rfl⟩
  rw [hW] at B0
  have q0 : W.heap[w.heap.size]? = some (.cells #[.slice a n c, .int .i64 x] 24 (0, 0)) := by rw [← hW]; exact heap_alloc_new _ _
  have B1 := seqB B0 (below_alloc W (.cells #[.slice none 0 0, .int .i64 0] 24))
  have q1 := blk_below q0 (below_alloc W (.cells #[.slice none 0 0, .int .i64 0] 24))
  have r1 := heap_alloc_new W (.cells #[.slice none 0 0, .int .i64 0] 24)
  obtain ⟨W1, hW1⟩ : ∃ W1, W.alloc (.cells #[.slice none 0 0, .int .i64 0] 24) = W1 := ⟨_, rfl⟩
  rw [hW1] at B1 q1 r1
  have hsW : Hid (W.heap.size = w.heap.size + 1) := Lib.hid (by rw [← hW]; simp)
  have zz := fun i => cell_of_row _ _ i _ _ _ q1
  have z0 := zz 0; have z1 := zz 1
  have yy := fun i => cell_of_row _ _ i _ _ _ r1
  have y0 := yy 0; have y1 := yy 1
  have yf := fun i => frozen_of_row _ W.heap.size i _ _ r1
  dsimp at z0 z1 y0 y1
  have R1 := Lib.hid r1
  clear yy zz q0 q1 r1 B0
  by_cases h0 : x = 0
  · subst h0
    clear hno
    go_enter Tryd.func18, Tryd.ntmps18
    go_upto_region 1 with fail
    clear hW
    go_wp2_with fail
    generalize hWF : World.setCell _ _ _ = WF
    have hq : WF.heap[W.heap.size]? = some (.cells #[.slice a n c, .int .i64 0] 24 (0, 0)) := by rw [← hWF]; exact blk_set (blk_set R1.out 0 _) 1 _
    have gB : Below w.heap.size w WF := by rw [← hWF]; exact (B1.setCell (p := ⟨W.heap.size, 0, none⟩) (by have := hsW.out; show _ ≤ W.heap.size; omega) _).setCell (p := ⟨W.heap.size, 1, none⟩) (by have := hsW.out; show _ ≤ W.heap.size; omega) _
    have gg := fun i => cell_of_row _ _ i _ _ _ hq
    have g0 := gg 0; have g1 := gg 1
    dsimp at g0 g1
    refine bodyPost_ret (v := .tuple #[.agg #[.slice a n c, .int .i64 0], .bool false]) (by simp [results, Tryd.results18, go_sem, g0, g1]) rfl ?_
    exact ⟨rfl, gB⟩
  · have h1 : ¬ x = 0 := by omega
    have h2 : (n : Int) < 2 := by omega
    clear hno
    go_enter Tryd.func18, Tryd.ntmps18
    go_upto_region 1 with fail
    clear hW
    go_wp2_with fail
    generalize hWF : World.setCell _ _ _ = WF
    have hq : WF.heap[W.heap.size]? = some (.cells #[.slice a n c, .int .i64 x] 24 (0, 0)) := by rw [← hWF]; exact blk_set (blk_set R1.out 0 _) 1 _
    have gB : Below w.heap.size w WF := by rw [← hWF]; exact (B1.setCell (p := ⟨W.heap.size, 0, none⟩) (by have := hsW.out; show _ ≤ W.heap.size; omega) _).setCell (p := ⟨W.heap.size, 1, none⟩) (by have := hsW.out; show _ ≤ W.heap.size; omega) _
    have gg := fun i => cell_of_row _ _ i _ _ _ hq
    have g0 := gg 0; have g1 := gg 1
    dsimp at g0 g1
    refine bodyPost_ret (v := .tuple #[.agg #[.slice a n c, .int .i64 x], .bool false]) (by simp [results, Tryd.results18, go_sem, g0, g1]) rfl ?_
    exact ⟨rfl, gB⟩
set_option maxHeartbeats 4000000 in
theorem r17_swap_yes (S : Nat → Prop) (L : List (Int × Int)) (a : Option Addr) (n c at_ : Nat) (w : World) (hn : L.length = n) (hl : n ≤ 90000) (hat : at_ ≤ n) (hy1 : 0 < at_) (hy2 : 2 ≤ n) (hs : SlS S w a L c) :
    Calls Tryd.prog 18 #[.agg #[.slice a n c, .int .i64 (at_ : Int)]] w fun e w' => ∃ ad d', e = .returned (.tuple #[.agg #[.slice ad n d', .int .i64 ((swI n at_ : Nat) + 1 : Int)], .bool true]) ∧ OwS w' w.heap.size (.slice ad n d') (swM L at_) ∧ Below w.heap.size w w' := by
  obtain ⟨i, hi⟩ : ∃ i, swI n at_ = i := ⟨_, rfl⟩
  have hi2 : i = min at_ (n - 1) := hi.symm
  have hi0 : 0 < i := by omega
  have hin : i < n := by omega
  obtain ⟨k, hk⟩ : ∃ k : Nat, i = k + 1 := ⟨i - 1, by omega⟩
  have LO := lo_ref (at_ : Int) ((n : Int) - 1)
  rw [show (if (at_ : Int) < (n : Int) - 1 then (at_ : Int) else (n : Int) - 1) = (i : Int) by split <;> omega] at LO
  replace LO := Lib.hid LO
  have hle := hs.le
  rw [hn] at hle
  have B0 := below_alloc w (.cells #[.slice a n c, .int .i64 (at_ : Int)] 24)
  obtain ⟨W, hW⟩ : ∃ W, w.alloc (.cells #[.slice a n c, .int .i64 (at_ : Int)] 24) = W := ⟨_, rfl⟩
  rw [hW] at B0
  have q0 : W.heap[w.heap.size]? = some (.cells #[.slice a n c, .int .i64 (at_ : Int)] 24 (0, 0)) := by rw [← hW]; exact heap_alloc_new _ _
  have B1 := seqB B0 (below_alloc W (.cells #[.slice none 0 0, .int .i64 0] 24))
  have q1 := blk_below q0 (below_alloc W (.cells #[.slice none 0 0, .int .i64 0] 24))
  have r1 := heap_alloc_new W (.cells #[.slice none 0 0, .int .i64 0] 24)
  obtain ⟨W1, hW1⟩ : ∃ W1, W.alloc (.cells #[.slice none 0 0, .int .i64 0] 24) = W1 := ⟨_, rfl⟩
  rw [hW1] at B1 q1 r1
  have hsW : Hid (W.heap.size = w.heap.size + 1 ∧ W1.heap.size = w.heap.size + 2) := Lib.hid (by rw [← hW1, ← hW]; simp)
  have hs1 := hs.below B1
  obtain ⟨b, off, ha, hb, c1, c2⟩ := hs1.s i (by omega)
  obtain ⟨b', off', ha', hb', c3, c4⟩ := hs1.s k (by omega)
  have hbb : b = b' ∧ off = off' := by rw [ha] at ha'; simpa using ha'
  obtain ⟨rfl, rfl⟩ := hbb
  obtain ⟨p, hp⟩ : ∃ p, L.getD i (0, 0) = p := ⟨_, rfl⟩
  obtain ⟨q, hq⟩ : ∃ q, L.getD k (0, 0) = q := ⟨_, rfl⟩
  rw [hp] at c1 c2; rw [hq] at c3 c4
  have hM : Hid (L.take k ++ [p, q] ++ L.drop (i + 1) = swM L at_) := Lib.hid (by
    unfold swM
    rw [hn, hi, show i - 1 = k by omega, hp, hq])
  obtain ⟨A1, hA1⟩ : ∃ x : Option Addr, (if c = 0 then a else a.map (·.add (0 * 2))) = x := ⟨_, rfl⟩
  obtain ⟨A2, hA2⟩ : ∃ x : Option Addr, (if c = i + 1 then a else a.map (·.add ((i + 1) * 2))) = x := ⟨_, rfl⟩
  obtain ⟨s1, l1⟩ := hs1.sub 0 k (Nat.zero_le _) (by omega)
  obtain ⟨s2, l2⟩ := hs1.sub (i + 1) L.length (by omega) (Nat.le_refl _)
  rw [hA1] at s1; rw [hA2] at s2
  rw [List.drop_zero, Nat.sub_zero] at s1 l1
  rw [Nat.sub_zero] at s1
  rw [List.take_of_length_le (by rw [List.length_drop]; omega)] at s2 l2
  rw [hn] at l2
  have hcut1 : ∀ w : World, (Instr.slice 22 (.slice a n c) none (some (.int .i64 (k : Int))) none).run Tryd.prog w = .ok (.slice A1 k c) w := fun w => by
    rw [run_cutH w a n c k (by omega), hA1]
  have hcut2 : ∀ w : World, (Instr.slice 22 (.slice a n c) (some (.int .i64 ((i : Int) + 1))) none none).run Tryd.prog w = .ok (.slice A2 (n - (i + 1)) (c - (i + 1))) w := fun w => by
    have := run_cutL w a n c (i + 1) (by omega)
    rw [hA2] at this
    rw [show ((i : Int) + 1) = ((i + 1 : Nat) : Int) by omega]
    exact this
  have JN := Lib.hid fun (w' : World) (hb : Below W1.heap.size W1 w') => joinS_ref (fun _ => True) (L.take k) [p, q] A1 (some ⟨w'.heap.size, 0, none⟩) c 2 k 2 (w'.alloc (.cells #[.int .i64 p.1, .int .i64 p.2, .int .i64 q.1, .int .i64 q.2] 39)) l1 rfl (by omega) (by omega) ((s1.below (seqB hb (below_alloc _ _))).mono (fun _ _ => trivial)) ⟨signs_new w' [p, q] 39, Nat.le_refl _, fun e => (by cases e), fun _ _ _ => trivial⟩
  have HS2 := Lib.hid s2
  have HL2 := Lib.hid l2
  have HL1 : Hid ((L.take k ++ [p, q]).length = k + 2) := Lib.hid (by rw [List.length_append, l1]; rfl)
  have zz := fun i => cell_of_row _ _ i _ _ _ q1
  have z0 := zz 0; have z1 := zz 1
  dsimp at z0 z1
  have R1 := Lib.hid r1
  have hH : Hid (w.heap.size < W1.heap.size) := Lib.hid (by have := hsW.out; omega)
  have hB : Hid (b < W1.heap.size) := Lib.hid hb
  have HK := Lib.hid (And.intro hk hi)
  have hk0 : (0 : Int) ≤ k := by omega
  have hkn : (k : Int) < n := by omega
  have hi0' : (0 : Int) ≤ i := by omega
  have hin' : (i : Int) < n := by omega
  have hik : (i : Int) - 1 = (k : Int) := by omega
  have hiw : IntKind.i64.wrap ((i : Int) - 1) = (k : Int) := by rw [IntKind.wrap_i64]; omega
  have hkw : IntKind.i64.wrap (k : Int) = (k : Int) := by rw [IntKind.wrap_i64]; omega
  have hi1 : IntKind.i64.wrap ((i : Int) + 1) = (i : Int) + 1 := by rw [IntKind.wrap_i64]; omega
  have hnw : IntKind.i64.wrap ((n : Int) - 1) = (n : Int) - 1 := by rw [IntKind.wrap_i64]; omega
  have h1 : ¬ (at_ : Int) = 0 := by omega
  have h2 : ¬ (n : Int) < 2 := by omega
  obtain ⟨N2, hN2⟩ : ∃ m, n - (i + 1) = m := ⟨_, rfl⟩
  have HN2 := Lib.hid hN2
  rw [hN2] at hcut2 HL2
  subst ha
  clear hA1 hA2 s1 s2 l1 l2 hs hs1 q0 q1 r1 zz B0 hi hi2 hk hp hq ha' hb hb' hi0 hin hy1 hy2 hN2
  go_enter Tryd.func18, Tryd.ntmps18
  go_upto_region 1 with fail
  clear hW
  go_upto_region 4 with (go_at_call 24; refine (LO.out _).mono ?_; rintro e w1 ⟨rfl, h1⟩; subst h1)
  have JN2 := Lib.hid (JN.out W1.drew (Below.refl _ _).drew)
  have hHd : Hid (w.heap.size < W1.drew.heap.size) := Lib.hid hH.out
  have hBd : Hid (b < W1.drew.heap.size) := Lib.hid hB.out
  clear JN
  go_region_held3 (fun w' => w'.cell? ⟨w.heap.size, 0, none⟩ = some (.slice (some ⟨b, off, none⟩) n c) ∧ w'.cell? ⟨w.heap.size, 1, none⟩ = some (.int .i64 (at_ : Int)) ∧ w'.cell? ⟨b, off + i * 2, none⟩ = some (.int .i64 p.1) ∧ w'.cell? ⟨b, off + i * 2 + 1, none⟩ = some (.int .i64 p.2) ∧ w'.cell? ⟨b, off + k * 2, none⟩ = some (.int .i64 q.1) ∧ w'.cell? ⟨b, off + k * 2 + 1, none⟩ = some (.int .i64 q.2))
    (first | exact ⟨z0, z1, c1, c2, c3, c4⟩ | exact ⟨(World.cell?_alloc_lt _ _ _ hHd.out).trans z0, (World.cell?_alloc_lt _ _ _ hHd.out).trans z1, (World.cell?_alloc_lt _ _ _ hBd.out).trans c1, (World.cell?_alloc_lt _ _ _ hBd.out).trans c2, (World.cell?_alloc_lt _ _ _ hBd.out).trans c3, (World.cell?_alloc_lt _ _ _ hBd.out).trans c4⟩ | exact ⟨z03, z13, c13, c23, c33, c43⟩ | go_keep)
    (first | (go_at_call 22; refine JN2.out.mono ?_; rintro e w3 ⟨bx, dx, rfl, ho, hb0⟩; have O3 := Lib.hid (show OwS w3 W1.heap.size (.slice bx (k + 2) dx) (L.take k ++ [p, q]) from ho.mono (by simp)); have hb := seqB (below_alloc W1.drew (.cells #[.int .i64 p.1, .int .i64 p.2, .int .i64 q.1, .int .i64 q.2] 39)) hb0; have D3 := Lib.hid ((Below.refl W1.heap.size W1).drew.trans hb); have z03 := (hb.cell (p := ⟨w.heap.size, 0, none⟩) hHd.out).trans z0; have z13 := (hb.cell (p := ⟨w.heap.size, 1, none⟩) hHd.out).trans z1; have c13 := (hb.cell (p := ⟨b, off + i * 2, none⟩) hBd.out).trans c1; have c23 := (hb.cell (p := ⟨b, off + i * 2 + 1, none⟩) hBd.out).trans c2; have c33 := (hb.cell (p := ⟨b, off + k * 2, none⟩) hBd.out).trans c3; have c43 := (hb.cell (p := ⟨b, off + k * 2 + 1, none⟩) hBd.out).trans c4; clear ho hb hb0))
  have N3 := Lib.hid (seqB B1 D3.out)
  have R3 := Lib.hid (blk_below R1.out D3.out)
  have S3 := Lib.hid (HS2.out.below D3.out)
  have hN3 : Hid (W1.heap.size ≤ w3.heap.size) := Lib.hid D3.out.size
  clear JN2 LO
  go_wp2_with (at_builtin; refine wpList_app_signs rfl _ _ rfl W1.heap.size _ (k + 2) (L.take k ++ [p, q]) rfl HL1.out O3.out A2 N2 (c - (i + 1)) (L.drop (i + 1)) rfl HL2.out S3.out.s S3.out.nl ?g3 ?g4 ?_)
  case g3 => have := HN2.out; omega
  case g4 => exact hN3.out
  intro ad5 c5 w5 o5 g5
  have hr : ∀ j, (Value.slice bx (k + 2) dx).ownBlock = some j → w.heap.size ≤ j := fun j hj => by have := (O3.out.lt j hj).1; have := hH.out; omega
  have N5 := Lib.hid (N3.out.grown g5 N3.out.size hr)
  have O5 := Lib.hid o5
  have R5 : Hid (w5.heap[W.heap.size]? = some (.cells #[.slice none 0 0, .int .i64 0] 24 (0, 0))) := Lib.hid ((g5.block W.heap.size (blk_lt R3.out) (fun e => by have := (O3.out.lt _ e.symm).1; have := hsW.out; omega)).trans R3.out)
  have yy := fun i => cell_of_row _ _ i _ _ _ R5.out
  have y0 := yy 0; have y1 := yy 1
  have yf := fun i => frozen_of_row _ W.heap.size i _ _ R5.out
  dsimp at y0 y1
  clear o5 g5 yy hr z0 z1 z03 z13 c13 c23 c33 c43 c1 c2 c3 c4 hcut1 hcut2
  go_wp2_with fail
  clear y0 y1 yf
  generalize hWF : World.setCell _ _ _ = WF
  obtain ⟨_, g0, g1, gO, gB⟩ := ln_fin R5.out O5.out N5.out (by have := hsW.out; omega) hWF
  have hlen : k + 2 + N2 = n := by have := HN2.out; have := HK.out; omega
  refine bodyPost_ret (v := .tuple #[.agg #[.slice ad5 (k + 2 + N2) c5, .int .i64 ((i : Int) + 1)], .bool true]) (by simp [results, Tryd.results18, go_sem, g0, g1]) rfl ?_
  rw [hlen] at gO ⊢
  have gO2 : OwS WF W1.heap.size (.slice ad5 n c5) (swM L at_) := by rw [← hM.out]; simpa using gO
  exact ⟨ad5, c5, by rw [HK.out.2], gO2.mono (by have := hsW.out; omega), gB⟩
end Go.Proofs.YtdnmjofenckndaaDoor
set_option linter.unusedVariables false
set_option linter.unusedSimpArgs false
namespace Go.Proofs.YtdnmjofenckndaaDoor
open Go.RowKit Go.Sort
def lnA : List (Int × Int) := [(97, 0), (98, 0), (32, 0), (99, 0), (100, 0)]
theorem lnA_facts : sOf 0 ⟨#[97, 98, 32, 99, 100]⟩ = lnA ∧ (valsS ⟨#[97, 98, 32, 99, 100]⟩).length = 5 ∧ sOf 0 ⟨#[97, 98]⟩ = [(97, 0), (98, 0)] ∧ (valsS ⟨#[97, 98]⟩).length = 2 ∧ sgC lnA = true := by decide +kernel
theorem lnA_wds : nextM lnA ((2 : Nat) : Int) = ((5 : Nat) : Int) ∧ backM lnA ((5 : Nat) : Int) = ((3 : Nat) : Int) ∧ nextM lnA ((3 : Nat) : Int) = ((5 : Nat) : Int) ∧ backM lnA ((3 : Nat) : Int) = ((0 : Nat) : Int) ∧ nextM lnA ((0 : Nat) : Int) = ((2 : Nat) : Int) ∧ (kAt lnA false ((0 : Nat) : Int) == 1) = true ∧ (kAt lnA false ((3 : Nat) : Int) == 1) = true := by decide +kernel
theorem lnA_txt : sTxt (swpM lnA 0 2 3 5) = ⟨#[99, 100, 32, 97, 98]⟩ ∧ sTxt (lnA.take 1 ++ lnA.drop 3) = ⟨#[97, 99, 100]⟩ ∧ sTxt ((lnA.drop 1).take (3 - 1)) = ⟨#[98, 32]⟩ ∧ sTxt (csL lnA 2 2 5) = ⟨#[97, 98, 32, 67, 100]⟩ ∧ sTxt (lnA.take 2 ++ (lnA.drop 1).take (3 - 1) ++ lnA.drop 2) = ⟨#[97, 98, 98, 32, 32, 99, 100]⟩ ∧ sTxt (lnA.take 0 ++ (lnA.drop 1).take (3 - 1) ++ lnA.drop 2) = ⟨#[98, 32, 32, 99, 100]⟩ := by decide +kernel
theorem lnA_bt : btF 5 1 3 = 1 ∧ btT 5 1 3 = 3 ∧ btF 5 ((2 : Nat) : Int) 5 = 2 ∧ btT 5 ((2 : Nat) : Int) 5 = 5 ∧ btF 5 0 2 = 0 ∧ btT 5 0 2 = 2 ∧ cutAt 1 3 2 = 1 := by decide +kernel
theorem lw_right (L : List (Int × Int)) (a : Option Addr) (n c p : Nat) (w : World) (hn : L.length = n) (hl : n ≤ 90000) (hp : p ≤ n) (hok : sgC L = true) (hs : Signs w a L) :
    Calls Tryd.prog 79 #[.agg #[.slice a n c, .int .i64 (p : Int)]] w fun e w' => e = .returned (.bool true) ∧ Below w.heap.size w w' := by
  have B0 := below_alloc w (.cells #[.slice a n c, .int .i64 (p : Int)] 24)
  have CK := scheck_any L a c (w.alloc (.cells #[.slice a n c, .int .i64 (p : Int)] 24)) (by omega) (hs.below B0)
  rw [hn, sgE_yes hok] at CK
  replace CK := Lib.hid CK
  have h1 : (0 : Int) ≤ p := by omega
  have h2 : (p : Int) ≤ n := by omega
  clear hs
  go_enter Tryd.func79, Tryd.ntmps79
  go_wp2_with (go_at_call 96; refine CK.out.mono ?_; rintro e w1 ⟨rfl, b1⟩)
  go_ret
  exact ⟨rfl, seqB B0 b1⟩
theorem lw_same (L : List (Int × Int)) (a : Option Addr) (n c : Nat) (x : Int) (w : World) (hn : L.length = n) (hl : n ≤ 90000) (hs : Signs w a L) :
    Calls Tryd.prog 80 #[.agg #[.slice a n c, .int .i64 x], .agg #[.slice a n c, .int .i64 x]] w fun e w' => e = .returned (.bool true) ∧ Below w.heap.size w w' := by
  have B0 := seqB (below_alloc w (.cells #[.slice a n c, .int .i64 x] 24)) (below_alloc _ (.cells #[.slice a n c, .int .i64 x] 24))
  have SM := ssame_any L L a a c c ((w.alloc (.cells #[.slice a n c, .int .i64 x] 24)).alloc (.cells #[.slice a n c, .int .i64 x] 24)) (by omega) (by omega) (hs.below B0) (hs.below B0)
  rw [hn, show sgS L L = true by unfold sgS; simp] at SM
  replace SM := Lib.hid SM
  clear hs
  go_enter Tryd.func80, Tryd.ntmps80
  go_wp2_with (go_at_call 162; refine SM.out.mono ?_; rintro e w1 ⟨rfl, b1⟩)
  go_ret
  exact ⟨rfl, seqB B0 b1⟩
theorem text_n (L : List (Int × Int)) (a : Option Addr) (n c : Nat) (s : ByteArray) (w : World) (hn : L.length = n) (hl : n ≤ 90000) (ht : sTxt L = s) (hs : Signs w a L) :
    Calls Tryd.prog 78 #[.slice a n c] w fun e w' => e = .returned (.string s) ∧ Below w.heap.size w w' := by
  subst hn; subst ht; exact stext_any L a c w (by omega) hs
theorem ows_sg {w : World} {B n d : Nat} {b : Option Addr} {L : List (Int × Int)} (h : OwS w B (.slice b n d) L) : Signs w b L := by
  obtain ⟨a, c, e, hs⟩ := h.sl
  injection e with e1 e2 e3
  subst e1
  exact hs.s
theorem ows_slA {w : World} {B n d : Nat} {b : Option Addr} {L : List (Int × Int)} (h : OwS w B (.slice b n d) L) : SlS (fun _ => True) w b L d := by
  obtain ⟨a, c, e, hs⟩ := h.sl
  injection e with e1 e2 e3
  subst e1; subst e3
  exact hs.mono (fun _ _ => trivial)
/-- A slice of signs that a call made. -/
def SgA (w : World) (b : Option Addr) (d : Nat) (L : List (Int × Int)) : Prop := SlS (fun _ => True) w b L d
theorem lna_of (w : World) (hT : UT w) : Calls Tryd.prog 77 #[.int .i64 0, .string ⟨#[97, 98, 32, 99, 100]⟩] w fun e w' => ∃ b, e = .returned (.slice b 5 5) ∧ SgA w' b 5 lnA ∧ Below w.heap.size w w' := by
  have h := sof_any 0 ⟨#[97, 98, 32, 99, 100]⟩ w hT (by decide) (by rw [lnA_facts.2.1]; omega)
  rw [lnA_facts.1] at h
  refine h.mono ?_
  rintro e w' ⟨g, rfl, hg, hb, hB⟩
  exact ⟨_, rfl, ⟨signs_of_blk hb, Nat.le_refl _, fun e => (by cases e), fun _ _ _ => trivial⟩, hB⟩
theorem lnb_of (w : World) (hT : UT w) : Calls Tryd.prog 77 #[.int .i64 0, .string ⟨#[97, 98]⟩] w fun e w' => ∃ b, e = .returned (.slice b 2 2) ∧ SgA w' b 2 [(97, 0), (98, 0)] ∧ Below w.heap.size w w' := by
  have h := sof_any 0 ⟨#[97, 98]⟩ w hT (by decide) (by rw [lnA_facts.2.2.2.1]; omega)
  rw [lnA_facts.2.2.1] at h
  refine h.mono ?_
  rintro e w' ⟨g, rfl, hg, hb, hB⟩
  exact ⟨_, rfl, ⟨signs_of_blk hb, Nat.le_refl _, fun e => (by cases e), fun _ _ _ => trivial⟩, hB⟩
theorem lna_swp (w : World) (b : Option Addr) (hT : Tabs w) (h : SgA w b 5 lnA) : Calls Tryd.prog 19 #[.agg #[.slice b 5 5, .int .i64 2]] w fun e w' => ∃ b2 d2, e = .returned (.tuple #[.agg #[.slice b2 5 d2, .int .i64 5], .bool true]) ∧ SgA w' b2 d2 (swpM lnA 0 2 3 5) ∧ Below w.heap.size w w' := by
  obtain ⟨f1, f2, f3, f4, f5, f6, f7⟩ := lnA_wds
  refine (lw_swp _ lnA b 5 5 2 5 3 5 0 2 w rfl (by omega) (by omega) ⟨f1, f2, f3, f4, f5⟩ (by omega) (by omega) (by omega) (by omega) (by omega) (by omega) true true f6 f7 hT h).mono ?_
  rintro e w' ⟨h1, _, hb⟩
  obtain ⟨b2, d2, rfl, ho⟩ := h1 ⟨by omega, by omega, rfl, rfl⟩
  exact ⟨b2, d2, rfl, ows_slA ho, hb⟩
theorem lna_swap (w : World) (b : Option Addr) (h : SgA w b 2 [(97, 0), (98, 0)]) : Calls Tryd.prog 17 #[.agg #[.slice b 2 2, .int .i64 0]] w fun e w' => ∃ b2 d2, e = .returned (.tuple #[.agg #[.slice b2 2 d2, .int .i64 0], .bool false]) ∧ Below w.heap.size w w' := by
  refine (lw_swap_no _ _ b 2 2 0 w rfl (by omega) (by omega) (Or.inl rfl) h).mono ?_
  rintro e w' ⟨b2, d2, rfl, _, hb⟩
  exact ⟨b2, d2, rfl, hb⟩
theorem lna_cut (w : World) (b : Option Addr) (h : SgA w b 5 lnA) : Calls Tryd.prog 23 #[.agg #[.slice b 5 5, .int .i64 2], .int .i64 1, .int .i64 3] w fun e w' => ∃ b1 d1 b2 d2, e = .returned (.tuple #[.agg #[.slice b1 3 d1, .int .i64 1], .slice b2 2 d2]) ∧ SgA w' b1 d1 (lnA.take 1 ++ lnA.drop 3) ∧ SgA w' b2 d2 ((lnA.drop 1).take (3 - 1)) ∧ Below w.heap.size w w' := by
  have hc := lw_cut _ lnA b 5 5 2 1 3 1 3 w rfl (by omega) (by omega) lnA_bt.1 lnA_bt.2.1 h
  rw [lnA_bt.2.2.2.2.2.2] at hc
  refine hc.mono ?_
  rintro e w' ⟨b1, d1, b2, d2, rfl, ho, hp, hb⟩
  exact ⟨b1, d1, b2, d2, rfl, ows_slA ho, ows_slA hp, hb⟩
theorem lna_case (w : World) (b : Option Addr) (hT : Tabs w) (h : SgA w b 5 lnA) : Calls Tryd.prog 27 #[.agg #[.slice b 5 5, .int .i64 2], .int .i64 5, .int .i64 2] w fun e w' => ∃ b2 d2, e = .returned (.agg #[.slice b2 5 d2, .int .i64 5]) ∧ SgA w' b2 d2 (csL lnA 2 2 5) ∧ Below w.heap.size w w' := by
  refine (lw_case _ lnA b 5 5 2 5 2 2 5 w rfl (by omega) (by omega) lnA_bt.2.2.1 lnA_bt.2.2.2.1 hT h).mono ?_
  rintro e w' ⟨b2, d2, rfl, ho, hb⟩
  exact ⟨b2, d2, rfl, ows_slA ho, hb⟩
theorem lna_ins (w : World) (b b2 : Option Addr) (d2 : Nat) (h : SgA w b 5 lnA) (h2 : SgA w b2 d2 ((lnA.drop 1).take (3 - 1))) : Calls Tryd.prog 26 #[.agg #[.slice b 5 5, .int .i64 2], .slice b2 2 d2] w fun e w' => ∃ b3 d3, e = .returned (.agg #[.slice b3 7 d3, .int .i64 4]) ∧ SgA w' b3 d3 (lnA.take 2 ++ (lnA.drop 1).take (3 - 1) ++ lnA.drop 2) ∧ Below w.heap.size w w' := by
  refine (lw_ins _ lnA _ b b2 5 5 2 d2 2 w rfl rfl (by omega) (by omega) h h2).mono ?_
  rintro e w' ⟨b3, d3, rfl, ho, hb⟩
  exact ⟨b3, d3, rfl, ows_slA ho, hb⟩
theorem lna_rep (w : World) (b b2 : Option Addr) (d2 : Nat) (h : SgA w b 5 lnA) (h2 : SgA w b2 d2 ((lnA.drop 1).take (3 - 1))) : Calls Tryd.prog 81 #[.agg #[.slice b 5 5, .int .i64 2], .int .i64 0, .int .i64 2, .slice b2 2 d2] w fun e w' => ∃ b3 d3, e = .returned (.agg #[.slice b3 5 d3, .int .i64 2]) ∧ SgA w' b3 d3 (lnA.take 0 ++ (lnA.drop 1).take (3 - 1) ++ lnA.drop 2) ∧ Below w.heap.size w w' := by
  refine (lw_rep _ lnA _ b b2 5 5 2 d2 2 0 2 0 2 w rfl rfl (by omega) lnA_bt.2.2.2.2.1 lnA_bt.2.2.2.2.2.1 h h2).mono ?_
  rintro e w' ⟨b3, d3, rfl, ho, hb⟩
  exact ⟨b3, d3, rfl, ows_slA ho, hb⟩
end Go.Proofs.YtdnmjofenckndaaDoor
set_option linter.unusedVariables false
set_option linter.unusedSimpArgs false
namespace Go.Proofs.YtdnmjofenckndaaDoor
open Go.RowKit Go.Sort
/-- The tables that lines read. -/
def LnT (w : World) : Prop := Tabs w ∧ UT w
theorem LnT.below {w w' : World} (h : LnT w) (hb : Below w.heap.size w w') : LnT w' := ⟨h.1.below hb, h.2.below hb⟩
theorem SgA.below {w w' : World} {b : Option Addr} {d : Nat} {L : List (Int × Int)} (h : SgA w b d L) (hb : Below w.heap.size w w') : SgA w' b d L := SlS.below h hb
/-- A line's box. -/
def LnX (w : World) (X : Nat) (b : Option Addr) (n d : Nat) (x : Int) : Prop := w.heap[X]? = some (.cells #[.slice b n d, .int .i64 x] 24 (0, 0))
theorem LnX.below {w w' : World} {X : Nat} {b : Option Addr} {n d : Nat} {x : Int} (h : LnX w X b n d x) (hb : Below w.heap.size w w') : LnX w' X b n d x := blk_below h hb
theorem LnX.cells {w : World} {X : Nat} {b : Option Addr} {n d : Nat} {x : Int} (h : LnX w X b n d x) : w.cell? ⟨X, 0, none⟩ = some (.slice b n d) ∧ w.cell? ⟨X, 1, none⟩ = some (.int .i64 x) := ⟨cell_of_row _ _ 0 _ _ _ h, cell_of_row _ _ 1 _ _ _ h⟩
theorem lnx_new (w : World) (b : Option Addr) (n d : Nat) (x : Int) {v : World} (hv : w.alloc (.cells #[.slice b n d, .int .i64 x] 24) = v) : LnX v w.heap.size b n d x ∧ Below w.heap.size w v := by
  subst hv; exact ⟨heap_alloc_new _ _, below_alloc _ _⟩
theorem lna_right (w : World) (b : Option Addr) (h : SgA w b 5 lnA) : Calls Tryd.prog 79 #[.agg #[.slice b 5 5, .int .i64 2]] w fun e w' => e = .returned (.bool true) ∧ Below w.heap.size w w' :=
  lw_right lnA b 5 5 2 w rfl (by omega) (by omega) lnA_facts.2.2.2.2 h.s
set_option maxHeartbeats 16000000 in
theorem lawake_any (w : World) (hT : LnT w) : Calls Tryd.prog 16 #[] w fun e w' => e = .returned (.bool true) ∧ Below w.heap.size w w' := by
  have HT := Lib.hid hT
  have OA := Lib.hid fun w hT => lna_of w hT
  have OB := Lib.hid fun w hT => lnb_of w hT
  have SW := Lib.hid fun w b hT h => lna_swp w b hT h
  have SP := Lib.hid fun w b h => lna_swap w b h
  have CU := Lib.hid fun w b h => lna_cut w b h
  have CS := Lib.hid fun w b hT h => lna_case w b hT h
  have IN := Lib.hid fun w b b2 d2 h h2 => lna_ins w b b2 d2 h h2
  have RP := Lib.hid fun w b b2 d2 h h2 => lna_rep w b b2 d2 h h2
  have RI := Lib.hid fun (w : World) (b : Option Addr) (h : SgA w b 5 lnA) => lna_right w b h
  have SM := Lib.hid fun (w : World) (b : Option Addr) (h : SgA w b 5 lnA) => lw_same lnA b 5 5 2 w rfl (by omega) h.s
  have TX := Lib.hid fun (L : List (Int × Int)) (n : Nat) (s : ByteArray) (hn : L.length = n) (hl : n ≤ 90000) (ht : sTxt L = s) (w : World) (b : Option Addr) (d : Nat) (h : SgA w b d L) => text_n L b n d s w hn hl ht h.s
  have hfld : ∀ (w : World) (b : Option Addr) (n d : Nat) (x : Int), (Instr.field 24 (.agg #[.slice b n d, .int .i64 x]) 0).run Tryd.prog w = .ok (.slice b n d) w := fun _ _ _ _ _ => by kernel_rfl
  clear hT
  go_enter Tryd.func16, Tryd.ntmps16
  go_upto_region 2 with (go_at_call 77; refine (OA.out _ HT.out.2).mono ?_; rintro e w1 ⟨b0, rfl, hs, hb⟩; have S1 := Lib.hid hs; have N1 := Lib.hid hb; clear hs hb OA)
  obtain ⟨v1, hv1⟩ : ∃ v, w1.alloc (.cells #[.slice b0 5 5, .int .i64 2] 24) = v := ⟨_, rfl⟩
  obtain ⟨lx1, lb1⟩ := lnx_new w1 b0 5 5 2 hv1
  rw [hv1]
  obtain ⟨X1, hX1⟩ : ∃ X, w1.heap.size = X := ⟨_, rfl⟩
  rw [hX1] at lx1
  rw [hX1]
  have A1 := Lib.hid (S1.out.below lb1)
  have M1 := Lib.hid (seqB N1.out lb1)
  have Z1 := Lib.hid lx1
  have z0 := lx1.cells.1; have z1 := lx1.cells.2
  clear S1 N1 lb1 hv1 hX1 lx1
  go_upto_region 3 with (go_at_call 19; refine (SW.out _ _ (HT.out.below M1.out).1 A1.out).mono ?_; rintro e w2 ⟨b2, d2, rfl, hs, hb⟩; have Y2 := Lib.hid hs; have A2 := Lib.hid (A1.out.below hb); have M2 := Lib.hid (seqB M1.out hb); have Z2 := Lib.hid (Z1.out.below hb); clear hs hb SW A1 M1 Z1 z0 z1)
  obtain ⟨v3, hv3⟩ : ∃ v, w2.alloc (.cells #[.slice b2 5 d2, .int .i64 5] 24) = v := ⟨_, rfl⟩
  obtain ⟨lx3, lb3⟩ := lnx_new w2 b2 5 d2 5 hv3
  rw [hv3]
  obtain ⟨X3, hX3⟩ : ∃ X, w2.heap.size = X := ⟨_, rfl⟩
  rw [hX3] at lx3
  rw [hX3]
  have Y3 := Lib.hid (Y2.out.below lb3)
  have A3 := Lib.hid (A2.out.below lb3)
  have M3 := Lib.hid (seqB M2.out lb3)
  have Z3 := Lib.hid (Z2.out.below lb3)
  have U3 := Lib.hid lx3
  clear Y2 A2 M2 Z2 lb3 hv3 hX3 lx3
  go_upto_region 4 with (first
    | (go_at_call 77; refine (OB.out _ (HT.out.below M3.out).2).mono ?_; rintro e w3 ⟨b3, rfl, hs, hb⟩; have S3 := Lib.hid hs; have Y4 := Lib.hid (Y3.out.below hb); have A4 := Lib.hid (A3.out.below hb); have M4 := Lib.hid (seqB M3.out hb); have Z4 := Lib.hid (Z3.out.below hb); have U4 := Lib.hid (U3.out.below hb); clear hs hb OB Y3 A3 M3 Z3 U3)
    | (go_at_call 17; refine (SP.out _ _ S3.out).mono ?_; rintro e w4 ⟨b4, d4, rfl, hb⟩; have Y5 := Lib.hid (Y4.out.below hb); have A5 := Lib.hid (A4.out.below hb); have M5 := Lib.hid (seqB M4.out hb); have Z5 := Lib.hid (Z4.out.below hb); have U5 := Lib.hid (U4.out.below hb); clear hb SP Y4 A4 M4 Z4 U4 S3))
  obtain ⟨v6, hv6⟩ : ∃ v, w4.alloc (.cells #[.slice b4 2 d4, .int .i64 0] 24) = v := ⟨_, rfl⟩
  obtain ⟨lx6, lb6⟩ := lnx_new w4 b4 2 d4 0 hv6
  rw [hv6]
  obtain ⟨X6, hX6⟩ : ∃ X, w4.heap.size = X := ⟨_, rfl⟩
  rw [hX6] at lx6
  rw [hX6]
  have Y6 := Lib.hid (Y5.out.below lb6)
  have A6 := Lib.hid (A5.out.below lb6)
  have M6 := Lib.hid (seqB M5.out lb6)
  have Z6 := Lib.hid (Z5.out.below lb6)
  have U6 := Lib.hid (U5.out.below lb6)
  have V6 := Lib.hid lx6
  have z0 := Z6.out.cells.1; have z1 := Z6.out.cells.2
  clear Y5 A5 M5 Z5 U5 lb6 hv6 hX6 lx6
  go_upto_region 5 with (go_at_call 23; refine (CU.out _ _ A6.out).mono ?_; rintro e w7 ⟨b7, d7, b8, d8, rfl, hs, hs2, hb⟩; have C7 := Lib.hid hs; have G7 := Lib.hid hs2; have Y7 := Lib.hid (Y6.out.below hb); have A7 := Lib.hid (A6.out.below hb); have M7 := Lib.hid (seqB M6.out hb); have Z7 := Lib.hid (Z6.out.below hb); have U7 := Lib.hid (U6.out.below hb); have V7 := Lib.hid (V6.out.below hb); clear hs hs2 hb CU Y6 A6 M6 Z6 U6 V6 z0 z1)
  obtain ⟨v8, hv8⟩ : ∃ v, w7.alloc (.cells #[.slice b7 3 d7, .int .i64 1] 24) = v := ⟨_, rfl⟩
  obtain ⟨lx8, lb8⟩ := lnx_new w7 b7 3 d7 1 hv8
  rw [hv8]
  obtain ⟨X8, hX8⟩ : ∃ X, w7.heap.size = X := ⟨_, rfl⟩
  rw [hX8] at lx8
  rw [hX8]
  have C8 := Lib.hid (C7.out.below lb8)
  have G8 := Lib.hid (G7.out.below lb8)
  have Y8 := Lib.hid (Y7.out.below lb8)
  have A8 := Lib.hid (A7.out.below lb8)
  have M8 := Lib.hid (seqB M7.out lb8)
  have Z8 := Lib.hid (Z7.out.below lb8)
  have U8 := Lib.hid (U7.out.below lb8)
  have V8 := Lib.hid (V7.out.below lb8)
  have Q8 := Lib.hid lx8
  have z0 := Z8.out.cells.1; have z1 := Z8.out.cells.2
  clear C7 G7 Y7 A7 M7 Z7 U7 V7 lb8 hv8 hX8 lx8
  have KK : Hid (∀ (w9 : World) (b9 : Option Addr) (d9 : Nat), Below v8.heap.size v8 w9 → SgA w9 b9 d9 (csL lnA 2 2 5) → ∀ w' : World, Below (w9.alloc (.cells #[.slice b9 5 d9, .int .i64 5] 24)).heap.size (w9.alloc (.cells #[.slice b9 5 d9, .int .i64 5] 24)) w' → (SgA w' b7 d7 (lnA.take 1 ++ lnA.drop 3) ∧ SgA w' b8 d8 ((lnA.drop 1).take (3 - 1)) ∧ SgA w' b2 d2 (swpM lnA 0 2 3 5) ∧ SgA w' b0 5 lnA ∧ SgA w' b9 d9 (csL lnA 2 2 5) ∧ Below w.heap.size w w') ∧ (w'.cell? ⟨X1, 0, none⟩ = some (.slice b0 5 5) ∧ w'.cell? ⟨X1, 1, none⟩ = some (.int .i64 2) ∧ w'.cell? ⟨X3, 0, none⟩ = some (.slice b2 5 d2) ∧ w'.cell? ⟨X3, 1, none⟩ = some (.int .i64 5) ∧ w'.cell? ⟨X6, 0, none⟩ = some (.slice b4 2 d4) ∧ w'.cell? ⟨X6, 1, none⟩ = some (.int .i64 0) ∧ w'.cell? ⟨X8, 0, none⟩ = some (.slice b7 3 d7) ∧ w'.cell? ⟨X8, 1, none⟩ = some (.int .i64 1) ∧ w'.cell? ⟨w9.heap.size, 0, none⟩ = some (.slice b9 5 d9) ∧ w'.cell? ⟨w9.heap.size, 1, none⟩ = some (.int .i64 5))) := Lib.hid (by
    intro w9 b9 d9 h9 hu w' hb'
    have hal := seqB (below_alloc w9 (.cells #[.slice b9 5 d9, .int .i64 5] 24)) hb'
    have hall := seqB h9 hal
    have hR : LnX w' w9.heap.size b9 5 d9 5 := LnX.below (heap_alloc_new _ _) hb'
    exact ⟨⟨C8.out.below hall, G8.out.below hall, Y8.out.below hall, A8.out.below hall, hu.below hal, seqB M8.out hall⟩, (Z8.out.below hall).cells.1, (Z8.out.below hall).cells.2, (U8.out.below hall).cells.1, (U8.out.below hall).cells.2, (V8.out.below hall).cells.1, (V8.out.below hall).cells.2, (Q8.out.below hall).cells.1, (Q8.out.below hall).cells.2, hR.cells.1, hR.cells.2⟩)
  have T1 := Lib.hid fun w b d h => TX.out (swpM lnA 0 2 3 5) 5 _ (by decide +kernel) (by omega) lnA_txt.1 w b d h
  have T2 := Lib.hid fun w b d h => TX.out (lnA.take 1 ++ lnA.drop 3) 3 _ (by decide +kernel) (by omega) lnA_txt.2.1 w b d h
  have T3 := Lib.hid fun w b d h => TX.out ((lnA.drop 1).take (3 - 1)) 2 _ (by decide +kernel) (by omega) lnA_txt.2.2.1 w b d h
  have T4 := Lib.hid fun w b d h => TX.out (csL lnA 2 2 5) 5 _ (by decide +kernel) (by omega) lnA_txt.2.2.2.1 w b d h
  have T5 := Lib.hid fun w b d h => TX.out (lnA.take 2 ++ (lnA.drop 1).take (3 - 1) ++ lnA.drop 2) 7 _ (by decide +kernel) (by omega) lnA_txt.2.2.2.2.1 w b d h
  have T6 := Lib.hid fun w b d h => TX.out (lnA.take 0 ++ (lnA.drop 1).take (3 - 1) ++ lnA.drop 2) 5 _ (by decide +kernel) (by omega) lnA_txt.2.2.2.2.2 w b d h
  clear C8 G8 Y8 Z8 U8 V8 Q8 TX
  go_wp2_with (first
    | (go_at_call 27; refine (CS.out _ _ (HT.out.below M8.out).1 A8.out).mono ?_; rintro e w9 ⟨b9, d9, rfl, hs, hb⟩; have KK9 := Lib.hid (KK.out w9 b9 d9 hb hs); have B9 := Lib.hid (Below.refl (w9.alloc (.cells #[.slice b9 5 d9, .int .i64 5] 24)).heap.size (w9.alloc (.cells #[.slice b9 5 d9, .int .i64 5] 24))); obtain ⟨gs, z0a, z1a, u0a, u1a, p0a, p1a, q0a, q1a, r0a, r1a⟩ := KK9.out _ B9.out; have Sa := Lib.hid gs; clear gs; clear hs hb KK CS z0 z1)
    | (go_at_call 78; (with_reducible refine (T1.out _ _ _ Sa.out.2.2.1).mono ?_); rintro e wb ⟨rfl, hb⟩; have Bb := Lib.hid (seqB B9.out hb); obtain ⟨gs, z0b, z1b, u0b, u1b, p0b, p1b, q0b, q1b, r0b, r1b⟩ := KK9.out _ Bb.out; have Sb := Lib.hid gs; clear gs; clear hb T1 z0a z1a u0a u1a p0a p1a q0a q1a r0a r1a Sa B9)
    | (go_at_call 78; (with_reducible refine (T2.out _ _ _ Sb.out.1).mono ?_); rintro e wc ⟨rfl, hb⟩; have Bc := Lib.hid (seqB Bb.out hb); obtain ⟨gs, z0c, z1c, u0c, u1c, p0c, p1c, q0c, q1c, r0c, r1c⟩ := KK9.out _ Bc.out; have Sc := Lib.hid gs; clear gs; clear hb T2 z0b z1b u0b u1b p0b p1b q0b q1b r0b r1b Sb Bb)
    | (go_at_call 78; (with_reducible refine (T3.out _ _ _ Sc.out.2.1).mono ?_); rintro e wd ⟨rfl, hb⟩; have Bd := Lib.hid (seqB Bc.out hb); obtain ⟨gs, z0d, z1d, u0d, u1d, p0d, p1d, q0d, q1d, r0d, r1d⟩ := KK9.out _ Bd.out; have Sd := Lib.hid gs; clear gs; clear hb T3 z0c z1c u0c u1c p0c p1c q0c q1c r0c r1c Sc Bc)
    | (go_at_call 78; (with_reducible refine (T4.out _ _ _ Sd.out.2.2.2.2.1).mono ?_); rintro e we ⟨rfl, hb⟩; have Be := Lib.hid (seqB Bd.out hb); obtain ⟨gs, z0e, z1e, u0e, u1e, p0e, p1e, q0e, q1e, r0e, r1e⟩ := KK9.out _ Be.out; have Se := Lib.hid gs; clear gs; clear hb T4 z0d z1d u0d u1d p0d p1d q0d q1d r0d r1d Sd Bd)
    | (go_at_call 79; (with_reducible refine (RI.out _ _ Se.out.2.2.2.1).mono ?_); rintro e wf ⟨rfl, hb⟩; have Bf := Lib.hid (seqB Be.out hb); obtain ⟨gs, z0f, z1f, u0f, u1f, p0f, p1f, q0f, q1f, r0f, r1f⟩ := KK9.out _ Bf.out; have Sf := Lib.hid gs; clear gs; clear hb RI z0e z1e u0e u1e p0e p1e q0e q1e r0e r1e Se Be)
    | (go_at_call 80; (with_reducible refine (SM.out _ _ Sf.out.2.2.2.1).mono ?_); rintro e wg ⟨rfl, hb⟩; have Bg := Lib.hid (seqB Bf.out hb); obtain ⟨gs, z0g, z1g, u0g, u1g, p0g, p1g, q0g, q1g, r0g, r1g⟩ := KK9.out _ Bg.out; have Sg := Lib.hid gs; clear gs; clear hb SM z0f z1f u0f u1f p0f p1f q0f q1f r0f r1f Sf Bf)
    | (go_at_call 26; (with_reducible refine (IN.out _ _ _ _ Sg.out.2.2.2.1 Sg.out.2.1).mono ?_); rintro e wh ⟨bi, di, rfl, hs, hb⟩; have Hi := Lib.hid hs; clear hs; have Bh := Lib.hid (seqB Bg.out hb); obtain ⟨gs, z0h, z1h, u0h, u1h, p0h, p1h, q0h, q1h, r0h, r1h⟩ := KK9.out _ Bh.out; have Sh := Lib.hid gs; clear gs; clear hb IN z0g z1g u0g u1g p0g p1g q0g q1g r0g r1g Sg Bg)
    | (go_at_call 78; (with_reducible refine (T5.out _ _ _ Hi.out).mono ?_); rintro e wi ⟨rfl, hb⟩; have Bi := Lib.hid (seqB Bh.out hb); obtain ⟨gs, z0i, z1i, u0i, u1i, p0i, p1i, q0i, q1i, r0i, r1i⟩ := KK9.out _ Bi.out; have Si := Lib.hid gs; clear gs; clear hb T5 z0h z1h u0h u1h p0h p1h q0h q1h r0h r1h Sh Bh)
    | (go_at_call 81; (with_reducible refine (RP.out _ _ _ _ Si.out.2.2.2.1 Si.out.2.1).mono ?_); rintro e wj ⟨bj, dj, rfl, hs, hb⟩; have Hj := Lib.hid hs; clear hs; have Bj := Lib.hid (seqB Bi.out hb); obtain ⟨gs, z0j, z1j, u0j, u1j, p0j, p1j, q0j, q1j, r0j, r1j⟩ := KK9.out _ Bj.out; have Sj := Lib.hid gs; clear gs; clear hb RP z0i z1i u0i u1i p0i p1i q0i q1i r0i r1i Si Bi)
    | (go_at_call 78; (with_reducible refine (T6.out _ _ _ Hj.out).mono ?_); rintro e wk ⟨rfl, hb⟩; have Bk := Lib.hid (seqB Bj.out hb); obtain ⟨gs, z0k, z1k, u0k, u1k, p0k, p1k, q0k, q1k, r0k, r1k⟩ := KK9.out _ Bk.out; have Sk := Lib.hid gs; clear gs; clear hb T6 z0j z1j u0j u1j p0j p1j q0j q1j r0j r1j Sj Bj))
  go_ret
  exact ⟨rfl, Sk.out.2.2.2.2.2⟩
end Go.Proofs.YtdnmjofenckndaaDoor
set_option linter.unusedVariables false
set_option linter.unusedSimpArgs false
namespace Go.Proofs.YtdnmjofenckndaaDoor
open Go.RowKit Go.Sort
theorem light_ln (a : Option Addr) (n c : Nat) (x : Int) (bb : Bool) (hb : decide (n ≤ 100) = bb) (w : World) : Calls Tryd.prog 14 #[.agg #[.slice a n c, .int .i64 x]] w fun e w' => e = .returned (.bool bb) ∧ Below w.heap.size w w' := by
  have B0 := below_alloc w (.cells #[.slice a n c, .int .i64 x] 24)
  cases bb
  · have h1 : ¬ (n : Int) ≤ 100 := by have := of_decide_eq_false hb; omega
    clear hb
    go_enter Tryd.func14, Tryd.ntmps14
    go_wp2_with fail
    go_ret
    exact ⟨by simp [h1], B0⟩
  · have h1 : (n : Int) ≤ 100 := by have := of_decide_eq_true hb; omega
    clear hb
    go_enter Tryd.func14, Tryd.ntmps14
    go_wp2_with fail
    go_ret
    exact ⟨by simp [h1], B0⟩
/-- What a call that may change a line answers. -/
def SwP (n : Nat) (L1 : List (Int × Int)) (x1 : Int) (ok : Bool) (w : World) (e : Ending) (w' : World) : Prop :=
  ∃ b d, e = .returned (.tuple #[.agg #[.slice b n d, .int .i64 x1], .bool ok]) ∧ SgA w' b d L1 ∧ Below w.heap.size w w'
theorem swap_both (L : List (Int × Int)) (a : Option Addr) (n c at_ : Nat) (hn : L.length = n) (hl : n ≤ 100) (hat : at_ ≤ n) : ∃ (L1 : List (Int × Int)) (x1 : Int) (ok : Bool), L1.length = n ∧
    (∀ w, SgA w a c L → Calls Tryd.prog 17 #[.agg #[.slice a n c, .int .i64 (at_ : Int)]] w (SwP n L1 x1 ok w)) ∧ (∀ w, SgA w a c L → Calls Tryd.prog 18 #[.agg #[.slice a n c, .int .i64 (at_ : Int)]] w (SwP n L1 x1 ok w)) := by
  by_cases h : at_ = 0 ∨ n < 2
  · refine ⟨L, at_, false, hn, fun w hs => (lw_swap_no _ L a n c at_ w hn (by omega) hat h hs).mono ?_, fun w hs => (r17_swap_no a n c (at_ : Int) w (by omega)).mono ?_⟩
    · rintro e w' ⟨b, d, rfl, ho, hb⟩
      exact ⟨b, d, rfl, ows_slA ho, hb⟩
    · rintro e w' ⟨rfl, hb⟩
      exact ⟨a, c, rfl, hs.below hb, hb⟩
  · refine ⟨swM L at_, (swI n at_ : Nat) + 1, true, by rw [swM_len L at_ (by omega) (by omega), hn], fun w hs => (lw_swap_yes _ L a n c at_ w hn (by omega) hat (by omega) (by omega) hs).mono ?_, fun w hs => (r17_swap_yes _ L a n c at_ w hn (by omega) hat (by omega) (by omega) hs).mono ?_⟩
    · rintro e w' ⟨b, d, rfl, ho, hb⟩
      exact ⟨b, d, rfl, ows_slA ho, hb⟩
    · rintro e w' ⟨b, d, rfl, ho, hb⟩
      exact ⟨b, d, rfl, ows_slA ho, hb⟩
theorem words_both (L : List (Int × Int)) (a : Option Addr) (n c at_ : Nat) (hn : L.length = n) (hl : n ≤ 100) (hat : at_ ≤ n) : ∃ (L1 : List (Int × Int)) (x1 : Int) (ok : Bool), L1.length = n ∧
    (∀ w, Tabs w → SgA w a c L → Calls Tryd.prog 19 #[.agg #[.slice a n c, .int .i64 (at_ : Int)]] w (SwP n L1 x1 ok w)) ∧ (∀ w, SgA w a c L → Calls Tryd.prog 20 #[.agg #[.slice a n c, .int .i64 (at_ : Int)]] w (SwP n L1 x1 ok w)) := by
  obtain ⟨m, s2, e2, s1, e1, hW, g1, g2, g3, g4, g5, g6⟩ := wds_ex L at_
  rw [hn] at g1 g2 g3 g4
  have A := fun (w : World) (hT : Tabs w) (hs : SgA w a c L) => lw_swp (fun _ => True) L a n c at_ m s2 e2 s1 e1 w hn (by omega) hat hW g1 g2 g3 g4 g5 g6 _ _ rfl rfl hT hs
  have B := fun (w : World) (hs : SgA w a c L) => r17_swp (fun _ => True) L a n c at_ m s2 e2 s1 e1 w hn (by omega) hat hW g1 g2 g3 g4 g5 g6 _ _ rfl rfl hs
  by_cases h : swpOk s1 e1 s2 (kAt L false (s1 : Int) == 1) (kAt L false (s2 : Int) == 1)
  · refine ⟨swpM L s1 e1 s2 e2, e2, true, ?_, fun w hT hs => (A w hT hs).mono ?_, fun w hs => (B w hs).mono ?_⟩
    · obtain ⟨q1, q2, _, _⟩ := h
      unfold swpM
      simp only [List.length_append, List.length_take, List.length_drop]
      omega
    · rintro e w' ⟨h1, _, hb⟩
      obtain ⟨b, d, rfl, ho⟩ := h1 h
      exact ⟨b, d, rfl, ows_slA ho, hb⟩
    · rintro e w' ⟨h1, _, hb⟩
      obtain ⟨b, d, rfl, ho⟩ := h1 h
      exact ⟨b, d, rfl, ows_slA ho, hb⟩
  · refine ⟨L, at_, false, hn, fun w hT hs => (A w hT hs).mono ?_, fun w hs => (B w hs).mono ?_⟩
    · rintro e w' ⟨_, h1, hb⟩
      obtain ⟨b, d, rfl, ho⟩ := h1 h
      exact ⟨b, d, rfl, ows_slA ho, hb⟩
    · rintro e w' ⟨_, h1, hb⟩
      obtain rfl := h1 h
      exact ⟨a, c, rfl, hs.below hb, hb⟩
theorem lineswaps_far (a : Option Addr) (n c : Nat) (x : Int) (w : World) (hT : LnT w) (hl : ¬ n ≤ 100) :
    Calls Tryd.prog 3 #[.agg #[.slice a n c, .int .i64 x]] w fun e w' => e = .returned (.bool true) ∧ Below w.heap.size w w' := by
  have B0 := below_alloc w (.cells #[.slice a n c, .int .i64 x] 24)
  have LI := Lib.hid fun w => light_ln a n c x false (decide_eq_false hl) w
  have AW := Lib.hid fun w hT => lawake_any w hT
  have HT := Lib.hid hT
  clear hT
  go_enter Tryd.func3, Tryd.ntmps3
  go_wp2_with (first
    | (go_at_call 14; refine (LI.out _).mono ?_; rintro e w1 ⟨rfl, hb⟩; have N1 := Lib.hid (seqB B0 hb); clear hb)
    | (go_at_call 16; refine (AW.out _ (HT.out.below N1.out)).mono ?_; rintro e w2 ⟨rfl, hb⟩; have N2 := Lib.hid (seqB N1.out hb); clear hb))
  go_ret
  exact ⟨rfl, N2.out⟩
theorem lineswaps_no (L : List (Int × Int)) (a : Option Addr) (n c : Nat) (x : Int) (w : World) (hT : LnT w) (hn : L.length = n) (hl : n ≤ 100) (hno : (decide (0 ≤ x) && decide (x ≤ n) && sgC L) = false) (hs : SgA w a c L) :
    Calls Tryd.prog 3 #[.agg #[.slice a n c, .int .i64 x]] w fun e w' => e = .returned (.bool true) ∧ Below w.heap.size w w' := by
  have B0 := below_alloc w (.cells #[.slice a n c, .int .i64 x] 24)
  have z0 := (LnX.cells (w := w.alloc (.cells #[.slice a n c, .int .i64 x] 24)) (heap_alloc_new _ _)).1
  have z1 := (LnX.cells (w := w.alloc (.cells #[.slice a n c, .int .i64 x] 24)) (heap_alloc_new _ _)).2
  have X0 : Hid (LnX (w.alloc (.cells #[.slice a n c, .int .i64 x] 24)) w.heap.size a n c x) := Lib.hid (heap_alloc_new _ _)
  have LI := Lib.hid fun w => light_ln a n c x true (decide_eq_true hl) w
  have MA := fun (w' : World) (hb : Below w.heap.size w w') => r17_may L a n c x w' hn (by omega) (hs.s.below hb)
  rw [hno] at MA
  replace MA := Lib.hid MA
  have AW := Lib.hid fun w hT => lawake_any w hT
  have HT := Lib.hid hT
  clear hT hs hno
  go_enter Tryd.func3, Tryd.ntmps3
  go_wp2_with (first
    | (go_at_call 14; refine (LI.out _).mono ?_; rintro e w1 ⟨rfl, hb⟩; have N1 := Lib.hid (seqB B0 hb); have z0' := (X0.out.below hb).cells.1; have z1' := (X0.out.below hb).cells.2; clear hb)
    | (go_at_call 15; refine (MA.out _ N1.out).mono ?_; rintro e w2 ⟨rfl, hb⟩; have N2 := Lib.hid (seqB N1.out hb); clear hb)
    | (go_at_call 16; refine (AW.out _ (HT.out.below N2.out)).mono ?_; rintro e w3 ⟨rfl, hb⟩; have N3 := Lib.hid (seqB N2.out hb); clear hb))
  go_ret
  exact ⟨rfl, N3.out⟩
set_option maxHeartbeats 16000000 in
theorem lineswaps_yes (L : List (Int × Int)) (a : Option Addr) (n c p : Nat) (w : World) (hT : LnT w) (hn : L.length = n) (hl : n ≤ 100) (hp : p ≤ n) (hok : sgC L = true) (hs : SgA w a c L) :
    Calls Tryd.prog 3 #[.agg #[.slice a n c, .int .i64 (p : Int)]] w fun e w' => e = .returned (.bool true) ∧ Below w.heap.size w w' := by
  obtain ⟨L1, x1, ok1, hn1, S1, R1⟩ := swap_both L a n c p hn hl hp
  obtain ⟨L2, x2, ok2, hn2, S2, R2⟩ := words_both L a n c p hn hl hp
  replace S1 := Lib.hid S1; replace R1 := Lib.hid R1; replace S2 := Lib.hid S2; replace R2 := Lib.hid R2
  have B0 := below_alloc w (.cells #[.slice a n c, .int .i64 (p : Int)] 24)
  obtain ⟨W, hW⟩ : ∃ W, w.alloc (.cells #[.slice a n c, .int .i64 (p : Int)] 24) = W := ⟨_, rfl⟩
  have X0 : Hid (LnX W w.heap.size a n c (p : Int)) := Lib.hid (by rw [← hW]; exact heap_alloc_new _ _)
  rw [hW] at B0
  have z0 := X0.out.cells.1; have z1 := X0.out.cells.2
  have M0 := Lib.hid B0
  have LI := Lib.hid fun w => light_ln a n c (p : Int) true (decide_eq_true hl) w
  have MA := fun (w' : World) (hb : Below w.heap.size w w') => r17_may L a n c (p : Int) w' hn (by omega) (hs.s.below hb)
  rw [show (decide ((0 : Int) ≤ (p : Int)) && decide ((p : Int) ≤ n) && sgC L) = true by rw [hok, decide_eq_true (by omega), decide_eq_true (by omega)]; rfl] at MA
  replace MA := Lib.hid MA
  have AW := Lib.hid fun w hT => lawake_any w hT
  have HT := Lib.hid hT
  have HS := Lib.hid fun (w' : World) (hb : Below w.heap.size w w') => SgA.below hs hb
  have SA1 := Lib.hid fun (w' : World) (b b' : Option Addr) (d d' : Nat) (h : SgA w' b d L1) (h' : SgA w' b' d' L1) => r16_same L1 L1 b b' n n d d' x1 x1 w' hn1 hn1 (by omega) (by omega) h.s h'.s rfl rfl
  have SA2 := Lib.hid fun (w' : World) (b b' : Option Addr) (d d' : Nat) (h : SgA w' b d L2) (h' : SgA w' b' d' L2) => r16_same L2 L2 b b' n n d d' x2 x2 w' hn2 hn2 (by omega) (by omega) h.s h'.s rfl rfl
  have eo1 : (ok1 == ok1) = true := by simp
  have eo2 : (ok2 == ok2) = true := by simp
  clear hT hs hok hn hn1 hn2 B0
  go_enter Tryd.func3, Tryd.ntmps3
  go_upto_region 3 with (first
    | (go_at_call 14; refine (LI.out _).mono ?_; rintro e w1 ⟨rfl, hb⟩; have M1 := Lib.hid (seqB M0.out hb); have X1 := Lib.hid (X0.out.below hb); have z01 := X1.out.cells.1; have z11 := X1.out.cells.2; clear hb z0 z1 M0 X0 LI)
    | (go_at_call 15; refine (MA.out _ M1.out).mono ?_; rintro e w2 ⟨rfl, hb⟩; have M2 := Lib.hid (seqB M1.out hb); have X2 := Lib.hid (X1.out.below hb); have z02 := X2.out.cells.1; have z12 := X2.out.cells.2; clear hb z01 z11 M1 X1 MA))
  clear hW
  go_upto_region 4 with (go_at_call 17; refine (S1.out _ (HS.out _ M2.out)).mono ?_; rintro e w3 ⟨b3, d3, rfl, hs, hb⟩; have Y3 := Lib.hid hs; have M3 := Lib.hid (seqB M2.out hb); have X3 := Lib.hid (X2.out.below hb); clear hs hb z02 z12 M2 X2 S1)
  obtain ⟨v4, hv4⟩ : ∃ v, w3.alloc (.cells #[.slice b3 n d3, .int .i64 x1] 24) = v := ⟨_, rfl⟩
  obtain ⟨lx4, lb4⟩ := lnx_new w3 b3 n d3 x1 hv4
  rw [hv4]
  obtain ⟨X4, hX4⟩ : ∃ X, w3.heap.size = X := ⟨_, rfl⟩
  rw [hX4] at lx4
  rw [hX4]
  have Y4 := Lib.hid (Y3.out.below lb4)
  have M4 := Lib.hid (seqB M3.out lb4)
  have E4 := Lib.hid (X3.out.below lb4)
  have U4 := Lib.hid lx4
  have z0 := E4.out.cells.1; have z1 := E4.out.cells.2
  clear Y3 M3 X3 lb4 hv4 hX4 lx4
  go_upto_region 5 with (go_at_call 18; refine (R1.out _ (HS.out _ M4.out)).mono ?_; rintro e w5 ⟨b5, d5, rfl, hs, hb⟩; have G5 := Lib.hid hs; have Y5 := Lib.hid (Y4.out.below hb); have M5 := Lib.hid (seqB M4.out hb); have E5 := Lib.hid (E4.out.below hb); have U5 := Lib.hid (U4.out.below hb); clear hs hb z0 z1 M4 E4 Y4 U4 R1)
  obtain ⟨v6, hv6⟩ : ∃ v, w5.alloc (.cells #[.slice b5 n d5, .int .i64 x1] 24) = v := ⟨_, rfl⟩
  obtain ⟨lx6, lb6⟩ := lnx_new w5 b5 n d5 x1 hv6
  rw [hv6]
  obtain ⟨X6, hX6⟩ : ∃ X, w5.heap.size = X := ⟨_, rfl⟩
  rw [hX6] at lx6
  rw [hX6]
  have Y6 := Lib.hid (Y5.out.below lb6)
  have G6 := Lib.hid (G5.out.below lb6)
  have M6 := Lib.hid (seqB M5.out lb6)
  have E6 := Lib.hid (E5.out.below lb6)
  have U6 := Lib.hid (U5.out.below lb6)
  have V6 := Lib.hid lx6
  have z0 := E6.out.cells.1; have z1 := E6.out.cells.2
  clear Y5 G5 M5 E5 U5 lb6 hv6 hX6 lx6
  go_upto_region 6 with (go_at_call 19; refine (S2.out _ (HT.out.below M6.out).1 (HS.out _ M6.out)).mono ?_; rintro e w7 ⟨b7, d7, rfl, hs, hb⟩; have H7 := Lib.hid hs; have Y7 := Lib.hid (Y6.out.below hb); have G7 := Lib.hid (G6.out.below hb); have M7 := Lib.hid (seqB M6.out hb); have E7 := Lib.hid (E6.out.below hb); have U7 := Lib.hid (U6.out.below hb); have V7 := Lib.hid (V6.out.below hb); clear hs hb z0 z1 M6 E6 Y6 G6 U6 V6 S2)
  obtain ⟨v8, hv8⟩ : ∃ v, w7.alloc (.cells #[.slice b7 n d7, .int .i64 x2] 24) = v := ⟨_, rfl⟩
  obtain ⟨lx8, lb8⟩ := lnx_new w7 b7 n d7 x2 hv8
  rw [hv8]
  obtain ⟨X8, hX8⟩ : ∃ X, w7.heap.size = X := ⟨_, rfl⟩
  rw [hX8] at lx8
  rw [hX8]
  have Y8 := Lib.hid (Y7.out.below lb8)
  have G8 := Lib.hid (G7.out.below lb8)
  have H8 := Lib.hid (H7.out.below lb8)
  have M8 := Lib.hid (seqB M7.out lb8)
  have E8 := Lib.hid (E7.out.below lb8)
  have U8 := Lib.hid (U7.out.below lb8)
  have V8 := Lib.hid (V7.out.below lb8)
  have P8 := Lib.hid lx8
  have z0 := E8.out.cells.1; have z1 := E8.out.cells.2
  clear Y7 G7 H7 M7 E7 U7 V7 lb8 hv8 hX8 lx8
  go_upto_region 7 with (go_at_call 20; refine (R2.out _ (HS.out _ M8.out)).mono ?_; rintro e w9 ⟨b9, d9, rfl, hs, hb⟩; have J9 := Lib.hid hs; have H9 := Lib.hid (H8.out.below hb); have Y9 := Lib.hid (Y8.out.below hb); have G9 := Lib.hid (G8.out.below hb); have M9 := Lib.hid (seqB M8.out hb); have U9 := Lib.hid (U8.out.below hb); have V9 := Lib.hid (V8.out.below hb); have P9 := Lib.hid (P8.out.below hb); clear hs hb z0 z1 M8 E8 Y8 G8 H8 U8 V8 P8 R2)
  obtain ⟨vq, hvq⟩ : ∃ v, w9.alloc (.cells #[.slice b9 n d9, .int .i64 x2] 24) = v := ⟨_, rfl⟩
  obtain ⟨lxq, lbq⟩ := lnx_new w9 b9 n d9 x2 hvq
  rw [hvq]
  obtain ⟨Xq, hXq⟩ : ∃ X, w9.heap.size = X := ⟨_, rfl⟩
  rw [hXq] at lxq
  rw [hXq]
  have Ya := Lib.hid (Y9.out.below lbq)
  have Ga := Lib.hid (G9.out.below lbq)
  have Ha := Lib.hid (H9.out.below lbq)
  have Ja := Lib.hid (J9.out.below lbq)
  have Ma := Lib.hid (seqB M9.out lbq)
  have Ua := Lib.hid (U9.out.below lbq)
  have Va := Lib.hid (V9.out.below lbq)
  have Pa := Lib.hid (P9.out.below lbq)
  have Qa := Lib.hid lxq
  clear Y9 G9 H9 J9 M9 U9 V9 P9 lbq hvq hXq lxq
  go_wp2_with (first
    | (go_at_call 16; refine (AW.out _ (HT.out.below Ma.out)).mono ?_; rintro e wb ⟨rfl, hb⟩; have Yb := Lib.hid (Ya.out.below hb); have Gb := Lib.hid (Ga.out.below hb); have Hb := Lib.hid (Ha.out.below hb); have Jb := Lib.hid (Ja.out.below hb); have Mb := Lib.hid (seqB Ma.out hb); have ub := (Ua.out.below hb).cells; have vb := (Va.out.below hb).cells; have pb := (Pa.out.below hb).cells; have qb := (Qa.out.below hb).cells; have u0 := ub.1; have u1 := ub.2; have v0 := vb.1; have v1 := vb.2; have p0 := pb.1; have p1 := pb.2; have q0 := qb.1; have q1 := qb.2; clear ub vb pb qb Ya Ga Ha Ja Ma AW; have PP := Lib.hid (Pa.out.below hb); have QQ := Lib.hid (Qa.out.below hb); clear hb)
    | (go_at_call 21; (with_reducible refine (SA1.out _ _ _ _ _ Yb.out Gb.out).mono ?_); rintro e wc ⟨rfl, hb⟩; have Hc := Lib.hid (Hb.out.below hb); have Jc := Lib.hid (Jb.out.below hb); have Mc := Lib.hid (seqB Mb.out hb); have p0c := (PP.out.below hb).cells.1; have p1c := (PP.out.below hb).cells.2; have q0c := (QQ.out.below hb).cells.1; have q1c := (QQ.out.below hb).cells.2; clear hb u0 u1 v0 v1 p0 p1 q0 q1 SA1 Yb Gb Mb Hb Jb)
    | (go_at_call 21; (with_reducible refine (SA2.out _ _ _ _ _ Hc.out Jc.out).mono ?_); rintro e wd ⟨rfl, hb⟩; have Md := Lib.hid (seqB Mc.out hb); clear hb))
  go_ret
  exact ⟨rfl, Md.out⟩
theorem lineswaps_any (y : SgArg) (x : Int) (w : World) (hT : LnT w) (hy : y.In w w.heap.size) :
    Calls Tryd.prog 3 #[.agg #[.slice y.a y.l.length y.c, .int .i64 x]] w fun e w' => e = .returned (.bool true) ∧ Below w.heap.size w w' := by
  have hs : SgA w y.a y.c y.l := hy.1.mono (fun _ _ => trivial)
  by_cases hl : y.l.length ≤ 100
  · cases hm : (decide (0 ≤ x) && decide (x ≤ y.l.length) && sgC y.l) with
    | false => exact lineswaps_no y.l y.a _ y.c x w hT rfl hl hm hs
    | true =>
      simp only [Bool.and_eq_true, decide_eq_true_eq] at hm
      obtain ⟨⟨h1, h2⟩, h3⟩ := hm
      obtain ⟨p, rfl⟩ := Int.eq_ofNat_of_zero_le h1
      exact lineswaps_yes y.l y.a _ y.c p w hT rfl hl (by omega) h3 hs
  · exact lineswaps_far y.a _ y.c x w hT hl
end Go.Proofs.YtdnmjofenckndaaDoor
