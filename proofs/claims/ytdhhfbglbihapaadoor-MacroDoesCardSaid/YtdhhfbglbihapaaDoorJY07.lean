/-
  Joined: Ma5 Ma6 Ma7.
-/
import Derived.Test.YtdhhfbglbihapaaDoorJY06
set_option linter.unusedVariables false
set_option linter.unusedSimpArgs false
set_option maxRecDepth 100000
set_option linter.unusedVariables false
set_option linter.unusedSimpArgs false
namespace Go.Proofs.YtdhhfbglbihapaaDoor
open Go.RowKit Go.Sort
set_option maxHeartbeats 1000000 in
theorem ksame_ref (l : List Ky) (a b : Option Addr) (n c d : Nat) (w : World) (hn : l.length = n) (hl : n ≤ 1000000) (hs : KeysIn w a l) (ht : KeysIn w b l) :
    Calls Tryd.prog 52 #[.slice a n c, .slice b n d] w fun e w' => e = .returned (.bool true) ∧ Below w.heap.size w w' := by
  have HS := Lib.hid hs; have HT := Lib.hid ht; have HN := Lib.hid hn
  clear hs ht hn
  go_enter Tryd.func52, Tryd.ntmps52
  go_wp2
  go_loopw [5] (fun iv wr => ∃ k : Nat, k ≤ n ∧ iv = .int .i64 (k : Int) ∧ Below w.heap.size w wr) (fun iv _ => n - (intOf iv).toNat)
  case atStart => exact ⟨0, Nat.zero_le _, rfl, Below.refl _ _⟩
  case round =>
    obtain ⟨k, hk, rfl, hb⟩ := hrel
    by_cases hlt : k < n
    · obtain ⟨b1, o1, rfl, hblk1, c1, c2, c3, c4⟩ := (HS.out.below hb) k (by rw [HN.out]; exact hlt)
      obtain ⟨b2, o2, rfl, hblk2, d1, d2, d3, d4⟩ := (HT.out.below hb) k (by rw [HN.out]; exact hlt)
      have hk1 : (k : Int) < n := by omega
      have hk0 : (0 : Int) ≤ k := by omega
      generalize l.getD k k0 = x at *
      obtain ⟨x1, x2, x3, x4⟩ := x
      dsimp at c1 c2 c3 c4 d1 d2 d3 d4
      go_wp2
      go_quiet (fail)
      go_wp2
      go_roundw
      case rel => exact ⟨k + 1, by omega, by go_num, drewN_below hb _⟩
      case measure => (simp [intOf]; try omega)
    · obtain rfl : k = n := by omega
      have hkl : ¬ (k : Int) < (k : Int) := by omega
      go_wp2
      go_ret
      exact ⟨rfl, hb⟩
/-- The document's macro as a value. -/
abbrev mV (la : Option Addr) (ln lc : Nat) (na : Option Addr) (nn nc : Nat) (kp : Bool) : Value := .agg #[.slice la ln lc, .slice na nn nc, .bool kp]
theorem rturn_on (la na : Option Addr) (ln lc nn nc : Nat) (w : World) : Calls Tryd.prog 46 #[mV la ln lc na nn nc false] w fun e w' => e = .returned (mV la ln lc none 0 0 true) ∧ Below w.heap.size w w' := by
  have HB := Lib.hid (seqB (below_alloc w (.cells #[.slice la ln lc, .slice na nn nc, .bool false] 73)) (below_alloc _ (.cells #[.slice la ln lc, .slice none 0 0, .bool true] 73)))
  go_enter Tryd.func46, Tryd.ntmps46
  go_wp2
  refine bodyPost_ret (v := mV la ln lc none 0 0 true) (by simp [results, Tryd.results46, go_sem, mV]) rfl ?_
  exact ⟨rfl, HB.out⟩
theorem rturn_off (la na : Option Addr) (ln lc nn nc : Nat) (w : World) (hn : 0 < nn) : Calls Tryd.prog 46 #[mV la ln lc na nn nc true] w fun e w' => e = .returned (mV na nn nc none 0 0 false) ∧ Below w.heap.size w w' := by
  have HB := Lib.hid (seqB (below_alloc w (.cells #[.slice la ln lc, .slice na nn nc, .bool true] 73)) (below_alloc _ (.cells #[.slice na nn nc, .slice none 0 0, .bool false] 73)))
  have hn1 : (0 : Int) < (nn : Int) := by omega
  go_enter Tryd.func46, Tryd.ntmps46
  go_wp2
  refine bodyPost_ret (v := mV na nn nc none 0 0 false) (by simp [results, Tryd.results46, go_sem, mV]) rfl ?_
  exact ⟨rfl, HB.out⟩
theorem rturn_none (la na : Option Addr) (ln lc nc : Nat) (w : World) : Calls Tryd.prog 46 #[mV la ln lc na 0 nc true] w fun e w' => e = .returned (mV la ln lc none 0 0 false) ∧ Below w.heap.size w w' := by
  have HB := Lib.hid (seqB (below_alloc w (.cells #[.slice la ln lc, .slice na 0 nc, .bool true] 73)) (below_alloc _ (.cells #[.slice la ln lc, .slice none 0 0, .bool false] 73)))
  go_enter Tryd.func46, Tryd.ntmps46
  go_wp2
  refine bodyPost_ret (v := mV la ln lc none 0 0 false) (by simp [results, Tryd.results46, go_sem, mV]) rfl ?_
  exact ⟨rfl, HB.out⟩
end Go.Proofs.YtdhhfbglbihapaaDoor
set_option linter.unusedVariables false
set_option linter.unusedSimpArgs false
namespace Go.Proofs.YtdhhfbglbihapaaDoor
open Go.RowKit Go.Sort
theorem three_new (w : World) (c1 c2 c3 : Array Value) (t1 t2 t3 : TypeId) : (((w.alloc (.cells c1 t1)).alloc (.cells c2 t2)).alloc (.cells c3 t3)).heap[w.heap.size]? = some (.cells c1 t1 (0, 0)) ∧ (((w.alloc (.cells c1 t1)).alloc (.cells c2 t2)).alloc (.cells c3 t3)).heap[w.heap.size + 1]? = some (.cells c2 t2 (0, 0)) ∧
    (((w.alloc (.cells c1 t1)).alloc (.cells c2 t2)).alloc (.cells c3 t3)).heap[w.heap.size + 1 + 1]? = some (.cells c3 t3 (0, 0)) ∧ Below w.heap.size w (((w.alloc (.cells c1 t1)).alloc (.cells c2 t2)).alloc (.cells c3 t3)) := by
  have s1 : (w.alloc (.cells c1 t1)).heap.size = w.heap.size + 1 := by simp
  have s2 : ((w.alloc (.cells c1 t1)).alloc (.cells c2 t2)).heap.size = w.heap.size + 1 + 1 := by simp
  have b1 := below_alloc w (.cells c1 t1)
  have b2 := below_alloc (w.alloc (.cells c1 t1)) (.cells c2 t2)
  have b3 := below_alloc ((w.alloc (.cells c1 t1)).alloc (.cells c2 t2)) (.cells c3 t3)
  have h1 := heap_alloc_new w (.cells c1 t1)
  have h2 := heap_alloc_new (w.alloc (.cells c1 t1)) (.cells c2 t2)
  have h3 := heap_alloc_new ((w.alloc (.cells c1 t1)).alloc (.cells c2 t2)) (.cells c3 t3)
  rw [s1] at h2; rw [s2] at h3
  exact ⟨blk_below (blk_below h1 b2) b3, blk_below h2 b3, h3, seqB (seqB b1 b2) b3⟩
theorem rdo_off (k : Ky) (M : Int) (la na : Option Addr) (ln lc nn nc : Nat) (w : World) : Calls Tryd.prog 47 #[mV la ln lc na nn nc false, .agg #[.int .i64 k.1, .int .i64 k.2.1, .string k.2.2.1, .bool k.2.2.2], .int .i64 M] w fun e w' => e = .returned (.tuple #[mV la ln lc na nn nc false, .bool false]) ∧ Below w.heap.size w w' := by
  have B3 := Lib.hid fun c3 t3 => (three_new w #[.slice la ln lc, .slice na nn nc, .bool false] #[.int .i64 k.1, .int .i64 k.2.1, .string k.2.2.1, .bool k.2.2.2] c3 73 75 t3).2.2.2
  go_enter Tryd.func47, Tryd.ntmps47
  go_wp2
  refine bodyPost_ret (v := .tuple #[mV la ln lc na nn nc false, .bool false]) (by simp [results, Tryd.results47, go_sem, mV]) rfl ?_
  exact ⟨rfl, B3.out _ _⟩
set_option maxHeartbeats 1000000 in
theorem rdo_bad (k : Ky) (M : Int) (la na : Option Addr) (ln lc nn nc : Nat) (w : World) (hb : keyB k = false) : Calls Tryd.prog 47 #[mV la ln lc na nn nc true, .agg #[.int .i64 k.1, .int .i64 k.2.1, .string k.2.2.1, .bool k.2.2.2], .int .i64 M] w fun e w' => e = .returned (.tuple #[mV la ln lc na nn nc true, .bool false]) ∧ Below w.heap.size w w' := by
  obtain ⟨hY, hX, hZ, hB⟩ := three_new w #[.slice la ln lc, .slice na nn nc, .bool true] #[.int .i64 k.1, .int .i64 k.2.1, .string k.2.2.1, .bool k.2.2.2] #[.slice none 0 0, .slice none 0 0, .bool false] 73 75 73
  have RM := Lib.hid fun w => rmay_t k w false hb
  go_enter Tryd.func47, Tryd.ntmps47
  go_upto_region 1 with fail
  generalize (((w.alloc (.cells #[.slice la ln lc, .slice na nn nc, .bool true] 73)).alloc (.cells #[.int .i64 k.1, .int .i64 k.2.1, .string k.2.2.1, .bool k.2.2.2] 75)).alloc (.cells #[.slice none 0 0, .slice none 0 0, .bool false] 73)) = W3 at *
  have hYs : w.heap.size < W3.heap.size := blk_lt hY
  have hZw : Hid (w.heap.size ≤ w.heap.size + 1 + 1) := Lib.hid (by omega)
  obtain ⟨Z, hZq⟩ : ∃ Z, w.heap.size + 1 + 1 = Z := ⟨_, rfl⟩
  obtain ⟨X, hXq⟩ : ∃ X, w.heap.size + 1 = X := ⟨_, rfl⟩
  have hne : Hid (Z ≠ w.heap.size ∧ w.heap.size ≤ Z) := Lib.hid (by omega)
  rw [hZq] at hZ
  rw [hZq, hXq]
  rw [hXq] at hX
  have x0 := cell_of_row _ _ 0 _ _ _ hX; have x1 := cell_of_row _ _ 1 _ _ _ hX; have x2 := cell_of_row _ _ 2 _ _ _ hX; have x3 := cell_of_row _ _ 3 _ _ _ hX
  have y2 := cell_of_row _ _ 2 _ _ _ hY
  dsimp at x0 x1 x2 x3 y2
  have HY := Lib.hid hY; have HZ := Lib.hid hZ; have HB := Lib.hid hB
  clear hY hX hZ hB hZq hXq hZw
  go_upto_region 2 with (go_at_call 88; refine (RM.out _).mono ?_; rintro e w1 ⟨rfl, hb1⟩; have HY1 := Lib.hid (blk_below HY.out hb1); have HZ1 := Lib.hid (blk_below HZ.out hb1); have HB1 := Lib.hid (seqB HB.out hb1); have yy := fun i => cell_of_row _ _ i _ _ _ HY1.out; have zz := fun i => cell_of_row _ _ i _ _ _ HZ1.out; have y10 := yy 0; have y11 := yy 1; have y12 := yy 2; have z0 := zz 0; have z1 := zz 1; have z2 := zz 2; have zf := fun i => frozen_of_row _ Z i _ _ HZ1.out; dsimp at y10 y11 y12 z0 z1 z2; clear hb1 yy zz)
  go_wp2
  have hWF := blk_set (blk_set (blk_set HZ1.out 0 (.slice la ln lc)) 1 (.slice na nn nc)) 2 (.bool true)
  have NF := ((HB1.out.setCell (p := ⟨Z, 0, none⟩) hne.out.2 (.slice la ln lc)).setCell (p := ⟨Z, 1, none⟩) hne.out.2 (.slice na nn nc)).setCell (p := ⟨Z, 2, none⟩) hne.out.2 (.bool true)
  generalize ((w1.setCell ⟨Z, 0, none⟩ (.slice la ln lc)).setCell ⟨Z, 1, none⟩ (.slice na nn nc)).setCell ⟨Z, 2, none⟩ (.bool true) = WF at *
  have zz := fun i => cell_of_row _ _ i _ _ _ hWF
  have f0 : WF.cell? ⟨Z, 0, none⟩ = some (.slice la ln lc) := zz 0
  have f1 : WF.cell? ⟨Z, 1, none⟩ = some (.slice na nn nc) := zz 1
  have f2 : WF.cell? ⟨Z, 2, none⟩ = some (.bool true) := zz 2
  refine bodyPost_ret (v := .tuple #[mV la ln lc na nn nc true, .bool false]) (by simp [results, Tryd.results47, go_sem, mV, f0, f1, f2]) rfl ?_
  exact ⟨rfl, NF⟩
set_option maxHeartbeats 1000000 in
theorem rdo_full (k : Ky) (M : Int) (la na : Option Addr) (ln lc nn nc : Nat) (w : World) (hb : keyB k = true) (hM : M ≤ (nn : Int)) : Calls Tryd.prog 47 #[mV la ln lc na nn nc true, .agg #[.int .i64 k.1, .int .i64 k.2.1, .string k.2.2.1, .bool k.2.2.2], .int .i64 M] w fun e w' => e = .returned (.tuple #[mV la ln lc na nn nc true, .bool false]) ∧ Below w.heap.size w w' := by
  obtain ⟨hY, hX, hZ, hB⟩ := three_new w #[.slice la ln lc, .slice na nn nc, .bool true] #[.int .i64 k.1, .int .i64 k.2.1, .string k.2.2.1, .bool k.2.2.2] #[.slice none 0 0, .slice none 0 0, .bool false] 73 75 73
  have RM := Lib.hid fun w => rmay_t k w true hb
  go_enter Tryd.func47, Tryd.ntmps47
  go_upto_region 1 with fail
  generalize (((w.alloc (.cells #[.slice la ln lc, .slice na nn nc, .bool true] 73)).alloc (.cells #[.int .i64 k.1, .int .i64 k.2.1, .string k.2.2.1, .bool k.2.2.2] 75)).alloc (.cells #[.slice none 0 0, .slice none 0 0, .bool false] 73)) = W3 at *
  have hYs : w.heap.size < W3.heap.size := blk_lt hY
  have hZw : Hid (w.heap.size ≤ w.heap.size + 1 + 1) := Lib.hid (by omega)
  obtain ⟨Z, hZq⟩ : ∃ Z, w.heap.size + 1 + 1 = Z := ⟨_, rfl⟩
  obtain ⟨X, hXq⟩ : ∃ X, w.heap.size + 1 = X := ⟨_, rfl⟩
  have hne : Hid (Z ≠ w.heap.size ∧ w.heap.size ≤ Z) := Lib.hid (by omega)
  rw [hZq] at hZ
  rw [hZq, hXq]
  rw [hXq] at hX
  have x0 := cell_of_row _ _ 0 _ _ _ hX; have x1 := cell_of_row _ _ 1 _ _ _ hX; have x2 := cell_of_row _ _ 2 _ _ _ hX; have x3 := cell_of_row _ _ 3 _ _ _ hX
  have y2 := cell_of_row _ _ 2 _ _ _ hY
  dsimp at x0 x1 x2 x3 y2
  have HY := Lib.hid hY; have HZ := Lib.hid hZ; have HB := Lib.hid hB
  clear hY hX hZ hB hZq hXq hZw
  go_upto_region 2 with (go_at_call 88; refine (RM.out _).mono ?_; rintro e w1 ⟨rfl, hb1⟩; have HY1 := Lib.hid (blk_below HY.out hb1); have HZ1 := Lib.hid (blk_below HZ.out hb1); have HB1 := Lib.hid (seqB HB.out hb1); have yy := fun i => cell_of_row _ _ i _ _ _ HY1.out; have zz := fun i => cell_of_row _ _ i _ _ _ HZ1.out; have y10 := yy 0; have y11 := yy 1; have y12 := yy 2; have z0 := zz 0; have z1 := zz 1; have z2 := zz 2; have zf := fun i => frozen_of_row _ Z i _ _ HZ1.out; dsimp at y10 y11 y12 z0 z1 z2; clear hb1 yy zz)
  go_wp2
  have hWF := blk_set (blk_set (blk_set HZ1.out 0 (.slice la ln lc)) 1 (.slice na nn nc)) 2 (.bool true)
  have NF := ((HB1.out.setCell (p := ⟨Z, 0, none⟩) hne.out.2 (.slice la ln lc)).setCell (p := ⟨Z, 1, none⟩) hne.out.2 (.slice na nn nc)).setCell (p := ⟨Z, 2, none⟩) hne.out.2 (.bool true)
  generalize ((w1.setCell ⟨Z, 0, none⟩ (.slice la ln lc)).setCell ⟨Z, 1, none⟩ (.slice na nn nc)).setCell ⟨Z, 2, none⟩ (.bool true) = WF at *
  have zz := fun i => cell_of_row _ _ i _ _ _ hWF
  have f0 : WF.cell? ⟨Z, 0, none⟩ = some (.slice la ln lc) := zz 0
  have f1 : WF.cell? ⟨Z, 1, none⟩ = some (.slice na nn nc) := zz 1
  have f2 : WF.cell? ⟨Z, 2, none⟩ = some (.bool true) := zz 2
  refine bodyPost_ret (v := .tuple #[mV la ln lc na nn nc true, .bool false]) (by simp [results, Tryd.results47, go_sem, mV, f0, f1, f2]) rfl ?_
  exact ⟨rfl, NF⟩
end Go.Proofs.YtdhhfbglbihapaaDoor
set_option linter.unusedVariables false
set_option linter.unusedSimpArgs false
namespace Go.Proofs.YtdhhfbglbihapaaDoor
open Go.RowKit Go.Sort
theorem cell_ofb {w w' : World} {b : Nat} (h : w'.heap[b]? = w.heap[b]?) (i : Nat) : w'.cell? ⟨b, i, none⟩ = w.cell? ⟨b, i, none⟩ := by
  unfold World.cell?; rw [h]
theorem blank3 (w : World) (o : Obj) : OwK (((w.alloc o).alloc (.cells #[] 75)).drew) w.heap.size (.slice (some ⟨w.heap.size + 1, 0, none⟩) 0 0) [] := by
  have h := owk_new (w.alloc o)
  have s : (w.alloc o).heap.size = w.heap.size + 1 := by simp
  rw [s] at h
  exact OwK.mono h (Nat.le_succ _)
theorem key_new2 (w : World) (o : Obj) (k : Ky) : KeysIn ((w.alloc o).alloc (.cells #[.int .i64 k.1, .int .i64 k.2.1, .string k.2.2.1, .bool k.2.2.2] 75)) (some ⟨w.heap.size + 1, 0, none⟩) [k] := by
  have h := key_new1 (w.alloc o) k
  have s : (w.alloc o).heap.size = w.heap.size + 1 := by simp
  rw [s] at h
  exact h
set_option maxHeartbeats 8000000 in
theorem rdo_yes (S : Nat → Prop) (k : Ky) (M : Int) (Nw : List Ky) (la na : Option Addr) (ln lc nn nc : Nat) (w : World) (hb : keyB k = true) (hM : (nn : Int) < M) (hn : Nw.length = nn) (hnn : nn ≤ 9999) (hs : SlK S w na Nw nc) :
    Calls Tryd.prog 47 #[mV la ln lc na nn nc true, .agg #[.int .i64 k.1, .int .i64 k.2.1, .string k.2.2.1, .bool k.2.2.2], .int .i64 M] w fun e w' => ∃ b d, e = .returned (.tuple #[mV la ln lc b (nn + 1) d true, .bool true]) ∧ SlK (fun j => w.heap.size ≤ j ∧ j < w'.heap.size) w' b (Nw ++ [k]) d ∧ Below w.heap.size w w' := by
  obtain ⟨hY, hX, hZ, hB⟩ := three_new w #[.slice la ln lc, .slice na nn nc, .bool true] #[.int .i64 k.1, .int .i64 k.2.1, .string k.2.2.1, .bool k.2.2.2] #[.slice none 0 0, .slice none 0 0, .bool false] 73 75 73
  have RM := Lib.hid fun w => rmay_t k w true hb
  have HS := Lib.hid hs
  have HN := Lib.hid hn
  clear hs hn
  go_enter Tryd.func47, Tryd.ntmps47
  go_upto_region 1 with fail
  generalize (((w.alloc (.cells #[.slice la ln lc, .slice na nn nc, .bool true] 73)).alloc (.cells #[.int .i64 k.1, .int .i64 k.2.1, .string k.2.2.1, .bool k.2.2.2] 75)).alloc (.cells #[.slice none 0 0, .slice none 0 0, .bool false] 73)) = W3 at *
  obtain ⟨Z, hZq⟩ : ∃ Z, w.heap.size + 1 + 1 = Z := ⟨_, rfl⟩
  obtain ⟨X, hXq⟩ : ∃ X, w.heap.size + 1 = X := ⟨_, rfl⟩
  have hne : Hid (Z ≠ w.heap.size ∧ w.heap.size ≤ Z) := Lib.hid (by omega)
  rw [hZq] at hZ
  rw [hZq, hXq]
  rw [hXq] at hX
  obtain ⟨Y, hYq⟩ : ∃ Y, w.heap.size = Y := ⟨_, rfl⟩
  rw [hYq] at hY ⊢
  have HYq : Hid (w.heap.size = Y) := Lib.hid hYq
  have x0 := cell_of_row _ _ 0 _ _ _ hX; have x1 := cell_of_row _ _ 1 _ _ _ hX; have x2 := cell_of_row _ _ 2 _ _ _ hX; have x3 := cell_of_row _ _ 3 _ _ _ hX
  have y1 := cell_of_row _ _ 1 _ _ _ hY
  have y2 := cell_of_row _ _ 2 _ _ _ hY
  dsimp at x0 x1 x2 x3 y1 y2
  have HX := Lib.hid hX; have HY := Lib.hid hY; have HZ := Lib.hid hZ; have HB := Lib.hid hB
  clear hY hX hZ hB hZq hXq hYq
  go_upto_region 3 with (go_at_call 88; refine (RM.out _).mono ?_; rintro e w1 ⟨rfl, hb1⟩; have HY1 := Lib.hid (blk_below HY.out hb1); have HX1 := Lib.hid (blk_below HX.out hb1); have HZ1 := Lib.hid (blk_below HZ.out hb1); have HB1 := Lib.hid (seqB HB.out hb1); have yy := fun i => cell_of_row _ _ i _ _ _ HY1.out; have xx := fun i => cell_of_row _ _ i _ _ _ HX1.out; have y11 := yy 1; have x10 := xx 0; have x11 := xx 1; have x12 := xx 2; have x13 := xx 3; dsimp at y11 x10 x11 x12 x13; have yfr := frozen_of_row _ Y 1 _ _ HY1.out; clear hb1 yy xx)
  clear x0 x1 x2 x3 y1 y2 RM HX HY HZ HB
  have hXl : X < w1.heap.size := blk_lt HX1.out
  have hYl : Y < w1.heap.size := blk_lt HY1.out
  have hZl : Z < w1.heap.size := blk_lt HZ1.out
  obtain ⟨B, hBq⟩ : ∃ B, w1.heap.size = B := ⟨_, rfl⟩
  have HBq := Lib.hid hBq
  have e1 := (below_alloc w1 (.cells #[] 75)).drew
  have e2 := (seqB (below_alloc w1 (.cells #[] 75)) (below_alloc _ (.cells #[.int .i64 k.1, .int .i64 k.2.1, .string k.2.2.1, .bool k.2.2.2] 75))).drew
  have e3 := (seqB (below_alloc w1 (.cells #[.int .i64 k.1, .int .i64 k.2.1, .string k.2.2.1, .bool k.2.2.2] 75)) (below_alloc _ (.cells #[] 75))).drew
  have S1 := HS.out.below HB1.out
  have own1 : Hid (OwK ((w1.alloc (.cells #[] 75)).drew) w1.heap.size (.slice (some ⟨w1.heap.size, 0, none⟩) 0 0) []) := Lib.hid (owk_new w1)
  have own2 : Hid (OwK (((w1.alloc (.cells #[] 75)).alloc (.cells #[.int .i64 k.1, .int .i64 k.2.1, .string k.2.2.1, .bool k.2.2.2] 75)).drew) w1.heap.size (.slice (some ⟨w1.heap.size, 0, none⟩) 0 0) []) := Lib.hid ((owk_new w1).below (below_alloc _ _).drew)
  have own3 := Lib.hid (blank3 w1 (.cells #[.int .i64 k.1, .int .i64 k.2.1, .string k.2.2.1, .bool k.2.2.2] 75))
  have n1 := Lib.hid (S1.below e1); have n2 := Lib.hid (S1.below e2); have n3 := Lib.hid (S1.below e3)
  have q2 : Hid (KeysIn (((w1.alloc (.cells #[] 75)).alloc (.cells #[.int .i64 k.1, .int .i64 k.2.1, .string k.2.2.1, .bool k.2.2.2] 75)).drew) (some ⟨w1.heap.size + 1, 0, none⟩) [k]) := Lib.hid (key_new2 w1 _ k)
  have q3 : Hid (KeysIn (((w1.alloc (.cells #[.int .i64 k.1, .int .i64 k.2.1, .string k.2.2.1, .bool k.2.2.2] 75)).alloc (.cells #[] 75)).drew) (some ⟨w1.heap.size, 0, none⟩) [k]) := Lib.hid ((key_new1 w1 k).below (below_alloc _ _).drew)
  have hl1 : Hid (w1.heap.size ≤ ((w1.alloc (.cells #[] 75)).drew).heap.size) := Lib.hid e1.size
  have hl2 : Hid (w1.heap.size ≤ (((w1.alloc (.cells #[] 75)).alloc (.cells #[.int .i64 k.1, .int .i64 k.2.1, .string k.2.2.1, .bool k.2.2.2] 75)).drew).heap.size) := Lib.hid e2.size
  have hl3 : Hid (w1.heap.size ≤ (((w1.alloc (.cells #[.int .i64 k.1, .int .i64 k.2.1, .string k.2.2.1, .bool k.2.2.2] 75)).alloc (.cells #[] 75)).drew).heap.size) := Lib.hid e3.size
  have E1 := Lib.hid e1; have E2 := Lib.hid e2; have E3 := Lib.hid e3
  clear S1 e1 e2 e3 hBq
  go_region_law
    (first
      | (refine step_app_keys (by rfl) _ _ (by rfl) w1.heap.size (.slice (some ⟨w1.heap.size, 0, none⟩) 0 0) 0 [] (by rfl) rfl own1.out na nn nc Nw (by rfl) HN.out n1.out.s n1.out.nl ?c3 hl1.out ?_
         case c3 => omega
         intro ad9 c9 w9 o9 g9 p9
         rw [Nat.zero_add] at o9
         have N9 := Lib.hid (E1.out.grown g9 hl1.out (fun j hj => by simp [Value.ownBlock] at hj; omega))
         have O9 := Lib.hid (show OwK w9 w1.heap.size (.slice ad9 nn c9) Nw from o9)
         have x90 := (N9.out.cell (p := ⟨X, 0, none⟩) hXl).trans x10; have x91 := (N9.out.cell (p := ⟨X, 1, none⟩) hXl).trans x11; have x92 := (N9.out.cell (p := ⟨X, 2, none⟩) hXl).trans x12; have x93 := (N9.out.cell (p := ⟨X, 3, none⟩) hXl).trans x13
         clear o9 g9 p9)
      | (refine step_app_keys (by rfl) _ _ (by rfl) w1.heap.size (.slice (some ⟨w1.heap.size, 0, none⟩) 0 0) 0 [] (by rfl) rfl own2.out na nn nc Nw (by rfl) HN.out n2.out.s n2.out.nl ?c3 hl2.out ?_
         case c3 => omega
         intro ad9 c9 w9 o9 g9 p9
         rw [Nat.zero_add] at o9
         have N9 := Lib.hid (E2.out.grown g9 hl2.out (fun j hj => by simp [Value.ownBlock] at hj; omega))
         have O9 := Lib.hid (show OwK w9 w1.heap.size (.slice ad9 nn c9) Nw from o9)
         obtain ⟨rb, hrb⟩ : ∃ rb, rb = w1.heap.size + 1 := ⟨_, rfl⟩
         have r9 : Hid (KeysIn w9 (some ⟨rb, 0, none⟩) [k]) := Lib.hid (by
           rw [hrb]
           intro i hi
           obtain rfl : i = 0 := by simpa using hi
           obtain ⟨b, off, e, hlt, c0, c1, c2, c3⟩ := q2.out 0 (by simp)
           cases e
           have hbk := g9.block (w1.heap.size + 1) (by simp) (by simp [Value.ownBlock])
           exact ⟨_, _, rfl, Nat.lt_of_lt_of_le hlt g9.size, (cell_ofb hbk _).trans c0, (cell_ofb hbk _).trans c1, (cell_ofb hbk _).trans c2, (cell_ofb hbk _).trans c3⟩)
         clear o9 g9 p9)
      | (refine step_app_keys (by rfl) _ _ (by rfl) w1.heap.size (.slice (some ⟨w1.heap.size + 1, 0, none⟩) 0 0) 0 [] (by rfl) rfl own3.out na nn nc Nw (by rfl) HN.out n3.out.s n3.out.nl ?c3 hl3.out ?_
         case c3 => omega
         intro ad9 c9 w9 o9 g9 p9
         rw [Nat.zero_add] at o9
         have N9 := Lib.hid (E3.out.grown g9 hl3.out (fun j hj => by simp [Value.ownBlock] at hj; omega))
         have O9 := Lib.hid (show OwK w9 w1.heap.size (.slice ad9 nn c9) Nw from o9)
         obtain ⟨rb, hrb⟩ : ∃ rb, rb = w1.heap.size := ⟨_, rfl⟩
         have r9 : Hid (KeysIn w9 (some ⟨rb, 0, none⟩) [k]) := Lib.hid (by
           rw [hrb]
           intro i hi
           obtain rfl : i = 0 := by simpa using hi
           obtain ⟨b, off, e, hlt, c0, c1, c2, c3⟩ := q3.out 0 (by simp)
           cases e
           have hbk := g9.block w1.heap.size (by simp; omega) (by simp [Value.ownBlock])
           exact ⟨_, _, rfl, Nat.lt_of_lt_of_le hlt g9.size, (cell_ofb hbk _).trans c0, (cell_ofb hbk _).trans c1, (cell_ofb hbk _).trans c2, (cell_ofb hbk _).trans c3⟩)
         clear o9 g9 p9)
      | (refine step_app_keys (by rfl) _ _ (by rfl) w1.heap.size (.slice ad9 nn c9) nn Nw (by rfl) HN.out (O9.out.below (below_alloc _ _)) (some ⟨w9.heap.size, 0, none⟩) 1 1 [k] (by rfl) rfl (key_new1 w9 k) (fun e => (by cases e)) ?c3 (Nat.le_trans N9.out.size (below_alloc _ _).size) ?_
         case c3 => omega
         intro ad10 c10 w10 o10 g10 p10
         have O10 := Lib.hid (show OwK w10 w1.heap.size (.slice ad10 (nn + 1) c10) (Nw ++ [k]) from o10)
         have N10 := Lib.hid ((N9.out.trans ((below_alloc w9 (.cells #[.int .i64 k.1, .int .i64 k.2.1, .string k.2.2.1, .bool k.2.2.2] 75)).mono N9.out.size)).grown g10 (Nat.le_trans N9.out.size (below_alloc _ _).size) (fun j hj => (O9.out.lt j hj).1))
         have z1 := (N10.out.cell (p := ⟨Y, 1, none⟩) hYl).trans y11
         have zf := (N10.out.frozen (p := ⟨Y, 1, none⟩) hYl).trans yfr
         clear o10 g10 p10)
      | (refine step_app_keys (by rfl) _ _ (by rfl) w1.heap.size (.slice ad9 nn c9) nn Nw (by rfl) HN.out O9.out (some ⟨rb, 0, none⟩) 1 1 [k] ?_ rfl r9.out (fun e => (by cases e)) ?c3 N9.out.size ?_
         (rw [hrb]; rfl)
         case c3 => omega
         intro ad10 c10 w10 o10 g10 p10
         have O10 := Lib.hid (show OwK w10 w1.heap.size (.slice ad10 (nn + 1) c10) (Nw ++ [k]) from o10)
         have N10 := Lib.hid (N9.out.grown g10 N9.out.size (fun j hj => (O9.out.lt j hj).1))
         have z1 := (N10.out.cell (p := ⟨Y, 1, none⟩) hYl).trans y11
         have zf := (N10.out.frozen (p := ⟨Y, 1, none⟩) hYl).trans yfr
         clear o10 g10 p10))
  all_goals
    have HYw := blk_set ((N10.out.block Y hYl).trans HY1.out) 1 (.slice ad10 (nn + 1) c10)
    have hZY : Z ≠ Y := by have := hne.out.1; have := HYq.out; omega
    have HZw : (w10.setCell ⟨Y, 1, none⟩ (.slice ad10 (nn + 1) c10)).heap[Z]? = _ := (Below.heap_setCell _ _ _ _ hZY).trans ((N10.out.block Z hZl).trans HZ1.out)
    have NB := Lib.hid ((HB1.out.trans (N10.out.mono HB1.out.size)).setCell (p := ⟨Y, 1, none⟩) (Nat.le_of_eq HYq.out) (.slice ad10 (nn + 1) c10))
    have SLk : Hid (SlK (fun j => w.heap.size ≤ j ∧ j < (w10.setCell ⟨Y, 1, none⟩ (.slice ad10 (nn + 1) c10)).heap.size ∧ j ≠ Z) (w10.setCell ⟨Y, 1, none⟩ (.slice ad10 (nn + 1) c10)) ad10 (Nw ++ [k]) c10) := Lib.hid (by
      obtain ⟨a', c', e, hs⟩ := O10.out.sl
      have hl : (Nw ++ [k]).length = nn + 1 := by rw [List.length_append, HN.out]; rfl
      rw [hl] at e
      injection e with e1 e2 e3
      subst e1; subst e3
      have hz : (w10.setCell ⟨Y, 1, none⟩ (.slice ad10 (nn + 1) c10)).heap.size = w10.heap.size := by simp [World.setCell]
      refine (hs.keep (Nat.le_of_eq hz.symm) (fun j hj => Below.heap_setCell _ _ _ _ (show j ≠ Y by have := hj.1; omega))).mono (fun j hj => ⟨?_, by rw [hz]; exact hj.2.1, ?_⟩)
      · have := HB1.out.size; have := hj.1; omega
      · have := hj.1; omega)
    generalize w10.setCell ⟨Y, 1, none⟩ (.slice ad10 (nn + 1) c10) = W11 at *
    have zz := fun i => cell_of_row _ _ i _ _ _ HZw
    have yy := fun i => cell_of_row _ _ i _ _ _ HYw
    have v0 : W11.cell? ⟨Y, 0, none⟩ = some (.slice la ln lc) := yy 0
    have v1 : W11.cell? ⟨Y, 1, none⟩ = some (.slice ad10 (nn + 1) c10) := yy 1
    have v2 : W11.cell? ⟨Y, 2, none⟩ = some (.bool true) := yy 2
    have u0 : W11.cell? ⟨Z, 0, none⟩ = some (.slice none 0 0) := zz 0
    have u1 : W11.cell? ⟨Z, 1, none⟩ = some (.slice none 0 0) := zz 1
    have u2 : W11.cell? ⟨Z, 2, none⟩ = some (.bool false) := zz 2
    have uf := fun i => frozen_of_row _ Z i _ _ HZw
    have HZ2 := Lib.hid HZw
    clear zz yy HYw HZw own1 own2 own3 n1 n2 n3 q2 q3 hl1 hl2 hl3 E1 E2 E3 N9 O9 N10 O10 z1 zf
    go_wp2
    have hWF := blk_set (blk_set (blk_set HZ2.out 0 (.slice la ln lc)) 1 (.slice ad10 (nn + 1) c10)) 2 (.bool true)
    have hZw : w.heap.size ≤ Z := hne.out.2
    have NF := ((NB.out.setCell (p := ⟨Z, 0, none⟩) hZw (.slice la ln lc)).setCell (p := ⟨Z, 1, none⟩) hZw (.slice ad10 (nn + 1) c10)).setCell (p := ⟨Z, 2, none⟩) hZw (.bool true)
    have SF : SlK (fun j => w.heap.size ≤ j ∧ j < (((W11.setCell ⟨Z, 0, none⟩ (.slice la ln lc)).setCell ⟨Z, 1, none⟩ (.slice ad10 (nn + 1) c10)).setCell ⟨Z, 2, none⟩ (.bool true)).heap.size) (((W11.setCell ⟨Z, 0, none⟩ (.slice la ln lc)).setCell ⟨Z, 1, none⟩ (.slice ad10 (nn + 1) c10)).setCell ⟨Z, 2, none⟩ (.bool true)) ad10 (Nw ++ [k]) c10 := by
      have hz : (((W11.setCell ⟨Z, 0, none⟩ (.slice la ln lc)).setCell ⟨Z, 1, none⟩ (.slice ad10 (nn + 1) c10)).setCell ⟨Z, 2, none⟩ (.bool true)).heap.size = W11.heap.size := by simp [World.setCell]
      exact (SLk.out.keep (Nat.le_of_eq hz.symm) (fun j hj => (Below.heap_setCell _ _ _ _ hj.2.2).trans ((Below.heap_setCell _ _ _ _ hj.2.2).trans (Below.heap_setCell _ _ _ _ hj.2.2)))).mono (fun j hj => ⟨hj.1, by rw [hz]; exact hj.2.1⟩)
    generalize ((W11.setCell ⟨Z, 0, none⟩ (.slice la ln lc)).setCell ⟨Z, 1, none⟩ (.slice ad10 (nn + 1) c10)).setCell ⟨Z, 2, none⟩ (.bool true) = WF at *
    have zz := fun i => cell_of_row _ _ i _ _ _ hWF
    have f0 : WF.cell? ⟨Z, 0, none⟩ = some (.slice la ln lc) := zz 0
    have f1 : WF.cell? ⟨Z, 1, none⟩ = some (.slice ad10 (nn + 1) c10) := zz 1
    have f2 : WF.cell? ⟨Z, 2, none⟩ = some (.bool true) := zz 2
    refine bodyPost_ret (v := .tuple #[mV la ln lc ad10 (nn + 1) c10 true, .bool true]) (by simp [results, Tryd.results47, go_sem, mV, f0, f1, f2]) rfl ?_
    exact ⟨_, _, rfl, SF, NF⟩
end Go.Proofs.YtdhhfbglbihapaaDoor
