/-
  Joined: M15 M17.
-/
import Derived.Test.YtcdecnmhogmhaaaDoorJE04
import Derived.Test.YtcdecnmhogmhaaaDoorJE06
import Derived.Test.YtcdecnmhogmhaaaDoorJE08
import Derived.Deep.QuietTactic
import Derived.BigQuiet
set_option linter.unusedVariables false
set_option linter.unusedSimpArgs false
set_option maxRecDepth 100000
set_option linter.unusedVariables false
set_option linter.unusedSimpArgs false
namespace Go.Proofs.YtcdecnmhogmhaaaDoor
open Go.RowKit Go.Sort
theorem gb_of_below {w w' : World} (h : Below w.heap.size w w') (r : Option Nat) : w.grownBy w' r := ⟨h.os, h.tape, h.output, h.size, fun k hk _ => h.block k hk⟩
theorem gb_set {w w' : World} {q : Nat} (h : w.grownBy w' (some q)) (i : Nat) (v : Value) : w.grownBy (w'.setCell ⟨q, i, none⟩ v) (some q) :=
  ⟨h.os, h.tape, h.output, by simpa [World.setCell] using h.size, fun k hk hr => (Below.heap_setCell w' ⟨q, i, none⟩ v k (fun e => hr (by rw [e]))).trans (h.block k hk hr)⟩
theorem gb_new {w w' : World} {r : Option Nat} (h : w.grownBy w' r) {R : Nat} (hR : w.heap.size ≤ R) (i : Nat) (v : Value) : w.grownBy (w'.setCell ⟨R, i, none⟩ v) r :=
  ⟨h.os, h.tape, h.output, by simpa [World.setCell] using h.size, fun k hk hr => (Below.heap_setCell w' ⟨R, i, none⟩ v k (by show k ≠ R; omega)).trans (h.block k hk hr)⟩
theorem gb_below {w w' w'' : World} {r : Option Nat} (h : w.grownBy w' r) (hb : Below w'.heap.size w' w'') : w.grownBy w'' r :=
  ⟨hb.os.trans h.os, hb.tape.trans h.tape, hb.output.trans h.output, Nat.le_trans h.size hb.size, fun k hk hr => (hb.block k (Nat.lt_of_lt_of_le hk h.size)).trans (h.block k hk hr)⟩
theorem one_le (s : ByteArray) : (oneP s).2 ≤ s.size := by
  by_cases h : (oneP s).2 = 0
  · omega
  · exact (one_sound h).2.2.1
set_option maxHeartbeats 4000000 in
theorem enext_any (s : ByteArray) (k p q : Nat) (w : World) (hT : ET w) (hs : s.size ≤ 800000) (hk : k ≤ s.size) (hp : w.heap[p]? = some (.cells #[.string s] 9 (0, 0))) (hq : w.heap[q]? = some (.cells #[.int .i64 k] 3 (0, 0))) (hpq : p ≠ q) :
    Calls Tryd.prog 126 #[.pointer (some ⟨p, 0, none⟩), .pointer (some ⟨q, 0, none⟩)] w fun e w' => e = .returned (.tuple #[otV (oneP (s.extract k s.size)).1, .int .i64 ((k : Int) + (oneP (s.extract k s.size)).2), .bool (decide (0 < (oneP (s.extract k s.size)).2))]) ∧ w'.heap[q]? = some (.cells #[.int .i64 ((k : Int) + (oneP (s.extract k s.size)).2)] 3 (0, 0)) ∧ w.grownBy w' (some q) := by
  have B0 := below_alloc w (.cells #[.int .i64 0, .int .i64 0, .int .i64 0, .string ⟨#[]⟩] 61)
  have hR := heap_alloc_new w (.cells #[.int .i64 0, .int .i64 0, .int .i64 0, .string ⟨#[]⟩] 61)
  have hp0 := blk_below hp B0
  have hq0 := blk_below hq B0
  have hql := blk_lt hq
  have y := cell_of_row _ _ 0 _ _ _ hp0; have cp := y; clear y; dsimp at cp
  have y := cell_of_row _ _ 0 _ _ _ hq0; have cq := y; clear y; dsimp at cq
  have hsz := tail_size s k
  have ON := one_any2 (s.extract k s.size) (w.alloc (.cells #[.int .i64 0, .int .i64 0, .int .i64 0, .string ⟨#[]⟩] 61)) (hT.below B0) (by omega)
  have hle := one_le (s.extract k s.size)
  obtain ⟨kk, n, m, t, c, ho⟩ : ∃ kk n m t c, oneP (s.extract k s.size) = ((kk, n, m, t), c) := ⟨_, _, _, _, _, rfl⟩
  rw [ho] at ON hle ⊢
  dsimp only at hle ⊢
  replace ON : Calls Tryd.prog 127 #[.string (s.extract k s.size)] (w.alloc (.cells #[.int .i64 0, .int .i64 0, .int .i64 0, .string ⟨#[]⟩] 61)) fun e w' => e = .returned (.tuple #[.agg #[.int .i64 kk, .int .i64 n, .int .i64 m, .string t], .int .i64 (c : Int)]) ∧ Below (w.alloc (.cells #[.int .i64 0, .int .i64 0, .int .i64 0, .string ⟨#[]⟩] 61)).heap.size (w.alloc (.cells #[.int .i64 0, .int .i64 0, .int .i64 0, .string ⟨#[]⟩] 61)) w' := ON
  replace ON := Lib.hid ON
  have hk0 : (0 : Int) ≤ k := by omega
  have hk1 : (k : Int) ≤ s.size := by omega
  have hkc : (k : Int) + c ≤ 800000 := by omega
  have hc0 : (0 : Int) ≤ c := by omega
  replace hR := Lib.hid hR; replace hq0 := Lib.hid hq0
  clear ho hsz hp0 hp hq hT
  go_enter Tryd.func126, Tryd.ntmps126
  go_wp2_with (fail)
  go_at_call 127
  refine ON.out.mono ?_
  rintro e w1 ⟨rfl, hb1⟩
  have B2 := below_alloc w1 (.cells #[.int .i64 kk, .int .i64 n, .int .i64 m, .string t] 61)
  have hR1 := blk_below hR.out hb1
  have hq1 := blk_below hq0.out hb1
  have hR2 := blk_below hR1 B2
  have hq2 := blk_below hq1 B2
  have hX2 := heap_alloc_new w1 (.cells #[.int .i64 kk, .int .i64 n, .int .i64 m, .string t] 61)
  have hw1 : w.heap.size < w1.heap.size := blk_lt hR1
  have hXq : w1.heap.size ≠ q := by omega
  have hRq : w.heap.size ≠ q := by omega
  have hXR : w1.heap.size ≠ w.heap.size := by omega
  have GB := gb_of_below (seqB (seqB B0 hb1) B2) (some q)
  have GB3 := gb_set GB 0 (.int .i64 ((k : Int) + c))
  have hq3 := blk_set hq2 0 (.int .i64 ((k : Int) + c))
  have hX3 := blk_far (p := ⟨q, 0, none⟩) hX2 hXq (.int .i64 ((k : Int) + c))
  have hR3 := blk_far (p := ⟨q, 0, none⟩) hR2 hRq (.int .i64 ((k : Int) + c))
  have y := cell_of_row _ _ 0 _ _ _ hq2; have cq2 := y; clear y; dsimp at cq2
  have cf := fun i => frozen_of_row _ q i _ _ hq2
  replace hq3 := Lib.hid hq3; replace hX3 := Lib.hid hX3; replace hR3 := Lib.hid hR3; replace GB3 := Lib.hid GB3
  clear hR1 hq1 hR2 hq2 hX2 GB B2 hb1 cp cq hR hq0 ON
  go_upto_region 3 with fail
  clear cq2 cf
  generalize hW3 : World.setCell _ _ _ = W3
  have hq4 : W3.heap[q]? = some (.cells #[.int .i64 ((k : Int) + c)] 3 (0, 0)) := by rw [← hW3]; exact hq3.out
  have hX4 : W3.heap[w1.heap.size]? = some (.cells #[.int .i64 kk, .int .i64 n, .int .i64 m, .string t] 61 (0, 0)) := by rw [← hW3]; exact hX3.out
  have hR4 : W3.heap[w.heap.size]? = some (.cells #[.int .i64 0, .int .i64 0, .int .i64 0, .string ⟨#[]⟩] 61 (0, 0)) := by rw [← hW3]; exact hR3.out
  have GB4 : w.grownBy W3 (some q) := by rw [← hW3]; exact GB3.out
  clear hW3 hq3 hX3 hR3 GB3
  generalize w1.heap.size = X at *
  have y := fun i => cell_of_row _ _ i _ _ _ hX4; have x0 := y 0; have x1 := y 1; have x2 := y 2; have x3 := y 3; clear y; dsimp at x0 x1 x2 x3
  have y := cell_of_row _ _ 0 _ _ _ hq4; have q0 := y; clear y; dsimp at q0
  have y := fun i => cell_of_row _ _ i _ _ _ hR4; have r0 := y 0; have r1 := y 1; have r2 := y 2; have r3 := y 3; clear y; dsimp at r0 r1 r2 r3
  have rf := fun i => frozen_of_row _ w.heap.size i _ _ hR4
  have hRl := blk_lt hR4
  have hRX : w.heap.size ≠ X := fun e => hXR e.symm
  have dec : Hid (decide ((0 : Int) < (c : Int)) = decide (0 < c)) := Lib.hid (by by_cases h : 0 < c <;> simp [h])
  have hfR := Lib.hid (out_set hR4 kk n m t)
  have hfq := Lib.hid (blk_far (p := ⟨w.heap.size, 3, none⟩) (blk_far (p := ⟨w.heap.size, 2, none⟩) (blk_far (p := ⟨w.heap.size, 1, none⟩) (blk_far (p := ⟨w.heap.size, 0, none⟩) hq4 hRq.symm (.int .i64 kk)) hRq.symm (.int .i64 n)) hRq.symm (.int .i64 m)) hRq.symm (.string t))
  have GF := Lib.hid (gb_new (gb_new (gb_new (gb_new GB4 (Nat.le_refl _) 0 (.int .i64 kk)) (Nat.le_refl _) 1 (.int .i64 n)) (Nat.le_refl _) 2 (.int .i64 m)) (Nat.le_refl _) 3 (.string t))
  clear hR4 hX4 hq4 GB4
  go_region_held3 (fun w' => w'.cell? ⟨X, 0, none⟩ = some (.int .i64 kk) ∧ w'.cell? ⟨X, 1, none⟩ = some (.int .i64 n) ∧ w'.cell? ⟨X, 2, none⟩ = some (.int .i64 m) ∧ w'.cell? ⟨X, 3, none⟩ = some (.string t) ∧ w'.cell? ⟨q, 0, none⟩ = some (.int .i64 ((k : Int) + c)))
    (first | exact ⟨x0, x1, x2, x3, q0⟩ | go_keep) (fail)
  go_wp2
  generalize hWF : World.setCell _ _ _ = WF
  have hqf : WF.heap[w.heap.size]? = some (.cells #[.int .i64 kk, .int .i64 n, .int .i64 m, .string t] 61 (0, 0)) := by rw [← hWF]; exact hfR.out
  have hqq : WF.heap[q]? = some (.cells #[.int .i64 ((k : Int) + c)] 3 (0, 0)) := by rw [← hWF]; exact hfq.out
  have hG : w.grownBy WF (some q) := by rw [← hWF]; exact GF.out
  have y := fun i => cell_of_row _ _ i _ _ _ hqf
  have y0 := y 0; have y1 := y 1; have y2 := y 2; have y3 := y 3
  dsimp at y0 y1 y2 y3
  clear y hqf hWF
  refine bodyPost_ret (v := .tuple #[.agg #[.int .i64 kk, .int .i64 n, .int .i64 m, .string t], .int .i64 ((k : Int) + c), .bool (decide ((0 : Int) < (c : Int)))]) (by simp [results, Tryd.results126, go_sem, y0, y1, y2, y3]) rfl ?_
  rw [dec.out]
  exact ⟨rfl, hqq, gb_below hG (Below.refl _ _).drew⟩
end Go.Proofs.YtcdecnmhogmhaaaDoor
set_option linter.unusedVariables false
set_option linter.unusedSimpArgs false
namespace Go.Proofs.YtcdecnmhogmhaaaDoor
open Go.RowKit
theorem take_wid (l : List Int) (k : Nat) (h : k < l.length) : ((l.take (k + 1)).map wid).sum = ((l.take k).map wid).sum + wid (l.getD k 0) := by
  rw [List.take_add_one, List.getElem?_eq_getElem h, List.map_append, List.sum_append]; simp [List.getD, List.getElem?_eq_getElem h]
theorem take_wid_rng (l : List Int) (k : Nat) : 0 ≤ ((l.take k).map wid).sum ∧ ((l.take k).map wid).sum ≤ 2 * l.length := by
  have := sum_wid (l.take k)
  have h2 : (l.take k).length ≤ l.length := by rw [List.length_take]; omega
  omega
set_option maxHeartbeats 2000000 in
theorem columns_any (s : ByteArray) (w : World) (hT : ET w) (hs : s.size ≤ 1000000) : Calls Tryd.prog 89 #[.string s] w fun e w' => e = .returned (.int .i64 (colW s)) ∧ Below w.heap.size w w' := by
  have D := decode_any s w hT.u hs
  have hlen := valsS_len s
  have HC := Lib.hid (show colW s = ((valsS s).map wid).sum from rfl)
  have HT := Lib.hid hT
  generalize valsS s = V at *
  replace D := Lib.hid D
  clear hT
  go_enter Tryd.func89, Tryd.ntmps89
  go_wp2_with (go_at_call 130; refine D.out.mono ?_; rintro e w1 ⟨v, rfl, hown, hb1⟩; obtain ⟨a, c, rfl, hrow⟩ := row_ofI hown; have HR := Lib.hid hrow; clear hown hrow)
  go_loopw [3, 9] (fun nv iv wr => ∃ k : Nat, k ≤ V.length ∧ iv = .int .i64 (k : Int) ∧ nv = .int .i64 (((V.take k).map wid).sum) ∧ Below w1.heap.size w1 wr) (fun _ iv _ => V.length - (intOf iv).toNat)
  case atStart => exact ⟨0, Nat.zero_le _, rfl, rfl, Below.refl _ _⟩
  case round =>
    obtain ⟨k, hk, rfl, rfl, hbl⟩ := hrel
    have hrg := take_wid_rng V k
    by_cases hlt : k < V.length
    · obtain ⟨b, off, rfl, hc, hlb⟩ := (HR.out.below hbl) k hlt
      have hk1 : (k : Int) < V.length := by omega
      have hk0 : (0 : Int) ≤ k := by omega
      have hst := take_wid V k hlt
      have hw := wid_nn (V.getD k 0)
      have W := fun w hT => width_any (V.getD k 0) w hT
      generalize V.getD k 0 = x at *
      generalize ((V.take k).map wid).sum = sm at *
      have Hst := Lib.hid hst
      have HT1 := Lib.hid (HT.out.below (seqB hb1 hbl))
      replace W := Lib.hid W
      clear hst
      generalize wid x = wx at *
      go_wp2_with (go_at_call 131; refine (W.out _ HT1.out.c).mono ?_; rintro e w2 ⟨rfl, hb2⟩)
      go_roundw
      case rel => exact ⟨k + 1, by omega, by go_num, by rw [Hst.out], hbl.trans (hb2.mono hbl.size)⟩
      case measure => (simp [intOf]; try omega)
    · obtain rfl : k = V.length := by omega
      have hk1 : ¬ (V.length : Int) < V.length := by omega
      rw [List.take_length] at *
      go_wp2
      go_ret
      rw [HC.out]
      exact ⟨rfl, seqB hb1 hbl⟩
/-- The columns of a text, by the document; below 0: some value is not shown as it is. -/
def colR (s : ByteArray) : Int := if allW s = true then colW s else -1
theorem allW_no2 {s : ByteArray} {k : Nat} (hk : k < (valsS s).length) (h : shwB ((valsS s).getD k 0) = false) : allW s = false := by
  cases hm : allW s
  · rfl
  · unfold allW at hm
    rw [List.all_eq_true] at hm
    have := hm ((valsS s).getD k 0) (by rw [List.getD, List.getElem?_eq_getElem hk]; exact List.getElem_mem hk)
    rw [h] at this; cases this
theorem allW_yes {s : ByteArray} (h : ∀ j, j < (valsS s).length → shwB ((valsS s).getD j 0) = true) : allW s = true := by
  unfold allW
  rw [List.all_eq_true]
  intro v hv
  obtain ⟨j, hj, rfl⟩ := List.getElem_of_mem hv
  have := h j hj
  rwa [List.getD, List.getElem?_eq_getElem hj] at this
set_option maxHeartbeats 2000000 in
theorem cols_ref (s : ByteArray) (w : World) (hs : s.size ≤ 1000000) : Calls Tryd.prog 85 #[.string s] w fun e w' => e = .returned (.int .i64 (colR s)) ∧ Below w.heap.size w w' := by
  have D := decode_ref s w hs
  have hlen := valsS_len s
  have HC := Lib.hid (show colW s = ((valsS s).map wid).sum from rfl)
  have HN := Lib.hid (fun k hk h => show colR s = -1 by unfold colR; rw [allW_no2 (s := s) (k := k) hk h]; rfl)
  have HY := Lib.hid (fun h => show colR s = colW s by unfold colR; rw [allW_yes (s := s) h]; rfl)
  generalize valsS s = V at *
  replace D := Lib.hid D
  go_enter Tryd.func85, Tryd.ntmps85
  go_wp2_with (go_at_call 41; refine D.out.mono ?_; rintro e w1 ⟨v, rfl, hown, hb1⟩; obtain ⟨a, c, rfl, hrow⟩ := row_ofI hown; have HR := Lib.hid hrow; clear hown hrow)
  go_loopw [4, 5] (fun nv iv wr => ∃ k : Nat, k ≤ V.length ∧ iv = .int .i64 (k : Int) ∧ nv = .int .i64 (((V.take k).map wid).sum) ∧ Hid (∀ j, j < k → shwB (V.getD j 0) = true) ∧ Below w1.heap.size w1 wr) (fun _ iv _ => V.length - (intOf iv).toNat)
  case atStart => exact ⟨0, Nat.zero_le _, rfl, rfl, Lib.hid (fun j hj => absurd hj (by omega)), Below.refl _ _⟩
  case round =>
    obtain ⟨k, hk, rfl, rfl, hA, hbl⟩ := hrel
    have hrg := take_wid_rng V k
    by_cases hlt : k < V.length
    · obtain ⟨b, off, rfl, hc, hlb⟩ := (HR.out.below hbl) k hlt
      have hk1 : (k : Int) < V.length := by omega
      have hk0 : (0 : Int) ≤ k := by omega
      have hst := take_wid V k hlt
      have hw := wid_nn (V.getD k 0)
      have W := fun w => width_ref (V.getD k 0) w
      have O := fun w => of_ref (V.getD k 0) w
      rw [← wid_eq] at W
      rw [← cls_eq] at O
      have hno := fun h => HN.out k hlt h
      have hsh : shwB (V.getD k 0) = decide (1 ≤ cls (V.getD k 0) ∧ cls (V.getD k 0) ≤ 3) := by unfold shwB; simp
      have hA' : shwB (V.getD k 0) = true → ∀ j, j < k + 1 → shwB (V.getD j 0) = true := fun h j hj => by
        rcases Nat.lt_succ_iff_lt_or_eq.1 hj with h2 | rfl
        · exact hA.out j h2
        · exact h
      rw [hsh] at hno hA'
      generalize cls (V.getD k 0) = cx at *
      generalize hx : V.getD k 0 = x at *
      generalize ((V.take k).map wid).sum = sm at *
      have Hst := Lib.hid hst
      replace O := Lib.hid O
      clear hst hx hsh
      by_cases c1 : cx < 1
      · have HF := Lib.hid (hno (decide_eq_false (by omega)))
        clear hno hA' W Hst
        go_wp2_with (go_at_call 42; refine (O.out _).mono ?_; rintro e w2 ⟨rfl, hb2⟩)
        go_ret
        rw [HF.out]
        exact ⟨rfl, seqB hb1 (hbl.trans (hb2.mono hbl.size))⟩
      by_cases c3 : 3 < cx
      · have HF := Lib.hid (hno (decide_eq_false (by omega)))
        clear hno hA' W Hst
        go_wp2_with (go_at_call 42; refine (O.out _).mono ?_; rintro e w2 ⟨rfl, hb2⟩)
        go_ret
        rw [HF.out]
        exact ⟨rfl, seqB hb1 (hbl.trans (hb2.mono hbl.size))⟩
      have HA' := Lib.hid (hA' (decide_eq_true (by omega)))
      replace W := Lib.hid W
      generalize wid x = wx at *
      clear hno hA' hA
      go_wp2_with (first
        | (go_at_call 42; refine (O.out _).mono ?_; rintro e w2 ⟨rfl, hb2⟩; have hc2 := (hb2.cell (p := ⟨b, off + k, none⟩) hlb).trans hc)
        | (go_at_call 90; refine (W.out _).mono ?_; rintro e w3 ⟨rfl, hb3⟩))
      go_roundw
      case rel => exact ⟨k + 1, by omega, by go_num, by rw [Hst.out], HA', (hbl.trans (hb2.mono hbl.size)).trans (hb3.mono (Nat.le_trans hbl.size hb2.size))⟩
      case measure => (simp [intOf]; try omega)
    · obtain rfl : k = V.length := by omega
      have hk1 : ¬ (V.length : Int) < V.length := by omega
      have HF := Lib.hid (HY.out hA.out)
      rw [List.take_length] at *
      go_wp2
      go_ret
      rw [HF.out, HC.out]
      exact ⟨rfl, seqB hb1 hbl⟩
theorem colR_rng (s : ByteArray) : (allW s = true ∧ 0 ≤ colR s) ∨ (allW s = false ∧ colR s = -1) := by
  unfold colR
  cases h : allW s
  · right; exact ⟨rfl, rfl⟩
  · left; exact ⟨rfl, (colW_rng s).1⟩
set_option maxHeartbeats 2000000 in
theorem may_0  (n m : Int) (t : ByteArray) (w : World) (hs : t.size ≤ 1000000) : Calls Tryd.prog 33 #[.agg #[.int .i64 0, .int .i64 n, .int .i64 m, .string t]] w fun e w' => e = .returned (.bool (mayP (0, n, m, t))) ∧ Below w.heap.size w w' := by
  have B0 := below_alloc w (.cells #[.int .i64 0, .int .i64 n, .int .i64 m, .string t] 61)
  have CO := fun w => cols_ref t w hs
  have hcr := colR_rng t
  by_cases hn : n = 0
  · subst hn
    by_cases hm : m = 0
    · subst hm
      by_cases ht : t.size = 0
      · obtain rfl := size0' ht
        rw [show mayP (0, 0, 0, ⟨#[]⟩) = false from rfl]
        clear CO hcr
        go_enter Tryd.func33, Tryd.ntmps33
        go_wp2
        go_ret
        exact ⟨by simp [*], below_alloc _ _⟩
      · obtain ⟨he, he2⟩ := str_ne ht
        have hpos : 0 < t.size := by omega
        rcases hcr with ⟨ha, hc⟩ | ⟨ha, hc⟩
        · rw [show mayP (0, 0, 0, t) = true from may_of (.text t hpos ha)]
          generalize colR t = x at *
          replace CO := Lib.hid CO
          clear ha ht hpos
          go_enter Tryd.func33, Tryd.ntmps33
          go_wp2_with (go_at_call 85; refine (CO.out _).mono ?_; rintro e w1 ⟨rfl, hb1⟩)
          go_ret
          exact ⟨by simp [*], seqB B0 hb1⟩
        · rw [show mayP (0, 0, 0, t) = false from by unfold mayP; rw [if_pos rfl]; dsimp only; rw [ha]; simp]
          rw [hc] at CO
          replace CO := Lib.hid CO
          clear ha ht hpos hc
          go_enter Tryd.func33, Tryd.ntmps33
          go_wp2_with (go_at_call 85; refine (CO.out _).mono ?_; rintro e w1 ⟨rfl, hb1⟩)
          go_ret
          exact ⟨by simp [*], seqB B0 hb1⟩
    · rw [show mayP (0, 0, m, t) = false from by unfold mayP; rw [if_pos rfl]; simp [hm]]
      clear CO hcr
      go_enter Tryd.func33, Tryd.ntmps33
      go_wp2
      go_ret
      exact ⟨by simp [*], below_alloc _ _⟩
  · rw [show mayP (0, n, m, t) = false from by unfold mayP; rw [if_pos rfl]; simp [hn]]
    clear CO hcr
    go_enter Tryd.func33, Tryd.ntmps33
    go_wp2
    go_ret
    exact ⟨by simp [*], below_alloc _ _⟩
set_option maxHeartbeats 2000000 in
theorem may_1  (n m : Int) (t : ByteArray) (w : World) : Calls Tryd.prog 33 #[.agg #[.int .i64 1, .int .i64 n, .int .i64 m, .string t]] w fun e w' => e = .returned (.bool (mayP (1, n, m, t))) ∧ Below w.heap.size w w' := by
  have B0 := below_alloc w (.cells #[.int .i64 1, .int .i64 n, .int .i64 m, .string t] 61)
  by_cases ht : t.size = 0
  · obtain rfl := size0' ht
    by_cases h1 : 1 ≤ n
    · skip
      by_cases h2 : n ≤ 1000
      · skip
        by_cases h3 : 1 ≤ m
        · skip
          by_cases h4 : m ≤ 1000
          · skip
            rw [show mayP (1, n, m, ⟨#[]⟩) = true from may_of (.move n m h1 h2 h3 h4)]
            go_enter Tryd.func33, Tryd.ntmps33
            go_wp2
            go_ret
            exact ⟨by simp [*], below_alloc _ _⟩
          · rw [show mayP (1, n, m, ⟨#[]⟩) = false from by simp [mayP, sideI]; omega]
            go_enter Tryd.func33, Tryd.ntmps33
            go_wp2
            go_ret
            exact ⟨by simp [*], below_alloc _ _⟩
        · rw [show mayP (1, n, m, ⟨#[]⟩) = false from by simp [mayP, sideI]; omega]
          go_enter Tryd.func33, Tryd.ntmps33
          go_wp2
          go_ret
          exact ⟨by simp [*], below_alloc _ _⟩
      · rw [show mayP (1, n, m, ⟨#[]⟩) = false from by simp [mayP, sideI]; omega]
        go_enter Tryd.func33, Tryd.ntmps33
        go_wp2
        go_ret
        exact ⟨by simp [*], below_alloc _ _⟩
    · rw [show mayP (1, n, m, ⟨#[]⟩) = false from by simp [mayP, sideI]; omega]
      go_enter Tryd.func33, Tryd.ntmps33
      go_wp2
      go_ret
      exact ⟨by simp [*], below_alloc _ _⟩
  · obtain ⟨he, he2⟩ := str_ne ht
    rw [show mayP (1, n, m, t) = false from by simp [mayP, ht]]
    go_enter Tryd.func33, Tryd.ntmps33
    go_wp2
    go_ret
    exact ⟨by simp [*], below_alloc _ _⟩
set_option maxHeartbeats 2000000 in
theorem may_4  (n m : Int) (t : ByteArray) (w : World) : Calls Tryd.prog 33 #[.agg #[.int .i64 4, .int .i64 n, .int .i64 m, .string t]] w fun e w' => e = .returned (.bool (mayP (4, n, m, t))) ∧ Below w.heap.size w w' := by
  have B0 := below_alloc w (.cells #[.int .i64 4, .int .i64 n, .int .i64 m, .string t] 61)
  by_cases ht : t.size = 0
  · obtain rfl := size0' ht
    by_cases hm : m = 0
    · skip
      by_cases h1 : 0 ≤ n
      · skip
        by_cases h2 : n ≤ 7
        · skip
          subst hm
          rw [show mayP (4, n, 0, ⟨#[]⟩) = true from may_of (.looks n h1 h2)]
          go_enter Tryd.func33, Tryd.ntmps33
          go_wp2
          go_ret
          exact ⟨by simp [*], below_alloc _ _⟩
        · rw [show mayP (4, n, m, ⟨#[]⟩) = false from by simp [mayP]; omega]
          go_enter Tryd.func33, Tryd.ntmps33
          go_wp2
          go_ret
          exact ⟨by simp [*], below_alloc _ _⟩
      · rw [show mayP (4, n, m, ⟨#[]⟩) = false from by simp [mayP]; omega]
        go_enter Tryd.func33, Tryd.ntmps33
        go_wp2
        go_ret
        exact ⟨by simp [*], below_alloc _ _⟩
    · rw [show mayP (4, n, m, ⟨#[]⟩) = false from by simp [mayP]; omega]
      go_enter Tryd.func33, Tryd.ntmps33
      go_wp2
      go_ret
      exact ⟨by simp [*], below_alloc _ _⟩
  · obtain ⟨he, he2⟩ := str_ne ht
    rw [show mayP (4, n, m, t) = false from by simp [mayP, ht]]
    go_enter Tryd.func33, Tryd.ntmps33
    go_wp2
    go_ret
    exact ⟨by simp [*], below_alloc _ _⟩
set_option maxHeartbeats 2000000 in
theorem may_5  (n m : Int) (t : ByteArray) (w : World) : Calls Tryd.prog 33 #[.agg #[.int .i64 5, .int .i64 n, .int .i64 m, .string t]] w fun e w' => e = .returned (.bool (mayP (5, n, m, t))) ∧ Below w.heap.size w w' := by
  have B0 := below_alloc w (.cells #[.int .i64 5, .int .i64 n, .int .i64 m, .string t] 61)
  by_cases ht : t.size = 0
  · obtain rfl := size0' ht
    by_cases hm : m = 0
    · skip
      subst hm
      by_cases h0 : n = 0
      · subst h0
        rw [show mayP (5, 0, 0, ⟨#[]⟩) = true from rfl]
        go_enter Tryd.func33, Tryd.ntmps33
        go_wp2
        go_ret
        exact ⟨by simp [*], below_alloc _ _⟩
      · by_cases h1 : n = 1
        · subst h1
          rw [show mayP (5, 1, 0, ⟨#[]⟩) = true from rfl]
          go_enter Tryd.func33, Tryd.ntmps33
          go_wp2
          go_ret
          exact ⟨by simp [*], below_alloc _ _⟩
        · rw [show mayP (5, n, 0, ⟨#[]⟩) = false from by simp [mayP]; omega]
          go_enter Tryd.func33, Tryd.ntmps33
          go_wp2
          go_ret
          exact ⟨by simp [*], below_alloc _ _⟩
    · rw [show mayP (5, n, m, ⟨#[]⟩) = false from by simp [mayP]; omega]
      go_enter Tryd.func33, Tryd.ntmps33
      go_wp2
      go_ret
      exact ⟨by simp [*], below_alloc _ _⟩
  · obtain ⟨he, he2⟩ := str_ne ht
    rw [show mayP (5, n, m, t) = false from by simp [mayP, ht]]
    go_enter Tryd.func33, Tryd.ntmps33
    go_wp2
    go_ret
    exact ⟨by simp [*], below_alloc _ _⟩
set_option maxHeartbeats 2000000 in
theorem may_2  (n m : Int) (t : ByteArray) (w : World) : Calls Tryd.prog 33 #[.agg #[.int .i64 2, .int .i64 n, .int .i64 m, .string t]] w fun e w' => e = .returned (.bool (mayP (2, n, m, t))) ∧ Below w.heap.size w w' := by
  have B0 := below_alloc w (.cells #[.int .i64 2, .int .i64 n, .int .i64 m, .string t] 61)
  by_cases ht : t.size = 0
  · obtain rfl := size0' ht
    by_cases hm : m = 0
    · skip
      by_cases hn : n = 0
      · skip
        subst hm; subst hn
        rw [show mayP (2, 0, 0, ⟨#[]⟩) = true from rfl]
        go_enter Tryd.func33, Tryd.ntmps33
        go_wp2
        go_ret
        exact ⟨by simp [*], below_alloc _ _⟩
      · rw [show mayP (2, n, m, ⟨#[]⟩) = false from by simp [mayP]; omega]
        go_enter Tryd.func33, Tryd.ntmps33
        go_wp2
        go_ret
        exact ⟨by simp [*], below_alloc _ _⟩
    · rw [show mayP (2, n, m, ⟨#[]⟩) = false from by simp [mayP]; omega]
      go_enter Tryd.func33, Tryd.ntmps33
      go_wp2
      go_ret
      exact ⟨by simp [*], below_alloc _ _⟩
  · obtain ⟨he, he2⟩ := str_ne ht
    rw [show mayP (2, n, m, t) = false from by simp [mayP, ht]]
    go_enter Tryd.func33, Tryd.ntmps33
    go_wp2
    go_ret
    exact ⟨by simp [*], below_alloc _ _⟩
set_option maxHeartbeats 2000000 in
theorem may_3  (n m : Int) (t : ByteArray) (w : World) : Calls Tryd.prog 33 #[.agg #[.int .i64 3, .int .i64 n, .int .i64 m, .string t]] w fun e w' => e = .returned (.bool (mayP (3, n, m, t))) ∧ Below w.heap.size w w' := by
  have B0 := below_alloc w (.cells #[.int .i64 3, .int .i64 n, .int .i64 m, .string t] 61)
  by_cases ht : t.size = 0
  · obtain rfl := size0' ht
    by_cases hm : m = 0
    · skip
      by_cases hn : n = 0
      · skip
        subst hm; subst hn
        rw [show mayP (3, 0, 0, ⟨#[]⟩) = true from rfl]
        go_enter Tryd.func33, Tryd.ntmps33
        go_wp2
        go_ret
        exact ⟨by simp [*], below_alloc _ _⟩
      · rw [show mayP (3, n, m, ⟨#[]⟩) = false from by simp [mayP]; omega]
        go_enter Tryd.func33, Tryd.ntmps33
        go_wp2
        go_ret
        exact ⟨by simp [*], below_alloc _ _⟩
    · rw [show mayP (3, n, m, ⟨#[]⟩) = false from by simp [mayP]; omega]
      go_enter Tryd.func33, Tryd.ntmps33
      go_wp2
      go_ret
      exact ⟨by simp [*], below_alloc _ _⟩
  · obtain ⟨he, he2⟩ := str_ne ht
    rw [show mayP (3, n, m, t) = false from by simp [mayP, ht]]
    go_enter Tryd.func33, Tryd.ntmps33
    go_wp2
    go_ret
    exact ⟨by simp [*], below_alloc _ _⟩
set_option maxHeartbeats 2000000 in
theorem may_6  (n m : Int) (t : ByteArray) (w : World) : Calls Tryd.prog 33 #[.agg #[.int .i64 6, .int .i64 n, .int .i64 m, .string t]] w fun e w' => e = .returned (.bool (mayP (6, n, m, t))) ∧ Below w.heap.size w w' := by
  have B0 := below_alloc w (.cells #[.int .i64 6, .int .i64 n, .int .i64 m, .string t] 61)
  by_cases ht : t.size = 0
  · obtain rfl := size0' ht
    by_cases hm : m = 0
    · skip
      by_cases hn : n = 0
      · skip
        subst hm; subst hn
        rw [show mayP (6, 0, 0, ⟨#[]⟩) = true from rfl]
        go_enter Tryd.func33, Tryd.ntmps33
        go_wp2
        go_ret
        exact ⟨by simp [*], below_alloc _ _⟩
      · rw [show mayP (6, n, m, ⟨#[]⟩) = false from by simp [mayP]; omega]
        go_enter Tryd.func33, Tryd.ntmps33
        go_wp2
        go_ret
        exact ⟨by simp [*], below_alloc _ _⟩
    · rw [show mayP (6, n, m, ⟨#[]⟩) = false from by simp [mayP]; omega]
      go_enter Tryd.func33, Tryd.ntmps33
      go_wp2
      go_ret
      exact ⟨by simp [*], below_alloc _ _⟩
  · obtain ⟨he, he2⟩ := str_ne ht
    rw [show mayP (6, n, m, t) = false from by simp [mayP, ht]]
    go_enter Tryd.func33, Tryd.ntmps33
    go_wp2
    go_ret
    exact ⟨by simp [*], below_alloc _ _⟩
set_option maxHeartbeats 2000000 in
theorem may_7  (n m : Int) (t : ByteArray) (w : World) : Calls Tryd.prog 33 #[.agg #[.int .i64 7, .int .i64 n, .int .i64 m, .string t]] w fun e w' => e = .returned (.bool (mayP (7, n, m, t))) ∧ Below w.heap.size w w' := by
  have B0 := below_alloc w (.cells #[.int .i64 7, .int .i64 n, .int .i64 m, .string t] 61)
  by_cases ht : t.size = 0
  · obtain rfl := size0' ht
    by_cases hm : m = 0
    · skip
      by_cases hn : n = 0
      · skip
        subst hm; subst hn
        rw [show mayP (7, 0, 0, ⟨#[]⟩) = true from rfl]
        go_enter Tryd.func33, Tryd.ntmps33
        go_wp2
        go_ret
        exact ⟨by simp [*], below_alloc _ _⟩
      · rw [show mayP (7, n, m, ⟨#[]⟩) = false from by simp [mayP]; omega]
        go_enter Tryd.func33, Tryd.ntmps33
        go_wp2
        go_ret
        exact ⟨by simp [*], below_alloc _ _⟩
    · rw [show mayP (7, n, m, ⟨#[]⟩) = false from by simp [mayP]; omega]
      go_enter Tryd.func33, Tryd.ntmps33
      go_wp2
      go_ret
      exact ⟨by simp [*], below_alloc _ _⟩
  · obtain ⟨he, he2⟩ := str_ne ht
    rw [show mayP (7, n, m, t) = false from by simp [mayP, ht]]
    go_enter Tryd.func33, Tryd.ntmps33
    go_wp2
    go_ret
    exact ⟨by simp [*], below_alloc _ _⟩
set_option maxHeartbeats 2000000 in
theorem may_8  (n m : Int) (t : ByteArray) (w : World) : Calls Tryd.prog 33 #[.agg #[.int .i64 8, .int .i64 n, .int .i64 m, .string t]] w fun e w' => e = .returned (.bool (mayP (8, n, m, t))) ∧ Below w.heap.size w w' := by
  have B0 := below_alloc w (.cells #[.int .i64 8, .int .i64 n, .int .i64 m, .string t] 61)
  by_cases ht : t.size = 0
  · obtain rfl := size0' ht
    by_cases hm : m = 0
    · skip
      by_cases hn : n = 0
      · skip
        subst hm; subst hn
        rw [show mayP (8, 0, 0, ⟨#[]⟩) = true from rfl]
        go_enter Tryd.func33, Tryd.ntmps33
        go_wp2
        go_ret
        exact ⟨by simp [*], below_alloc _ _⟩
      · rw [show mayP (8, n, m, ⟨#[]⟩) = false from by simp [mayP]; omega]
        go_enter Tryd.func33, Tryd.ntmps33
        go_wp2
        go_ret
        exact ⟨by simp [*], below_alloc _ _⟩
    · rw [show mayP (8, n, m, ⟨#[]⟩) = false from by simp [mayP]; omega]
      go_enter Tryd.func33, Tryd.ntmps33
      go_wp2
      go_ret
      exact ⟨by simp [*], below_alloc _ _⟩
  · obtain ⟨he, he2⟩ := str_ne ht
    rw [show mayP (8, n, m, t) = false from by simp [mayP, ht]]
    go_enter Tryd.func33, Tryd.ntmps33
    go_wp2
    go_ret
    exact ⟨by simp [*], below_alloc _ _⟩
set_option maxHeartbeats 2000000 in
theorem may_x (k n m : Int) (t : ByteArray) (w : World) (hk : k < 0 ∨ 8 < k) : Calls Tryd.prog 33 #[.agg #[.int .i64 k, .int .i64 n, .int .i64 m, .string t]] w fun e w' => e = .returned (.bool (mayP (k, n, m, t))) ∧ Below w.heap.size w w' := by
  have B0 := below_alloc w (.cells #[.int .i64 k, .int .i64 n, .int .i64 m, .string t] 61)
  rw [show mayP (k, n, m, t) = false from by
    have h : (decide (2 ≤ k) && decide (k ≤ 8)) = false := by simp; omega
    unfold mayP; dsimp only; rw [if_neg (by omega), if_neg (by omega), if_neg (by omega), if_neg (by omega), h]; simp]
  rcases hk with hk | hk
  · skip
    go_enter Tryd.func33, Tryd.ntmps33
    go_wp2
    go_ret
    exact ⟨by simp [*], below_alloc _ _⟩
  · have hk2 : ¬ k < 0 := by omega
    go_enter Tryd.func33, Tryd.ntmps33
    go_wp2
    go_ret
    exact ⟨by simp [*], below_alloc _ _⟩
theorem emay_ref (p : Ot) (w : World) (hs : p.2.2.2.size ≤ 1000000) : Calls Tryd.prog 33 #[otV p] w fun e w' => e = .returned (.bool (mayP p)) ∧ Below w.heap.size w w' := by
  obtain ⟨k, n, m, t⟩ := p
  by_cases hx : k < 0 ∨ 8 < k
  · exact may_x k n m t w hx
  have : k = 0 ∨ k = 1 ∨ k = 2 ∨ k = 3 ∨ k = 4 ∨ k = 5 ∨ k = 6 ∨ k = 7 ∨ k = 8 := by omega
  rcases this with rfl | rfl | rfl | rfl | rfl | rfl | rfl | rfl | rfl
  · exact may_0 n m t w hs
  · exact may_1 n m t w
  · exact may_2 n m t w
  · exact may_3 n m t w
  · exact may_4 n m t w
  · exact may_5 n m t w
  · exact may_6 n m t w
  · exact may_7 n m t w
  · exact may_8 n m t w
end Go.Proofs.YtcdecnmhogmhaaaDoor
