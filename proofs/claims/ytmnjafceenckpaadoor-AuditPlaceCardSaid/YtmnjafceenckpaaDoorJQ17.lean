/-
  Joined: M15 M16 Au3 Au4 Au5 Au6.
-/
import Derived.Test.YtmnjafceenckpaaDoorJQ05
import Derived.Test.YtmnjafceenckpaaDoorJQ07
import Derived.Test.YtmnjafceenckpaaDoorJQ08
import Derived.Test.YtmnjafceenckpaaDoorJQ09
import Derived.Test.YtmnjafceenckpaaDoorJQ11
import Derived.Test.YtmnjafceenckpaaDoorJQ16
import Derived.BigQuiet
import Derived.Lib.QuietBelow
set_option linter.unusedVariables false
set_option linter.unusedSimpArgs false
set_option maxRecDepth 100000
set_option linter.unusedVariables false
set_option linter.unusedSimpArgs false
namespace Go.Proofs.YtmnjafceenckpaaDoor
open Go.RowKit Go.Sort
theorem gb_of_below {w w' : World} (h : Below w.heap.size w w') (r : Option Nat) : w.grownBy w' r := ⟨h.os, h.tape, h.output, h.size, fun k hk _ => h.block k hk⟩
theorem gb_set {w w' : World} {q : Nat} (h : w.grownBy w' (some q)) (i : Nat) (v : Value) : w.grownBy (w'.setCell ⟨q, i, none⟩ v) (some q) :=
  ⟨h.os, h.tape, h.output, by simpa [World.setCell] using h.size, fun k hk hr => (Below.heap_setCell w' ⟨q, i, none⟩ v k (fun e => hr (by rw [e]))).trans (h.block k hk hr)⟩
theorem gb_new {w w' : World} {r : Option Nat} (h : w.grownBy w' r) {R : Nat} (hR : w.heap.size ≤ R) (i : Nat) (v : Value) : w.grownBy (w'.setCell ⟨R, i, none⟩ v) r :=
  ⟨h.os, h.tape, h.output, by simpa [World.setCell] using h.size, fun k hk hr => (Below.heap_setCell w' ⟨R, i, none⟩ v k (by show k ≠ R; omega)).trans (h.block k hk hr)⟩
theorem gb_below {w w' w'' : World} {r : Option Nat} (h : w.grownBy w' r) (hb : Below w'.heap.size w' w'') : w.grownBy w'' r :=
  ⟨hb.os.trans h.os, hb.tape.trans h.tape, hb.output.trans h.output, Nat.le_trans h.size hb.size, fun k hk hr => (hb.block k (Nat.lt_of_lt_of_le hk h.size)).trans (h.block k hk hr)⟩
theorem one_le (s : ByteArray) : (oneP s).2 ≤ s.size := by
  by_cases h : (oneP s).2 = 0
  · omega
  · exact (one_sound h).2.2.1
set_option maxHeartbeats 4000000 in
theorem enext_any (s : ByteArray) (k p q : Nat) (w : World) (hT : ET w) (hs : s.size ≤ 800000) (hk : k ≤ s.size) (hp : w.heap[p]? = some (.cells #[.string s] 9 (0, 0))) (hq : w.heap[q]? = some (.cells #[.int .i64 k] 3 (0, 0))) (hpq : p ≠ q) :
    Calls Tryd.prog 26 #[.pointer (some ⟨p, 0, none⟩), .pointer (some ⟨q, 0, none⟩)] w fun e w' => e = .returned (.tuple #[otV (oneP (s.extract k s.size)).1, .int .i64 ((k : Int) + (oneP (s.extract k s.size)).2), .bool (decide (0 < (oneP (s.extract k s.size)).2))]) ∧ w'.heap[q]? = some (.cells #[.int .i64 ((k : Int) + (oneP (s.extract k s.size)).2)] 3 (0, 0)) ∧ w.grownBy w' (some q) := by
  have B0 := below_alloc w (.cells #[.int .i64 0, .int .i64 0, .int .i64 0, .string ⟨#[]⟩] 30)
  have hR := heap_alloc_new w (.cells #[.int .i64 0, .int .i64 0, .int .i64 0, .string ⟨#[]⟩] 30)
  have hp0 := blk_below hp B0
  have hq0 := blk_below hq B0
  have hql := blk_lt hq
  have y := cell_of_row _ _ 0 _ _ _ hp0; have cp := y; clear y; dsimp at cp
  have y := cell_of_row _ _ 0 _ _ _ hq0; have cq := y; clear y; dsimp at cq
  have hsz := tail_size s k
  have ON := one_any2 (s.extract k s.size) (w.alloc (.cells #[.int .i64 0, .int .i64 0, .int .i64 0, .string ⟨#[]⟩] 30)) (hT.below B0) (by omega)
  have hle := one_le (s.extract k s.size)
  obtain ⟨kk, n, m, t, c, ho⟩ : ∃ kk n m t c, oneP (s.extract k s.size) = ((kk, n, m, t), c) := ⟨_, _, _, _, _, rfl⟩
  rw [ho] at ON hle ⊢
  dsimp only at hle ⊢
  replace ON : Calls Tryd.prog 27 #[.string (s.extract k s.size)] (w.alloc (.cells #[.int .i64 0, .int .i64 0, .int .i64 0, .string ⟨#[]⟩] 30)) fun e w' => e = .returned (.tuple #[.agg #[.int .i64 kk, .int .i64 n, .int .i64 m, .string t], .int .i64 (c : Int)]) ∧ Below (w.alloc (.cells #[.int .i64 0, .int .i64 0, .int .i64 0, .string ⟨#[]⟩] 30)).heap.size (w.alloc (.cells #[.int .i64 0, .int .i64 0, .int .i64 0, .string ⟨#[]⟩] 30)) w' := ON
  replace ON := Lib.hid ON
  have hk0 : (0 : Int) ≤ k := by omega
  have hk1 : (k : Int) ≤ s.size := by omega
  have hkc : (k : Int) + c ≤ 800000 := by omega
  have hc0 : (0 : Int) ≤ c := by omega
  replace hR := Lib.hid hR; replace hq0 := Lib.hid hq0
  clear ho hsz hp0 hp hq hT
  go_enter Tryd.func26, Tryd.ntmps26
  go_wp2_with (fail)
  go_at_call 27
  refine ON.out.mono ?_
  rintro e w1 ⟨rfl, hb1⟩
  have B2 := below_alloc w1 (.cells #[.int .i64 kk, .int .i64 n, .int .i64 m, .string t] 30)
  have hR1 := blk_below hR.out hb1
  have hq1 := blk_below hq0.out hb1
  have hR2 := blk_below hR1 B2
  have hq2 := blk_below hq1 B2
  have hX2 := heap_alloc_new w1 (.cells #[.int .i64 kk, .int .i64 n, .int .i64 m, .string t] 30)
  have hw1 : w.heap.size < w1.heap.size := blk_lt hR1
  have hXq : w1.heap.size ≠ q := by omega
  have hRq : w.heap.size ≠ q := by omega
  have hXR : w1.heap.size ≠ w.heap.size := by omega
  have GB := gb_of_below (seqB (seqB B0 hb1) B2) (some q)
  have GB3 := gb_set GB 0 (.int .i64 ((k : Int) + c))
  have hq3 := blk_set hq2 0 (.int .i64 ((k : Int) + c))
  have hX3 := blk_far (p := ⟨q, 0, none⟩) hX2 hXq (.int .i64 ((k : Int) + c))
  have hR3 := blk_far (p := ⟨q, 0, none⟩) hR2 hRq (.int .i64 ((k : Int) + c))
  have y := cell_of_row _ _ 0 _ _ _ hq2; have cq2 := y; clear y; dsimp at cq2
  have cf := fun i => frozen_of_row _ q i _ _ hq2
  replace hq3 := Lib.hid hq3; replace hX3 := Lib.hid hX3; replace hR3 := Lib.hid hR3; replace GB3 := Lib.hid GB3
  clear hR1 hq1 hR2 hq2 hX2 GB B2 hb1 cp cq hR hq0 ON
  go_upto_region 3 with fail
  clear cq2 cf
  generalize hW3 : World.setCell _ _ _ = W3
  have hq4 : W3.heap[q]? = some (.cells #[.int .i64 ((k : Int) + c)] 3 (0, 0)) := by rw [← hW3]; exact hq3.out
  have hX4 : W3.heap[w1.heap.size]? = some (.cells #[.int .i64 kk, .int .i64 n, .int .i64 m, .string t] 30 (0, 0)) := by rw [← hW3]; exact hX3.out
  have hR4 : W3.heap[w.heap.size]? = some (.cells #[.int .i64 0, .int .i64 0, .int .i64 0, .string ⟨#[]⟩] 30 (0, 0)) := by rw [← hW3]; exact hR3.out
  have GB4 : w.grownBy W3 (some q) := by rw [← hW3]; exact GB3.out
  clear hW3 hq3 hX3 hR3 GB3
  generalize w1.heap.size = X at *
  have y := fun i => cell_of_row _ _ i _ _ _ hX4; have x0 := y 0; have x1 := y 1; have x2 := y 2; have x3 := y 3; clear y; dsimp at x0 x1 x2 x3
  have y := cell_of_row _ _ 0 _ _ _ hq4; have q0 := y; clear y; dsimp at q0
  have y := fun i => cell_of_row _ _ i _ _ _ hR4; have r0 := y 0; have r1 := y 1; have r2 := y 2; have r3 := y 3; clear y; dsimp at r0 r1 r2 r3
  have rf := fun i => frozen_of_row _ w.heap.size i _ _ hR4
  have hRl := blk_lt hR4
  have hRX : w.heap.size ≠ X := fun e => hXR e.symm
  have dec : Hid (decide ((0 : Int) < (c : Int)) = decide (0 < c)) := Lib.hid (by by_cases h : 0 < c <;> simp [h])
  have hfR := Lib.hid (out_set hR4 kk n m t)
  have hfq := Lib.hid (blk_far (p := ⟨w.heap.size, 3, none⟩) (blk_far (p := ⟨w.heap.size, 2, none⟩) (blk_far (p := ⟨w.heap.size, 1, none⟩) (blk_far (p := ⟨w.heap.size, 0, none⟩) hq4 hRq.symm (.int .i64 kk)) hRq.symm (.int .i64 n)) hRq.symm (.int .i64 m)) hRq.symm (.string t))
  have GF := Lib.hid (gb_new (gb_new (gb_new (gb_new GB4 (Nat.le_refl _) 0 (.int .i64 kk)) (Nat.le_refl _) 1 (.int .i64 n)) (Nat.le_refl _) 2 (.int .i64 m)) (Nat.le_refl _) 3 (.string t))
  clear hR4 hX4 hq4 GB4
  go_region_held3 (fun w' => w'.cell? ⟨X, 0, none⟩ = some (.int .i64 kk) ∧ w'.cell? ⟨X, 1, none⟩ = some (.int .i64 n) ∧ w'.cell? ⟨X, 2, none⟩ = some (.int .i64 m) ∧ w'.cell? ⟨X, 3, none⟩ = some (.string t) ∧ w'.cell? ⟨q, 0, none⟩ = some (.int .i64 ((k : Int) + c)))
    (first | exact ⟨x0, x1, x2, x3, q0⟩ | go_keep) (fail)
  go_wp2
  generalize hWF : World.setCell _ _ _ = WF
  have hqf : WF.heap[w.heap.size]? = some (.cells #[.int .i64 kk, .int .i64 n, .int .i64 m, .string t] 30 (0, 0)) := by rw [← hWF]; exact hfR.out
  have hqq : WF.heap[q]? = some (.cells #[.int .i64 ((k : Int) + c)] 3 (0, 0)) := by rw [← hWF]; exact hfq.out
  have hG : w.grownBy WF (some q) := by rw [← hWF]; exact GF.out
  have y := fun i => cell_of_row _ _ i _ _ _ hqf
  have y0 := y 0; have y1 := y 1; have y2 := y 2; have y3 := y 3
  dsimp at y0 y1 y2 y3
  clear y hqf hWF
  refine bodyPost_ret (v := .tuple #[.agg #[.int .i64 kk, .int .i64 n, .int .i64 m, .string t], .int .i64 ((k : Int) + c), .bool (decide ((0 : Int) < (c : Int)))]) (by simp [results, Tryd.results26, go_sem, y0, y1, y2, y3]) rfl ?_
  rw [dec.out]
  exact ⟨rfl, hqq, gb_below hG (Below.refl _ _).drew⟩
end Go.Proofs.YtmnjafceenckpaaDoor
set_option linter.unusedVariables false
set_option linter.unusedSimpArgs false
namespace Go.Proofs.YtmnjafceenckpaaDoor
open Go.RowKit Go.Sort
theorem ereader_any (s : ByteArray) (w : World) : Calls Tryd.prog 15 #[.string s] w fun e w' => e = .returned (.func (.func 26) #[] #[.pointer (some ⟨w.heap.size, 0, none⟩), .pointer (some ⟨w.heap.size + 1, 0, none⟩)]) ∧ (w.alloc (.cells #[.string s] 9)).alloc (.cells #[.int .i64 0] 3) = w' := by
  have hmf : ∀ (fn : Fn) (first cap : Array Value) (w : World), (Instr.makeFunc fn first cap).run Tryd.prog w = .ok (.func fn first cap) w := fun _ _ _ _ => rfl
  go_enter Tryd.func15, Tryd.ntmps15
  go_wp2
  go_ret
  first | exact ⟨rfl, rfl⟩ | exact ⟨by simp, rfl⟩
def PrsPost (s : ByteArray) (w : World) (e : Ending) (w' : World) : Prop :=
  (∃ L v, prsS s = some L ∧ e = .returned (.tuple #[v, .int .i64 0]) ∧ ownT w' w.heap.size v L ∧ Below w.heap.size w w') ∨ (prsS s = none ∧ e = .returned (.tuple #[.slice none 0 0, .int .i64 6]) ∧ Below w.heap.size w w')
theorem ownT_push {w : World} {B : Nat} {v : Value} {L : List Ot} {k n m : Int} {t : ByteArray} (h : w.ownsRow B 30 4 v (L.length + 1) (oCells L ++ [.int .i64 k, .int .i64 n, .int .i64 m, .string t])) : ownT w B v (L ++ [(k, n, m, t)]) := by
  unfold ownT; rw [List.length_append, oCells_snoc]; exact h
set_option maxHeartbeats 4000000 in
theorem parse_any (s : ByteArray) (w : World) (hT : ET w) (hs : s.size ≤ 800000) : Calls Tryd.prog 6 #[.string s] w (PrsPost s w) := by
  obtain ⟨i0, hi, hz0, hz1, hz2⟩ := info_parts infoOut
  have HT := Lib.hid hT
  have R := Lib.hid (fun w => ereader_any s w)
  have B0 := seqB (below_alloc w (.cells #[.string s] 9)) (below_alloc _ (.cells #[.int .i64 0] 3))
  have hp0 := Lib.hid (blk_alloc (heap_alloc_new w (.cells #[.string s] 9)) (.cells #[.int .i64 0] 3))
  have hq0 := heap_alloc_new (w.alloc (.cells #[.string s] 9)) (.cells #[.int .i64 0] 3)
  rw [show (w.alloc (.cells #[.string s] 9)).heap.size = w.heap.size + 1 by simp] at hq0
  replace hq0 := Lib.hid hq0
  clear hT
  go_enter Tryd.func6, Tryd.ntmps6
  go_wp2_with (go_at_call 15; refine (R.out _).mono ?_; rintro e w1 ⟨rfl, rfl⟩)
  go_loopw [4, 6] (fun lv iv wr => ∃ (k : Nat) (acc : List Ot), k ≤ s.size ∧ acc.length ≤ k ∧ iv = .int .i64 (k : Int) ∧ Hid (ownT wr w.heap.size lv acc) ∧ Hid (wr.heap[w.heap.size]? = some (.cells #[.string s] 9 (0, 0))) ∧ Hid (wr.heap[w.heap.size + 1]? = some (.cells #[.int .i64 (k : Int)] 3 (0, 0))) ∧ Hid (prsS s = (prsS (s.extract k s.size)).map (acc ++ ·)) ∧ Below w.heap.size w wr) (fun _ iv _ => s.size - (intOf iv).toNat)
  case atStart => exact ⟨0, [], Nat.zero_le _, Nat.le_refl _, rfl, Lib.hid (World.ownsRow_nil _ _ _ _), hp0, hq0, Lib.hid (by rw [ext_all]; cases prsS s <;> simp), B0⟩
  case round =>
    obtain ⟨k, acc, hk, hacc, rfl, hO, hP, hQ, hE, hbl⟩ := hrel
    by_cases hlt : k < s.size
    · have hk1 : (k : Int) < s.size := by omega
      have hk0 : (0 : Int) ≤ k := by omega
      have NX := enext_any s k w.heap.size (w.heap.size + 1) wr (HT.out.below hbl) hs hk hP.out hQ.out (by omega)
      have hle := one_le (s.extract k s.size)
      have hsz := tail_size s k
      have hnone := prsS_none (s := s.extract k s.size) (by omega)
      have hsome := prsS_some (s := s.extract k s.size) (by omega)
      obtain ⟨kk, n, m, t, c, ho⟩ : ∃ kk n m t c, oneP (s.extract k s.size) = ((kk, n, m, t), c) := ⟨_, _, _, _, _, rfl⟩
      rw [ho] at NX hle hnone hsome
      dsimp only at hle hnone hsome NX
      replace NX : Calls Tryd.prog 26 #[.pointer (some ⟨w.heap.size, 0, none⟩), .pointer (some ⟨w.heap.size + 1, 0, none⟩)] wr fun e w' => e = .returned (.tuple #[.agg #[.int .i64 kk, .int .i64 n, .int .i64 m, .string t], .int .i64 ((k : Int) + c), .bool (decide (0 < c))]) ∧ w'.heap[w.heap.size + 1]? = some (.cells #[.int .i64 ((k : Int) + c)] 3 (0, 0)) ∧ wr.grownBy w' (some (w.heap.size + 1)) := NX
      have hnq := own_ne_kind hO.out hQ.out (by decide)
      have hlt0 := Nat.lt_of_lt_of_le (blk_lt hP.out) (Nat.le_refl _)
      rw [ext_ext] at hsome
      by_cases hc : c = 0
      · have hd : decide (0 < c) = false := by simp [hc]
        rw [hd] at NX
        have HF : Hid (prsS s = none) := Lib.hid (by rw [hE.out, hnone hc]; rfl)
        replace NX := Lib.hid NX
        clear hsome hnone ho hle hsz hd hO hP hQ hE
        go_wp2_with (go_at_call 26; refine NX.out.mono ?_; rintro e w4 ⟨rfl, hq4, hg4⟩; have N4 := hbl.grown hg4 hbl.size (fun j hj => by rw [← Option.some.inj hj]; omega); have N5 := N4.trans ((below_alloc w4 (.cells #[.int .i64 kk, .int .i64 n, .int .i64 m, .string t] 30)).mono N4.size))
        refine bodyPost_ret (v := .tuple #[.slice none 0 0, .int .i64 6]) (by simp [results, Tryd.results6, go_sem]) rfl ?_
        exact Or.inr ⟨HF.out, rfl, N5⟩
      · have hd : decide (0 < c) = true := by simp; omega
        rw [hd] at NX
        have HF : Hid (prsS s = (prsS (s.extract (k + c) s.size)).map ((acc ++ [(kk, n, m, t)]) ++ ·)) := Lib.hid (by rw [hE.out, hsome hc, Option.map_map]; congr 1; funext x; simp)
        have hal : acc.length ≤ 800000 := by omega
        replace NX := Lib.hid NX
        clear hsome hnone ho hd hE
        go_wp2_with (fail)
        go_at_call 26
        refine NX.out.mono ?_
        rintro e w4 ⟨rfl, hq4, hg4⟩
        have N4 := hbl.grown hg4 hbl.size (fun j hj => by rw [← Option.some.inj hj]; omega)
        have hp4 := (hg4.block w.heap.size hlt0 (by simp)).trans hP.out
        have O4 := World.ownsRow.kept hO.out hg4 (Or.inr hnq)
        have Bx := below_alloc w4 (.cells #[.int .i64 kk, .int .i64 n, .int .i64 m, .string t] 30)
        have x5 := heap_alloc_new w4 (.cells #[.int .i64 kk, .int .i64 n, .int .i64 m, .string t] 30)
        have y := fun i => cell_of_row _ _ i _ _ _ x5; have x0 := y 0; have x1 := y 1; have x2 := y 2; have x3 := y 3; clear y x5; dsimp at x0 x1 x2 x3
        have np := own_ne_kind O4 hp4 (by decide)
        have nq := own_ne_kind O4 hq4 (by decide)
        clear hO hP hQ hg4
        go_wp2_with (at_builtin; refine wpList_append_own _ rfl _ _ 24 rfl w.heap.size 30 i0 _ 4 40 Tryd.underlying24 hi hz0 hz1 hz2 rfl (by decide) _ _ _ rfl ((O4.alloc _).alloc _) ⟨w4.heap.size + 1, 0, none⟩ 1 1 [.int .i64 kk, .int .i64 n, .int .i64 m, .string t] rfl rfl (fun j x hj => app_cells (by simp) hj) ?g2 ?g3 ?g4 ?g5 ?_)
        case g2 => simp [Value.oneCell']
        case g3 => unfold maxLen; omega
        case g4 => omega
        case g5 => have := N4.size; simp; omega
        intro v' w6 hown6 hgrow6 _
        have N5 := (N4.alloc N4.size (.cells #[.int .i64 kk, .int .i64 n, .int .i64 m, .string t] 30)).alloc (Nat.le_trans N4.size Bx.size) (.cells #[.int .i64 kk, .int .i64 n, .int .i64 m, .string t] 30)
        have N6 := N5.grown hgrow6 N5.size (fun j hj => (O4.lt j hj).1)
        have hpl := blk_lt hp4
        have hql := blk_lt hq4
        have hp6 := Lib.hid ((hgrow6.block w.heap.size (by simp; omega) (fun e => np e.symm)).trans (blk_alloc (blk_alloc hp4 _) _))
        have hq6 := Lib.hid ((hgrow6.block (w.heap.size + 1) (by simp; omega) (fun e => nq e.symm)).trans (blk_alloc (blk_alloc hq4 _) _))
        have O6 := Lib.hid (ownT_push hown6)
        clear hown6 hgrow6 N5 N4 hp4 hq4 O4 Bx x0 x1 x2 x3 np nq
        go_wp2
        go_roundw
        case rel => exact ⟨k + c, acc ++ [(kk, n, m, t)], by omega, by simp; omega, by go_num, O6, hp6, hq6, HF, N6⟩
        case measure => (simp [intOf]; try omega)
    · obtain rfl : k = s.size := by omega
      have h0 : s.extract s.size s.size = mt := size0 (by rw [tail_size]; omega)
      have HF : Hid (prsS s = some acc) := Lib.hid (by rw [hE.out, h0, prsS_nil rfl]; simp)
      clear hE hP hQ h0
      go_wp2
      refine bodyPost_ret (v := .tuple #[_, .int .i64 0]) (by simp [results, Tryd.results6, go_sem]; rfl) rfl ?_
      exact Or.inl ⟨acc, _, HF.out, rfl, hO.out, hbl⟩
theorem parse_yes (s : ByteArray) (L : List Ot) (w : World) (hT : ET w) (hs : s.size ≤ 800000) (h : prsS s = some L) : Calls Tryd.prog 6 #[.string s] w fun e w' => ∃ a c, e = .returned (.tuple #[.slice a L.length c, .int .i64 0]) ∧ OutsIn w' a L ∧ Below w.heap.size w w' := by
  refine (parse_any s w hT hs).mono ?_
  rintro e w' (⟨L', v, h1, rfl, h2, h3⟩ | ⟨h1, _⟩)
  · rw [h] at h1
    obtain rfl := Option.some.inj h1
    obtain ⟨a, c, rfl, h4⟩ := outs_of_own h2
    exact ⟨a, c, rfl, h4, h3⟩
  · rw [h] at h1; cases h1
theorem parse_no (s : ByteArray) (w : World) (hT : ET w) (hs : s.size ≤ 800000) (h : prsS s = none) : Calls Tryd.prog 6 #[.string s] w fun e w' => e = .returned (.tuple #[.slice none 0 0, .int .i64 6]) ∧ Below w.heap.size w w' := by
  refine (parse_any s w hT hs).mono ?_
  rintro e w' (⟨L', v, h1, _⟩ | ⟨_, h2, h3⟩)
  · rw [h] at h1; cases h1
  · exact ⟨h2, h3⟩
def clnB (s : ByteArray) : Bool := (prsS s).isSome
set_option maxHeartbeats 1000000 in
theorem clean_any (s : ByteArray) (w : World) (hT : ET w) (hs : s.size ≤ 800000) : Calls Tryd.prog 16 #[.string s] w fun e w' => e = .returned (.bool (clnB s)) ∧ Below w.heap.size w w' := by
  cases h : prsS s with
  | none =>
    have P := Lib.hid (parse_no s w hT hs h)
    have e : clnB s = false := by unfold clnB; rw [h]; rfl
    rw [e]
    clear e h hT
    go_enter Tryd.func16, Tryd.ntmps16
    go_wp2_with (go_at_call 6; refine P.out.mono ?_; rintro e w1 ⟨rfl, hb1⟩)
    go_ret
    exact ⟨rfl, hb1⟩
  | some L =>
    have P := Lib.hid (parse_yes s L w hT hs h)
    have e : clnB s = true := by unfold clnB; rw [h]; rfl
    rw [e]
    clear e h hT
    go_enter Tryd.func16, Tryd.ntmps16
    go_wp2_with (go_at_call 6; refine P.out.mono ?_; rintro e w1 ⟨a, c, rfl, _, hb1⟩)
    go_ret
    exact ⟨rfl, hb1⟩
end Go.Proofs.YtmnjafceenckpaaDoor
set_option linter.unusedVariables false
set_option linter.unusedSimpArgs false
namespace Go.Proofs.YtmnjafceenckpaaDoor
open Go.RowKit
theorem cln_iff (s : ByteArray) : clnB s = true ↔ Cl s := cl_prs s
theorem cln_no {s : ByteArray} (h : ¬ Cl s) : clnB s = false := by
  cases e : clnB s with
  | false => rfl
  | true => exact absurd ((cln_iff s).1 e) h
/-- A piece that is no sign begins with one byte's value. -/
theorem fp_one {s : ByteArray} (hs : 0 < s.size) (h : fp s ≠ 0) (ht : ¬ 0 < tl s) : (vAt s 0).2 = 1 ∧ fp s ≤ 12 := by
  have hp : (oneP s).2 ≠ 0 := by unfold fp at h; rwa [if_neg ht] at h
  have hf : fp s = (oneP s).2 := by unfold fp; rw [if_neg ht]
  rw [hf]
  have key : (s.get! 0).toNat < 128 ∧ (oneP s).2 ≤ 12 := by
    unfold oneP at hp ⊢
    rw [if_neg ht] at hp ⊢
    rw [if_neg (show ¬ s.size = 0 by omega)] at hp ⊢
    by_cases h7 : (s.get! 0).toNat = 7
    · rw [if_pos h7]; exact ⟨by omega, by show 1 ≤ 12; omega⟩
    rw [if_neg h7] at hp ⊢
    by_cases h13 : (s.get! 0).toNat = 13
    · rw [if_pos h13]; exact ⟨by omega, by show 1 ≤ 12; omega⟩
    rw [if_neg h13] at hp ⊢
    by_cases h10 : (s.get! 0).toNat = 10
    · rw [if_pos h10]; exact ⟨by omega, by show 1 ≤ 12; omega⟩
    rw [if_neg h10] at hp ⊢
    by_cases h3 : Lib.hasPrefix (bL s) [27, 91] = false
    · rw [if_pos h3] at hp; exact absurd rfl hp
    rw [if_neg h3] at hp ⊢
    have h3' : Lib.hasPrefix (bL s) [27, 91] = true := by simpa using h3
    obtain ⟨t, ht⟩ := List.isPrefixOf_iff_prefix.1 h3'
    refine ⟨?_, ?_⟩
    · rw [get_bL s 0 hs, ← ht]; show (27 : UInt8).toNat < 128; decide
    · unfold oneC at hp ⊢
      cases hl : ltr s with
      | none => exact Nat.zero_le _
      | some e =>
        have he := ltF_some _ _ _ hl
        dsimp only
        split
        · show e + 1 ≤ 12; omega
        · exact Nat.zero_le _
  exact ⟨by rw [vAt_low s key.1], key.2⟩
theorem pl_yes {s : ByteArray} (hs : 0 < s.size) (h : clnB (s.extract 0 (vAt s 0).2) = true) : (vAt s 0).2 = fp s := by
  have hr := vAt_rng hs
  have hp := cl_pre hr.1 hr.2.2 ((cln_iff _).1 h)
  by_cases ht : 0 < tl s
  · unfold fp; rw [if_pos ht]
  · have := fp_one hs hp.1 ht; omega
theorem cl_fp {s : ByteArray} (h : fp s ≠ 0) : Cl (s.extract 0 (fp s)) := by
  obtain ⟨p, r, h3, e, h4⟩ := fp_cut h
  rw [← h4, e, ext_front, ← app_mt p]
  exact .cons p mt h3 .nil
theorem pl_no {s : ByteArray} (hs : 0 < s.size) (h : clnB (s.extract 0 (vAt s 0).2) = false) (hf : fp s ≠ 0) : fp s ≤ 12 ∧ fp s ≤ s.size := by
  have hle : fp s ≤ s.size := by
    obtain ⟨p, r, h3, e, h4⟩ := fp_cut hf
    have := congrArg ByteArray.size e
    rw [ByteArray.size_append] at this; omega
  by_cases ht : 0 < tl s
  · exfalso
    have e : fp s = (vAt s 0).2 := by unfold fp; rw [if_pos ht]
    have := (cln_iff _).2 (cl_fp hf)
    rw [e, h] at this; cases this
  · exact ⟨(fp_one hs hf ht).2, hle⟩
set_option maxRecDepth 100000 in
set_option maxHeartbeats 4000000 in
theorem apl_any (s : ByteArray) (w : World) (hT : ET w) (hs : s.size ≤ 1000) (h0 : 0 < s.size) : Calls Tryd.prog 28 #[.string s] w fun e w' => e = .returned (.int .i64 (fp s : Int)) ∧ Below w.heap.size w w' := by
  have ON := one_any s w hT.u (by omega)
  unfold oneS at ON
  rw [if_neg (show ¬ s.size = 0 by omega)] at ON
  have hr := vAt_rng h0
  have hy := pl_yes h0
  have hno := pl_no h0
  obtain ⟨v, hv⟩ : ∃ v, (vAt s 0).1 = v := ⟨_, rfl⟩
  obtain ⟨n, hn⟩ : ∃ n, (vAt s 0).2 = n := ⟨_, rfl⟩
  rw [hv, hn] at ON
  rw [hn] at hr hy hno
  have HON := Lib.hid ON
  have HF := Lib.hid (And.intro hy hno)
  have CN := Lib.hid fun (k : Nat) w hT => clean_any (s.extract 0 k) w hT (by rw [ByteArray.size_extract]; omega)
  have HT := Lib.hid hT
  have hn0 : (0 : Int) < (n : Int) := by omega
  have hnz : (n : Int) ≤ (s.size : Int) := by omega
  obtain ⟨cb, hcb⟩ : ∃ cb, clnB (s.extract 0 n) = cb := ⟨_, rfl⟩
  have HCB := Lib.hid hcb
  have HS := Lib.hid (And.intro hs h0)
  clear ON hv hn hr hy hno hT hcb hs h0
  go_enter Tryd.func28, Tryd.ntmps28
  go_wp2_with fail
  go_at_call 30
  refine HON.out.mono ?_
  rintro e w1 ⟨rfl, hb⟩
  have N1 := Lib.hid hb
  have T1 := Lib.hid (HT.out.below hb)
  clear hb
  go_wp2_with fail
  go_at_call 16
  refine (CN.out n w1 T1.out).mono ?_
  rintro e w2 ⟨rfl, hb⟩
  have N2 := Lib.hid (seqB N1.out hb)
  have T2 := Lib.hid (T1.out.below hb)
  clear hb
  rw [HCB.out]
  cases cb with
  | true =>
    have hfp : Hid ((n : Int) = (fp s : Int)) := Lib.hid (by rw [HF.out.1 HCB.out])
    go_wp2_with fail
    go_ret
    exact ⟨by rw [hfp.out] <;> rfl, N2.out⟩
  | false =>
    have HNO := Lib.hid (HF.out.2 HCB.out)
    go_upto_region 5 with fail
    go_loopw [5] (fun iv wr => ∃ k : Nat, 1 ≤ k ∧ k ≤ 13 ∧ iv = .int .i64 (k : Int) ∧ Hid (∀ j, 1 ≤ j → j < k → clnB (s.extract 0 j) = false) ∧ Hid (Below w.heap.size w wr)) (fun iv _ => 13 - (intOf iv).toNat)
    case atStart => exact ⟨1, Nat.le_refl _, by omega, rfl, Lib.hid (fun j h1 h2 => by omega), N2⟩
    case round =>
      obtain ⟨k, hk1, hk13, rfl, HJ, HB⟩ := hrel
      by_cases hlt : k ≤ min s.size 12
      · have hle : (k : Int) ≤ min (s.size : Int) 12 := by omega
        have hks : (k : Int) ≤ (s.size : Int) := by omega
        have hk0 : (0 : Int) ≤ (k : Int) := by omega
        obtain ⟨cb, hcb⟩ : ∃ cb, clnB (s.extract 0 k) = cb := ⟨_, rfl⟩
        have HC := Lib.hid hcb
        have HK := Lib.hid (And.intro hk1 hlt)
        clear hcb hlt
        go_wp2_with fail
        go_at_call 16
        refine (CN.out k wr (HT.out.below HB.out)).mono ?_
        rintro e w3 ⟨rfl, hb⟩
        have N3 := Lib.hid (seqB HB.out hb)
        clear hb
        rw [HC.out]
        cases cb with
        | true =>
          have hfp : Hid ((k : Int) = (fp s : Int)) := Lib.hid (by
            have h1 := cl_pre HK.out.1 (by have := HK.out.2; omega) ((cln_iff _).1 HC.out)
            have h2 := (cln_iff _).2 (cl_fp h1.1)
            rcases Nat.lt_or_ge (fp s) k with h3 | h3
            · rw [HJ.out (fp s) (by have := h1.1; omega) h3] at h2; cases h2
            · have : fp s = k := Nat.le_antisymm h1.2 h3
              rw [this])
          go_wp2_with fail
          go_ret
          exact ⟨by rw [hfp.out] <;> rfl, N3.out⟩
        | false =>
          go_wp2_with fail
          go_roundw
          case rel => exact ⟨k + 1, by omega, by have := HK.out.2; omega, by go_num, Lib.hid (fun j h1 h2 => by
            rcases Nat.lt_or_ge j k with h3 | h3
            · exact HJ.out j h1 h3
            · obtain rfl : j = k := by omega
              exact HC.out), N3⟩
          case measure => (have := HK.out.2; simp [intOf]; try omega)
      · have hle : ¬ (k : Int) ≤ min (s.size : Int) 12 := by omega
        have hfp : Hid (fp s = 0) := Lib.hid (Decidable.by_contra fun h => by
          have h1 := HNO.out h
          have h2 := (cln_iff _).2 (cl_fp h)
          rw [HJ.out (fp s) (by omega) (by omega)] at h2; cases h2)
        clear hlt
        go_wp2_with fail
        go_ret
        exact ⟨by rw [hfp.out] <;> rfl, HB.out⟩
/-- The fuel does not matter. -/
theorem clN_fuel : ∀ f g s, s.size ≤ f → s.size ≤ g → clN f s = clN g s
  | 0, 0, _, _, _ => rfl
  | 0, g + 1, s, h, _ => by unfold clN; rw [if_pos (show s.size = 0 by omega)]
  | f + 1, 0, s, _, h => by unfold clN; rw [if_pos (show s.size = 0 by omega)]
  | f + 1, g + 1, s, h, h' => by
    unfold clN
    by_cases h0 : s.size = 0
    · rw [if_pos h0, if_pos h0]
    rw [if_neg h0, if_neg h0]
    by_cases hf : fp s = 0
    · rw [if_pos hf, if_pos hf]
    rw [if_neg hf, if_neg hf, clN_fuel f g _ (by rw [tail_size]; omega) (by rw [tail_size]; omega)]
theorem clZ_step {s : ByteArray} (h0 : 0 < s.size) : clZ s = if fp s = 0 then 0 else fp s + clZ (s.extract (fp s) s.size) := by
  unfold clZ
  obtain ⟨f, hf⟩ : ∃ f, s.size = f + 1 := ⟨s.size - 1, by omega⟩
  conv => lhs; rw [hf]; unfold clN
  rw [if_neg (show ¬ s.size = 0 by omega)]
  by_cases hz : fp s = 0
  · rw [if_pos hz, if_pos hz]
  · rw [if_neg hz, if_neg hz, clN_fuel f _ _ (by rw [tail_size]; omega) (Nat.le_refl _)]
theorem fp_le {s : ByteArray} (h : fp s ≠ 0) : fp s ≤ s.size := by
  obtain ⟨p, r, h3, e, h4⟩ := fp_cut h
  have := congrArg ByteArray.size e
  rw [ByteArray.size_append] at this; omega
set_option maxRecDepth 100000 in
set_option maxHeartbeats 4000000 in
theorem acl_any (s : ByteArray) (w : World) (hT : ET w) (hs : s.size ≤ 1000) : Calls Tryd.prog 17 #[.string s] w fun e w' => e = .returned (.int .i64 (clZ s : Int)) ∧ Below w.heap.size w w' := by
  have HS := Lib.hid hs
  have HT := Lib.hid hT
  have PL := Lib.hid fun (k : Nat) w hT (hk : k < s.size) => apl_any (s.extract k s.size) w hT (by rw [ByteArray.size_extract]; omega) (by rw [ByteArray.size_extract]; omega)
  clear hs hT
  go_enter Tryd.func17, Tryd.ntmps17
  go_upto_region 2 with fail
  go_loopw [3] (fun iv wr => ∃ k : Nat, k ≤ s.size ∧ iv = .int .i64 (k : Int) ∧ Hid (clZ s = k + clZ (s.extract k s.size)) ∧ Hid (Below w.heap.size w wr)) (fun iv _ => s.size - (intOf iv).toNat)
  case atStart => exact ⟨0, Nat.zero_le _, rfl, Lib.hid (by rw [ext_all, Nat.zero_add]), Lib.hid (Below.refl _ _)⟩
  case round =>
    obtain ⟨k, hk, rfl, HC, HB⟩ := hrel
    have hs1 := HS.out
    by_cases hlt : k < s.size
    · have hk1 : (k : Int) < (s.size : Int) := by omega
      have hk2 : (k : Int) ≤ (s.size : Int) := by omega
      have hk0 : (0 : Int) ≤ (k : Int) := by omega
      have hz : (s.extract k s.size).size = s.size - k := tail_size s k
      have hst := clZ_step (s := s.extract k s.size) (by omega)
      have hle := fp_le (s := s.extract k s.size)
      rw [hz] at hle
      obtain ⟨p, hp⟩ : ∃ p, fp (s.extract k s.size) = p := ⟨_, rfl⟩
      rw [hp] at hst hle
      have P := PL.out k wr (HT.out.below HB.out) hlt
      rw [hp] at P
      have HP := Lib.hid P
      have H1 := Lib.hid (And.intro hst (And.intro hle hlt))
      clear P hst hle hp hz hlt
      go_wp2_with fail
      go_at_call 28
      refine HP.out.mono ?_
      rintro e w1 ⟨rfl, hb⟩
      have N1 := Lib.hid (seqB HB.out hb)
      clear hb
      by_cases hp0 : p = 0
      · subst hp0
        have hfin : Hid ((k : Int) = (clZ s : Int)) := Lib.hid (by
          have h1 := H1.out.1
          rw [if_pos rfl] at h1
          have h2 := HC.out
          rw [h1] at h2; omega)
        go_wp2_with fail
        go_ret
        exact ⟨by rw [hfin.out] <;> rfl, N1.out⟩
      · have hpi : ¬ (p : Int) = 0 := by omega
        have hpb : ((p : Int) == 0) = false := beq_eq_false_iff_ne.2 hpi
        have hle := H1.out.2.1 hp0
        have hsum : (k : Int) + (p : Int) ≤ 9223372036854775807 := by omega
        have HN : Hid (clZ s = (k + p) + clZ (s.extract (k + p) s.size)) := Lib.hid (by
          have h1 := H1.out.1
          rw [if_neg hp0, ext_ext] at h1
          have h2 := HC.out
          rw [h1] at h2; omega)
        go_wp2_with fail
        go_roundw
        case rel => exact ⟨k + p, by have := H1.out.2.2; omega, by go_num, HN, N1⟩
        case measure => (have := H1.out.2.2; simp [intOf]; try omega)
    · obtain rfl : k = s.size := by omega
      have hfin : Hid ((s.size : Int) = (clZ s : Int)) := Lib.hid (by
        have h2 := HC.out
        have : s.extract s.size s.size = mt := size0 (by rw [tail_size]; omega)
        rw [this] at h2
        have e : clZ mt = 0 := rfl
        rw [e] at h2; omega)
      have hkl : ¬ (s.size : Int) < (s.size : Int) := by omega
      clear hlt
      go_wp2_with fail
      go_ret
      exact ⟨by rw [← hfin.out] <;> rfl, HB.out⟩
/-- Place's answer. -/
def plZ (s : ByteArray) : Int := if clnB s then -1 else (clZ s : Int)
set_option maxHeartbeats 1000000 in
theorem aplace_any (s : ByteArray) (w : World) (hT : ET w) (hs : s.size ≤ 1000) : Calls Tryd.prog 7 #[.string s] w fun e w' => e = .returned (.int .i64 (plZ s)) ∧ Below w.heap.size w w' := by
  have CN := Lib.hid (clean_any s w hT (by omega))
  have CL := Lib.hid fun w hT => acl_any s w hT hs
  unfold plZ
  have HT := Lib.hid hT
  obtain ⟨cb, hcb⟩ : ∃ cb, clnB s = cb := ⟨_, rfl⟩
  rw [hcb] at CN ⊢
  clear hT hs hcb
  cases cb with
  | true =>
    go_enter Tryd.func7, Tryd.ntmps7
    go_wp2_with fail
    go_at_call 16
    refine CN.out.mono ?_
    rintro e w1 ⟨rfl, hb⟩
    have N1 := Lib.hid hb
    clear hb
    go_wp2_with fail
    go_ret
    exact ⟨rfl, N1.out⟩
  | false =>
    go_enter Tryd.func7, Tryd.ntmps7
    go_wp2_with fail
    go_at_call 16
    refine CN.out.mono ?_
    rintro e w1 ⟨rfl, hb⟩
    have N1 := Lib.hid hb
    clear hb
    go_wp2_with fail
    go_at_call 17
    refine (CL.out w1 (HT.out.below N1.out)).mono ?_
    rintro e w2 ⟨rfl, hb⟩
    have N2 := Lib.hid (seqB N1.out hb)
    clear hb
    go_wp2_with fail
    go_ret
    exact ⟨rfl, N2.out⟩
end Go.Proofs.YtmnjafceenckpaaDoor
set_option linter.unusedVariables false
set_option linter.unusedSimpArgs false
namespace Go.Proofs.YtmnjafceenckpaaDoor
open Go.RowKit
theorem idxA (s : ByteArray) (k : Nat) (hk : k < s.size) (w : World) : (Instr.index 9 (.string s) (.int .i64 (k : Int))).run Tryd.prog w = .ok (.int .u8 (((bL s).getD k 0).toNat : Int)) w := by
  have hk2 : (k : Int) < (s.size : Int) := by omega
  rw [run_index_string (P := Tryd.prog) w 9 s .i64 (k : Int) Tryd.underlying9, dif_pos ⟨by omega, hk2⟩, ← get_bL s k hk, get_get s k hk]
  rfl
theorem dg_step (t : List UInt8) (k : Nat) (hk : k < t.length) (h5 : k < 5) : ((t.drop k).take (5 - k)).takeWhile dig = if dig (t.getD k 0) = true then t.getD k 0 :: ((t.drop (k + 1)).take (5 - (k + 1))).takeWhile dig else [] := by
  rw [List.drop_eq_getElem_cons hk]
  obtain ⟨j, hj⟩ : ∃ j, 5 - k = j + 1 := ⟨4 - k, by omega⟩
  have hj2 : 5 - (k + 1) = j := by omega
  rw [hj, hj2, List.take_succ_cons, List.takeWhile_cons, List.getD, List.getElem?_eq_getElem hk]
  rfl
theorem vl_take (t : List UInt8) (k : Nat) (hk : k < t.length) : vlA (t.take (k + 1)) = vlA (t.take k) * 10 + ((t.getD k 0).toNat - 48) := by
  rw [List.take_add_one, List.getElem?_eq_getElem hk, List.getD, List.getElem?_eq_getElem hk]
  exact vl_snoc _ _
theorem vl_small : ∀ (d : List UInt8) , (∀ c ∈ d, dig c = true) → vlA d < 10 ^ d.length := by
  refine snocU (fun _ => by decide) (fun d c ih hd => ?_)
  have hc := of_decide_eq_true (hd c (List.mem_append_right _ List.mem_cons_self))
  have := ih fun c hc => hd c (List.mem_append_left _ hc)
  rw [vl_snoc, List.length_append, List.length_singleton, Nat.pow_succ]
  omega
def DgPost (s : ByteArray) (w : World) (e : Ending) (w' : World) : Prop := e = .returned (.tuple #[.int .i64 ((dgR (bL s)).1 : Int), .int .i64 ((dgR (bL s)).2 : Int)]) ∧ w' = w
set_option maxRecDepth 100000 in
set_option maxHeartbeats 4000000 in
theorem adg_any (s : ByteArray) (w : World) (hs : s.size ≤ 1000) : Calls Tryd.prog 37 #[.string s] w (DgPost s w) := by
  have HS := Lib.hid hs
  have HBL := Lib.hid (bL_len s)
  clear hs
  go_enter Tryd.func37, Tryd.ntmps37
  go_upto_region 3 with fail
  go_loopw [4, 5] (fun nv iv wr => ∃ k : Nat, k ≤ s.size ∧ k ≤ 5 ∧ nv = .int .i64 (vlA ((bL s).take k) : Int) ∧ iv = .int .i64 (k : Int) ∧ Hid (dgA (bL s) = (bL s).take k ++ (((bL s).drop k).take (5 - k)).takeWhile dig ∧ ∀ c ∈ (bL s).take k, dig c = true) ∧ w = wr) (fun _ iv _ => 5 - (intOf iv).toNat)
  case atStart => exact ⟨0, Nat.zero_le _, by omega, rfl, rfl, Lib.hid ⟨rfl, fun c hc => by simp at hc⟩, rfl⟩
  case round =>
    obtain ⟨k, hk, hk5, rfl, rfl, HI, rfl⟩ := hrel
    have hs1 := HS.out
    have hk0 : (0 : Int) ≤ (k : Int) := by omega
    by_cases hend : k = s.size ∨ k = 5 ∨ (k < s.size ∧ k < 5 ∧ dig ((bL s).getD k 0) = false)
    · have HD : Hid (dgA (bL s) = (bL s).take k) := Lib.hid (by
        rw [HI.out.1]
        rcases hend with h | h | ⟨h1, h2, h3⟩
        · rw [List.drop_of_length_le (by rw [HBL.out]; omega)]; simp
        · subst h; simp
        · rw [dg_step _ k (by rw [HBL.out]; exact h1) h2, if_neg (by rw [h3]; decide), List.append_nil])
      obtain ⟨n, hn⟩ : ∃ n, vlA ((bL s).take k) = n := ⟨_, rfl⟩
      rw [hn]
      have HR : Hid ((k = 0 ∧ dgR (bL s) = (0, 0)) ∨ (0 < k ∧ ((bL s).getD 0 0).toNat = 48 ∧ dgR (bL s) = (0, 0)) ∨ (0 < k ∧ ((bL s).getD 0 0).toNat ≠ 48 ∧ n < 1 ∧ dgR (bL s) = (0, 0)) ∨ (0 < k ∧ ((bL s).getD 0 0).toNat ≠ 48 ∧ ¬ n < 1 ∧ 1000 < n ∧ dgR (bL s) = (0, 0)) ∨ (0 < k ∧ ((bL s).getD 0 0).toNat ≠ 48 ∧ ¬ n < 1 ∧ ¬ 1000 < n ∧ dgR (bL s) = (n, k))) := Lib.hid (by
        have hkl : ((bL s).take k).length = k := by rw [List.length_take, HBL.out]; omega
        unfold dgR
        rw [HD.out, hn, hkl]
        unfold dgB
        rw [hn]
        by_cases hk0 : k = 0
        · left
          refine ⟨hk0, ?_⟩
          subst hk0
          rw [if_neg]
          rw [List.take_zero]; simp
        have hne : (bL s).take k ≠ [] := fun e => by rw [e] at hkl; simp at hkl; omega
        have hhd : ((bL s).take k).headD 0 = (bL s).getD 0 0 := by
          cases hb : bL s with
          | nil => rw [hb] at hne; simp at hne
          | cons x l =>
            obtain ⟨j, rfl⟩ : ∃ j, k = j + 1 := ⟨k - 1, by omega⟩
            rfl
        rw [hhd, decide_eq_true hne, Bool.true_and]
        by_cases h48 : ((bL s).getD 0 0).toNat = 48
        · right; left
          refine ⟨by omega, h48, ?_⟩
          have e : (bL s).getD 0 0 = 48 := by
            have : (bL s).getD 0 0 = UInt8.ofNat ((bL s).getD 0 0).toNat := by simp
            rw [h48] at this; exact this
          rw [e, if_neg (by simp)]
        have e48 : ((bL s).getD 0 0 == 48) = false := beq_eq_false_iff_ne.2 fun e => h48 (by rw [e]; rfl)
        rw [e48, Bool.not_false, Bool.true_and]
        by_cases h1 : n < 1
        · right; right; left
          exact ⟨by omega, h48, h1, by rw [if_neg]; rw [decide_eq_false (by omega)]; decide⟩
        by_cases h2 : 1000 < n
        · right; right; right; left
          exact ⟨by omega, h48, h1, h2, by rw [if_neg]; rw [decide_eq_false (by omega)]; decide⟩
        · right; right; right; right
          exact ⟨by omega, h48, h1, h2, by rw [if_pos]; rw [decide_eq_true (by omega)]⟩)
      have HK : Hid (0 < k → k ≤ s.size → ∀ wx, (Instr.index 9 (.string s) (.int .i64 0)).run Tryd.prog wx = .ok (.int .u8 (((bL s).getD 0 0).toNat : Int)) wx) := Lib.hid (fun h1 h2 wx => idxA s 0 (by omega) wx)
      have hlv : k = s.size ∨ (k ≠ s.size ∧ k = 5) ∨ (k < s.size ∧ k < 5 ∧ ((bL s).getD k 0).toNat < 48) ∨ (k < s.size ∧ k < 5 ∧ 48 ≤ ((bL s).getD k 0).toNat ∧ 57 < ((bL s).getD k 0).toNat) := by
        rcases hend with h | h | ⟨h1, h2, h3⟩
        · exact .inl h
        · by_cases h' : k = s.size
          · exact .inl h'
          · exact .inr (.inl ⟨h', h⟩)
        · have h4 : ¬ (48 ≤ ((bL s).getD k 0).toNat ∧ ((bL s).getD k 0).toNat ≤ 57) := of_decide_eq_false h3
          rcases Nat.lt_or_ge ((bL s).getD k 0).toNat 48 with h5 | h5
          · exact .inr (.inr (.inl ⟨h1, h2, h5⟩))
          · exact .inr (.inr (.inr ⟨h1, h2, h5, by omega⟩))
      have HX : Hid (k < s.size → ∀ wx, (Instr.index 9 (.string s) (.int .i64 (k : Int))).run Tryd.prog wx = .ok (.int .u8 (((bL s).getD k 0).toNat : Int)) wx) := Lib.hid (fun h wx => idxA s k h wx)
      obtain ⟨c0, hc0⟩ : ∃ c0, ((bL s).getD 0 0).toNat = c0 := ⟨_, rfl⟩
      obtain ⟨ck, hck⟩ : ∃ ck, ((bL s).getD k 0).toNat = ck := ⟨_, rfl⟩
      obtain ⟨⟨ra, rb⟩, hra⟩ : ∃ q, dgR (bL s) = q := ⟨_, rfl⟩
      rw [hck] at hlv HX
      rw [hc0] at HR HK
      rw [hra] at HR
      have HRA := Lib.hid hra
      have HKS := Lib.hid (And.intro hk hk5)
      clear hend hn hc0 hck hra HD HI hk hk5
      have hks := HKS.out
      rcases hlv with h | ⟨h, h'⟩ | ⟨h, h', h''⟩ | ⟨h, h', h'', h4⟩
      · have j1 : ¬ (k : Int) < (s.size : Int) := by omega
        try clear h
        try clear h'
        go_upto_region 6 with fail
        rcases HR.out with ⟨h1, h2⟩ | ⟨h1, h2, h3⟩ | ⟨h1, h2, h3, h4⟩ | ⟨h1, h2, h3, h4, h5⟩ | ⟨h1, h2, h3, h4, h5⟩
        · subst h1
          obtain ⟨rfl, rfl⟩ : ra = 0 ∧ rb = 0 := by cases h2; exact ⟨rfl, rfl⟩
          go_wp2_with fail
          refine bodyPost_ret (results_tmp2 rfl _ _ _) rfl ?_
          unfold DgPost
          rw [HRA.out]
          exact ⟨rfl, rfl⟩
        · have hkn : ¬ (k : Int) = 0 := by omega
          have hkb : ((k : Int) == 0) = false := beq_eq_false_iff_ne.2 hkn
          have iz := HK.out h1 HKS.out.1
          subst h2
          obtain ⟨rfl, rfl⟩ : ra = 0 ∧ rb = 0 := by cases h3; exact ⟨rfl, rfl⟩
          go_wp2_with fail
          refine bodyPost_ret (results_tmp2 rfl _ _ _) rfl ?_
          unfold DgPost
          rw [HRA.out]
          exact ⟨rfl, rfl⟩
        · have hkn : ¬ (k : Int) = 0 := by omega
          have hkb : ((k : Int) == 0) = false := beq_eq_false_iff_ne.2 hkn
          have iz := HK.out h1 HKS.out.1
          have hcn : ¬ (c0 : Int) = 48 := by omega
          have hcb : ((c0 : Int) == 48) = false := beq_eq_false_iff_ne.2 hcn
          have hn1 : (n : Int) < 1 := by omega
          obtain ⟨rfl, rfl⟩ : ra = 0 ∧ rb = 0 := by cases h4; exact ⟨rfl, rfl⟩
          go_wp2_with fail
          refine bodyPost_ret (results_tmp2 rfl _ _ _) rfl ?_
          unfold DgPost
          rw [HRA.out]
          exact ⟨rfl, rfl⟩
        · have hkn : ¬ (k : Int) = 0 := by omega
          have hkb : ((k : Int) == 0) = false := beq_eq_false_iff_ne.2 hkn
          have iz := HK.out h1 HKS.out.1
          have hcn : ¬ (c0 : Int) = 48 := by omega
          have hcb : ((c0 : Int) == 48) = false := beq_eq_false_iff_ne.2 hcn
          have hn1 : ¬ (n : Int) < 1 := by omega
          have hn2 : (1000 : Int) < (n : Int) := by omega
          obtain ⟨rfl, rfl⟩ : ra = 0 ∧ rb = 0 := by cases h5; exact ⟨rfl, rfl⟩
          go_wp2_with fail
          refine bodyPost_ret (results_tmp2 rfl _ _ _) rfl ?_
          unfold DgPost
          rw [HRA.out]
          exact ⟨rfl, rfl⟩
        · have hkn : ¬ (k : Int) = 0 := by omega
          have hkb : ((k : Int) == 0) = false := beq_eq_false_iff_ne.2 hkn
          have iz := HK.out h1 HKS.out.1
          have hcn : ¬ (c0 : Int) = 48 := by omega
          have hcb : ((c0 : Int) == 48) = false := beq_eq_false_iff_ne.2 hcn
          have hn1 : ¬ (n : Int) < 1 := by omega
          have hn2 : ¬ (1000 : Int) < (n : Int) := by omega
          obtain ⟨rfl, rfl⟩ : ra = n ∧ rb = k := by cases h5; exact ⟨rfl, rfl⟩
          go_wp2_with fail
          refine bodyPost_ret (results_tmp2 rfl _ _ _) rfl ?_
          unfold DgPost
          rw [HRA.out]
          exact ⟨rfl, rfl⟩
      · have j1 : (k : Int) < (s.size : Int) := by omega
        have j2 : ¬ (k : Int) < 5 := by omega
        try clear h
        try clear h'
        go_upto_region 6 with fail
        rcases HR.out with ⟨h1, h2⟩ | ⟨h1, h2, h3⟩ | ⟨h1, h2, h3, h4⟩ | ⟨h1, h2, h3, h4, h5⟩ | ⟨h1, h2, h3, h4, h5⟩
        · subst h1
          obtain ⟨rfl, rfl⟩ : ra = 0 ∧ rb = 0 := by cases h2; exact ⟨rfl, rfl⟩
          go_wp2_with fail
          refine bodyPost_ret (results_tmp2 rfl _ _ _) rfl ?_
          unfold DgPost
          rw [HRA.out]
          exact ⟨rfl, rfl⟩
        · have hkn : ¬ (k : Int) = 0 := by omega
          have hkb : ((k : Int) == 0) = false := beq_eq_false_iff_ne.2 hkn
          have iz := HK.out h1 HKS.out.1
          subst h2
          obtain ⟨rfl, rfl⟩ : ra = 0 ∧ rb = 0 := by cases h3; exact ⟨rfl, rfl⟩
          go_wp2_with fail
          refine bodyPost_ret (results_tmp2 rfl _ _ _) rfl ?_
          unfold DgPost
          rw [HRA.out]
          exact ⟨rfl, rfl⟩
        · have hkn : ¬ (k : Int) = 0 := by omega
          have hkb : ((k : Int) == 0) = false := beq_eq_false_iff_ne.2 hkn
          have iz := HK.out h1 HKS.out.1
          have hcn : ¬ (c0 : Int) = 48 := by omega
          have hcb : ((c0 : Int) == 48) = false := beq_eq_false_iff_ne.2 hcn
          have hn1 : (n : Int) < 1 := by omega
          obtain ⟨rfl, rfl⟩ : ra = 0 ∧ rb = 0 := by cases h4; exact ⟨rfl, rfl⟩
          go_wp2_with fail
          refine bodyPost_ret (results_tmp2 rfl _ _ _) rfl ?_
          unfold DgPost
          rw [HRA.out]
          exact ⟨rfl, rfl⟩
        · have hkn : ¬ (k : Int) = 0 := by omega
          have hkb : ((k : Int) == 0) = false := beq_eq_false_iff_ne.2 hkn
          have iz := HK.out h1 HKS.out.1
          have hcn : ¬ (c0 : Int) = 48 := by omega
          have hcb : ((c0 : Int) == 48) = false := beq_eq_false_iff_ne.2 hcn
          have hn1 : ¬ (n : Int) < 1 := by omega
          have hn2 : (1000 : Int) < (n : Int) := by omega
          obtain ⟨rfl, rfl⟩ : ra = 0 ∧ rb = 0 := by cases h5; exact ⟨rfl, rfl⟩
          go_wp2_with fail
          refine bodyPost_ret (results_tmp2 rfl _ _ _) rfl ?_
          unfold DgPost
          rw [HRA.out]
          exact ⟨rfl, rfl⟩
        · have hkn : ¬ (k : Int) = 0 := by omega
          have hkb : ((k : Int) == 0) = false := beq_eq_false_iff_ne.2 hkn
          have iz := HK.out h1 HKS.out.1
          have hcn : ¬ (c0 : Int) = 48 := by omega
          have hcb : ((c0 : Int) == 48) = false := beq_eq_false_iff_ne.2 hcn
          have hn1 : ¬ (n : Int) < 1 := by omega
          have hn2 : ¬ (1000 : Int) < (n : Int) := by omega
          obtain ⟨rfl, rfl⟩ : ra = n ∧ rb = k := by cases h5; exact ⟨rfl, rfl⟩
          go_wp2_with fail
          refine bodyPost_ret (results_tmp2 rfl _ _ _) rfl ?_
          unfold DgPost
          rw [HRA.out]
          exact ⟨rfl, rfl⟩
      · have j1 : (k : Int) < (s.size : Int) := by omega
        have j2 : (k : Int) < 5 := by omega
        have ix := HX.out h
        have j3 : ¬ (48 : Int) ≤ (ck : Int) := by omega
        try clear h
        try clear h'
        go_upto_region 6 with fail
        clear ix
        rcases HR.out with ⟨h1, h2⟩ | ⟨h1, h2, h3⟩ | ⟨h1, h2, h3, h4⟩ | ⟨h1, h2, h3, h4, h5⟩ | ⟨h1, h2, h3, h4, h5⟩
        · subst h1
          obtain ⟨rfl, rfl⟩ : ra = 0 ∧ rb = 0 := by cases h2; exact ⟨rfl, rfl⟩
          go_wp2_with fail
          refine bodyPost_ret (results_tmp2 rfl _ _ _) rfl ?_
          unfold DgPost
          rw [HRA.out]
          exact ⟨rfl, rfl⟩
        · have hkn : ¬ (k : Int) = 0 := by omega
          have hkb : ((k : Int) == 0) = false := beq_eq_false_iff_ne.2 hkn
          have iz := HK.out h1 HKS.out.1
          subst h2
          obtain ⟨rfl, rfl⟩ : ra = 0 ∧ rb = 0 := by cases h3; exact ⟨rfl, rfl⟩
          go_wp2_with fail
          refine bodyPost_ret (results_tmp2 rfl _ _ _) rfl ?_
          unfold DgPost
          rw [HRA.out]
          exact ⟨rfl, rfl⟩
        · have hkn : ¬ (k : Int) = 0 := by omega
          have hkb : ((k : Int) == 0) = false := beq_eq_false_iff_ne.2 hkn
          have iz := HK.out h1 HKS.out.1
          have hcn : ¬ (c0 : Int) = 48 := by omega
          have hcb : ((c0 : Int) == 48) = false := beq_eq_false_iff_ne.2 hcn
          have hn1 : (n : Int) < 1 := by omega
          obtain ⟨rfl, rfl⟩ : ra = 0 ∧ rb = 0 := by cases h4; exact ⟨rfl, rfl⟩
          go_wp2_with fail
          refine bodyPost_ret (results_tmp2 rfl _ _ _) rfl ?_
          unfold DgPost
          rw [HRA.out]
          exact ⟨rfl, rfl⟩
        · have hkn : ¬ (k : Int) = 0 := by omega
          have hkb : ((k : Int) == 0) = false := beq_eq_false_iff_ne.2 hkn
          have iz := HK.out h1 HKS.out.1
          have hcn : ¬ (c0 : Int) = 48 := by omega
          have hcb : ((c0 : Int) == 48) = false := beq_eq_false_iff_ne.2 hcn
          have hn1 : ¬ (n : Int) < 1 := by omega
          have hn2 : (1000 : Int) < (n : Int) := by omega
          obtain ⟨rfl, rfl⟩ : ra = 0 ∧ rb = 0 := by cases h5; exact ⟨rfl, rfl⟩
          go_wp2_with fail
          refine bodyPost_ret (results_tmp2 rfl _ _ _) rfl ?_
          unfold DgPost
          rw [HRA.out]
          exact ⟨rfl, rfl⟩
        · have hkn : ¬ (k : Int) = 0 := by omega
          have hkb : ((k : Int) == 0) = false := beq_eq_false_iff_ne.2 hkn
          have iz := HK.out h1 HKS.out.1
          have hcn : ¬ (c0 : Int) = 48 := by omega
          have hcb : ((c0 : Int) == 48) = false := beq_eq_false_iff_ne.2 hcn
          have hn1 : ¬ (n : Int) < 1 := by omega
          have hn2 : ¬ (1000 : Int) < (n : Int) := by omega
          obtain ⟨rfl, rfl⟩ : ra = n ∧ rb = k := by cases h5; exact ⟨rfl, rfl⟩
          go_wp2_with fail
          refine bodyPost_ret (results_tmp2 rfl _ _ _) rfl ?_
          unfold DgPost
          rw [HRA.out]
          exact ⟨rfl, rfl⟩
      · have j1 : (k : Int) < (s.size : Int) := by omega
        have j2 : (k : Int) < 5 := by omega
        have ix := HX.out h
        have j3 : (48 : Int) ≤ (ck : Int) := by omega
        have j4 : ¬ (ck : Int) ≤ 57 := by omega
        try clear h
        try clear h'
        go_upto_region 6 with fail
        clear ix
        rcases HR.out with ⟨h1, h2⟩ | ⟨h1, h2, h3⟩ | ⟨h1, h2, h3, h4⟩ | ⟨h1, h2, h3, h4, h5⟩ | ⟨h1, h2, h3, h4, h5⟩
        · subst h1
          obtain ⟨rfl, rfl⟩ : ra = 0 ∧ rb = 0 := by cases h2; exact ⟨rfl, rfl⟩
          go_wp2_with fail
          refine bodyPost_ret (results_tmp2 rfl _ _ _) rfl ?_
          unfold DgPost
          rw [HRA.out]
          exact ⟨rfl, rfl⟩
        · have hkn : ¬ (k : Int) = 0 := by omega
          have hkb : ((k : Int) == 0) = false := beq_eq_false_iff_ne.2 hkn
          have iz := HK.out h1 HKS.out.1
          subst h2
          obtain ⟨rfl, rfl⟩ : ra = 0 ∧ rb = 0 := by cases h3; exact ⟨rfl, rfl⟩
          go_wp2_with fail
          refine bodyPost_ret (results_tmp2 rfl _ _ _) rfl ?_
          unfold DgPost
          rw [HRA.out]
          exact ⟨rfl, rfl⟩
        · have hkn : ¬ (k : Int) = 0 := by omega
          have hkb : ((k : Int) == 0) = false := beq_eq_false_iff_ne.2 hkn
          have iz := HK.out h1 HKS.out.1
          have hcn : ¬ (c0 : Int) = 48 := by omega
          have hcb : ((c0 : Int) == 48) = false := beq_eq_false_iff_ne.2 hcn
          have hn1 : (n : Int) < 1 := by omega
          obtain ⟨rfl, rfl⟩ : ra = 0 ∧ rb = 0 := by cases h4; exact ⟨rfl, rfl⟩
          go_wp2_with fail
          refine bodyPost_ret (results_tmp2 rfl _ _ _) rfl ?_
          unfold DgPost
          rw [HRA.out]
          exact ⟨rfl, rfl⟩
        · have hkn : ¬ (k : Int) = 0 := by omega
          have hkb : ((k : Int) == 0) = false := beq_eq_false_iff_ne.2 hkn
          have iz := HK.out h1 HKS.out.1
          have hcn : ¬ (c0 : Int) = 48 := by omega
          have hcb : ((c0 : Int) == 48) = false := beq_eq_false_iff_ne.2 hcn
          have hn1 : ¬ (n : Int) < 1 := by omega
          have hn2 : (1000 : Int) < (n : Int) := by omega
          obtain ⟨rfl, rfl⟩ : ra = 0 ∧ rb = 0 := by cases h5; exact ⟨rfl, rfl⟩
          go_wp2_with fail
          refine bodyPost_ret (results_tmp2 rfl _ _ _) rfl ?_
          unfold DgPost
          rw [HRA.out]
          exact ⟨rfl, rfl⟩
        · have hkn : ¬ (k : Int) = 0 := by omega
          have hkb : ((k : Int) == 0) = false := beq_eq_false_iff_ne.2 hkn
          have iz := HK.out h1 HKS.out.1
          have hcn : ¬ (c0 : Int) = 48 := by omega
          have hcb : ((c0 : Int) == 48) = false := beq_eq_false_iff_ne.2 hcn
          have hn1 : ¬ (n : Int) < 1 := by omega
          have hn2 : ¬ (1000 : Int) < (n : Int) := by omega
          obtain ⟨rfl, rfl⟩ : ra = n ∧ rb = k := by cases h5; exact ⟨rfl, rfl⟩
          go_wp2_with fail
          refine bodyPost_ret (results_tmp2 rfl _ _ _) rfl ?_
          unfold DgPost
          rw [HRA.out]
          exact ⟨rfl, rfl⟩
    · have hk1 : k < s.size := Nat.lt_of_le_of_ne hk fun e => hend (.inl e)
      have hk2 : k < 5 := Nat.lt_of_le_of_ne hk5 fun e => hend (.inr (.inl e))
      have hdk : dig ((bL s).getD k 0) = true := by
        cases h : dig ((bL s).getD k 0) with
        | true => rfl
        | false => exact absurd (.inr (.inr ⟨hk1, hk2, h⟩)) hend
      have hd2 := of_decide_eq_true hdk
      have ix := fun wx => idxA s k hk1 wx
      have hkB : k < (bL s).length := by rw [HBL.out]; exact hk1
      have hvt := vl_take (bL s) k hkB
      have hst := dg_step (bL s) k hkB hk2
      rw [if_pos hdk] at hst
      have hvs := vl_small _ HI.out.2
      rw [List.length_take, HBL.out] at hvs
      have hv5 : vlA ((bL s).take k) < 100000 := Nat.lt_of_lt_of_le hvs (Nat.le_trans (Nat.pow_le_pow_right (by omega) (show min k s.size ≤ 5 by omega)) (by decide))
      have HN : Hid (dgA (bL s) = (bL s).take (k + 1) ++ (((bL s).drop (k + 1)).take (5 - (k + 1))).takeWhile dig ∧ ∀ c ∈ (bL s).take (k + 1), dig c = true) := Lib.hid (by
        have e : (bL s).take (k + 1) = (bL s).take k ++ [(bL s).getD k 0] := by
          rw [List.take_add_one, List.getElem?_eq_getElem hkB, List.getD, List.getElem?_eq_getElem hkB]; rfl
        rw [e]
        refine ⟨by rw [HI.out.1, hst, List.append_assoc]; rfl, fun c hc => ?_⟩
        rcases List.mem_append.1 hc with hc | hc
        · exact HI.out.2 c hc
        · rw [List.mem_singleton] at hc; rw [hc]; exact hdk)
      obtain ⟨ck, hck⟩ : ∃ ck, ((bL s).getD k 0).toNat = ck := ⟨_, rfl⟩
      obtain ⟨n, hn⟩ : ∃ n, vlA ((bL s).take k) = n := ⟨_, rfl⟩
      rw [hck] at ix hd2 hvt
      rw [hn] at hvt hv5 ⊢
      have i1 : (k : Int) < (s.size : Int) := by omega
      have i2 : (k : Int) < 5 := by omega
      have i3 : (48 : Int) ≤ (ck : Int) := by omega
      have i4 : (ck : Int) ≤ 57 := by omega
      have i5 : (n : Int) < 100000 := by omega
      have HV := Lib.hid hvt
      have HKK := Lib.hid (And.intro hk1 hk2)
      clear hend hdk hkB hst hvs hck hn hvt HI hk hk5 hk1 hk2
      go_wp2_with fail
      go_roundw
      case rel => exact ⟨k + 1, by have := HKK.out.1; omega, by have := HKK.out.2; omega, by (rw [HV.out]; go_num), by go_num, HN, trivial⟩
      case measure => (have := HKK.out.2; simp [intOf]; try omega)
end Go.Proofs.YtmnjafceenckpaaDoor
set_option linter.unusedVariables false
set_option linter.unusedSimpArgs false
namespace Go.Proofs.YtmnjafceenckpaaDoor
open Go.RowKit
theorem ows_keepA {w w' : World} {B : Nat} {v : Value} {L : List (Int × Int)} (h : OwS w B v L) (hb : Below w.heap.size w w') : OwS w' B v L := own_below h hb
theorem owsA_mono {w : World} {B B' : Nat} {v : Value} {L : List (Int × Int)} (h : OwS w B v L) (hB : B' ≤ B) : OwS w B' v L := by
  refine ⟨h.1, ?_⟩
  rcases h.2 with h1 | ⟨g, cap, cur, h1, h2, h3⟩
  · exact .inl h1
  · exact .inr ⟨g, cap, cur, h1, Nat.le_trans hB h2, h3⟩
def sO0 (s : ByteArray) : List (Int × Int) := (valsS s).map fun v => (v, 0)
set_option maxHeartbeats 4000000 in
theorem rof0_ref (s : ByteArray) (n : Nat) (w : World) (hs : s.size ≤ 4096) (hn : (sO0 s).length = n) :
    Calls Tryd.prog 36 #[.int .i64 0, .string s] w fun e w' => ∃ b d, e = .returned (.slice b n d) ∧ OwS w' w.heap.size (.slice b n d) (sO0 s) ∧ Below w.heap.size w w' := by
  have hl := valsS_len s
  have D := Lib.hid (decode_ref s w (by omega))
  have hso : sO0 s = (valsS s).map fun v => (v, 0) := rfl
  have hvn : (valsS s).length = n := by rw [← hn, hso, List.length_map]
  have HSO := Lib.hid hso
  have hn2 : n ≤ 4096 := by omega
  generalize valsS s = l at *
  rw [hso]
  have HVN := Lib.hid hvn
  clear hso hn hl hvn
  go_enter Tryd.func36, Tryd.ntmps36
  go_wp2_with (go_at_call 56; refine D.out.mono ?_; rintro e w1 ⟨v, rfl, hown, hb1⟩; obtain ⟨a, cap, rfl, hr⟩ := own_row hown; rw [HVN.out]; have HR := Lib.hid hr; have N1 := Lib.hid hb1; clear hr hown hb1 D)
  go_loopw [6, 7] (fun ov iv wr => ∃ k : Nat, k ≤ n ∧ iv = .int .i64 (k : Int) ∧ Hid (OwS wr w1.heap.size ov ((l.take k).map fun v => (v, 0))) ∧ Hid (Below w1.heap.size w1 wr)) (fun _ iv _ => n - (intOf iv).toNat)
  case atStart => exact ⟨0, Nat.zero_le _, rfl, Lib.hid (World.ownsRow_nil _ _ _ _), Lib.hid (Below.refl _ _)⟩
  case round =>
    obtain ⟨k, hk, rfl, hO, hb⟩ := hrel
    by_cases hlt : k < n
    · obtain ⟨b, off, rfl, c1, hblk⟩ := (HR.out.below hb.out) k (by rw [HVN.out]; exact hlt)
      have hk1 : (k : Int) < n := by omega
      have hk0 : (0 : Int) ≤ k := by omega
      have hnext : ((l.take (k + 1)).map fun v => ((v, 0) : Int × Int)) = ((l.take k).map fun v => ((v, 0) : Int × Int)) ++ [(l.getD k 0, 0)] := by
        rw [List.take_add_one, List.getElem?_eq_getElem (by rw [HVN.out]; exact hlt), List.map_append]
        simp [List.getD, List.getElem?_eq_getElem (show k < l.length by rw [HVN.out]; exact hlt)]
      have hlen : ((l.take k).map fun v => ((v, 0) : Int × Int)).length = k := by have := HVN.out; simp; omega
      have Hn := Lib.hid hnext
      have Hl := Lib.hid hlen
      have BA := fun o => below_alloc wr o
      generalize l.getD k 0 = v at *
      generalize ((l.take k).map fun v => ((v, 0) : Int × Int)) = Y at *
      have O1 := Lib.hid (ows_keepA hO.out (BA (.cells #[.int .i64 v, .int .i64 0] 84)))
      have M1 := Lib.hid (seqB hb.out (BA (.cells #[.int .i64 v, .int .i64 0] 84)))
      have S1 := Lib.hid (show Signs (wr.alloc (.cells #[.int .i64 v, .int .i64 0] 84)) (some ⟨wr.heap.size, 0, none⟩) [(v, 0)] from signs_new wr [(v, 0)] 84)
      obtain ⟨ay, cy, rfl⟩ := hO.out.form Hl.out
      clear hnext hlen hO hb BA
      go_wp2_with (at_builtin; refine wpList_app_signs rfl _ _ rfl w1.heap.size _ k Y rfl Hl.out O1.out (some ⟨wr.heap.size, 0, none⟩) 1 1 [(v, 0)] rfl rfl S1.out (fun e => (by cases e)) ?g3 ?g4 ?_)
      case g3 => omega
      case g4 => exact M1.out.size
      intro ad5 c5 w5 hown5 hgrow5
      have N5 := Lib.hid (M1.out.grown hgrow5 M1.out.size (fun j hj => (O1.out.lt j hj).1))
      have HO := Lib.hid hown5
      clear hown5 hgrow5
      go_wp2
      go_roundw
      case rel => exact ⟨k + 1, by omega, by go_num, Lib.hid (by rw [Hn.out]; exact HO.out), N5⟩
      case measure => (simp [intOf]; try omega)
    · obtain rfl : k = n := by omega
      rw [List.take_of_length_le (by rw [HVN.out]; exact Nat.le_refl _)] at hO
      have hO2 := Lib.hid (owsA_mono hO.out N1.out.size)
      obtain ⟨ad, cd, rfl⟩ := hO.out.form (n := k) (by rw [List.length_map, HVN.out])
      have hkl : ¬ (k : Int) < k := by omega
      have NB := Lib.hid (seqB N1.out hb.out)
      clear hO
      go_wp2
      go_ret
      exact ⟨_, _, rfl, hO2.out, NB.out⟩
set_option maxHeartbeats 4000000 in
theorem aat_in (l m : List (Int × Int)) (a b : Option Addr) (n k c d : Nat) (w : World) (hn : l.length = n) (hk : m.length = k) (hl : n ≤ 1000000) (hkn : k ≤ n) (hs : Signs w a l) (ht : Signs w b m) :
    Calls Tryd.prog 35 #[.slice a n c, .slice b k d, .int .i64 0] w fun e w' => e = .returned (.bool (decide (k ≤ cmn (vsL m) (vsL l)))) ∧ Below w.heap.size w w' := by
  have HS := Lib.hid hs; have HT := Lib.hid ht; have HN := Lib.hid hn; have HK := Lib.hid hk
  have h0 : ¬ (n : Int) < k := by omega
  clear hs ht hn hk
  go_enter Tryd.func35, Tryd.ntmps35
  go_wp2_with fail
  go_loopw [7] (fun iv wr => ∃ j : Nat, j ≤ k ∧ iv = .int .i64 (j : Int) ∧ Hid (∀ i, i < j → (vsL m).getD i 0 = (vsL l).getD i 0) ∧ Hid (Below w.heap.size w wr)) (fun iv _ => k - (intOf iv).toNat)
  case atStart => exact ⟨0, Nat.zero_le _, rfl, Lib.hid (fun i hi => absurd hi (Nat.not_lt_zero i)), Lib.hid (Below.refl _ _)⟩
  case round =>
    obtain ⟨j, hj, rfl, HE, HB⟩ := hrel
    by_cases hlt : j < k
    · have hj1 : (j : Int) < k := by omega
      have hj0 : (0 : Int) ≤ j := by omega
      have hjn : (j : Int) < n := by omega
      obtain ⟨ba, oa, rfl, _, c1, _⟩ := (HS.out.below HB.out) j (by rw [HN.out]; omega)
      obtain ⟨bb, ob, rfl, _, d1, _⟩ := (HT.out.below HB.out) j (by rw [HK.out]; exact hlt)
      have hva := vsL_at l j (by rw [HN.out]; omega)
      have hvb := vsL_at m j (by rw [HK.out]; exact hlt)
      obtain ⟨v, hv⟩ : ∃ v, (l.getD j (0, 0)).1 = v := ⟨_, rfl⟩
      obtain ⟨u, hu⟩ : ∃ u, (m.getD j (0, 0)).1 = u := ⟨_, rfl⟩
      rw [hv] at c1 hva
      rw [hu] at d1 hvb
      have HVA := Lib.hid hva
      have HVB := Lib.hid hvb
      clear hv hu hva hvb
      by_cases e : v = u
      · subst e
        go_wp2_with fail
        go_quiet (fail)
        go_wp2_with fail
        go_roundw
        case rel =>
          refine ⟨j + 1, by omega, by go_num, Lib.hid (fun i hi => ?_), Lib.hid (drewN_below HB.out _)⟩
          by_cases e : i = j
          · rw [e, HVA.out, HVB.out]
          · exact HE.out i (by omega)
        case measure => (simp [intOf]; try omega)
      · have he2 : ¬ v = u := e
        have heb : (v == u) = false := beq_eq_false_iff_ne.2 e
        go_wp2_with fail
        go_quiet (fail)
        go_wp2_with fail
        go_ret
        refine ⟨?_, drewN_below HB.out _⟩
        have : cmn (vsL m) (vsL l) = j := cmn_is _ _ j (by rw [vsL_len, HK.out]; omega) (by rw [vsL_len, HN.out]; omega) HE.out (Or.inr (Or.inr (by rw [HVA.out, HVB.out]; exact fun h => he2 h.symm)))
        rw [this, decide_eq_false (by omega)] <;> rfl
    · obtain rfl : j = k := by omega
      have hj1 : ¬ (j : Int) < j := by omega
      go_wp2_with fail
      go_ret
      refine ⟨?_, HB.out⟩
      have : cmn (vsL m) (vsL l) = j := cmn_is _ _ j (by rw [vsL_len, HK.out]; omega) (by rw [vsL_len, HN.out]; omega) HE.out (Or.inl (by rw [vsL_len, HK.out]))
      rw [this, decide_eq_true (Nat.le_refl _)] <;> rfl
theorem aat_long (a b : Option Addr) (n k c d : Nat) (w : World) (hkn : n < k) (hl : n ≤ 1000000) :
    Calls Tryd.prog 35 #[.slice a n c, .slice b k d, .int .i64 0] w fun e w' => e = .returned (.bool false) ∧ Below w.heap.size w w' := by
  have h0 : (n : Int) < k := by omega
  go_enter Tryd.func35, Tryd.ntmps35
  go_wp2_with fail
  go_ret
  exact ⟨rfl, Below.refl _ _⟩
/-- Does a text begin with a short one? By values, by bytes. -/
theorem cmn_pre : ∀ (l : List UInt8) (t : ByteArray), (∀ c ∈ l, c.toNat < 128) → (l.length ≤ cmn (l.map fun c => (c.toNat : Int)) (valsS t) ↔ l.isPrefixOf (bL t) = true)
  | [], t, _ => by simp
  | c :: l, t, h => by
    by_cases ht : 0 < t.size
    · have hc := h c List.mem_cons_self
      rw [valsS_cons t ht, List.map_cons]
      show (l.length + 1 ≤ (if (c.toNat : Int) = ((vAt t 0).1 : Int) then cmn _ _ + 1 else 0)) ↔ _
      have hb : ∃ x y, bL t = x :: y ∧ x = t.get! 0 := by
        cases hy : bL t with
        | nil => have := bL_len t; rw [hy] at this; simp at this; omega
        | cons x y => exact ⟨x, y, rfl, by rw [get_bL t 0 ht, hy]; rfl⟩
      obtain ⟨x, y, hxy, hx⟩ := hb
      rw [hxy]
      show _ ↔ (c == x && l.isPrefixOf y) = true
      have h1 := enc_vals t
      rw [valsS_cons t ht, encI_cons, bytesOf_bL, hxy, List.map_cons] at h1
      by_cases he : (c.toNat : Int) = ((vAt t 0).1 : Int)
      · rw [if_pos he]
        have hp : ptB ((vAt t 0).1 : Int) = true := by rw [ptB_iff]; omega
        have ho : oneI ((vAt t 0).1 : Int) = [((vAt t 0).1 : Int)] := by
          rw [oneI_pt hp, Lib.encodeRuneZ_one (by omega) (by omega)]
        rw [ho] at h1
        have hx2 := (List.cons.inj h1).1
        have hcx : c = x := by
          have : c.toNat = x.toNat := by omega
          exact UInt8.toNat_inj.1 this
        have hv1 : (vAt t 0).2 = 1 := by rw [vAt_low t (by rw [← hx, ← hcx]; exact hc)]
        rw [hv1]
        have hy : bL (t.extract 1 t.size) = y := by rw [bL_ext, List.take_of_length_le (by rw [bL_len]; exact Nat.le_refl _), hxy]; rfl
        have ih := cmn_pre l (t.extract 1 t.size) (fun d hd => h d (List.mem_cons_of_mem _ hd))
        rw [hy] at ih
        rw [beq_iff_eq.2 hcx, Bool.true_and, ← ih]
        omega
      · rw [if_neg he]
        have hcx : (c == x) = false := beq_eq_false_iff_ne.2 fun e => he (by
          rw [vAt_low t (by rw [← hx, ← e]; exact hc), ← hx, e])
        rw [hcx, Bool.false_and]
        simp
    · rw [valsS_nil t ht]
      have hz : bL t = [] := List.eq_nil_of_length_eq_zero (by rw [bL_len]; omega)
      rw [hz]
      simp [cmn, List.isPrefixOf]
theorem vsL_sO0 (s : ByteArray) : vsL (sO0 s) = valsS s := by unfold vsL sO0; rw [List.map_map]; exact List.map_id _
/-- R04.At of two texts' signs. -/
theorem aat_any (t : ByteArray) (l : List UInt8) (h : ∀ c ∈ l, c.toNat < 128) (a b : Option Addr) (n k c d B B' : Nat) (w : World) (hn : (sO0 t).length = n) (hk : (sO0 (mkB l)).length = k) (hl : n ≤ 1000000) (hs : OwS w B (.slice a n c) (sO0 t)) (ht : OwS w B' (.slice b k d) (sO0 (mkB l))) (hv : valsS (mkB l) = l.map fun c => (c.toNat : Int)) :
    Calls Tryd.prog 35 #[.slice a n c, .slice b k d, .int .i64 0] w fun e w' => e = .returned (.bool (l.isPrefixOf (bL t))) ∧ Below w.heap.size w w' := by
  have hkl : k = l.length := by rw [← hk]; unfold sO0; rw [hv]; simp
  by_cases hkn : k ≤ n
  · obtain ⟨a', c', e, h1⟩ := hs.sl
    injection e with e1 e2 e3
    subst e1; subst e3
    obtain ⟨b', d', e, h2⟩ := ht.sl
    injection e with e1 e2 e3
    subst e1; subst e3
    refine (aat_in (sO0 t) (sO0 (mkB l)) a b n k c d w hn hk hl hkn h1.s h2.s).mono ?_
    rintro e w' ⟨rfl, hb⟩
    refine ⟨?_, hb⟩
    rw [vsL_sO0, vsL_sO0, hv, hkl]
    have := cmn_pre l t h
    cases hh : l.isPrefixOf (bL t) with
    | true => rw [decide_eq_true (this.2 hh)]
    | false => rw [decide_eq_false (fun e => by rw [this.1 e] at hh; cases hh)]
  · refine (aat_long a b n k c d w (by omega) hl).mono ?_
    rintro e w' ⟨rfl, hb⟩
    refine ⟨?_, hb⟩
    have := cmn_pre l t h
    cases hh : l.isPrefixOf (bL t) with
    | false => rfl
    | true =>
      exfalso
      have h3 := this.2 hh
      have h4 : ∀ (x y : List Int), cmn x y ≤ y.length := fun x => by
        induction x with
        | nil => intro y; exact Nat.zero_le _
        | cons p x ih =>
          intro y
          cases y with
          | nil => exact Nat.zero_le _
          | cons q y =>
            show (if p = q then cmn x y + 1 else 0) ≤ y.length + 1
            split
            · have := ih y; omega
            · omega
      have h5 := h4 (l.map fun c => (c.toNat : Int)) (valsS t)
      have h6 : (valsS t).length = n := by rw [← hn]; unfold sO0; simp
      omega
end Go.Proofs.YtmnjafceenckpaaDoor
set_option linter.unusedVariables false
set_option linter.unusedSimpArgs false
namespace Go.Proofs.YtmnjafceenckpaaDoor
open Go.RowKit
theorem fnd_some (T : List UInt8) (i : Nat) (hi : i < litsA.length) (h : ∀ j, j < i → (litsA.getD j []).isPrefixOf T = false) (h2 : (litsA.getD i []).isPrefixOf T = true) : pcC T = 2 + (litsA.getD i []).length := by
  have key : ∀ (L : List (List UInt8)) (i : Nat), i < L.length → (∀ j, j < i → (L.getD j []).isPrefixOf T = false) → (L.getD i []).isPrefixOf T = true → L.find? (fun l => l.isPrefixOf T) = some (L.getD i []) := by
    intro L
    induction L with
    | nil => intro i hi; simp at hi
    | cons x L ih =>
      intro i hi h1 h2
      cases i with
      | zero =>
        have h2 : x.isPrefixOf T = true := h2
        rw [List.find?_cons, h2]; rfl
      | succ i =>
        have h0 : x.isPrefixOf T = false := h1 0 (Nat.zero_lt_succ _)
        rw [List.find?_cons, h0]
        exact ih i (Nat.lt_of_succ_lt_succ hi) (fun j hj => h1 (j + 1) (Nat.succ_lt_succ hj)) h2
  unfold pcC
  rw [key litsA i hi h h2]
theorem fnd_none (T : List UInt8) (h : ∀ j, j < 12 → (litsA.getD j []).isPrefixOf T = false) : pcC T = mvR T := by
  have : litsA.find? (fun l => l.isPrefixOf T) = none := by
    rw [List.find?_eq_none]
    intro l hl
    obtain ⟨j, hj, rfl⟩ := List.getElem_of_mem hl
    have := h j hj
    rw [List.getD, List.getElem?_eq_getElem hj] at this
    have this : litsA[j].isPrefixOf T = false := this
    rw [this]; decide
  unfold pcC
  rw [this]
theorem enc_asciiA : ∀ l : List UInt8, (∀ c ∈ l, c.toNat < 128) → encI (l.map fun c => (c.toNat : Int)) = l.map fun c => (c.toNat : Int)
  | [], _ => rfl
  | c :: l, h => by
    have hc := h c List.mem_cons_self
    rw [List.map_cons, encI_cons, enc_asciiA l fun d hd => h d (List.mem_cons_of_mem _ hd)]
    have hp : ptB (c.toNat : Int) = true := (ptB_iff _).2 (Or.inl ⟨by omega, by omega⟩)
    rw [oneI_pt hp]
    unfold Lib.encodeRuneZ
    rw [if_pos (by omega)]; rfl
theorem vals_asciiA (l : List UInt8) (h : ∀ c ∈ l, c.toNat < 128) : valsS (mkB l) = l.map fun c => (c.toNat : Int) := by
  have e : mkB l = encS (l.map fun c => (c.toNat : Int)) := by
    unfold encS
    rw [enc_asciiA l h, ← txt_bytesOf (mkB l), bytesOf_bL, bL_mkB]
  rw [e]
  refine valsS_enc _ fun v hv => ?_
  obtain ⟨c, hc, rfl⟩ := List.mem_map.1 hv
  have := h c hc
  exact (ptB_iff _).2 (Or.inl ⟨by omega, by omega⟩)
theorem lits_asc : ∀ j : Fin 12, (∀ c ∈ litsA.getD j.val [], c.toNat < 128) ∧ valsS (mkB (litsA.getD j.val [])) = (litsA.getD j.val []).map (fun c => (c.toNat : Int)) ∧ (litsA.getD j.val []).length ≤ 12 := by
  intro j
  have h1 : ∀ j : Fin 12, ((litsA.getD j.val []).all (fun c => decide (c.toNat < 128)) = true) ∧ (litsA.getD j.val []).length ≤ 12 := by decide +kernel
  have h2 : ∀ c ∈ litsA.getD j.val [], c.toNat < 128 := fun c hc => by simpa using List.all_eq_true.1 (h1 j).1 c hc
  exact ⟨h2, vals_asciiA _ h2, (h1 j).2⟩
/-- What pcR is, way by way. -/
theorem pcR_ways (s : ByteArray) : ((s.get! 0).toNat = 7 ∨ (s.get! 0).toNat = 10 ∨ (s.get! 0).toNat = 13 → pcR s = 1) ∧ (¬ ((s.get! 0).toNat = 7 ∨ (s.get! 0).toNat = 10 ∨ (s.get! 0).toNat = 13) → (shwB (vAt s 0).1 = true → pcR s = (vAt s 0).2) ∧ (¬ shwB (vAt s 0).1 = true → (Lib.hasPrefix (bL s) [27, 91] = false → pcR s = 0) ∧ (Lib.hasPrefix (bL s) [27, 91] = true → pcR s = pcC ((bL s).drop 2)))) := by
  unfold pcR
  refine ⟨fun h => by rw [if_pos h], fun h => ⟨fun h2 => by rw [if_neg h, if_pos h2], fun h2 => ⟨fun h3 => by rw [if_neg h, if_neg h2, if_neg (by rw [h3]; decide)], fun h3 => by rw [if_neg h, if_neg h2, if_pos h3]⟩⟩⟩
theorem pcC_nil : pcC [] = 0 := by decide +kernel
/-- A text begins with two bytes. -/
theorem pre2A {s : ByteArray} (h : 2 ≤ s.size) : Lib.hasPrefix (bL s) [27, 91] = (decide ((s.get! 0).toNat = 27) && decide ((s.get! 1).toNat = 91)) := by
  obtain ⟨x, y, l, hx⟩ : ∃ x y l, bL s = x :: y :: l := by
    cases hb : bL s with
    | nil => have := bL_len s; rw [hb] at this; simp at this; omega
    | cons x l =>
      cases l with
      | nil => have := bL_len s; rw [hb] at this; simp at this; omega
      | cons y l => exact ⟨x, y, l, rfl⟩
  have h0 : s.get! 0 = x := by rw [get_bL s 0 (by omega), hx]; rfl
  have h1 : s.get! 1 = y := by rw [get_bL s 1 (by omega), hx]; rfl
  have e : ∀ (a : UInt8) (n : UInt8), (n == a) = decide (a.toNat = n.toNat) := fun a n => by
    by_cases h : n = a
    · subst h; simp
    · have : ¬ a.toNat = n.toNat := fun e => h (UInt8.toNat_inj.1 e.symm)
      rw [decide_eq_false this]; exact beq_eq_false_iff_ne.2 h
  rw [hx, h0, h1]
  show ((27 == x) && ((91 == y) && true)) = _
  rw [Bool.and_true, e, e]; rfl
theorem pre_short {s : ByteArray} (h : s.size < 3) : (Lib.hasPrefix (bL s) [27, 91] = true → pcC ((bL s).drop 2) = 0) := fun _ => by
  rw [List.drop_of_length_le (by rw [bL_len]; omega)]; exact pcC_nil
end Go.Proofs.YtmnjafceenckpaaDoor
