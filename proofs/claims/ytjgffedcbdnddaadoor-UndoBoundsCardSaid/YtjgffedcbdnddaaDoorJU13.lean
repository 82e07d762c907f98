/-
  Joined: Ud26 Ud27 Ud28 Ud29.
-/
import Derived.Test.YtjgffedcbdnddaaDoorJU10
import Derived.Test.YtjgffedcbdnddaaDoorJU12
set_option linter.unusedVariables false
set_option linter.unusedSimpArgs false
set_option maxRecDepth 100000
set_option linter.unusedVariables false
set_option linter.unusedSimpArgs false
namespace Go.Proofs.YtjgffedcbdnddaaDoor
open Go.RowKit
theorem farT4 {w : World} {p q k : Nat} {u0 u1 u2 u3 : Value} (h : q ≠ p) : ((((w.setCell ⟨p, 0, none⟩ u0).setCell ⟨p, 1, none⟩ u1).setCell ⟨p, 2, none⟩ u2).setCell ⟨p, 3, none⟩ u3).cell? ⟨q, k, none⟩ = w.cell? ⟨q, k, none⟩ := by
  unfold World.cell?
  rw [Below.heap_setCell _ _ _ _ h, Below.heap_setCell _ _ _ _ h, Below.heap_setCell _ _ _ _ h, Below.heap_setCell _ _ _ _ h]
theorem two_newW (w : World) (c1 c2 : Array Value) (t1 t2 : TypeId) {W : World} (hW : (w.alloc (.cells c1 t1)).alloc (.cells c2 t2) = W) : W.heap[w.heap.size]? = some (.cells c1 t1 (0, 0)) ∧ W.heap[w.heap.size + 1]? = some (.cells c2 t2 (0, 0)) ∧ Below w.heap.size w W := by
  subst hW
  have s1 : (w.alloc (.cells c1 t1)).heap.size = w.heap.size + 1 := by simp
  have b1 := below_alloc w (.cells c1 t1)
  have b2 := below_alloc (w.alloc (.cells c1 t1)) (.cells c2 t2)
  have h1 := heap_alloc_new w (.cells c1 t1)
  have h2 := heap_alloc_new (w.alloc (.cells c1 t1)) (.cells c2 t2)
  rw [s1] at h2
  exact ⟨blk_below h1 b2, h2, seqB b1 b2⟩
section
variable {S : Nat → Prop} {xL : List Sn} {xi : Int} {xa pa la : Option Addr} {xn xc pn pc ln lc : Nat} {Ps Ls : List LnR} {w : World}
set_option maxHeartbeats 2000000 in
theorem rback_no : Calls Tryd.prog 18 #[tV xa xn xc xi pa 0 pc la ln lc] w fun e w' => e = .returned (.tuple #[tV xa xn xc xi pa 0 pc la ln lc, .bool false]) ∧ Below w.heap.size w w' := by
  obtain ⟨W, hW⟩ : ∃ W, (w.alloc (.cells #[.slice xa xn xc, .int .i64 xi, .slice pa 0 pc, .slice la ln lc] 33)).alloc (.cells #[.slice none 0 0, .int .i64 0, .slice none 0 0, .slice none 0 0] 33) = W := ⟨_, rfl⟩
  obtain ⟨r0, r1, rb⟩ := two_newW w _ _ _ _ hW
  obtain ⟨X, hX⟩ : ∃ X, w.heap.size = X := ⟨_, rfl⟩
  obtain ⟨Z, hZ⟩ : ∃ Z, X + 1 = Z := ⟨_, rfl⟩
  rw [hX] at r0
  rw [hX, hZ] at r1
  have R0 := Lib.hid r0; have R1 := Lib.hid r1; have RB := Lib.hid rb; have HX := Lib.hid hX; have HZ := Lib.hid hZ
  have a0 := cell_of_row _ _ 0 _ _ _ r0
  have a1 := cell_of_row _ _ 1 _ _ _ r0
  have a2 := cell_of_row _ _ 2 _ _ _ r0
  have a3 := cell_of_row _ _ 3 _ _ _ r0
  have zf := fun i => frozen_of_row _ Z i _ _ r1
  have e0 := cell_of_row _ _ 0 _ _ _ r1
  have e1 := cell_of_row _ _ 1 _ _ _ r1
  have e2 := cell_of_row _ _ 2 _ _ _ r1
  have e3 := cell_of_row _ _ 3 _ _ _ r1
  dsimp at a0 a1 a2 a3 e0 e1 e2 e3
  clear r0 r1 rb
  go_enter Tryd.func18, Tryd.ntmps18
  go_upto_region 1 with fail
  try rw [hW]
  clear hW hX hZ
  go_wp2
  generalize hWF : World.setCell _ _ _ = WF
  obtain ⟨g0, g1, g2, g3, gB, gO, gS⟩ := tfin (w := w) R1.out (by have := HZ.out; have := HX.out; omega) RB.out hWF
  refine bodyPost_ret (v := .tuple #[.agg #[.slice xa xn xc, .int .i64 xi, .slice pa 0 pc, .slice la ln lc], .bool false]) (by simp [results, Tryd.results18, go_sem, g0, g1, g2, g3]) rfl ?_
  exact ⟨rfl, gB⟩
set_option maxHeartbeats 2000000 in
theorem rforth_no : Calls Tryd.prog 19 #[tV xa xn xc xi pa pn pc la 0 lc] w fun e w' => e = .returned (.tuple #[tV xa xn xc xi pa pn pc la 0 lc, .bool false]) ∧ Below w.heap.size w w' := by
  obtain ⟨W, hW⟩ : ∃ W, (w.alloc (.cells #[.slice xa xn xc, .int .i64 xi, .slice pa pn pc, .slice la 0 lc] 33)).alloc (.cells #[.slice none 0 0, .int .i64 0, .slice none 0 0, .slice none 0 0] 33) = W := ⟨_, rfl⟩
  obtain ⟨r0, r1, rb⟩ := two_newW w _ _ _ _ hW
  obtain ⟨X, hX⟩ : ∃ X, w.heap.size = X := ⟨_, rfl⟩
  obtain ⟨Z, hZ⟩ : ∃ Z, X + 1 = Z := ⟨_, rfl⟩
  rw [hX] at r0
  rw [hX, hZ] at r1
  have R0 := Lib.hid r0; have R1 := Lib.hid r1; have RB := Lib.hid rb; have HX := Lib.hid hX; have HZ := Lib.hid hZ
  have a0 := cell_of_row _ _ 0 _ _ _ r0
  have a1 := cell_of_row _ _ 1 _ _ _ r0
  have a2 := cell_of_row _ _ 2 _ _ _ r0
  have a3 := cell_of_row _ _ 3 _ _ _ r0
  have zf := fun i => frozen_of_row _ Z i _ _ r1
  have e0 := cell_of_row _ _ 0 _ _ _ r1
  have e1 := cell_of_row _ _ 1 _ _ _ r1
  have e2 := cell_of_row _ _ 2 _ _ _ r1
  have e3 := cell_of_row _ _ 3 _ _ _ r1
  dsimp at a0 a1 a2 a3 e0 e1 e2 e3
  clear r0 r1 rb
  go_enter Tryd.func19, Tryd.ntmps19
  go_upto_region 1 with fail
  try rw [hW]
  clear hW hX hZ
  go_wp2
  generalize hWF : World.setCell _ _ _ = WF
  obtain ⟨g0, g1, g2, g3, gB, gO, gS⟩ := tfin (w := w) R1.out (by have := HZ.out; have := HX.out; omega) RB.out hWF
  refine bodyPost_ret (v := .tuple #[.agg #[.slice xa xn xc, .int .i64 xi, .slice pa pn pc, .slice la 0 lc], .bool false]) (by simp [results, Tryd.results19, go_sem, g0, g1, g2, g3]) rfl ?_
  exact ⟨rfl, gB⟩
set_option maxHeartbeats 4000000 in
theorem rback_yes {r : LnR} {n rn : Nat} (hx : SlS S w xa xL xc) (hp : LnsR S w pa pc (Ps ++ [r])) (hl : LnsR S w la lc Ls) (hpn : Ps.length = n) (hln : Ls.length = ln) (hS : ∀ k, S k → k < w.heap.size) (hxn : xL.length = xn) (hrn : r.1.1.length = rn) (hb : ln ≤ 10000) (hn1 : n ≤ 10000) {p : Nat} (hpp : n + 1 = p) :
    Calls Tryd.prog 18 #[tV xa xn xc xi pa p pc la ln lc] w fun e w' => ∃ la' lc', e = .returned (.tuple #[tV r.2.1 rn r.2.2 r.1.2 pa n pc la' (ln + 1) lc', .bool true]) ∧ LnsR (fun k => S k ∨ (w.heap.size ≤ k ∧ k < w'.heap.size)) w' pa pc Ps ∧ LnsR (fun k => S k ∨ (w.heap.size ≤ k ∧ k < w'.heap.size)) w' la' lc' (Ls ++ [((xL, xi), (xa, xc))]) ∧ Below w.heap.size w w' := by
  obtain ⟨⟨rL, ri⟩, ⟨ra, rc⟩⟩ := r
  dsimp only at *
  obtain ⟨gb, off, rfl, hSg, hgl, t0, t1⟩ := hp.last hpn
  dsimp only at t0 t1
  rw [hrn] at t0
  have hM := hp.pop
  have hle := hp.le
  rw [List.length_append, List.length_singleton, hpn] at hle
  have hcut : ∀ w : World, (Instr.slice 31 (.slice (some ⟨gb, off, none⟩) p pc) none (some (.int .i64 (n : Int))) none).run Tryd.prog w = .ok (.slice (some ⟨gb, off, none⟩) n pc) w := fun w => by
    rw [← hpp]; exact run_popL w gb off n pc (by omega) (by omega)
  obtain ⟨W, hW⟩ : ∃ W, (w.alloc (.cells #[.slice xa xn xc, .int .i64 xi, .slice (some ⟨gb, off, none⟩) p pc, .slice la ln lc] 33)).alloc (.cells #[.slice none 0 0, .int .i64 0, .slice none 0 0, .slice none 0 0] 33) = W := ⟨_, rfl⟩
  obtain ⟨r0, r1, rb⟩ := two_newW w _ _ _ _ hW
  obtain ⟨X, hX⟩ : ∃ X, w.heap.size = X := ⟨_, rfl⟩
  obtain ⟨Z, hZ⟩ : ∃ Z, X + 1 = Z := ⟨_, rfl⟩
  rw [hX] at r0
  rw [hX, hZ] at r1
  have R0 := Lib.hid r0; have R1 := Lib.hid r1; have RB := Lib.hid rb; have HX := Lib.hid hX; have HZ := Lib.hid hZ
  have a0 := cell_of_row _ _ 0 _ _ _ r0
  have a1 := cell_of_row _ _ 1 _ _ _ r0
  have a2 := cell_of_row _ _ 2 _ _ _ r0
  have a3 := cell_of_row _ _ 3 _ _ _ r0
  have zf := fun i => frozen_of_row _ Z i _ _ r1
  have e0 := cell_of_row _ _ 0 _ _ _ r1
  have e1 := cell_of_row _ _ 1 _ _ _ r1
  have e2 := cell_of_row _ _ 2 _ _ _ r1
  have e3 := cell_of_row _ _ 3 _ _ _ r1
  dsimp at a0 a1 a2 a3 e0 e1 e2 e3
  have LNh : Hid (∀ w1, Below W.heap.size W w1 → Calls Tryd.prog 32 #[.slice la ln lc, .agg #[.slice xa xn xc, .int .i64 xi]] w1 fun e w' => ∃ b d, e = .returned (.slice b (ln + 1) d) ∧ LnsR (fun k => S k ∨ (w1.heap.size ≤ k ∧ k < w'.heap.size)) w' b d (Ls ++ [((xL, xi), (xa, xc))]) ∧ Below w1.heap.size w1 w') := Lib.hid fun w1 hb1 => rlines_ref (hl.below (seqB rb hb1)) hln (by omega) ((xL, xi), (xa, xc)) (hx.below (seqB rb hb1)) hxn
  have HM := Lib.hid hM; have HS := Lib.hid hS
  have c0 := (rb.cell (p := ⟨gb, off + n * 2, none⟩) hgl).trans t0
  have c1 := (rb.cell (p := ⟨gb, off + n * 2 + 1, none⟩) hgl).trans t1
  have hXl := Lib.hid (blk_lt r0)
  have hgl2 := Lib.hid (Nat.lt_of_lt_of_le hgl rb.size)
  have hXZ := Lib.hid (show X ≠ Z by omega)
  have hgZ := Lib.hid (show gb ≠ Z by omega)
  have hsub : IntKind.i64.wrap ((p : Int) - 1) = (n : Int) := by rw [IntKind.wrap_i64]; omega
  have hp0 : ¬ (p : Int) = 0 := by omega
  have hp00 : ¬ p = 0 := by omega
  have hnp : (n : Int) < (p : Int) := by omega
  have hnp' : n < p := by omega
  have h0n : (0 : Int) ≤ (n : Int) := by omega
  have hpm : p ≤ pc := by omega
  clear hx hp hl hS hpn hln hxn r0 r1 rb t0 t1 hM hle hgl hpp hrn
  go_enter Tryd.func18, Tryd.ntmps18
  go_upto_region 4 with fail
  try rw [hW]
  clear hW hX hZ
  go_region_held3 (fun w' => w'.cell? ⟨X, 0, none⟩ = some (.slice xa xn xc) ∧ w'.cell? ⟨X, 1, none⟩ = some (.int .i64 xi) ∧ w'.cell? ⟨X, 2, none⟩ = some (.slice (some ⟨gb, off, none⟩) p pc) ∧ w'.cell? ⟨X, 3, none⟩ = some (.slice la ln lc) ∧ w'.cell? ⟨gb, off + n * 2, none⟩ = some (.slice ra rn rc) ∧ w'.cell? ⟨gb, off + n * 2 + 1, none⟩ = some (.int .i64 ri)) (first | exact ⟨a0, a1, a2, a3, c0, c1⟩ | exact ⟨f0, f1, f2, f3, h0, h1⟩ | exact ⟨(farT4 hXZ.out).trans f0, (farT4 hXZ.out).trans f1, (farT4 hXZ.out).trans f2, (farT4 hXZ.out).trans f3, (farT4 hgZ.out).trans h0, (farT4 hgZ.out).trans h1⟩ | go_keep)
    (first | (go_at_call 32
              refine (LNh.out _ (Below.refl _ W).drew).mono ?_
              rintro e w2 ⟨ba, bd, rfl, hq, hb2⟩
              have hb2' := (Below.refl _ W).drew.trans hb2
              have f0 := (hb2'.cell (p := ⟨X, 0, none⟩) hXl.out).trans a0
              have f1 := (hb2'.cell (p := ⟨X, 1, none⟩) hXl.out).trans a1
              have f2 := (hb2'.cell (p := ⟨X, 2, none⟩) hXl.out).trans a2
              have f3 := (hb2'.cell (p := ⟨X, 3, none⟩) hXl.out).trans a3
              have h0 := (hb2'.cell (p := ⟨gb, off + n * 2, none⟩) hgl2.out).trans c0
              have h1 := (hb2'.cell (p := ⟨gb, off + n * 2 + 1, none⟩) hgl2.out).trans c1
              have Q2 := Lib.hid hq
              have B2 := Lib.hid hb2'
              have R12 := Lib.hid (blk_below R1.out hb2')
              have zf2 := fun i => frozen_of_row _ Z i _ _ R12.out
              have k0 := cell_of_row _ _ 0 _ _ _ R12.out
              have k1 := cell_of_row _ _ 1 _ _ _ R12.out
              have k2 := cell_of_row _ _ 2 _ _ _ R12.out
              have k3 := cell_of_row _ _ 3 _ _ _ R12.out
              dsimp at k0 k1 k2 k3
              clear hq hb2 hb2'))
  go_wp2
  clear a0 a1 a2 a3 c0 c1 f0 f1 f2 f3 h0 h1 e0 e1 e2 e3 k0 k1 k2 k3 zf zf2
  generalize hWF : World.setCell _ _ _ = WF
  obtain ⟨g0, g1, g2, g3, gB, gO, gS⟩ := tfin (w := w) R12.out (by have := HZ.out; have := HX.out; omega) (seqB RB.out B2.out) hWF
  refine bodyPost_ret (v := .tuple #[.agg #[.slice ra rn rc, .int .i64 ri, .slice (some ⟨gb, off, none⟩) n pc, .slice ba (ln + 1) bd], .bool true]) (by simp [results, Tryd.results18, go_sem, g0, g1, g2, g3]) rfl ?_
  have hlow : ∀ k, (S k ∨ (W.heap.size ≤ k ∧ k < w2.heap.size)) → k ≠ Z := fun k hk => by
    have h1 := blk_lt R1.out
    have h2 := HZ.out
    have h3 := HX.out
    rcases hk with hk | hk
    · have := HS.out k hk; omega
    · omega
  refine ⟨ba, bd, rfl, ?_, ?_, gB⟩
  · exact (HM.out.keep gB.size (fun k hk => gB.block k (HS.out k hk))).mono fun k hk => Or.inl hk
  · exact (lnsr_other Q2.out gS hlow gO).mono fun k hk => hk.imp id fun hk => ⟨Nat.le_trans RB.out.size hk.1, by rw [gS]; exact hk.2⟩
set_option maxHeartbeats 4000000 in
theorem rforth_yes {r : LnR} {n rn : Nat} (hx : SlS S w xa xL xc) (hp : LnsR S w pa pc Ps) (hl : LnsR S w la lc (Ls ++ [r])) (hpn : Ps.length = pn) (hln : Ls.length = n) (hS : ∀ k, S k → k < w.heap.size) (hxn : xL.length = xn) (hrn : r.1.1.length = rn) (hb : pn ≤ 10000) (hn1 : n ≤ 10000) {p : Nat} (hpp : n + 1 = p) :
    Calls Tryd.prog 19 #[tV xa xn xc xi pa pn pc la p lc] w fun e w' => ∃ pa' pc', e = .returned (.tuple #[tV r.2.1 rn r.2.2 r.1.2 pa' (pn + 1) pc' la n lc, .bool true]) ∧ LnsR (fun k => S k ∨ (w.heap.size ≤ k ∧ k < w'.heap.size)) w' pa' pc' (Ps ++ [((xL, xi), (xa, xc))]) ∧ LnsR (fun k => S k ∨ (w.heap.size ≤ k ∧ k < w'.heap.size)) w' la lc Ls ∧ Below w.heap.size w w' := by
  obtain ⟨⟨rL, ri⟩, ⟨ra, rc⟩⟩ := r
  dsimp only at *
  obtain ⟨gb, off, rfl, hSg, hgl, t0, t1⟩ := hl.last hln
  dsimp only at t0 t1
  rw [hrn] at t0
  have hM := hl.pop
  have hle := hl.le
  rw [List.length_append, List.length_singleton, hln] at hle
  have hcut : ∀ w : World, (Instr.slice 31 (.slice (some ⟨gb, off, none⟩) p lc) none (some (.int .i64 (n : Int))) none).run Tryd.prog w = .ok (.slice (some ⟨gb, off, none⟩) n lc) w := fun w => by
    rw [← hpp]; exact run_popL w gb off n lc (by omega) (by omega)
  obtain ⟨W, hW⟩ : ∃ W, (w.alloc (.cells #[.slice xa xn xc, .int .i64 xi, .slice pa pn pc, .slice (some ⟨gb, off, none⟩) p lc] 33)).alloc (.cells #[.slice none 0 0, .int .i64 0, .slice none 0 0, .slice none 0 0] 33) = W := ⟨_, rfl⟩
  obtain ⟨r0, r1, rb⟩ := two_newW w _ _ _ _ hW
  obtain ⟨X, hX⟩ : ∃ X, w.heap.size = X := ⟨_, rfl⟩
  obtain ⟨Z, hZ⟩ : ∃ Z, X + 1 = Z := ⟨_, rfl⟩
  rw [hX] at r0
  rw [hX, hZ] at r1
  have R0 := Lib.hid r0; have R1 := Lib.hid r1; have RB := Lib.hid rb; have HX := Lib.hid hX; have HZ := Lib.hid hZ
  have a0 := cell_of_row _ _ 0 _ _ _ r0
  have a1 := cell_of_row _ _ 1 _ _ _ r0
  have a2 := cell_of_row _ _ 2 _ _ _ r0
  have a3 := cell_of_row _ _ 3 _ _ _ r0
  have zf := fun i => frozen_of_row _ Z i _ _ r1
  have e0 := cell_of_row _ _ 0 _ _ _ r1
  have e1 := cell_of_row _ _ 1 _ _ _ r1
  have e2 := cell_of_row _ _ 2 _ _ _ r1
  have e3 := cell_of_row _ _ 3 _ _ _ r1
  dsimp at a0 a1 a2 a3 e0 e1 e2 e3
  have LNh : Hid (∀ w1, Below W.heap.size W w1 → Calls Tryd.prog 32 #[.slice pa pn pc, .agg #[.slice xa xn xc, .int .i64 xi]] w1 fun e w' => ∃ b d, e = .returned (.slice b (pn + 1) d) ∧ LnsR (fun k => S k ∨ (w1.heap.size ≤ k ∧ k < w'.heap.size)) w' b d (Ps ++ [((xL, xi), (xa, xc))]) ∧ Below w1.heap.size w1 w') := Lib.hid fun w1 hb1 => rlines_ref (hp.below (seqB rb hb1)) hpn (by omega) ((xL, xi), (xa, xc)) (hx.below (seqB rb hb1)) hxn
  have HM := Lib.hid hM; have HS := Lib.hid hS
  have c0 := (rb.cell (p := ⟨gb, off + n * 2, none⟩) hgl).trans t0
  have c1 := (rb.cell (p := ⟨gb, off + n * 2 + 1, none⟩) hgl).trans t1
  have hXl := Lib.hid (blk_lt r0)
  have hgl2 := Lib.hid (Nat.lt_of_lt_of_le hgl rb.size)
  have hXZ := Lib.hid (show X ≠ Z by omega)
  have hgZ := Lib.hid (show gb ≠ Z by omega)
  have hsub : IntKind.i64.wrap ((p : Int) - 1) = (n : Int) := by rw [IntKind.wrap_i64]; omega
  have hp0 : ¬ (p : Int) = 0 := by omega
  have hp00 : ¬ p = 0 := by omega
  have hnp : (n : Int) < (p : Int) := by omega
  have hnp' : n < p := by omega
  have h0n : (0 : Int) ≤ (n : Int) := by omega
  have hpm : p ≤ lc := by omega
  clear hx hp hl hS hpn hln hxn r0 r1 rb t0 t1 hM hle hgl hpp hrn
  go_enter Tryd.func19, Tryd.ntmps19
  go_upto_region 4 with fail
  try rw [hW]
  clear hW hX hZ
  go_region_held3 (fun w' => w'.cell? ⟨X, 0, none⟩ = some (.slice xa xn xc) ∧ w'.cell? ⟨X, 1, none⟩ = some (.int .i64 xi) ∧ w'.cell? ⟨X, 2, none⟩ = some (.slice pa pn pc) ∧ w'.cell? ⟨X, 3, none⟩ = some (.slice (some ⟨gb, off, none⟩) p lc) ∧ w'.cell? ⟨gb, off + n * 2, none⟩ = some (.slice ra rn rc) ∧ w'.cell? ⟨gb, off + n * 2 + 1, none⟩ = some (.int .i64 ri)) (first | exact ⟨a0, a1, a2, a3, c0, c1⟩ | exact ⟨f0, f1, f2, f3, h0, h1⟩ | exact ⟨(farT4 hXZ.out).trans f0, (farT4 hXZ.out).trans f1, (farT4 hXZ.out).trans f2, (farT4 hXZ.out).trans f3, (farT4 hgZ.out).trans h0, (farT4 hgZ.out).trans h1⟩ | go_keep)
    (first | (go_at_call 32
              refine (LNh.out _ (Below.refl _ W).drew).mono ?_
              rintro e w2 ⟨ba, bd, rfl, hq, hb2⟩
              have hb2' := (Below.refl _ W).drew.trans hb2
              have f0 := (hb2'.cell (p := ⟨X, 0, none⟩) hXl.out).trans a0
              have f1 := (hb2'.cell (p := ⟨X, 1, none⟩) hXl.out).trans a1
              have f2 := (hb2'.cell (p := ⟨X, 2, none⟩) hXl.out).trans a2
              have f3 := (hb2'.cell (p := ⟨X, 3, none⟩) hXl.out).trans a3
              have h0 := (hb2'.cell (p := ⟨gb, off + n * 2, none⟩) hgl2.out).trans c0
              have h1 := (hb2'.cell (p := ⟨gb, off + n * 2 + 1, none⟩) hgl2.out).trans c1
              have Q2 := Lib.hid hq
              have B2 := Lib.hid hb2'
              have R12 := Lib.hid (blk_below R1.out hb2')
              have zf2 := fun i => frozen_of_row _ Z i _ _ R12.out
              have k0 := cell_of_row _ _ 0 _ _ _ R12.out
              have k1 := cell_of_row _ _ 1 _ _ _ R12.out
              have k2 := cell_of_row _ _ 2 _ _ _ R12.out
              have k3 := cell_of_row _ _ 3 _ _ _ R12.out
              dsimp at k0 k1 k2 k3
              clear hq hb2 hb2'))
  go_wp2
  clear a0 a1 a2 a3 c0 c1 f0 f1 f2 f3 h0 h1 e0 e1 e2 e3 k0 k1 k2 k3 zf zf2
  generalize hWF : World.setCell _ _ _ = WF
  obtain ⟨g0, g1, g2, g3, gB, gO, gS⟩ := tfin (w := w) R12.out (by have := HZ.out; have := HX.out; omega) (seqB RB.out B2.out) hWF
  refine bodyPost_ret (v := .tuple #[.agg #[.slice ra rn rc, .int .i64 ri, .slice ba (pn + 1) bd, .slice (some ⟨gb, off, none⟩) n lc], .bool true]) (by simp [results, Tryd.results19, go_sem, g0, g1, g2, g3]) rfl ?_
  have hlow : ∀ k, (S k ∨ (W.heap.size ≤ k ∧ k < w2.heap.size)) → k ≠ Z := fun k hk => by
    have h1 := blk_lt R1.out
    have h2 := HZ.out
    have h3 := HX.out
    rcases hk with hk | hk
    · have := HS.out k hk; omega
    · omega
  refine ⟨ba, bd, rfl, ?_, ?_, gB⟩
  · exact (lnsr_other Q2.out gS hlow gO).mono fun k hk => hk.imp id fun hk => ⟨Nat.le_trans RB.out.size hk.1, by rw [gS]; exact hk.2⟩
  · exact (HM.out.keep gB.size (fun k hk => gB.block k (HS.out k hk))).mono fun k hk => Or.inl hk
end
end Go.Proofs.YtjgffedcbdnddaaDoor
set_option linter.unusedVariables false
set_option linter.unusedSimpArgs false
namespace Go.Proofs.YtjgffedcbdnddaaDoor
open Go.RowKit
/-- No two whole numbers stand side by side. -/
def no2 (cs : Array Value) : Prop := ∀ off a b, ¬ (cs[off]? = some (.int .i64 a) ∧ cs[off + 1]? = some (.int .i64 b))
theorem no2_T (a d g : Option Addr) (b c e f h k : Nat) (i : Int) : no2 #[.slice a b c, .int .i64 i, .slice d e f, .slice g h k] := fun off x y h => by
  match off, h with
  | 0, h => simp at h
  | 1, h => simp at h
  | 2, h => simp at h
  | 3, h => simp at h
  | (n + 4), h => simp at h
theorem no2_L (a : Option Addr) (b c : Nat) (i : Int) : no2 #[.slice a b c, .int .i64 i] := fun off x y h => by
  match off, h with
  | 0, h => simp at h
  | 1, h => simp at h
  | (n + 2), h => simp at h
theorem sg_far {w : World} {a : Option Addr} {L : List Sn} {X : Nat} {cs : Array Value} {t : TypeId} {f : Nat × Nat} (h : Signs w a L) (hx : w.heap[X]? = some (.cells cs t f)) (hn : no2 cs) : ∀ ad, a = some ad → L ≠ [] → ad.block ≠ X := fun ad e hL hX => by
  obtain ⟨b, off, e2, hlt, h1, h2⟩ := h 0 (List.length_pos_iff.2 hL)
  rw [e] at e2
  injection e2 with e2
  subst e2
  simp only at hX
  subst hX
  rw [cell_of_row _ _ _ _ _ _ hx] at h1 h2
  rw [Nat.zero_mul, Nat.add_zero] at h1 h2
  exact hn off _ _ ⟨h1, h2⟩
theorem StIn.far {F : Nat → Prop} {w : World} {q : StR} (h : StIn F w q) {X : Nat} {cs : Array Value} {t : TypeId} {f : Nat × Nat} (hx : w.heap[X]? = some (.cells cs t f)) (hn : no2 cs) : StIn (fun k => F k ∧ k ≠ X) w q :=
  ⟨⟨h.g.s, h.g.le, h.g.nl, fun ad e hL => ⟨h.g.st ad e hL, sg_far h.g.s hx hn ad e hL⟩⟩, ⟨h.c.s, h.c.le, h.c.nl, fun ad e hL => ⟨h.c.st ad e hL, sg_far h.c.s hx hn ad e hL⟩⟩, h.pg, h.pc⟩
section
variable {S : Nat → Prop} {B P : Nat} {M : Int} {x : ULn} {Ps Ls : List ULn} {w w' : World}
theorem US.setX (h : US S B P M x Ps Ls w) {X : Nat} {cs : Array Value} {t : TypeId} {f : Nat × Nat} (hS : S X) (hX : w.heap[X]? = some (.cells cs t f)) (hn : no2 cs) (i : Nat) (u : Value) : US S B P M x Ps Ls (w.setCell ⟨X, i, none⟩ u) := by
  obtain ⟨W, T, vs, rw, rt, h0, hc, hd⟩ := h.ex
  have hs : (w.setCell ⟨X, i, none⟩ u).heap.size = w.heap.size := by simp
  have hF : ∀ j, j ≠ X → (w.setCell ⟨X, i, none⟩ u).heap[j]? = w.heap[j]? := fun j hj => Below.heap_setCell w ⟨X, i, none⟩ _ j hj
  obtain ⟨o, ho⟩ := some_lt (h.lt X hS).2
  have hf := (h0.fo X o ⟨hS, ho⟩).1
  have hU : ∀ k, FrS B P vs rw rt w k → FrS B P vs rw rt (w.setCell ⟨X, i, none⟩ u) k := FrS.up (Nat.le_of_eq hs.symm)
  refine ⟨⟨W, T, vs, rw, rt, ⟨(hF P (fun e => hf.2.2.1 e.symm)).trans h0.blk, h0.now.keep fun j hj => hF j (fun e => hf.2.2.2.1 (e ▸ hj)), h0.were.keep fun j hj => hF j (fun e => hf.2.2.2.2.1 (e ▸ hj)), h0.taken.keep fun j hj => hF j (fun e => hf.2.2.2.2.2 (e ▸ hj)), h0.ap, fun q hq => ?_, fun q hq => ?_, h0.le, fun k o hk => ?_⟩, hc, hd⟩, fun k hk => ?_, h.len, h.m1, h.m2, h.sx, h.sp, h.sl⟩
  · exact (((h0.stW q hq).far hX hn).keep (Nat.le_of_eq hs.symm) (fun k hk => hF k hk.2)).mono fun k hk => hU k hk.1
  · exact (((h0.stT q hq).far hX hn).keep (Nat.le_of_eq hs.symm) (fun k hk => hF k hk.2)).mono fun k hk => hU k hk.1
  · obtain ⟨o', ho'⟩ := some_lt (h.lt k hk.1).2
    exact ⟨hU k (h0.fo k o' ⟨hk.1, ho'⟩).1, hk.2⟩
  · rw [hs]; exact h.lt k hk
end
/-- The document's lines. -/
structure RfT (Sr : Nat → Prop) (w : World) (x : LnR) (Ps Ls : List LnR) (pa : Option Addr) (pc : Nat) (la : Option Addr) (lc : Nat) : Prop where
  x : SlS Sr w x.2.1 x.1.1 x.2.2
  p : LnsR Sr w pa pc Ps
  l : LnsR Sr w la lc Ls
theorem RfT.keep {Sr : Nat → Prop} {w w' : World} {x : LnR} {Ps Ls : List LnR} {pa : Option Addr} {pc : Nat} {la : Option Addr} {lc : Nat} (h : RfT Sr w x Ps Ls pa pc la lc) (hs : w.heap.size ≤ w'.heap.size) (hk : ∀ k, Sr k → w'.heap[k]? = w.heap[k]?) : RfT Sr w' x Ps Ls pa pc la lc := ⟨h.x.keep hs hk, h.p.keep hs hk, h.l.keep hs hk⟩
/-- A trail beside the document's lines. -/
structure Ds (S Sr : Nat → Prop) (B P : Nat) (M : Int) (x : LnR) (Ps Ls : List LnR) (pa : Option Addr) (pc : Nat) (la : Option Addr) (lc : Nat) (w : World) : Prop where
  u : US S B P M x.1 (Ps.map (·.1)) (Ls.map (·.1)) w
  r : RfT Sr w x Ps Ls pa pc la lc
  sr : ∀ k, Sr k → k < w.heap.size ∧ (k < B ∨ S k)
abbrev grS (S : Nat → Prop) (w w' : World) : Nat → Prop := fun k => S k ∨ (w.heap.size ≤ k ∧ k < w'.heap.size)
section
variable {S Sr : Nat → Prop} {B P : Nat} {M : Int} {x : LnR} {Ps Ls : List LnR} {pa la : Option Addr} {pc lc : Nat} {w w' : World}
theorem Ds.grow (d : Ds S Sr B P M x Ps Ls pa pc la lc w) (hb : Below w.heap.size w w') : Ds (grS S w w') Sr B P M x Ps Ls pa pc la lc w' :=
  ⟨d.u.grow hb fun k hk => hk, d.r.keep hb.size (fun k hk => hb.block k (d.sr k hk).1), fun k hk => ⟨Nat.lt_of_lt_of_le (d.sr k hk).1 hb.size, (d.sr k hk).2.imp id Or.inl⟩⟩
theorem Ds.below (d : Ds S Sr B P M x Ps Ls pa pc la lc w) (hb : Below w.heap.size w w') : Ds S Sr B P M x Ps Ls pa pc la lc w' :=
  ⟨d.u.below hb, d.r.keep hb.size (fun k hk => hb.block k (d.sr k hk).1), fun k hk => ⟨Nat.lt_of_lt_of_le (d.sr k hk).1 hb.size, (d.sr k hk).2⟩⟩
theorem Ds.lr (d : Ds S Sr B P M x Ps Ls pa pc la lc w) : ∀ k, Sr k → k < w.heap.size := fun k hk => (d.sr k hk).1
theorem Ds.len (d : Ds S Sr B P M x Ps Ls pa pc la lc w) : (Ps.length : Int) + Ls.length ≤ M ∧ M ≤ 1000 ∧ 1 ≤ M := by
  have := d.u.len
  rw [List.length_map, List.length_map] at this
  exact ⟨this, d.u.m2, d.u.m1⟩
theorem KpU.below_of (hb : Below w.heap.size w w') (hB : B ≤ w.heap.size) (hS : ∀ k, S k → k < w.heap.size) : KpU B S w w' := ⟨hb.mono hB, fun k hk => hb.block k (hS k hk)⟩
theorem KpU.trans {w1 : World} (h : KpU B S w w1) (h' : KpU B S w1 w') : KpU B S w w' := ⟨h.b.trans h'.b, fun k hk => (h'.s k hk).trans (h.s k hk)⟩
theorem KpU.less {S' : Nat → Prop} (h : KpU B S' w w') (hS : ∀ k, S k → S' k) : KpU B S w w' := ⟨h.b, fun k hk => h.s k (hS k hk)⟩
/-- A call on the trail leaves the document's lines. -/
theorem RfT.kept (h : RfT Sr w x Ps Ls pa pc la lc) (hk : KpU B S w w') (hsr : ∀ k, Sr k → k < B ∨ S k) : RfT Sr w' x Ps Ls pa pc la lc :=
  h.keep hk.b.size fun k h1 => by
    rcases hsr k h1 with h2 | h2
    · exact hk.b.block k h2
    · exact hk.s k h2
/-- A box of the caller's is written. -/
theorem Ds.setT (d : Ds S Sr B P M x Ps Ls pa pc la lc w) {X : Nat} {a0 a2 a3 b0 b2 b3 : Option Addr} {m0 m2 m3 n0 n2 n3 k0 k2 k3 j0 j2 j3 : Nat} {i1 j1 : Int} {t : TypeId} (hS : S X) (hr : ¬ Sr X) (hX : w.heap[X]? = some (.cells #[.slice a0 m0 k0, .int .i64 i1, .slice a2 m2 k2, .slice a3 m3 k3] t (0, 0))) {WF : World}
    (hWF : (((w.setCell ⟨X, 0, none⟩ (.slice b0 n0 j0)).setCell ⟨X, 1, none⟩ (.int .i64 j1)).setCell ⟨X, 2, none⟩ (.slice b2 n2 j2)).setCell ⟨X, 3, none⟩ (.slice b3 n3 j3) = WF) : Ds S Sr B P M x Ps Ls pa pc la lc WF ∧ WF.heap[X]? = some (.cells #[.slice b0 n0 j0, .int .i64 j1, .slice b2 n2 j2, .slice b3 n3 j3] t (0, 0)) ∧ (∀ k, k ≠ X → WF.heap[k]? = w.heap[k]?) ∧ WF.heap.size = w.heap.size ∧ Below B w WF := by
  subst hWF
  have h1 := blk_set hX 0 (.slice b0 n0 j0)
  have h2 := blk_set h1 1 (.int .i64 j1)
  have h3 := blk_set h2 2 (.slice b2 n2 j2)
  have h4 := blk_set h3 3 (.slice b3 n3 j3)
  have hs : ((((w.setCell ⟨X, 0, none⟩ (.slice b0 n0 j0)).setCell ⟨X, 1, none⟩ (.int .i64 j1)).setCell ⟨X, 2, none⟩ (.slice b2 n2 j2)).setCell ⟨X, 3, none⟩ (.slice b3 n3 j3)).heap.size = w.heap.size := by simp
  have hF : ∀ k, k ≠ X → ((((w.setCell ⟨X, 0, none⟩ (.slice b0 n0 j0)).setCell ⟨X, 1, none⟩ (.int .i64 j1)).setCell ⟨X, 2, none⟩ (.slice b2 n2 j2)).setCell ⟨X, 3, none⟩ (.slice b3 n3 j3)).heap[k]? = w.heap[k]? := fun k hk => by
    rw [Below.heap_setCell _ _ _ _ hk, Below.heap_setCell _ _ _ _ hk, Below.heap_setCell _ _ _ _ hk, Below.heap_setCell _ _ _ _ hk]
  have hBX : B ≤ X := (d.u.lt X hS).1
  refine ⟨⟨(((d.u.setX hS hX (no2_T _ _ _ _ _ _ _ _ _ _) 0 _).setX hS h1 (no2_T _ _ _ _ _ _ _ _ _ _) 1 _).setX hS h2 (no2_T _ _ _ _ _ _ _ _ _ _) 2 _).setX hS h3 (no2_T _ _ _ _ _ _ _ _ _ _) 3 _, d.r.keep (Nat.le_of_eq hs.symm) (fun k hk => hF k (fun e => hr (e ▸ hk))), fun k hk => by rw [hs]; exact d.sr k hk⟩, h4, hF, hs, (((((Below.refl B w).setCell (p := ⟨X, 0, none⟩) hBX _).setCell (p := ⟨X, 1, none⟩) hBX _).setCell (p := ⟨X, 2, none⟩) hBX _).setCell (p := ⟨X, 3, none⟩) hBX _)⟩
end
section
variable {S : Nat → Prop} {xL cL : List Sn} {xi ci M : Int} {xa ca pa la : Option Addr} {xn xc cn cc pn pc ln lc : Nat} {Ps Ls : List LnR} {w : World}
/-- The document's Set. -/
theorem rset_any (j : Bool) (hx : SlS S w xa xL xc) (hp : LnsR S w pa pc Ps) (hl : LnsR S w la lc Ls) (hc : SlS S w ca cL cc) (hS : ∀ k, S k → k < w.heap.size) (hxn : xL.length = xn) (hpn : Ps.length = pn) (hln : Ls.length = ln) (hcn : cL.length = cn) (hx1 : xn ≤ 1000) (hc1 : cn ≤ 1000) (hp1 : pn ≤ 10000) (hM : 1 ≤ M) (hpM : (pn : Int) ≤ M) :
    Calls Tryd.prog 17 #[tV xa xn xc xi pa pn pc la ln lc, .agg #[.slice ca cn cc, .int .i64 ci], .bool j, .int .i64 M] w fun e w' => ∃ Ps' Ls' : List LnR, Ps'.map (·.1) = stP M (xL, xi) (cL, ci) (Ps.map (·.1)) j ∧ Ls'.map (·.1) = stT (xL, xi) (cL, ci) (Ls.map (·.1)) ∧ RsPost S ca cn cc ci Ps' Ls' w e w' := by
  by_cases he : cL = xL
  · have e1 : sgS cL xL = true := decide_eq_true he
    refine (rset_same hx hp hl hc hS hxn hpn hln hcn hx1 hc1 hp1 he).mono fun e w' h => ⟨Ps, Ls, ?_, ?_, h⟩
    · unfold stP; rw [if_pos e1]
    · unfold stT; rw [if_pos e1]
  have e1 : ¬ sgS cL xL = true := fun h => he (of_decide_eq_true h)
  have e2 : ∀ Ls : List ULn, stT (xL, xi) (cL, ci) Ls = [] := fun Ls => if_neg e1
  have hml : (Ps.map (·.1)).length = pn := by rw [List.length_map, hpn]
  cases j with
  | false =>
    have e3 : stP M (xL, xi) (cL, ci) (Ps.map (·.1)) false = if M < (pn : Int) + 1 then (Ps.map (·.1) ++ [(xL, xi)]).tail else Ps.map (·.1) ++ [(xL, xi)] := by
      unfold stP; rw [if_neg e1, if_neg (by simp), hml]
    by_cases ho : M < (pn : Int) + 1
    · refine (rset_FC hx hp hl hc hS hxn hpn hln hcn hx1 hc1 hp1 he ho).mono fun e w' h => ⟨_, _, ?_, ?_, h⟩
      · rw [e3, if_pos ho, List.map_tail, List.map_append]; rfl
      · rw [e2]; rfl
    · refine (rset_F hx hp hl hc hS hxn hpn hln hcn hx1 hc1 hp1 he ho).mono fun e w' h => ⟨_, _, ?_, ?_, h⟩
      · rw [e3, if_neg ho, List.map_append]; rfl
      · rw [e2]; rfl
  | true =>
    by_cases h0 : pn = 0
    · have hPs : Ps.map (·.1) = [] := List.length_eq_zero_iff.1 (hml.trans h0)
      refine (rset_T0 hx hp hl hc hS hxn hpn hln hcn hx1 hc1 hp1 he h0 hM).mono fun e w' h => ⟨_, _, ?_, ?_, h⟩
      · unfold stP; rw [if_neg e1, if_neg (by rw [hPs]; simp), hml, if_neg (by omega), List.map_append]; rfl
      · rw [e2]; rfl
    · have hPs : Ps.map (·.1) ≠ [] := fun e => h0 (by rw [← hml, e]; rfl)
      refine (rset_TP hx hp hl hc hS hxn hpn hln hcn hx1 hc1 hp1 he (by omega) hpM).mono fun e w' h => ⟨_, _, ?_, ?_, h⟩
      · unfold stP; rw [if_neg e1, if_pos ⟨rfl, hPs⟩]
      · rw [e2]; rfl
end
end Go.Proofs.YtjgffedcbdnddaaDoor
set_option linter.unusedVariables false
set_option linter.unusedSimpArgs false
namespace Go.Proofs.YtjgffedcbdnddaaDoor
open Go.RowKit
/-- What a call of the law leaves. -/
def DoPo (S Sr : Nat → Prop) (B P : Nat) (M : Int) (w : World) (e : Ending) (w' : World) : Prop :=
  ∃ (x' : LnR) (Ps' Ls' : List LnR) (pa' : Option Addr) (pc' : Nat) (la' : Option Addr) (lc' : Nat), e = .returned (.tuple #[tV x'.2.1 x'.1.1.length x'.2.2 x'.1.2 pa' Ps'.length pc' la' Ls'.length lc', .bool true]) ∧
    ∃ S' Sr' : Nat → Prop, Ds S' Sr' B P M x' Ps' Ls' pa' pc' la' lc' w' ∧ (∀ k, S k → S' k) ∧ (∀ k, Sr' k → k < B ∨ Sr k ∨ w.heap.size ≤ k) ∧ KpU B S w w'
section
variable {S Sr Sc : Nat → Prop} {B P : Nat} {xL cL : List Sn} {xi ci M : Int} {xa ca pa la : Option Addr} {xn xc cn cc pn pc ln lc : Nat} {Ps Ls : List LnR} {w : World}
set_option maxHeartbeats 8000000 in
theorem does_arg (d : Ds S Sr B P M ((xL, xi), (xa, xc)) Ps Ls pa pc la lc w) (j : Bool) (hxn : xL.length = xn) (hpn : Ps.length = pn) (hln : Ls.length = ln) (hcn : cL.length = cn) (hc60 : cn ≤ 60) (hc : SlS Sc w ca cL cc) (hm : mayL cL ci = false) :
    Calls Tryd.prog 7 #[.pointer (some ⟨P, 0, none⟩), tV xa xn xc xi pa pn pc la ln lc, .agg #[.int .i64 0, .slice ca cn cc, .int .i64 ci, .bool j], .int .i64 M] w (DoPo S Sr B P M w) := by
  obtain ⟨W, hW⟩ : ∃ W, ((w.alloc (.cells #[.slice xa xn xc, .int .i64 xi, .slice pa pn pc, .slice la ln lc] 33)).alloc (.cells #[.int .i64 0, .slice ca cn cc, .int .i64 ci, .bool j] 35)).alloc (.cells #[.slice none 0 0, .int .i64 0, .slice none 0 0, .slice none 0 0] 33) = W := ⟨_, rfl⟩
  obtain ⟨r0, r1, r2, rb⟩ := three_new w _ _ _ _ _ _ hW
  obtain ⟨X, hX⟩ : ∃ X, w.heap.size = X := ⟨_, rfl⟩
  obtain ⟨Y, hY⟩ : ∃ Y, X + 1 = Y := ⟨_, rfl⟩
  obtain ⟨Z, hZ⟩ : ∃ Z, Y + 1 = Z := ⟨_, rfl⟩
  rw [hX] at r0
  rw [hX, hY] at r1
  rw [hX, show X + 2 = Z by omega] at r2
  have hd := d.grow rb
  have hZl := blk_lt r2
  have hBw := d.u.hB
  have sX : grS S w W X := Or.inr ⟨by omega, by omega⟩
  have sY : grS S w W Y := Or.inr ⟨by omega, by omega⟩
  have sZ : grS S w W Z := Or.inr ⟨by omega, by omega⟩
  have nZ : ∀ k, Sr k → k ≠ Z := fun k hk => by have := d.lr k hk; omega
  have kW : KpU B S w W := KpU.below_of rb hBw (fun k hk => (d.u.lt k hk).2)
  have hlen := d.len
  have sx := d.u.sx
  dsimp only at sx
  have hcW := hc.below rb
  have ST := Lib.hid (uset_us_arg hd.u cL ca cn cc ci j hcn (by omega) hcW.s hm)
  have MY : Hid (∀ w1, Below W.heap.size W w1 → Calls Tryd.prog 16 #[.agg #[.slice ca cn cc, .int .i64 ci]] w1 fun e w' => e = .returned (.bool false) ∧ Below w1.heap.size w1 w') := Lib.hid fun w1 hb => by
    have h1 := r17_may cL ca cn cc ci w1 hcn (by omega) (hcW.below hb).s
    have h2 : (decide (0 ≤ ci) && decide (ci ≤ (cn : Int)) && sgC cL) = false := by
      rw [← hm]; unfold mayL; rw [hcn, Bool.and_assoc]
    rw [h2] at h1
    exact h1
  have HXN := Lib.hid hxn; have HPN := Lib.hid hpn; have HLN := Lib.hid hln
  have R0 := Lib.hid r0; have R1 := Lib.hid r1; have R2 := Lib.hid r2; have RB := Lib.hid rb
  have HX := Lib.hid hX; have HY := Lib.hid hY; have HZ := Lib.hid hZ
  have D := Lib.hid hd; have SX := Lib.hid sX; have SY := Lib.hid sY; have SZ := Lib.hid sZ; have NZ := Lib.hid nZ; have KW := Lib.hid kW
  have HBw := Lib.hid hBw; have HL := Lib.hid hlen; have D0 := Lib.hid d
  have a0 := cell_of_row _ _ 0 _ _ _ R0.out
  have a1 := cell_of_row _ _ 1 _ _ _ R0.out
  have a2 := cell_of_row _ _ 2 _ _ _ R0.out
  have a3 := cell_of_row _ _ 3 _ _ _ R0.out
  have d0 := cell_of_row _ _ 0 _ _ _ R1.out
  have d1 := cell_of_row _ _ 1 _ _ _ R1.out
  have d2 := cell_of_row _ _ 2 _ _ _ R1.out
  have d3 := cell_of_row _ _ 3 _ _ _ R1.out
  have zf := fun i => frozen_of_row _ Z i _ _ R2.out
  have e0 := cell_of_row _ _ 0 _ _ _ R2.out
  have e1 := cell_of_row _ _ 1 _ _ _ R2.out
  have e2 := cell_of_row _ _ 2 _ _ _ R2.out
  have e3 := cell_of_row _ _ 3 _ _ _ R2.out
  dsimp at a0 a1 a2 a3 d0 d1 d2 d3 e0 e1 e2 e3
  clear d hc hd r0 r1 r2 rb sX sY sZ nZ kW hBw hZl hlen sx hxn hpn hln hcn hm hcW
  go_enter Tryd.func7, Tryd.ntmps7
  go_upto_region 1 with fail
  try rw [hW]
  clear hW hX hY hZ
  go_wp2_with (first
    | (go_at_call 13; refine ST.out.mono ?_; rintro e w1 ⟨rfl, hb1⟩; have B1 := Lib.hid hb1; have R01 := Lib.hid (blk_below R0.out hb1); have R11 := Lib.hid (blk_below R1.out hb1); have R21 := Lib.hid (blk_below R2.out hb1); have a01 := cell_of_row _ _ 0 _ _ _ R01.out; have a11 := cell_of_row _ _ 1 _ _ _ R01.out; have a21 := cell_of_row _ _ 2 _ _ _ R01.out; have a31 := cell_of_row _ _ 3 _ _ _ R01.out; have d01 := cell_of_row _ _ 0 _ _ _ R11.out; have d11 := cell_of_row _ _ 1 _ _ _ R11.out; have d21 := cell_of_row _ _ 2 _ _ _ R11.out; have d31 := cell_of_row _ _ 3 _ _ _ R11.out; have zf1 := fun i => frozen_of_row _ Z i _ _ R21.out; have e01 := cell_of_row _ _ 0 _ _ _ R21.out; have e11 := cell_of_row _ _ 1 _ _ _ R21.out; have e21 := cell_of_row _ _ 2 _ _ _ R21.out; have e31 := cell_of_row _ _ 3 _ _ _ R21.out; dsimp at a01 a11 a21 a31 d01 d11 d21 d31 e01 e11 e21 e31; clear hb1)
    | (go_at_call 16; refine (MY.out _ B1.out).mono ?_; rintro e w2 ⟨rfl, hb2⟩; have B2 := Lib.hid (seqB B1.out hb2); have R02 := Lib.hid (blk_below R01.out hb2); have R12 := Lib.hid (blk_below R11.out hb2); have R22 := Lib.hid (blk_below R21.out hb2); have a02 := cell_of_row _ _ 0 _ _ _ R02.out; have a12 := cell_of_row _ _ 1 _ _ _ R02.out; have a22 := cell_of_row _ _ 2 _ _ _ R02.out; have a32 := cell_of_row _ _ 3 _ _ _ R02.out; have d02 := cell_of_row _ _ 0 _ _ _ R12.out; have d12 := cell_of_row _ _ 1 _ _ _ R12.out; have d22 := cell_of_row _ _ 2 _ _ _ R12.out; have d32 := cell_of_row _ _ 3 _ _ _ R12.out; have zf2 := fun i => frozen_of_row _ Z i _ _ R22.out; have e02 := cell_of_row _ _ 0 _ _ _ R22.out; have e12 := cell_of_row _ _ 1 _ _ _ R22.out; have e22 := cell_of_row _ _ 2 _ _ _ R22.out; have e32 := cell_of_row _ _ 3 _ _ _ R22.out; dsimp at a02 a12 a22 a32 d02 d12 d22 d32 e02 e12 e22 e32; clear hb2))
  clear a0 a1 a2 a3 d0 d1 d2 d3 zf e0 e1 e2 e3 a01 a11 a21 a31 d01 d11 d21 d31 zf1 e01 e11 e21 e31 a02 a12 a22 a32 d02 d12 d22 d32 zf2 e02 e12 e22 e32
  have d3 := D.out.below B2.out
  generalize hWF : World.setCell _ _ _ = WF
  obtain ⟨d4, hb4, hF, hs4, hBe⟩ := d3.setT (X := Z) SZ.out (fun h => NZ.out Z h rfl) R22.out hWF
  have g0 := cell_of_row _ _ 0 _ _ _ hb4
  have g1 := cell_of_row _ _ 1 _ _ _ hb4
  have g2 := cell_of_row _ _ 2 _ _ _ hb4
  have g3 := cell_of_row _ _ 3 _ _ _ hb4
  dsimp at g0 g1 g2 g3
  refine bodyPost_ret (v := .tuple #[.agg #[.slice xa xn xc, .int .i64 xi, .slice pa pn pc, .slice la ln lc], .bool true]) (by simp [results, Tryd.results7, go_sem, g0, g1, g2, g3]) rfl ?_
  refine ⟨((xL, xi), (xa, xc)), Ps, Ls, pa, pc, la, lc, by rw [HPN.out, HLN.out, ← HXN.out], _, _, d4, fun k hk => Or.inl hk, fun k hk => Or.inr (Or.inl hk), ?_⟩
  refine (KW.out.trans (KpU.below_of B2.out (by have := RB.out.size; have := HBw.out; omega) (fun k hk => by have := (D0.out.u.lt k hk).2; have := RB.out.size; omega))).trans ⟨hBe, fun k hk => hF k (fun e => ?_)⟩
  have := (D0.out.u.lt k hk).2; have := HX.out; have := HY.out; have := HZ.out; omega
set_option maxHeartbeats 8000000 in
theorem does_set (d : Ds S Sr B P M ((xL, xi), (xa, xc)) Ps Ls pa pc la lc w) (j : Bool) (hxn : xL.length = xn) (hpn : Ps.length = pn) (hln : Ls.length = ln) (hcn : cL.length = cn) (hc60 : cn ≤ 60) (hc : SlS Sc w ca cL cc) (hSc : ∀ k, Sc k → k < B) (hm : mayL cL ci = true) :
    Calls Tryd.prog 7 #[.pointer (some ⟨P, 0, none⟩), tV xa xn xc xi pa pn pc la ln lc, .agg #[.int .i64 0, .slice ca cn cc, .int .i64 ci, .bool j], .int .i64 M] w (DoPo S Sr B P M w) := by
  obtain ⟨W, hW⟩ : ∃ W, ((w.alloc (.cells #[.slice xa xn xc, .int .i64 xi, .slice pa pn pc, .slice la ln lc] 33)).alloc (.cells #[.int .i64 0, .slice ca cn cc, .int .i64 ci, .bool j] 35)).alloc (.cells #[.slice none 0 0, .int .i64 0, .slice none 0 0, .slice none 0 0] 33) = W := ⟨_, rfl⟩
  obtain ⟨r0, r1, r2, rb⟩ := three_new w _ _ _ _ _ _ hW
  obtain ⟨X, hX⟩ : ∃ X, w.heap.size = X := ⟨_, rfl⟩
  obtain ⟨Y, hY⟩ : ∃ Y, X + 1 = Y := ⟨_, rfl⟩
  obtain ⟨Z, hZ⟩ : ∃ Z, Y + 1 = Z := ⟨_, rfl⟩
  rw [hX] at r0
  rw [hX, hY] at r1
  rw [hX, show X + 2 = Z by omega] at r2
  have hd := d.grow rb
  have hZl := blk_lt r2
  have hBw := d.u.hB
  have sX : grS S w W X := Or.inr ⟨by omega, by omega⟩
  have sY : grS S w W Y := Or.inr ⟨by omega, by omega⟩
  have sZ : grS S w W Z := Or.inr ⟨by omega, by omega⟩
  have nZ : ∀ k, Sr k → k ≠ Z := fun k hk => by have := d.lr k hk; omega
  have kW : KpU B S w W := KpU.below_of rb hBw (fun k hk => (d.u.lt k hk).2)
  have hlen := d.len
  have sx := d.u.sx
  dsimp only at sx
  have hcW := hc.below rb
  have ST := Lib.hid (uset_us hd.u cL ca cn cc ci j hcn hc60 Sc hcW (fun k hk => Or.inl (hSc k hk)) hm)
  have MY : Hid (∀ w1, Below B W w1 → Calls Tryd.prog 16 #[.agg #[.slice ca cn cc, .int .i64 ci]] w1 fun e w' => e = .returned (.bool true) ∧ Below w1.heap.size w1 w') := Lib.hid fun w1 hb => by
    have h1 := r17_may cL ca cn cc ci w1 hcn (by omega) (hcW.keep hb.size (fun k hk => hb.block k (hSc k hk))).s
    have h2 : (decide (0 ≤ ci) && decide (ci ≤ (cn : Int)) && sgC cL) = true := by
      rw [← hm]; unfold mayL; rw [hcn, Bool.and_assoc]
    rw [h2] at h1
    exact h1
  have RS : Hid (∀ w2, RfT Sr w2 ((xL, xi), (xa, xc)) Ps Ls pa pc la lc → Below B W w2 → Calls Tryd.prog 17 #[.agg #[.slice xa xn xc, .int .i64 xi, .slice pa pn pc, .slice la ln lc], .agg #[.slice ca cn cc, .int .i64 ci], .bool j, .int .i64 M] w2 fun e w' => ∃ Ps' Ls' : List LnR, Ps'.map (·.1) = stP M (xL, xi) (cL, ci) (Ps.map (·.1)) j ∧ Ls'.map (·.1) = stT (xL, xi) (cL, ci) (Ls.map (·.1)) ∧ RsPost (fun k => k < B ∨ Sr k) ca cn cc ci Ps' Ls' w2 e w') := Lib.hid fun w2 hr hb => by
    have hB2 : ∀ k, (k < B ∨ Sr k) → k < w2.heap.size := fun k hk => by
      have := hb.size; have := rb.size
      rcases hk with hk | hk
      · omega
      · have := d.lr k hk; omega
    exact rset_any j (hr.x.mono fun k hk => Or.inr hk) (hr.p.mono fun k hk => Or.inr hk) (hr.l.mono fun k hk => Or.inr hk) ((hcW.keep hb.size (fun k hk => hb.block k (hSc k hk))).mono fun k hk => Or.inl (hSc k hk)) hB2 hxn hpn hln hcn (by omega) (by omega) (by omega) (by omega) (by omega)
  have CW : Hid (∀ w3, Below B W w3 → SlS (fun k => k < B) w3 ca cL cc) := Lib.hid fun w3 hb => (hcW.keep hb.size (fun k hk => hb.block k (hSc k hk))).mono hSc
  have HCN := Lib.hid hcn
  have R0 := Lib.hid r0; have R1 := Lib.hid r1; have R2 := Lib.hid r2; have RB := Lib.hid rb
  have HX := Lib.hid hX; have HY := Lib.hid hY; have HZ := Lib.hid hZ
  have D := Lib.hid hd; have SX := Lib.hid sX; have SY := Lib.hid sY; have SZ := Lib.hid sZ; have NZ := Lib.hid nZ; have KW := Lib.hid kW
  have HBw := Lib.hid hBw; have HL := Lib.hid hlen; have D0 := Lib.hid d
  have a0 := cell_of_row _ _ 0 _ _ _ R0.out
  have a1 := cell_of_row _ _ 1 _ _ _ R0.out
  have a2 := cell_of_row _ _ 2 _ _ _ R0.out
  have a3 := cell_of_row _ _ 3 _ _ _ R0.out
  have d0 := cell_of_row _ _ 0 _ _ _ R1.out
  have d1 := cell_of_row _ _ 1 _ _ _ R1.out
  have d2 := cell_of_row _ _ 2 _ _ _ R1.out
  have d3 := cell_of_row _ _ 3 _ _ _ R1.out
  have zf := fun i => frozen_of_row _ Z i _ _ R2.out
  have e0 := cell_of_row _ _ 0 _ _ _ R2.out
  have e1 := cell_of_row _ _ 1 _ _ _ R2.out
  have e2 := cell_of_row _ _ 2 _ _ _ R2.out
  have e3 := cell_of_row _ _ 3 _ _ _ R2.out
  dsimp at a0 a1 a2 a3 d0 d1 d2 d3 e0 e1 e2 e3
  clear d hc hd r0 r1 r2 rb sX sY sZ nZ kW hBw hZl hlen sx hxn hpn hln hcn hm hcW hSc
  go_enter Tryd.func7, Tryd.ntmps7
  go_upto_region 1 with fail
  try rw [hW]
  clear hW hX hY hZ
  go_wp2_with (first
    | (go_at_call 13; refine ST.out.mono ?_; rintro e w1 ⟨rfl, u1, hk1⟩; have U1 := Lib.hid u1; have K1 := Lib.hid hk1; have R01 := Lib.hid ((hk1.s X SX.out).trans R0.out); have R11 := Lib.hid ((hk1.s Y SY.out).trans R1.out); have R21 := Lib.hid ((hk1.s Z SZ.out).trans R2.out); have a01 := cell_of_row _ _ 0 _ _ _ R01.out; have a11 := cell_of_row _ _ 1 _ _ _ R01.out; have a21 := cell_of_row _ _ 2 _ _ _ R01.out; have a31 := cell_of_row _ _ 3 _ _ _ R01.out; have d01 := cell_of_row _ _ 0 _ _ _ R11.out; have d11 := cell_of_row _ _ 1 _ _ _ R11.out; have d21 := cell_of_row _ _ 2 _ _ _ R11.out; have d31 := cell_of_row _ _ 3 _ _ _ R11.out; have zf1 := fun i => frozen_of_row _ Z i _ _ R21.out; have e01 := cell_of_row _ _ 0 _ _ _ R21.out; have e11 := cell_of_row _ _ 1 _ _ _ R21.out; have e21 := cell_of_row _ _ 2 _ _ _ R21.out; have e31 := cell_of_row _ _ 3 _ _ _ R21.out; dsimp at a01 a11 a21 a31 d01 d11 d21 d31 e01 e11 e21 e31; clear u1 hk1)
    | (go_at_call 16; refine (MY.out _ K1.out.b).mono ?_; rintro e w2 ⟨rfl, hb2⟩; have B2 := Lib.hid hb2; have R02 := Lib.hid (blk_below R01.out hb2); have R12 := Lib.hid (blk_below R11.out hb2); have R22 := Lib.hid (blk_below R21.out hb2); have a02 := cell_of_row _ _ 0 _ _ _ R02.out; have a12 := cell_of_row _ _ 1 _ _ _ R02.out; have a22 := cell_of_row _ _ 2 _ _ _ R02.out; have a32 := cell_of_row _ _ 3 _ _ _ R02.out; have d02 := cell_of_row _ _ 0 _ _ _ R12.out; have d12 := cell_of_row _ _ 1 _ _ _ R12.out; have d22 := cell_of_row _ _ 2 _ _ _ R12.out; have d32 := cell_of_row _ _ 3 _ _ _ R12.out; have zf2 := fun i => frozen_of_row _ Z i _ _ R22.out; have e02 := cell_of_row _ _ 0 _ _ _ R22.out; have e12 := cell_of_row _ _ 1 _ _ _ R22.out; have e22 := cell_of_row _ _ 2 _ _ _ R22.out; have e32 := cell_of_row _ _ 3 _ _ _ R22.out; dsimp at a02 a12 a22 a32 d02 d12 d22 d32 e02 e12 e22 e32; have RF2 := Lib.hid (((D.out.r.kept K1.out (fun k hk => (D.out.sr k hk).2))).keep hb2.size (fun k hk => hb2.block k (by have := D0.out.lr k hk; have := RB.out.size; have := K1.out.b.size; omega))); have BB2 := Lib.hid (K1.out.b.trans (hb2.mono (by have := RB.out.size; have := K1.out.b.size; have := HBw.out; omega))); clear hb2)
    | (go_at_call 17; refine (RS.out _ RF2.out BB2.out).mono ?_; rintro e w3 ⟨Ps', Ls', hm1, hm2, pa', pc', la', lc', rfl, hp', hl', hb3⟩; have B3 := Lib.hid hb3; have R03 := Lib.hid (blk_below R02.out hb3); have R13 := Lib.hid (blk_below R12.out hb3); have R23 := Lib.hid (blk_below R22.out hb3); have a03 := cell_of_row _ _ 0 _ _ _ R03.out; have a13 := cell_of_row _ _ 1 _ _ _ R03.out; have a23 := cell_of_row _ _ 2 _ _ _ R03.out; have a33 := cell_of_row _ _ 3 _ _ _ R03.out; have d03 := cell_of_row _ _ 0 _ _ _ R13.out; have d13 := cell_of_row _ _ 1 _ _ _ R13.out; have d23 := cell_of_row _ _ 2 _ _ _ R13.out; have d33 := cell_of_row _ _ 3 _ _ _ R13.out; have zf3 := fun i => frozen_of_row _ Z i _ _ R23.out; have e03 := cell_of_row _ _ 0 _ _ _ R23.out; have e13 := cell_of_row _ _ 1 _ _ _ R23.out; have e23 := cell_of_row _ _ 2 _ _ _ R23.out; have e33 := cell_of_row _ _ 3 _ _ _ R23.out; dsimp at a03 a13 a23 a33 d03 d13 d23 d33 e03 e13 e23 e33; have HM1 := Lib.hid hm1; have HM2 := Lib.hid hm2; have HP3 := Lib.hid hp'; have HL3 := Lib.hid hl'; clear hm1 hm2 hp' hl' hb3))
  clear a0 a1 a2 a3 d0 d1 d2 d3 zf e0 e1 e2 e3 a01 a11 a21 a31 d01 d11 d21 d31 zf1 e01 e11 e21 e31 a02 a12 a22 a32 d02 d12 d22 d32 zf2 e02 e12 e22 e32 a03 a13 a23 a33 d03 d13 d23 d33 zf3 e03 e13 e23 e33
  have hBs : B ≤ w2.heap.size := by have := BB2.out.size; have := RB.out.size; have := HBw.out; omega
  have BB3 := BB2.out.trans (B3.out.mono hBs)
  have hu : US (grS (grS S w W) w2 w3) B P M (cL, ci) (Ps'.map (·.1)) (Ls'.map (·.1)) w3 := by
    rw [HM1.out, HM2.out]
    exact (U1.out.below B2.out).grow B3.out (fun k hk => hk)
  have hW2 : W.heap.size ≤ w2.heap.size := BB2.out.size
  have hZ2 := blk_lt R2.out
  have d3 : Ds (grS (grS S w W) w2 w3) (fun k => (k < B ∨ Sr k) ∨ (w2.heap.size ≤ k ∧ k < w3.heap.size)) B P M ((cL, ci), (ca, cc)) Ps' Ls' pa' pc' la' lc' w3 :=
    ⟨hu, ⟨(CW.out _ BB3).mono fun k hk => Or.inl (Or.inl hk), HP3.out, HL3.out⟩, fun k hk => by
      have := B3.out.size
      rcases hk with (hk | hk) | hk
      · exact ⟨by omega, Or.inl hk⟩
      · have h1 := D.out.sr k hk
        exact ⟨by omega, h1.2.imp id Or.inl⟩
      · exact ⟨hk.2, Or.inr (Or.inr hk)⟩⟩
  generalize hWF : World.setCell _ _ _ = WF
  obtain ⟨d4, hb4, hF, hs4, hBe⟩ := d3.setT (X := Z) (Or.inl SZ.out) (fun h => by
    rcases h with (h | h) | h
    · have := HBw.out; have := HX.out; have := HY.out; have := HZ.out; omega
    · exact NZ.out Z h rfl
    · omega) R23.out hWF
  have g0 := cell_of_row _ _ 0 _ _ _ hb4
  have g1 := cell_of_row _ _ 1 _ _ _ hb4
  have g2 := cell_of_row _ _ 2 _ _ _ hb4
  have g3 := cell_of_row _ _ 3 _ _ _ hb4
  dsimp at g0 g1 g2 g3
  refine bodyPost_ret (v := .tuple #[.agg #[.slice ca cn cc, .int .i64 ci, .slice pa' Ps'.length pc', .slice la' Ls'.length lc'], .bool true]) (by simp [results, Tryd.results7, go_sem, g0, g1, g2, g3]) rfl ?_
  refine ⟨((cL, ci), (ca, cc)), Ps', Ls', pa', pc', la', lc', by rw [← HCN.out], _, _, d4, fun k hk => Or.inl (Or.inl hk), fun k hk => ?_, ?_⟩
  · rcases hk with (hk | hk) | hk
    · exact Or.inl hk
    · exact Or.inr (Or.inl hk)
    · have := RB.out.size; exact Or.inr (Or.inr (by omega))
  · refine ((KW.out.trans (K1.out.less fun k hk => Or.inl hk)).trans ((KpU.below_of B2.out (by have := K1.out.b.size; have := RB.out.size; have := HBw.out; omega) (fun k hk => by have := (D0.out.u.lt k hk).2; have := K1.out.b.size; have := RB.out.size; omega)).trans (KpU.below_of B3.out hBs (fun k hk => by have := (D0.out.u.lt k hk).2; have := RB.out.size; omega)))).trans ⟨hBe, fun k hk => hF k (fun e => ?_)⟩
    have := (D0.out.u.lt k hk).2; have := HX.out; have := HY.out; have := HZ.out; omega
end
end Go.Proofs.YtjgffedcbdnddaaDoor
set_option linter.unusedVariables false
set_option linter.unusedSimpArgs false
namespace Go.Proofs.YtjgffedcbdnddaaDoor
open Go.RowKit
section
variable {S Sr Sc : Nat → Prop} {B P : Nat} {xL cL : List Sn} {xi ci M : Int} {xa ca pa la : Option Addr} {xn xc cn cc pn pc ln lc : Nat} {Ps Ls : List LnR} {w : World}
theorem us_setT {Sr : Nat → Prop} {x : ULn} {xr : LnR} {Pu Lu : List ULn} (d : US S B P M x Pu Lu w) (r : RfT Sr w xr Ps Ls pa pc la lc) {X : Nat} {a0 a2 a3 b0 b2 b3 : Option Addr} {m0 m2 m3 n0 n2 n3 k0 k2 k3 j0 j2 j3 : Nat} {i1 j1 : Int} {t : TypeId} (hS : S X) (hr : ¬ Sr X) (hX : w.heap[X]? = some (.cells #[.slice a0 m0 k0, .int .i64 i1, .slice a2 m2 k2, .slice a3 m3 k3] t (0, 0))) {WF : World}
    (hWF : (((w.setCell ⟨X, 0, none⟩ (.slice b0 n0 j0)).setCell ⟨X, 1, none⟩ (.int .i64 j1)).setCell ⟨X, 2, none⟩ (.slice b2 n2 j2)).setCell ⟨X, 3, none⟩ (.slice b3 n3 j3) = WF) : US S B P M x Pu Lu WF ∧ RfT Sr WF xr Ps Ls pa pc la lc ∧ WF.heap[X]? = some (.cells #[.slice b0 n0 j0, .int .i64 j1, .slice b2 n2 j2, .slice b3 n3 j3] t (0, 0)) ∧ (∀ k, k ≠ X → WF.heap[k]? = w.heap[k]?) ∧ WF.heap.size = w.heap.size ∧ Below B w WF := by
  subst hWF
  have h1 := blk_set hX 0 (.slice b0 n0 j0)
  have h2 := blk_set h1 1 (.int .i64 j1)
  have h3 := blk_set h2 2 (.slice b2 n2 j2)
  have h4 := blk_set h3 3 (.slice b3 n3 j3)
  have hs : ((((w.setCell ⟨X, 0, none⟩ (.slice b0 n0 j0)).setCell ⟨X, 1, none⟩ (.int .i64 j1)).setCell ⟨X, 2, none⟩ (.slice b2 n2 j2)).setCell ⟨X, 3, none⟩ (.slice b3 n3 j3)).heap.size = w.heap.size := by simp
  have hF : ∀ k, k ≠ X → ((((w.setCell ⟨X, 0, none⟩ (.slice b0 n0 j0)).setCell ⟨X, 1, none⟩ (.int .i64 j1)).setCell ⟨X, 2, none⟩ (.slice b2 n2 j2)).setCell ⟨X, 3, none⟩ (.slice b3 n3 j3)).heap[k]? = w.heap[k]? := fun k hk => by
    rw [Below.heap_setCell _ _ _ _ hk, Below.heap_setCell _ _ _ _ hk, Below.heap_setCell _ _ _ _ hk, Below.heap_setCell _ _ _ _ hk]
  have hBX : B ≤ X := (d.lt X hS).1
  exact ⟨(((d.setX hS hX (no2_T _ _ _ _ _ _ _ _ _ _) 0 _).setX hS h1 (no2_T _ _ _ _ _ _ _ _ _ _) 1 _).setX hS h2 (no2_T _ _ _ _ _ _ _ _ _ _) 2 _).setX hS h3 (no2_T _ _ _ _ _ _ _ _ _ _) 3 _, r.keep (Nat.le_of_eq hs.symm) (fun k hk => hF k (fun e => hr (e ▸ hk))), h4, hF, hs, (((((Below.refl B w).setCell (p := ⟨X, 0, none⟩) hBX _).setCell (p := ⟨X, 1, none⟩) hBX _).setCell (p := ⟨X, 2, none⟩) hBX _).setCell (p := ⟨X, 3, none⟩) hBX _)⟩
set_option maxHeartbeats 8000000 in
theorem does_back_no (d : Ds S Sr B P M ((xL, xi), (xa, xc)) [] Ls pa pc la lc w) (j : Bool) (hxn : xL.length = xn) (hln : Ls.length = ln) :
    Calls Tryd.prog 7 #[.pointer (some ⟨P, 0, none⟩), tV xa xn xc xi pa 0 pc la ln lc, .agg #[.int .i64 1, .slice ca cn cc, .int .i64 ci, .bool j], .int .i64 M] w (DoPo S Sr B P M w) := by
  obtain ⟨W, hW⟩ : ∃ W, ((w.alloc (.cells #[.slice xa xn xc, .int .i64 xi, .slice pa 0 pc, .slice la ln lc] 33)).alloc (.cells #[.int .i64 1, .slice ca cn cc, .int .i64 ci, .bool j] 35)).alloc (.cells #[.slice none 0 0, .int .i64 0, .slice none 0 0, .slice none 0 0] 33) = W := ⟨_, rfl⟩
  obtain ⟨r0, r1, r2, rb⟩ := three_new w _ _ _ _ _ _ hW
  obtain ⟨X, hX⟩ : ∃ X, w.heap.size = X := ⟨_, rfl⟩
  obtain ⟨Y, hY⟩ : ∃ Y, X + 1 = Y := ⟨_, rfl⟩
  obtain ⟨Z, hZ⟩ : ∃ Z, Y + 1 = Z := ⟨_, rfl⟩
  rw [hX] at r0
  rw [hX, hY] at r1
  rw [hX, show X + 2 = Z by omega] at r2
  have hd := d.grow rb
  have hZl := blk_lt r2
  have hBw := d.u.hB
  have sX : grS S w W X := Or.inr ⟨by omega, by omega⟩
  have sY : grS S w W Y := Or.inr ⟨by omega, by omega⟩
  have sZ : grS S w W Z := Or.inr ⟨by omega, by omega⟩
  have nZ : ∀ k, Sr k → k ≠ Z := fun k hk => by have := d.lr k hk; omega
  have kW : KpU B S w W := KpU.below_of rb hBw (fun k hk => (d.u.lt k hk).2)
  have hlen := d.len
  have sx := d.u.sx
  dsimp only at sx
  have RB_ : Hid (Calls Tryd.prog 18 #[.agg #[.slice xa xn xc, .int .i64 xi, .slice pa 0 pc, .slice la ln lc]] W fun e w' => e = .returned (.tuple #[.agg #[.slice xa xn xc, .int .i64 xi, .slice pa 0 pc, .slice la ln lc], .bool false]) ∧ Below W.heap.size W w') := Lib.hid rback_no
  have HXN := Lib.hid hxn
  have HLN := Lib.hid hln
  have R0 := Lib.hid r0; have R1 := Lib.hid r1; have R2 := Lib.hid r2; have RB := Lib.hid rb
  have HX := Lib.hid hX; have HY := Lib.hid hY; have HZ := Lib.hid hZ
  have D := Lib.hid hd; have SX := Lib.hid sX; have SY := Lib.hid sY; have SZ := Lib.hid sZ; have NZ := Lib.hid nZ; have KW := Lib.hid kW
  have HBw := Lib.hid hBw; have HL := Lib.hid hlen; have D0 := Lib.hid d
  have a0 := cell_of_row _ _ 0 _ _ _ R0.out
  have a1 := cell_of_row _ _ 1 _ _ _ R0.out
  have a2 := cell_of_row _ _ 2 _ _ _ R0.out
  have a3 := cell_of_row _ _ 3 _ _ _ R0.out
  have d0 := cell_of_row _ _ 0 _ _ _ R1.out
  have d1 := cell_of_row _ _ 1 _ _ _ R1.out
  have d2 := cell_of_row _ _ 2 _ _ _ R1.out
  have d3 := cell_of_row _ _ 3 _ _ _ R1.out
  have zf := fun i => frozen_of_row _ Z i _ _ R2.out
  have e0 := cell_of_row _ _ 0 _ _ _ R2.out
  have e1 := cell_of_row _ _ 1 _ _ _ R2.out
  have e2 := cell_of_row _ _ 2 _ _ _ R2.out
  have e3 := cell_of_row _ _ 3 _ _ _ R2.out
  dsimp at a0 a1 a2 a3 d0 d1 d2 d3 e0 e1 e2 e3
  clear d hd r0 r1 r2 rb sX sY sZ nZ kW hBw hZl hlen sx hxn hln
  go_enter Tryd.func7, Tryd.ntmps7
  go_upto_region 1 with fail
  try rw [hW]
  clear hW hX hY hZ
  go_upto_region 8 with (go_at_call 18; refine RB_.out.mono ?_; rintro e w1 ⟨rfl, hb1⟩; have B1 := Lib.hid hb1; have R01 := Lib.hid (blk_below R0.out hb1); have R11 := Lib.hid (blk_below R1.out hb1); have R21 := Lib.hid (blk_below R2.out hb1); have a01 := cell_of_row _ _ 0 _ _ _ R01.out; have a11 := cell_of_row _ _ 1 _ _ _ R01.out; have a21 := cell_of_row _ _ 2 _ _ _ R01.out; have a31 := cell_of_row _ _ 3 _ _ _ R01.out; have d01 := cell_of_row _ _ 0 _ _ _ R11.out; have d11 := cell_of_row _ _ 1 _ _ _ R11.out; have d21 := cell_of_row _ _ 2 _ _ _ R11.out; have d31 := cell_of_row _ _ 3 _ _ _ R11.out; have zf1 := fun i => frozen_of_row _ Z i _ _ R21.out; have e01 := cell_of_row _ _ 0 _ _ _ R21.out; have e11 := cell_of_row _ _ 1 _ _ _ R21.out; have e21 := cell_of_row _ _ 2 _ _ _ R21.out; have e31 := cell_of_row _ _ 3 _ _ _ R21.out; dsimp at a01 a11 a21 a31 d01 d11 d21 d31 e01 e11 e21 e31; clear hb1)
  clear a0 a1 a2 a3 d0 d1 d2 d3 zf e0 e1 e2 e3 a01 a11 a21 a31 d01 d11 d21 d31 zf1 e01 e11 e21 e31
  obtain ⟨A, hA⟩ : ∃ A, w1.heap.size = A := ⟨_, rfl⟩
  have bA := below_alloc w1 (.cells #[.slice xa xn xc, .int .i64 xi, .slice pa 0 pc, .slice la ln lc] 33)
  have rA0 := heap_alloc_new w1 (.cells #[.slice xa xn xc, .int .i64 xi, .slice pa 0 pc, .slice la ln lc] 33)
  rw [hA] at rA0
  try rw [hA]
  have HA := Lib.hid hA
  generalize w1.alloc (.cells #[.slice xa xn xc, .int .i64 xi, .slice pa 0 pc, .slice la ln lc] 33) = w2 at *
  have BA := Lib.hid bA
  have hbA := rA0
  have hA2 := blk_lt rA0
  clear bA rA0
  have dB := (D.out.below B1.out).grow BA.out
  have sZA : grS (grS S w W) w1 w2 Z := Or.inl SZ.out
  have sXA : ∀ k, S k → grS (grS S w W) w1 w2 k := fun k hk => Or.inl (Or.inl hk)
  have KA : KpU B S w w2 := by
    have h1 : ∀ k, S k → k < w.heap.size := fun k hk => (D0.out.u.lt k hk).2
    have s1 := RB.out.size; have s2 := B1.out.size; have s3 := BA.out.size; have s4 := HBw.out
    exact (KW.out.trans (KpU.below_of B1.out (by omega) (fun k hk => by have := h1 k hk; omega))).trans (KpU.below_of BA.out (by omega) (fun k hk => by have := h1 k hk; omega))
  have HKA := Lib.hid KA
  have hZne : Z ≠ A := by have := blk_lt R21.out; omega
  have R2w : w2.heap[Z]? = some (.cells #[.slice none 0 0, .int .i64 0, .slice none 0 0, .slice none 0 0] 33 (0, 0)) := blk_below R21.out BA.out
  have R2W := Lib.hid R2w
  have HZA := Lib.hid (show A ≠ Z from fun e => hZne e.symm)
  have SZA := Lib.hid sZA
  have SXA := Lib.hid sXA
  have RAB := Lib.hid hbA
  have a0 := cell_of_row _ _ 0 _ _ _ hbA
  have a1 := cell_of_row _ _ 1 _ _ _ hbA
  have a2 := cell_of_row _ _ 2 _ _ _ hbA
  have a3 := cell_of_row _ _ 3 _ _ _ hbA
  dsimp at a0 a1 a2 a3
  have DB := Lib.hid dB
  have SAA := Lib.hid (show grS (grS S w W) w1 w2 A from Or.inr ⟨by omega, hA2⟩)
  have PB := Lib.hid (uback_us_no (dB.u.below (Below.refl _ w2).drew))
  clear dB sZA sXA hbA KA hZne R2w
  go_region_held3 (fun w' => w'.cell? ⟨A, 0, none⟩ = some (.slice xa xn xc) ∧ w'.cell? ⟨A, 1, none⟩ = some (.int .i64 xi) ∧ w'.cell? ⟨A, 2, none⟩ = some (.slice pa 0 pc) ∧ w'.cell? ⟨A, 3, none⟩ = some (.slice la ln lc)) (first | exact ⟨a0, a1, a2, a3⟩ | exact ⟨f0, f1, f2, f3⟩ | exact ⟨(farT4 HZA.out).trans f0, (farT4 HZA.out).trans f1, (farT4 HZA.out).trans f2, (farT4 HZA.out).trans f3⟩ | go_keep)
    (first | (go_at_call 11
              refine PB.out.mono ?_
              rintro e w3 ⟨rfl, u3, k3⟩
              have U3 := Lib.hid u3
              have K3 := Lib.hid k3
              have hb3 := (k3.s A SAA.out).trans RAB.out
              have hz3 := (k3.s Z SZA.out).trans R2W.out
              have RZ3 := Lib.hid hz3
              have f0 := cell_of_row _ _ 0 _ _ _ hb3
              have f1 := cell_of_row _ _ 1 _ _ _ hb3
              have f2 := cell_of_row _ _ 2 _ _ _ hb3
              have f3 := cell_of_row _ _ 3 _ _ _ hb3
              have k0 := cell_of_row _ _ 0 _ _ _ hz3
              have k1 := cell_of_row _ _ 1 _ _ _ hz3
              have k2 := cell_of_row _ _ 2 _ _ _ hz3
              have k3' := cell_of_row _ _ 3 _ _ _ hz3
              have zf3 := fun i => frozen_of_row _ Z i _ _ hz3
              dsimp at f0 f1 f2 f3 k0 k1 k2 k3'
              clear u3 k3 hb3 hz3))
  go_wp2
  clear a0 a1 a2 a3 f0 f1 f2 f3 k0 k1 k2 k3' zf3
  generalize hWF : World.setCell _ _ _ = WF
  have d3 : Ds (grS (grS S w W) w1 w2) Sr B P M ((xL, xi), (xa, xc)) [] Ls pa pc la lc w3 :=
    ⟨U3.out, (DB.out.r.keep (w' := w2.drew) (Nat.le_refl _) (fun _ _ => rfl)).kept K3.out (fun k hk => (DB.out.sr k hk).2), fun k hk => ⟨Nat.lt_of_lt_of_le (DB.out.sr k hk).1 K3.out.b.size, (DB.out.sr k hk).2⟩⟩
  obtain ⟨d4, hb4, hF, hs4, hBe⟩ := d3.setT (X := Z) SZA.out (fun h => NZ.out Z h rfl) RZ3.out hWF
  have g0 := cell_of_row _ _ 0 _ _ _ hb4
  have g1 := cell_of_row _ _ 1 _ _ _ hb4
  have g2 := cell_of_row _ _ 2 _ _ _ hb4
  have g3 := cell_of_row _ _ 3 _ _ _ hb4
  dsimp at g0 g1 g2 g3
  refine bodyPost_ret (v := .tuple #[.agg #[.slice xa xn xc, .int .i64 xi, .slice pa 0 pc, .slice la ln lc], .bool true]) (by simp [results, Tryd.results7, go_sem, g0, g1, g2, g3]) rfl ?_
  refine ⟨((xL, xi), (xa, xc)), [], Ls, pa, pc, la, lc, by rw [HLN.out, ← HXN.out]; rfl, _, _, d4, SXA.out, fun k hk => Or.inr (Or.inl hk), ?_⟩
  refine ((HKA.out.trans (w1 := w2) (w' := w2.drew) ⟨(Below.refl B w2).drew, fun _ _ => rfl⟩).trans (K3.out.less SXA.out)).trans ⟨hBe, fun k hk => hF k (fun e => ?_)⟩
  have := (D0.out.u.lt k hk).2; have := HX.out; have := HY.out; have := HZ.out; omega
set_option maxHeartbeats 8000000 in
theorem does_back_yes {r : LnR} {n rn p : Nat} (d : Ds S Sr B P M ((xL, xi), (xa, xc)) (Ps ++ [r]) Ls pa pc la lc w) (j : Bool) (hxn : xL.length = xn) (hpn : Ps.length = n) (hln : Ls.length = ln) (hrn : r.1.1.length = rn) (hpp : n + 1 = p) :
    Calls Tryd.prog 7 #[.pointer (some ⟨P, 0, none⟩), tV xa xn xc xi pa p pc la ln lc, .agg #[.int .i64 1, .slice ca cn cc, .int .i64 ci, .bool j], .int .i64 M] w (DoPo S Sr B P M w) := by
  obtain ⟨W, hW⟩ : ∃ W, ((w.alloc (.cells #[.slice xa xn xc, .int .i64 xi, .slice pa p pc, .slice la ln lc] 33)).alloc (.cells #[.int .i64 1, .slice ca cn cc, .int .i64 ci, .bool j] 35)).alloc (.cells #[.slice none 0 0, .int .i64 0, .slice none 0 0, .slice none 0 0] 33) = W := ⟨_, rfl⟩
  obtain ⟨r0, r1, r2, rb⟩ := three_new w _ _ _ _ _ _ hW
  obtain ⟨X, hX⟩ : ∃ X, w.heap.size = X := ⟨_, rfl⟩
  obtain ⟨Y, hY⟩ : ∃ Y, X + 1 = Y := ⟨_, rfl⟩
  obtain ⟨Z, hZ⟩ : ∃ Z, Y + 1 = Z := ⟨_, rfl⟩
  rw [hX] at r0
  rw [hX, hY] at r1
  rw [hX, show X + 2 = Z by omega] at r2
  have hd := d.grow rb
  have hZl := blk_lt r2
  have hBw := d.u.hB
  have sX : grS S w W X := Or.inr ⟨by omega, by omega⟩
  have sY : grS S w W Y := Or.inr ⟨by omega, by omega⟩
  have sZ : grS S w W Z := Or.inr ⟨by omega, by omega⟩
  have nZ : ∀ k, Sr k → k ≠ Z := fun k hk => by have := d.lr k hk; omega
  have kW : KpU B S w W := KpU.below_of rb hBw (fun k hk => (d.u.lt k hk).2)
  have hlen := d.len
  have sx := d.u.sx
  dsimp only at sx
  obtain ⟨⟨rL, ri⟩, ⟨ra, rc⟩⟩ := r
  dsimp only at hrn
  simp only [List.length_append, List.length_singleton] at hlen
  have RB_ : Hid (Calls Tryd.prog 18 #[.agg #[.slice xa xn xc, .int .i64 xi, .slice pa p pc, .slice la ln lc]] W fun e w' => ∃ la' lc', e = .returned (.tuple #[.agg #[.slice ra rn rc, .int .i64 ri, .slice pa n pc, .slice la' (ln + 1) lc'], .bool true]) ∧ LnsR (fun k => Sr k ∨ (W.heap.size ≤ k ∧ k < w'.heap.size)) w' pa pc Ps ∧ LnsR (fun k => Sr k ∨ (W.heap.size ≤ k ∧ k < w'.heap.size)) w' la' lc' (Ls ++ [((xL, xi), (xa, xc))]) ∧ Below W.heap.size W w') := Lib.hid (rback_yes (r := ((rL, ri), (ra, rc))) hd.r.x hd.r.p hd.r.l hpn hln hd.lr hxn hrn (by omega) (by omega) hpp)
  have RR := Lib.hid (hd.r.p.sg ((rL, ri), (ra, rc)) (List.mem_append_right _ (List.mem_singleton_self _)))
  dsimp only at RR
  have HRN := Lib.hid hrn
  have HXN := Lib.hid hxn
  have HPN := Lib.hid hpn
  have HLN := Lib.hid hln
  have R0 := Lib.hid r0; have R1 := Lib.hid r1; have R2 := Lib.hid r2; have RB := Lib.hid rb
  have HX := Lib.hid hX; have HY := Lib.hid hY; have HZ := Lib.hid hZ
  have D := Lib.hid hd; have SX := Lib.hid sX; have SY := Lib.hid sY; have SZ := Lib.hid sZ; have NZ := Lib.hid nZ; have KW := Lib.hid kW
  have HBw := Lib.hid hBw; have HL := Lib.hid hlen; have D0 := Lib.hid d
  have a0 := cell_of_row _ _ 0 _ _ _ R0.out
  have a1 := cell_of_row _ _ 1 _ _ _ R0.out
  have a2 := cell_of_row _ _ 2 _ _ _ R0.out
  have a3 := cell_of_row _ _ 3 _ _ _ R0.out
  have d0 := cell_of_row _ _ 0 _ _ _ R1.out
  have d1 := cell_of_row _ _ 1 _ _ _ R1.out
  have d2 := cell_of_row _ _ 2 _ _ _ R1.out
  have d3 := cell_of_row _ _ 3 _ _ _ R1.out
  have zf := fun i => frozen_of_row _ Z i _ _ R2.out
  have e0 := cell_of_row _ _ 0 _ _ _ R2.out
  have e1 := cell_of_row _ _ 1 _ _ _ R2.out
  have e2 := cell_of_row _ _ 2 _ _ _ R2.out
  have e3 := cell_of_row _ _ 3 _ _ _ R2.out
  dsimp at a0 a1 a2 a3 d0 d1 d2 d3 e0 e1 e2 e3
  clear d hd r0 r1 r2 rb sX sY sZ nZ kW hBw hZl hlen sx hxn hpn hln hrn hpp
  go_enter Tryd.func7, Tryd.ntmps7
  go_upto_region 1 with fail
  try rw [hW]
  clear hW hX hY hZ
  go_upto_region 8 with (go_at_call 18; refine RB_.out.mono ?_; rintro e w1 ⟨la', lc', rfl, hp', hl', hb1⟩; have HP' := Lib.hid hp'; have HL' := Lib.hid hl'; have B1 := Lib.hid hb1; have R01 := Lib.hid (blk_below R0.out hb1); have R11 := Lib.hid (blk_below R1.out hb1); have R21 := Lib.hid (blk_below R2.out hb1); have a01 := cell_of_row _ _ 0 _ _ _ R01.out; have a11 := cell_of_row _ _ 1 _ _ _ R01.out; have a21 := cell_of_row _ _ 2 _ _ _ R01.out; have a31 := cell_of_row _ _ 3 _ _ _ R01.out; have d01 := cell_of_row _ _ 0 _ _ _ R11.out; have d11 := cell_of_row _ _ 1 _ _ _ R11.out; have d21 := cell_of_row _ _ 2 _ _ _ R11.out; have d31 := cell_of_row _ _ 3 _ _ _ R11.out; have zf1 := fun i => frozen_of_row _ Z i _ _ R21.out; have e01 := cell_of_row _ _ 0 _ _ _ R21.out; have e11 := cell_of_row _ _ 1 _ _ _ R21.out; have e21 := cell_of_row _ _ 2 _ _ _ R21.out; have e31 := cell_of_row _ _ 3 _ _ _ R21.out; dsimp at a01 a11 a21 a31 d01 d11 d21 d31 e01 e11 e21 e31; clear hp' hl' hb1)
  clear a0 a1 a2 a3 d0 d1 d2 d3 zf e0 e1 e2 e3 a01 a11 a21 a31 d01 d11 d21 d31 zf1 e01 e11 e21 e31
  obtain ⟨A, hA⟩ : ∃ A, w1.heap.size = A := ⟨_, rfl⟩
  have bA := below_alloc w1 (.cells #[.slice ra rn rc, .int .i64 ri, .slice pa n pc, .slice la' (ln + 1) lc'] 33)
  have rA0 := heap_alloc_new w1 (.cells #[.slice ra rn rc, .int .i64 ri, .slice pa n pc, .slice la' (ln + 1) lc'] 33)
  rw [hA] at rA0
  try rw [hA]
  have HA := Lib.hid hA
  generalize w1.alloc (.cells #[.slice ra rn rc, .int .i64 ri, .slice pa n pc, .slice la' (ln + 1) lc'] 33) = w2 at *
  have BA := Lib.hid bA
  have hbA := rA0
  have hA2 := blk_lt rA0
  clear bA rA0
  have uB : US (grS (grS (grS S w W) W w1) w1 w2) B P M (xL, xi) ((Ps ++ [((rL, ri), (ra, rc))]).map (·.1)) (Ls.map (·.1)) w2 := (D.out.u.grow B1.out (fun k hk => hk)).grow BA.out (fun k hk => hk)
  have rB : RfT (fun k => Sr k ∨ (W.heap.size ≤ k ∧ k < w1.heap.size)) w2 ((rL, ri), (ra, rc)) Ps (Ls ++ [((xL, xi), (xa, xc))]) pa pc la' lc' := by
    have h1 : ∀ k, (Sr k ∨ (W.heap.size ≤ k ∧ k < w1.heap.size)) → k < w1.heap.size := fun k hk => by
      have := B1.out.size; have := RB.out.size
      rcases hk with hk | hk
      · have := D0.out.lr k hk; omega
      · omega
    have h2 : RfT (fun k => Sr k ∨ (W.heap.size ≤ k ∧ k < w1.heap.size)) w1 ((rL, ri), (ra, rc)) Ps (Ls ++ [((xL, xi), (xa, xc))]) pa pc la' lc' := ⟨(RR.out.below B1.out).mono fun k hk => Or.inl hk, HP'.out, HL'.out⟩
    exact h2.keep BA.out.size (fun k hk => BA.out.block k (h1 k hk))
  have srB : ∀ k, (Sr k ∨ (W.heap.size ≤ k ∧ k < w1.heap.size)) → k < w2.heap.size ∧ (k < B ∨ grS (grS (grS S w W) W w1) w1 w2 k) := fun k hk => by
    have := B1.out.size; have := RB.out.size; have := BA.out.size
    rcases hk with hk | hk
    · have h1 := D.out.sr k hk
      exact ⟨by have := D0.out.lr k hk; omega, h1.2.imp id fun h => Or.inl (Or.inl h)⟩
    · exact ⟨by omega, Or.inr (Or.inl (Or.inr hk))⟩
  have sZA : grS (grS (grS S w W) W w1) w1 w2 Z := Or.inl (Or.inl SZ.out)
  have sXA : ∀ k, S k → grS (grS (grS S w W) W w1) w1 w2 k := fun k hk => Or.inl (Or.inl (Or.inl hk))
  have hZ2 := blk_lt R2.out
  have nZA : ¬ (Sr Z ∨ (W.heap.size ≤ Z ∧ Z < w1.heap.size)) := fun h => by
    rcases h with h | h
    · exact NZ.out Z h rfl
    · omega
  have KA : KpU B S w w2 := by
    have h1 : ∀ k, S k → k < w.heap.size := fun k hk => (D0.out.u.lt k hk).2
    have s1 := RB.out.size; have s2 := B1.out.size; have s3 := BA.out.size; have s4 := HBw.out
    exact (KW.out.trans (KpU.below_of B1.out (by omega) (fun k hk => by have := h1 k hk; omega))).trans (KpU.below_of BA.out (by omega) (fun k hk => by have := h1 k hk; omega))
  have HKA := Lib.hid KA
  have hZne : Z ≠ A := by have := blk_lt R21.out; omega
  have R2w : w2.heap[Z]? = some (.cells #[.slice none 0 0, .int .i64 0, .slice none 0 0, .slice none 0 0] 33 (0, 0)) := blk_below R21.out BA.out
  have R2W := Lib.hid R2w
  have HZA := Lib.hid (show A ≠ Z from fun e => hZne e.symm)
  have SZA := Lib.hid sZA
  have SXA := Lib.hid sXA
  have RAB := Lib.hid hbA
  have a0 := cell_of_row _ _ 0 _ _ _ hbA
  have a1 := cell_of_row _ _ 1 _ _ _ hbA
  have a2 := cell_of_row _ _ 2 _ _ _ hbA
  have a3 := cell_of_row _ _ 3 _ _ _ hbA
  dsimp at a0 a1 a2 a3
  have RBh := Lib.hid rB
  have SRB := Lib.hid srB
  have NZA := Lib.hid nZA
  have SAA := Lib.hid (show grS (grS (grS S w W) W w1) w1 w2 A from Or.inr ⟨by omega, hA2⟩)
  have uC := uB.below (Below.refl _ w2).drew
  rw [List.map_append, List.map_cons, List.map_nil] at uC
  have PB := Lib.hid (uback_us uC)
  clear uB uC rB srB nZA sZA sXA hbA KA hZne R2w hZ2
  go_region_held3 (fun w' => w'.cell? ⟨A, 0, none⟩ = some (.slice ra rn rc) ∧ w'.cell? ⟨A, 1, none⟩ = some (.int .i64 ri) ∧ w'.cell? ⟨A, 2, none⟩ = some (.slice pa n pc) ∧ w'.cell? ⟨A, 3, none⟩ = some (.slice la' (ln + 1) lc')) (first | exact ⟨a0, a1, a2, a3⟩ | exact ⟨f0, f1, f2, f3⟩ | exact ⟨(farT4 HZA.out).trans f0, (farT4 HZA.out).trans f1, (farT4 HZA.out).trans f2, (farT4 HZA.out).trans f3⟩ | go_keep)
    (first | (go_at_call 11
              refine PB.out.mono ?_
              rintro e w3 ⟨rfl, u3, k3⟩
              have U3 := Lib.hid u3
              have K3 := Lib.hid k3
              have hb3 := (k3.s A SAA.out).trans RAB.out
              have hz3 := (k3.s Z SZA.out).trans R2W.out
              have RZ3 := Lib.hid hz3
              have f0 := cell_of_row _ _ 0 _ _ _ hb3
              have f1 := cell_of_row _ _ 1 _ _ _ hb3
              have f2 := cell_of_row _ _ 2 _ _ _ hb3
              have f3 := cell_of_row _ _ 3 _ _ _ hb3
              have k0 := cell_of_row _ _ 0 _ _ _ hz3
              have k1 := cell_of_row _ _ 1 _ _ _ hz3
              have k2 := cell_of_row _ _ 2 _ _ _ hz3
              have k3' := cell_of_row _ _ 3 _ _ _ hz3
              have zf3 := fun i => frozen_of_row _ Z i _ _ hz3
              dsimp at f0 f1 f2 f3 k0 k1 k2 k3'
              clear u3 k3 hb3 hz3))
  go_wp2
  clear a0 a1 a2 a3 f0 f1 f2 f3 k0 k1 k2 k3' zf3
  generalize hWF : World.setCell _ _ _ = WF
  have d3 : Ds (grS (grS (grS S w W) W w1) w1 w2) (fun k => Sr k ∨ (W.heap.size ≤ k ∧ k < w1.heap.size)) B P M ((rL, ri), (ra, rc)) Ps (Ls ++ [((xL, xi), (xa, xc))]) pa pc la' lc' w3 :=
    ⟨by have := U3.out; rw [List.map_append]; exact this, (RBh.out.keep (w' := w2.drew) (Nat.le_refl _) (fun _ _ => rfl)).kept K3.out (fun k hk => (SRB.out k hk).2), fun k hk => ⟨Nat.lt_of_lt_of_le (SRB.out k hk).1 K3.out.b.size, (SRB.out k hk).2⟩⟩
  obtain ⟨d4, hb4, hF, hs4, hBe⟩ := d3.setT (X := Z) SZA.out NZA.out RZ3.out hWF
  have g0 := cell_of_row _ _ 0 _ _ _ hb4
  have g1 := cell_of_row _ _ 1 _ _ _ hb4
  have g2 := cell_of_row _ _ 2 _ _ _ hb4
  have g3 := cell_of_row _ _ 3 _ _ _ hb4
  dsimp at g0 g1 g2 g3
  refine bodyPost_ret (v := .tuple #[.agg #[.slice ra rn rc, .int .i64 ri, .slice pa n pc, .slice la' (ln + 1) lc'], .bool true]) (by simp [results, Tryd.results7, go_sem, g0, g1, g2, g3]) rfl ?_
  refine ⟨((rL, ri), (ra, rc)), Ps, (Ls ++ [((xL, xi), (xa, xc))]), pa, pc, la', lc', by rw [List.length_append, HPN.out, HLN.out, ← HRN.out]; rfl, _, _, d4, SXA.out, fun k hk => ?_, ?_⟩
  · rcases hk with hk | hk
    · exact Or.inr (Or.inl hk)
    · have := RB.out.size; exact Or.inr (Or.inr (by omega))
  refine ((HKA.out.trans (w1 := w2) (w' := w2.drew) ⟨(Below.refl B w2).drew, fun _ _ => rfl⟩).trans (K3.out.less SXA.out)).trans ⟨hBe, fun k hk => hF k (fun e => ?_)⟩
  have := (D0.out.u.lt k hk).2; have := HX.out; have := HY.out; have := HZ.out; omega
end
end Go.Proofs.YtjgffedcbdnddaaDoor
